/-
  The law's long.
-/
import Derived.Test.YtkffdhdhjfbhjaaDoorHRRest
namespace Go.Proofs.YtkffdhdhjfbhjaaDoor
set_option linter.unusedSimpArgs false
set_option linter.unusedVariables false
open Go Go.RowKit Go.Shelf
set_option maxRecDepth 100000

def sizeP : List FP → Nat
  | [] => 0
  | r :: rs => 5 + r.1.length + r.2.length + sizeP rs
theorem sizeP_append (a b : List FP) : sizeP (a ++ b) = sizeP a + sizeP b := by
  induction a with
  | nil => simp [sizeP]
  | cons r a ih => simp only [List.cons_append, sizeP, ih]; omega
theorem sizeP_take {ps : List FP} {k : Nat} (h : k < ps.length) : sizeP (ps.take (k + 1)) = sizeP (ps.take k) + (5 + (ps.getD k pm0).1.length + (ps.getD k pm0).2.length) := by
  rw [List.take_succ_eq_append_getElem h, sizeP_append, List.getD_eq_getElem?_getD, List.getElem?_eq_getElem h]
  rfl
theorem sizeP_take_le (ps : List FP) (k : Nat) : sizeP (ps.take k) ≤ sizeP ps := by
  have := sizeP_append (ps.take k) (ps.drop k)
  rw [List.take_append_drop] at this
  omega

set_option maxHeartbeats 4000000 in
theorem long_any (ps : List FP) (v : Value) (w : World) (h : PR w v ps) (hl : ps.length ≤ 140737488351232) (hs : ∀ r ∈ ps, r.1.length ≤ 140737488351232 ∧ r.2.length ≤ 140737488351232) :
    Calls Tryd.prog 28 #[v] w fun e w' => ∃ b, e = .returned (.bool b) ∧ Below w.heap.size w w' ∧ (b = false → sizeP ps < 5000) := by
  have HX := Lib.hid h
  have HS := Lib.hid hs
  obtain ⟨A, c, rfl⟩ := h.form
  clear h hs
  have HB := Lib.hid (Below.refl w.heap.size w)
  go_enter Tryd.func28, Tryd.ntmps28
  go_wp2_with fail
  go_loopw [3, 4] (fun n i wr => ∃ k : Nat, k ≤ ps.length ∧ i = .int .i64 k ∧ n = .int .i64 (sizeP (ps.take k) : Nat) ∧ sizeP (ps.take k) < 1000000000000000 ∧ Below w.heap.size w wr) (fun _ i _ => ps.length - (intOf i).toNat)
  case atStart => exact ⟨0, Nat.zero_le _, rfl, rfl, by simp [sizeP], HB.out⟩
  case round =>
    obtain ⟨k, hk, rfl, rfl, hsm, hbl⟩ := hrel
    have HL := Lib.hid hbl
    clear hbl
    by_cases hlt : k < ps.length
    · have hk1 : (0 : Int) ≤ (k : Int) := by omega
      have hk2 : (k : Int) < (ps.length : Int) := by omega
      by_cases h5 : sizeP (ps.take k) < 5000
      · obtain ⟨g, o, rfl, hg, a0, a1⟩ := PR.at (HX.out.step HL.out) hlt
        have hm : ps.getD k pm0 ∈ ps := by rw [List.getD_eq_getElem?_getD, List.getElem?_eq_getElem hlt]; exact List.getElem_mem hlt
        obtain ⟨s1, s2⟩ := HS.out _ hm
        have hst := Lib.hid (sizeP_take hlt)
        obtain ⟨p, hp⟩ : ∃ p, p = ps.getD k pm0 := ⟨_, rfl⟩
        obtain ⟨z, hz⟩ : ∃ z, z = sizeP (ps.take k) := ⟨_, rfl⟩
        rw [← hp] at a0 a1 s1 s2 hst
        rw [← hz] at hsm h5 hst
        rw [← hz]
        obtain ⟨n, x⟩ := p
        dsimp only at a0 a1 s1 s2 hst
        clear hp hz hm
        have h5i : (z : Int) < 5000 := by omega
        go_wp2_with fail
        go_quiet (fail)
        go_wp2_with fail
        go_roundw
        case rel => exact ⟨k + 1, by omega, by go_num, by rw [hst.out]; go_num, by rw [hst.out]; omega, below_drewN HL.out _⟩
        case measure => simp [intOf]; omega
      · have h5i : ¬ ((sizeP (ps.take k) : Nat) : Int) < 5000 := by omega
        have h5j : (5000 : Int) ≤ ((sizeP (ps.take k) : Nat) : Int) := by omega
        go_wp2_with fail
        go_ret
        exact .inr ⟨rfl, HL.out⟩
    · obtain rfl : k = ps.length := by omega
      have hk2 : ¬ ((ps.length : Nat) : Int) < (ps.length : Int) := by omega
      rw [List.take_length] at hsm ⊢
      by_cases h5 : sizeP ps < 5000
      · have h5j : ¬ (5000 : Int) ≤ ((sizeP ps : Nat) : Int) := by omega
        go_wp2_with fail
        go_ret
        exact ⟨.inl rfl, HL.out⟩
      · have h5j : (5000 : Int) ≤ ((sizeP ps : Nat) : Int) := by omega
        go_wp2_with fail
        go_ret
        exact ⟨rfl, HL.out⟩
end Go.Proofs.YtkffdhdhjfbhjaaDoor
