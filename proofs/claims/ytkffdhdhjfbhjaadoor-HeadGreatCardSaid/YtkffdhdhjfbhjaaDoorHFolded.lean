/-
  The law's folded: a line with some of its blanks folded.
-/
import Derived.Test.YtkffdhdhjfbhjaaDoorHLong
import Derived.Test.YtkffdhdhjfbhjaaDoorHPureB
namespace Go.Proofs.YtkffdhdhjfbhjaaDoor
set_option linter.unusedSimpArgs false
set_option linter.unusedVariables false
open Go Go.RowKit Go.Shelf
set_option maxRecDepth 100000

/-- t is p, folded ahead of some blanks, none ahead of place m. -/
def FT (m : Nat) (p t : List UInt8) : Prop :=
  t = p ∨ ∃ (x0 : List UInt8) (B : List (List UInt8)) (l : List UInt8), t = joinL (x0 :: B) ++ l ∧ p = x0 ++ (B.flatten ++ l) ∧ goesB l = true ∧ (∀ x ∈ B, goesB x = true) ∧ m ≤ x0.length
theorem goes_app {l : List UInt8} (h : goesB l = true) (c : UInt8) : goesB (l ++ [c]) = true := by
  cases l with
  | nil => simp [goesB] at h
  | cons x l => exact h
theorem FT.add {m : Nat} {p t : List UInt8} (h : FT m p t) (c : UInt8) : FT m (p ++ [c]) (t ++ [c]) := by
  rcases h with rfl | ⟨x0, B, l, rfl, rfl, h1, h2, h3⟩
  · exact .inl rfl
  · exact .inr ⟨x0, B, l ++ [c], by simp, by simp, goes_app h1 c, h2, h3⟩
theorem FT.fold {m : Nat} {p t : List UInt8} (h : FT m p t) (hm : m ≤ p.length) : FT m (p ++ [32]) ((t ++ [13, 10]) ++ [32]) := by
  rcases h with rfl | ⟨x0, B, l, rfl, rfl, h1, h2, h3⟩
  · exact .inr ⟨t, [], [32], by simp [joinL], by simp, rfl, (fun x hx => by cases hx), hm⟩
  · refine .inr ⟨x0, B ++ [l], [32], by simp [joinL], by simp, rfl, fun x hx => ?_, h3⟩
    rcases List.mem_append.1 hx with hx | hx
    · exact h2 x hx
    · simp only [List.mem_singleton] at hx
      rw [hx]; exact h1
theorem FT.len {m : Nat} {p t : List UInt8} (h : FT m p t) : t.length ≤ p.length * 3 := by
  rcases h with rfl | ⟨x0, B, l, rfl, rfl, h1, h2, h3⟩
  · omega
  · have hl : 1 ≤ l.length := by
      cases l with
      | nil => simp [goesB] at h1
      | cons x l => simp
    have hB : (joinL B).length ≤ B.flatten.length * 3 := by
      clear h1 h3 hl
      induction B with
      | nil => simp [joinL]
      | cons x B ih =>
        have hx : 1 ≤ x.length := by
          have := h2 x (by simp)
          cases x with
          | nil => simp [goesB] at this
          | cons y x => simp
        have := ih fun y hy => h2 y (by simp [hy])
        rw [joinL_cons]
        simp only [List.length_append, List.length_cons, List.flatten_cons]
        omega
    rw [joinL_cons]
    simp only [List.length_append, List.length_cons]
    omega

theorem take_oneB {s : List UInt8} {k : Nat} (h : k < s.length) : s.take (k + 1) = s.take k ++ [s.getD k 0] := by
  rw [List.take_succ_eq_append_getElem h, List.getD_eq_getElem?_getD, List.getElem?_eq_getElem h]; rfl

set_option maxHeartbeats 8000000 in
theorem folded_any (m : Nat) (s : List UInt8) (a : Int) (w : World) (hs : s.length ≤ 100000) (ha : 0 ≤ a ∧ a < 18446744073709551616)
    (hm : ∀ k, 0 < k → k < s.length → s.getD k 0 = 32 → s.getD (k - 1) 0 ≠ 58 → m ≤ k) :
    Calls Tryd.prog 29 #[sv s, .int .u64 a] w fun e w' => ∃ t, e = .returned (sv t) ∧ FT m s t ∧ Below w.heap.size w w' := by
  have HM := Lib.hid hm
  have HB := Lib.hid (Below.refl w.heap.size w)
  obtain ⟨a0, a1⟩ := ha
  clear hm
  go_enter Tryd.func29, Tryd.ntmps29
  go_wp2_with fail
  go_loopw [5, 6, 7] (fun o n i wr => ∃ (k j : Nat) (t : List UInt8), k ≤ s.length ∧ j ≤ k ∧ i = .int .i64 k ∧ n = .int .i64 j ∧ o = sv t ∧ FT m (s.take k) t ∧ Below w.heap.size w wr) (fun _ _ i _ => s.length - (intOf i).toNat)
  case atStart => exact ⟨0, 0, [], Nat.zero_le _, Nat.le_refl _, rfl, rfl, rfl, .inl rfl, HB.out⟩
  case round =>
    obtain ⟨k, j, t, hk, hj, rfl, rfl, rfl, hft, hbl⟩ := hrel
    have HF := Lib.hid hft
    have HL := Lib.hid hbl
    clear hbl hft
    by_cases hlt : k < s.length
    · have hk1 : (0 : Int) ≤ (k : Int) := by omega
      have hk2 : (k : Int) < (s.length : Int) := by omega
      have htl : t.length ≤ 300000 := by have := HF.out.len; rw [List.length_take] at this; omega
      have hsl := run_part wr s k (k + 1) ((k : Int) + 1) (by omega) (by omega) rfl
      have hone : (s.take (k + 1)).drop k = [s.getD k 0] := by rw [take_oneB hlt, List.drop_append_of_le_length (by rw [List.length_take]; omega), List.drop_of_length_le (by rw [List.length_take]; omega)]; rfl
      rw [hone] at hsl
      have A1 := Lib.hid (show FT m (s.take (k + 1)) (t ++ [s.getD k 0]) by rw [take_oneB hlt]; exact HF.out.add _)
      have hss : (str s).size = s.length := by simp [ByteArray.size]
      have A2 := Lib.hid (show 0 < k → (((str s)[k]'(by omega)).toNat : Int) = 32 → ¬ (((str s)[k - 1]'(by omega)).toNat : Int) = 58 → FT m (s.take (k + 1)) ((t ++ [13, 10]) ++ [s.getD k 0]) from fun h0 h1 h2 => by
        have e1 : s.getD k 0 = 32 := by
          rw [List.getD_eq_getElem?_getD, List.getElem?_eq_getElem hlt]
          exact byte_of h1
        have e2 : s.getD (k - 1) 0 ≠ 58 := by
          rw [List.getD_eq_getElem?_getD, List.getElem?_eq_getElem (by omega)]
          intro e
          apply h2
          rw [show ((str s)[k - 1]'(by omega)) = s[k - 1] from rfl]
          have : s[k - 1] = 58 := e
          rw [this]; rfl
        have := HM.out k h0 hlt e1 e2
        rw [take_oneB hlt, e1]
        exact HF.out.fold (by rw [List.length_take]; omega))
      obtain ⟨z, hz⟩ : ∃ z, z = s.getD k 0 := ⟨_, rfl⟩
      rw [← hz] at hsl A1 A2
      have E1 : str t ++ str [z] = str (t ++ [z]) := by apply ByteArray.ext; simp
      have E2 : str t ++ { data := #[13, 10] } = str (t ++ [13, 10]) := by apply ByteArray.ext; simp
      have E3 : str (t ++ [13, 10]) ++ str [z] = str ((t ++ [13, 10]) ++ [z]) := by apply ByteArray.ext; simp
      have F1 := Lib.hid E1
      have F2 := Lib.hid E2
      have F3 := Lib.hid E3
      clear hone hz E1 E2 E3
      go_wp2_with fail
      all_goals first
        | exact ⟨⟨k + 1, j, t ++ [z], by omega, by omega, by go_num, by go_num, by rw [F1.out], A1.out, HL.out⟩, by simp [intOf]; omega⟩
        | exact ⟨⟨k + 1, j + 1, t ++ [z], by omega, by omega, by go_num, by go_num, by rw [F1.out], A1.out, HL.out⟩, by simp [intOf]; omega⟩
        | exact ⟨⟨k + 1, j + 1, (t ++ [13, 10]) ++ [z], by omega, by omega, by go_num, by go_num, by rw [F2.out, F3.out], A2.out (by omega) (by assumption) (by assumption), HL.out⟩, by simp [intOf]; omega⟩
    · go_wp2_with fail
      go_ret
      exact ⟨_, rfl, by rw [← List.take_of_length_le (show s.length ≤ k by omega)]; exact HF.out, HL.out⟩
end Go.Proofs.YtkffdhdhjfbhjaaDoor
