/-
  strings.ContainsAny of one byte, whatever it is, among blank and tab.
-/
import Derived.Laws.RangeAny
import Derived.Test.YtkffdhdhjfbhjaaDoorHName
namespace Go.Proofs.YtkffdhdhjfbhjaaDoor
set_option linter.unusedSimpArgs false
set_option linter.unusedVariables false
open Go Go.RowKit Go.Shelf
set_option maxRecDepth 100000

def blB : ByteArray := { data := #[32, 9] }
theorem bl_ascii (i : Nat) (h : i < blB.size) : (blB[i]'h).toNat < 128 ∧ (blB[i]'h).toNat ≠ 65533 := by
  have h2 : i < 2 := h
  have a0 : (blB[0]'(by decide)).toNat < 128 ∧ (blB[0]'(by decide)).toNat ≠ 65533 := by decide
  have a1 : (blB[1]'(by decide)).toNat < 128 ∧ (blB[1]'(by decide)).toNat ≠ 65533 := by decide
  rcases (show i = 0 ∨ i = 1 by omega) with rfl | rfl
  · exact a0
  · exact a1

theorem below_iter {n : Nat} {w w' : World} (h : Below n w w') (hn : n ≤ w'.heap.size) (s : ByteArray) (k : Nat) : Below n w (w'.iter s k) := h.alloc hn _

set_option maxHeartbeats 2000000 in
/-- No rune that is none. -/
theorem rune_bad (w : World) : Calls Tryd.prog 83 #[.string blB, .int .i32 65533] w fun e w' => e = .returned (.int .i64 (-1)) ∧ Below w.heap.size w w' := by
  have hsz : blB.size = 2 := rfl
  go_enter Tryd.func83, Tryd.ntmps83
  go_wp2_with fail
  go_loopg [5, 6] 2 (fun g _ _ wx => ∃ i : Nat, i + g = 2 ∧ wx = w.iter blB i)
  case atStart => exact ⟨0, by omega, rfl⟩
  case round =>
    obtain ⟨i, hig, rfl⟩ := hrel
    cases gk with
    | zero =>
      obtain rfl : i = 2 := by omega
      have hnx := fun ty => run_next_end (P := Tryd.prog) w blB 2 ty (by decide)
      go_wp2_with fail
      go_ret
      exact ⟨rfl, below_iter (Below.refl _ _) (Nat.le_refl _) _ _⟩
    | succ g =>
      have hi : i < blB.size := by omega
      obtain ⟨h1, h2⟩ := bl_ascii i hi
      have hnx := fun ty => run_next_ascii (P := Tryd.prog) w blB i ty hi h1
      obtain ⟨x, hx⟩ : ∃ x, (blB[i]'hi).toNat = x := ⟨_, rfl⟩
      rw [hx] at hnx h1 h2
      have hne : ((x : Int) == 65533) = false := by rw [beq_eq_false_iff_ne]; omega
      clear hx
      go_wp2_with fail
      go_roundg g
      case measure => omega
      case rel => exact ⟨i + 1, by omega, rfl⟩

theorem decode_one {c : UInt8} (h : 128 ≤ c.toNat) : Utf8.decode (str [c]) 0 = (65533, 1) := by
  have e : ((str [c]).get! 0).toNat = c.toNat := by rfl
  have hs : (str [c]).size = 1 := rfl
  unfold Utf8.decode
  simp only [Nat.zero_add, e, hs]
  have h1 : ¬ c.toNat < 128 := by omega
  simp [h1, Utf8.runeError]

set_option maxHeartbeats 2000000 in
theorem any_high (c : UInt8) (w : World) (hc : 128 ≤ c.toNat) : Calls Tryd.prog 79 #[sv [c], .string blB] w fun e w' => e = .returned (.int .i64 (-1)) ∧ Below w.heap.size w w' := by
  have hsz : blB.size = 2 := rfl
  have hemp : blB.toList.isEmpty = false := by rw [Lib.toList_data]; rfl
  have hs1 : (str [c]).size = 1 := rfl
  have HD := Lib.hid (decode_one hc)
  go_enter Tryd.func79, Tryd.ntmps79
  go_wp2_with (go_at_call 85; refine (Tryd.strings_shouldUseASCIISet _ _).mono ?_; rintro e w' ⟨rfl, hw⟩; obtain rfl := hw.symm)
  go_loopg [9, 10] 1 (fun g _ _ wx => (g = 1 ∧ wx = w.iter (str [c]) 0) ∨ (g = 0 ∧ Below (w.heap.size + 1) (w.iter (str [c]) 1) wx))
  case atStart => exact .inl ⟨rfl, rfl⟩
  case round =>
    rcases hrel with ⟨hg, rfl⟩ | ⟨hg, hb⟩
    · cases gk with
      | zero => omega
      | succ g =>
        obtain rfl : g = 0 := by omega
        have hnx := fun ty => run_next_any (P := Tryd.prog) w (str [c]) 0 ty (by rw [hs1]; omega)
        rw [HD.out] at hnx
        dsimp only at hnx
        go_wp2_with (go_at_call 83; refine (rune_bad _).mono ?_; rintro e w' ⟨rfl, hw⟩)
        have HW := Lib.hid hw
        clear hw
        go_wp2_with fail
        go_roundg 0
        case measure => omega
        case rel => exact .inr ⟨rfl, by have := HW.out; simpa [World.iter] using this⟩
    · subst hg
      have hk : wr.heap[w.heap.size]? = some (.stringIter (str [c]) 1) := (hb.block _ (by omega)).trans (World.iter_heap _ _ _)
      have hnx := fun ty => Lib.run_next_end_at (P := Tryd.prog) wr w.heap.size (str [c]) 1 ty hk (by rw [hs1]; omega)
      have HB := Lib.hid hb
      clear hb hk
      go_wp2_with fail
      go_ret
      refine ⟨rfl, ?_⟩
      exact (below_iter (Below.refl _ _) (Nat.le_refl _) (str [c]) 1).trans (HB.out.mono (by omega))

theorem on_any (c : UInt8) (w : World) : Calls Tryd.prog 71 #[sv [c], .string { data := #[32, 9] }] w fun e w' => e = .returned (.bool (onB c)) ∧ Below w.heap.size w w' := by
  by_cases hc : c.toNat < 128
  · have := Tryd.strings_ContainsAny_laid (str [c]) { data := #[32, 9] } w (show 1 < 4294967281 by decide) (by decide) (fun j b hb => by
      have : j = 0 ∧ c = b := by
        cases j with
        | zero => exact ⟨rfl, by simpa using hb⟩
        | succ j => simp at hb
      rw [← this.2]; exact hc) (ascii_of_all (by decide))
    have e : Lib.containsAny (str [c]).data.toList ({ data := #[32, 9] } : ByteArray).data.toList = onB c := by
      show Lib.containsAny [c] [32, 9] = onB c
      unfold Lib.containsAny Lib.indexAny
      rw [onB_has]
      cases onB c <;> rfl
    rw [e] at this
    exact this
  · have e : onB c = false := by
      unfold onB
      have h1 : (c == 32) = false := by rw [beq_eq_false_iff_ne]; rintro rfl; exact hc (by decide)
      have h2 : (c == 9) = false := by rw [beq_eq_false_iff_ne]; rintro rfl; exact hc (by decide)
      rw [h1, h2]; rfl
    have HA := Lib.hid (any_high c w (by omega))
    rw [e]
    clear hc e
    go_enter Tryd.func71, Tryd.ntmps71
    go_wp2_with (go_at_call 79; refine HA.out.mono ?_; rintro e w' ⟨rfl, hw⟩)
    go_ret
    exact ⟨rfl, hw⟩
end Go.Proofs.YtkffdhdhjfbhjaaDoor
