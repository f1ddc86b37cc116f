/-
  The contracts of package head's small, Like, isName; of the reference's lower, Like, blank.
-/
import Derived.Deep.QuietTactic
import Derived.BigQuiet
import Derived.WalkMore
import Derived.ScopeJumps
import Derived.Test.YtkffdhdhjfbhjaaDoorHPure
namespace Go.Proofs.YtkffdhdhjfbhjaaDoor
set_option linter.unusedSimpArgs false
set_option linter.unusedVariables false
open Go Go.RowKit
set_option maxRecDepth 100000

theorem below_drewN {n : Nat} {w w' : World} (h : Below n w w') (k : Nat) : Below n w (w'.drewN k) := ⟨h.os, h.tape, h.output, h.size, h.block⟩

theorem smallB_great {b : UInt8} {c : Nat} (hc : b.toNat = c) (h1 : 65 ≤ c) (h2 : c ≤ 90) : (smallB b).toNat = c + 32 := by
  unfold smallB
  rw [if_pos (by rw [UInt8.le_iff_toNat_le, UInt8.le_iff_toNat_le, hc]; exact ⟨h1, h2⟩), UInt8.toNat_add, hc]
  exact Nat.mod_eq_of_lt (show c + 32 < 256 by omega)
theorem smallB_other {b : UInt8} {c : Nat} (hc : b.toNat = c) (h : c < 65 ∨ 90 < c) : (smallB b).toNat = c := by
  unfold smallB
  rw [if_neg (by rw [UInt8.le_iff_toNat_le, UInt8.le_iff_toNat_le, hc]; show ¬ (65 ≤ c ∧ c ≤ 90); omega), hc]

set_option maxHeartbeats 1000000 in
theorem small_any (b : UInt8) (w : World) : Calls Tryd.prog 38 #[.int .u8 (b.toNat : Int)] w fun e w' => e = .returned (.int .u8 ((smallB b).toNat : Int)) ∧ w = w' := by
  obtain ⟨c, hc⟩ : ∃ c, b.toNat = c := ⟨_, rfl⟩
  have hlt : c < 256 := by rw [← hc]; exact b.toNat_lt
  rw [hc]
  by_cases h1 : 65 ≤ c
  · by_cases h2 : c ≤ 90
    · rw [smallB_great hc h1 h2]
      clear hc
      go_enter Tryd.func38, Tryd.ntmps38
      go_wp2_with fail
      go_ret
      refine ⟨?_, rfl⟩
      congr 2
      simp
      omega
    · rw [smallB_other hc (by omega)]
      clear hc
      go_enter Tryd.func38, Tryd.ntmps38
      go_wp2_with fail
      go_ret
      exact ⟨rfl, rfl⟩
  · rw [smallB_other hc (by omega)]
    clear hc
    go_enter Tryd.func38, Tryd.ntmps38
    go_wp2_with fail
    go_ret
    exact ⟨rfl, rfl⟩

set_option maxHeartbeats 1000000 in
theorem lower_any (b : UInt8) (w : World) : Calls Tryd.prog 45 #[.int .u8 (b.toNat : Int)] w fun e w' => e = .returned (.int .u8 ((smallB b).toNat : Int)) ∧ w = w' := by
  obtain ⟨c, hc⟩ : ∃ c, b.toNat = c := ⟨_, rfl⟩
  have hlt : c < 256 := by rw [← hc]; exact b.toNat_lt
  rw [hc]
  by_cases h1 : 65 ≤ c
  · by_cases h2 : c ≤ 90
    · rw [smallB_great hc h1 h2]
      clear hc
      go_enter Tryd.func45, Tryd.ntmps45
      go_wp2_with fail
      go_ret
      refine ⟨?_, rfl⟩
      congr 2
    · rw [smallB_other hc (by omega)]
      clear hc
      go_enter Tryd.func45, Tryd.ntmps45
      go_wp2_with fail
      go_ret
      exact ⟨rfl, rfl⟩
  · rw [smallB_other hc (by omega)]
    clear hc
    go_enter Tryd.func45, Tryd.ntmps45
    go_wp2_with fail
    go_ret
    exact ⟨rfl, rfl⟩

theorem like_next {a b : List UInt8} {k : Nat} (h : (a.take k).map smallB = (b.take k).map smallB) (h1 : k < a.length) (h2 : k < b.length) (he : smallB (a.getD k 0) = smallB (b.getD k 0)) : (a.take (k + 1)).map smallB = (b.take (k + 1)).map smallB := by
  rw [List.take_succ_eq_append_getElem h1, List.take_succ_eq_append_getElem h2, List.map_append, List.map_append, h]
  rw [getD_str a k h1, getD_str b k h2] at he
  simp [he]
theorem like_no {a b : List UInt8} {k : Nat} (h1 : k < a.length) (h2 : k < b.length) (he : smallB (a.getD k 0) ≠ smallB (b.getD k 0)) : likeB a b = false := by
  unfold likeB
  rw [beq_eq_false_iff_ne]
  intro h
  apply he
  have := congrArg (fun l => l[k]?) h
  simp only [List.getElem?_map, List.getElem?_eq_getElem h1, List.getElem?_eq_getElem h2, Option.map_some, Option.some.injEq] at this
  rw [getD_str a k h1, getD_str b k h2]; exact this
theorem like_len {a b : List UInt8} (h : a.length ≠ b.length) : likeB a b = false := by
  unfold likeB
  rw [beq_eq_false_iff_ne]
  intro e
  apply h
  simpa using congrArg List.length e
theorem like_yes {a b : List UInt8} {k : Nat} (h : (a.take k).map smallB = (b.take k).map smallB) (h1 : a.length ≤ k) (h2 : b.length ≤ k) : likeB a b = true := by
  rw [List.take_of_length_le h1, List.take_of_length_le h2] at h
  unfold likeB
  rw [h]; simp
end Go.Proofs.YtkffdhdhjfbhjaaDoor
