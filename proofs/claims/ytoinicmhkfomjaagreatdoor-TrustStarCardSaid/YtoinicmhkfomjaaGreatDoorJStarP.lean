/-
  Names with stars, plainly: how many dots they have, whose they are.
-/
import Derived.Test.YtoinicmhkfomjaaGreatDoorJApp
namespace Go.Proofs.YtoinicmhkfomjaaGreatDoor
set_option linter.unusedSimpArgs false
set_option linter.unusedVariables false
open Go Go.RowKit
set_option maxRecDepth 100000

def dotN (s : List UInt8) : Nat := s.countP (· == 46)
theorem dotN_le (s : List UInt8) : dotN s ≤ s.length := List.countP_le_length
theorem dotN_take {s : List UInt8} {k : Nat} (h : k < s.length) : dotN (s.take (k + 1)) = dotN (s.take k) + if s.getD k 0 = 46 then 1 else 0 := by
  unfold dotN
  rw [List.take_succ_eq_append_getElem h, List.countP_append, List.getD_eq_getElem?_getD, List.getElem?_eq_getElem h]
  simp only [List.countP_cons, List.countP_nil, Nat.zero_add, Option.getD_some, beq_iff_eq]
theorem dotN_app (a b : List UInt8) : dotN (a ++ b) = dotN a + dotN b := List.countP_append ..
theorem dotN_none {a : List UInt8} (h : ∀ c ∈ a, c ≠ 46) : dotN a = 0 := by
  unfold dotN
  rw [List.countP_eq_zero]
  intro c hc
  simpa using h c hc
theorem cutD_dots : ∀ (n : Nat) (s : List UInt8), s.length ≤ n → (cutD s).length = dotN s + 1
  | 0, s, h => by
    obtain rfl : s = [] := List.length_eq_zero_iff.1 (by omega)
    rfl
  | n + 1, s, h => by
    rcases dot_cases s with ⟨_, h2, _⟩ | ⟨a, t, rfl, h2, _, _⟩
    · rw [cutD_plain h2, dotN_none h2]; rfl
    · rw [cutD_dot t h2, List.length_cons, cutD_dots n t (by simp at h; omega), dotN_app, dotN_none h2]
      simp [dotN]
theorem star_form {s : List UInt8} (h : starred s = true) : s = 42 :: 46 :: s.drop 2 := by
  unfold starred at h
  rw [List.isPrefixOf_iff_prefix] at h
  obtain ⟨t, rfl⟩ := h
  rfl
theorem starred_iff (s : List UInt8) : starred s = (decide (1 < s.length) && (s.take 2 == [42, 46])) := by
  match s with
  | [] => rfl
  | [_] => simp [starred, List.isPrefixOf]
  | a :: b :: t =>
    simp [starred, List.isPrefixOf]
    rw [BEq.comm (a := (42 : UInt8)), BEq.comm (a := (46 : UInt8))]
theorem star_dots {s host : List UInt8} (h : starred s = true) (ho : ownsB host s = true) : dotN s = dotN host ∧ 2 ≤ dotN s := by
  unfold ownsB countsB at ho
  rw [h, match_starred h] at ho
  simp only [Bool.not_true, Bool.false_or, Bool.and_eq_true, decide_eq_true_eq, beq_iff_eq] at ho
  obtain ⟨h1, h2⟩ := ho
  obtain ⟨_, a, ha, rfl⟩ := parent_some.1 h2
  have h3 : (labelsL (s.drop 2)).length ≤ dotN (s.drop 2) + 1 := by
    unfold labelsL
    split
    · rw [cutD_dots _ _ (Nat.le_refl _)]; exact Nat.le_refl _
    · exact Nat.zero_le _
  have h4 : dotN s = 1 + dotN (s.drop 2) := by
    conv => lhs; rw [star_form h]
    show dotN ([42, 46] ++ s.drop 2) = _
    rw [dotN_app]; rfl
  have h5 : dotN (a ++ 46 :: s.drop 2) = 1 + dotN (s.drop 2) := by
    rw [dotN_app, dotN_none ha]
    show 0 + dotN ([46] ++ s.drop 2) = _
    rw [dotN_app, Nat.zero_add]; rfl
  omega
theorem star_above {s : List UInt8} (h : starred s = true) : ownsB (s.drop 2) s = false := by
  unfold ownsB
  have := match_above (s.drop 2)
  rw [← star_form h] at this
  rw [this, Bool.and_false]
theorem bare_owns {s host : List UInt8} (h : starred s = false) : ownsB host s = ((s == host) && ownsB host host) := by
  unfold ownsB
  rw [show countsB s = true by unfold countsB; rw [h]; rfl, Bool.true_and, match_bare h]
  by_cases e : s = host
  · subst e
    rw [show countsB s = true by unfold countsB; rw [h]; rfl, match_self]; simp
  · have : (s == host) = false := by simpa using e
    rw [this]; simp
/-- A certificate that has names alone. -/
def namesC (ns : List (List UInt8)) : Ct := ⟨[], [], ns, 0, 0, false⟩
theorem namesC_one (s host : List UInt8) : hostB (namesC [s]) host = ownsB host s := by simp [hostB, namesC]
theorem encE_three (c : Ct) : encE c = 0 ∨ encE c = 4 ∨ encE c = 40 := by
  unfold encE
  repeat' split
  all_goals simp
end Go.Proofs.YtoinicmhkfomjaaGreatDoor
