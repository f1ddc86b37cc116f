/-
  Where a text's head ends: at the first empty line; what stands behind makes no difference to the fields.
-/
import Derived.Test.YtkffdhdhjfbhjaaDoorHRCut
namespace Go.Proofs.YtkffdhdhjfbhjaaDoor
set_option linter.unusedSimpArgs false
set_option linter.unusedVariables false
open Go
set_option maxRecDepth 100000

theorem noCL_cr {r : List UInt8} (h : NoCL r) : NoCL (r ++ [13]) := by
  intro i hi
  obtain ⟨h1, h2⟩ := hi
  have hl : i + 1 < (r ++ [13]).length := by
    rcases Nat.lt_or_ge (i + 1) (r ++ [13]).length with h | h
    · exact h
    · rw [List.getElem?_eq_none h] at h2; cases h2
  simp only [List.length_append, List.length_singleton] at hl
  by_cases e : i + 1 < r.length
  · rw [List.getElem?_append_left (by omega)] at h1
    rw [List.getElem?_append_left (by omega)] at h2
    exact h i ⟨h1, h2⟩
  · rw [List.getElem?_append_right (by omega)] at h2
    have : i + 1 - r.length = 0 := by omega
    rw [this] at h2
    simp at h2

/-- The lines, where one ends in the midst. -/
theorem cut_mid (p q : List UInt8) : cutL (p ++ 13 :: 10 :: q) = cutL p ++ restL p :: cutL q ∧ restL (p ++ 13 :: 10 :: q) = restL q := by
  obtain ⟨h1, h2⟩ := cut_clean p
  have e : p ++ 13 :: 10 :: q = joinL (cutL p) ++ (restL p ++ 13 :: 10 :: q) := by
    conv => lhs; rw [← join_cut p]
    rw [List.append_assoc]
  obtain ⟨h3, h4⟩ := cut_join (cutL p) (restL p ++ 13 :: 10 :: q) h1
  obtain ⟨h5, h6⟩ := cut_cons q (noCL_cr h2)
  rw [e, h3, h4, h5, h6]
  exact ⟨rfl, rfl⟩

/-- Two ends, one behind the other, at place i. -/
def Two (s : List UInt8) (i : Nat) : Prop := (s.take (i + 4)).drop i = [13, 10, 13, 10]
theorem two_split {s : List UInt8} {i : Nat} (h : Two s i) : i + 4 ≤ s.length ∧ s.take (i + 4) = s.take i ++ [13, 10, 13, 10] ∧ s = s.take i ++ 13 :: 10 :: 13 :: 10 :: s.drop (i + 4) := by
  unfold Two at h
  have hl := congrArg List.length h
  simp only [List.length_drop, List.length_take, List.length_cons, List.length_nil] at hl
  have h1 : s.take (i + 4) = s.take i ++ [13, 10, 13, 10] := by
    rw [← h]
    conv => lhs; rw [← List.take_append_drop i (s.take (i + 4))]
    rw [List.take_take, Nat.min_eq_left (by omega)]
  refine ⟨by omega, h1, ?_⟩
  conv => lhs; rw [← List.take_append_drop (i + 4) s, h1]
  simp
theorem two_of {s p q : List UInt8} (h : s = p ++ 13 :: 10 :: 13 :: 10 :: q) : Two s p.length := by
  unfold Two
  rw [h]
  have : p ++ 13 :: 10 :: 13 :: 10 :: q = (p ++ [13, 10, 13, 10]) ++ q := by simp
  rw [this, List.take_append_of_le_length (by simp), List.take_of_length_le (by simp), List.drop_append_of_le_length (Nat.le_refl _)]
  simp

/-- An empty line behind another one: two ends. -/
theorem two_of_empty {s : List UInt8} {A B : List (List UInt8)} {x : List UInt8} (h : cutL s = A ++ x :: [] :: B) : Two s ((joinL A).length + x.length) := by
  have e := join_cut s
  rw [h, joinL_append, joinL_cons, joinL_cons] at e
  obtain ⟨r, hr⟩ : ∃ r, r = restL s := ⟨_, rfl⟩
  rw [← hr] at e
  have := two_of (s := s) (p := joinL A ++ x) (q := joinL B ++ r) (by rw [← e]; simp)
  rwa [List.length_append] at this
theorem two_behind {s : List UInt8} {k : Nat} (hk : k < (cutL s).length) (h0 : 0 < k) (he : (cutL s)[k] = []) : ∃ i, Two s i ∧ i + 4 = (joinL ((cutL s).take (k + 1))).length := by
  have hsp : cutL s = (cutL s).take (k - 1) ++ (cutL s)[k - 1] :: [] :: (cutL s).drop (k + 1) := by
    conv => lhs; rw [← List.take_append_drop (k - 1) (cutL s), List.drop_eq_getElem_cons (by omega)]
    have : k - 1 + 1 = k := by omega
    rw [this, List.drop_eq_getElem_cons hk, he]
  refine ⟨_, two_of_empty hsp, ?_⟩
  have : (cutL s).take (k + 1) = (cutL s).take (k - 1) ++ [(cutL s)[k - 1], []] := by
    rw [List.take_succ_eq_append_getElem hk, he]
    have h2 : (cutL s).take k = (cutL s).take (k - 1) ++ [(cutL s)[k - 1]] := by
      have := List.take_succ_eq_append_getElem (show k - 1 < (cutL s).length by omega)
      rwa [show k - 1 + 1 = k by omega] at this
    rw [h2, List.append_assoc]; rfl
  rw [this, joinL_append, joinL_cons, joinL_cons]
  simp [joinL]
  omega

/-- The head ends at n, whatever stands behind. -/
def Ends (s : List UInt8) (n : Nat) : Prop := n ≤ s.length ∧ ∃ H : List (List UInt8), (∀ x ∈ H, x ≠ []) ∧ ∀ q, cutL (s.take n ++ q) = H ++ [] :: cutL q ∧ restL (s.take n ++ q) = restL q

theorem tw_stop_at {H R : List (List UInt8)} (h : ∀ x ∈ H, x ≠ []) : (H ++ [] :: R).takeWhile neB = H ∧ (H ++ [] :: R).dropWhile neB = [] :: R := by
  induction H with
  | nil => exact ⟨rfl, rfl⟩
  | cons x H ih =>
    have hx : neB x = true := by have := h x (by simp); simpa [neB] using this
    obtain ⟨h1, h2⟩ := ih (fun y hy => h y (by simp [hy]))
    rw [List.cons_append, List.takeWhile_cons_of_pos hx, List.dropWhile_cons_of_pos hx, h1, h2]
    exact ⟨rfl, rfl⟩

theorem Ends.all {s : List UInt8} {n : Nat} (h : Ends s n) : ∃ H, ∀ q, headL (s.take n ++ q) = H ∧ bodyL (s.take n ++ q) = q := by
  obtain ⟨_, H, hH, hq⟩ := h
  refine ⟨H, fun q => ?_⟩
  obtain ⟨h1, h2⟩ := hq q
  obtain ⟨h3, h4⟩ := tw_stop_at (R := cutL q) hH
  refine ⟨?_, ?_⟩
  · unfold headL; rw [h1]; exact h3
  · unfold bodyL
    rw [h1, h4]
    dsimp only
    rw [h2]
    exact join_cut q
theorem Ends.self {s : List UInt8} {n : Nat} (h : Ends s n) : bodyL s = s.drop n := by
  obtain ⟨H, hq⟩ := h.all
  have := (hq (s.drop n)).2
  rwa [List.take_append_drop] at this
theorem Ends.fields {s : List UInt8} {n : Nat} (h : Ends s n) (q : List UInt8) : fieldsL (s.take n ++ q) = fieldsL s := by
  obtain ⟨H, hq⟩ := h.all
  have h1 := (hq (s.drop n)).1
  rw [List.take_append_drop] at h1
  unfold fieldsL
  rw [(hq q).1, h1]
theorem Ends.body {s : List UInt8} {n : Nat} (h : Ends s n) (q : List UInt8) : bodyL (s.take n ++ q) = q := by
  obtain ⟨H, hq⟩ := h.all
  exact (hq q).2

theorem getL_fields {s t : List UInt8} (h : fieldsL s = fieldsL t) (n : List UInt8) : getL s n = getL t n := by unfold getL; rw [h]
theorem plainL_fields {s t : List UInt8} (h : fieldsL s = fieldsL t) : plainL s = plainL t := by unfold plainL; rw [getL_fields h]
theorem hopsL_fields {s t : List UInt8} (h : fieldsL s = fieldsL t) : hopsL s = hopsL t := by unfold hopsL; rw [getL_fields h]

theorem ends_two {s : List UInt8} (h : s.take 2 = [13, 10]) : Ends s 2 := by
  have hl := congrArg List.length h
  simp only [List.length_take, List.length_cons, List.length_nil] at hl
  refine ⟨by omega, [], (fun x hx => by cases hx), fun q => ?_⟩
  rw [h]
  exact cut_cons q (noCL_cr noCL_nil)

/-- The first two ends, where the text does not begin by one. -/
theorem ends_first {s : List UInt8} {i : Nat} (h : Two s i) (h0 : s.take 2 ≠ [13, 10]) (hmin : ∀ j, j < i → ¬ Two s j) : Ends s (i + 4) := by
  obtain ⟨hl, ht, hs⟩ := two_split h
  have hcut : ∀ q, cutL (s.take (i + 4) ++ q) = (cutL (s.take i) ++ [restL (s.take i)]) ++ [] :: cutL q ∧ restL (s.take (i + 4) ++ q) = restL q := by
    intro q
    have e : s.take (i + 4) ++ q = s.take i ++ 13 :: 10 :: (([] : List UInt8) ++ 13 :: 10 :: q) := by rw [ht]; simp
    rw [e]
    obtain ⟨h1, h2⟩ := cut_mid (s.take i) (([] : List UInt8) ++ 13 :: 10 :: q)
    obtain ⟨h3, h4⟩ := cut_cons q (noCL_cr noCL_nil)
    rw [h1, h2, h3, h4]
    exact ⟨by simp, rfl⟩
  refine ⟨hl, _, fun x hx e => ?_, hcut⟩
  -- an empty line ahead
  have hc := (hcut (s.drop (i + 4))).1
  rw [List.take_append_drop] at hc
  obtain ⟨k, hk, hkx⟩ := List.getElem_of_mem hx
  have hkl : k < (cutL s).length := by rw [hc]; simp at hk ⊢; omega
  have hke : (cutL s)[k] = [] := by
    have : (cutL s)[k]? = some [] := by
      rw [hc, List.getElem?_append_left hk, List.getElem?_eq_getElem hk, hkx, e]
    rw [List.getElem?_eq_getElem hkl] at this
    simpa using this
  rcases Nat.eq_zero_or_pos k with rfl | hp
  · apply h0
    have e2 := join_cut s
    obtain ⟨R, hR⟩ : ∃ R, cutL s = [] :: R := ⟨_, by rw [← hke]; exact (List.drop_eq_getElem_cons hkl)⟩
    rw [hR, joinL_cons] at e2
    rw [← e2]
    simp
  · obtain ⟨j, hj, hje⟩ := two_behind hkl hp hke
    refine hmin j ?_ hj
    have h1 : ((joinL ((cutL s).take (k + 1))).length) ≤ (joinL (cutL (s.take i) ++ [restL (s.take i)])).length := by
      have : (cutL s).take (k + 1) = (cutL (s.take i) ++ [restL (s.take i)]).take (k + 1) := by
        rw [hc, List.take_append_of_le_length (by omega)]
      rw [this]
      exact joinL_take_le _ _
    have h2 : (joinL (cutL (s.take i) ++ [restL (s.take i)])).length = i + 2 := by
      have := congrArg List.length (join_cut (s.take i))
      rw [List.length_append, List.length_take, Nat.min_eq_left (by omega)] at this
      rw [joinL_append]
      simp [joinL] at this ⊢
      omega
    omega

theorem no_ends {s : List UInt8} (h0 : s.take 2 ≠ [13, 10]) (h : ∀ j, j + 4 ≤ s.length → ¬ Two s j) : bodyL s = [] := by
  refine (body_at rfl).1 fun hk => ?_
  have hke := tw_stop hk
  have hke' : (cutL s)[((cutL s).takeWhile neB).length] = [] := by simpa [neB] using hke
  rcases Nat.eq_zero_or_pos ((cutL s).takeWhile neB).length with h1 | hp
  · apply h0
    have e2 := join_cut s
    obtain ⟨R, hR⟩ : ∃ R, cutL s = [] :: R := by
      have := List.drop_eq_getElem_cons hk
      rw [hke'] at this
      rw [h1] at this
      exact ⟨_, this⟩
    rw [hR, joinL_cons] at e2
    rw [← e2]
    simp
  · obtain ⟨j, hj, _⟩ := two_behind hk hp hke'
    exact h j (two_split hj).1 hj

theorem body_suffix (s : List UInt8) : (bodyL s).length ≤ s.length ∧ s.drop (s.length - (bodyL s).length) = bodyL s := by
  obtain ⟨k, hk⟩ : ∃ k, k = ((cutL s).takeWhile neB).length := ⟨_, rfl⟩
  obtain ⟨h1, h2⟩ := body_at hk
  by_cases hlt : k < (cutL s).length
  · have e := join_cut s
    have e1 : joinL (cutL s) = joinL ((cutL s).take (k + 1)) ++ joinL ((cutL s).drop (k + 1)) := by rw [← joinL_append, List.take_append_drop]
    have e2 : s = joinL ((cutL s).take (k + 1)) ++ bodyL s := by
      rw [h2 hlt, ← List.append_assoc, ← e1]; exact e.symm
    have hl := congrArg List.length e2
    rw [List.length_append] at hl
    refine ⟨by omega, ?_⟩
    have : s.length - (bodyL s).length = (joinL ((cutL s).take (k + 1))).length := by omega
    rw [this]
    have key : ∀ P B : List UInt8, s = P ++ B → s.drop P.length = B := fun P B h => by rw [h]; simp
    exact key _ _ e2
  · rw [h1 hlt]
    simp
end Go.Proofs.YtkffdhdhjfbhjaaDoor
