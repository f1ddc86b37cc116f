/-
  Plain functions of package frame: what was split is told again; sectors that lack, that are others; what is torn.
-/
import Derived.Test.YthfnncahmccgkaaGreatDoorFPuM
namespace Go.Proofs.YthfnncahmccgkaaGreatDoor
open Go Go.RowKit
set_option maxRecDepth 100000
set_option linter.unusedSimpArgs false
set_option linter.unusedVariables false

theorem row_at {a p : Nat} {t : List UInt8} {n i : Nat} {rest : List (List UInt8)} (h : i < n) : (rowL a p t n ++ rest)[i]? = some (secL a p t i) := by
  rw [List.getElem?_append_left (by rw [rowL_length]; exact h), rowL_get h]
theorem part_row {a p : Nat} {t : List UInt8} {n i : Nat} {rest : List (List UInt8)} (ha : 1 ≤ a ∧ a < 4294967296) (hp : p + n ≤ 1024) (h : i < n) : partB (rowL a p t n ++ rest) i a p = true := by
  refine partB_iff.2 ⟨_, row_at h, is_frL ha (by omega) (chL_length _ _), ?_, ?_⟩
  · rw [secL, ag_frL ha (by omega) (chL_length _ _)]
  · rw [secL, pl_frL ha (by omega) (chL_length _ _)]; push_cast; rfl
theorem bodies_part {a p : Nat} {t : List UInt8} {n k : Nat} {rest : List (List UInt8)} (ha : 1 ≤ a ∧ a < 4294967296) (hp : p + n ≤ 1024) (hk : k ≤ n) (h : 112 * k ≤ t.length) : bodies (rowL a p t n ++ rest) k = t.take (112 * k) := by
  induction k with
  | zero => simp [bodies]
  | succ k ih =>
    rw [bodies_succ (row_at (by omega)), ih (by omega) (by omega), secL, bod_frL ha (by omega) (chL_length _ _)]
    have hl : (chL t k).length = 112 := by simp [chL]; omega
    rw [padL, hl, show 112 - 112 = 0 from rfl, List.replicate_zero, List.append_nil, chL, show 112 * (k + 1) = 112 * k + 112 by omega, List.take_add]
theorem bodies_row {a p : Nat} {t : List UInt8} {n : Nat} {rest : List (List UInt8)} (ha : 1 ≤ a ∧ a < 4294967296) (hp : p + n ≤ 1024) (hn : 1 ≤ n) (h1 : 112 * (n - 1) ≤ t.length) (h2 : t.length ≤ 112 * n) :
    bodies (rowL a p t n ++ rest) n = t ++ List.replicate (112 * n - t.length) 0 := by
  obtain ⟨k, rfl⟩ : ∃ k, n = k + 1 := ⟨n - 1, by omega⟩
  rw [Nat.add_sub_cancel] at h1
  rw [bodies_succ (row_at (by omega)), bodies_part ha hp (by omega) h1, secL, bod_frL ha (by omega) (chL_length _ _), padL, ← List.append_assoc]
  have hc : chL t k = t.drop (112 * k) := by rw [chL, List.take_of_length_le (by simp; omega)]
  rw [hc, List.take_append_drop]
  congr 2
  simp
  omega
theorem rec_take (s : List UInt8) : (recL s).take 2 = bytesL (manyN s.length) 2 := by rw [recL, List.take_left' (bytesL_length _ _)]
theorem rec_mid (s : List UInt8) : ((recL s).drop 2).take 4 = bytesL s.length 4 := by rw [recL, List.drop_left' (bytesL_length _ _), List.take_left' (bytesL_length _ _)]
theorem rec_rest (s : List UInt8) : (recL s).drop 6 = s := by
  rw [recL, ← List.append_assoc, List.drop_left' (by simp [bytesL_length])]
theorem first_of {a p : Nat} {s : List UInt8} (ha : 1 ≤ a ∧ a < 4294967296) (hp : p + manyN s.length ≤ 1024) {l : List (List UInt8)} (h : l[0]? = some (secL a p (recL s) 0)) :
    fstN l = manyN s.length ∧ fstLong l = s.length := by
  have hn := manyN_pos s.length
  have hge := manyN_ge s.length
  have hlt := manyN_lt s.length
  have hb : bodL (l.getD 0 []) = padL (chL (recL s) 0) := by
    rw [List.getD_eq_getElem?_getD, h]
    show bodL (secL a p (recL s) 0) = _
    rw [secL, bod_frL ha (by omega) (chL_length _ _)]
  have hr := recL_length s
  have hcl : 6 ≤ (chL (recL s) 0).length := by simp [chL]; omega
  have h2 : (padL (chL (recL s) 0)).take 2 = (recL s).take 2 := by
    rw [padL, List.take_append_of_le_length (by omega), chL, List.take_take]; simp
  have h4 : ((padL (chL (recL s) 0)).drop 2).take 4 = ((recL s).drop 2).take 4 := by
    rw [padL, List.drop_append_of_le_length (by omega), List.take_append_of_le_length (by simp; omega), chL, List.drop_take, List.take_take]; simp
  constructor
  · rw [fstN, hb, h2, rec_take, numL_bytesL]
    exact Nat.mod_eq_of_lt (by omega)
  · rw [fstLong, hb, h4, rec_mid, numL_bytesL]
    exact Nat.mod_eq_of_lt (by omega)
/-- What was split is told again, whatever stands behind. -/
theorem join_back {a p : Nat} {s : List UInt8} {rest : List (List UInt8)} (ha : 1 ≤ a ∧ a < 4294967296) (hp : p + manyN s.length ≤ 1024) :
    JoinIs (rowL a p (recL s) (manyN s.length) ++ rest) a p ∧ joinT (rowL a p (recL s) (manyN s.length) ++ rest) a p = s ∧ joinN (rowL a p (recL s) (manyN s.length) ++ rest) a p = manyN s.length := by
  have hn := manyN_pos s.length
  have hge := manyN_ge s.length
  have hlt := manyN_lt s.length
  have hr := recL_length s
  obtain ⟨h1, h2⟩ := first_of (l := rowL a p (recL s) (manyN s.length) ++ rest) ha hp (row_at hn)
  have hb := bodies_row (rest := rest) (t := recL s) ha hp hn (by omega) (by omega)
  have hj : JoinIs (rowL a p (recL s) (manyN s.length) ++ rest) a p := by
    refine ⟨by rw [h1, h2], fun i hi => part_row ha hp (by rw [h1] at hi; exact hi), ?_⟩
    rw [h1, h2, hb, List.drop_left' hr]
    simp [zerosB]
  obtain ⟨_, e2, e3⟩ := joinB_true hj
  refine ⟨hj, ?_, by rw [e3, h1]⟩
  rw [e2, h1, h2, hb, List.drop_append_of_le_length (by omega), rec_rest, List.take_left' rfl]

/-! ### Sectors that lack -/
theorem not_first {l : List (List UInt8)} {a p : Int} (h : partB l 0 a p = false) : ¬ JoinIs l a p := fun hj => by
  have := hj.2.1 0 (by rw [hj.1]; exact manyN_pos _)
  rw [h] at this; cases this
theorem gone_short {a p : Nat} {s : List UInt8} {k : Nat} (ha : 1 ≤ a ∧ a < 4294967296) (hp : p + manyN s.length ≤ 1024) (hk : k < manyN s.length) :
    ¬ JoinIs ((rowL a p (recL s) (manyN s.length)).take k) a p := by
  rcases Nat.eq_zero_or_pos k with rfl | h0
  · exact not_first rfl
  · intro hj
    have e0 : ((rowL a p (recL s) (manyN s.length)).take k)[0]? = some (secL a p (recL s) 0) := by rw [List.getElem?_take_of_lt h0, rowL_get (by omega)]
    obtain ⟨h1, _⟩ := first_of ha hp e0
    have := hj.2.1 k (by rw [h1]; exact hk)
    unfold partB at this
    rw [List.getElem?_eq_none (by rw [List.length_take]; exact Nat.min_le_left _ _)] at this
    cases this
theorem gone_less {a p : Nat} {s : List UInt8} {k : Nat} (ha : 1 ≤ a ∧ a < 4294967296) (hp : p + manyN s.length ≤ 1024) (hk : k < manyN s.length) :
    ¬ JoinIs ((rowL a p (recL s) (manyN s.length)).take k ++ (rowL a p (recL s) (manyN s.length)).drop (k + 1)) a p := by
  have hl := rowL_length a p (recL s) (manyN s.length)
  have hk2 : ((rowL a p (recL s) (manyN s.length)).take k ++ (rowL a p (recL s) (manyN s.length)).drop (k + 1))[k]? = if k + 1 < manyN s.length then some (secL a p (recL s) (k + 1)) else none := by
    rw [List.getElem?_append_right (by simp; omega), List.length_take, hl, Nat.min_eq_left (by omega), Nat.sub_self, List.getElem?_drop, Nat.add_zero]
    split
    · rw [rowL_get (by assumption)]
    · rw [List.getElem?_eq_none (by omega)]
  have hbad : partB ((rowL a p (recL s) (manyN s.length)).take k ++ (rowL a p (recL s) (manyN s.length)).drop (k + 1)) k a p = false := by
    unfold partB
    rw [hk2]
    split
    · rename_i e; rfl
    · rename_i x e
      split at e
      · rename_i h
        obtain rfl := Option.some.inj e
        rw [secL, pl_frL ha (by omega) (chL_length _ _)]
        have : decide (((p + (k + 1) : Nat) : Int) = (p : Int) + (k : Nat)) = false := decide_eq_false (by omega)
        rw [this]; simp
      · cases e
  rcases Nat.eq_zero_or_pos k with rfl | h0
  · exact not_first hbad
  · intro hj
    have e0 : ((rowL a p (recL s) (manyN s.length)).take k ++ (rowL a p (recL s) (manyN s.length)).drop (k + 1))[0]? = some (secL a p (recL s) 0) := by
      rw [List.getElem?_append_left (by simp; omega), List.getElem?_take_of_lt h0, rowL_get (by omega)]
    obtain ⟨h1, _⟩ := first_of ha hp e0
    have := hj.2.1 k (by rw [h1]; exact hk)
    rw [hbad] at this; cases this
theorem gone_odd {a p : Nat} {s x : List UInt8} {k : Nat} (ha : 1 ≤ a ∧ a < 4294967296) (hp : p + manyN s.length ≤ 1024) (hk : k < manyN s.length)
    (hj : JoinIs ((rowL a p (recL s) (manyN s.length)).set k x) a p) : isB x = true ∧ (agL x : Int) = a ∧ (plL x : Int) = (p : Int) + k := by
  have hl := rowL_length a p (recL s) (manyN s.length)
  have hx : partB ((rowL a p (recL s) (manyN s.length)).set k x) k a p = true := by
    rcases Nat.eq_zero_or_pos k with rfl | h0
    · exact hj.2.1 0 (by rw [hj.1]; exact manyN_pos _)
    · have e0 : ((rowL a p (recL s) (manyN s.length)).set k x)[0]? = some (secL a p (recL s) 0) := by
        rw [List.getElem?_set_ne (by omega), rowL_get (by omega)]
      obtain ⟨h1, _⟩ := first_of ha hp e0
      exact hj.2.1 k (by rw [h1]; exact hk)
  obtain ⟨y, hy, h1, h2, h3⟩ := partB_iff.1 hx
  rw [List.getElem?_set_self (by omega)] at hy
  obtain rfl := Option.some.inj hy
  exact ⟨h1, h2, h3⟩
end Go.Proofs.YthfnncahmccgkaaGreatDoor
