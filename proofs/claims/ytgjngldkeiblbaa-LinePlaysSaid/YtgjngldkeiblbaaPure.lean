/-
  Plain functions on lists of bytes: what a framer is told byte by byte ('run'), and how the search for CR LF in a text's first m bytes comes to it.
  No program is imported here; no condition.
-/
import Derived.Lib.IndexMore
import Derived.Lib.CutLaws
namespace Go.Proofs.Ytgjngldkeiblbaa

/-- Bytes come one by one to a line of which l has come; lines of m bytes at most: the lines that are whole by them, what is left, whether it died. -/
def run (m : Nat) : List UInt8 → List UInt8 → List (List UInt8) × List UInt8 × Bool
  | l, [] => ([], l, false)
  | l, b :: s =>
    if b = 10 ∧ l.getLast? = some 13 then (l.dropLast :: (run m [] s).1, (run m [] s).2)
    else if m ≤ l.length + 1 then ([], [], true)
    else run m (l ++ [b]) s

theorem run_nil (m : Nat) (l : List UInt8) : run m l [] = ([], l, false) := rfl
theorem run_end {m : Nat} {l : List UInt8} {b : UInt8} (s : List UInt8) (h : b = 10 ∧ l.getLast? = some 13) : run m l (b :: s) = (l.dropLast :: (run m [] s).1, (run m [] s).2) := by rw [run, if_pos h]
theorem run_dies {m : Nat} {l : List UInt8} {b : UInt8} (s : List UInt8) (h : ¬ (b = 10 ∧ l.getLast? = some 13)) (hm : m ≤ l.length + 1) : run m l (b :: s) = ([], [], true) := by rw [run, if_neg h, if_pos hm]
theorem run_on {m : Nat} {l : List UInt8} {b : UInt8} (s : List UInt8) (h : ¬ (b = 10 ∧ l.getLast? = some 13)) (hm : l.length + 1 < m) : run m l (b :: s) = run m (l ++ [b]) s := by rw [run, if_neg h, if_neg (by omega)]

/-- In two parts, or at once. -/
theorem run_append (m : Nat) : ∀ (s l t : List UInt8), run m l (s ++ t) =
    if (run m l s).2.2 then ((run m l s).1, (run m l s).2.1, true) else ((run m l s).1 ++ (run m (run m l s).2.1 t).1, (run m (run m l s).2.1 t).2) := by
  intro s
  induction s with
  | nil => intro l t; simp [run_nil]
  | cons b s ih =>
    intro l t
    rw [List.cons_append]
    by_cases h : b = 10 ∧ l.getLast? = some 13
    · rw [run_end _ h, run_end _ h, ih [] t]
      by_cases hd : (run m [] s).2.2 = true <;> simp [hd]
    · by_cases hm : m ≤ l.length + 1
      · rw [run_dies _ h hm, run_dies _ h hm]; simp
      · rw [run_on _ h (by omega), run_on _ h (by omega)]
        exact ih _ t

/-- No CR LF stands in t. -/
def NoCL (t : List UInt8) : Prop := ∀ i : Nat, ¬ (t[i]? = some 13 ∧ t[i + 1]? = some 10)

theorem NoCL.not_end {l s : List UInt8} {b : UInt8} (h : NoCL (l ++ b :: s)) : ¬ (b = 10 ∧ l.getLast? = some 13) := by
  rintro ⟨rfl, hl⟩
  rw [List.getLast?_eq_getElem?] at hl
  have hlen : 0 < l.length := by
    rcases Nat.eq_zero_or_pos l.length with h0 | h0
    · rw [List.eq_nil_of_length_eq_zero h0] at hl; simp at hl
    · exact h0
  apply h (l.length - 1)
  constructor
  · rw [List.getElem?_append_left (by omega)]; exact hl
  · rw [List.getElem?_append_right (by omega)]
    rw [show l.length - 1 + 1 - l.length = 0 by omega]; rfl

theorem run_rest {m : Nat} : ∀ (s l : List UInt8), NoCL (l ++ s) → (l ++ s).length < m → run m l s = ([], l ++ s, false) := by
  intro s
  induction s with
  | nil => intro l _ _; simp [run_nil]
  | cons b s ih =>
    intro l h hm
    have hm' : l.length + 1 < m := by simp at hm; omega
    rw [run_on _ h.not_end hm', ih (l ++ [b]) (by simpa using h) (by simpa using hm)]
    simp

theorem run_dead {m : Nat} : ∀ (s l : List UInt8), NoCL ((l ++ s).take m) → l.length < m → m ≤ (l ++ s).length → run m l s = ([], [], true) := by
  intro s
  induction s with
  | nil => intro l _ h1 h2; simp at h2; omega
  | cons b s ih =>
    intro l h h1 h2
    have hne : ¬ (b = 10 ∧ l.getLast? = some 13) := by
      have : NoCL (l ++ b :: s.take (m - l.length - 1)) := by
        have e : (l ++ b :: s).take m = l ++ b :: s.take (m - l.length - 1) := by
          rw [List.take_append, List.take_of_length_le (by omega), show m - l.length = (m - l.length - 1) + 1 by omega]
          simp
        rw [← e]; exact h
      exact this.not_end
    by_cases hm : m ≤ l.length + 1
    · exact run_dies _ hne hm
    · rw [run_on _ hne (by omega)]
      exact ih (l ++ [b]) (by simpa using h) (by simp; omega) (by simpa using h2)

theorem getLast_prefix {l r a t : List UInt8} (e : l ++ t = a ++ r) (h : l.length = a.length + 1) : l.getLast? = r.head? := by
  rw [List.getLast?_eq_getElem?, h, show a.length + 1 - 1 = a.length by omega]
  have h1 : (l ++ t)[a.length]? = l[a.length]? := List.getElem?_append_left (by omega)
  rw [← h1, e, List.getElem?_append_right (by omega)]
  cases r <;> simp

theorem run_hit {m : Nat} {a r : List UInt8} (ha : NoCL (a ++ [13])) (hm : a.length + 2 ≤ m) : ∀ (s l : List UInt8), l ++ s = a ++ 13 :: 10 :: r → l.length ≤ a.length + 1 → run m l s = (a :: (run m [] r).1, (run m [] r).2) := by
  intro s
  induction s with
  | nil =>
    intro l h h1
    have := congrArg List.length h
    simp at this; omega
  | cons b s ih =>
    intro l h h1
    by_cases hl : l.length = a.length + 1
    · have e1 : l = a ++ [13] := by
        have := congrArg (List.take (a.length + 1)) h
        rw [List.take_append_of_le_length (by omega), List.take_of_length_le (by omega)] at this
        rw [this, List.take_append, List.take_of_length_le (by omega)]; simp
      subst e1
      have e2 : b :: s = 10 :: r := by simpa using h
      obtain ⟨rfl, rfl⟩ : b = 10 ∧ s = r := by simpa using e2
      rw [run_end _ ⟨rfl, by simp⟩]; simp
    · have hlt : l.length < a.length + 1 := by omega
      have hne : ¬ (b = 10 ∧ l.getLast? = some 13) := by
        have e : (l ++ b :: s).take (a.length + 1) = a ++ [13] := by rw [h, List.take_append, List.take_of_length_le (by omega)]; simp
        have : NoCL (l ++ b :: s.take (a.length - l.length)) := by
          have e' : (l ++ b :: s).take (a.length + 1) = l ++ b :: s.take (a.length - l.length) := by
            rw [List.take_append, List.take_of_length_le (by omega), show a.length + 1 - l.length = (a.length - l.length) + 1 by omega]; simp
          rw [← e', e]; exact ha
        exact this.not_end
      rw [run_on _ hne (by omega)]
      exact ih (l ++ [b]) (by simpa using h) (by simp; omega)

/-! ### Out of the shelf's search -/
theorem occ_iff (t : List UInt8) (i : Nat) : Lib.occAt t [13, 10] i = true ↔ t[i]? = some 13 ∧ t[i + 1]? = some 10 := by
  unfold Lib.occAt
  rw [← List.getElem?_drop (i := i) (j := 1), show t[i]? = (t.drop i)[0]? by rw [List.getElem?_drop]; simp]
  generalize t.drop i = u
  match u with
  | [] => simp
  | [x] => simp
  | x :: y :: u =>
    simp only [List.isPrefixOf, Bool.and_true, Bool.and_eq_true, beq_iff_eq, List.getElem?_cons_zero, List.getElem?_cons_succ, Option.some.injEq]
    constructor <;> rintro ⟨h1, h2⟩ <;> exact ⟨h1.symm, h2.symm⟩

theorem noCL_of_index {t : List UInt8} (h : Lib.index t [13, 10] = -1) : NoCL t := by
  rcases Lib.index_spec t [13, 10] with ⟨_, h2⟩ | ⟨i, h1, _⟩
  · intro i hi
    rcases Nat.lt_or_ge t.length i with hlt | hge
    · rw [List.getElem?_eq_none (by omega)] at hi; simp at hi
    · have := h2 i hge
      rw [(occ_iff t i).2 hi] at this; cases this
  · omega

theorem hit_of_index {t : List UInt8} {i : Nat} (h : Lib.index t [13, 10] = i) : NoCL (t.take i ++ [13]) ∧ t = t.take i ++ 13 :: 10 :: t.drop (i + 2) ∧ i + 2 ≤ t.length := by
  rcases Lib.index_spec t [13, 10] with ⟨h1, _⟩ | ⟨j, h1, h2, h3, h4⟩
  · omega
  · obtain rfl : i = j := by omega
    obtain ⟨e1, e2⟩ := (occ_iff t i).1 h3
    have hlt : i + 1 < t.length := by
      rcases Nat.lt_or_ge (i + 1) t.length with h | h
      · exact h
      · rw [List.getElem?_eq_none h] at e2; cases e2
    have g1 : t[i] = 13 := by rw [List.getElem?_eq_getElem (by omega)] at e1; simpa using e1
    have g2 : t[i + 1] = 10 := by rw [List.getElem?_eq_getElem hlt] at e2; simpa using e2
    have ed : t.drop i = 13 :: 10 :: t.drop (i + 2) := by
      rw [List.drop_eq_getElem_cons (by omega), g1, List.drop_eq_getElem_cons hlt, g2]
    refine ⟨?_, ?_, by omega⟩
    · intro j hj
      have hjl : j + 1 < (t.take i ++ [13]).length := by
        rcases Nat.lt_or_ge (j + 1) (t.take i ++ [13]).length with h | h
        · exact h
        · rw [List.getElem?_eq_none h] at hj; simp at hj
      have hjl' : j + 1 < i + 1 := by simp at hjl; omega
      have hji : j < i := by omega
      have e : t.take i ++ [13] = t.take (i + 1) := by rw [List.take_succ_eq_append_getElem (by omega), g1]
      rw [e, List.getElem?_take, List.getElem?_take, if_pos (by omega), if_pos (by omega)] at hj
      have := h4 j hji
      rw [(occ_iff t j).2 hj] at this; cases this
    · conv => lhs; rw [← List.take_append_drop i t, ed]

/-- ONE ROUND OF THE CODE: the first m bytes hold CR LF. -/
theorem run_cut {m i : Nat} {t : List UInt8} (h : Lib.index (t.take m) [13, 10] = i) : run m [] t = (t.take i :: (run m [] (t.drop (i + 2))).1, (run m [] (t.drop (i + 2))).2) := by
  obtain ⟨h1, h2, h3⟩ := hit_of_index h
  have hlm : i + 2 ≤ m := by simp at h3; omega
  have ht : (t.take m).take i = t.take i := by rw [List.take_take, Nat.min_eq_left (by omega)]
  rw [ht] at h1 h2
  have hl : (t.take i).length = i := by simp at h3 ⊢; omega
  have e : t = t.take i ++ 13 :: 10 :: t.drop (i + 2) := by
    have e1 : t.take m ++ t.drop m = t := List.take_append_drop m t
    rw [h2] at e1
    have e2 := congrArg (List.drop (i + 2)) e1
    rw [show (t.take i ++ 13 :: 10 :: (t.take m).drop (i + 2)) ++ t.drop m = (t.take i ++ [13, 10]) ++ ((t.take m).drop (i + 2) ++ t.drop m) by simp, List.drop_append_of_le_length (by simp [hl]), List.drop_of_length_le (by simp [hl])] at e2
    rw [List.nil_append] at e2
    rw [← e2]
    conv => lhs; rw [← e1]
    simp
  exact run_hit h1 (by omega) t [] (by simpa using e) (by simp)

theorem run_none {m : Nat} {t : List UInt8} (h : Lib.index (t.take m) [13, 10] = -1) (hm : t.length < m) : run m [] t = ([], t, false) := by
  have h1 := noCL_of_index h
  rw [List.take_of_length_le (by omega)] at h1
  exact run_rest t [] (by simpa using h1) (by simpa using hm)

theorem run_full {m : Nat} {t : List UInt8} (h : Lib.index (t.take m) [13, 10] = -1) (h0 : 0 < m) (hm : m ≤ t.length) : run m [] t = ([], [], true) :=
  run_dead t [] (by simpa using noCL_of_index h) (by simpa using h0) (by simpa using hm)

end Go.Proofs.Ytgjngldkeiblbaa
