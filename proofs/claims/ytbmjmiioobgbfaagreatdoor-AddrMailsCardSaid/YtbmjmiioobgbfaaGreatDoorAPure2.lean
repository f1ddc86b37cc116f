/-
  What is asked of a text byte by byte, with a state: atoms, what stands within quotes, a mail's text, an Envid. Plain functions and lemmas; no program.
-/
import Derived.Test.YtbmjmiioobgbfaaGreatDoorAPure
namespace Go.Proofs.YtbmjmiioobgbfaaGreatDoor

/-- All bytes fit, asked one by one up to the first that does not; and the state then. -/
def runF {σ : Type} (ok : σ → UInt8 → Bool) (nx : σ → UInt8 → σ) : σ → List UInt8 → Bool × σ
  | st, [] => (true, st)
  | st, c :: t => if ok st c then runF ok nx (nx st c) t else (false, nx st c)

theorem runF_true {σ : Type} {ok : σ → UInt8 → Bool} {nx : σ → UInt8 → σ} {st : σ} {c : UInt8} {t : List UInt8} (h : ok st c = true) : runF ok nx st (c :: t) = runF ok nx (nx st c) t := by
  show (if ok st c then _ else _) = _
  rw [if_pos h]
theorem runF_false {σ : Type} {ok : σ → UInt8 → Bool} {nx : σ → UInt8 → σ} {st : σ} {c : UInt8} {t : List UInt8} (h : ok st c = false) : runF ok nx st (c :: t) = (false, nx st c) := by
  show (if ok st c then _ else _) = _
  rw [if_neg (by rw [h]; simp)]

def okA (st : Bool) (c : UInt8) : Bool := signC c || (st && c == 46)
def nxA (_ : Bool) (c : UInt8) : Bool := signC c
theorem atomsF_run : ∀ (st : Bool) (l : List UInt8), atomsF st l = ((runF okA nxA st l).1 && (runF okA nxA st l).2)
  | st, [] => by simp [atomsF, runF]
  | st, c :: t => by
    have ih := atomsF_run (signC c) t
    unfold atomsF
    cases h : okA st c with
    | true => rw [runF_true h, show (signC c || st && c == 46) = true from h, show nxA st c = signC c from rfl]; simpa using ih
    | false => rw [runF_false h, show (signC c || st && c == 46) = false from h]; rfl

def okQ (m : Bool) (c : UInt8) : Bool := grC c && (m || c != 34)
def nxQ (m : Bool) (c : UInt8) : Bool := c == 92 && !m
theorem quotF_run : ∀ (st : Bool) (l : List UInt8), quotF st l = ((runF okQ nxQ st l).1 && !(runF okQ nxQ st l).2)
  | st, [] => by simp [quotF, runF]
  | st, c :: t => by
    have ih := quotF_run (c == 92 && !st) t
    unfold quotF
    cases h : okQ st c with
    | true => rw [runF_true h, show (grC c && (st || c != 34)) = true from h, show nxQ st c = (c == 92 && !st) from rfl]; simpa using ih
    | false => rw [runF_false h, show (grC c && (st || c != 34)) = false from h]; rfl

def okE (_ : Unit) (c : UInt8) : Bool := c == 45 || alnC c
def nxE (_ : Unit) (_ : UInt8) : Unit := ()
def envidL (s : List UInt8) : Bool := decide (s.length ≤ 32) && s.all fun c => c == 45 || alnC c
theorem runE : ∀ (l : List UInt8), (runF okE nxE () l).1 = l.all fun c => c == 45 || alnC c
  | [] => rfl
  | c :: t => by
    have ih := runE t
    cases h : okE () c with
    | true => rw [runF_true h, List.all_cons, show (c == 45 || alnC c) = true from h]; simpa using ih
    | false => rw [runF_false h, List.all_cons, show (c == 45 || alnC c) = false from h]; rfl

/-- A mail's text: how many bytes of the line, and whether its CR has come. -/
def okT (st : Nat × Bool) (c : UInt8) : Bool := if 512 < st.1 + 1 then false else if st.2 then c == 10 else if c == 13 then true else c == 9 || grC c
def nxT (st : Nat × Bool) (c : UInt8) : Nat × Bool := if 512 < st.1 + 1 then (st.1 + 1, st.2) else if st.2 then (0, false) else if c == 13 then (st.1 + 1, true) else (st.1 + 1, false)
def textF (st : Nat × Bool) (l : List UInt8) : Bool := (runF okT nxT st l).1 && (runF okT nxT st l).2.1 == 0
def mtextL (s : List UInt8) : Bool := textF (0, false) s

theorem textF_nil (st : Nat × Bool) : textF st [] = (st.1 == 0) := by simp [textF, runF]
theorem textF_ok {st : Nat × Bool} {c : UInt8} {t : List UInt8} (h : okT st c = true) : textF st (c :: t) = textF (nxT st c) t := by unfold textF; rw [runF_true h]
theorem textF_no {st : Nat × Bool} {c : UInt8} {t : List UInt8} (h : okT st c = false) : textF st (c :: t) = false := by unfold textF; rw [runF_false h]; rfl
theorem textF_long {n : Nat} {e : Bool} (h : 512 ≤ n) (c : UInt8) (t : List UInt8) : textF (n, e) (c :: t) = false := textF_no (by unfold okT; rw [if_pos (by simp; omega)])
/-- A CR, and nothing behind it. -/
theorem textF_cr_end {n : Nat} : textF (n, false) [13] = false := by
  by_cases h : 512 ≤ n
  · exact textF_long h _ _
  · rw [textF_ok (by unfold okT; rw [if_neg (by simp; omega)]; rfl), textF_nil]
    unfold nxT; rw [if_neg (by simp; omega)]; simp
theorem textF_cr {n : Nat} {d : UInt8} {t : List UInt8} : textF (n, false) (13 :: d :: t) = (decide (n + 1 ≤ 511) && d == 10 && textF (0, false) t) := by
  by_cases h : 512 ≤ n
  · rw [textF_long h, decide_eq_false (by omega)]; rfl
  have e1 : nxT (n, false) 13 = (n + 1, true) := by unfold nxT; rw [if_neg (by simp; omega)]; rfl
  rw [textF_ok (by unfold okT; rw [if_neg (by simp; omega)]; rfl), e1]
  by_cases h2 : 512 ≤ n + 1
  · rw [textF_long h2, decide_eq_false (by omega)]; rfl
  rw [decide_eq_true (by omega)]
  have e2 : okT (n + 1, true) d = (d == 10) := by unfold okT; rw [if_neg (by simp; omega)]; rfl
  cases hd : (d == 10) with
  | true =>
    rw [textF_ok (by rw [e2, hd])]
    have e3 : nxT (n + 1, true) d = (0, false) := by unfold nxT; rw [if_neg (by simp; omega)]; rfl
    rw [e3]; simp
  | false => rw [textF_no (by rw [e2, hd])]; rfl
theorem textF_other {n : Nat} {c : UInt8} {t : List UInt8} (hc : c ≠ 13) : textF (n, false) (c :: t) = (decide (n + 1 ≤ 512) && (c == 9 || grC c) && textF (n + 1, false) t) := by
  by_cases h : 512 ≤ n
  · rw [textF_long h, decide_eq_false (by omega)]; rfl
  rw [decide_eq_true (by omega)]
  have h13 : (c == 13) = false := by simpa using hc
  have e1 : okT (n, false) c = (c == 9 || grC c) := by unfold okT; rw [if_neg (by simp; omega)]; simp [h13]
  have e2 : nxT (n, false) c = (n + 1, false) := by unfold nxT; rw [if_neg (by simp; omega)]; simp [h13]
  cases hk : (c == 9 || grC c) with
  | true => rw [textF_ok (by rw [e1, hk]), e2]; simp
  | false => rw [textF_no (by rw [e1, hk])]; rfl

/-- Ahead of what stands behind a line's end the text may be, too. -/
theorem textF_front : ∀ {a : List UInt8} {st : Nat × Bool} {b : List UInt8}, textF st (a ++ 10 :: b) = true → textF st (a ++ [10]) = true ∧ textF (0, false) b = true
  | [], (n, e), b, h => by
    show textF (n, e) [10] = true ∧ _
    have h' : textF (n, e) (10 :: b) = true := h
    cases hk : okT (n, e) 10 with
    | false => rw [textF_no hk] at h'; cases h'
    | true =>
      rw [textF_ok hk] at h' ⊢
      have e3 : nxT (n, e) 10 = (0, false) := by
        unfold okT at hk
        unfold nxT
        by_cases h1 : 512 < n + 1
        · simp [h1] at hk
        · cases e with
          | true => simp [h1]
          | false => exfalso; simp [h1] at hk; exact absurd hk (by decide)
      rw [e3] at h' ⊢
      exact ⟨by rw [textF_nil]; rfl, h'⟩
  | x :: a, st, b, h => by
    have h' : textF st (x :: (a ++ 10 :: b)) = true := h
    show textF st (x :: (a ++ [10])) = true ∧ _
    cases hk : okT st x with
    | false => rw [textF_no hk] at h'; cases h'
    | true =>
      rw [textF_ok hk] at h' ⊢
      exact textF_front h'
theorem mtext_front {a b : List UInt8} (h : mtextL (a ++ 10 :: b) = true) : mtextL (a ++ [10]) = true := (textF_front h).1
theorem mtext_nil : mtextL [] = true := by decide
end Go.Proofs.YtbmjmiioobgbfaaGreatDoor
