/-
  What a reply's line is, what a status is, what a reader does: plain functions over lists of bytes.
-/
import Derived.Test.YtanfonpbnamjmaaDoorBase
import Derived.Test.YtanfonpbnamjmaaDoorShelf
namespace Go.Proofs.YtanfonpbnamjmaaDoor
open Go Go.RowKit
set_option maxRecDepth 100000

theorem indexByte_has : ∀ (l : List UInt8) (c : UInt8), decide (0 ≤ Lib.indexByte l c) = l.contains c
  | [], c => by simp [Lib.indexByte]
  | b :: l, c => by
    have ih := indexByte_has l c
    unfold Lib.indexByte
    by_cases h : b = c
    · subst h; simp
    · have h1 : (b == c) = false := by simpa using h
      have h2 : (c == b) = false := by simpa using fun e => h e.symm
      rw [h1, List.contains_cons, h2, Bool.false_or, ← ih]
      by_cases h3 : Lib.indexByte l c = -1
      · simp [h3]
      · have h4 : (Lib.indexByte l c == -1) = false := by simpa using h3
        rw [h4]
        simp only [Bool.false_eq_true, if_false]
        have h5 : -1 ≤ Lib.indexByte l c := Lib.indexByte_ge l c
        rw [decide_eq_decide]
        omega
theorem indexByte_in {l : List UInt8} {c : UInt8} (h : l.contains c = true) : ¬ Lib.indexByte l c < 0 := by
  have := indexByte_has l c
  rw [h, decide_eq_true_eq] at this
  omega
theorem indexByte_out {l : List UInt8} {c : UInt8} (h : l.contains c = false) : Lib.indexByte l c < 0 := by
  have := indexByte_has l c
  rw [h, decide_eq_false_iff_not] at this
  omega

/-! ### A line -/
def firstsL : Nat → List UInt8
  | 0 => [50, 51, 52, 53]
  | 1 => [48, 49, 50, 51, 52, 53]
  | 2 => [48, 49, 50, 51, 52, 53, 54, 55, 56, 57]
  | _ => [45, 32]
def okF (s : List UInt8) (k : Nat) : Bool := decide (s.length ≤ k) || (firstsL k).contains (s.getD k 0)
def txC (b : UInt8) : Bool := b == 9 || (decide (32 ≤ b) && decide (b ≤ 126))
def okForm (s : List UInt8) : Bool := decide (3 ≤ s.length) && okF s 0 && okF s 1 && okF s 2 && okF s 3 && (s.drop 4).all txC
def dig (s : List UInt8) (k : Nat) : Nat := (s.getD k 0).toNat - 48
def codeR (s : List UInt8) : Nat := 100 * dig s 0 + 10 * dig s 1 + dig s 2
def moreR (s : List UInt8) : Bool := s.getD 3 0 == 45
def textR (s : List UInt8) : List UInt8 := s.drop 4
/-- What Parse tells: a line that may be, or none. -/
def parseV (s : List UInt8) : Value :=
  if okForm s then .tuple #[.int .i64 (codeR s : Int), .bool (moreR s), sv (textR s), .int .i64 0] else .tuple #[.int .i64 0, .bool false, sv [], .int .i64 4]

theorem okForm_at {s : List UInt8} {k : Nat} (h : okForm s = true) (hk : k < 4) : okF s k = true := by
  unfold okForm at h
  simp only [Bool.and_eq_true] at h
  obtain ⟨⟨⟨⟨⟨_, h0⟩, h1⟩, h2⟩, h3⟩, _⟩ := h
  match k, hk with
  | 0, _ => exact h0
  | 1, _ => exact h1
  | 2, _ => exact h2
  | 3, _ => exact h3
theorem okForm_no {s : List UInt8} {k : Nat} (hk : k < 4) (h : okF s k = false) : okForm s = false := by
  cases e : okForm s with
  | false => rfl
  | true => rw [okForm_at e hk] at h; cases h
theorem okForm_len {s : List UInt8} (h : okForm s = true) : 3 ≤ s.length := by
  unfold okForm at h
  simp only [Bool.and_eq_true, decide_eq_true_eq] at h
  exact h.1.1.1.1.1
theorem okForm_text {s : List UInt8} (h : okForm s = true) : (textR s).all txC = true := by
  unfold okForm at h
  simp only [Bool.and_eq_true] at h
  exact h.2
theorem okForm_all {s : List UInt8} (hl : 3 ≤ s.length) (h : ∀ k, k < 4 → okF s k = true) (ht : (s.drop 4).all txC = true) : okForm s = true := by
  unfold okForm
  rw [h 0 (by omega), h 1 (by omega), h 2 (by omega), h 3 (by omega), ht, decide_eq_true hl]
  rfl
/-- The digits' bounds. -/
theorem okF_low {s : List UInt8} {k : Nat} (hk : k < 3) (hl : k < s.length) (h : okF s k = true) : 48 ≤ (s.getD k 0).toNat ∧ (s.getD k 0).toNat ≤ 57 := by
  unfold okF at h
  rw [decide_eq_false (by omega), Bool.false_or] at h
  generalize s.getD k 0 = b at h
  match k, hk with
  | 0, _ =>
    simp only [firstsL, List.contains_eq_mem, List.mem_cons, List.mem_nil_iff, or_false, decide_eq_true_eq] at h
    rcases h with rfl | rfl | rfl | rfl <;> decide
  | 1, _ =>
    simp only [firstsL, List.contains_eq_mem, List.mem_cons, List.mem_nil_iff, or_false, decide_eq_true_eq] at h
    rcases h with rfl | rfl | rfl | rfl | rfl | rfl <;> decide
  | 2, _ =>
    simp only [firstsL, List.contains_eq_mem, List.mem_cons, List.mem_nil_iff, or_false, decide_eq_true_eq] at h
    rcases h with rfl | rfl | rfl | rfl | rfl | rfl | rfl | rfl | rfl | rfl <;> decide
theorem okF_first {s : List UInt8} (hl : 0 < s.length) (h : okF s 0 = true) : 50 ≤ (s.getD 0 0).toNat ∧ (s.getD 0 0).toNat ≤ 53 := by
  unfold okF at h
  rw [decide_eq_false (by omega), Bool.false_or] at h
  generalize s.getD 0 0 = b at h
  simp only [firstsL, List.contains_eq_mem, List.mem_cons, List.mem_nil_iff, or_false, decide_eq_true_eq] at h
  rcases h with rfl | rfl | rfl | rfl <;> decide
theorem okF_fourth {s : List UInt8} (hl : 3 < s.length) (h : okF s 3 = true) : s.getD 3 0 = 45 ∨ s.getD 3 0 = 32 := by
  unfold okF at h
  rw [decide_eq_false (by omega), Bool.false_or] at h
  simpa only [firstsL, List.contains_eq_mem, List.mem_cons, List.mem_nil_iff, or_false, decide_eq_true_eq] using h
theorem codeR_bounds {s : List UInt8} (h : okForm s = true) : 200 ≤ codeR s ∧ codeR s ≤ 599 ∧ codeR s / 100 = dig s 0 := by
  have hl := okForm_len h
  have h0 := okF_first (by omega) (okForm_at h (k := 0) (by omega))
  have h1 := okF_low (k := 1) (by omega) (by omega) (okForm_at h (by omega))
  have h2 := okF_low (k := 2) (by omega) (by omega) (okForm_at h (by omega))
  unfold codeR dig
  omega

/-! ### A status -/
def digC (b : UInt8) : Bool := [48, 49, 50, 51, 52, 53, 54, 55, 56, 57].contains b
def dotC (b : UInt8) : Bool := [(46 : UInt8)].contains b
/-- How many bytes of these stand at a text's head. -/
def runC (p : UInt8 → Bool) (t : List UInt8) : Nat := (t.takeWhile p).length
def partC (p : List UInt8) : Bool := p == [48] || (!(p == []) && decide (p.length ≤ 3) && !(p.getD 0 0 == 48))
def classC (p : List UInt8) (code : Nat) : Bool := (p == [50] || p == [52] || p == [53]) && p == [UInt8.ofNat (48 + code / 100)]
/-- Where the status's five pieces end. -/
def cutA (t : List UInt8) : Nat := runC digC t
def cutB (t : List UInt8) : Nat := cutA t + runC dotC (t.drop (cutA t))
def cutC (t : List UInt8) : Nat := cutB t + runC digC (t.drop (cutB t))
def cutD (t : List UInt8) : Nat := cutC t + runC dotC (t.drop (cutC t))
def cutE (t : List UInt8) : Nat := cutD t + runC digC (t.drop (cutD t))
def piece (t : List UInt8) (i j : Nat) : List UInt8 := (t.take j).drop i
def endC (t : List UInt8) : Bool := decide (t.length ≤ cutE t) || t.getD (cutE t) 0 == 32
def statOk (code : Nat) (t : List UInt8) : Bool :=
  classC (piece t 0 (cutA t)) code && piece t (cutA t) (cutB t) == [46] && partC (piece t (cutB t) (cutC t)) && piece t (cutC t) (cutD t) == [46] && partC (piece t (cutD t) (cutE t)) && endC t
def statR (code : Nat) (t : List UInt8) : List UInt8 := if statOk code t then t.take (cutE t) else []

theorem runC_le (p : UInt8 → Bool) (t : List UInt8) : runC p t ≤ t.length := (List.takeWhile_sublist _).length_le
theorem cut_le (t : List UInt8) : cutA t ≤ cutB t ∧ cutB t ≤ cutC t ∧ cutC t ≤ cutD t ∧ cutD t ≤ cutE t ∧ cutE t ≤ t.length := by
  have h1 : cutA t ≤ t.length := runC_le _ _
  have h2 := runC_le dotC (t.drop (cutA t))
  have h3 := runC_le digC (t.drop (cutB t))
  have h4 := runC_le dotC (t.drop (cutC t))
  have h5 := runC_le digC (t.drop (cutD t))
  simp only [List.length_drop] at h2 h3 h4 h5
  have e2 : cutB t = cutA t + runC dotC (t.drop (cutA t)) := rfl
  have e3 : cutC t = cutB t + runC digC (t.drop (cutB t)) := rfl
  have e4 : cutD t = cutC t + runC dotC (t.drop (cutC t)) := rfl
  have e5 : cutE t = cutD t + runC digC (t.drop (cutD t)) := rfl
  omega
theorem runC_step {p : UInt8 → Bool} {t : List UInt8} {k : Nat} (hk : k < t.length) (h : p (t.getD k 0) = true) : runC p (t.drop k) = 1 + runC p (t.drop (k + 1)) := by
  rw [List.drop_eq_getElem_cons hk]
  rw [getD_str t k hk] at h
  unfold runC
  rw [List.takeWhile_cons, if_pos h, List.length_cons]
  omega
theorem runC_stop {p : UInt8 → Bool} {t : List UInt8} {k : Nat} (hk : k < t.length) (h : p (t.getD k 0) = false) : runC p (t.drop k) = 0 := by
  rw [List.drop_eq_getElem_cons hk]
  rw [getD_str t k hk] at h
  unfold runC
  rw [List.takeWhile_cons, if_neg (by rw [h]; simp)]
  rfl
theorem runC_end {p : UInt8 → Bool} {t : List UInt8} {k : Nat} (hk : t.length ≤ k) : runC p (t.drop k) = 0 := by
  rw [List.drop_eq_nil_of_le hk]; rfl

/-! ### A reader -/
/-- The lines of a reply that is not whole, its number; the last one that is: its number, status, texts; whether it is dead. -/
structure RS where
  ls : List (List UInt8)
  c : Nat
  lc : Nat
  lst : List UInt8
  lls : List (List UInt8)
  d : Bool
def rs0 : RS := ⟨[], 0, 0, [], [], false⟩
def badL (st : RS) (s : List UInt8) : Bool := !okForm s || (decide (0 < st.ls.length) && !(codeR s == st.c))
/-- What Line leaves. -/
def stepR (st : RS) (s : List UInt8) : RS :=
  if st.d then st
  else if badL st s then { st with ls := [], d := true }
  else if st.ls.length = 32 then { st with ls := [], d := true }
  else if moreR s then { st with ls := st.ls ++ [textR s], c := codeR s }
  else { st with ls := [], c := codeR s, lc := codeR s, lst := statR (codeR s) (textR s), lls := st.ls ++ [textR s] }
def doneR (st : RS) (s : List UInt8) : Bool := !st.d && !badL st s && !decide (st.ls.length = 32) && !moreR s
def errR (st : RS) (s : List UInt8) : Int :=
  if st.d then 7 else if badL st s then 4 else if st.ls.length = 32 then 40 else 0
def takenR (st : RS) : RS := { st with lc := 0, lst := [], lls := [] }
end Go.Proofs.YtanfonpbnamjmaaDoor
