/-
  Things in things, plainly: lengths, tags, what is put and what is cut.
  Whole numbers of the fewest bytes, plainly; the document's own way to them.
  Things one behind the other, plainly: what is handed over, what All makes of it.
-/
import Derived.Test.YtnaoandleelbkaaGreatDoorBase
namespace Go.Proofs.YtnaoandleelbkaaGreatDoor
open Go Go.RowKit

set_option maxRecDepth 100000
set_option linter.unusedSimpArgs false
set_option linter.unusedVariables false

/-- Whether there is such a tag. -/
def tagB (t : UInt8) : Bool := t.toNat % 32 != 31
/-- A length's bytes. -/
def lenL (n : Nat) : List UInt8 := if n ≤ 127 then [UInt8.ofNat n] else if n ≤ 255 then [129, UInt8.ofNat n] else [130, UInt8.ofNat (n / 256), UInt8.ofNat n]
/-- A thing: its tag, its value. -/
abbrev Tv := UInt8 × List UInt8
/-- Put's error's number. -/
def putE (t : UInt8) (v : List UInt8) : Nat := if tagB t = false then 4 else if 65535 < v.length then 40 else 0
def putT (t : UInt8) (v : List UInt8) : List UInt8 := t :: (lenL v.length ++ v)
def putL (t : UInt8) (v : List UInt8) : List UInt8 := if putE t v = 0 then putT t v else []

/-- What is read, or the error's number. -/
inductive Rd (α : Type) where
  | ok (a : α)
  | er (e : Nat)
/-- The number that these bytes tell, the great end first, behind n. -/
def numF (n : Nat) : List UInt8 → Nat
  | [] => n
  | b :: l => numF (n * 256 + b.toNat) l
def cutNum (s : List UInt8) (many least : Nat) : Rd (Nat × List UInt8) :=
  if 0 < s.length ∧ (s.getD 0 0).toNat < least then .er 4 else if s.length < many then .er 8 else .ok (numF 0 (s.take many), s.drop many)
def cutLen : List UInt8 → Rd (Nat × List UInt8)
  | [] => .er 8
  | b :: r => if b.toNat ≤ 127 then .ok (b.toNat, r) else if b = 129 then cutNum r 1 128 else if b = 130 then cutNum r 2 1 else .er 4
def cutP : List UInt8 → Rd (Tv × List UInt8)
  | [] => .er 8
  | t :: r => if tagB t = false then .er 4 else match cutLen r with
    | .er e => .er e
    | .ok (n, q) => if q.length < n then .er 8 else .ok ((t, q.take n), q.drop n)

theorem cutLen_cons (b : UInt8) (r : List UInt8) : cutLen (b :: r) = if b.toNat ≤ 127 then .ok (b.toNat, r) else if b = 129 then cutNum r 1 128 else if b = 130 then cutNum r 2 1 else .er 4 := rfl
theorem cutP_cons (t : UInt8) (r : List UInt8) : cutP (t :: r) = if tagB t = false then .er 4 else match cutLen r with
    | .er e => .er e
    | .ok (n, q) => if q.length < n then .er 8 else .ok ((t, q.take n), q.drop n) := rfl
theorem u8_ofNat_toNat (n : Nat) (h : n < 256) : (UInt8.ofNat n).toNat = n := by simp; omega
theorem lenL_length (n : Nat) : 1 ≤ (lenL n).length ∧ (lenL n).length ≤ 3 := by
  unfold lenL; split
  · simp
  · split <;> simp
theorem putT_length (t : UInt8) (v : List UInt8) : (putT t v).length = 1 + (lenL v.length).length + v.length := by simp [putT]; omega

theorem cutLen_len (n : Nat) (hn : n ≤ 65535) (q : List UInt8) : cutLen (lenL n ++ q) = .ok (n, q) := by
  unfold lenL
  by_cases h1 : n ≤ 127
  · rw [if_pos h1]
    show cutLen (UInt8.ofNat n :: q) = _
    rw [cutLen_cons]
    rw [u8_ofNat_toNat n (by omega), if_pos h1]
  · rw [if_neg h1]
    by_cases h2 : n ≤ 255
    · rw [if_pos h2]
      show cutLen (129 :: UInt8.ofNat n :: q) = _
      rw [cutLen_cons]
      rw [if_neg (by decide), if_pos rfl]
      unfold cutNum
      have e : ((UInt8.ofNat n :: q).getD 0 0).toNat = n := u8_ofNat_toNat n (by omega)
      rw [if_neg (by rw [e]; omega), if_neg (by simp)]
      simp only [List.take_succ_cons, List.take_zero, List.drop_succ_cons, List.drop_zero, numF]
      rw [u8_ofNat_toNat n (by omega)]; simp
    · rw [if_neg h2]
      show cutLen (130 :: UInt8.ofNat (n / 256) :: UInt8.ofNat n :: q) = _
      rw [cutLen_cons]
      rw [if_neg (by decide), if_neg (by decide), if_pos rfl]
      unfold cutNum
      have e : ((UInt8.ofNat (n / 256) :: UInt8.ofNat n :: q).getD 0 0).toNat = n / 256 := u8_ofNat_toNat _ (by omega)
      rw [if_neg (by rw [e]; omega), if_neg (by simp)]
      simp only [List.take_succ_cons, List.take_zero, List.drop_succ_cons, List.drop_zero, numF]
      rw [u8_ofNat_toNat _ (by omega)]
      have : (UInt8.ofNat n).toNat = n % 256 := by simp
      rw [this]
      congr 2
      omega
theorem cutP_put (t : UInt8) (v s : List UInt8) (ht : tagB t = true) (hv : v.length ≤ 65535) : cutP (putT t v ++ s) = .ok ((t, v), s) := by
  show cutP (t :: ((lenL v.length ++ v) ++ s)) = _
  rw [cutP_cons]
  rw [if_neg (by simp [ht]), List.append_assoc, cutLen_len _ hv]
  simp

theorem u8_eq {a b : UInt8} (h : a.toNat = b.toNat) : a = b := UInt8.toNat_inj.1 h
theorem ofNat_toNat8 (b : UInt8) : UInt8.ofNat b.toNat = b := by simp
theorem cutLen_ok {s q : List UInt8} {n : Nat} (h : cutLen s = .ok (n, q)) : n ≤ 65535 ∧ s = lenL n ++ q := by
  cases s with
  | nil => simp [cutLen] at h
  | cons b r =>
    rw [cutLen_cons] at h
    have hb := b.toNat_lt
    split at h
    · next h1 =>
      simp only [Rd.ok.injEq, Prod.mk.injEq] at h
      obtain ⟨rfl, rfl⟩ := h
      refine ⟨by omega, ?_⟩
      unfold lenL
      rw [if_pos h1, ofNat_toNat8]; rfl
    · split at h
      · next _ h2 =>
        subst h2
        unfold cutNum at h
        split at h
        · simp at h
        · next h3 =>
          split at h
          · simp at h
          · next h4 =>
            simp only [Rd.ok.injEq, Prod.mk.injEq] at h
            cases r with
            | nil => simp at h4
            | cons x r =>
              simp at h3 h
              obtain ⟨rfl, rfl⟩ := h
              have hx := x.toNat_lt
              simp only [numF, Nat.zero_mul, Nat.zero_add]
              refine ⟨by omega, ?_⟩
              unfold lenL
              rw [if_neg (by omega), if_pos (by omega), ofNat_toNat8]; rfl
      · split at h
        · next _ _ h2 =>
          subst h2
          unfold cutNum at h
          split at h
          · simp at h
          · next h3 =>
            split at h
            · simp at h
            · next h4 =>
              simp only [Rd.ok.injEq, Prod.mk.injEq] at h
              match r, h3, h4, h with
              | [], _, h4, _ => simp at h4
              | [_], _, h4, _ => simp at h4
              | x :: y :: r, h3, _, h =>
                simp at h3 h
                obtain ⟨rfl, rfl⟩ := h
                have hx := x.toNat_lt
                have hy := y.toNat_lt
                simp only [numF, Nat.zero_mul, Nat.zero_add]
                have hx1 : 1 ≤ x.toNat := by omega
                refine ⟨by omega, ?_⟩
                unfold lenL
                rw [if_neg (by omega), if_neg (by omega), show (x.toNat * 256 + y.toNat) / 256 = x.toNat by omega, ofNat_toNat8]
                congr 3
                apply u8_eq
                simp
        · simp at h
theorem cutP_ok {s r v : List UInt8} {t : UInt8} (h : cutP s = .ok ((t, v), r)) : tagB t = true ∧ v.length ≤ 65535 ∧ s = putT t v ++ r := by
  cases s with
  | nil => simp [cutP] at h
  | cons b q =>
    rw [cutP_cons] at h
    split at h
    · simp at h
    · next h1 =>
      cases hc : cutLen q with
      | er e => rw [hc] at h; simp at h
      | ok p =>
        obtain ⟨n, q2⟩ := p
        rw [hc] at h
        simp only at h
        split at h
        · simp at h
        · next h2 =>
          simp only [Rd.ok.injEq, Prod.mk.injEq] at h
          obtain ⟨⟨rfl, rfl⟩, rfl⟩ := h
          obtain ⟨hn, rfl⟩ := cutLen_ok hc
          have hl : (q2.take n).length = n := by simp; omega
          refine ⟨by simpa using h1, by omega, ?_⟩
          unfold putT
          rw [hl]
          simp
/-- Errors are 4 or 8. -/
theorem cutNum_er {s : List UInt8} {m l e : Nat} (h : cutNum s m l = .er e) : e = 4 ∨ e = 8 := by
  unfold cutNum at h
  split at h
  · simp at h; omega
  · split at h
    · simp at h; omega
    · simp at h
theorem cutLen_er {s : List UInt8} {e : Nat} (h : cutLen s = .er e) : e = 4 ∨ e = 8 := by
  cases s with
  | nil => simp [cutLen] at h; omega
  | cons b r =>
    rw [cutLen_cons] at h
    split at h
    · simp at h
    · split at h
      · exact cutNum_er h
      · split at h
        · exact cutNum_er h
        · simp at h; omega
theorem cutP_er {s : List UInt8} {e : Nat} (h : cutP s = .er e) : e = 4 ∨ e = 8 := by
  cases s with
  | nil => simp [cutP] at h; omega
  | cons b q =>
    rw [cutP_cons] at h
    split at h
    · simp at h; omega
    · cases hc : cutLen q with
      | er e => rw [hc] at h; simp at h; subst h; exact cutLen_er hc
      | ok p =>
        rw [hc] at h
        simp only at h
        split at h
        · simp at h; omega
        · simp at h

/-- A thing's bytes, cut within, are short. -/
theorem cutLen_short (n : Nat) (hn : n ≤ 65535) (k : Nat) (hk : k < (lenL n).length) : cutLen ((lenL n).take k) = .er 8 := by
  unfold lenL at hk ⊢
  by_cases h1 : n ≤ 127
  · rw [if_pos h1] at hk ⊢
    simp at hk; subst hk; rfl
  · rw [if_neg h1] at hk ⊢
    by_cases h2 : n ≤ 255
    · rw [if_pos h2] at hk ⊢
      simp at hk
      rcases (by omega : k = 0 ∨ k = 1) with rfl | rfl <;> rfl
    · rw [if_neg h2] at hk ⊢
      simp at hk
      rcases (by omega : k = 0 ∨ k = 1 ∨ k = 2) with rfl | rfl | rfl
      · rfl
      · rfl
      · show cutLen [130, UInt8.ofNat (n / 256)] = _
        rw [cutLen_cons]
        rw [if_neg (by decide), if_neg (by decide), if_pos rfl]
        unfold cutNum
        have e : ([UInt8.ofNat (n / 256)].getD 0 0).toNat = n / 256 := u8_ofNat_toNat _ (by omega)
        rw [if_neg (by rw [e]; omega), if_pos (by simp)]
theorem cutP_short (t : UInt8) (v : List UInt8) (ht : tagB t = true) (hv : v.length ≤ 65535) (k : Nat) (hk : k < (putT t v).length) : cutP ((putT t v).take k) = .er 8 := by
  cases k with
  | zero => rfl
  | succ k =>
    unfold putT
    rw [List.take_succ_cons]
    rw [cutP_cons]
    rw [if_neg (by simp [ht])]
    rw [putT_length] at hk
    by_cases h : k < (lenL v.length).length
    · rw [List.take_append_of_le_length (by omega), cutLen_short _ hv _ h]
    · have e : (lenL v.length ++ v).take k = lenL v.length ++ v.take (k - (lenL v.length).length) := by
        rw [List.take_append, List.take_of_length_le (by omega)]
      rw [e, cutLen_len _ hv]
      simp only
      rw [if_pos (by simp; omega)]

/-- Two things' bytes. -/
theorem put_begins {t u : UInt8} {v x : List UInt8} (ht : tagB t = true) (hv : v.length ≤ 65535) (hu : tagB u = true) (hx : x.length ≤ 65535) (h : putT t v <+: putT u x) : t = u ∧ v = x := by
  obtain ⟨s, hs⟩ := h
  have h1 := cutP_put t v s ht hv
  have h2 := cutP_put u x [] hu hx
  rw [hs] at h1
  rw [List.append_nil] at h2
  rw [h1] at h2
  simp only [Rd.ok.injEq, Prod.mk.injEq] at h2
  exact h2.1
end Go.Proofs.YtnaoandleelbkaaGreatDoor

namespace Go.Proofs.YtnaoandleelbkaaGreatDoor
open Go Go.RowKit

set_option maxRecDepth 100000
set_option linter.unusedSimpArgs false
set_option linter.unusedVariables false
/-- A byte, as a number with a sign. -/
def sgn (b : UInt8) : Int := if b.toNat < 128 then b.toNat else (b.toNat : Int) - 256
/-- The number that these bytes tell, behind n. -/
def numI (n : Int) : List UInt8 → Int
  | [] => n
  | b :: l => numI (n * 256 + b.toNat) l
/-- A whole number's value. -/
def intF : Nat → Int → List UInt8
  | 0, n => [UInt8.ofNat (n % 256).toNat]
  | k + 1, n => if -128 ≤ n ∧ n < 128 then [UInt8.ofNat (n % 256).toNat] else intF k (n / 256) ++ [UInt8.ofNat (n % 256).toNat]
def intL (n : Int) : List UInt8 := intF 7 n
/-- The number of a value. -/
def valL : List UInt8 → Int
  | [] => 0
  | b :: l => numI (sgn b) l
/-- The number that is read, if the value tells one. -/
def readB (s : List UInt8) : Bool := decide (0 < s.length ∧ s.length ≤ 8) && (intL (valL s) == s)
def readN (s : List UInt8) : Int := if readB s then valL s else 0
def fits (k : Nat) (n : Int) : Prop := -(128 * 256 ^ k : Int) ≤ n ∧ n < 128 * 256 ^ k

theorem sgn_byte (n : Int) (h : -128 ≤ n ∧ n < 128) : sgn (UInt8.ofNat (n % 256).toNat) = n := by
  have e : (UInt8.ofNat (n % 256).toNat).toNat = (n % 256).toNat := by simp; omega
  unfold sgn
  rw [e]
  split <;> omega
theorem byte_sgn (b : UInt8) : UInt8.ofNat (sgn b % 256).toNat = b := by
  have h := b.toNat_lt
  have e : (sgn b % 256).toNat = b.toNat := by unfold sgn; split <;> omega
  rw [e]; simp
theorem sgn_fits (b : UInt8) : -128 ≤ sgn b ∧ sgn b < 128 := by
  have h := b.toNat_lt
  unfold sgn; split <;> omega
theorem low_toNat (n : Int) : ((UInt8.ofNat (n % 256).toNat).toNat : Int) = n % 256 := by
  have e : (UInt8.ofNat (n % 256).toNat).toNat = (n % 256).toNat := by simp; omega
  rw [e]; omega
theorem numI_snoc (n : Int) (l : List UInt8) (b : UInt8) : numI n (l ++ [b]) = numI n l * 256 + b.toNat := by
  induction l generalizing n with
  | nil => rfl
  | cons a l ih => exact ih _
theorem valL_snoc {l : List UInt8} (h : l ≠ []) (b : UInt8) : valL (l ++ [b]) = valL l * 256 + b.toNat := by
  cases l with
  | nil => exact absurd rfl h
  | cons a l => exact numI_snoc _ _ _
theorem fits_step {k : Nat} {n : Int} (h : fits (k + 1) n) : fits k (n / 256) := by
  unfold fits at h ⊢
  rw [Int.pow_succ] at h
  generalize (256 : Int) ^ k = p at h ⊢
  omega
theorem intF_ne (k : Nat) (n : Int) : intF k n ≠ [] := by
  cases k with
  | zero => simp [intF]
  | succ k => unfold intF; split <;> simp
theorem intF_length (k : Nat) (n : Int) : 1 ≤ (intF k n).length ∧ (intF k n).length ≤ k + 1 := by
  induction k generalizing n with
  | zero => simp [intF]
  | succ k ih =>
    unfold intF; split
    · simp
    · have := ih (n / 256); simp; omega
theorem valL_intF (k : Nat) (n : Int) (h : fits k n) : valL (intF k n) = n := by
  induction k generalizing n with
  | zero =>
    unfold fits at h
    show sgn _ = n
    exact sgn_byte n (by simpa using h)
  | succ k ih =>
    unfold intF; split
    · next h1 => exact sgn_byte n h1
    · rw [valL_snoc (intF_ne _ _), ih _ (fits_step h), low_toNat]; omega
/-- More steps than are wanted change nothing. -/
theorem intF_more (k m : Nat) (n : Int) (h : fits k n) : intF (k + m) n = intF k n := by
  induction k generalizing n with
  | zero =>
    unfold fits at h
    cases m with
    | zero => rfl
    | succ m => show intF (0 + m + 1) n = _; unfold intF; rw [if_pos (by simpa using h)]
  | succ k ih =>
    rw [show k + 1 + m = (k + m) + 1 by omega]
    unfold intF
    rw [ih _ (fits_step h)]
theorem fits64 {n : Int} (h : -9223372036854775808 ≤ n ∧ n < 9223372036854775808) : fits 7 n := by
  unfold fits
  have e : (256 : Int) ^ 7 = 72057594037927936 := by decide
  rw [e]; omega
theorem valL_intL {n : Int} (h : -9223372036854775808 ≤ n ∧ n < 9223372036854775808) : valL (intL n) = n := valL_intF 7 n (fits64 h)
theorem intL_length (n : Int) : 1 ≤ (intL n).length ∧ (intL n).length ≤ 8 := intF_length 7 n
theorem readB_intL {n : Int} (h : -9223372036854775808 ≤ n ∧ n < 9223372036854775808) : readB (intL n) = true := by
  unfold readB
  rw [valL_intL h]
  have := intL_length n
  simp; omega
theorem intL_inj {n m : Int} (h : -9223372036854775808 ≤ n ∧ n < 9223372036854775808) (h2 : -9223372036854775808 ≤ m ∧ m < 9223372036854775808) (e : intL n = intL m) : n = m := by
  rw [← valL_intL h, e, valL_intL h2]
theorem intF_mono (k : Nat) (n m : Int) (h0 : 0 ≤ n) (h : n ≤ m) : (intF k n).length ≤ (intF k m).length := by
  induction k generalizing n m with
  | zero => simp [intF]
  | succ k ih =>
    by_cases h1 : n < 128
    · have e : intF (k + 1) n = [UInt8.ofNat (n % 256).toNat] := by unfold intF; rw [if_pos (by omega)]
      rw [e]
      exact (intF_length _ _).1
    · unfold intF
      rw [if_neg (by omega), if_neg (by omega)]
      have := ih (n / 256) (m / 256) (by omega) (by omega)
      simp; omega
/-! ### The fewest bytes -/
/-- The first bytes say something. -/
def minB : List UInt8 → Bool
  | a :: b :: _ => !((a == 0 && decide (b.toNat < 128)) || (a == 255 && decide (128 ≤ b.toNat)))
  | _ => true
theorem numI_fits (k : Nat) (n : Int) (l : List UInt8) (h : fits k n) : fits (k + l.length) (numI n l) := by
  induction l generalizing n k with
  | nil => exact h
  | cons b l ih =>
    have := ih (k + 1) (n * 256 + b.toNat) (by
      unfold fits at h ⊢
      have hb := b.toNat_lt
      rw [Int.pow_succ]
      generalize (256 : Int) ^ k = p at h ⊢
      omega)
    rw [show k + (b :: l).length = k + 1 + l.length by simp; omega]
    exact this
theorem valL_fits (b : UInt8) (l : List UInt8) : fits l.length (valL (b :: l)) := by
  have := numI_fits 0 (sgn b) l (by unfold fits; simpa using sgn_fits b)
  rwa [Nat.zero_add] at this
theorem min_snoc {l : List UInt8} (h : 2 ≤ l.length) (b : UInt8) : minB (l ++ [b]) = minB l := by
  match l, h with
  | _ :: _ :: _, _ => rfl
/-- What is told by two bytes or more, the fewest, is no number of one. -/
theorem min_big (l : List UInt8) (x : UInt8) (hl : l ≠ []) (h : minB (l ++ [x]) = true) : ¬ (-128 ≤ valL (l ++ [x]) ∧ valL (l ++ [x]) < 128) := by
  induction hn : l.length using Nat.strongRecOn generalizing l x with
  | _ n ih =>
    rw [valL_snoc hl]
    have hx := x.toNat_lt
    have hv : valL l ≠ 0 ∨ 128 ≤ x.toNat := by
      by_cases h2 : 2 ≤ l.length
      · obtain ⟨m, y, rfl⟩ : ∃ m y, l = m ++ [y] := ⟨l.dropLast, l.getLast hl, (List.dropLast_concat_getLast hl).symm⟩
        have hm : m ≠ [] := by intro e; subst e; simp at h2
        rw [min_snoc h2] at h
        have := ih m.length (by rw [← hn]; simp) m y hm h rfl
        left; intro e; rw [e] at this; omega
      · match l, hl, h2, h with
        | [a], _, _, h =>
          simp [minB] at h
          by_cases ha : valL [a] = 0
          · right
            have : a = 0 := by
              apply UInt8.toNat_inj.1
              have hab := a.toNat_lt
              simp only [valL, numI, sgn] at ha
              split at ha
              · simpa using ha
              · omega
            rcases h.1 with q | q
            · exact absurd this q
            · exact q
          · left; exact ha
        | _ :: _ :: _, _, h2, _ => simp at h2
    have hw : valL l ≠ -1 ∨ x.toNat < 128 := by
      by_cases h2 : 2 ≤ l.length
      · obtain ⟨m, y, rfl⟩ : ∃ m y, l = m ++ [y] := ⟨l.dropLast, l.getLast hl, (List.dropLast_concat_getLast hl).symm⟩
        have hm : m ≠ [] := by intro e; subst e; simp at h2
        rw [min_snoc h2] at h
        have := ih m.length (by rw [← hn]; simp) m y hm h rfl
        left; intro e; rw [e] at this; omega
      · match l, hl, h2, h with
        | [a], _, _, h =>
          simp [minB] at h
          by_cases ha : valL [a] = -1
          · right
            have : a = 255 := by
              apply UInt8.toNat_inj.1
              have hab := a.toNat_lt
              simp only [valL, numI, sgn] at ha
              split at ha
              · omega
              · show a.toNat = 255; omega
            rcases h.2 with q | q
            · exact absurd this q
            · exact q
          · left; exact ha
        | _ :: _ :: _, _, h2, _ => simp at h2
    intro hc
    omega
theorem min_back (k : Nat) (s : List UInt8) (h0 : s ≠ []) (hk : s.length ≤ k + 1) (h : minB s = true) : intF k (valL s) = s := by
  induction k generalizing s with
  | zero =>
    match s, h0, hk with
    | [b], _, _ => show [UInt8.ofNat (sgn b % 256).toNat] = [b]; rw [byte_sgn]
    | _ :: _ :: _, _, hk => simp at hk
  | succ k ih =>
    obtain ⟨m, x, rfl⟩ : ∃ m x, s = m ++ [x] := ⟨s.dropLast, s.getLast h0, (List.dropLast_concat_getLast h0).symm⟩
    by_cases hm : m = []
    · subst hm
      show intF (k + 1) (sgn x) = [x]
      unfold intF
      rw [if_pos (sgn_fits x), byte_sgn]
    · have hb := min_big m x hm h
      have hx := x.toNat_lt
      unfold intF
      rw [if_neg hb, valL_snoc hm, show (valL m * 256 + (x.toNat : Int)) / 256 = valL m by omega, show ((valL m * 256 + (x.toNat : Int)) % 256).toNat = x.toNat by omega]
      have hmm : minB m = true := by
        by_cases h2 : 2 ≤ m.length
        · rwa [min_snoc h2] at h
        · match m, hm, h2 with
          | [a], _, _ => rfl
          | _ :: _ :: _, _, h2 => simp at h2
      rw [ih m hm (by simp at hk; omega) hmm]
      simp
theorem min_intF (k : Nat) (n : Int) (h : fits k n) : minB (intF k n) = true := by
  induction k generalizing n with
  | zero => rfl
  | succ k ih =>
    unfold intF; split
    · rfl
    · next h1 =>
      have h2 := ih _ (fits_step h)
      have hv := valL_intF _ _ (fits_step h)
      by_cases h3 : 2 ≤ (intF k (n / 256)).length
      · rw [min_snoc h3]; exact h2
      · have h4 := intF_length k (n / 256)
        obtain ⟨a, ha⟩ : ∃ a, intF k (n / 256) = [a] := by
          match hq : intF k (n / 256), h3, h4 with
          | [a], _, _ => exact ⟨a, rfl⟩
          | _ :: _ :: _, h3, _ => simp at h3
          | [], _, h4 => simp at h4
        rw [ha] at hv ⊢
        have hv' : sgn a = n / 256 := hv
        have hl := low_toNat n
        show (!((a == 0 && decide ((UInt8.ofNat (n % 256).toNat).toNat < 128)) || (a == 255 && decide (128 ≤ (UInt8.ofNat (n % 256).toNat).toNat)))) = true
        generalize UInt8.ofNat (n % 256).toNat = q at hl ⊢
        simp only [Bool.not_eq_true', Bool.or_eq_false_iff, Bool.and_eq_false_iff, beq_eq_false_iff_ne, decide_eq_false_iff_not]
        refine ⟨?_, ?_⟩
        · by_cases e : a = 0
          · right; subst e
            have : sgn 0 = 0 := rfl
            omega
          · exact .inl e
        · by_cases e : a = 255
          · right; subst e
            have : sgn 255 = -1 := rfl
            omega
          · exact .inl e
theorem readB_iff (s : List UInt8) : readB s = (decide (0 < s.length ∧ s.length ≤ 8) && minB s) := by
  by_cases h : 0 < s.length ∧ s.length ≤ 8
  · unfold readB
    have h0 : s ≠ [] := by intro e; subst e; simp at h
    rw [decide_eq_true h]
    simp only [Bool.true_and]
    cases hm : minB s with
    | true => rw [beq_iff_eq]; exact min_back 7 s h0 (by omega) hm
    | false =>
      rw [beq_eq_false_iff_ne]
      intro e
      have hf : fits 7 (valL s) := by
        cases s with
        | nil => exact absurd rfl h0
        | cons b l =>
          have := valL_fits b l
          unfold fits at this ⊢
          have hl : l.length ≤ 7 := by have := h.2; simp at this; omega
          have hp : (256 : Int) ^ l.length ≤ 256 ^ 7 := by exact_mod_cast Nat.pow_le_pow_right (by omega) hl
          omega
      have := min_intF 7 _ hf
      rw [show intF 7 (valL s) = intL (valL s) from rfl, e] at this
      rw [this] at hm; cases hm
  · unfold readB; rw [decide_eq_false h]; rfl
/-! ### The document's -/
/-- Eight bytes of a number, the great end first. -/
def bytesU : Nat → Nat → List UInt8
  | _, 0 => []
  | u, k + 1 => bytesU (u / 256) k ++ [UInt8.ofNat (u % 256)]
/-- Less those that say nothing. -/
def lessF : Nat → List UInt8 → List UInt8
  | 0, s => s
  | k + 1, s => if minB s then s else lessF k (s.drop 1)
theorem lessF_min (k : Nat) (s : List UInt8) (h : s.length ≤ k + 1) : minB (lessF k s) = true := by
  induction k generalizing s with
  | zero =>
    match s, h with
    | [], _ => rfl
    | [_], _ => rfl
  | succ k ih =>
    unfold lessF; split
    · assumption
    · exact ih _ (by simp; omega)
theorem drop_val {s : List UInt8} (h : minB s = false) : s.drop 1 ≠ [] ∧ valL (s.drop 1) = valL s := by
  match s, h with
  | a :: b :: l, h =>
    refine ⟨by simp, ?_⟩
    show numI (sgn b) l = numI (sgn a * 256 + b.toNat) l
    have hb := b.toNat_lt
    congr 1
    simp only [minB, Bool.not_eq_false', Bool.or_eq_true, Bool.and_eq_true, beq_iff_eq, decide_eq_true_eq] at h
    rcases h with ⟨rfl, h⟩ | ⟨rfl, h⟩
    · unfold sgn; rw [if_pos h]; simp
    · have e : sgn 255 = -1 := rfl
      rw [e]; unfold sgn; rw [if_neg (by omega)]; omega
theorem lessF_val (k : Nat) (s : List UInt8) (h : s ≠ []) : lessF k s ≠ [] ∧ valL (lessF k s) = valL s ∧ (lessF k s).length ≤ s.length := by
  induction k generalizing s with
  | zero => exact ⟨h, rfl, Nat.le_refl _⟩
  | succ k ih =>
    unfold lessF; split
    · exact ⟨h, rfl, Nat.le_refl _⟩
    · next hm =>
      obtain ⟨h1, h2⟩ := drop_val (by simpa using hm)
      obtain ⟨h3, h4, h5⟩ := ih _ h1
      refine ⟨h3, by rw [h4, h2], ?_⟩
      rw [List.length_drop] at h5
      omega
theorem bytesU_length (u k : Nat) : (bytesU u k).length = k := by
  induction k generalizing u with
  | zero => rfl
  | succ k ih => simp [bytesU, ih]
theorem valL_bytesU (k : Nat) (n : Int) (h : fits k n) (u : Nat) (hu : (u : Int) % 256 ^ (k + 1) = n % 256 ^ (k + 1)) : valL (bytesU u (k + 1)) = n := by
  induction k generalizing n u with
  | zero =>
    show sgn (UInt8.ofNat (u % 256)) = n
    have e : UInt8.ofNat (u % 256) = UInt8.ofNat (n % 256).toNat := by congr 1; simp at hu; omega
    rw [e]
    unfold fits at h
    exact sgn_byte n (by simpa using h)
  | succ k ih =>
    have hb : (bytesU (u / 256) (k + 1)) ≠ [] := by intro e; have := bytesU_length (u / 256) (k + 1); rw [e] at this; simp at this
    show valL (bytesU (u / 256) (k + 1) ++ [UInt8.ofNat (u % 256)]) = n
    have hu2 : (u : Int) % 256 = n % 256 := by
      have d : (256 : Int) ∣ 256 ^ (k + 1 + 1) := ⟨256 ^ (k + 1), by rw [Int.pow_succ, Int.mul_comm]⟩
      rw [← Int.emod_emod_of_dvd _ d, hu, Int.emod_emod_of_dvd _ d]
    rw [valL_snoc hb, ih (n / 256) (fits_step h) (u / 256) ?_]
    · have : ((UInt8.ofNat (u % 256)).toNat : Int) = (u : Int) % 256 := by simp
      rw [this, hu2]; omega
    · push_cast
      have key : ∀ z : Int, z / 256 % 256 ^ (k + 1) = z % 256 ^ (k + 1 + 1) / 256 := by
        intro z
        rw [Int.pow_succ 256 (k + 1), Int.mul_comm (256 ^ (k + 1)) 256, Int.emod_def z (256 * _), Int.mul_assoc, Int.sub_mul_ediv_left _ _ (by decide), ← Int.ediv_ediv_of_nonneg (by decide), Int.emod_def]
      rw [key, key, hu]
theorem less_is (n : Int) (h : -9223372036854775808 ≤ n ∧ n < 9223372036854775808) (u : Nat) (hu : (u : Int) = n % 18446744073709551616) : lessF 7 (bytesU u 8) = intL n := by
  have e : (256 : Int) ^ (7 + 1) = 18446744073709551616 := by decide
  have hv := valL_bytesU 7 n (fits64 h) u (by rw [e, hu]; omega)
  have hb : bytesU u 8 ≠ [] := by intro e; have := bytesU_length u 8; rw [e] at this; simp at this
  obtain ⟨h1, h2, h3⟩ := lessF_val 7 _ hb
  have h4 := lessF_min 7 (bytesU u 8) (by rw [bytesU_length]; decide)
  have := min_back 7 _ h1 (by rw [bytesU_length] at h3; exact h3) h4
  rw [h2, hv] at this
  exact this.symm
end Go.Proofs.YtnaoandleelbkaaGreatDoor

namespace Go.Proofs.YtnaoandleelbkaaGreatDoor
open Go Go.RowKit
set_option maxRecDepth 100000
set_option linter.unusedSimpArgs false
set_option linter.unusedVariables false

/-- What the iterator hands over: things, and why it ends. -/
def seqF : Nat → List UInt8 → List (Tv × Nat)
  | 0, _ => []
  | f + 1, s => if s.isEmpty then [] else match cutP s with
    | .er e => [((0, []), e)]
    | .ok (x, r) => (x, 0) :: seqF f r
def seqL (s : List UInt8) : List (Tv × Nat) := seqF s.length s
theorem cutP_shorter {s r v : List UInt8} {t : UInt8} (h : cutP s = .ok ((t, v), r)) : r.length + 2 ≤ s.length := by
  obtain ⟨h1, h2, rfl⟩ := cutP_ok h
  have h3 := putT_length t v
  have h4 := lenL_length v.length
  simp; omega
theorem seqF_more (f g : Nat) (s : List UInt8) (hf : s.length ≤ f) (hg : s.length ≤ g) : seqF f s = seqF g s := by
  induction f generalizing g s with
  | zero =>
    obtain rfl : s = [] := List.length_eq_zero_iff.1 (by omega)
    cases g with
    | zero => rfl
    | succ g => rfl
  | succ f ih =>
    cases g with
    | zero =>
      obtain rfl : s = [] := List.length_eq_zero_iff.1 (by omega)
      rfl
    | succ g =>
      unfold seqF
      by_cases he : s.isEmpty = true
      · rw [if_pos he, if_pos he]
      · rw [if_neg he, if_neg he]
        cases hc : cutP s with
        | er e => rfl
        | ok p =>
          obtain ⟨⟨t, v⟩, r⟩ := p
          have := cutP_shorter hc
          simp only
          rw [ih g r (by omega) (by omega)]
theorem seqL_nil : seqL [] = [] := rfl
theorem seqL_er {s : List UInt8} {e : Nat} (h0 : s ≠ []) (h : cutP s = .er e) : seqL s = [((0, []), e)] := by
  cases s with
  | nil => exact absurd rfl h0
  | cons b l => show seqF (l.length + 1) (b :: l) = _; unfold seqF; rw [h]; rfl
theorem seqL_ok {s r : List UInt8} {x : Tv} (h : cutP s = .ok (x, r)) : seqL s = (x, 0) :: seqL r := by
  have h1 := cutP_shorter (t := x.1) (v := x.2) h
  cases s with
  | nil => simp at h1
  | cons b l =>
    show seqF (l.length + 1) (b :: l) = _
    unfold seqF; rw [h]
    show (x, 0) :: seqF l.length r = _
    rw [seqF_more l.length r.length r (by simp at h1; omega) (Nat.le_refl _)]; rfl
theorem seqF_len (f : Nat) (s : List UInt8) : (seqF f s).length ≤ f := by
  induction f generalizing s with
  | zero => simp [seqF]
  | succ f ih =>
    unfold seqF
    split
    · simp
    · cases hc : cutP s with
      | er e => simp
      | ok p => have := ih p.2; simp; omega
theorem seqL_len (s : List UInt8) : (seqL s).length ≤ s.length := seqF_len _ _
/-- What All makes of what comes. -/
def allOf : List (Tv × Nat) → List Tv → Rd (List Tv)
  | [], acc => .ok acc
  | (x, e) :: L, acc => if e ≠ 0 then .er e else if acc.length = 64 then .er 40 else allOf L (acc ++ [x])
def allR (s : List UInt8) : Rd (List Tv) := allOf (seqL s) []
def okS (q : List (Tv × Nat)) : Prop := ∀ x ∈ q, x.2 = 0
theorem allOf_app (q L : List (Tv × Nat)) (acc : List Tv) (h : okS q) (hl : acc.length + q.length ≤ 64) : allOf (q ++ L) acc = allOf L (acc ++ q.map (·.1)) := by
  induction q generalizing acc with
  | nil => simp
  | cons x q ih =>
    obtain ⟨x, e⟩ := x
    have he : e = 0 := h (x, e) (by simp)
    subst he
    show (if (0 : Nat) ≠ 0 then _ else if acc.length = 64 then _ else allOf (q ++ L) (acc ++ [x])) = _
    rw [if_neg (by simp), if_neg (by simp at hl; omega), ih _ (fun y hy => h y (by simp [hy])) (by simp at hl ⊢; omega)]
    simp
theorem allR_done {s : List UInt8} (h : okS (seqL s)) (hl : (seqL s).length ≤ 64) : allR s = .ok ((seqL s).map (·.1)) := by
  have := allOf_app (seqL s) [] [] h (by simpa using hl)
  rw [List.append_nil] at this
  unfold allR; rw [this]; simp [allOf]
theorem allR_er {s : List UInt8} {q : List (Tv × Nat)} {x : Tv} {e : Nat} (hp : q ++ [(x, e)] <+: seqL s) (h : okS q) (hl : q.length ≤ 64) (he : e ≠ 0) : allR s = .er e := by
  obtain ⟨r, hr⟩ := hp
  unfold allR
  rw [← hr, List.append_assoc, allOf_app q _ [] h (by simpa using hl)]
  show (if e ≠ 0 then _ else _) = _
  rw [if_pos he]
theorem allR_many {s : List UInt8} {q : List (Tv × Nat)} {x : Tv} (hp : q ++ [(x, 0)] <+: seqL s) (h : okS q) (hl : q.length = 64) : allR s = .er 40 := by
  obtain ⟨r, hr⟩ := hp
  unfold allR
  rw [← hr, List.append_assoc, allOf_app q _ [] h (by simp; omega)]
  show (if (0 : Nat) ≠ 0 then _ else if (([] : List Tv) ++ q.map (·.1)).length = 64 then _ else _) = _
  rw [if_neg (by simp), if_pos (by simpa using hl)]
/-! ### Things one behind the other -/
def putsL : List Tv → List UInt8
  | [] => []
  | x :: l => putT x.1 x.2 ++ putsL l
def goodT (x : Tv) : Prop := tagB x.1 = true ∧ x.2.length ≤ 65535
theorem putsL_app (a b : List Tv) : putsL (a ++ b) = putsL a ++ putsL b := by
  induction a with
  | nil => rfl
  | cons x a ih => show putT x.1 x.2 ++ putsL (a ++ b) = _; rw [ih, ← List.append_assoc]; rfl
theorem seqL_puts (l : List Tv) (h : ∀ x ∈ l, goodT x) (s : List UInt8) : seqL (putsL l ++ s) = l.map (fun x => (x, 0)) ++ seqL s := by
  induction l with
  | nil => rfl
  | cons x l ih =>
    obtain ⟨h1, h2⟩ := h x (by simp)
    show seqL (putT x.1 x.2 ++ putsL l ++ s) = _
    rw [List.append_assoc, seqL_ok (cutP_put x.1 x.2 _ h1 h2), ih (fun y hy => h y (by simp [hy]))]
    rfl
theorem okS_map (l : List Tv) : okS (l.map (fun x => (x, 0))) := by
  intro x hx
  obtain ⟨y, _, rfl⟩ := List.mem_map.1 hx
  rfl
theorem allR_puts (l : List Tv) (h : ∀ x ∈ l, goodT x) : allR (putsL l) = if l.length ≤ 64 then .ok l else .er 40 := by
  have e := seqL_puts l h []
  rw [List.append_nil, seqL_nil, List.append_nil] at e
  by_cases hl : l.length ≤ 64
  · rw [if_pos hl, allR_done (by rw [e]; exact okS_map l) (by rw [e]; simpa using hl), e]
    simp [Function.comp_def]
  · rw [if_neg hl]
    have hs : l = l.take 64 ++ l.getD 64 (0, []) :: l.drop 65 := by
      have h64 : 64 < l.length := by omega
      rw [List.getD_eq_getElem?_getD, List.getElem?_eq_getElem h64]
      show l = l.take 64 ++ l[64] :: l.drop (64 + 1)
      rw [← List.drop_eq_getElem_cons h64, List.take_append_drop]
    refine allR_many (q := (l.take 64).map (fun x => (x, 0))) (x := l.getD 64 (0, [])) ?_ (okS_map _) (by simp; omega)
    refine ⟨(l.drop 65).map (fun x => (x, 0)), ?_⟩
    rw [e]
    conv => rhs; rw [hs]
    simp
/-- Where a thing ends. -/
def endsL : Nat → List Tv → List Nat
  | _, [] => []
  | n, x :: l => (n + (putT x.1 x.2).length) :: endsL (n + (putT x.1 x.2).length) l
/-- Cut at a place. -/
theorem seqL_cut (l : List Tv) (h : ∀ x ∈ l, goodT x) (at_ : Nat) (hat : at_ ≤ (putsL l).length) (n : Nat) :
    (at_ = 0 ∨ n + at_ ∈ endsL n l → okS (seqL ((putsL l).take at_))) ∧
    (¬ (at_ = 0 ∨ n + at_ ∈ endsL n l) → ∃ q, q ++ [((0, []), 8)] = seqL ((putsL l).take at_) ∧ okS q ∧ q.length ≤ l.length) ∧ (seqL ((putsL l).take at_)).length ≤ l.length := by
  induction l generalizing at_ n with
  | nil =>
    have : at_ = 0 := by simpa [putsL] using hat
    subst this
    exact ⟨fun _ x hx => by simp [putsL, seqL, seqF] at hx, fun h => absurd (.inl rfl) h, by simp [putsL, seqL, seqF]⟩
  | cons x l ih =>
    obtain ⟨h1, h2⟩ := h x (by simp)
    have hl : ∀ y ∈ l, goodT y := fun y hy => h y (by simp [hy])
    have hp2 : 2 ≤ (putT x.1 x.2).length := by have := putT_length x.1 x.2; have := lenL_length x.2.length; omega
    show _ ∧ _ ∧ (seqL ((putT x.1 x.2 ++ putsL l).take at_)).length ≤ _
    simp only [putsL, endsL, List.mem_cons]
    by_cases hz : at_ = 0
    · subst hz
      rw [List.take_zero, seqL_nil]
      exact ⟨fun _ x hx => (by cases hx), fun h => absurd (.inl rfl) h, Nat.zero_le _⟩
    · by_cases hc : at_ < (putT x.1 x.2).length
      · have e : (putT x.1 x.2 ++ putsL l).take at_ = (putT x.1 x.2).take at_ := List.take_append_of_le_length (by omega)
        rw [e, seqL_er (by intro e; have := congrArg List.length e; rw [List.length_take, List.length_nil] at this; omega) (cutP_short x.1 x.2 h1 h2 at_ hc)]
        have hends : ∀ (l : List Tv) (m k : Nat), k ∈ endsL m l → m < k := by
          intro l
          induction l with
          | nil => intro m k h; cases h
          | cons y l ih2 =>
            intro m k h
            have hp3 : 2 ≤ (putT y.1 y.2).length := by have := putT_length y.1 y.2; have := lenL_length y.2.length; omega
            simp only [endsL, List.mem_cons] at h
            rcases h with rfl | h
            · omega
            · have := ih2 _ _ h; omega
        refine ⟨?_, fun _ => ⟨[], rfl, (by intro x hx; cases hx), by simp⟩, by simp⟩
        rintro (h | h | h)
        · exact absurd h hz
        · omega
        · have := hends _ _ _ h; omega
      · obtain ⟨k, rfl⟩ : ∃ k, at_ = (putT x.1 x.2).length + k := ⟨at_ - (putT x.1 x.2).length, by omega⟩
        have e : (putT x.1 x.2 ++ putsL l).take ((putT x.1 x.2).length + k) = putT x.1 x.2 ++ (putsL l).take k := by
          rw [List.take_append, List.take_of_length_le (by omega)]; congr 2; omega
        rw [e, seqL_ok (cutP_put x.1 x.2 _ h1 h2)]
        obtain ⟨i1, i2, i3⟩ := ih hl k (by simp [putsL] at hat; omega) (n + (putT x.1 x.2).length)
        have hiff : ((putT x.1 x.2).length + k = 0 ∨ n + ((putT x.1 x.2).length + k) = n + (putT x.1 x.2).length ∨ n + ((putT x.1 x.2).length + k) ∈ endsL (n + (putT x.1 x.2).length) l) ↔ (k = 0 ∨ n + (putT x.1 x.2).length + k ∈ endsL (n + (putT x.1 x.2).length) l) := by
          rw [← Nat.add_assoc]
          constructor
          · rintro (h | h | h)
            · omega
            · exact .inl (by omega)
            · exact .inr h
          · rintro (h | h)
            · exact .inr (.inl (by omega))
            · exact .inr (.inr h)
        rw [hiff]
        refine ⟨fun h y hy => ?_, fun h => ?_, by simpa using i3⟩
        · rcases List.mem_cons.1 hy with rfl | hy
          · rfl
          · exact i1 h y hy
        · obtain ⟨q, h3, h4, h5⟩ := i2 h
          refine ⟨((x.1, x.2), 0) :: q, by rw [List.cons_append, h3], fun y hy => ?_, by simpa using h5⟩
          rcases List.mem_cons.1 hy with rfl | hy
          · rfl
          · exact h4 y hy
end Go.Proofs.YtnaoandleelbkaaGreatDoor
