/-
  Whole numbers of the fewest bytes, plainly; the document's own way to them.
-/
import Derived.Test.YtamlblfhjpajhaaDoorBase
namespace Go.Proofs.YtamlblfhjpajhaaDoor
open Go Go.RowKit

set_option maxRecDepth 100000
set_option linter.unusedSimpArgs false
set_option linter.unusedVariables false
/-- A byte, as a number with a sign. -/
def sgn (b : UInt8) : Int := if b.toNat < 128 then b.toNat else (b.toNat : Int) - 256
/-- The number that these bytes tell, behind n. -/
def numI (n : Int) : List UInt8 → Int
  | [] => n
  | b :: l => numI (n * 256 + b.toNat) l
/-- A whole number's value. -/
def intF : Nat → Int → List UInt8
  | 0, n => [UInt8.ofNat (n % 256).toNat]
  | k + 1, n => if -128 ≤ n ∧ n < 128 then [UInt8.ofNat (n % 256).toNat] else intF k (n / 256) ++ [UInt8.ofNat (n % 256).toNat]
def intL (n : Int) : List UInt8 := intF 7 n
/-- The number of a value. -/
def valL : List UInt8 → Int
  | [] => 0
  | b :: l => numI (sgn b) l
/-- The number that is read, if the value tells one. -/
def readB (s : List UInt8) : Bool := decide (0 < s.length ∧ s.length ≤ 8) && (intL (valL s) == s)
def readN (s : List UInt8) : Int := if readB s then valL s else 0
def fits (k : Nat) (n : Int) : Prop := -(128 * 256 ^ k : Int) ≤ n ∧ n < 128 * 256 ^ k

theorem sgn_byte (n : Int) (h : -128 ≤ n ∧ n < 128) : sgn (UInt8.ofNat (n % 256).toNat) = n := by
  have e : (UInt8.ofNat (n % 256).toNat).toNat = (n % 256).toNat := by simp; omega
  unfold sgn
  rw [e]
  split <;> omega
theorem byte_sgn (b : UInt8) : UInt8.ofNat (sgn b % 256).toNat = b := by
  have h := b.toNat_lt
  have e : (sgn b % 256).toNat = b.toNat := by unfold sgn; split <;> omega
  rw [e]; simp
theorem sgn_fits (b : UInt8) : -128 ≤ sgn b ∧ sgn b < 128 := by
  have h := b.toNat_lt
  unfold sgn; split <;> omega
theorem low_toNat (n : Int) : ((UInt8.ofNat (n % 256).toNat).toNat : Int) = n % 256 := by
  have e : (UInt8.ofNat (n % 256).toNat).toNat = (n % 256).toNat := by simp; omega
  rw [e]; omega
theorem numI_snoc (n : Int) (l : List UInt8) (b : UInt8) : numI n (l ++ [b]) = numI n l * 256 + b.toNat := by
  induction l generalizing n with
  | nil => rfl
  | cons a l ih => exact ih _
theorem valL_snoc {l : List UInt8} (h : l ≠ []) (b : UInt8) : valL (l ++ [b]) = valL l * 256 + b.toNat := by
  cases l with
  | nil => exact absurd rfl h
  | cons a l => exact numI_snoc _ _ _
theorem fits_step {k : Nat} {n : Int} (h : fits (k + 1) n) : fits k (n / 256) := by
  unfold fits at h ⊢
  rw [Int.pow_succ] at h
  generalize (256 : Int) ^ k = p at h ⊢
  omega
theorem intF_ne (k : Nat) (n : Int) : intF k n ≠ [] := by
  cases k with
  | zero => simp [intF]
  | succ k => unfold intF; split <;> simp
theorem intF_length (k : Nat) (n : Int) : 1 ≤ (intF k n).length ∧ (intF k n).length ≤ k + 1 := by
  induction k generalizing n with
  | zero => simp [intF]
  | succ k ih =>
    unfold intF; split
    · simp
    · have := ih (n / 256); simp; omega
theorem valL_intF (k : Nat) (n : Int) (h : fits k n) : valL (intF k n) = n := by
  induction k generalizing n with
  | zero =>
    unfold fits at h
    show sgn _ = n
    exact sgn_byte n (by simpa using h)
  | succ k ih =>
    unfold intF; split
    · next h1 => exact sgn_byte n h1
    · rw [valL_snoc (intF_ne _ _), ih _ (fits_step h), low_toNat]; omega
/-- More steps than are wanted change nothing. -/
theorem intF_more (k m : Nat) (n : Int) (h : fits k n) : intF (k + m) n = intF k n := by
  induction k generalizing n with
  | zero =>
    unfold fits at h
    cases m with
    | zero => rfl
    | succ m => show intF (0 + m + 1) n = _; unfold intF; rw [if_pos (by simpa using h)]
  | succ k ih =>
    rw [show k + 1 + m = (k + m) + 1 by omega]
    unfold intF
    rw [ih _ (fits_step h)]
theorem fits64 {n : Int} (h : -9223372036854775808 ≤ n ∧ n < 9223372036854775808) : fits 7 n := by
  unfold fits
  have e : (256 : Int) ^ 7 = 72057594037927936 := by decide
  rw [e]; omega
theorem valL_intL {n : Int} (h : -9223372036854775808 ≤ n ∧ n < 9223372036854775808) : valL (intL n) = n := valL_intF 7 n (fits64 h)
theorem intL_length (n : Int) : 1 ≤ (intL n).length ∧ (intL n).length ≤ 8 := intF_length 7 n
theorem readB_intL {n : Int} (h : -9223372036854775808 ≤ n ∧ n < 9223372036854775808) : readB (intL n) = true := by
  unfold readB
  rw [valL_intL h]
  have := intL_length n
  simp; omega
theorem intL_inj {n m : Int} (h : -9223372036854775808 ≤ n ∧ n < 9223372036854775808) (h2 : -9223372036854775808 ≤ m ∧ m < 9223372036854775808) (e : intL n = intL m) : n = m := by
  rw [← valL_intL h, e, valL_intL h2]
theorem intF_mono (k : Nat) (n m : Int) (h0 : 0 ≤ n) (h : n ≤ m) : (intF k n).length ≤ (intF k m).length := by
  induction k generalizing n m with
  | zero => simp [intF]
  | succ k ih =>
    by_cases h1 : n < 128
    · have e : intF (k + 1) n = [UInt8.ofNat (n % 256).toNat] := by unfold intF; rw [if_pos (by omega)]
      rw [e]
      exact (intF_length _ _).1
    · unfold intF
      rw [if_neg (by omega), if_neg (by omega)]
      have := ih (n / 256) (m / 256) (by omega) (by omega)
      simp; omega
/-! ### The fewest bytes -/
/-- The first bytes say something. -/
def minB : List UInt8 → Bool
  | a :: b :: _ => !((a == 0 && decide (b.toNat < 128)) || (a == 255 && decide (128 ≤ b.toNat)))
  | _ => true
theorem numI_fits (k : Nat) (n : Int) (l : List UInt8) (h : fits k n) : fits (k + l.length) (numI n l) := by
  induction l generalizing n k with
  | nil => exact h
  | cons b l ih =>
    have := ih (k + 1) (n * 256 + b.toNat) (by
      unfold fits at h ⊢
      have hb := b.toNat_lt
      rw [Int.pow_succ]
      generalize (256 : Int) ^ k = p at h ⊢
      omega)
    rw [show k + (b :: l).length = k + 1 + l.length by simp; omega]
    exact this
theorem valL_fits (b : UInt8) (l : List UInt8) : fits l.length (valL (b :: l)) := by
  have := numI_fits 0 (sgn b) l (by unfold fits; simpa using sgn_fits b)
  rwa [Nat.zero_add] at this
theorem min_snoc {l : List UInt8} (h : 2 ≤ l.length) (b : UInt8) : minB (l ++ [b]) = minB l := by
  match l, h with
  | _ :: _ :: _, _ => rfl
/-- What is told by two bytes or more, the fewest, is no number of one. -/
theorem min_big (l : List UInt8) (x : UInt8) (hl : l ≠ []) (h : minB (l ++ [x]) = true) : ¬ (-128 ≤ valL (l ++ [x]) ∧ valL (l ++ [x]) < 128) := by
  induction hn : l.length using Nat.strongRecOn generalizing l x with
  | _ n ih =>
    rw [valL_snoc hl]
    have hx := x.toNat_lt
    have hv : valL l ≠ 0 ∨ 128 ≤ x.toNat := by
      by_cases h2 : 2 ≤ l.length
      · obtain ⟨m, y, rfl⟩ : ∃ m y, l = m ++ [y] := ⟨l.dropLast, l.getLast hl, (List.dropLast_concat_getLast hl).symm⟩
        have hm : m ≠ [] := by intro e; subst e; simp at h2
        rw [min_snoc h2] at h
        have := ih m.length (by rw [← hn]; simp) m y hm h rfl
        left; intro e; rw [e] at this; omega
      · match l, hl, h2, h with
        | [a], _, _, h =>
          simp [minB] at h
          by_cases ha : valL [a] = 0
          · right
            have : a = 0 := by
              apply UInt8.toNat_inj.1
              have hab := a.toNat_lt
              simp only [valL, numI, sgn] at ha
              split at ha
              · simpa using ha
              · omega
            rcases h.1 with q | q
            · exact absurd this q
            · exact q
          · left; exact ha
        | _ :: _ :: _, _, h2, _ => simp at h2
    have hw : valL l ≠ -1 ∨ x.toNat < 128 := by
      by_cases h2 : 2 ≤ l.length
      · obtain ⟨m, y, rfl⟩ : ∃ m y, l = m ++ [y] := ⟨l.dropLast, l.getLast hl, (List.dropLast_concat_getLast hl).symm⟩
        have hm : m ≠ [] := by intro e; subst e; simp at h2
        rw [min_snoc h2] at h
        have := ih m.length (by rw [← hn]; simp) m y hm h rfl
        left; intro e; rw [e] at this; omega
      · match l, hl, h2, h with
        | [a], _, _, h =>
          simp [minB] at h
          by_cases ha : valL [a] = -1
          · right
            have : a = 255 := by
              apply UInt8.toNat_inj.1
              have hab := a.toNat_lt
              simp only [valL, numI, sgn] at ha
              split at ha
              · omega
              · show a.toNat = 255; omega
            rcases h.2 with q | q
            · exact absurd this q
            · exact q
          · left; exact ha
        | _ :: _ :: _, _, h2, _ => simp at h2
    intro hc
    omega
theorem min_back (k : Nat) (s : List UInt8) (h0 : s ≠ []) (hk : s.length ≤ k + 1) (h : minB s = true) : intF k (valL s) = s := by
  induction k generalizing s with
  | zero =>
    match s, h0, hk with
    | [b], _, _ => show [UInt8.ofNat (sgn b % 256).toNat] = [b]; rw [byte_sgn]
    | _ :: _ :: _, _, hk => simp at hk
  | succ k ih =>
    obtain ⟨m, x, rfl⟩ : ∃ m x, s = m ++ [x] := ⟨s.dropLast, s.getLast h0, (List.dropLast_concat_getLast h0).symm⟩
    by_cases hm : m = []
    · subst hm
      show intF (k + 1) (sgn x) = [x]
      unfold intF
      rw [if_pos (sgn_fits x), byte_sgn]
    · have hb := min_big m x hm h
      have hx := x.toNat_lt
      unfold intF
      rw [if_neg hb, valL_snoc hm, show (valL m * 256 + (x.toNat : Int)) / 256 = valL m by omega, show ((valL m * 256 + (x.toNat : Int)) % 256).toNat = x.toNat by omega]
      have hmm : minB m = true := by
        by_cases h2 : 2 ≤ m.length
        · rwa [min_snoc h2] at h
        · match m, hm, h2 with
          | [a], _, _ => rfl
          | _ :: _ :: _, _, h2 => simp at h2
      rw [ih m hm (by simp at hk; omega) hmm]
      simp
theorem min_intF (k : Nat) (n : Int) (h : fits k n) : minB (intF k n) = true := by
  induction k generalizing n with
  | zero => rfl
  | succ k ih =>
    unfold intF; split
    · rfl
    · next h1 =>
      have h2 := ih _ (fits_step h)
      have hv := valL_intF _ _ (fits_step h)
      by_cases h3 : 2 ≤ (intF k (n / 256)).length
      · rw [min_snoc h3]; exact h2
      · have h4 := intF_length k (n / 256)
        obtain ⟨a, ha⟩ : ∃ a, intF k (n / 256) = [a] := by
          match hq : intF k (n / 256), h3, h4 with
          | [a], _, _ => exact ⟨a, rfl⟩
          | _ :: _ :: _, h3, _ => simp at h3
          | [], _, h4 => simp at h4
        rw [ha] at hv ⊢
        have hv' : sgn a = n / 256 := hv
        have hl := low_toNat n
        show (!((a == 0 && decide ((UInt8.ofNat (n % 256).toNat).toNat < 128)) || (a == 255 && decide (128 ≤ (UInt8.ofNat (n % 256).toNat).toNat)))) = true
        generalize UInt8.ofNat (n % 256).toNat = q at hl ⊢
        simp only [Bool.not_eq_true', Bool.or_eq_false_iff, Bool.and_eq_false_iff, beq_eq_false_iff_ne, decide_eq_false_iff_not]
        refine ⟨?_, ?_⟩
        · by_cases e : a = 0
          · right; subst e
            have : sgn 0 = 0 := rfl
            omega
          · exact .inl e
        · by_cases e : a = 255
          · right; subst e
            have : sgn 255 = -1 := rfl
            omega
          · exact .inl e
theorem readB_iff (s : List UInt8) : readB s = (decide (0 < s.length ∧ s.length ≤ 8) && minB s) := by
  by_cases h : 0 < s.length ∧ s.length ≤ 8
  · unfold readB
    have h0 : s ≠ [] := by intro e; subst e; simp at h
    rw [decide_eq_true h]
    simp only [Bool.true_and]
    cases hm : minB s with
    | true => rw [beq_iff_eq]; exact min_back 7 s h0 (by omega) hm
    | false =>
      rw [beq_eq_false_iff_ne]
      intro e
      have hf : fits 7 (valL s) := by
        cases s with
        | nil => exact absurd rfl h0
        | cons b l =>
          have := valL_fits b l
          unfold fits at this ⊢
          have hl : l.length ≤ 7 := by have := h.2; simp at this; omega
          have hp : (256 : Int) ^ l.length ≤ 256 ^ 7 := by exact_mod_cast Nat.pow_le_pow_right (by omega) hl
          omega
      have := min_intF 7 _ hf
      rw [show intF 7 (valL s) = intL (valL s) from rfl, e] at this
      rw [this] at hm; cases hm
  · unfold readB; rw [decide_eq_false h]; rfl
/-! ### The document's -/
/-- Eight bytes of a number, the great end first. -/
def bytesU : Nat → Nat → List UInt8
  | _, 0 => []
  | u, k + 1 => bytesU (u / 256) k ++ [UInt8.ofNat (u % 256)]
/-- Less those that say nothing. -/
def lessF : Nat → List UInt8 → List UInt8
  | 0, s => s
  | k + 1, s => if minB s then s else lessF k (s.drop 1)
theorem lessF_min (k : Nat) (s : List UInt8) (h : s.length ≤ k + 1) : minB (lessF k s) = true := by
  induction k generalizing s with
  | zero =>
    match s, h with
    | [], _ => rfl
    | [_], _ => rfl
  | succ k ih =>
    unfold lessF; split
    · assumption
    · exact ih _ (by simp; omega)
theorem drop_val {s : List UInt8} (h : minB s = false) : s.drop 1 ≠ [] ∧ valL (s.drop 1) = valL s := by
  match s, h with
  | a :: b :: l, h =>
    refine ⟨by simp, ?_⟩
    show numI (sgn b) l = numI (sgn a * 256 + b.toNat) l
    have hb := b.toNat_lt
    congr 1
    simp only [minB, Bool.not_eq_false', Bool.or_eq_true, Bool.and_eq_true, beq_iff_eq, decide_eq_true_eq] at h
    rcases h with ⟨rfl, h⟩ | ⟨rfl, h⟩
    · unfold sgn; rw [if_pos h]; simp
    · have e : sgn 255 = -1 := rfl
      rw [e]; unfold sgn; rw [if_neg (by omega)]; omega
theorem lessF_val (k : Nat) (s : List UInt8) (h : s ≠ []) : lessF k s ≠ [] ∧ valL (lessF k s) = valL s ∧ (lessF k s).length ≤ s.length := by
  induction k generalizing s with
  | zero => exact ⟨h, rfl, Nat.le_refl _⟩
  | succ k ih =>
    unfold lessF; split
    · exact ⟨h, rfl, Nat.le_refl _⟩
    · next hm =>
      obtain ⟨h1, h2⟩ := drop_val (by simpa using hm)
      obtain ⟨h3, h4, h5⟩ := ih _ h1
      refine ⟨h3, by rw [h4, h2], ?_⟩
      rw [List.length_drop] at h5
      omega
theorem bytesU_length (u k : Nat) : (bytesU u k).length = k := by
  induction k generalizing u with
  | zero => rfl
  | succ k ih => simp [bytesU, ih]
theorem valL_bytesU (k : Nat) (n : Int) (h : fits k n) (u : Nat) (hu : (u : Int) % 256 ^ (k + 1) = n % 256 ^ (k + 1)) : valL (bytesU u (k + 1)) = n := by
  induction k generalizing n u with
  | zero =>
    show sgn (UInt8.ofNat (u % 256)) = n
    have e : UInt8.ofNat (u % 256) = UInt8.ofNat (n % 256).toNat := by congr 1; simp at hu; omega
    rw [e]
    unfold fits at h
    exact sgn_byte n (by simpa using h)
  | succ k ih =>
    have hb : (bytesU (u / 256) (k + 1)) ≠ [] := by intro e; have := bytesU_length (u / 256) (k + 1); rw [e] at this; simp at this
    show valL (bytesU (u / 256) (k + 1) ++ [UInt8.ofNat (u % 256)]) = n
    have hu2 : (u : Int) % 256 = n % 256 := by
      have d : (256 : Int) ∣ 256 ^ (k + 1 + 1) := ⟨256 ^ (k + 1), by rw [Int.pow_succ, Int.mul_comm]⟩
      rw [← Int.emod_emod_of_dvd _ d, hu, Int.emod_emod_of_dvd _ d]
    rw [valL_snoc hb, ih (n / 256) (fits_step h) (u / 256) ?_]
    · have : ((UInt8.ofNat (u % 256)).toNat : Int) = (u : Int) % 256 := by simp
      rw [this, hu2]; omega
    · push_cast
      have key : ∀ z : Int, z / 256 % 256 ^ (k + 1) = z % 256 ^ (k + 1 + 1) / 256 := by
        intro z
        rw [Int.pow_succ 256 (k + 1), Int.mul_comm (256 ^ (k + 1)) 256, Int.emod_def z (256 * _), Int.mul_assoc, Int.sub_mul_ediv_left _ _ (by decide), ← Int.ediv_ediv_of_nonneg (by decide), Int.emod_def]
      rw [key, key, hu]
theorem less_is (n : Int) (h : -9223372036854775808 ≤ n ∧ n < 9223372036854775808) (u : Nat) (hu : (u : Int) = n % 18446744073709551616) : lessF 7 (bytesU u 8) = intL n := by
  have e : (256 : Int) ^ (7 + 1) = 18446744073709551616 := by decide
  have hv := valL_bytesU 7 n (fits64 h) u (by rw [e, hu]; omega)
  have hb : bytesU u 8 ≠ [] := by intro e; have := bytesU_length u 8; rw [e] at this; simp at this
  obtain ⟨h1, h2, h3⟩ := lessF_val 7 _ hb
  have h4 := lessF_min 7 (bytesU u 8) (by rw [bytesU_length]; decide)
  have := min_back 7 _ h1 (by rw [bytesU_length] at h3; exact h3) h4
  rw [h2, hv] at this
  exact this.symm
end Go.Proofs.YtamlblfhjpajhaaDoor
