/-
  Plain functions on lists of bytes: numbers' texts: which are one, their numbers, how two stand; the decimal numeral is one, and the only one.
  No program is imported here; no condition.
-/
import Derived.Lib.ItoaNum
import Derived.Laws.Strings
namespace Go.Proofs.YtbmjmiioobgbfaaGreatDoor
open Go

def isDig (c : UInt8) : Bool := decide (48 ≤ c.toNat) && decide (c.toNat ≤ 57)
/-- Is it a number's text: digits, no 0 ahead of others? -/
def isNumB (s : List UInt8) : Bool := !s.isEmpty && !(decide (1 < s.length) && s.getD 0 0 == 48) && s.all isDig

/-- The number of digits, the greatest first. -/
def valR : List UInt8 → Nat
  | [] => 0
  | c :: l => (c.toNat - 48) * 10 ^ l.length + valR l

theorem valR_append (a b : List UInt8) : valR (a ++ b) = valR a * 10 ^ b.length + valR b := by
  induction a with
  | nil => simp [valR]
  | cons x a ih => rw [List.cons_append, valR, valR, ih, List.length_append, Nat.pow_add, Nat.add_mul, Nat.mul_assoc, Nat.add_assoc]

theorem valR_snoc (a : List UInt8) (c : UInt8) : valR (a ++ [c]) = 10 * valR a + (c.toNat - 48) := by
  rw [valR_append]; simp [valR]; omega

theorem valR_lt {s : List UInt8} (h : s.all isDig = true) : valR s < 10 ^ s.length := by
  induction s with
  | nil => simp [valR]
  | cons c s ih =>
    rw [List.all_cons, Bool.and_eq_true] at h
    have h1 := ih h.2
    have h2 := h.1
    unfold isDig at h2
    simp only [Bool.and_eq_true, decide_eq_true_eq] at h2
    rw [valR, List.length_cons, Nat.pow_succ]
    have : (c.toNat - 48) * 10 ^ s.length ≤ 9 * 10 ^ s.length := Nat.mul_le_mul_right _ (by omega)
    omega

theorem dig_byte {u : Nat} (h : u < 10) : (UInt8.ofNat (48 + u)).toNat = 48 + u := by
  rw [UInt8.toNat_ofNat_of_lt' (by show 48 + u < 256; omega)]

theorem dec_all (u : Nat) : (Lib.decDigits u).all isDig = true ∧ valR (Lib.decDigits u) = u := by
  induction u using Nat.strongRecOn with
  | _ u ih =>
    rw [Lib.decDigits]
    split
    · rename_i h
      constructor
      · rw [List.all_cons, List.all_nil, Bool.and_true, isDig, dig_byte h]; simp; omega
      · rw [valR, dig_byte h]; simp [valR]
    · rename_i h
      have i := ih (u / 10) (by omega)
      have hd : u % 10 < 10 := Nat.mod_lt _ (by decide)
      constructor
      · rw [List.all_append, i.1, List.all_cons, List.all_nil, Bool.and_true, Bool.true_and, isDig, dig_byte hd]; simp; omega
      · rw [valR_snoc, i.2, dig_byte hd]; omega

theorem dec_ne (u : Nat) : Lib.decDigits u ≠ [] := by
  intro h
  have := Lib.decDigits_length u
  rw [h] at this
  have := Lib.nDigits_pos u
  simp at *; omega

theorem getD_left {a b : List UInt8} (h : 0 < a.length) : (a ++ b).getD 0 0 = a.getD 0 0 := by
  cases a with
  | nil => simp at h
  | cons x a => rfl

theorem dec_head (u : Nat) (h : 10 ≤ u) : (Lib.decDigits u).getD 0 0 ≠ 48 := by
  induction u using Nat.strongRecOn with
  | _ u ih =>
    rw [Lib.decDigits, dif_neg (by omega)]
    have hl : 0 < (Lib.decDigits (u / 10)).length := List.length_pos_iff.2 (dec_ne _)
    rw [getD_left hl]
    by_cases h2 : 10 ≤ u / 10
    · exact ih (u / 10) (by omega) h2
    · rw [Lib.decDigits, dif_pos (by omega)]
      intro e
      have e2 := congrArg UInt8.toNat e
      simp only [List.getD_cons_zero] at e2
      rw [dig_byte (by omega)] at e2
      have : (48 : UInt8).toNat = 48 := rfl
      omega

theorem dec_one {u : Nat} (h : u < 10) : (Lib.decDigits u).length = 1 := by rw [Lib.decDigits, dif_pos h]; rfl

theorem dec_isNum (u : Nat) : isNumB (Lib.decDigits u) = true := by
  unfold isNumB
  rw [(dec_all u).1, Bool.and_true, Bool.and_eq_true]
  constructor
  · simpa using dec_ne u
  · by_cases h : u < 10
    · rw [dec_one h]; rfl
    · have := dec_head u (by omega)
      rw [Bool.not_eq_true', Bool.and_eq_false_iff]
      exact .inr (by simpa using this)

/-- A text of digits with no 0 ahead is the numeral of its number. -/
theorem dec_val {s : List UInt8} (h : isNumB s = true) : Lib.decDigits (valR s) = s := by
  unfold isNumB at h
  simp only [Bool.and_eq_true] at h
  obtain ⟨⟨h1, h2⟩, h3⟩ := h
  generalize hn : s.length = n
  induction n using Nat.strongRecOn generalizing s with
  | _ n ih =>
    obtain ⟨l, c, rfl⟩ : ∃ l c, s = l ++ [c] := by
      have hne : s ≠ [] := by simpa using h1
      exact ⟨s.dropLast, s.getLast hne, (List.dropLast_concat_getLast hne).symm⟩
    rw [List.all_append, Bool.and_eq_true] at h3
    have hc := h3.2
    simp only [List.all_cons, List.all_nil, Bool.and_true, isDig, Bool.and_eq_true, decide_eq_true_eq] at hc
    have hcb : UInt8.ofNat (48 + (c.toNat - 48)) = c := by
      rw [show 48 + (c.toNat - 48) = c.toNat by omega]; simp
    rw [valR_snoc]
    by_cases hl : l = []
    · subst hl
      rw [Lib.decDigits, dif_pos (by simp [valR]; omega)]
      simp only [valR, Nat.mul_zero, Nat.zero_add, List.nil_append]
      rw [hcb]
    · have hl0 : 0 < l.length := List.length_pos_iff.2 hl
      have hhead : l.getD 0 0 ≠ 48 := by
        intro e
        rw [getD_left hl0, e] at h2
        simp at h2
        exact hl h2
      have hpos : 0 < valR l := by
        cases l with
        | nil => exact absurd rfl hl
        | cons x l =>
          have hx := h3.1
          rw [List.all_cons, Bool.and_eq_true] at hx
          have hx1 := hx.1
          unfold isDig at hx1
          simp only [Bool.and_eq_true, decide_eq_true_eq] at hx1
          have hx2 : x.toNat ≠ 48 := by
            intro e
            apply hhead
            apply UInt8.toNat_inj.1
            simpa using e
          rw [valR]
          have : 1 * 10 ^ l.length ≤ (x.toNat - 48) * 10 ^ l.length := Nat.mul_le_mul_right _ (by omega)
          have := Nat.pow_pos (n := l.length) (show 0 < 10 by decide)
          omega
      have hd := ih l.length (by rw [← hn]; simp) (s := l) h3.1 (by simpa using hl) (by
        rw [Bool.not_eq_true', Bool.and_eq_false_iff]
        exact .inr (by simpa using hhead)) rfl
      rw [Lib.decDigits, dif_neg (by omega)]
      rw [show (10 * valR l + (c.toNat - 48)) / 10 = valR l by omega, hd, show (10 * valR l + (c.toNat - 48)) % 10 = c.toNat - 48 by omega, hcb]

/-- Shorter, or as long and less byte by byte. -/
def lessB (a b : List UInt8) : Bool := if a.length = b.length then Op.bytesLess a b else decide (a.length < b.length)

theorem less_val : ∀ {a b : List UInt8}, a.length = b.length → a.all isDig = true → b.all isDig = true → Op.bytesLess a b = decide (valR a < valR b)
  | [], [], _, _, _ => by simp [Op.bytesLess, valR]
  | [], _ :: _, h, _, _ => by simp at h
  | _ :: _, [], h, _, _ => by simp at h
  | x :: a, y :: b, h, ha, hb => by
    have hl : a.length = b.length := by simpa using h
    rw [List.all_cons, Bool.and_eq_true] at ha hb
    have i := less_val hl ha.2 hb.2
    have la := valR_lt ha.2
    have lb := valR_lt hb.2
    have h1 := ha.1
    have h2 := hb.1
    unfold isDig at h1 h2
    simp only [Bool.and_eq_true, decide_eq_true_eq] at h1 h2
    rw [valR, valR, hl]
    rw [hl] at la
    rw [Op.bytesLess, i]
    have hP := Nat.pow_pos (n := b.length) (show 0 < 10 by decide)
    generalize 10 ^ b.length = P at *
    rcases Nat.lt_trichotomy x.toNat y.toNat with hxy | hxy | hxy
    · have e : (x < y) := UInt8.lt_iff_toNat_lt.2 hxy
      have m : (x.toNat - 48 + 1) * P ≤ (y.toNat - 48) * P := Nat.mul_le_mul_right _ (by omega)
      rw [Nat.add_mul] at m
      simp only [e, decide_true, Bool.true_or]
      symm
      rw [decide_eq_true_eq]
      omega
    · have e : x = y := UInt8.toNat_inj.1 hxy
      subst e
      simp
    · have e : ¬ (x < y) := fun h => by have := UInt8.lt_iff_toNat_lt.1 h; omega
      have e2 : (x == y) = false := by
        rw [beq_eq_false_iff_ne]
        intro h; rw [h] at hxy; omega
      have m : (y.toNat - 48 + 1) * P ≤ (x.toNat - 48) * P := Nat.mul_le_mul_right _ (by omega)
      rw [Nat.add_mul] at m
      simp only [e, decide_false, e2, Bool.false_and, Bool.or_false]
      symm
      rw [decide_eq_false_iff_not]
      omega

theorem val_pos {s : List UInt8} (h : isNumB s = true) (h1 : 1 < s.length) : 10 ^ (s.length - 1) ≤ valR s := by
  unfold isNumB at h
  simp only [Bool.and_eq_true] at h
  obtain ⟨⟨_, h2⟩, h3⟩ := h
  cases s with
  | nil => simp at h1
  | cons x l =>
    rw [List.all_cons, Bool.and_eq_true] at h3
    have hx := h3.1
    unfold isDig at hx
    simp only [Bool.and_eq_true, decide_eq_true_eq] at hx
    have hx2 : x.toNat ≠ 48 := by
      intro e
      have : x = 48 := UInt8.toNat_inj.1 (by simpa using e)
      subst this
      simp at h2 h1
      simp [h2] at h1
    rw [valR]
    have : 1 * 10 ^ l.length ≤ (x.toNat - 48) * 10 ^ l.length := Nat.mul_le_mul_right _ (by omega)
    simp only [List.length_cons, Nat.add_sub_cancel]
    omega

theorem isNum_dig {s : List UInt8} (h : isNumB s = true) : s.all isDig = true := by
  unfold isNumB at h
  simp only [Bool.and_eq_true] at h
  exact h.2

theorem isNum_len {s : List UInt8} (h : isNumB s = true) : 0 < s.length := by
  unfold isNumB at h
  simp only [Bool.and_eq_true] at h
  exact List.length_pos_iff.2 (by simpa using h.1.1)

/-- Texts stand as their numbers do. -/
theorem less_nums {a b : List UInt8} (ha : isNumB a = true) (hb : isNumB b = true) : lessB a b = decide (valR a < valR b) := by
  unfold lessB
  split
  · rename_i h
    exact less_val h (isNum_dig ha) (isNum_dig hb)
  · rename_i h
    have la := valR_lt (isNum_dig ha)
    have lb := valR_lt (isNum_dig hb)
    have pa := isNum_len ha
    have pb := isNum_len hb
    rcases Nat.lt_or_ge a.length b.length with hl | hl
    · have h1 := val_pos hb (by omega)
      have h2 : 10 ^ a.length ≤ 10 ^ (b.length - 1) := Nat.pow_le_pow_right (by decide) (by omega)
      rw [decide_eq_true hl]
      symm
      rw [decide_eq_true_eq]
      omega
    · have h1 := val_pos ha (by omega)
      have h2 : 10 ^ b.length ≤ 10 ^ (a.length - 1) := Nat.pow_le_pow_right (by decide) (by omega)
      rw [decide_eq_false (by omega)]
      symm
      rw [decide_eq_false_iff_not]
      omega

theorem less_dec (a b : Nat) : lessB (Lib.decDigits a) (Lib.decDigits b) = decide (a < b) := by
  rw [less_nums (dec_isNum a) (dec_isNum b), (dec_all a).2, (dec_all b).2]

theorem valR_take_le (s : List UInt8) (j : Nat) : valR (s.take j) ≤ valR s := by
  conv => rhs; rw [← List.take_append_drop j s, valR_append]
  have := Nat.pow_pos (n := (s.drop j).length) (show 0 < 10 by decide)
  have := Nat.mul_le_mul_left (valR (s.take j)) this
  omega

end Go.Proofs.YtbmjmiioobgbfaaGreatDoor
