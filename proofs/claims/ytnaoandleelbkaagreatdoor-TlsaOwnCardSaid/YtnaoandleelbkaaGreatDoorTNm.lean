/-
  Plain functions on lists of bytes: numbers' texts: which are one, their numbers, how two stand; the decimal numeral is one, and the only one.
  No program is imported here; no condition.
  The library's table of powers of ten, as a word of a world; a number's text.
  Contracts of isNumber, isLess, Show, Num.
  Texts of 1000000 bytes at most; Show and Num where the library's table of powers of ten is as its text lays it.
  Contracts of Show and Num, where the library's table of powers of ten is as its text lays it; and the laid variables, as words of a world.
  Texts of 1000000 bytes at most.
-/
import Derived.Lib.ItoaNum
import Derived.Laws.Strings
import Derived.Lib.LaidTab
import Derived.Sort.Grow
import Derived.Test.YtnaoandleelbkaaGreatDoorZBm
import Derived.WalkLawsBesides
namespace Go.Proofs.YtnaoandleelbkaaGreatDoor.Nx
open Go

def isDig (c : UInt8) : Bool := decide (48 ≤ c.toNat) && decide (c.toNat ≤ 57)
/-- Is it a number's text: digits, no 0 ahead of others? -/
def isNumB (s : List UInt8) : Bool := !s.isEmpty && !(decide (1 < s.length) && s.getD 0 0 == 48) && s.all isDig

/-- The number of digits, the greatest first. -/
def valR : List UInt8 → Nat
  | [] => 0
  | c :: l => (c.toNat - 48) * 10 ^ l.length + valR l

theorem valR_append (a b : List UInt8) : valR (a ++ b) = valR a * 10 ^ b.length + valR b := by
  induction a with
  | nil => simp [valR]
  | cons x a ih => rw [List.cons_append, valR, valR, ih, List.length_append, Nat.pow_add, Nat.add_mul, Nat.mul_assoc, Nat.add_assoc]

theorem valR_snoc (a : List UInt8) (c : UInt8) : valR (a ++ [c]) = 10 * valR a + (c.toNat - 48) := by
  rw [valR_append]; simp [valR]; omega

theorem valR_lt {s : List UInt8} (h : s.all isDig = true) : valR s < 10 ^ s.length := by
  induction s with
  | nil => simp [valR]
  | cons c s ih =>
    rw [List.all_cons, Bool.and_eq_true] at h
    have h1 := ih h.2
    have h2 := h.1
    unfold isDig at h2
    simp only [Bool.and_eq_true, decide_eq_true_eq] at h2
    rw [valR, List.length_cons, Nat.pow_succ]
    have : (c.toNat - 48) * 10 ^ s.length ≤ 9 * 10 ^ s.length := Nat.mul_le_mul_right _ (by omega)
    omega

theorem dig_byte {u : Nat} (h : u < 10) : (UInt8.ofNat (48 + u)).toNat = 48 + u := by
  rw [UInt8.toNat_ofNat_of_lt' (by show 48 + u < 256; omega)]

theorem dec_all (u : Nat) : (Lib.decDigits u).all isDig = true ∧ valR (Lib.decDigits u) = u := by
  induction u using Nat.strongRecOn with
  | _ u ih =>
    rw [Lib.decDigits]
    split
    · rename_i h
      constructor
      · rw [List.all_cons, List.all_nil, Bool.and_true, isDig, dig_byte h]; simp; omega
      · rw [valR, dig_byte h]; simp [valR]
    · rename_i h
      have i := ih (u / 10) (by omega)
      have hd : u % 10 < 10 := Nat.mod_lt _ (by decide)
      constructor
      · rw [List.all_append, i.1, List.all_cons, List.all_nil, Bool.and_true, Bool.true_and, isDig, dig_byte hd]; simp; omega
      · rw [valR_snoc, i.2, dig_byte hd]; omega

theorem dec_ne (u : Nat) : Lib.decDigits u ≠ [] := by
  intro h
  have := Lib.decDigits_length u
  rw [h] at this
  have := Lib.nDigits_pos u
  simp at *; omega

theorem getD_left {a b : List UInt8} (h : 0 < a.length) : (a ++ b).getD 0 0 = a.getD 0 0 := by
  cases a with
  | nil => simp at h
  | cons x a => rfl

theorem dec_head (u : Nat) (h : 10 ≤ u) : (Lib.decDigits u).getD 0 0 ≠ 48 := by
  induction u using Nat.strongRecOn with
  | _ u ih =>
    rw [Lib.decDigits, dif_neg (by omega)]
    have hl : 0 < (Lib.decDigits (u / 10)).length := List.length_pos_iff.2 (dec_ne _)
    rw [getD_left hl]
    by_cases h2 : 10 ≤ u / 10
    · exact ih (u / 10) (by omega) h2
    · rw [Lib.decDigits, dif_pos (by omega)]
      intro e
      have e2 := congrArg UInt8.toNat e
      simp only [List.getD_cons_zero] at e2
      rw [dig_byte (by omega)] at e2
      have : (48 : UInt8).toNat = 48 := rfl
      omega

theorem dec_one {u : Nat} (h : u < 10) : (Lib.decDigits u).length = 1 := by rw [Lib.decDigits, dif_pos h]; rfl

theorem dec_isNum (u : Nat) : isNumB (Lib.decDigits u) = true := by
  unfold isNumB
  rw [(dec_all u).1, Bool.and_true, Bool.and_eq_true]
  constructor
  · simpa using dec_ne u
  · by_cases h : u < 10
    · rw [dec_one h]; rfl
    · have := dec_head u (by omega)
      rw [Bool.not_eq_true', Bool.and_eq_false_iff]
      exact .inr (by simpa using this)

/-- A text of digits with no 0 ahead is the numeral of its number. -/
theorem dec_val {s : List UInt8} (h : isNumB s = true) : Lib.decDigits (valR s) = s := by
  unfold isNumB at h
  simp only [Bool.and_eq_true] at h
  obtain ⟨⟨h1, h2⟩, h3⟩ := h
  generalize hn : s.length = n
  induction n using Nat.strongRecOn generalizing s with
  | _ n ih =>
    obtain ⟨l, c, rfl⟩ : ∃ l c, s = l ++ [c] := by
      have hne : s ≠ [] := by simpa using h1
      exact ⟨s.dropLast, s.getLast hne, (List.dropLast_concat_getLast hne).symm⟩
    rw [List.all_append, Bool.and_eq_true] at h3
    have hc := h3.2
    simp only [List.all_cons, List.all_nil, Bool.and_true, isDig, Bool.and_eq_true, decide_eq_true_eq] at hc
    have hcb : UInt8.ofNat (48 + (c.toNat - 48)) = c := by
      rw [show 48 + (c.toNat - 48) = c.toNat by omega]; simp
    rw [valR_snoc]
    by_cases hl : l = []
    · subst hl
      rw [Lib.decDigits, dif_pos (by simp [valR]; omega)]
      simp only [valR, Nat.mul_zero, Nat.zero_add, List.nil_append]
      rw [hcb]
    · have hl0 : 0 < l.length := List.length_pos_iff.2 hl
      have hhead : l.getD 0 0 ≠ 48 := by
        intro e
        rw [getD_left hl0, e] at h2
        simp at h2
        exact hl h2
      have hpos : 0 < valR l := by
        cases l with
        | nil => exact absurd rfl hl
        | cons x l =>
          have hx := h3.1
          rw [List.all_cons, Bool.and_eq_true] at hx
          have hx1 := hx.1
          unfold isDig at hx1
          simp only [Bool.and_eq_true, decide_eq_true_eq] at hx1
          have hx2 : x.toNat ≠ 48 := by
            intro e
            apply hhead
            apply UInt8.toNat_inj.1
            simpa using e
          rw [valR]
          have : 1 * 10 ^ l.length ≤ (x.toNat - 48) * 10 ^ l.length := Nat.mul_le_mul_right _ (by omega)
          have := Nat.pow_pos (n := l.length) (show 0 < 10 by decide)
          omega
      have hd := ih l.length (by rw [← hn]; simp) (s := l) h3.1 (by simpa using hl) (by
        rw [Bool.not_eq_true', Bool.and_eq_false_iff]
        exact .inr (by simpa using hhead)) rfl
      rw [Lib.decDigits, dif_neg (by omega)]
      rw [show (10 * valR l + (c.toNat - 48)) / 10 = valR l by omega, hd, show (10 * valR l + (c.toNat - 48)) % 10 = c.toNat - 48 by omega, hcb]

/-- Shorter, or as long and less byte by byte. -/
def lessB (a b : List UInt8) : Bool := if a.length = b.length then Op.bytesLess a b else decide (a.length < b.length)

theorem less_val : ∀ {a b : List UInt8}, a.length = b.length → a.all isDig = true → b.all isDig = true → Op.bytesLess a b = decide (valR a < valR b)
  | [], [], _, _, _ => by simp [Op.bytesLess, valR]
  | [], _ :: _, h, _, _ => by simp at h
  | _ :: _, [], h, _, _ => by simp at h
  | x :: a, y :: b, h, ha, hb => by
    have hl : a.length = b.length := by simpa using h
    rw [List.all_cons, Bool.and_eq_true] at ha hb
    have i := less_val hl ha.2 hb.2
    have la := valR_lt ha.2
    have lb := valR_lt hb.2
    have h1 := ha.1
    have h2 := hb.1
    unfold isDig at h1 h2
    simp only [Bool.and_eq_true, decide_eq_true_eq] at h1 h2
    rw [valR, valR, hl]
    rw [hl] at la
    rw [Op.bytesLess, i]
    have hP := Nat.pow_pos (n := b.length) (show 0 < 10 by decide)
    generalize 10 ^ b.length = P at *
    rcases Nat.lt_trichotomy x.toNat y.toNat with hxy | hxy | hxy
    · have e : (x < y) := UInt8.lt_iff_toNat_lt.2 hxy
      have m : (x.toNat - 48 + 1) * P ≤ (y.toNat - 48) * P := Nat.mul_le_mul_right _ (by omega)
      rw [Nat.add_mul] at m
      simp only [e, decide_true, Bool.true_or]
      symm
      rw [decide_eq_true_eq]
      omega
    · have e : x = y := UInt8.toNat_inj.1 hxy
      subst e
      simp
    · have e : ¬ (x < y) := fun h => by have := UInt8.lt_iff_toNat_lt.1 h; omega
      have e2 : (x == y) = false := by
        rw [beq_eq_false_iff_ne]
        intro h; rw [h] at hxy; omega
      have m : (y.toNat - 48 + 1) * P ≤ (x.toNat - 48) * P := Nat.mul_le_mul_right _ (by omega)
      rw [Nat.add_mul] at m
      simp only [e, decide_false, e2, Bool.false_and, Bool.or_false]
      symm
      rw [decide_eq_false_iff_not]
      omega

theorem val_pos {s : List UInt8} (h : isNumB s = true) (h1 : 1 < s.length) : 10 ^ (s.length - 1) ≤ valR s := by
  unfold isNumB at h
  simp only [Bool.and_eq_true] at h
  obtain ⟨⟨_, h2⟩, h3⟩ := h
  cases s with
  | nil => simp at h1
  | cons x l =>
    rw [List.all_cons, Bool.and_eq_true] at h3
    have hx := h3.1
    unfold isDig at hx
    simp only [Bool.and_eq_true, decide_eq_true_eq] at hx
    have hx2 : x.toNat ≠ 48 := by
      intro e
      have : x = 48 := UInt8.toNat_inj.1 (by simpa using e)
      subst this
      simp at h2 h1
      simp [h2] at h1
    rw [valR]
    have : 1 * 10 ^ l.length ≤ (x.toNat - 48) * 10 ^ l.length := Nat.mul_le_mul_right _ (by omega)
    simp only [List.length_cons, Nat.add_sub_cancel]
    omega

theorem isNum_dig {s : List UInt8} (h : isNumB s = true) : s.all isDig = true := by
  unfold isNumB at h
  simp only [Bool.and_eq_true] at h
  exact h.2

theorem isNum_len {s : List UInt8} (h : isNumB s = true) : 0 < s.length := by
  unfold isNumB at h
  simp only [Bool.and_eq_true] at h
  exact List.length_pos_iff.2 (by simpa using h.1.1)

/-- Texts stand as their numbers do. -/
theorem less_nums {a b : List UInt8} (ha : isNumB a = true) (hb : isNumB b = true) : lessB a b = decide (valR a < valR b) := by
  unfold lessB
  split
  · rename_i h
    exact less_val h (isNum_dig ha) (isNum_dig hb)
  · rename_i h
    have la := valR_lt (isNum_dig ha)
    have lb := valR_lt (isNum_dig hb)
    have pa := isNum_len ha
    have pb := isNum_len hb
    rcases Nat.lt_or_ge a.length b.length with hl | hl
    · have h1 := val_pos hb (by omega)
      have h2 : 10 ^ a.length ≤ 10 ^ (b.length - 1) := Nat.pow_le_pow_right (by decide) (by omega)
      rw [decide_eq_true hl]
      symm
      rw [decide_eq_true_eq]
      omega
    · have h1 := val_pos ha (by omega)
      have h2 : 10 ^ b.length ≤ 10 ^ (a.length - 1) := Nat.pow_le_pow_right (by decide) (by omega)
      rw [decide_eq_false (by omega)]
      symm
      rw [decide_eq_false_iff_not]
      omega

theorem less_dec (a b : Nat) : lessB (Lib.decDigits a) (Lib.decDigits b) = decide (a < b) := by
  rw [less_nums (dec_isNum a) (dec_isNum b), (dec_all a).2, (dec_all b).2]

theorem valR_take_le (s : List UInt8) (j : Nat) : valR (s.take j) ≤ valR s := by
  conv => rhs; rw [← List.take_append_drop j s, valR_append]
  have := Nat.pow_pos (n := (s.drop j).length) (show 0 < 10 by decide)
  have := Nat.mul_le_mul_left (valR (s.take j)) this
  omega

end Go.Proofs.YtnaoandleelbkaaGreatDoor.Nx

namespace Go.Proofs.YtnaoandleelbkaaGreatDoor.Nx
open Go Go.RowKit
set_option maxRecDepth 100000

theorem gPow : Tryz.prog.globalNamed "internal/strconv.uint64pow10" = some 6 := by kernel_rfl
/-- The laid variable is as its text lays it. -/
structure LW (w : World) : Prop where
  pow : Lib.TabIs Tryz.prog w "internal/strconv.uint64pow10" .u64 Lib.pow10Tab
theorem LW.below {w w' : World} (h : LW w) (hb : Below w.heap.size w w') : LW w' := ⟨tab_below h.pow gPow hb⟩
theorem itoa_call (n : Int) (w : World) (h0 : -9223372036854775808 ≤ n) (h1 : n ≤ 9223372036854775807) (hw : LW w) :
    Calls Tryz.prog 199 #[.int .i64 n] w fun e w' => e = .returned (sv (Lib.itoa n)) ∧ Below w.heap.size w w' := by
  refine (Tryz.strconv_Itoa n h0 h1 w hw.pow).mono ?_
  rintro e w1 ⟨rfl, q, os, hw⟩
  refine ⟨rfl, ?_⟩
  exact below_more (w := w) (w' := w1) (os := os) (by rw [hw]; rfl) (by rw [hw]; rfl) (by rw [hw]; rfl) (by rw [hw]; rfl)
end Go.Proofs.YtnaoandleelbkaaGreatDoor.Nx

namespace Go.Proofs.YtnaoandleelbkaaGreatDoor.Nx
open Go Go.RowKit
set_option linter.unusedSimpArgs false
set_option linter.unusedVariables false
set_option maxRecDepth 100000

theorem less_any (a b : List UInt8) (w : World) :
    Calls Tryz.prog 194 #[.string (str a), .string (str b)] w fun e w' => e = .returned (.bool (lessB a b)) ∧ w = w' := by
  by_cases h : a.length = b.length
  · have HL := Lib.hid (show lessB a b = Op.bytesLess a b by rw [lessB, if_pos h])
    have h2 : (a.length : Int) = b.length := by omega
    go_enter Tryz.func194, Tryz.ntmps194
    go_wp2
    go_ret
    rw [HL.out]
    exact ⟨rfl, rfl⟩
  · have HL := Lib.hid (show lessB a b = decide (a.length < b.length) by rw [lessB, if_neg h])
    have h1 : (((a.length : Int)) == b.length) = false := by simp; omega
    have h2 : (((a.length : Int)) != b.length) = true := by simp; omega
    go_enter Tryz.func194, Tryz.ntmps194
    go_wp2
    go_ret
    rw [HL.out]
    exact ⟨rfl, rfl⟩

theorem not_dig {s : List UInt8} {j : Nat} (h : j < s.length) (hd : (s.getD j 0).toNat < 48 ∨ 57 < (s.getD j 0).toNat) : s.all isDig = false := by
  rw [List.all_eq_false]
  refine ⟨s.getD j 0, by rw [getD_str s j h]; exact List.getElem_mem h, ?_⟩
  unfold isDig
  rw [Bool.and_eq_true, decide_eq_true_eq, decide_eq_true_eq]
  omega

theorem dig_take {s : List UInt8} {j : Nat} (h : j < s.length) (ha : (s.take j).all isDig = true) (h1 : 48 ≤ (s.getD j 0).toNat) (h2 : (s.getD j 0).toNat ≤ 57) : (s.take (j + 1)).all isDig = true := by
  rw [List.take_succ_eq_append_getElem h, List.all_append, ha, Bool.true_and, List.all_cons, List.all_nil, Bool.and_true, ← getD_str s j h]
  unfold isDig
  rw [decide_eq_true h1, decide_eq_true h2]; rfl

set_option maxHeartbeats 1000000 in
theorem isnum_any (s : List UInt8) (w : World) (hs : s.length ≤ 1000000) : Calls Tryz.prog 193 #[.string (str s)] w fun e w' => e = .returned (.bool (isNumB s)) ∧ w = w' := by
  by_cases h0 : s = []
  · subst h0
    go_enter Tryz.func193, Tryz.ntmps193
    go_wp2
    go_ret
    exact ⟨rfl, rfl⟩
  have hp : 0 < s.length := List.length_pos_iff.2 h0
  have hem : s.isEmpty = false := by simpa using h0
  rcases (show s.length = 1 ∨ (1 < s.length ∧ (s.getD 0 0 == 48) = false) ∨ (1 < s.length ∧ (s.getD 0 0 == 48) = true) by
    cases s.getD 0 0 == 48 <;> simp <;> omega) with h1 | ⟨h1, h2⟩ | ⟨h1, h2⟩
  · have HN := Lib.hid (show isNumB s = s.all isDig by unfold isNumB; rw [hem, h1]; simp)
    have h1' : s.length ≤ 1 := by omega
    clear h0 h1
    go_enter Tryz.func193, Tryz.ntmps193

    go_wp2_with fail
    go_loop [18] (fun i => ∃ j : Nat, j ≤ s.length ∧ i = .int .i64 j ∧ (s.take j).all isDig = true) (fun i => s.length - (intOf i).toNat)
    case atStart => exact ⟨0, Nat.zero_le _, rfl, rfl⟩
    case round =>
      obtain ⟨j, hj, rfl, ha⟩ := hrel
      have HA := Lib.hid ha
      clear ha
      by_cases hlt : j < s.length
      · have hg := getD_str s j hlt
        by_cases h1 : (s.getD j 0).toNat < 48
        · have HF := Lib.hid (not_dig hlt (.inl h1))
          have e1 : decide ((((str s)[j]'(by simpa [ByteArray.size] using hlt)).toNat : Int) < 48) = true := by rw [str_getD s j hlt]; exact decide_eq_true (by omega)
          clear hg h1
          go_wp2
          go_ret
          rw [HN.out, HF.out]
          exact ⟨rfl, rfl⟩
        · have e1 : decide ((((str s)[j]'(by simpa [ByteArray.size] using hlt)).toNat : Int) < 48) = false := by rw [str_getD s j hlt]; exact decide_eq_false (by omega)
          by_cases h2 : 57 < (s.getD j 0).toNat
          · have HF := Lib.hid (not_dig hlt (.inr h2))
            have e2 : decide (57 < (((str s)[j]'(by simpa [ByteArray.size] using hlt)).toNat : Int)) = true := by rw [str_getD s j hlt]; exact decide_eq_true (by omega)
            clear hg h1 h2
            go_wp2
            go_ret
            rw [HN.out, HF.out]
            exact ⟨rfl, rfl⟩
          · have e2 : decide (57 < (((str s)[j]'(by simpa [ByteArray.size] using hlt)).toNat : Int)) = false := by rw [str_getD s j hlt]; exact decide_eq_false (by omega)
            have HD := Lib.hid (dig_take hlt HA.out (by omega) (by omega))
            clear hg h1 h2
            go_wp2
            go_round
            case rel => exact ⟨j + 1, by omega, by go_num, HD.out⟩
            case measure => simp [intOf]; omega
      · obtain rfl : j = s.length := by omega
        rw [List.take_of_length_le (Nat.le_refl _)] at HA
        go_wp2
        go_ret
        rw [HN.out, HA.out]
        exact ⟨rfl, rfl⟩
  · have HN := Lib.hid (show isNumB s = s.all isDig by unfold isNumB; rw [hem, h2]; simp)
    have hh : ((((str s)[0]'(by simpa [ByteArray.size] using hp)).toNat : Int) == 48) = false := by
      rw [str_getD s 0 hp]
      rw [beq_eq_false_iff_ne] at h2 ⊢
      intro e
      exact h2 (UInt8.toNat_inj.1 (by have : (48 : UInt8).toNat = 48 := rfl; omega))
    clear h0 h2
    go_enter Tryz.func193, Tryz.ntmps193

    go_wp2_with fail
    go_loop [18] (fun i => ∃ j : Nat, j ≤ s.length ∧ i = .int .i64 j ∧ (s.take j).all isDig = true) (fun i => s.length - (intOf i).toNat)
    case atStart => exact ⟨0, Nat.zero_le _, rfl, rfl⟩
    case round =>
      obtain ⟨j, hj, rfl, ha⟩ := hrel
      have HA := Lib.hid ha
      clear ha
      by_cases hlt : j < s.length
      · have hg := getD_str s j hlt
        by_cases h1 : (s.getD j 0).toNat < 48
        · have HF := Lib.hid (not_dig hlt (.inl h1))
          have e1 : decide ((((str s)[j]'(by simpa [ByteArray.size] using hlt)).toNat : Int) < 48) = true := by rw [str_getD s j hlt]; exact decide_eq_true (by omega)
          clear hg h1
          go_wp2
          go_ret
          rw [HN.out, HF.out]
          exact ⟨rfl, rfl⟩
        · have e1 : decide ((((str s)[j]'(by simpa [ByteArray.size] using hlt)).toNat : Int) < 48) = false := by rw [str_getD s j hlt]; exact decide_eq_false (by omega)
          by_cases h2 : 57 < (s.getD j 0).toNat
          · have HF := Lib.hid (not_dig hlt (.inr h2))
            have e2 : decide (57 < (((str s)[j]'(by simpa [ByteArray.size] using hlt)).toNat : Int)) = true := by rw [str_getD s j hlt]; exact decide_eq_true (by omega)
            clear hg h1 h2
            go_wp2
            go_ret
            rw [HN.out, HF.out]
            exact ⟨rfl, rfl⟩
          · have e2 : decide (57 < (((str s)[j]'(by simpa [ByteArray.size] using hlt)).toNat : Int)) = false := by rw [str_getD s j hlt]; exact decide_eq_false (by omega)
            have HD := Lib.hid (dig_take hlt HA.out (by omega) (by omega))
            clear hg h1 h2
            go_wp2
            go_round
            case rel => exact ⟨j + 1, by omega, by go_num, HD.out⟩
            case measure => simp [intOf]; omega
      · obtain rfl : j = s.length := by omega
        rw [List.take_of_length_le (Nat.le_refl _)] at HA
        go_wp2
        go_ret
        rw [HN.out, HA.out]
        exact ⟨rfl, rfl⟩
  · have HN := Lib.hid (show isNumB s = false by unfold isNumB; rw [hem, h2]; simp [h1])
    have hh : ((((str s)[0]'(by simpa [ByteArray.size] using hp)).toNat : Int) == 48) = true := by
      rw [str_getD s 0 hp]
      rw [beq_iff_eq] at h2 ⊢
      rw [h2]; rfl
    clear h0 h2
    go_enter Tryz.func193, Tryz.ntmps193
    go_wp2
    go_ret
    rw [HN.out]
    exact ⟨rfl, rfl⟩
end Go.Proofs.YtnaoandleelbkaaGreatDoor.Nx

namespace Go.Proofs.YtnaoandleelbkaaGreatDoor.Nx
open Go Go.RowKit
set_option linter.unusedSimpArgs false
set_option linter.unusedVariables false
set_option maxRecDepth 100000

theorem show_any (n : Int) (w : World) (h0 : -9223372036854775808 ≤ n) (h1 : n ≤ 9223372036854775807) (hw : LW w) :
    Calls Tryz.prog 166 #[.int .i64 n] w fun e w' => e = .returned (sv (Lib.itoa n)) ∧ Below w.heap.size w w' := by
  have HW := Lib.hid hw.pow
  clear hw
  go_enter Tryz.func166, Tryz.ntmps166
  go_wp2_with fail
  refine (itoa_call n w h0 h1 ⟨HW.out⟩).mono ?_
  rintro e w1 ⟨rfl, hb⟩
  have HB := Lib.hid hb
  clear hb
  go_wp2
  go_ret
  exact ⟨rfl, HB.out⟩

/-- The number of a text, most at most; and the error. -/
def numR (s : List UInt8) (most : Int) : Int × Int := if isNumB s = true then (if most < valR s then (0, 40) else ((valR s : Nat), 0)) else (0, 4)
def numV (s : List UInt8) (most : Int) : Value := .tuple #[.int .i64 (numR s most).1, .int .i64 (numR s most).2]

theorem valR_take_succ {s : List UInt8} {j : Nat} (h : j < s.length) : valR (s.take (j + 1)) = 10 * valR (s.take j) + ((s.getD j 0).toNat - 48) := by
  rw [List.take_succ_eq_append_getElem h, valR_snoc, getD_str s j h]

theorem dig_at {s : List UInt8} (h : s.all isDig = true) {j : Nat} (hj : j < s.length) : 48 ≤ (s.getD j 0).toNat ∧ (s.getD j 0).toNat ≤ 57 := by
  have := List.all_eq_true.1 h s[j] (List.getElem_mem hj)
  rw [getD_str s j hj]
  unfold isDig at this
  simpa using this

set_option maxHeartbeats 1000000 in
theorem num_any (s : List UInt8) (most : Int) (w : World) (hs : s.length ≤ 1000000) (h0 : -9223372036854775808 ≤ most) (h1 : most ≤ 9223372036854775807) (hw : LW w) :
    Calls Tryz.prog 162 #[.string (str s), .int .i64 most] w fun e w' => e = .returned (numV s most) ∧ Below w.heap.size w w' := by
  have HI := Lib.hid (isnum_any s w hs)
  cases hn : isNumB s with
  | false =>
    have HV := Lib.hid (show numV s most = .tuple #[.int .i64 0, .int .i64 4] by unfold numV numR; rw [hn]; rfl)
    rw [hn] at HI
    clear hn
    go_enter Tryz.func162, Tryz.ntmps162
    go_wp2_with fail
    refine HI.out.mono ?_
    rintro e w' ⟨rfl, rfl⟩
    go_wp2
    go_ret2
    rw [HV.out]
    exact ⟨rfl, Below.refl _ _⟩
  | true =>
    rw [hn] at HI
    have hd := isNum_dig hn
    by_cases hneg : most < 0
    · have HV := Lib.hid (show numV s most = .tuple #[.int .i64 0, .int .i64 40] by unfold numV numR; rw [hn, if_pos rfl, if_pos (by omega)])
      have hdn : decide (most < 0) = true := by simpa using hneg
      clear hn
      go_enter Tryz.func162, Tryz.ntmps162
      go_wp2_with fail
      refine HI.out.mono ?_
      rintro e w' ⟨rfl, rfl⟩
      go_wp2_with fail
      go_ret2
      rw [HV.out]
      exact ⟨rfl, Below.refl _ _⟩
    · obtain ⟨m, rfl⟩ : ∃ m : Nat, most = m := ⟨most.toNat, by omega⟩
      have hless : lessB (Lib.decDigits m) s = decide (m < valR s) := by rw [less_nums (dec_isNum m) hn, (dec_all m).2]
      have hit : Lib.itoa (m : Int) = Lib.decDigits m := by unfold Lib.itoa; rw [if_neg (by omega)]; simp
      have hsh := show_any (m : Int) w h0 h1 hw
      rw [hit] at hsh
      have HS := Lib.hid hsh
      have HL := Lib.hid hless
      clear hsh hless hit
      by_cases hm : m < valR s
      · have HV := Lib.hid (show numV s m = .tuple #[.int .i64 0, .int .i64 40] by unfold numV numR; rw [hn, if_pos rfl, if_pos (by omega)])
        rw [decide_eq_true hm] at HL
        clear hn hm hd
        go_enter Tryz.func162, Tryz.ntmps162
        go_wp2_with fail
        refine HI.out.mono ?_
        rintro e w' ⟨rfl, rfl⟩
        go_wp2_with fail
        refine HS.out.mono ?_
        rintro e w1 ⟨rfl, hb⟩
        have HB := Lib.hid hb
        clear hb
        go_wp2_with fail
        refine (less_any (Lib.decDigits m) s w1).mono ?_
        rw [HL.out]
        rintro e w' ⟨rfl, rfl⟩
        go_wp2
        go_ret2
        rw [HV.out]
        exact ⟨rfl, HB.out⟩
      · have HV := Lib.hid (show numV s m = .tuple #[.int .i64 (valR s : Nat), .int .i64 0] by unfold numV numR; rw [hn, if_pos rfl, if_neg (by omega)])
        rw [decide_eq_false hm] at HL
        have hle : valR s ≤ 9223372036854775807 := by omega
        clear hn hm
        have HD := Lib.hid hd
        clear hd
        go_enter Tryz.func162, Tryz.ntmps162
        go_wp2_with fail
        refine HI.out.mono ?_
        rintro e w' ⟨rfl, rfl⟩
        go_wp2_with fail
        refine HS.out.mono ?_
        rintro e w1 ⟨rfl, hb⟩
        have HB := Lib.hid hb
        clear hb
        go_wp2_with fail
        refine (less_any (Lib.decDigits m) s w1).mono ?_
        rw [HL.out]
        rintro e w' ⟨rfl, rfl⟩
        go_wp2_with fail
        go_loop [6, 21] (fun n i => ∃ j : Nat, j ≤ s.length ∧ i = .int .i64 j ∧ n = .int .i64 (valR (s.take j) : Nat)) (fun _ i => s.length - (intOf i).toNat)
        case atStart => exact ⟨0, Nat.zero_le _, rfl, rfl⟩
        case round =>
          obtain ⟨j, hj, rfl, rfl⟩ := hrel
          by_cases hlt : j < s.length
          · have h2 := valR_take_succ hlt
            have h3 := valR_take_le s (j + 1)
            have h4 := valR_take_le s j
            have h5 := dig_at HD.out hlt
            rw [h2] at h3
            have H2 := Lib.hid h2
            clear h2
            generalize valR (s.take j) = a at *
            obtain ⟨c, hc⟩ : ∃ c, c = (s.getD j 0).toNat := ⟨_, rfl⟩
            have hcs : (((str s)[j]'(by simpa [ByteArray.size] using hlt)).toNat) = c := by rw [str_getD s j hlt, hc]
            rw [← hc] at h3 h5 H2
            clear hc
            go_wp2
            go_round
            case rel =>
              refine ⟨j + 1, by omega, by go_num, ?_⟩
              rw [H2.out]
              congr 1
              omega
            case measure => simp [intOf]; omega
          · obtain rfl : j = s.length := by omega
            rw [List.take_of_length_le (Nat.le_refl _)]
            go_wp2
            go_ret2
            rw [HV.out]
            exact ⟨rfl, HB.out⟩
end Go.Proofs.YtnaoandleelbkaaGreatDoor.Nx
