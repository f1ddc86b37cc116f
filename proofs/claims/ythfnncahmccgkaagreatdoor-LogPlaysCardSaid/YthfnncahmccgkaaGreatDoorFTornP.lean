/-
  Plain functions of package frame: what begins by a sector, and ends by another one.
-/
import Derived.Test.YthfnncahmccgkaaGreatDoorFPuM
namespace Go.Proofs.YthfnncahmccgkaaGreatDoor
open Go Go.RowKit
set_option maxRecDepth 100000
set_option linter.unusedSimpArgs false
set_option linter.unusedVariables false

def mixL (k : Nat) (x y : List UInt8) : List UInt8 := x.take k ++ y.drop k
theorem mixL_get {k i : Nat} {x y : List UInt8} (hl : x.length = y.length) (hk : k ≤ x.length) : (mixL k x y)[i]? = if i < k then x[i]? else y[i]? := by
  unfold mixL
  by_cases h : i < k
  · rw [if_pos h, List.getElem?_append_left (by simp; omega), List.getElem?_take_of_lt h]
  · rw [if_neg h, List.getElem?_append_right (by simp; omega), List.getElem?_drop]
    congr 1
    simp
    omega
theorem mixL_length {k : Nat} {x y : List UInt8} (hl : x.length = y.length) (hk : k ≤ x.length) : (mixL k x y).length = x.length := by simp [mixL]; omega
theorem fr_low {a p : Nat} {s : List UInt8} {i : Nat} (h : i < 8) : (frL a p s)[i]? = (stL a p)[i]? := by
  rw [frL, List.getElem?_append_left (by rw [stL_length]; exact h)]
theorem fr_high {a p : Nat} {s : List UInt8} (hs : s.length ≤ 112) {i : Nat} (h : 120 ≤ i) : (frL a p s)[i]? = (stL a p)[i - 120]? := by
  rw [frL, List.getElem?_append_right (by rw [stL_length]; omega), List.getElem?_append_right (by rw [stL_length, padL_length hs]; omega), stL_length, padL_length hs]
  rw [show i - 8 - 112 = i - 120 by omega]
theorem mix_fst {a p b q k : Nat} {s t : List UInt8} (hs : s.length ≤ 112) (ht : t.length ≤ 112) (hk : k ≤ 128) : fstL (mixL k (frL a p s) (frL b q t)) = mixL (min k 8) (stL a p) (stL b q) := by
  have l1 := frL_length (a := a) (p := p) hs
  have l2 := frL_length (a := b) (p := q) ht
  have l3 := stL_length a p
  have l4 := stL_length b q
  rw [fstL, if_pos (by rw [mixL_length (by omega) (by omega), l1])]
  refine List.ext_getElem? fun i => ?_
  by_cases h : i < 8
  · rw [List.getElem?_take_of_lt h, mixL_get (by omega) (by omega), mixL_get (by omega) (by omega), fr_low h, fr_low h]
    by_cases h2 : i < k
    · rw [if_pos h2, if_pos (by omega)]
    · rw [if_neg h2, if_neg (by omega)]
  · rw [List.getElem?_eq_none (by simp; omega), List.getElem?_eq_none (by rw [mixL_length (by omega) (by omega)]; omega)]
theorem mix_lst {a p b q k : Nat} {s t : List UInt8} (hs : s.length ≤ 112) (ht : t.length ≤ 112) (hk : k ≤ 128) : lstL (mixL k (frL a p s) (frL b q t)) = mixL (k - 120) (stL a p) (stL b q) := by
  have l1 := frL_length (a := a) (p := p) hs
  have l2 := frL_length (a := b) (p := q) ht
  have l3 := stL_length a p
  have l4 := stL_length b q
  rw [lstL, if_pos (by rw [mixL_length (by omega) (by omega), l1])]
  refine List.ext_getElem? fun i => ?_
  rw [List.getElem?_drop, mixL_get (by omega) (by omega), mixL_get (by omega) (by omega), fr_high hs (by omega), fr_high ht (by omega), show 120 + i - 120 = i by omega]
  by_cases h2 : 120 + i < k
  · rw [if_pos h2, if_pos (by omega)]
  · rw [if_neg h2, if_neg (by omega)]
theorem stL_inj {a p b q : Nat} (ha : a < 4294967296) (hb : b < 4294967296) (hp : p < 4294967296) (hq : q < 4294967296) (h : stL a p = stL b q) : a = b ∧ p = q := by
  have h1 := ageN_stL (a := a) (p := p) ha
  have h2 := ageN_stL (a := b) (p := q) hb
  have h3 := plN_stL (a := a) (p := p) hp
  have h4 := plN_stL (a := b) (p := q) hq
  rw [h] at h1 h3
  exact ⟨h1.symm.trans h2, h3.symm.trans h4⟩
/-- What is one of none is one of both. -/
theorem torn_is {a p b q k : Nat} {s t : List UInt8} (hs : s.length ≤ 112) (ht : t.length ≤ 112) (hk : k ≤ 128) (ha : a < 4294967296) (hb : b < 4294967296) (hp : p < 1024) (hq : q < 1024) (hne : ¬ (a = b ∧ p = q))
    (hi : isB (mixL k (frL a p s) (frL b q t)) = true) : mixL k (frL a p s) (frL b q t) = frL a p s ∨ mixL k (frL a p s) (frL b q t) = frL b q t := by
  have l1 := frL_length (a := a) (p := p) hs
  have l2 := frL_length (a := b) (p := q) ht
  have l3 := stL_length a p
  have l4 := stL_length b q
  rw [isB, Bool.and_eq_true, beq_iff_eq, mix_fst hs ht hk, mix_lst hs ht hk] at hi
  have he := hi.1
  rcases Nat.lt_or_ge k 120 with h120 | h120
  · rw [show k - 120 = 0 by omega] at he
    have e0 : mixL 0 (stL a p) (stL b q) = stL b q := by simp [mixL]
    rw [e0] at he
    rcases Nat.lt_or_ge k 8 with h8 | h8
    · right
      refine List.ext_getElem? fun i => ?_
      rw [mixL_get (by omega) (by omega)]
      by_cases h : i < k
      · rw [if_pos h, fr_low (by omega), fr_low (by omega), ← he, mixL_get (by omega) (by omega), if_pos (by omega)]
      · rw [if_neg h]
    · exfalso
      rw [Nat.min_eq_right h8, mixL, List.take_of_length_le (by omega), List.drop_of_length_le (by omega), List.append_nil] at he
      exact hne (stL_inj ha hb (by omega) (by omega) he)
  · left
    rw [Nat.min_eq_right (by omega)] at he
    have e8 : mixL 8 (stL a p) (stL b q) = stL a p := by rw [mixL, List.take_of_length_le (by omega), List.drop_of_length_le (by omega), List.append_nil]
    rw [e8] at he
    refine List.ext_getElem? fun i => ?_
    rw [mixL_get (by omega) (by omega)]
    by_cases h : i < k
    · rw [if_pos h]
    · rw [if_neg h, fr_high hs (by omega), fr_high ht (by omega), he, mixL_get (by omega) (by omega), if_neg (by omega)]
theorem mix_age {a p b q k : Nat} (hk : k ≤ 8) (hab : b ≤ a) : ageN (mixL k (stL a p) (stL b q)) ≤ a := by
  have l3 := stL_length a p
  have l4 := stL_length b q
  have h4 : (mixL k (stL a p) (stL b q)).take 4 = mixL (min k 4) (bytesL a 4) (bytesL b 4) := by
    have m1 := bytesL_length a 4
    have m2 := bytesL_length b 4
    refine List.ext_getElem? fun i => ?_
    by_cases h : i < 4
    · rw [List.getElem?_take_of_lt h, mixL_get (by omega) (by omega), mixL_get (by omega) (by omega)]
      have e1 : (stL a p)[i]? = (bytesL a 4)[i]? := by rw [stL, List.getElem?_append_left (by omega)]
      have e2 : (stL b q)[i]? = (bytesL b 4)[i]? := by rw [stL, List.getElem?_append_left (by omega)]
      rw [e1, e2]
      by_cases h2 : i < k
      · rw [if_pos h2, if_pos (by omega)]
      · rw [if_neg h2, if_neg (by omega)]
    · rw [List.getElem?_eq_none (by simp; omega), List.getElem?_eq_none (by rw [mixL_length (by omega) (by omega)]; omega)]
  rw [ageN, h4]
  obtain ⟨j, hj⟩ : ∃ j, j = min k 4 := ⟨_, rfl⟩
  rw [← hj, mixL, bytesL_take (by omega), bytesL_drop (by omega), numL_append, bytesL_length, numL_bytesL, numL_bytesL]
  have h1 : b / 256 ^ j % 256 ^ (4 - j) ≤ a / 256 ^ j := Nat.le_trans (Nat.mod_le _ _) (Nat.div_le_div_right hab)
  have h2 := Nat.mul_le_mul_left (256 ^ j) h1
  have h3 := Nat.mod_add_div a (256 ^ j)
  omega
theorem torn_age {a p b q k : Nat} {s t : List UInt8} (hs : s.length ≤ 112) (ht : t.length ≤ 112) (hk : k ≤ 128) (hab : b ≤ a) : oldL (mixL k (frL a p s) (frL b q t)) ≤ a := by
  rw [oldL, mix_fst hs ht hk, mix_lst hs ht hk]
  exact Nat.max_le.2 ⟨mix_age (by omega) hab, mix_age (by omega) hab⟩
end Go.Proofs.YthfnncahmccgkaaGreatDoor
