/-
  Contracts of isNumber, isLess, Show, Num.
  Texts of 1000000 bytes at most; Show and Num where the library's table of powers of ten is as its text lays it.
-/
import Derived.WalkLawsBesides
import Derived.Test.YtdniojbplakeoaaDoorDec
import Derived.Test.YtdniojbplakeoaaDoorCodes
namespace Go.Proofs.YtdniojbplakeoaaDoor
open Go Go.RowKit
set_option maxRecDepth 100000

theorem less_any (a b : List UInt8) (w : World) :
    Calls Tryd.prog 38 #[.string (str a), .string (str b)] w fun e w' => e = .returned (.bool (lessB a b)) ∧ w = w' := by
  by_cases h : a.length = b.length
  · have HL := Lib.hid (show lessB a b = Op.bytesLess a b by rw [lessB, if_pos h])
    have h2 : (a.length : Int) = b.length := by omega
    go_enter Tryd.func38, Tryd.ntmps38
    go_wp2
    go_ret
    rw [HL.out]
    exact ⟨rfl, rfl⟩
  · have HL := Lib.hid (show lessB a b = decide (a.length < b.length) by rw [lessB, if_neg h])
    have h1 : (((a.length : Int)) == b.length) = false := by simp; omega
    have h2 : (((a.length : Int)) != b.length) = true := by simp; omega
    go_enter Tryd.func38, Tryd.ntmps38
    go_wp2
    go_ret
    rw [HL.out]
    exact ⟨rfl, rfl⟩

theorem getD_str (s : List UInt8) (j : Nat) (h : j < s.length) : s.getD j 0 = s[j] := by
  rw [List.getD_eq_getElem?_getD, List.getElem?_eq_getElem h]; rfl

theorem not_dig {s : List UInt8} {j : Nat} (h : j < s.length) (hd : (s.getD j 0).toNat < 48 ∨ 57 < (s.getD j 0).toNat) : s.all isDig = false := by
  rw [List.all_eq_false]
  refine ⟨s.getD j 0, by rw [getD_str s j h]; exact List.getElem_mem h, ?_⟩
  unfold isDig
  rw [Bool.and_eq_true, decide_eq_true_eq, decide_eq_true_eq]
  omega

theorem dig_take {s : List UInt8} {j : Nat} (h : j < s.length) (ha : (s.take j).all isDig = true) (h1 : 48 ≤ (s.getD j 0).toNat) (h2 : (s.getD j 0).toNat ≤ 57) : (s.take (j + 1)).all isDig = true := by
  rw [List.take_succ_eq_append_getElem h, List.all_append, ha, Bool.true_and, List.all_cons, List.all_nil, Bool.and_true, ← getD_str s j h]
  unfold isDig
  rw [decide_eq_true h1, decide_eq_true h2]; rfl

set_option maxHeartbeats 1000000 in
theorem isnum_any (s : List UInt8) (w : World) (hs : s.length ≤ 1000000) : Calls Tryd.prog 37 #[.string (str s)] w fun e w' => e = .returned (.bool (isNumB s)) ∧ w = w' := by
  by_cases h0 : s = []
  · subst h0
    go_enter Tryd.func37, Tryd.ntmps37
    go_wp2
    go_ret
    exact ⟨rfl, rfl⟩
  have hp : 0 < s.length := List.length_pos_iff.2 h0
  have hem : s.isEmpty = false := by simpa using h0
  rcases (show s.length = 1 ∨ (1 < s.length ∧ (s.getD 0 0 == 48) = false) ∨ (1 < s.length ∧ (s.getD 0 0 == 48) = true) by
    cases s.getD 0 0 == 48 <;> simp <;> omega) with h1 | ⟨h1, h2⟩ | ⟨h1, h2⟩
  · have HN := Lib.hid (show isNumB s = s.all isDig by unfold isNumB; rw [hem, h1]; simp)
    have h1' : s.length ≤ 1 := by omega
    clear h0 h1
    go_enter Tryd.func37, Tryd.ntmps37

    go_wp2_with fail
    go_loop [18] (fun i => ∃ j : Nat, j ≤ s.length ∧ i = .int .i64 j ∧ (s.take j).all isDig = true) (fun i => s.length - (intOf i).toNat)
    case atStart => exact ⟨0, Nat.zero_le _, rfl, rfl⟩
    case round =>
      obtain ⟨j, hj, rfl, ha⟩ := hrel
      have HA := Lib.hid ha
      clear ha
      by_cases hlt : j < s.length
      · have hg := getD_str s j hlt
        by_cases h1 : (s.getD j 0).toNat < 48
        · have HF := Lib.hid (not_dig hlt (.inl h1))
          have e1 : decide ((((str s)[j]'(by simpa [ByteArray.size] using hlt)).toNat : Int) < 48) = true := by rw [str_getD s j hlt]; exact decide_eq_true (by omega)
          clear hg h1
          go_wp2
          go_ret
          rw [HN.out, HF.out]
          exact ⟨rfl, rfl⟩
        · have e1 : decide ((((str s)[j]'(by simpa [ByteArray.size] using hlt)).toNat : Int) < 48) = false := by rw [str_getD s j hlt]; exact decide_eq_false (by omega)
          by_cases h2 : 57 < (s.getD j 0).toNat
          · have HF := Lib.hid (not_dig hlt (.inr h2))
            have e2 : decide (57 < (((str s)[j]'(by simpa [ByteArray.size] using hlt)).toNat : Int)) = true := by rw [str_getD s j hlt]; exact decide_eq_true (by omega)
            clear hg h1 h2
            go_wp2
            go_ret
            rw [HN.out, HF.out]
            exact ⟨rfl, rfl⟩
          · have e2 : decide (57 < (((str s)[j]'(by simpa [ByteArray.size] using hlt)).toNat : Int)) = false := by rw [str_getD s j hlt]; exact decide_eq_false (by omega)
            have HD := Lib.hid (dig_take hlt HA.out (by omega) (by omega))
            clear hg h1 h2
            go_wp2
            go_round
            case rel => exact ⟨j + 1, by omega, by go_num, HD.out⟩
            case measure => simp [intOf]; omega
      · obtain rfl : j = s.length := by omega
        rw [List.take_of_length_le (Nat.le_refl _)] at HA
        go_wp2
        go_ret
        rw [HN.out, HA.out]
        exact ⟨rfl, rfl⟩
  · have HN := Lib.hid (show isNumB s = s.all isDig by unfold isNumB; rw [hem, h2]; simp)
    have hh : ((((str s)[0]'(by simpa [ByteArray.size] using hp)).toNat : Int) == 48) = false := by
      rw [str_getD s 0 hp]
      rw [beq_eq_false_iff_ne] at h2 ⊢
      intro e
      exact h2 (UInt8.toNat_inj.1 (by have : (48 : UInt8).toNat = 48 := rfl; omega))
    clear h0 h2
    go_enter Tryd.func37, Tryd.ntmps37

    go_wp2_with fail
    go_loop [18] (fun i => ∃ j : Nat, j ≤ s.length ∧ i = .int .i64 j ∧ (s.take j).all isDig = true) (fun i => s.length - (intOf i).toNat)
    case atStart => exact ⟨0, Nat.zero_le _, rfl, rfl⟩
    case round =>
      obtain ⟨j, hj, rfl, ha⟩ := hrel
      have HA := Lib.hid ha
      clear ha
      by_cases hlt : j < s.length
      · have hg := getD_str s j hlt
        by_cases h1 : (s.getD j 0).toNat < 48
        · have HF := Lib.hid (not_dig hlt (.inl h1))
          have e1 : decide ((((str s)[j]'(by simpa [ByteArray.size] using hlt)).toNat : Int) < 48) = true := by rw [str_getD s j hlt]; exact decide_eq_true (by omega)
          clear hg h1
          go_wp2
          go_ret
          rw [HN.out, HF.out]
          exact ⟨rfl, rfl⟩
        · have e1 : decide ((((str s)[j]'(by simpa [ByteArray.size] using hlt)).toNat : Int) < 48) = false := by rw [str_getD s j hlt]; exact decide_eq_false (by omega)
          by_cases h2 : 57 < (s.getD j 0).toNat
          · have HF := Lib.hid (not_dig hlt (.inr h2))
            have e2 : decide (57 < (((str s)[j]'(by simpa [ByteArray.size] using hlt)).toNat : Int)) = true := by rw [str_getD s j hlt]; exact decide_eq_true (by omega)
            clear hg h1 h2
            go_wp2
            go_ret
            rw [HN.out, HF.out]
            exact ⟨rfl, rfl⟩
          · have e2 : decide (57 < (((str s)[j]'(by simpa [ByteArray.size] using hlt)).toNat : Int)) = false := by rw [str_getD s j hlt]; exact decide_eq_false (by omega)
            have HD := Lib.hid (dig_take hlt HA.out (by omega) (by omega))
            clear hg h1 h2
            go_wp2
            go_round
            case rel => exact ⟨j + 1, by omega, by go_num, HD.out⟩
            case measure => simp [intOf]; omega
      · obtain rfl : j = s.length := by omega
        rw [List.take_of_length_le (Nat.le_refl _)] at HA
        go_wp2
        go_ret
        rw [HN.out, HA.out]
        exact ⟨rfl, rfl⟩
  · have HN := Lib.hid (show isNumB s = false by unfold isNumB; rw [hem, h2]; simp [h1])
    have hh : ((((str s)[0]'(by simpa [ByteArray.size] using hp)).toNat : Int) == 48) = true := by
      rw [str_getD s 0 hp]
      rw [beq_iff_eq] at h2 ⊢
      rw [h2]; rfl
    clear h0 h2
    go_enter Tryd.func37, Tryd.ntmps37
    go_wp2
    go_ret
    rw [HN.out]
    exact ⟨rfl, rfl⟩
end Go.Proofs.YtdniojbplakeoaaDoor
