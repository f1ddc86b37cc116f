/-
  Contracts of the reference's Num and Show.
  Texts of 1000000 bytes at most.
-/
import Derived.Test.YtdniojbplakeoaaDoorShow
namespace Go.Proofs.YtdniojbplakeoaaDoor
open Go Go.RowKit
set_option maxRecDepth 100000

theorem digit_form (s : List UInt8) (a : Bool) (h : s ≠ []) (hz : (decide (1 < s.length) && s.getD 0 0 == 48) = a) : isNumB s = (!a && s.all isDig) := by
  unfold isNumB; rw [hz]; cases s <;> simp_all

theorem numV_form (s : List UInt8) (most : Int) (h : isNumB s = false) : numV s most = .tuple #[.int .i64 0, .int .i64 4] := by unfold numV numR; rw [h]; rfl
theorem numV_big (s : List UInt8) (most : Int) (h : isNumB s = true) (hm : most < valR s) : numV s most = .tuple #[.int .i64 0, .int .i64 40] := by unfold numV numR; rw [h, if_pos rfl, if_pos (by omega)]
theorem numV_ok (s : List UInt8) (most : Int) (h : isNumB s = true) (hm : ¬ most < valR s) : numV s most = .tuple #[.int .i64 (valR s : Nat), .int .i64 0] := by unfold numV numR; rw [h, if_pos rfl, if_neg (by omega)]

set_option maxHeartbeats 4000000 in
theorem rnum_any (s : List UInt8) (most : Int) (w : World) (hs : s.length ≤ 1000000) (hlo : -9223372036854775808 ≤ most) (hhi : most ≤ 9223372036854775807) : Calls Tryd.prog 24 #[.string (str s), .int .i64 most] w fun e w' => e = .returned (numV s most) ∧ w = w' := by
  by_cases h0 : s = []
  · subst h0
    go_enter Tryd.func24, Tryd.ntmps24
    go_wp2
    go_ret2
    exact ⟨rfl, rfl⟩
  have hp : 0 < s.length := List.length_pos_iff.2 h0
  have hem : s.isEmpty = false := by simpa using h0
  rcases (show s.length = 1 ∨ (1 < s.length ∧ (s.getD 0 0 == 48) = false) ∨ (1 < s.length ∧ (s.getD 0 0 == 48) = true) by
    cases s.getD 0 0 == 48 <;> simp <;> omega) with h1 | ⟨h1, h2⟩ | ⟨h1, h2⟩
  · have HN := Lib.hid (show isNumB s = s.all isDig by unfold isNumB; rw [hem, h1]; simp)
    have h1' : s.length ≤ 1 := by omega
    clear h0 h1
    go_enter Tryd.func24, Tryd.ntmps24
    go_wp2_with fail
    go_loop [6] (fun i => ∃ j : Nat, j ≤ s.length ∧ i = .int .i64 j ∧ (s.take j).all isDig = true) (fun i => s.length - (intOf i).toNat)
    case atStart => exact ⟨0, Nat.zero_le _, rfl, rfl⟩
    case round =>
      obtain ⟨j, hj, rfl, ha⟩ := hrel
      have HA := Lib.hid ha
      clear ha
      by_cases hlt : j < s.length
      · have hg := getD_str s j hlt
        by_cases h1 : (s.getD j 0).toNat < 48
        · have HF := Lib.hid (not_dig hlt (.inl h1))
          have e1 : decide ((((str s)[j]'(by simpa [ByteArray.size] using hlt)).toNat : Int) < 48) = true := by rw [str_getD s j hlt]; exact decide_eq_true (by omega)
          clear hg h1
          go_wp2
          go_ret2
          rw [numV_form s most (by rw [HN.out, HF.out])]
          exact ⟨rfl, rfl⟩
        · have e1 : decide ((((str s)[j]'(by simpa [ByteArray.size] using hlt)).toNat : Int) < 48) = false := by rw [str_getD s j hlt]; exact decide_eq_false (by omega)
          by_cases h2 : 57 < (s.getD j 0).toNat
          · have HF := Lib.hid (not_dig hlt (.inr h2))
            have e2 : decide (57 < (((str s)[j]'(by simpa [ByteArray.size] using hlt)).toNat : Int)) = true := by rw [str_getD s j hlt]; exact decide_eq_true (by omega)
            clear hg h1 h2
            go_wp2
            go_ret2
            rw [numV_form s most (by rw [HN.out, HF.out])]
            exact ⟨rfl, rfl⟩
          · have e2 : decide (57 < (((str s)[j]'(by simpa [ByteArray.size] using hlt)).toNat : Int)) = false := by rw [str_getD s j hlt]; exact decide_eq_false (by omega)
            have HD := Lib.hid (dig_take hlt HA.out (by omega) (by omega))
            clear hg h1 h2
            go_wp2
            go_round
            case rel => exact ⟨j + 1, by omega, by go_num, HD.out⟩
            case measure => simp [intOf]; omega
      · obtain rfl : j = s.length := by omega
        rw [List.take_of_length_le (Nat.le_refl _)] at HA
        have HD := Lib.hid HA.out
        have HS := Lib.hid (HN.out.trans HA.out)
        clear HN HA
        go_wp2_with fail
        go_loop [7, 8] (fun n i => ∃ j : Nat, j ≤ s.length ∧ i = .int .i64 j ∧ n = .int .i64 (valR (s.take j) : Nat) ∧ (j = 0 ∨ (valR (s.take j) : Int) ≤ most)) (fun _ i => s.length - (intOf i).toNat)
        case atStart => exact ⟨0, Nat.zero_le _, rfl, rfl, .inl rfl⟩
        case round =>
          obtain ⟨j, hj, rfl, rfl, hle⟩ := hrel
          by_cases hlt : j < s.length
          · have h2 := valR_take_succ hlt
            have h3 := valR_take_le s (j + 1)
            have h5 := dig_at HD.out hlt
            rw [h2] at h3
            have H2 := Lib.hid h2
            clear h2
            have hz : j = 0 → valR (s.take j) = 0 := fun e => by subst e; rfl
            generalize valR (s.take j) = a at *
            obtain ⟨c, hc⟩ : ∃ c, c = (s.getD j 0).toNat := ⟨_, rfl⟩
            have hcs : (((str s)[j]'(by simpa [ByteArray.size] using hlt)).toNat) = c := by rw [str_getD s j hlt, hc]
            rw [← hc] at h3 h5 H2
            clear hc
            have hwr : IntKind.u8.wrap ((c : Int) - 48) = ((c - 48 : Nat) : Int) := by unfold IntKind.wrap; simp [IntKind.bits, IntKind.signed]; omega
            by_cases hm : most < ((c - 48 : Nat) : Int)
            · have HV := Lib.hid (numV_big s most HS.out (by omega))
              have hd1 : decide (most < ((c - 48 : Nat) : Int)) = true := decide_eq_true hm
              clear hle hz h3 H2
              go_wp2
              go_ret2
              rw [HV.out]
              exact ⟨rfl, rfl⟩
            · have hd1 : decide (most < ((c - 48 : Nat) : Int)) = false := decide_eq_false hm
              obtain ⟨m, rfl⟩ : ∃ m : Nat, most = m := ⟨most.toNat, by omega⟩
              obtain ⟨q, hq, hq1, hq2⟩ : ∃ q : Nat, ((m : Int) - ((c - 48 : Nat) : Int)).tdiv 10 = (q : Int) ∧ 10 * q ≤ m - (c - 48) ∧ m - (c - 48) < 10 * q + 10 :=
                ⟨(m - (c - 48)) / 10, by rw [show ((m : Int) - ((c - 48 : Nat) : Int)) = ((m - (c - 48) : Nat) : Int) by omega]; rfl, by omega, by omega⟩
              by_cases hb : q < a
              · have HV := Lib.hid (numV_big s m HS.out (by omega))
                have hqb : q ≤ 9223372036854775807 := by omega
                clear hle hz h3 H2 hq1 hq2
                go_wp2
                go_ret2
                rw [HV.out]
                exact ⟨rfl, rfl⟩
              · have hup : 10 * a + (c - 48) ≤ m := by omega
                go_wp2
                go_round
                case rel =>
                  refine ⟨j + 1, by omega, by go_num, ?_, .inr ?_⟩
                  · rw [H2.out]
                    congr 1
                  · rw [H2.out]; omega
                case measure => simp [intOf]; omega
          · obtain rfl : j = s.length := by omega
            rw [List.take_of_length_le (Nat.le_refl _)] at *
            have HV := Lib.hid (numV_ok s most HS.out (by omega))
            go_wp2
            go_ret2
            rw [HV.out]
            exact ⟨rfl, rfl⟩
  · have HN := Lib.hid (show isNumB s = s.all isDig by unfold isNumB; rw [hem, h2]; simp)
    have hh : ((((str s)[0]'(by simpa [ByteArray.size] using hp)).toNat : Int) == 48) = false := by
      rw [str_getD s 0 hp]
      rw [beq_eq_false_iff_ne] at h2 ⊢
      intro e
      exact h2 (UInt8.toNat_inj.1 (by have : (48 : UInt8).toNat = 48 := rfl; omega))
    clear h0 h2
    go_enter Tryd.func24, Tryd.ntmps24
    go_wp2_with fail
    go_loop [6] (fun i => ∃ j : Nat, j ≤ s.length ∧ i = .int .i64 j ∧ (s.take j).all isDig = true) (fun i => s.length - (intOf i).toNat)
    case atStart => exact ⟨0, Nat.zero_le _, rfl, rfl⟩
    case round =>
      obtain ⟨j, hj, rfl, ha⟩ := hrel
      have HA := Lib.hid ha
      clear ha
      by_cases hlt : j < s.length
      · have hg := getD_str s j hlt
        by_cases h1 : (s.getD j 0).toNat < 48
        · have HF := Lib.hid (not_dig hlt (.inl h1))
          have e1 : decide ((((str s)[j]'(by simpa [ByteArray.size] using hlt)).toNat : Int) < 48) = true := by rw [str_getD s j hlt]; exact decide_eq_true (by omega)
          clear hg h1
          go_wp2
          go_ret2
          rw [numV_form s most (by rw [HN.out, HF.out])]
          exact ⟨rfl, rfl⟩
        · have e1 : decide ((((str s)[j]'(by simpa [ByteArray.size] using hlt)).toNat : Int) < 48) = false := by rw [str_getD s j hlt]; exact decide_eq_false (by omega)
          by_cases h2 : 57 < (s.getD j 0).toNat
          · have HF := Lib.hid (not_dig hlt (.inr h2))
            have e2 : decide (57 < (((str s)[j]'(by simpa [ByteArray.size] using hlt)).toNat : Int)) = true := by rw [str_getD s j hlt]; exact decide_eq_true (by omega)
            clear hg h1 h2
            go_wp2
            go_ret2
            rw [numV_form s most (by rw [HN.out, HF.out])]
            exact ⟨rfl, rfl⟩
          · have e2 : decide (57 < (((str s)[j]'(by simpa [ByteArray.size] using hlt)).toNat : Int)) = false := by rw [str_getD s j hlt]; exact decide_eq_false (by omega)
            have HD := Lib.hid (dig_take hlt HA.out (by omega) (by omega))
            clear hg h1 h2
            go_wp2
            go_round
            case rel => exact ⟨j + 1, by omega, by go_num, HD.out⟩
            case measure => simp [intOf]; omega
      · obtain rfl : j = s.length := by omega
        rw [List.take_of_length_le (Nat.le_refl _)] at HA
        have HD := Lib.hid HA.out
        have HS := Lib.hid (HN.out.trans HA.out)
        clear HN HA
        go_wp2_with fail
        go_loop [7, 8] (fun n i => ∃ j : Nat, j ≤ s.length ∧ i = .int .i64 j ∧ n = .int .i64 (valR (s.take j) : Nat) ∧ (j = 0 ∨ (valR (s.take j) : Int) ≤ most)) (fun _ i => s.length - (intOf i).toNat)
        case atStart => exact ⟨0, Nat.zero_le _, rfl, rfl, .inl rfl⟩
        case round =>
          obtain ⟨j, hj, rfl, rfl, hle⟩ := hrel
          by_cases hlt : j < s.length
          · have h2 := valR_take_succ hlt
            have h3 := valR_take_le s (j + 1)
            have h5 := dig_at HD.out hlt
            rw [h2] at h3
            have H2 := Lib.hid h2
            clear h2
            have hz : j = 0 → valR (s.take j) = 0 := fun e => by subst e; rfl
            generalize valR (s.take j) = a at *
            obtain ⟨c, hc⟩ : ∃ c, c = (s.getD j 0).toNat := ⟨_, rfl⟩
            have hcs : (((str s)[j]'(by simpa [ByteArray.size] using hlt)).toNat) = c := by rw [str_getD s j hlt, hc]
            rw [← hc] at h3 h5 H2
            clear hc
            have hwr : IntKind.u8.wrap ((c : Int) - 48) = ((c - 48 : Nat) : Int) := by unfold IntKind.wrap; simp [IntKind.bits, IntKind.signed]; omega
            by_cases hm : most < ((c - 48 : Nat) : Int)
            · have HV := Lib.hid (numV_big s most HS.out (by omega))
              have hd1 : decide (most < ((c - 48 : Nat) : Int)) = true := decide_eq_true hm
              clear hle hz h3 H2
              go_wp2
              go_ret2
              rw [HV.out]
              exact ⟨rfl, rfl⟩
            · have hd1 : decide (most < ((c - 48 : Nat) : Int)) = false := decide_eq_false hm
              obtain ⟨m, rfl⟩ : ∃ m : Nat, most = m := ⟨most.toNat, by omega⟩
              obtain ⟨q, hq, hq1, hq2⟩ : ∃ q : Nat, ((m : Int) - ((c - 48 : Nat) : Int)).tdiv 10 = (q : Int) ∧ 10 * q ≤ m - (c - 48) ∧ m - (c - 48) < 10 * q + 10 :=
                ⟨(m - (c - 48)) / 10, by rw [show ((m : Int) - ((c - 48 : Nat) : Int)) = ((m - (c - 48) : Nat) : Int) by omega]; rfl, by omega, by omega⟩
              by_cases hb : q < a
              · have HV := Lib.hid (numV_big s m HS.out (by omega))
                have hqb : q ≤ 9223372036854775807 := by omega
                clear hle hz h3 H2 hq1 hq2
                go_wp2
                go_ret2
                rw [HV.out]
                exact ⟨rfl, rfl⟩
              · have hup : 10 * a + (c - 48) ≤ m := by omega
                go_wp2
                go_round
                case rel =>
                  refine ⟨j + 1, by omega, by go_num, ?_, .inr ?_⟩
                  · rw [H2.out]
                    congr 1
                  · rw [H2.out]; omega
                case measure => simp [intOf]; omega
          · obtain rfl : j = s.length := by omega
            rw [List.take_of_length_le (Nat.le_refl _)] at *
            have HV := Lib.hid (numV_ok s most HS.out (by omega))
            go_wp2
            go_ret2
            rw [HV.out]
            exact ⟨rfl, rfl⟩
  · have HN := Lib.hid (show isNumB s = false by unfold isNumB; rw [hem, h2]; simp [h1])
    have hh : ((((str s)[0]'(by simpa [ByteArray.size] using hp)).toNat : Int) == 48) = true := by
      rw [str_getD s 0 hp]
      rw [beq_iff_eq] at h2 ⊢
      rw [h2]; rfl
    clear h0 h2
    go_enter Tryd.func24, Tryd.ntmps24
    go_wp2
    go_ret2
    rw [numV_form s most HN.out]
    exact ⟨rfl, rfl⟩
end Go.Proofs.YtdniojbplakeoaaDoor
