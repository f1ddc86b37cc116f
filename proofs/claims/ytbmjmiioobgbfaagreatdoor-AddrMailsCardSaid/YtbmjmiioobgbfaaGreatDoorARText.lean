/-
  The contracts of the reference's envid, text.
-/
import Derived.Test.YtbmjmiioobgbfaaGreatDoorARLoc
namespace Go.Proofs.YtbmjmiioobgbfaaGreatDoor
open Go Go.RowKit
set_option maxRecDepth 100000

/-- A byte of an envid. -/
def eC (c : UInt8) : Bool := c == 45 || alnC c
theorem eC_nat {b : UInt8} {c : Nat} (hc : b.toNat = c) : eC b = decide (c = 45 ∨ (97 ≤ c ∧ c ≤ 122) ∨ (65 ≤ c ∧ c ≤ 90) ∨ (48 ≤ c ∧ c ≤ 57)) := by
  unfold eC
  rw [alnC_nat hc, Bool.eq_iff_iff, Bool.or_eq_true, beq_iff_eq, decide_eq_true_eq, decide_eq_true_eq]
  have : b = 45 ↔ c = 45 := by
    constructor
    · rintro rfl; exact hc.symm
    · intro h; exact UInt8.toNat_inj.1 (by rw [hc, h]; rfl)
  rw [this]
theorem envid_from {s : List UInt8} {k : Nat} (hk : k < s.length) : (decide (s.length ≤ 32) && (s.drop k).all eC) = (eC (s.getD k 0) && (decide (s.length ≤ 32) && (s.drop (k + 1)).all eC)) := by
  rw [drop_at hk, List.all_cons]
  cases eC (s.getD k 0) <;> cases decide (s.length ≤ 32) <;> rfl

set_option maxHeartbeats 1000000 in
theorem renvid_any (s : List UInt8) (w : World) (hs : s.length ≤ 1000000) : Calls Tryz.prog 48 #[sv s] w fun e w' => e = .returned (.bool (envidL s)) ∧ w = w' := by
  have H0 := Lib.hid (show envidL s = (decide (s.length ≤ 32) && (s.drop 0).all eC) from rfl)
  go_enter Tryz.func48, Tryz.ntmps48
  go_wp2_with fail
  go_loop [3] (fun i => ∃ k : Nat, k ≤ s.length ∧ i = .int .i64 k ∧ envidL s = (decide (s.length ≤ 32) && (s.drop k).all eC)) (fun i => s.length - (intOf i).toNat)
  case atStart => exact ⟨0, Nat.zero_le _, rfl, H0.out⟩
  case round =>
    obtain ⟨k, hk, rfl, ha⟩ := hrel
    have HA := Lib.hid ha
    clear ha
    by_cases hlt : k < s.length
    · obtain ⟨b, hb⟩ : ∃ b, s.getD k 0 = b := ⟨_, rfl⟩
      obtain ⟨c, hc⟩ : ∃ c, b.toNat = c := ⟨_, rfl⟩
      have hcs : (((str s)[k]'(by simpa [ByteArray.size] using hlt)).toNat) = c := by rw [str_getD s k hlt, hb, hc]
      have he := (HA.out).trans (envid_from hlt)
      rw [hb, eC_nat hc] at he
      have HE := Lib.hid he
      clear he hb hc
      by_cases hp : c = 45 ∨ (97 ≤ c ∧ c ≤ 122) ∨ (65 ≤ c ∧ c ≤ 90) ∨ (48 ≤ c ∧ c ≤ 57)
      · have HN := Lib.hid (show envidL s = (decide (s.length ≤ 32) && (s.drop (k + 1)).all eC) by rw [HE.out, decide_eq_true hp]; rfl)
        rcases hp with rfl | ⟨h, h'⟩ | ⟨h, h'⟩ | ⟨h, h'⟩
        all_goals
          go_wp2_with fail
          go_round
          case rel => exact ⟨k + 1, by omega, by go_num, HN.out⟩
          case measure => simp [intOf]; omega
      · have HF := Lib.hid (show envidL s = false by rw [HE.out, decide_eq_false hp]; rfl)
        have e45 : ((c : Int) == 45) = false := by rw [beq_eq_false_iff_ne]; omega
        rcases (show c < 48 ∨ (57 < c ∧ c < 65) ∨ (90 < c ∧ c < 97) ∨ 122 < c by omega) with h | ⟨h, h'⟩ | ⟨h, h'⟩ | h
        · clear hp
          go_wp2_with fail
          go_ret
          rw [HF.out]
          exact ⟨rfl, rfl⟩
        · have d57 : decide ((c : Int) ≤ 57) = false := decide_eq_false (by omega)
          clear hp
          go_wp2_with fail
          go_ret
          rw [HF.out]
          exact ⟨rfl, rfl⟩
        · have d57 : decide ((c : Int) ≤ 57) = false := decide_eq_false (by omega)
          have d90 : decide ((c : Int) ≤ 90) = false := decide_eq_false (by omega)
          clear hp
          go_wp2_with fail
          go_ret
          rw [HF.out]
          exact ⟨rfl, rfl⟩
        · have d57 : decide ((c : Int) ≤ 57) = false := decide_eq_false (by omega)
          have d90 : decide ((c : Int) ≤ 90) = false := decide_eq_false (by omega)
          have d122 : decide ((c : Int) ≤ 122) = false := decide_eq_false (by omega)
          clear hp
          go_wp2_with fail
          go_ret
          rw [HF.out]
          exact ⟨rfl, rfl⟩
    · obtain rfl : k = s.length := by omega
      have HE := Lib.hid (show envidL s = decide ((s.length : Int) ≤ 32) by
        rw [HA.out, List.drop_length, List.all_nil, Bool.and_true]
        exact decide_eq_decide.2 (by omega))
      go_wp2_with fail
      go_ret
      rw [HE.out]
      exact ⟨rfl, rfl⟩

set_option maxHeartbeats 4000000 in
theorem rtext_any (s : List UInt8) (w : World) (hs : s.length ≤ 1000000) : Calls Tryz.prog 49 #[sv s] w fun e w' => e = .returned (.bool (mtextL s)) ∧ w = w' := by
  have H0 := Lib.hid (show mtextL s = textF (0, false) (s.drop 0) from rfl)
  go_enter Tryz.func49, Tryz.ntmps49
  go_wp2_with fail
  go_loop [3, 4] (fun v i => ∃ n k : Nat, k ≤ s.length ∧ n ≤ k ∧ v = .int .i64 n ∧ i = .int .i64 k ∧ mtextL s = textF (n, false) (s.drop k)) (fun _ i => s.length - (intOf i).toNat)
  case atStart => exact ⟨0, 0, Nat.zero_le _, Nat.le_refl _, rfl, rfl, H0.out⟩
  case round =>
    obtain ⟨n, k, hk, hnk, rfl, rfl, ha⟩ := hrel
    have HA := Lib.hid ha
    clear ha
    by_cases hlt : k < s.length
    · obtain ⟨b, hb⟩ : ∃ b, s.getD k 0 = b := ⟨_, rfl⟩
      obtain ⟨c, hc⟩ : ∃ c, b.toNat = c := ⟨_, rfl⟩
      have hcs : (((str s)[k]'(by simpa [ByteArray.size] using hlt)).toNat) = c := by rw [str_getD s k hlt, hb, hc]
      have hd := HA.out
      rw [drop_at hlt, hb] at hd
      have HD := Lib.hid hd
      have HB := Lib.hid hc
      clear hd hb hc
      by_cases hn : 512 ≤ n
      · have HF := Lib.hid (show mtextL s = false by rw [HD.out, textF_long hn])
        have hn' : 512 < n + 1 := by omega
        go_wp2_with fail
        go_ret
        rw [HF.out]
        exact ⟨rfl, rfl⟩
      have hn1 : n + 1 ≤ 512 := by omega
      clear hn
      by_cases c13 : c = 13
      · have hb13 : b = 13 := UInt8.toNat_inj.1 (by rw [HB.out, c13]; rfl)
        subst c13
        by_cases hl2 : k + 1 < s.length
        · obtain ⟨d, hd⟩ : ∃ d, s.getD (k + 1) 0 = d := ⟨_, rfl⟩
          obtain ⟨x, hx⟩ : ∃ x, d.toNat = x := ⟨_, rfl⟩
          have hds : (((str s)[k + 1]'(by simpa [ByteArray.size] using hl2)).toNat) = x := by rw [str_getD s _ hl2, hd, hx]
          have hq := HD.out
          rw [hb13, drop_at hl2, hd, textF_cr] at hq
          have HQ := Lib.hid hq
          have HX := Lib.hid hx
          clear hq hd hx hb13
          by_cases x10 : x = 10
          · subst x10
            have hd10 : d = 10 := UInt8.toNat_inj.1 (by rw [HX.out]; rfl)
            by_cases h511 : n + 1 ≤ 511
            · have HN := Lib.hid (show mtextL s = textF ((0 : Nat), false) (s.drop (k + 2)) by rw [HQ.out, decide_eq_true h511, hd10]; rfl)
              clear hd10
              go_wp2_with fail
              go_round
              case rel => exact ⟨0, k + 2, by omega, by omega, rfl, by go_num, HN.out⟩
              case measure => simp [intOf]; omega
            · have HF := Lib.hid (show mtextL s = false by rw [HQ.out, decide_eq_false h511]; rfl)
              have h511' : 511 < n + 1 := by omega
              clear hd10 h511
              go_wp2_with fail
              go_ret
              rw [HF.out]
              exact ⟨rfl, rfl⟩
          · have HF := Lib.hid (show mtextL s = false by
              have e : (d == 10) = false := by rw [beq_eq_false_iff_ne]; rintro rfl; exact x10 HX.out.symm
              rw [HQ.out, e]; simp)
            have e10 : ((x : Int) != 10) = true := by rw [bne_iff_ne]; omega
            clear x10
            go_wp2_with fail
            go_ret
            rw [HF.out]
            exact ⟨rfl, rfl⟩
        · have HF := Lib.hid (show mtextL s = false by
            rw [HD.out, hb13, List.drop_of_length_le (by omega : s.length ≤ k + 1)]; exact textF_cr_end)
          have hge : s.length ≤ k + 1 := by omega
          clear hl2 hb13
          go_wp2_with fail
          go_ret
          rw [HF.out]
          exact ⟨rfl, rfl⟩
      · have hq := HD.out
        rw [textF_other (show b ≠ 13 by rintro rfl; exact c13 HB.out.symm), decide_eq_true hn1, Bool.true_and] at hq
        have e13 : ((c : Int) == 13) = false := by rw [beq_eq_false_iff_ne]; omega
        have h9 : (b == 9) = decide (c = 9) := by
          rw [Bool.eq_iff_iff, beq_iff_eq, decide_eq_true_eq]
          constructor
          · rintro rfl; exact HB.out.symm
          · intro h; exact UInt8.toNat_inj.1 (by rw [HB.out, h]; rfl)
        rw [h9, grC_nat HB.out] at hq
        have HQ := Lib.hid hq
        clear hq h9 c13
        by_cases c9 : c = 9
        · have HN := Lib.hid (show mtextL s = textF (n + 1, false) (s.drop (k + 1)) by rw [HQ.out, decide_eq_true c9]; rfl)
          subst c9
          clear e13
          go_wp2_with fail
          go_round
          case rel => exact ⟨n + 1, k + 1, by omega, by omega, by go_num, by go_num, HN.out⟩
          case measure => simp [intOf]; omega
        · have e9 : ((c : Int) != 9) = true := by rw [bne_iff_ne]; omega
          rcases (show c < 32 ∨ (32 ≤ c ∧ c ≤ 126) ∨ 126 < c by omega) with h | ⟨h, h'⟩ | h
          · have HF := Lib.hid (show mtextL s = false by rw [HQ.out, decide_eq_false c9, decide_eq_false (by omega)]; rfl)
            clear c9
            go_wp2_with fail
            go_ret
            rw [HF.out]
            exact ⟨rfl, rfl⟩
          · have HN := Lib.hid (show mtextL s = textF (n + 1, false) (s.drop (k + 1)) by rw [HQ.out, decide_eq_false c9, decide_eq_true ⟨h, h'⟩]; rfl)
            clear c9
            go_wp2_with fail
            go_round
            case rel => exact ⟨n + 1, k + 1, by omega, by omega, by go_num, by go_num, HN.out⟩
            case measure => simp [intOf]; omega
          · have HF := Lib.hid (show mtextL s = false by rw [HQ.out, decide_eq_false c9, decide_eq_false (by omega)]; rfl)
            clear c9
            go_wp2_with fail
            go_ret
            rw [HF.out]
            exact ⟨rfl, rfl⟩
    · obtain rfl : k = s.length := by omega
      have HE := Lib.hid (show mtextL s = (n == 0) by rw [HA.out, List.drop_length, textF_nil])
      by_cases h0 : n = 0
      · have HT := Lib.hid (show mtextL s = true by rw [HE.out, h0]; rfl)
        subst h0
        go_wp2_with fail
        go_ret
        rw [HT.out]
        exact ⟨rfl, rfl⟩
      · have HT := Lib.hid (show mtextL s = false by rw [HE.out]; simpa using h0)
        have e0 : ((n : Int) == 0) = false := by rw [beq_eq_false_iff_ne]; omega
        go_wp2_with fail
        go_ret
        rw [HT.out]
        exact ⟨rfl, rfl⟩
end Go.Proofs.YtbmjmiioobgbfaaGreatDoor
