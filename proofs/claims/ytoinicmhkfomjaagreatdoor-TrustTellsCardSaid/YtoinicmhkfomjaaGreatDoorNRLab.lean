/-
  The contracts of the reference's digit, letter, label, digits.
-/
import Derived.Test.YtoinicmhkfomjaaGreatDoorNPm
import Derived.Test.YtoinicmhkfomjaaGreatDoorBase
namespace Go.Proofs.YtoinicmhkfomjaaGreatDoor
set_option linter.unusedSimpArgs false
set_option linter.unusedVariables false
open Go Go.RowKit
set_option maxRecDepth 100000

theorem rdigit_yes (c : Nat) (w : World) (h1 : 48 ≤ c) (h2 : c ≤ 57) : Calls Tryz.prog 145 #[.int .u8 (c : Int)] w fun e w' => e = .returned (.bool true) ∧ w = w' := by
  go_enter Tryz.func145, Tryz.ntmps145
  go_wp2
  go_ret
  exact ⟨by first | (simp; done) | (simp; omega), rfl⟩
theorem rdigit_no (c : Nat) (w : World) (h : c < 48 ∨ 57 < c) : Calls Tryz.prog 145 #[.int .u8 (c : Int)] w fun e w' => e = .returned (.bool false) ∧ w = w' := by
  rcases h with h | h
  all_goals
    go_enter Tryz.func145, Tryz.ntmps145
    go_wp2
    go_ret
    exact ⟨by first | (simp; done) | (simp; omega), rfl⟩
theorem rletter_yes (c : Nat) (w : World) (h1 : 97 ≤ c) (h2 : c ≤ 122) : Calls Tryz.prog 146 #[.int .u8 (c : Int)] w fun e w' => e = .returned (.bool true) ∧ w = w' := by
  go_enter Tryz.func146, Tryz.ntmps146
  go_wp2
  go_ret
  exact ⟨by first | (simp; done) | (simp; omega), rfl⟩
theorem rletter_no (c : Nat) (w : World) (h : c < 97 ∨ 122 < c) : Calls Tryz.prog 146 #[.int .u8 (c : Int)] w fun e w' => e = .returned (.bool false) ∧ w = w' := by
  rcases h with h | h
  all_goals
    go_enter Tryz.func146, Tryz.ntmps146
    go_wp2
    go_ret
    exact ⟨by first | (simp; done) | (simp; omega), rfl⟩

theorem digC_nat {b : UInt8} {c : Nat} (hc : b.toNat = c) : digC b = decide (48 ≤ c ∧ c ≤ 57) := by
  unfold digC
  rw [← hc, Bool.eq_iff_iff, Bool.and_eq_true, decide_eq_true_eq, decide_eq_true_eq, decide_eq_true_eq, UInt8.le_iff_toNat_le, UInt8.le_iff_toNat_le]
  exact Iff.rfl
theorem lowC_nat {b : UInt8} {c : Nat} (hc : b.toNat = c) : lowC b = decide (97 ≤ c ∧ c ≤ 122) := by
  unfold lowC
  rw [← hc, Bool.eq_iff_iff, Bool.and_eq_true, decide_eq_true_eq, decide_eq_true_eq, decide_eq_true_eq, UInt8.le_iff_toNat_le, UInt8.le_iff_toNat_le]
  exact Iff.rfl
theorem eq45_nat {b : UInt8} {c : Nat} (hc : b.toNat = c) : (b == 45) = decide (c = 45) := by
  rw [← hc, Bool.eq_iff_iff, beq_iff_eq, decide_eq_true_eq, ← UInt8.toNat_inj]
  exact Iff.rfl
theorem labC_nat {b : UInt8} {c : Nat} (hc : b.toNat = c) : labC b = (decide (97 ≤ c ∧ c ≤ 122) || decide (48 ≤ c ∧ c ≤ 57) || decide (c = 45)) := by
  unfold labC; rw [lowC_nat hc, digC_nat hc, eq45_nat hc]

theorem all_upto {l : List UInt8} {p : UInt8 → Bool} (h : ∀ j, j < l.length → p (l.getD j 0) = true) : l.all p = true := by
  rw [List.all_eq_true]
  intro c hc
  obtain ⟨k, hk, rfl⟩ := List.getElem_of_mem hc
  rw [← getD_str l k hk]; exact h k hk
theorem all_not {l : List UInt8} {p : UInt8 → Bool} {j : Nat} (hj : j < l.length) (h : p (l.getD j 0) = false) : l.all p = false := by
  rw [List.all_eq_false]
  exact ⟨l.getD j 0, by rw [getD_str l j hj]; exact List.getElem_mem hj, by rw [h]; simp⟩
theorem upto_next {l : List UInt8} {p : UInt8 → Bool} {k : Nat} (ha : ∀ j, j < k → p (l.getD j 0) = true) (h : p (l.getD k 0) = true) : ∀ j, j < k + 1 → p (l.getD j 0) = true := by
  intro j hj
  by_cases e : j = k
  · rw [e]; exact h
  · exact ha j (by omega)

set_option maxHeartbeats 1000000 in
theorem rdigits_any (l : List UInt8) (w : World) (hl : l.length ≤ 1000000) : Calls Tryz.prog 128 #[.string (str l)] w fun e w' => e = .returned (.bool (l.all digC)) ∧ w = w' := by
  go_enter Tryz.func128, Tryz.ntmps128
  go_wp2_with fail
  go_loop [3] (fun i => ∃ k : Nat, k ≤ l.length ∧ i = .int .i64 k ∧ ∀ j, j < k → digC (l.getD j 0) = true) (fun i => l.length - (intOf i).toNat)
  case atStart => exact ⟨0, Nat.zero_le _, rfl, fun j hj => absurd hj (by omega)⟩
  case round =>
    obtain ⟨k, hk, rfl, ha⟩ := hrel
    have HA := Lib.hid ha
    clear ha
    by_cases hlt : k < l.length
    · obtain ⟨c, hc⟩ : ∃ c, (l.getD k 0).toNat = c := ⟨_, rfl⟩
      have hcs : (((str l)[k]'(by simpa [ByteArray.size] using hlt)).toNat) = c := by rw [str_getD l k hlt, hc]
      by_cases h : 48 ≤ c ∧ c ≤ 57
      · have HU := Lib.hid (upto_next HA.out (by rw [digC_nat hc]; exact decide_eq_true h))
        obtain ⟨h1, h2⟩ := h
        clear hc
        go_wp2_with (go_at_call 145; refine (rdigit_yes _ _ h1 h2).mono ?_; rintro e w' ⟨rfl, rfl⟩)
        go_round
        case rel => exact ⟨k + 1, by omega, by go_num, HU.out⟩
        case measure => simp [intOf]; omega
      · have HF := Lib.hid (all_not (p := digC) hlt (by rw [digC_nat hc]; exact decide_eq_false h))
        have h' : c < 48 ∨ 57 < c := by omega
        have H' := Lib.hid h'
        clear hc h h'
        go_wp2_with (go_at_call 145; refine (rdigit_no _ _ H'.out).mono ?_; rintro e w' ⟨rfl, rfl⟩)
        go_ret
        rw [HF.out]
        exact ⟨rfl, rfl⟩
    · obtain rfl : k = l.length := by omega
      have HY := Lib.hid (all_upto HA.out)
      go_wp2
      go_ret
      rw [HY.out]
      exact ⟨rfl, rfl⟩

theorem head_getD (l : List UInt8) : l.headD 0 = l.getD 0 0 := by cases l <;> rfl
theorem last_getD (l : List UInt8) : l.getLastD 0 = l.getD (l.length - 1) 0 := by
  rw [List.getD_eq_getElem?_getD, ← List.getLast?_eq_getElem?, List.getLastD_eq_getLast?]

set_option maxHeartbeats 4000000 in
theorem rlabel_any (l : List UInt8) (w : World) (hl : l.length ≤ 1000000) : Calls Tryz.prog 129 #[.string (str l)] w fun e w' => e = .returned (.bool (isLab l)) ∧ w = w' := by
  by_cases h0 : l = []
  · subst h0
    go_enter Tryz.func129, Tryz.ntmps129
    go_wp2
    go_ret
    exact ⟨rfl, rfl⟩
  have hp : 0 < l.length := List.length_pos_iff.2 h0
  have hem : l.isEmpty = false := by simpa using h0
  have hn0 : ((l.length : Int) == 0) = false := by rw [beq_eq_false_iff_ne]; omega
  clear h0
  by_cases h63 : 63 < l.length
  · have HF := Lib.hid (show isLab l = false by unfold isLab; rw [hem, decide_eq_false (by omega)]; rfl)
    go_enter Tryz.func129, Tryz.ntmps129
    go_wp2
    go_ret
    rw [HF.out]
    exact ⟨rfl, rfl⟩
  have h63' : l.length ≤ 63 := by omega
  clear h63
  obtain ⟨a, ha⟩ : ∃ a, (l.getD 0 0).toNat = a := ⟨_, rfl⟩
  have has : (((str l)[0]'(by simpa [ByteArray.size] using hp)).toNat) = a := by rw [str_getD l 0 hp, ha]
  obtain ⟨z, hz⟩ : ∃ z, (l.getD (l.length - 1) 0).toNat = z := ⟨_, rfl⟩
  have hzl : l.length - 1 < l.length := by omega
  have hzs : (((str l)[l.length - 1]'(by simpa [ByteArray.size] using hzl)).toNat) = z := by rw [str_getD l _ hzl, hz]
  by_cases a45 : a = 45
  · have HF := Lib.hid (show isLab l = false by
      have : (l.headD 0 != 45) = false := by rw [head_getD, bne, eq45_nat ha, decide_eq_true a45]; rfl
      unfold isLab; rw [this]; simp)
    have e45 : ((a : Int) == 45) = true := by rw [a45]; rfl
    clear ha hz a45
    go_enter Tryz.func129, Tryz.ntmps129
    go_wp2
    go_ret
    rw [HF.out]
    exact ⟨rfl, rfl⟩
  have ea : ((a : Int) == 45) = false := by rw [beq_eq_false_iff_ne]; omega
  have A1 := Lib.hid (show (l.headD 0 != 45) = true by rw [head_getD, bne, eq45_nat ha, decide_eq_false a45]; rfl)
  clear ha a45
  by_cases z45 : z = 45
  · have HF := Lib.hid (show isLab l = false by
      have : (l.getLastD 0 != 45) = false := by rw [last_getD, bne, eq45_nat hz, decide_eq_true z45]; rfl
      unfold isLab; rw [this]; simp)
    have e45 : ((z : Int) == 45) = true := by rw [z45]; rfl
    clear hz z45
    go_enter Tryz.func129, Tryz.ntmps129
    go_wp2
    go_ret
    rw [HF.out]
    exact ⟨rfl, rfl⟩
  have ez : ((z : Int) == 45) = false := by rw [beq_eq_false_iff_ne]; omega
  have Z1 := Lib.hid (show (l.getLastD 0 != 45) = true by rw [last_getD, bne, eq45_nat hz, decide_eq_false z45]; rfl)
  clear hz z45
  have HN := Lib.hid (show isLab l = l.all labC by unfold isLab; rw [hem, decide_eq_true h63', A1.out, Z1.out]; simp)
  go_enter Tryz.func129, Tryz.ntmps129
  go_wp2_with fail
  go_loop [3] (fun i => ∃ k : Nat, k ≤ l.length ∧ i = .int .i64 k ∧ ∀ j, j < k → labC (l.getD j 0) = true) (fun i => l.length - (intOf i).toNat)
  case atStart => exact ⟨0, Nat.zero_le _, rfl, fun j hj => absurd hj (by omega)⟩
  case round =>
    obtain ⟨k, hk, rfl, ha⟩ := hrel
    have HA := Lib.hid ha
    clear ha
    by_cases hlt : k < l.length
    · obtain ⟨c, hc⟩ : ∃ c, (l.getD k 0).toNat = c := ⟨_, rfl⟩
      have hcs : (((str l)[k]'(by simpa [ByteArray.size] using hlt)).toNat) = c := by rw [str_getD l k hlt, hc]
      clear has hzs ea ez
      by_cases h : 48 ≤ c ∧ c ≤ 57
      · have HU := Lib.hid (upto_next HA.out (by rw [labC_nat hc, decide_eq_true h]; simp))
        obtain ⟨h1, h2⟩ := h
        clear hc
        go_wp2_with (go_at_call 145; refine (rdigit_yes _ _ h1 h2).mono ?_; rintro e w' ⟨rfl, rfl⟩)
        go_round
        case rel => exact ⟨k + 1, by omega, by go_num, HU.out⟩
        case measure => simp [intOf]; omega
      have h' : c < 48 ∨ 57 < c := by omega
      have HD := Lib.hid h'
      have hnd := Lib.hid (show decide (48 ≤ c ∧ c ≤ 57) = false from decide_eq_false h)
      clear h h'
      by_cases h : 97 ≤ c ∧ c ≤ 122
      · have HU := Lib.hid (upto_next HA.out (by rw [labC_nat hc, decide_eq_true h]; simp))
        obtain ⟨h1, h2⟩ := h
        clear hc
        go_wp2_with (first | (go_at_call 145; refine (rdigit_no _ _ HD.out).mono ?_; rintro e w' ⟨rfl, rfl⟩) | (go_at_call 146; refine (rletter_yes _ _ h1 h2).mono ?_; rintro e w' ⟨rfl, rfl⟩))
        go_round
        case rel => exact ⟨k + 1, by omega, by go_num, HU.out⟩
        case measure => simp [intOf]; omega
      have h' : c < 97 ∨ 122 < c := by omega
      have HL := Lib.hid h'
      have hnl := Lib.hid (show decide (97 ≤ c ∧ c ≤ 122) = false from decide_eq_false h)
      clear h h'
      by_cases h : c = 45
      · have HU := Lib.hid (upto_next HA.out (by rw [labC_nat hc, decide_eq_true h]; simp))
        have e1 : ((c : Int) != 45) = false := by rw [h]; rfl
        clear hc h
        go_wp2_with (first | (go_at_call 145; refine (rdigit_no _ _ HD.out).mono ?_; rintro e w' ⟨rfl, rfl⟩) | (go_at_call 146; refine (rletter_no _ _ HL.out).mono ?_; rintro e w' ⟨rfl, rfl⟩))
        go_round
        case rel => exact ⟨k + 1, by omega, by go_num, HU.out⟩
        case measure => simp [intOf]; omega
      · have HF := Lib.hid (all_not (p := labC) hlt (by rw [labC_nat hc, hnd.out, hnl.out, decide_eq_false h]; rfl))
        have e1 : ((c : Int) != 45) = true := by rw [bne_iff_ne]; omega
        clear hc h
        go_wp2_with (first | (go_at_call 145; refine (rdigit_no _ _ HD.out).mono ?_; rintro e w' ⟨rfl, rfl⟩) | (go_at_call 146; refine (rletter_no _ _ HL.out).mono ?_; rintro e w' ⟨rfl, rfl⟩))
        go_ret
        rw [HN.out, HF.out]
        exact ⟨rfl, rfl⟩
    · obtain rfl : k = l.length := by omega
      have HY := Lib.hid (all_upto HA.out)
      clear has hzs ea ez
      go_wp2
      go_ret
      rw [HN.out, HY.out]
      exact ⟨rfl, rfl⟩
end Go.Proofs.YtoinicmhkfomjaaGreatDoor
