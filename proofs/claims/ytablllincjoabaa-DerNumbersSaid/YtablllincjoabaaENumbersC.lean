/-
  DerNumbers, walked.
-/
import Derived.Test.YtablllincjoabaaERRead
namespace Go.Proofs.Ytablllincjoabaa
set_option linter.unusedSimpArgs false
set_option linter.unusedVariables false
open Go Go.RowKit
set_option maxRecDepth 100000

set_option maxHeartbeats 8000000 in
theorem derNumbers_walk {n : Int} (hn : -9223372036854775808 ≤ n ∧ n ≤ 9223372036854775807) (s : List UInt8) (hs : s.length ≤ 140737488351232) {w : World} :
    Calls Try.prog 4 #[.int .i64 n, sv s] w fun e w' => e = .returned (.bool true) ∧ Below w.heap.size w w' := by
  have HAW := Lib.hid (fun W (h : Bh w W) => show Calls Try.prog 9 #[] W (fun e w' => e = .returned (.bool true) ∧ Bh w w') from (awake_any W).mono fun e w' ⟨h1, h2⟩ => ⟨h1, h.step h2⟩)
  have hB0 : Bh w w := Below.refl _ _
  have hzs := str_size s
  by_cases hl : 5000 < s.length
  · go_enter Try.func4, Try.ntmps4
    go_wp2_with (go_at_call 9; refine (HAW.out _ hB0).mono ?_; rintro e w1 ⟨rfl, hb⟩)
    go_ret
    exact ⟨rfl, hb⟩
  · have hn' : -9223372036854775808 ≤ n ∧ n < 9223372036854775808 := by omega
    have A1 := Lib.hid (fun W (h : Bh w W) => show Calls Try.prog 16 #[.int .i64 n] W (fun e w' => e = .returned (sv (intL n)) ∧ Bh w w') from (@int_top W n hn').mono fun e w' ⟨h1, h2⟩ => ⟨h1, h.step h2⟩)
    have A2 := Lib.hid (fun W (h : Bh w W) => show Calls Try.prog 20 #[.int .i64 n] W (fun e w' => e = .returned (sv (intL n)) ∧ Bh w w') from (@rint_any W n hn').mono fun e w' ⟨h1, h2⟩ => ⟨h1, h.step h2⟩)
    have R1 := Lib.hid (fun W (h : Bh w W) => show Calls Try.prog 15 #[sv s] W (fun e w' => e = .returned (.tuple #[.int .i64 (readN s), .int .i64 (okN (readB s))]) ∧ Bh w w') from (@readInt_any W s (by omega)).mono fun e w' ⟨h1, h2⟩ => ⟨h1, h.step h2⟩)
    have R2 := Lib.hid (fun W (h : Bh w W) => show Calls Try.prog 18 #[sv s] W (fun e w' => e = .returned (.tuple #[.int .i64 (readN s), .int .i64 (okN (readB s))]) ∧ Bh w w') from (@rreadInt_any W s (by omega)).mono fun e w' ⟨h1, h2⟩ => ⟨h1, h2 ▸ h⟩)
    have B1 := Lib.hid (fun W (h : Bh w W) => show Calls Try.prog 17 #[sv s] W (fun e w' => e = .returned (.tuple #[.bool (s == [255]), .int .i64 (okN (boolB s))]) ∧ Bh w w') from (@readBool_any W s (by omega)).mono fun e w' ⟨h1, h2⟩ => ⟨h1, h2 ▸ h⟩)
    have B2 := Lib.hid (fun W (h : Bh w W) => show Calls Try.prog 19 #[sv s] W (fun e w' => e = .returned (.tuple #[.bool (s == [255]), .int .i64 (okN (boolB s))]) ∧ Bh w w') from (@rreadBool_any W s (by omega)).mono fun e w' ⟨h1, h2⟩ => ⟨h1, h2 ▸ h⟩)
    have Y1 := Lib.hid (fun (b : Bool) W (h : Bh w W) => show Calls Try.prog 21 #[.bool b] W (fun e w' => e = .returned (sv (yesL b)) ∧ Bh w w') from (@bool_any W b).mono fun e w' ⟨h1, h2⟩ => ⟨h1, h2 ▸ h⟩)
    have Y2 := Lib.hid (fun (b : Bool) W (h : Bh w W) => show Calls Try.prog 22 #[.bool b] W (fun e w' => e = .returned (sv (yesL b)) ∧ Bh w w') from (@rbool_any W b).mono fun e w' ⟨h1, h2⟩ => ⟨h1, h.step h2⟩)
    obtain ⟨A, hA⟩ : ∃ A, A = intL n := ⟨_, rfl⟩
    obtain ⟨z, hz⟩ : ∃ z, z = readN s := ⟨_, rfl⟩
    obtain ⟨o, ho⟩ : ∃ z, z = okN (readB s) := ⟨_, rfl⟩
    obtain ⟨q, hq⟩ : ∃ z, z = (s == [255]) := ⟨_, rfl⟩
    obtain ⟨p, hp⟩ : ∃ z, z = okN (boolB s) := ⟨_, rfl⟩
    rw [← hA] at A1 A2
    rw [← hz, ← ho] at R1 R2
    rw [← hq, ← hp] at B1 B2
    have hl1 : decide (5000 < (s.length : Int)) = false := by rw [decide_eq_false_iff_not]; omega
    clear hA hz ho hq hp hn' hn hl
    go_enter Try.func4, Try.ntmps4
    go_wp2_with (first
      | (go_at_call 9; with_reducible refine (HAW.out _ (by assumption)).mono ?_; rintro e w1 ⟨rfl, hb⟩)
      | (go_at_call 15; with_reducible refine (R1.out _ (by assumption)).mono ?_; rintro e w1 ⟨rfl, hb⟩)
      | (go_at_call 18; with_reducible refine (R2.out _ (by assumption)).mono ?_; rintro e w1 ⟨rfl, hb⟩)
      | (go_at_call 17; with_reducible refine (B1.out _ (by assumption)).mono ?_; rintro e w1 ⟨rfl, hb⟩)
      | (go_at_call 19; with_reducible refine (B2.out _ (by assumption)).mono ?_; rintro e w1 ⟨rfl, hb⟩)
      | (go_at_call 16; with_reducible refine (A1.out _ (by assumption)).mono ?_; rintro e w1 ⟨rfl, hb⟩)
      | (go_at_call 20; with_reducible refine (A2.out _ (by assumption)).mono ?_; rintro e w1 ⟨rfl, hb⟩)
      | (go_at_call 21; with_reducible refine (Y1.out _ _ (by assumption)).mono ?_; rintro e w1 ⟨rfl, hb⟩)
      | (go_at_call 22; with_reducible refine (Y2.out _ _ (by assumption)).mono ?_; rintro e w1 ⟨rfl, hb⟩))
    all_goals
      go_ret
      refine ⟨?_, by assumption⟩
      first | rfl | simp
end Go.Proofs.Ytablllincjoabaa
