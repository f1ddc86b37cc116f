/-
  DerSigns, walked.
-/
import Derived.Test.YtablllincjoabaaELaw
namespace Go.Proofs.Ytablllincjoabaa
set_option linter.unusedSimpArgs false
set_option linter.unusedVariables false
open Go Go.RowKit
set_option maxRecDepth 100000

theorem readN_bounds (s : List UInt8) : -9223372036854775808 ≤ readN s ∧ readN s < 9223372036854775808 := by
  unfold readN
  split
  · next h =>
    unfold readB at h
    simp only [Bool.and_eq_true, decide_eq_true_eq] at h
    cases s with
    | nil => simp at h
    | cons b l =>
      have hl : l.length ≤ 7 := by have := h.1.2; simp at this; omega
      exact fits7 (fits_mono (valL_fits b l) hl)
  · omega

set_option maxHeartbeats 8000000 in
theorem derSigns_walk {n m : Int} (hn : -9223372036854775808 ≤ n ∧ n ≤ 9223372036854775807) (hm : -9223372036854775808 ≤ m ∧ m ≤ 9223372036854775807) (s : List UInt8) (hs : s.length ≤ 140737488351232) {w : World} :
    Calls Try.prog 7 #[.int .i64 n, .int .i64 m, sv s] w fun e w' => e = .returned (.bool true) ∧ Below w.heap.size w w' := by
  have HAW := Lib.hid (fun W (h : Bh w W) => show Calls Try.prog 9 #[] W (fun e w' => e = .returned (.bool true) ∧ Bh w w') from (awake_any W).mono fun e w' ⟨h1, h2⟩ => ⟨h1, h.step h2⟩)
  have hB0 : Bh w w := Below.refl _ _
  have hzs := str_size s
  by_cases hl : 5000 < s.length
  · go_enter Try.func7, Try.ntmps7
    go_wp2_with (go_at_call 9; refine (HAW.out _ hB0).mono ?_; rintro e w1 ⟨rfl, hb⟩)
    go_ret
    exact ⟨rfl, hb⟩
  · have IN := fun (z : Int) (hz : -9223372036854775808 ≤ z ∧ z < 9223372036854775808) W (h : Bh w W) => show Calls Try.prog 16 #[.int .i64 z] W (fun e w' => e = .returned (sv (intL z)) ∧ Bh w w') from (@int_top W z hz).mono fun e w' ⟨h1, h2⟩ => ⟨h1, h.step h2⟩
    have RD := fun (x : List UInt8) (hx : x.length ≤ 9223372036854775807) W (h : Bh w W) => show Calls Try.prog 15 #[sv x] W (fun e w' => e = .returned (.tuple #[.int .i64 (readN x), .int .i64 (okN (readB x))]) ∧ Bh w w') from (@readInt_any W x hx).mono fun e w' ⟨h1, h2⟩ => ⟨h1, h.step h2⟩
    have hn' : -9223372036854775808 ≤ n ∧ n < 9223372036854775808 := by omega
    have hm' : -9223372036854775808 ≤ m ∧ m < 9223372036854775808 := by omega
    have lA := intL_length n
    have lB := intL_length m
    have hrA : readB (intL n) = true := readB_intL hn'
    have hrN : readN (intL n) = n := by unfold readN; rw [if_pos hrA, valL_intL hn']
    have R1 := Lib.hid (RD (intL n) (by omega))
    rw [hrA, hrN] at R1
    have hrz := readN_bounds s
    have R2 := Lib.hid (RD s (by omega))
    have HI := Lib.hid (fun (h : intL n = intL m) => intL_inj hn' hm' h)
    have HM := Lib.hid (fun (h0 : 0 ≤ n) (h : n ≤ m) => show (intL n).length ≤ (intL m).length from intF_mono 7 n m h0 h)
    have hRB := (show readB s = true → intL (readN s) = s by
      intro h
      have h' := h
      unfold readB at h'
      simp only [Bool.and_eq_true, beq_iff_eq] at h'
      unfold readN; rw [if_pos h]; exact h'.2)
    have hRZ := (show readB s = false → readN s = 0 by intro h; unfold readN; rw [h]; rfl)
    have IA := Lib.hid (IN n hn')
    have IB := Lib.hid (IN m hm')
    have IZ := Lib.hid (IN (readN s) hrz)
    obtain ⟨A, hA⟩ : ∃ A, A = intL n := ⟨_, rfl⟩
    obtain ⟨B, hB⟩ : ∃ A, A = intL m := ⟨_, rfl⟩
    obtain ⟨z, hz⟩ : ∃ z, z = readN s := ⟨_, rfl⟩
    rw [← hA] at R1 HI HM IA lA
    rw [← hB] at HI HM IB lB
    rw [← hz] at R2 hRB hRZ IZ
    have lA1 := lA.2
    have lB1 := lB.2
    have hnm : (A == B) = (n == m) := by
      by_cases e : n = m
      · subst e; rw [hA, hB]; simp
      · rw [show (n == m) = false by rw [beq_eq_false_iff_ne]; exact e, beq_eq_false_iff_ne]; exact fun h => e (HI.out h)
    have HNM := Lib.hid hnm
    have hl1 : decide (5000 < (s.length : Int)) = false := by rw [decide_eq_false_iff_not]; omega
    clear IN RD hn' hm' hrA hrN hrz hA hB hz lA lB hnm hn hm HI
    have R1' := Lib.hid (fun W (h : Bh w W) => show Calls Try.prog 15 #[sv A] W (fun e w' => e = .returned (.tuple #[.int .i64 n, .int .i64 0]) ∧ Bh w w') from R1.out W h)
    clear R1
    have main : ∀ (q : Bool), q = readB s → Calls Try.prog 7 #[.int .i64 n, .int .i64 m, sv s] w fun e w' => e = .returned (.bool true) ∧ Below w.heap.size w w' := by
      intro q hq
      rw [← hq] at R2 hRB hRZ
      clear hq
      cases q with
      | true =>
        have hz := hRB rfl
        rw [hz] at IZ
        have R2' := Lib.hid (fun W (h : Bh w W) => show Calls Try.prog 15 #[sv s] W (fun e w' => e = .returned (.tuple #[.int .i64 z, .int .i64 0]) ∧ Bh w w') from R2.out W h)
        clear hz hRB hRZ R2
        by_cases h0 : 0 ≤ n
        · by_cases h1 : n ≤ m
          · have hAB := HM.out h0 h1
            have hAB2 : decide ((B.length : Int) < (A.length : Int)) = false := by rw [decide_eq_false_iff_not]; omega
            go_enter Try.func7, Try.ntmps7
            go_wp2_with (first
              | (go_at_call 9; with_reducible refine (HAW.out _ (by assumption)).mono ?_; rintro e w1 ⟨rfl, hb⟩)
              | (go_at_call 15; with_reducible refine (R1'.out _ (by assumption)).mono ?_; rintro e w1 ⟨rfl, hb⟩)
              | (go_at_call 15; with_reducible refine (R2'.out _ (by assumption)).mono ?_; rintro e w1 ⟨rfl, hb⟩)
              | (go_at_call 16; with_reducible refine (IA.out _ (by assumption)).mono ?_; rintro e w1 ⟨rfl, hb⟩)
              | (go_at_call 16; with_reducible refine (IB.out _ (by assumption)).mono ?_; rintro e w1 ⟨rfl, hb⟩)
              | (go_at_call 16; with_reducible refine (IZ.out _ (by assumption)).mono ?_; rintro e w1 ⟨rfl, hb⟩))
            go_ret
            refine ⟨?_, by assumption⟩
            rw [← HNM.out]
            simp
          ·
            go_enter Try.func7, Try.ntmps7
            go_wp2_with (first
              | (go_at_call 9; with_reducible refine (HAW.out _ (by assumption)).mono ?_; rintro e w1 ⟨rfl, hb⟩)
              | (go_at_call 15; with_reducible refine (R1'.out _ (by assumption)).mono ?_; rintro e w1 ⟨rfl, hb⟩)
              | (go_at_call 15; with_reducible refine (R2'.out _ (by assumption)).mono ?_; rintro e w1 ⟨rfl, hb⟩)
              | (go_at_call 16; with_reducible refine (IA.out _ (by assumption)).mono ?_; rintro e w1 ⟨rfl, hb⟩)
              | (go_at_call 16; with_reducible refine (IB.out _ (by assumption)).mono ?_; rintro e w1 ⟨rfl, hb⟩)
              | (go_at_call 16; with_reducible refine (IZ.out _ (by assumption)).mono ?_; rintro e w1 ⟨rfl, hb⟩))
            go_ret
            refine ⟨?_, by assumption⟩
            rw [← HNM.out]
            simp
        ·
          go_enter Try.func7, Try.ntmps7
          go_wp2_with (first
            | (go_at_call 9; with_reducible refine (HAW.out _ (by assumption)).mono ?_; rintro e w1 ⟨rfl, hb⟩)
            | (go_at_call 15; with_reducible refine (R1'.out _ (by assumption)).mono ?_; rintro e w1 ⟨rfl, hb⟩)
            | (go_at_call 15; with_reducible refine (R2'.out _ (by assumption)).mono ?_; rintro e w1 ⟨rfl, hb⟩)
            | (go_at_call 16; with_reducible refine (IA.out _ (by assumption)).mono ?_; rintro e w1 ⟨rfl, hb⟩)
            | (go_at_call 16; with_reducible refine (IB.out _ (by assumption)).mono ?_; rintro e w1 ⟨rfl, hb⟩)
            | (go_at_call 16; with_reducible refine (IZ.out _ (by assumption)).mono ?_; rintro e w1 ⟨rfl, hb⟩))
          go_ret
          refine ⟨?_, by assumption⟩
          rw [← HNM.out]
          simp
      | false =>
        have hz := hRZ rfl
        subst hz
        have R2' := Lib.hid (fun W (h : Bh w W) => show Calls Try.prog 15 #[sv s] W (fun e w' => e = .returned (.tuple #[.int .i64 0, .int .i64 4]) ∧ Bh w w') from R2.out W h)
        clear hRB hRZ R2
        by_cases h0 : 0 ≤ n
        · by_cases h1 : n ≤ m
          · have hAB := HM.out h0 h1
            have hAB2 : decide ((B.length : Int) < (A.length : Int)) = false := by rw [decide_eq_false_iff_not]; omega
            go_enter Try.func7, Try.ntmps7
            go_wp2_with (first
              | (go_at_call 9; with_reducible refine (HAW.out _ (by assumption)).mono ?_; rintro e w1 ⟨rfl, hb⟩)
              | (go_at_call 15; with_reducible refine (R1'.out _ (by assumption)).mono ?_; rintro e w1 ⟨rfl, hb⟩)
              | (go_at_call 15; with_reducible refine (R2'.out _ (by assumption)).mono ?_; rintro e w1 ⟨rfl, hb⟩)
              | (go_at_call 16; with_reducible refine (IA.out _ (by assumption)).mono ?_; rintro e w1 ⟨rfl, hb⟩)
              | (go_at_call 16; with_reducible refine (IB.out _ (by assumption)).mono ?_; rintro e w1 ⟨rfl, hb⟩)
              | (go_at_call 16; with_reducible refine (IZ.out _ (by assumption)).mono ?_; rintro e w1 ⟨rfl, hb⟩))
            go_ret
            refine ⟨?_, by assumption⟩
            rw [← HNM.out]
            simp
          ·
            go_enter Try.func7, Try.ntmps7
            go_wp2_with (first
              | (go_at_call 9; with_reducible refine (HAW.out _ (by assumption)).mono ?_; rintro e w1 ⟨rfl, hb⟩)
              | (go_at_call 15; with_reducible refine (R1'.out _ (by assumption)).mono ?_; rintro e w1 ⟨rfl, hb⟩)
              | (go_at_call 15; with_reducible refine (R2'.out _ (by assumption)).mono ?_; rintro e w1 ⟨rfl, hb⟩)
              | (go_at_call 16; with_reducible refine (IA.out _ (by assumption)).mono ?_; rintro e w1 ⟨rfl, hb⟩)
              | (go_at_call 16; with_reducible refine (IB.out _ (by assumption)).mono ?_; rintro e w1 ⟨rfl, hb⟩)
              | (go_at_call 16; with_reducible refine (IZ.out _ (by assumption)).mono ?_; rintro e w1 ⟨rfl, hb⟩))
            go_ret
            refine ⟨?_, by assumption⟩
            rw [← HNM.out]
            simp
        ·
          go_enter Try.func7, Try.ntmps7
          go_wp2_with (first
            | (go_at_call 9; with_reducible refine (HAW.out _ (by assumption)).mono ?_; rintro e w1 ⟨rfl, hb⟩)
            | (go_at_call 15; with_reducible refine (R1'.out _ (by assumption)).mono ?_; rintro e w1 ⟨rfl, hb⟩)
            | (go_at_call 15; with_reducible refine (R2'.out _ (by assumption)).mono ?_; rintro e w1 ⟨rfl, hb⟩)
            | (go_at_call 16; with_reducible refine (IA.out _ (by assumption)).mono ?_; rintro e w1 ⟨rfl, hb⟩)
            | (go_at_call 16; with_reducible refine (IB.out _ (by assumption)).mono ?_; rintro e w1 ⟨rfl, hb⟩)
            | (go_at_call 16; with_reducible refine (IZ.out _ (by assumption)).mono ?_; rintro e w1 ⟨rfl, hb⟩))
          go_ret
          refine ⟨?_, by assumption⟩
          rw [← HNM.out]
          simp
    exact main _ rfl
end Go.Proofs.Ytablllincjoabaa
