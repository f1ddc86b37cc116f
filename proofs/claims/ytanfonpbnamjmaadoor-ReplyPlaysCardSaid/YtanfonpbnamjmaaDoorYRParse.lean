/-
  The contracts of the reference's digit, Parse.
-/
import Derived.Deep.QuietTactic
import Derived.BigQuiet
import Derived.Test.YtanfonpbnamjmaaDoorYStepsP
namespace Go.Proofs.YtanfonpbnamjmaaDoor
open Go Go.RowKit Go.Shelf
set_option maxRecDepth 100000

theorem all_bytes {p : UInt8 → Bool} (h : ∀ n, n < 256 → p (UInt8.ofNat n) = true) (b : UInt8) : p b = true := by
  have := h b.toNat b.toNat_lt
  rwa [UInt8.ofNat_toNat] at this
def dgB (lo hi b : UInt8) : Bool := decide (lo ≤ b) && decide (b ≤ hi)
theorem first0 (b : UInt8) : (firstsL 0).contains b = dgB 50 53 b := by
  have := all_bytes (p := fun b => (firstsL 0).contains b == dgB 50 53 b) (by decide +kernel) b
  simpa using this
theorem first1 (b : UInt8) : (firstsL 1).contains b = dgB 48 53 b := by
  have := all_bytes (p := fun b => (firstsL 1).contains b == dgB 48 53 b) (by decide +kernel) b
  simpa using this
theorem first2 (b : UInt8) : (firstsL 2).contains b = dgB 48 57 b := by
  have := all_bytes (p := fun b => (firstsL 2).contains b == dgB 48 57 b) (by decide +kernel) b
  simpa using this

theorem digit_any (b lo hi : UInt8) (w : World) : Calls Tryd.prog 87 #[.int .u8 (b.toNat : Int), .int .u8 (lo.toNat : Int), .int .u8 (hi.toNat : Int)] w fun e w' => e = .returned (.bool (dgB lo hi b)) ∧ w = w' := by
  obtain ⟨r, hr⟩ : ∃ r, r = dgB lo hi b := ⟨_, rfl⟩
  rw [← hr]
  unfold dgB at hr
  obtain ⟨x, hx⟩ : ∃ x, b.toNat = x := ⟨_, rfl⟩
  obtain ⟨y, hy⟩ : ∃ x, lo.toNat = x := ⟨_, rfl⟩
  obtain ⟨z, hz⟩ : ∃ x, hi.toNat = x := ⟨_, rfl⟩
  rw [show decide (lo ≤ b) = decide (y ≤ x) by rw [decide_eq_decide, UInt8.le_iff_toNat_le, hx, hy], show decide (b ≤ hi) = decide (x ≤ z) by rw [decide_eq_decide, UInt8.le_iff_toNat_le, hx, hz]] at hr
  rw [hx, hy, hz]
  clear hx hy hz
  by_cases h1 : y ≤ x
  · have h1i : (y : Int) ≤ (x : Int) := by omega
    by_cases h2 : x ≤ z
    · have h2i : (x : Int) ≤ (z : Int) := by omega
      obtain rfl : r = true := by rw [hr, decide_eq_true h1, decide_eq_true h2]; rfl
      clear hr h1 h2
      go_enter Tryd.func87, Tryd.ntmps87
      go_wp2
      go_ret
      exact ⟨by first | rfl | (simp; done) | (simp; omega), rfl⟩
    · have h2i : ¬ (x : Int) ≤ (z : Int) := by omega
      obtain rfl : r = false := by rw [hr, decide_eq_false h2]; simp
      clear hr h1 h2
      go_enter Tryd.func87, Tryd.ntmps87
      go_wp2
      go_ret
      exact ⟨by first | rfl | (simp; done) | (simp; omega), rfl⟩
  · have h1i : ¬ (y : Int) ≤ (x : Int) := by omega
    obtain rfl : r = false := by rw [hr, decide_eq_false h1]; rfl
    clear hr h1
    go_enter Tryd.func87, Tryd.ntmps87
    go_wp2
    go_ret
    exact ⟨by first | rfl | (simp; done) | (simp; omega), rfl⟩

/-- What is asked of the fourth byte. -/
def f4B (s : List UInt8) : Bool := decide (s.length ≤ 3) || (s.getD 3 0 == 32 || s.getD 3 0 == 45)
theorem f4_is (s : List UInt8) : okF s 3 = f4B s := by
  unfold okF f4B
  congr 1
  have := all_bytes (p := fun b => (firstsL 3).contains b == (b == 32 || b == 45)) (by decide +kernel) (s.getD 3 0)
  simpa using this

theorem rparse_short (s : List UInt8) (w : World) (hs : s.length < 3) : Calls Tryd.prog 56 #[sv s] w fun e w' => e = .returned (parseV s) ∧ Below w.heap.size w w' := by
  have hf : okForm s = false := by
    cases e : okForm s with
    | false => rfl
    | true => have := okForm_len e; omega
  have HV := Lib.hid (show parseV s = .tuple #[.int .i64 0, .bool false, sv [], .int .i64 4] by unfold parseV; rw [hf]; rfl)
  have h1 : ((s.length : Int)) < 3 := by omega
  clear hf hs
  go_enter Tryd.func56, Tryd.ntmps56
  go_wp2_with fail
  ((try simp only [Exit.inBlock, Exit.then]); refine bodyPost_ret (results_tmp4 rfl _ _ _) rfl ?_)
  rw [HV.out]
  exact ⟨rfl, Below.refl _ _⟩

set_option maxHeartbeats 16000000 in
theorem rparse_long (s : List UInt8) (w : World) (hs : 3 ≤ s.length) (hs2 : s.length ≤ 1000000) : Calls Tryd.prog 56 #[sv s] w fun e w' => e = .returned (parseV s) ∧ Below w.heap.size w w' := by
  have h1 : ¬ ((s.length : Int)) < 3 := by omega
  obtain ⟨b0, hb0⟩ : ∃ b, s.getD 0 0 = b := ⟨_, rfl⟩
  obtain ⟨b1, hb1⟩ : ∃ b, s.getD 1 0 = b := ⟨_, rfl⟩
  obtain ⟨b2, hb2⟩ : ∃ b, s.getD 2 0 = b := ⟨_, rfl⟩
  have x0 : (((str s)[0]'(by simp [ByteArray.size]; omega)).toNat) = b0.toNat := by rw [str_getD s 0 (by omega), hb0]
  have x1 : (((str s)[1]'(by simp [ByteArray.size]; omega)).toNat) = b1.toNat := by rw [str_getD s 1 (by omega), hb1]
  have x2 : (((str s)[2]'(by simp [ByteArray.size]; omega)).toNat) = b2.toNat := by rw [str_getD s 2 (by omega), hb2]
  have k0 : okF s 0 = dgB 50 53 b0 := by unfold okF; rw [hb0, first0, decide_eq_false (by omega)]; rfl
  have k1 : okF s 1 = dgB 48 53 b1 := by unfold okF; rw [hb1, first1, decide_eq_false (by omega)]; rfl
  have k2 : okF s 2 = dgB 48 57 b2 := by unfold okF; rw [hb2, first2, decide_eq_false (by omega)]; rfl
  have D0 := Lib.hid (show Calls Tryd.prog 87 #[.int .u8 (b0.toNat : Int), .int .u8 50, .int .u8 53] w fun e w' => e = .returned (.bool (dgB 50 53 b0)) ∧ w = w' from digit_any b0 50 53 w)
  have D1 := Lib.hid (show Calls Tryd.prog 87 #[.int .u8 (b1.toNat : Int), .int .u8 48, .int .u8 53] w fun e w' => e = .returned (.bool (dgB 48 53 b1)) ∧ w = w' from digit_any b1 48 53 w)
  have D2 := Lib.hid (show Calls Tryd.prog 87 #[.int .u8 (b2.toNat : Int), .int .u8 48, .int .u8 57] w fun e w' => e = .returned (.bool (dgB 48 57 b2)) ∧ w = w' from digit_any b2 48 57 w)
  have HNO := Lib.hid (show okForm s = false → parseV s = .tuple #[.int .i64 0, .bool false, sv [], .int .i64 4] from fun h => by unfold parseV; rw [h]; rfl)
  rw [← k0] at D0
  rw [← k1] at D1
  rw [← k2] at D2
  have l0 : (0 : Int) < s.length := by omega
  have l1 : (1 : Int) < s.length := by omega
  have l2 : (2 : Int) < s.length := by omega
  cases a0 : okF s 0 with
  | false =>
    have HV := Lib.hid (HNO.out (okForm_no (k := 0) (by omega) a0))
    rw [a0] at D0
    clear hb0 hb1 hb2 k0 k1 k2 a0
    go_enter Tryd.func56, Tryd.ntmps56
    go_wp2_with first
      | (go_at_call 87; with_reducible refine (D0.out).mono ?_; rintro e w' ⟨rfl, rfl⟩)
      | (go_at_call 87; with_reducible refine (D1.out).mono ?_; rintro e w' ⟨rfl, rfl⟩)
      | (go_at_call 87; with_reducible refine (D2.out).mono ?_; rintro e w' ⟨rfl, rfl⟩)
    ((try simp only [Exit.inBlock, Exit.then]); refine bodyPost_ret (results_tmp4 rfl _ _ _) rfl ?_)
    rw [HV.out]
    exact ⟨rfl, Below.refl _ _⟩
  | true =>
    rw [a0] at D0
    have A0 := Lib.hid a0
    clear a0
    cases a1 : okF s 1 with
    | false =>
      have HV := Lib.hid (HNO.out (okForm_no (k := 1) (by omega) a1))
      rw [a1] at D1
      clear hb0 hb1 hb2 k0 k1 k2 a1
      go_enter Tryd.func56, Tryd.ntmps56
      go_wp2_with first
        | (go_at_call 87; with_reducible refine (D0.out).mono ?_; rintro e w' ⟨rfl, rfl⟩)
        | (go_at_call 87; with_reducible refine (D1.out).mono ?_; rintro e w' ⟨rfl, rfl⟩)
        | (go_at_call 87; with_reducible refine (D2.out).mono ?_; rintro e w' ⟨rfl, rfl⟩)
      ((try simp only [Exit.inBlock, Exit.then]); refine bodyPost_ret (results_tmp4 rfl _ _ _) rfl ?_)
      rw [HV.out]
      exact ⟨rfl, Below.refl _ _⟩
    | true =>
      rw [a1] at D1
      have A1 := Lib.hid a1
      clear a1
      cases a2 : okF s 2 with
      | false =>
        have HV := Lib.hid (HNO.out (okForm_no (k := 2) (by omega) a2))
        rw [a2] at D2
        clear hb0 hb1 hb2 k0 k1 k2 a2
        go_enter Tryd.func56, Tryd.ntmps56
        go_wp2_with first
          | (go_at_call 87; with_reducible refine (D0.out).mono ?_; rintro e w' ⟨rfl, rfl⟩)
          | (go_at_call 87; with_reducible refine (D1.out).mono ?_; rintro e w' ⟨rfl, rfl⟩)
          | (go_at_call 87; with_reducible refine (D2.out).mono ?_; rintro e w' ⟨rfl, rfl⟩)
        ((try simp only [Exit.inBlock, Exit.then]); refine bodyPost_ret (results_tmp4 rfl _ _ _) rfl ?_)
        rw [HV.out]
        exact ⟨rfl, Below.refl _ _⟩
      | true =>
        rw [a2] at D2
        have A2 := Lib.hid a2
        clear a2
        have q0 := okF_low (k := 0) (by omega) (by omega) A0.out
        have q1 := okF_low (k := 1) (by omega) (by omega) A1.out
        have q2 := okF_low (k := 2) (by omega) (by omega) A2.out
        rw [hb0] at q0
        rw [hb1] at q1
        rw [hb2] at q2
        have HCODE := Lib.hid (show (codeR s : Int) = 100 * ((b0.toNat : Int) - 48) + 10 * ((b1.toNat : Int) - 48) + ((b2.toNat : Int) - 48) by
          unfold codeR dig
          rw [hb0, hb1, hb2]
          omega)
        have w0 : IntKind.u8.wrap ((b0.toNat : Int) - 48) = (b0.toNat : Int) - 48 := by unfold IntKind.wrap; simp [IntKind.signed, IntKind.bits]; omega
        have w1 : IntKind.u8.wrap ((b1.toNat : Int) - 48) = (b1.toNat : Int) - 48 := by unfold IntKind.wrap; simp [IntKind.signed, IntKind.bits]; omega
        have w2 : IntKind.u8.wrap ((b2.toNat : Int) - 48) = (b2.toNat : Int) - 48 := by unfold IntKind.wrap; simp [IntKind.signed, IntKind.bits]; omega
        obtain ⟨c0, hc0⟩ : ∃ c, c = (b0.toNat : Int) := ⟨_, rfl⟩
        clear hb0 hb1 hb2 k0 k1 k2 hc0
        by_cases h3 : s.length = 3
        · have HV := Lib.hid (show parseV s = .tuple #[.int .i64 (codeR s : Int), .bool false, sv [], .int .i64 0] by
            unfold parseV
            have hok : okForm s = true := okForm_all hs (fun k hk => by
              rcases (show k = 0 ∨ k = 1 ∨ k = 2 ∨ k = 3 by omega) with rfl | rfl | rfl | rfl
              · exact A0.out
              · exact A1.out
              · exact A2.out
              · rw [f4_is]; unfold f4B; rw [decide_eq_true (by omega)]; rfl) (by rw [List.drop_eq_nil_of_le (by omega)]; rfl)
            rw [if_pos hok]
            have e1 : moreR s = false := by unfold moreR; rw [List.getD_eq_getElem?_getD, List.getElem?_eq_none (by omega)]; rfl
            have e2 : textR s = [] := by unfold textR; exact List.drop_eq_nil_of_le (by omega)
            rw [e1, e2])
          have h3i : ((s.length : Int) == 3) = true := by rw [beq_iff_eq]; omega
          have h3j : ¬ (3 : Int) < s.length := by omega
          clear h3
          go_enter Tryd.func56, Tryd.ntmps56
          go_wp2_with first
            | (go_at_call 87; with_reducible refine (D0.out).mono ?_; rintro e w' ⟨rfl, rfl⟩)
            | (go_at_call 87; with_reducible refine (D1.out).mono ?_; rintro e w' ⟨rfl, rfl⟩)
            | (go_at_call 87; with_reducible refine (D2.out).mono ?_; rintro e w' ⟨rfl, rfl⟩)
          go_quiet (fail)
          go_wp2_with fail
          ((try simp only [Exit.inBlock, Exit.then]); refine bodyPost_ret (results_tmp4 rfl _ _ _) rfl ?_)
          rw [HV.out, HCODE.out]
          exact ⟨rfl, below_drewN (Below.refl _ _) _⟩
        · obtain ⟨b3, hb3⟩ : ∃ b, s.getD 3 0 = b := ⟨_, rfl⟩
          have h3i : ((s.length : Int) == 3) = false := by rw [beq_eq_false_iff_ne]; omega
          have h3j : (3 : Int) < s.length := by omega
          have hl3 : 3 < s.length := by omega
          clear h3
          have x3 : (((str s)[3]'(by simp [ByteArray.size]; omega)).toNat) = b3.toNat := by rw [str_getD s 3 (by omega), hb3]
          have k3 : okF s 3 = (b3 == 32 || b3 == 45) := by rw [f4_is]; unfold f4B; rw [decide_eq_false (by omega), hb3]; rfl
          by_cases hf4 : b3 = 32 ∨ b3 = 45
          · have A3 := Lib.hid (show okF s 3 = true by rw [k3]; rcases hf4 with rfl | rfl <;> decide)
            obtain ⟨R, hR⟩ : ∃ R, R = (s.drop 4).all txC := ⟨_, rfl⟩
            have HR := Lib.hid hR
            have HOK := Lib.hid (show okForm s = R by
              rw [hR]
              cases e : (s.drop 4).all txC with
              | true => exact okForm_all hs (fun k hk => by
                  rcases (show k = 0 ∨ k = 1 ∨ k = 2 ∨ k = 3 by omega) with rfl | rfl | rfl | rfl
                  · exact A0.out
                  · exact A1.out
                  · exact A2.out
                  · exact A3.out) e
              | false =>
                cases e2 : okForm s with
                | false => rfl
                | true => have := okForm_text e2; unfold textR at this; rw [e] at this; cases this)
            have HMO := Lib.hid (show moreR s = (b3 == 45) by unfold moreR; rw [hb3])
            have hn32 : ((b3.toNat : Int) != 32) = (b3 == 45) := by rcases hf4 with rfl | rfl <;> decide
            have hn45 : (b3 == 45) = true → ((b3.toNat : Int) != 45) = false := by rcases hf4 with rfl | rfl <;> decide
            have he45 : ((b3.toNat : Int) == 45) = (b3 == 45) := by rcases hf4 with rfl | rfl <;> decide
            have hl4 : 4 ≤ s.length := by omega
            obtain ⟨m, hm⟩ : ∃ m, m = (b3 == 45) := ⟨_, rfl⟩
            rw [← hm] at hn32 hn45 he45 HMO
            clear hb3 k3 hf4 hR hm
            cases m with
            | false =>
              clear hn45
              go_enter Tryd.func56, Tryd.ntmps56
              go_wp2_with first
                | (go_at_call 87; with_reducible refine (D0.out).mono ?_; rintro e w' ⟨rfl, rfl⟩)
                | (go_at_call 87; with_reducible refine (D1.out).mono ?_; rintro e w' ⟨rfl, rfl⟩)
                | (go_at_call 87; with_reducible refine (D2.out).mono ?_; rintro e w' ⟨rfl, rfl⟩)
              go_quiet (fail)
              go_wp2_with fail
              obtain ⟨w5, hw5⟩ : ∃ w5, w5 = w.drewN nq := ⟨_, rfl⟩
              rw [← hw5]
              have HW5 := Lib.hid (show Below w.heap.size w w5 by rw [hw5]; exact below_drewN (Below.refl _ _) _)
              clear hw5
              go_loopw [7] (fun i wr => ∃ k : Nat, 4 ≤ k ∧ k ≤ s.length ∧ i = .int .i64 k ∧ (s.drop k).all txC = R ∧ w5 = wr) (fun i _ => s.length - (intOf i).toNat)
              case atStart => exact ⟨4, Nat.le_refl _, by omega, rfl, HR.out.symm, rfl⟩
              case round =>
                obtain ⟨k, hk4, hk, rfl, hrun, rfl⟩ := hrel
                have HRU := Lib.hid hrun
                clear hrun
                by_cases hlt : k < s.length
                · obtain ⟨b, hb⟩ : ∃ b, s.getD k 0 = b := ⟨_, rfl⟩
                  obtain ⟨c, hc⟩ : ∃ c, b.toNat = c := ⟨_, rfl⟩
                  have hcs : (((str s)[k]'(by simpa [ByteArray.size] using hlt)).toNat) = c := by rw [str_getD s k hlt, hb, hc]
                  by_cases hP : c = 9 ∨ (32 ≤ c ∧ c ≤ 126)
                  · have HN := Lib.hid (show (s.drop (k + 1)).all txC = R by rw [← HRU.out]; exact (all_step hlt (by rw [hb, txC_nat hc, decide_eq_true hP])).symm)
                    clear hb hc
                    rcases hP with h | ⟨h1', h2'⟩
                    · have h9 : ((c : Int) != 9) = false := by simp [h]
                      clear h
                      go_wp2_with fail
                      go_roundw
                      case rel => exact ⟨k + 1, by omega, by omega, by go_num, HN.out, by simp⟩
                      case measure => simp [intOf]; omega
                    · have h9 : ((c : Int) != 9) = true := by simp; omega
                      go_wp2_with fail
                      go_roundw
                      case rel => exact ⟨k + 1, by omega, by omega, by go_num, HN.out, by simp⟩
                      case measure => simp [intOf]; omega
                  · have HRF := Lib.hid (show R = false by rw [← HRU.out]; exact all_stop hlt (by rw [hb, txC_nat hc, decide_eq_false hP]))
                    have HV := Lib.hid (HNO.out (by rw [HOK.out]; exact HRF.out))
                    have h9 : ((c : Int) != 9) = true := by simp; omega
                    clear hb hc
                    rcases (show c < 32 ∨ 126 < c by omega) with h | h
                    all_goals clear hP
                    all_goals
                      go_wp2_with fail
                      ((try simp only [Exit.inBlock, Exit.then]); refine bodyPost_ret (results_tmp4 rfl _ _ _) rfl ?_)
                      rw [HV.out]
                      exact ⟨rfl, HW5.out⟩
                · obtain rfl : k = s.length := by omega
                  have HRT := Lib.hid (show R = true by rw [← HRU.out, List.drop_length]; rfl)
                  have HV := Lib.hid (show parseV s = .tuple #[.int .i64 (codeR s : Int), .bool (moreR s), sv (textR s), .int .i64 0] by unfold parseV; rw [if_pos (HOK.out.trans HRT.out)])
                  have hsl : (str s).extract 4 s.length = str (textR s) := by rw [str_extract, List.take_length]; rfl
                  go_wp2_with fail
                  go_quiet (fail)
                  go_wp2_with fail
                  ((try simp only [Exit.inBlock, Exit.then]); refine bodyPost_ret (results_tmp4 rfl _ _ _) rfl ?_)
                  rw [HV.out, HCODE.out, HMO.out]
                  exact ⟨rfl, below_drewN HW5.out _⟩
            | true =>
              have hn45' := hn45 rfl
              clear hn45
              go_enter Tryd.func56, Tryd.ntmps56
              go_wp2_with first
                | (go_at_call 87; with_reducible refine (D0.out).mono ?_; rintro e w' ⟨rfl, rfl⟩)
                | (go_at_call 87; with_reducible refine (D1.out).mono ?_; rintro e w' ⟨rfl, rfl⟩)
                | (go_at_call 87; with_reducible refine (D2.out).mono ?_; rintro e w' ⟨rfl, rfl⟩)
              go_quiet (fail)
              go_wp2_with fail
              obtain ⟨w5, hw5⟩ : ∃ w5, w5 = w.drewN nq := ⟨_, rfl⟩
              rw [← hw5]
              have HW5 := Lib.hid (show Below w.heap.size w w5 by rw [hw5]; exact below_drewN (Below.refl _ _) _)
              clear hw5
              go_loopw [7] (fun i wr => ∃ k : Nat, 4 ≤ k ∧ k ≤ s.length ∧ i = .int .i64 k ∧ (s.drop k).all txC = R ∧ w5 = wr) (fun i _ => s.length - (intOf i).toNat)
              case atStart => exact ⟨4, Nat.le_refl _, by omega, rfl, HR.out.symm, rfl⟩
              case round =>
                obtain ⟨k, hk4, hk, rfl, hrun, rfl⟩ := hrel
                have HRU := Lib.hid hrun
                clear hrun
                by_cases hlt : k < s.length
                · obtain ⟨b, hb⟩ : ∃ b, s.getD k 0 = b := ⟨_, rfl⟩
                  obtain ⟨c, hc⟩ : ∃ c, b.toNat = c := ⟨_, rfl⟩
                  have hcs : (((str s)[k]'(by simpa [ByteArray.size] using hlt)).toNat) = c := by rw [str_getD s k hlt, hb, hc]
                  by_cases hP : c = 9 ∨ (32 ≤ c ∧ c ≤ 126)
                  · have HN := Lib.hid (show (s.drop (k + 1)).all txC = R by rw [← HRU.out]; exact (all_step hlt (by rw [hb, txC_nat hc, decide_eq_true hP])).symm)
                    clear hb hc
                    rcases hP with h | ⟨h1', h2'⟩
                    · have h9 : ((c : Int) != 9) = false := by simp [h]
                      clear h
                      go_wp2_with fail
                      go_roundw
                      case rel => exact ⟨k + 1, by omega, by omega, by go_num, HN.out, by simp⟩
                      case measure => simp [intOf]; omega
                    · have h9 : ((c : Int) != 9) = true := by simp; omega
                      go_wp2_with fail
                      go_roundw
                      case rel => exact ⟨k + 1, by omega, by omega, by go_num, HN.out, by simp⟩
                      case measure => simp [intOf]; omega
                  · have HRF := Lib.hid (show R = false by rw [← HRU.out]; exact all_stop hlt (by rw [hb, txC_nat hc, decide_eq_false hP]))
                    have HV := Lib.hid (HNO.out (by rw [HOK.out]; exact HRF.out))
                    have h9 : ((c : Int) != 9) = true := by simp; omega
                    clear hb hc
                    rcases (show c < 32 ∨ 126 < c by omega) with h | h
                    all_goals clear hP
                    all_goals
                      go_wp2_with fail
                      ((try simp only [Exit.inBlock, Exit.then]); refine bodyPost_ret (results_tmp4 rfl _ _ _) rfl ?_)
                      rw [HV.out]
                      exact ⟨rfl, HW5.out⟩
                · obtain rfl : k = s.length := by omega
                  have HRT := Lib.hid (show R = true by rw [← HRU.out, List.drop_length]; rfl)
                  have HV := Lib.hid (show parseV s = .tuple #[.int .i64 (codeR s : Int), .bool (moreR s), sv (textR s), .int .i64 0] by unfold parseV; rw [if_pos (HOK.out.trans HRT.out)])
                  have hsl : (str s).extract 4 s.length = str (textR s) := by rw [str_extract, List.take_length]; rfl
                  go_wp2_with fail
                  go_quiet (fail)
                  go_wp2_with fail
                  ((try simp only [Exit.inBlock, Exit.then]); refine bodyPost_ret (results_tmp4 rfl _ _ _) rfl ?_)
                  rw [HV.out, HCODE.out, HMO.out]
                  exact ⟨rfl, below_drewN HW5.out _⟩
          · have HV := Lib.hid (HNO.out (okForm_no (k := 3) (by omega) (by
              rw [k3]
              cases e1 : (b3 == 32) with
              | true => exact absurd (.inl (by simpa using e1)) hf4
              | false =>
                cases e2 : (b3 == 45) with
                | true => exact absurd (.inr (by simpa using e2)) hf4
                | false => rfl)))
            have hn32 : ((b3.toNat : Int) != 32) = true := by
              rw [bne_iff_ne]; intro e; exact hf4 (.inl (UInt8.toNat_inj.1 (show b3.toNat = 32 by omega)))
            have hn45 : ((b3.toNat : Int) != 45) = true := by
              rw [bne_iff_ne]; intro e; exact hf4 (.inr (UInt8.toNat_inj.1 (show b3.toNat = 45 by omega)))
            clear hb3 k3 hf4
            go_enter Tryd.func56, Tryd.ntmps56
            go_wp2_with first
              | (go_at_call 87; with_reducible refine (D0.out).mono ?_; rintro e w' ⟨rfl, rfl⟩)
              | (go_at_call 87; with_reducible refine (D1.out).mono ?_; rintro e w' ⟨rfl, rfl⟩)
              | (go_at_call 87; with_reducible refine (D2.out).mono ?_; rintro e w' ⟨rfl, rfl⟩)
            ((try simp only [Exit.inBlock, Exit.then]); refine bodyPost_ret (results_tmp4 rfl _ _ _) rfl ?_)
            rw [HV.out]
            exact ⟨rfl, Below.refl _ _⟩

theorem rparse_any (s : List UInt8) (w : World) (hs2 : s.length ≤ 1000000) : Calls Tryd.prog 56 #[sv s] w fun e w' => e = .returned (parseV s) ∧ Below w.heap.size w w' := by
  by_cases hs : 3 ≤ s.length
  · exact rparse_long s w hs hs2
  · exact rparse_short s w (by omega)
end Go.Proofs.YtanfonpbnamjmaaDoor
