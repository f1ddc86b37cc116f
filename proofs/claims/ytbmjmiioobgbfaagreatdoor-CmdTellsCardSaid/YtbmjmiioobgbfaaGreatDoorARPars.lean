/-
  The contracts of the reference's Parse, May, Path, Unpath, Same, Show.
-/
import Derived.Test.YtbmjmiioobgbfaaGreatDoorARLoc
import Derived.Test.YtbmjmiioobgbfaaGreatDoorAMay
namespace Go.Proofs.YtbmjmiioobgbfaaGreatDoor
set_option linter.unusedSimpArgs false
set_option linter.unusedVariables false
open Go Go.RowKit
set_option maxRecDepth 100000

theorem no64_drop {s : List UInt8} {k : Nat} (h : ∀ j, k ≤ j → j < s.length → s.getD j 0 ≠ 64) : ∀ c ∈ s.drop k, c ≠ 64 := by
  intro c hc
  obtain ⟨j, hj, rfl⟩ := List.getElem_of_mem hc
  rw [List.length_drop] at hj
  have := h (k + j) (by omega) (by omega)
  rw [getD_str s _ (by omega)] at this
  rwa [List.getElem_drop]
theorem no64_all {s : List UInt8} (h : ∀ j, 0 ≤ j → j < s.length → s.getD j 0 ≠ 64) : parseL s = none := by
  have := no64_drop h
  rw [List.drop_zero] at this
  exact parse_no_at this
theorem at64 {s : List UInt8} {k : Nat} (h : ∀ j, k + 1 ≤ j → j < s.length → s.getD j 0 ≠ 64) (hk : k < s.length) (hc : s.getD k 0 = 64) : ∃ a b, cutA s = some (a, b) ∧ a.length = k := by
  refine ⟨s.take k, s.drop (k + 1), ?_, by simp; omega⟩
  refine cutA_some.2 ⟨?_, no64_drop h⟩
  conv => lhs; rw [← List.take_append_drop k s, List.drop_eq_getElem_cons hk, ← getD_str s k hk, hc]
theorem keep64 {s : List UInt8} {k : Nat} (h : ∀ j, k + 1 ≤ j → j < s.length → s.getD j 0 ≠ 64) (hc : s.getD k 0 ≠ 64) : ∀ j, k ≤ j → j < s.length → s.getD j 0 ≠ 64 := fun j hj hl => by
  by_cases e : j = k
  · rw [e]; exact hc
  · exact h j (by omega) hl
theorem last_is {s : List UInt8} (h : 0 < s.length) {z : Nat} (hz : (s.getD (s.length - 1) 0).toNat = z) : (s.getLast? == some 46) = decide (z = 46) := by
  have hl : s.length - 1 < s.length := by omega
  rw [List.getLast?_eq_getElem?, List.getElem?_eq_getElem hl, ← getD_str s _ hl, Bool.eq_iff_iff, beq_iff_eq, decide_eq_true_eq, ← hz, Option.some.injEq, ← UInt8.toNat_inj]
  exact Iff.rfl
theorem run_slice_to (s a : List UInt8) (n : Nat) (h : n ≤ s.length) (E : (str s).extract 0 n = str a) (w : World) :
    (Instr.slice 9 (sv s) none (some (.int .i64 (n : Int))) none).run Tryz.prog w = .ok (sv a) w := by
  have hjs : (n : Int) ≤ (s.length : Int) := by omega
  go_simp
theorem run_slice_from (s b : List UInt8) (n : Nat) (h : n ≤ s.length) (E : (str s).extract n s.length = str b) (w : World) :
    (Instr.slice 9 (sv s) (some (.int .i64 (n : Int))) none none).run Tryz.prog w = .ok (sv b) w := by
  have hjs : (n : Int) ≤ (s.length : Int) := by omega
  go_simp

set_option maxHeartbeats 8000000 in
theorem rparse_any (s : List UInt8) (w : World) (hs : s.length ≤ 1000000) : Calls Tryz.prog 42 #[sv s] w fun e w' => e = .returned (parseV (parseL s)) ∧ Below w.heap.size w w' := by
  have HB := Lib.hid (Below.refl w.heap.size w)
  go_enter Tryz.func42, Tryz.ntmps42
  go_wp2_with fail
  go_loop [5] (fun i => ∃ (k : Nat) (y : Int), k ≤ s.length ∧ y = (k : Int) - 1 ∧ i = .int .i64 y ∧ ∀ j, k ≤ j → j < s.length → s.getD j 0 ≠ 64) (fun i => (intOf i + 1).toNat)
  case atStart => exact ⟨s.length, _, Nat.le_refl _, rfl, rfl, fun j h1 h2 => absurd h2 (by omega)⟩
  case round =>
    obtain ⟨k, y, hk, hy, rfl, ha⟩ := hrel
    cases k with
    | zero =>
      obtain rfl : y = -1 := by rw [hy]; rfl
      have HF := Lib.hid (no64_all ha)
      clear ha hy
      go_wp2_with fail
      refine bodyPost_ret (v := .tuple #[sv [], sv [], .int .i64 4]) (by simp [results, Tryz.results42, go_sem]) rfl ⟨by rw [HF.out]; rfl, HB.out⟩
    | succ k =>
      obtain rfl : y = (k : Int) := by rw [hy]; omega
      have hlt : k < s.length := by omega
      obtain ⟨x, hx⟩ : ∃ x, (s.getD k 0).toNat = x := ⟨_, rfl⟩
      have hcs : (((str s)[k]'(by simpa [ByteArray.size] using hlt)).toNat) = x := by rw [str_getD s k hlt, hx]
      by_cases h64 : x = 64
      · obtain ⟨a, b, hc, hal⟩ := at64 ha hlt (UInt8.toNat_inj.1 (by rw [hx, h64]; rfl))
        subst hal
        obtain ⟨x1, x2, x3⟩ := cut_extract hc
        have hp := parse_cut hc
        have c1 := run_slice_to s a a.length (by omega) x1
        have c2 := run_slice_from s b (a.length + 1) (by omega) x2
        have c2' : ((a.length + 1 : Nat) : Int) = (a.length : Int) + 1 := by omega
        rw [c2'] at c2
        have hbl : b.length ≤ 1000000 := by omega
        have hal : a.length ≤ 1000000 := by omega
        have hzl : s.length - 1 < s.length := by omega
        obtain ⟨z, hz⟩ : ∃ z, (s.getD (s.length - 1) 0).toNat = z := ⟨_, rfl⟩
        have hzs : (((str s)[s.length - 1]'(by simpa [ByteArray.size] using hzl)).toNat) = z := by rw [str_getD s _ hzl, hz]
        rw [last_is (by omega) hz] at hp
        have HP := Lib.hid hp
        have hcs2 : (((str s)[a.length]'(by simpa [ByteArray.size] using hlt)).toNat) = 64 := by rw [hcs, h64]
        clear ha hx hcs h64 hc x1 x2 x3 hp hz hy c2'
        by_cases l0 : a.length < 1
        · have HF := Lib.hid (show parseL s = none by
            obtain rfl : a = [] := List.eq_nil_of_length_eq_zero (by omega)
            rw [HP.out, show localL [] = false by decide]; rfl)
          clear c1 c2
          go_wp2_with fail
          refine bodyPost_ret (v := .tuple #[sv [], sv [], .int .i64 4]) (by simp [results, Tryz.results42, go_sem]) rfl ⟨by rw [HF.out]; rfl, HB.out⟩
        by_cases l64 : 64 < a.length
        · have HF := Lib.hid (show parseL s = none by
            rw [HP.out, show localL a = false by unfold localL; rw [decide_eq_false (by omega)]; rfl]; rfl)
          clear c1 c2
          go_wp2_with fail
          refine bodyPost_ret (v := .tuple #[sv [], sv [], .int .i64 4]) (by simp [results, Tryz.results42, go_sem]) rfl ⟨by rw [HF.out]; rfl, HB.out⟩
        have l0' : 1 ≤ a.length := by omega
        have l64' : a.length ≤ 64 := by omega
        clear l0 l64
        by_cases z46 : z = 46
        · have HF := Lib.hid (show parseL s = none by rw [HP.out, decide_eq_true z46]; simp)
          have e46 : ((z : Int) == 46) = true := by rw [z46]; rfl
          clear z46 c1 c2
          go_wp2_with fail
          refine bodyPost_ret (v := .tuple #[sv [], sv [], .int .i64 4]) (by simp [results, Tryz.results42, go_sem]) rfl ⟨by rw [HF.out]; rfl, HB.out⟩
        have e46 : ((z : Int) == 46) = false := by rw [beq_eq_false_iff_ne]; omega
        have HP2 := Lib.hid (show parseL s = if atomsL a || quotedL a then (foldL b).map (fun d => (a, d)) else none by
          rw [HP.out, decide_eq_false z46, show localL a = (atomsL a || quotedL a) by unfold localL; rw [decide_eq_true l64']; rfl]
          simp)
        clear HP z46
        cases hat : atomsL a with
        | true =>
          have HP3 := Lib.hid (show parseL s = (foldL b).map (fun d => (a, d)) by rw [HP2.out, hat]; rfl)
          have HA := Lib.hid hat
          clear hat HP2
          cases hf : foldL b with
          | none =>
            have HF := Lib.hid (show parseL s = none by rw [HP3.out, hf]; rfl)
            have HQ := Lib.hid hf
            clear hf
            go_wp2_with (go_at_call 78; refine (ratoms_any a _ hal).mono ?_; rintro e w1 ⟨rfl, rfl⟩; rw [HA.out])
            refine (rfold_any b _ hbl).mono ?_
            rintro e w1 ⟨rfl, hb⟩
            rw [HQ.out]
            have HB := Lib.hid hb
            clear hb
            unfold foldV
            go_wp2_with fail
            refine bodyPost_ret (v := .tuple #[sv [], sv [], .int .i64 4]) (by simp [results, Tryz.results42, go_sem]) rfl ⟨by rw [HF.out]; rfl, HB.out⟩
          | some d =>
            have HF := Lib.hid (show parseL s = some (a, d) by rw [HP3.out, hf]; rfl)
            have HQ := Lib.hid hf
            clear hf
            go_wp2_with (go_at_call 78; refine (ratoms_any a _ hal).mono ?_; rintro e w1 ⟨rfl, rfl⟩; rw [HA.out])
            refine (rfold_any b _ hbl).mono ?_
            rintro e w1 ⟨rfl, hb⟩
            rw [HQ.out]
            have HB := Lib.hid hb
            clear hb
            unfold foldV
            go_wp2_with fail
            refine bodyPost_ret (v := .tuple #[sv a, sv d, .int .i64 0]) (by simp [results, Tryz.results42, go_sem]) rfl ⟨by rw [HF.out]; rfl, HB.out⟩
        | false =>
          have HA := Lib.hid hat
          cases hq : quotedL a with
          | true =>
            have HP3 := Lib.hid (show parseL s = (foldL b).map (fun d => (a, d)) by rw [HP2.out, hat, hq]; rfl)
            have HK := Lib.hid hq
            clear hat hq HP2
            cases hf : foldL b with
            | none =>
              have HF := Lib.hid (show parseL s = none by rw [HP3.out, hf]; rfl)
              have HQ := Lib.hid hf
              clear hf
              go_wp2_with (first | (go_at_call 78; refine (ratoms_any a _ hal).mono ?_; rintro e w1 ⟨rfl, rfl⟩; rw [HA.out]) | (go_at_call 79; refine (rquoted_any a _ hal).mono ?_; rintro e w1 ⟨rfl, rfl⟩; rw [HK.out]))
              refine (rfold_any b _ hbl).mono ?_
              rintro e w1 ⟨rfl, hb⟩
              rw [HQ.out]
              have HB := Lib.hid hb
              clear hb
              unfold foldV
              go_wp2_with fail
              refine bodyPost_ret (v := .tuple #[sv [], sv [], .int .i64 4]) (by simp [results, Tryz.results42, go_sem]) rfl ⟨by rw [HF.out]; rfl, HB.out⟩
            | some d =>
              have HF := Lib.hid (show parseL s = some (a, d) by rw [HP3.out, hf]; rfl)
              have HQ := Lib.hid hf
              clear hf
              go_wp2_with (first | (go_at_call 78; refine (ratoms_any a _ hal).mono ?_; rintro e w1 ⟨rfl, rfl⟩; rw [HA.out]) | (go_at_call 79; refine (rquoted_any a _ hal).mono ?_; rintro e w1 ⟨rfl, rfl⟩; rw [HK.out]))
              refine (rfold_any b _ hbl).mono ?_
              rintro e w1 ⟨rfl, hb⟩
              rw [HQ.out]
              have HB := Lib.hid hb
              clear hb
              unfold foldV
              go_wp2_with fail
              refine bodyPost_ret (v := .tuple #[sv a, sv d, .int .i64 0]) (by simp [results, Tryz.results42, go_sem]) rfl ⟨by rw [HF.out]; rfl, HB.out⟩
          | false =>
            have HF := Lib.hid (show parseL s = none by rw [HP2.out, hat, hq]; rfl)
            have HK := Lib.hid hq
            clear hat hq HP2
            go_wp2_with (first | (go_at_call 78; refine (ratoms_any a _ hal).mono ?_; rintro e w1 ⟨rfl, rfl⟩; rw [HA.out]) | (go_at_call 79; refine (rquoted_any a _ hal).mono ?_; rintro e w1 ⟨rfl, rfl⟩; rw [HK.out]))
            refine bodyPost_ret (v := .tuple #[sv [], sv [], .int .i64 4]) (by simp [results, Tryz.results42, go_sem]) rfl ⟨by rw [HF.out]; rfl, HB.out⟩
      · have HN := Lib.hid (keep64 ha (show s.getD k 0 ≠ 64 by rintro e; rw [e] at hx; exact h64 hx.symm))
        have e64 : ((x : Int) != 64) = true := by rw [bne_iff_ne]; omega
        clear ha hx h64 hy
        go_wp2_with fail
        go_round
        case rel => exact ⟨k, _, by omega, rfl, rfl, HN.out⟩
        case measure => simp [intOf]

theorem rmay4_any (s : List UInt8) (w : World) (hs : s.length ≤ 1000000) : Calls Tryz.prog 47 #[sv s] w fun e w' => e = .returned (.bool (amayL s)) ∧ Below w.heap.size w w' := by
  cases hp : parseL s with
  | none =>
    have HF := Lib.hid (show amayL s = false by unfold amayL; rw [hp]; rfl)
    have HP := Lib.hid hp
    clear hp
    go_enter Tryz.func47, Tryz.ntmps47
    go_wp2_with fail
    refine (rparse_any s _ hs).mono ?_
    rintro e w1 ⟨rfl, hb⟩
    rw [HP.out]
    have HB := Lib.hid hb
    clear hb
    unfold parseV
    go_wp2_with fail
    go_ret
    rw [HF.out]
    exact ⟨rfl, HB.out⟩
  | some p =>
    obtain ⟨a, d⟩ := p
    have HF := Lib.hid (show amayL s = true by unfold amayL; rw [hp]; rfl)
    have HP := Lib.hid hp
    clear hp
    go_enter Tryz.func47, Tryz.ntmps47
    go_wp2_with fail
    refine (rparse_any s _ hs).mono ?_
    rintro e w1 ⟨rfl, hb⟩
    rw [HP.out]
    have HB := Lib.hid hb
    clear hb
    unfold parseV
    go_wp2_with fail
    go_ret
    rw [HF.out]
    exact ⟨rfl, HB.out⟩

set_option maxHeartbeats 1000000 in
theorem runpath4_in (t s : List UInt8) (hst : s = 60 :: (t ++ [62])) (w : World) (hs : s.length ≤ 1000000) : Calls Tryz.prog 66 #[sv s] w fun e w' => e = .returned (unpathV (unpathL s)) ∧ Below w.heap.size w w' := by
  have HQ := Lib.hid (show unpathL s = if endL t then some t else none by rw [hst]; exact unpath_in t)
  have HSL := Lib.hid (show s.length = t.length + 2 by rw [hst]; simp)
  have h2 : 2 ≤ s.length := by have := HSL.out; omega
  have ht : t.length ≤ 1000000 := by have := HSL.out; omega
  have hz : s.length - 1 < s.length := by omega
  have has : (((str s)[0]'(by simp [ByteArray.size]; omega)).toNat) = 60 := by rw [str_getD s 0 (by omega), hst]; rfl
  have hzs : (((str s)[s.length - 1]'(by simpa [ByteArray.size] using hz)).toNat) = 62 := by rw [str_getD s _ hz, hst]; simp
  have hcut := run_slice_mid s t (show (str s).extract 1 (s.length - 1) = str t by rw [str_extract, hst]; simp) h2
  have HB0 := Lib.hid (Below.refl w.heap.size w)
  clear hst
  cases t with
  | nil =>
    have HF := Lib.hid (show unpathL s = some [] from HQ.out)
    have hl : (s.length : Int) ≤ 2 := by have := HSL.out; simp at this; omega
    clear HQ HSL
    go_enter Tryz.func66, Tryz.ntmps66
    go_wp2_with fail
    go_ret2
    rw [HF.out]
    exact ⟨rfl, HB0.out⟩
  | cons x u =>
    obtain ⟨t, ht'⟩ : ∃ t, t = x :: u := ⟨_, rfl⟩
    have HE := Lib.hid (show endL t = amayL t by rw [ht']; rfl)
    have hl : (2 : Int) < (s.length : Int) := by have := HSL.out; simp at this; omega
    rw [← ht'] at HQ ht hcut
    rw [HE.out] at HQ
    clear ht' HSL
    cases hm : amayL t with
    | true =>
      have HF := Lib.hid (show unpathL s = some t by rw [HQ.out, hm]; rfl)
      have HM := Lib.hid hm
      clear hm
      go_enter Tryz.func66, Tryz.ntmps66
      go_wp2_with fail
      refine (rmay4_any t _ ht).mono ?_
      rintro e w1 ⟨rfl, hb⟩
      rw [HM.out]
      have HB := Lib.hid hb
      clear hb
      go_wp2_with fail
      go_ret2
      rw [HF.out]
      exact ⟨rfl, HB.out⟩
    | false =>
      have HF := Lib.hid (show unpathL s = none by rw [HQ.out, hm]; rfl)
      have HM := Lib.hid hm
      clear hm
      go_enter Tryz.func66, Tryz.ntmps66
      go_wp2_with fail
      refine (rmay4_any t _ ht).mono ?_
      rintro e w1 ⟨rfl, hb⟩
      rw [HM.out]
      have HB := Lib.hid hb
      clear hb
      go_wp2_with fail
      go_ret2
      rw [HF.out]
      exact ⟨rfl, HB.out⟩

set_option maxHeartbeats 1000000 in
theorem runpath4_any (s : List UInt8) (w : World) (hs : s.length ≤ 1000000) : Calls Tryz.prog 66 #[sv s] w fun e w' => e = .returned (unpathV (unpathL s)) ∧ Below w.heap.size w w' := by
  have HB0 := Lib.hid (Below.refl w.heap.size w)
  by_cases h2 : s.length < 2
  · have HF := Lib.hid (show unpathL s = none by unfold unpathL; rw [decide_eq_false (by omega : ¬ 2 ≤ s.length)]; simp)
    go_enter Tryz.func66, Tryz.ntmps66
    go_wp2_with fail
    go_ret2
    rw [HF.out]
    exact ⟨rfl, HB0.out⟩
  have hsl : 2 ≤ s.length := by omega
  clear h2
  have hz : s.length - 1 < s.length := by omega
  obtain ⟨a, ha⟩ : ∃ a, (s.getD 0 0).toNat = a := ⟨_, rfl⟩
  have has : (((str s)[0]'(by simp [ByteArray.size]; omega)).toNat) = a := by rw [str_getD s 0 (by omega), ha]
  obtain ⟨z, hzz⟩ : ∃ z, (s.getD (s.length - 1) 0).toNat = z := ⟨_, rfl⟩
  have hzs : (((str s)[s.length - 1]'(by simpa [ByteArray.size] using hz)).toNat) = z := by rw [str_getD s _ hz, hzz]
  by_cases a60 : a = 60
  · by_cases z62 : z = 62
    · have e : ∃ t, s = 60 :: (t ++ [62]) := by
        rcases marks s 60 62 with ⟨h, _⟩ | ⟨t, rfl, _, h, _⟩ | ⟨t, rfl, _, _⟩
        · exfalso
          cases s with
          | nil => simp at hsl
          | cons x t => exact h (by simp only [List.head?_cons]; exact congrArg some (UInt8.toNat_inj.1 (by have : x.toNat = a := ha; rw [this, a60]; rfl)))
        · exfalso
          refine h ?_
          have ht : 0 < t.length := by simp at hsl; omega
          rw [List.getLast?_eq_getElem?, List.getElem?_eq_getElem (by omega)]
          refine congrArg some (UInt8.toNat_inj.1 ?_)
          rw [z62] at hzz
          rw [← getD_str t _ (by omega)]
          have e : (60 :: t).getD ((60 :: t).length - 1) 0 = t.getD (t.length - 1) 0 := by
            rw [List.length_cons, Nat.add_sub_cancel]
            conv => lhs; rw [show t.length = (t.length - 1) + 1 by omega]
            rfl
          rw [e] at hzz
          exact hzz
        · exact ⟨t, rfl⟩
      obtain ⟨t, e⟩ := e
      exact runpath4_in t s e w hs
    · have HF := Lib.hid (show unpathL s = none by
        have : (s.getLast? == some 62) = false := by
          rw [beq_eq_false_iff_ne, List.getLast?_eq_getElem?, List.getElem?_eq_getElem hz, ← getD_str s _ hz]
          intro e
          simp only [Option.some.injEq] at e
          rw [e] at hzz; exact z62 hzz.symm
        unfold unpathL; rw [this]; simp)
      have ea : ((a : Int) != 60) = false := by rw [a60]; rfl
      have ez : ((z : Int) != 62) = true := by rw [bne_iff_ne]; omega
      clear ha hzz a60 z62
      go_enter Tryz.func66, Tryz.ntmps66
      go_wp2_with fail
      go_ret2
      rw [HF.out]
      exact ⟨rfl, HB0.out⟩
  · have HF := Lib.hid (show unpathL s = none by
      refine unpath_no1 fun e => ?_
      cases s with
      | nil => simp at e
      | cons x t =>
        simp only [List.head?_cons, Option.some.injEq] at e
        rw [e] at ha; exact a60 ha.symm)
    have ea : ((a : Int) != 60) = true := by rw [bne_iff_ne]; omega
    clear ha hzz a60
    go_enter Tryz.func66, Tryz.ntmps66
    go_wp2_with fail
    go_ret2
    rw [HF.out]
    exact ⟨rfl, HB0.out⟩

theorem parse_eq {x a l d : List UInt8} {b : List UInt8} (hx : x = a ++ 64 :: b) (h : parseL x = some (l, d)) (hd : d = b) : l = a := by
  subst hx hd
  obtain ⟨y, h1, h2, h3, h4⟩ := parse_some.1 h
  have := (cutA_is (a := a) (may_no_at (fold_is h4))).symm.trans h1
  simp only [Option.some.injEq, Prod.mk.injEq] at this
  exact this.1.symm
set_option maxHeartbeats 1000000 in
theorem rsame4_any (a b : List UInt8) (w : World) (ha : a.length ≤ 1000000) (hb : b.length ≤ 1000000) : Calls Tryz.prog 50 #[sv a, sv b] w fun e w' => e = .returned (.bool (sameL a b)) ∧ Below w.heap.size w w' := by
  obtain ⟨r, hr⟩ : ∃ r, r = sameL a b := ⟨_, rfl⟩
  rw [← hr]
  unfold sameL at hr
  cases hp : parseL a with
  | none =>
    rw [hp] at hr
    obtain rfl : r = false := hr
    have HP := Lib.hid hp
    clear hp
    cases hq : parseL b with
    | none =>
      have HQ := Lib.hid hq
      clear hq
      go_enter Tryz.func50, Tryz.ntmps50
      go_wp2_with fail
      refine (rparse_any a _ ha).mono ?_
      rintro e w1 ⟨rfl, hb1⟩
      rw [HP.out]
      have HB := Lib.hid hb1
      clear hb1
      unfold parseV
      go_wp2_with fail
      refine (rparse_any b _ hb).mono ?_
      rintro e w1 ⟨rfl, hb1⟩
      rw [HQ.out]
      have HB2 := Lib.hid (HB.out.trans (hb1.mono HB.out.size))
      clear hb1
      unfold parseV
      go_wp2_with fail
      go_ret
      exact ⟨rfl, HB2.out⟩
    | some q =>
      obtain ⟨m, f⟩ := q
      have HQ := Lib.hid hq
      clear hq
      go_enter Tryz.func50, Tryz.ntmps50
      go_wp2_with fail
      refine (rparse_any a _ ha).mono ?_
      rintro e w1 ⟨rfl, hb1⟩
      rw [HP.out]
      have HB := Lib.hid hb1
      clear hb1
      unfold parseV
      go_wp2_with fail
      refine (rparse_any b _ hb).mono ?_
      rintro e w1 ⟨rfl, hb1⟩
      rw [HQ.out]
      have HB2 := Lib.hid (HB.out.trans (hb1.mono HB.out.size))
      clear hb1
      unfold parseV
      go_wp2_with fail
      go_ret
      exact ⟨rfl, HB2.out⟩
  | some p =>
    obtain ⟨l, d⟩ := p
    rw [hp] at hr
    have HP := Lib.hid hp
    clear hp
    cases hq : parseL b with
    | none =>
      rw [hq] at hr
      obtain rfl : r = false := hr
      have HQ := Lib.hid hq
      clear hq
      go_enter Tryz.func50, Tryz.ntmps50
      go_wp2_with fail
      refine (rparse_any a _ ha).mono ?_
      rintro e w1 ⟨rfl, hb1⟩
      rw [HP.out]
      have HB := Lib.hid hb1
      clear hb1
      unfold parseV
      go_wp2_with fail
      refine (rparse_any b _ hb).mono ?_
      rintro e w1 ⟨rfl, hb1⟩
      rw [HQ.out]
      have HB2 := Lib.hid (HB.out.trans (hb1.mono HB.out.size))
      clear hb1
      unfold parseV
      go_wp2_with fail
      go_ret
      exact ⟨rfl, HB2.out⟩
    | some q =>
      obtain ⟨m, f⟩ := q
      rw [hq] at hr
      have HQ := Lib.hid hq
      clear hq
      obtain ⟨x, hx⟩ : ∃ x, (l == m) = x := ⟨_, rfl⟩
      obtain ⟨y, hy⟩ : ∃ y, (d == f) = y := ⟨_, rfl⟩
      obtain rfl : r = (x && y) := by
        rw [hr, ← hx, ← hy, Bool.eq_iff_iff]
        simp
      clear hr
      cases x
      all_goals
        go_enter Tryz.func50, Tryz.ntmps50
        go_wp2_with fail
        refine (rparse_any a _ ha).mono ?_
        rintro e w1 ⟨rfl, hb1⟩
        rw [HP.out]
        have HB := Lib.hid hb1
        clear hb1
        unfold parseV
        go_wp2_with fail
        refine (rparse_any b _ hb).mono ?_
        rintro e w1 ⟨rfl, hb1⟩
        rw [HQ.out]
        have HB2 := Lib.hid (HB.out.trans (hb1.mono HB.out.size))
        clear hb1
        unfold parseV
        go_wp2_with fail
        go_ret
        exact ⟨rfl, HB2.out⟩
end Go.Proofs.YtbmjmiioobgbfaaGreatDoor
