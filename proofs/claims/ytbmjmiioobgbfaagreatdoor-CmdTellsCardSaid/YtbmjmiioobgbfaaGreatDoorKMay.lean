/-
  Contracts of package cmd's areParams, May.
-/
import Derived.Test.YtbmjmiioobgbfaaGreatDoorKParam
import Derived.Test.YtbmjmiioobgbfaaGreatDoorAMay
namespace Go.Proofs.YtbmjmiioobgbfaaGreatDoor
open Go Go.RowKit Go.Shelf
set_option maxRecDepth 100000
set_option linter.unusedSimpArgs false
set_option linter.unusedVariables false

set_option maxHeartbeats 2000000 in
theorem areParams_any (ps : List PM) (u : Value) (w : World) (hu : PR w u ps) (hl : ps.length ≤ 1000000) (hx : ∀ p ∈ ps, p.1.length ≤ 1000000 ∧ p.2.length ≤ 1000000) :
    Calls Tryz.prog 56 #[u] w fun e w' => e = .returned (.bool (psL ps)) ∧ Below w.heap.size w w' := by
  have HU := Lib.hid hu
  obtain ⟨A, c, rfl⟩ := hu.form
  have HX := Lib.hid hx
  clear hu hx
  by_cases h8 : 8 < ps.length
  · have HF := Lib.hid (psL_long h8)
    go_enter Tryz.func56, Tryz.ntmps56
    go_wp2_with fail
    go_ret
    rw [HF.out]
    exact ⟨rfl, Below.refl _ _⟩
  · have h8' : ps.length ≤ 8 := by omega
    clear h8
    go_enter Tryz.func56, Tryz.ntmps56
    go_wp2_with fail
    go_loopw [3, 4, 10] (fun _ _ i wr => ∃ k : Nat, k ≤ ps.length ∧ i = .int .i64 k ∧ okUpto ps k ∧ Below w.heap.size w wr) (fun _ _ i _ => ps.length - (intOf i).toNat)
    case atStart => exact ⟨0, Nat.zero_le _, rfl, fun j hj => absurd hj (by omega), Below.refl _ _⟩
    case round =>
      obtain ⟨k, hk, rfl, ho, hb⟩ := hrel
      have HB := Lib.hid hb
      have HO := Lib.hid ho
      clear hb ho
      by_cases hlt : k < ps.length
      · obtain ⟨g, off, rfl, hgl, q0, q1⟩ := PR.at (HU.out.step HB.out) hlt
        obtain ⟨p, hp⟩ : ∃ p, p = ps.getD k pm0 := ⟨_, rfl⟩
        have hpl := HX.out p (by rw [hp]; exact pm_mem hlt)
        rw [← hp] at q0 q1
        obtain ⟨n, v⟩ := p
        dsimp only at q0 q1 hpl
        obtain ⟨hpn, hpv⟩ := hpl
        have HP := Lib.hid hp
        clear hp
        have HB1 := Lib.hid (HB.out.trans ((below_alloc wr (.cells #[sv n, sv v] 38)).mono HB.out.size))
        obtain ⟨a, ha⟩ : ∃ a, a = pL (n, v) := ⟨_, rfl⟩
        have HA := Lib.hid ha
        clear ha
        cases a with
        | false =>
          have HF := Lib.hid (psL_bad hlt (by rw [← HP.out, ← HA.out]))
          go_wp2_with fail
          refine (isParam_any (n, v) _ hpn hpv).mono ?_
          rintro e w1 ⟨rfl, hb1⟩
          rw [← HA.out]
          have HB2 := Lib.hid (HB1.out.trans (hb1.mono HB1.out.size))
          clear hb1
          go_wp2_with fail
          go_ret
          rw [HF.out]
          exact ⟨rfl, HB2.out⟩
        | true =>
          obtain ⟨r, hr⟩ : ∃ r, r = findP ps n := ⟨_, rfl⟩
          have HR := Lib.hid hr
          have hrr : -1 ≤ r ∧ r < ps.length := by rw [hr]; exact findP_range _ _
          clear hr
          obtain ⟨r1, r2⟩ := hrr
          by_cases he : r = (k : Int)
          · have HN := Lib.hid (okUpto_next HO.out (by rw [← HP.out, ← HA.out]) (by rw [← HP.out, ← HR.out, he]))
            have e1 : (r != (k : Int)) = false := by rw [he]; simp
            clear he
            go_wp2_with fail
            refine (isParam_any (n, v) _ hpn hpv).mono ?_
            rintro e w1 ⟨rfl, hb1⟩
            rw [← HA.out]
            have hkk : w1.heap[wr.heap.size]? = some (.cells #[sv n, sv v] 38 (0, 0)) := (hb1.block _ (by simp)).trans (heap_alloc_new wr _)
            have k0 : w1.cell? ⟨wr.heap.size, 0, none⟩ = some (sv n) := by rw [cellAt hkk]; rfl
            have HB2 := Lib.hid (HB1.out.trans (hb1.mono HB1.out.size))
            clear hb1 hkk
            go_wp2_with fail
            refine (find_any ps _ n w1 (HU.out.step HB2.out) hl).mono ?_
            rintro e w2 ⟨rfl, hb1⟩
            rw [← HR.out]
            have HB3 := Lib.hid (HB2.out.trans (hb1.mono HB2.out.size))
            clear hb1
            go_wp2
            go_roundw
            case rel => exact ⟨k + 1, by omega, by go_num, HN.out, HB3.out⟩
            case measure => simp [intOf]; omega
          · have HF := Lib.hid (psL_twice hlt (by rw [← HP.out, ← HR.out]; exact he))
            have e1 : (r != (k : Int)) = true := by simpa using he
            clear he
            go_wp2_with fail
            refine (isParam_any (n, v) _ hpn hpv).mono ?_
            rintro e w1 ⟨rfl, hb1⟩
            rw [← HA.out]
            have hkk : w1.heap[wr.heap.size]? = some (.cells #[sv n, sv v] 38 (0, 0)) := (hb1.block _ (by simp)).trans (heap_alloc_new wr _)
            have k0 : w1.cell? ⟨wr.heap.size, 0, none⟩ = some (sv n) := by rw [cellAt hkk]; rfl
            have HB2 := Lib.hid (HB1.out.trans (hb1.mono HB1.out.size))
            clear hb1 hkk
            go_wp2_with fail
            refine (find_any ps _ n w1 (HU.out.step HB2.out) hl).mono ?_
            rintro e w2 ⟨rfl, hb1⟩
            rw [← HR.out]
            have HB3 := Lib.hid (HB2.out.trans (hb1.mono HB2.out.size))
            clear hb1
            go_wp2
            go_ret
            rw [HF.out]
            exact ⟨rfl, HB3.out⟩
      · obtain rfl : k = ps.length := by omega
        have HF := Lib.hid (psL_yes h8' HO.out)
        go_wp2
        go_ret
        rw [HF.out]
        exact ⟨rfl, HB.out⟩

theorem verb_cases {v : Nat} (h : v < 256) : v = 1 ∨ v = 2 ∨ v = 3 ∨ v = 4 ∨ v = 5 ∨ v = 6 ∨ (v < 1 ∨ 6 < v) := by omega
theorem mayK_none {v : Nat} {a : List UInt8} {ps : List PM} (h : v < 1 ∨ 6 < v) : mayK ⟨v, a, ps⟩ = false := by
  cases e : mayK ⟨v, a, ps⟩ with
  | false => rfl
  | true => have := may_verb e; dsimp only at this; omega
theorem len_empty {α : Type} (l : List α) : ((l.length : Int) == 0) = l.isEmpty := by
  cases l with
  | nil => rfl
  | cons x t =>
    rw [List.isEmpty_cons, beq_eq_false_iff_ne, List.length_cons]
    omega

set_option maxHeartbeats 4000000 in
theorem mayK_any (c : Cm) (u : Value) (w : World) (hu : PR w u c.ps) (hv : c.verb < 256) (ha : c.arg.length ≤ 1000000) (hl : c.ps.length ≤ 1000000) (hx : ∀ p ∈ c.ps, p.1.length ≤ 1000000 ∧ p.2.length ≤ 1000000) (hM : ML w) :
    Calls Tryz.prog 21 #[cmV c u] w fun e w' => e = .returned (.bool (mayK c)) ∧ Below w.heap.size w w' := by
  obtain ⟨v, a, ps⟩ := c
  dsimp only at hu hv ha hl hx ⊢
  have HU := Lib.hid hu
  have HX := Lib.hid hx
  have HM := Lib.hid hM
  obtain ⟨A, cc, rfl⟩ := hu.form
  clear hu hx hM
  obtain ⟨sl, hsl⟩ : ∃ sl, sl = Value.slice A ps.length cc := ⟨_, rfl⟩
  have HB0 := Lib.hid (below_alloc w (.cells #[.int .u8 (v : Int), sv a, Value.slice A ps.length cc] 41))
  have HNB := Lib.hid (heap_alloc_new w (.cells #[.int .u8 (v : Int), sv a, Value.slice A ps.length cc] 41))
  have hle := len_empty ps
  clear hsl sl
  rcases verb_cases hv with rfl | rfl | rfl | rfl | rfl | rfl | h
  · have HF := Lib.hid (show mayK ⟨1, a, ps⟩ = (mayL a && ps.isEmpty) from rfl)
    obtain ⟨m, hm⟩ : ∃ m, m = mayL a := ⟨_, rfl⟩
    rw [← hm] at HF
    have HMM := Lib.hid hm
    clear hm
    cases m with
    | false =>
      go_enter Tryz.func21, Tryz.ntmps21
      go_wp2_with fail
      refine (may_any a _ ha (HM.out.step HB0.out)).mono ?_
      rintro e w1 ⟨rfl, hb1⟩
      rw [← HMM.out]
      have HB1 := Lib.hid (HB0.out.trans (hb1.mono HB0.out.size))
      clear hb1
      go_wp2
      go_ret
      rw [HF.out]
      exact ⟨rfl, HB1.out⟩
    | true =>
      go_enter Tryz.func21, Tryz.ntmps21
      go_wp2_with fail
      refine (may_any a _ ha (HM.out.step HB0.out)).mono ?_
      rintro e w1 ⟨rfl, hb1⟩
      rw [← HMM.out]
      have hk := blk_below HNB.out hb1
      have k2 : w1.cell? ⟨w.heap.size, 2, none⟩ = some (.slice A ps.length cc) := by rw [cellAt hk]; rfl
      have HB1 := Lib.hid (HB0.out.trans (hb1.mono HB0.out.size))
      clear hb1 hk
      go_wp2
      go_ret
      rw [HF.out]
      exact ⟨by simp [hle], HB1.out⟩
  · have HF := Lib.hid (show mayK ⟨2, a, ps⟩ = (a.isEmpty && ps.isEmpty) from rfl)
    obtain ⟨m, hm⟩ : ∃ m, m = a.isEmpty := ⟨_, rfl⟩
    rw [← hm] at HF
    have hm' := hm.symm
    clear hm
    cases m with
    | false =>
      go_enter Tryz.func21, Tryz.ntmps21
      go_wp2
      go_ret
      rw [HF.out]
      exact ⟨rfl, HB0.out⟩
    | true =>
      go_enter Tryz.func21, Tryz.ntmps21
      go_wp2
      go_ret
      rw [HF.out]
      exact ⟨by simp [hle], HB0.out⟩
  · have HF := Lib.hid (show mayK ⟨3, a, ps⟩ = ((a.isEmpty || amayL a) && psL ps) from rfl)
    obtain ⟨m, hm⟩ : ∃ m, m = a.isEmpty := ⟨_, rfl⟩
    rw [← hm] at HF
    have hm' := hm.symm
    clear hm
    cases m with
    | true =>
      go_enter Tryz.func21, Tryz.ntmps21
      go_wp2_with fail
      refine (areParams_any ps _ _ (HU.out.step HB0.out) hl HX.out).mono ?_
      rintro e w2 ⟨rfl, hb1⟩
      have HB2 := Lib.hid (HB0.out.trans (hb1.mono HB0.out.size))
      clear hb1
      go_wp2
      go_ret
      rw [HF.out]
      exact ⟨by simp, HB2.out⟩
    | false =>
      obtain ⟨m, hm⟩ : ∃ m, m = amayL a := ⟨_, rfl⟩
      rw [← hm] at HF
      have HMM := Lib.hid hm
      clear hm
      cases m with
      | false =>
        go_enter Tryz.func21, Tryz.ntmps21
        go_wp2_with fail
        refine (may_amay a _ ha (HM.out.step HB0.out)).mono ?_
        rintro e w1 ⟨rfl, hb1⟩
        rw [← HMM.out]
        have HB1 := Lib.hid (HB0.out.trans (hb1.mono HB0.out.size))
        clear hb1
        go_wp2
        go_ret
        rw [HF.out]
        exact ⟨rfl, HB1.out⟩
      | true =>
        go_enter Tryz.func21, Tryz.ntmps21
        go_wp2_with fail
        refine (may_amay a _ ha (HM.out.step HB0.out)).mono ?_
        rintro e w1 ⟨rfl, hb1⟩
        rw [← HMM.out]
        have hk := blk_below HNB.out hb1
        have k2 : w1.cell? ⟨w.heap.size, 2, none⟩ = some (.slice A ps.length cc) := by rw [cellAt hk]; rfl
        have HB1 := Lib.hid (HB0.out.trans (hb1.mono HB0.out.size))
        clear hb1 hk
        go_wp2_with fail
        refine (areParams_any ps _ _ (HU.out.step HB1.out) hl HX.out).mono ?_
        rintro e w2 ⟨rfl, hb1⟩
        have HB2 := Lib.hid (HB1.out.trans (hb1.mono HB1.out.size))
        clear hb1
        go_wp2
        go_ret
        rw [HF.out]
        exact ⟨by simp, HB2.out⟩
  · have HF := Lib.hid (show mayK ⟨4, a, ps⟩ = (amayL a && psL ps) from rfl)
    obtain ⟨m, hm⟩ : ∃ m, m = amayL a := ⟨_, rfl⟩
    rw [← hm] at HF
    have HMM := Lib.hid hm
    clear hm
    cases m with
    | false =>
      go_enter Tryz.func21, Tryz.ntmps21
      go_wp2_with fail
      refine (may_amay a _ ha (HM.out.step HB0.out)).mono ?_
      rintro e w1 ⟨rfl, hb1⟩
      rw [← HMM.out]
      have HB1 := Lib.hid (HB0.out.trans (hb1.mono HB0.out.size))
      clear hb1
      go_wp2
      go_ret
      rw [HF.out]
      exact ⟨rfl, HB1.out⟩
    | true =>
      go_enter Tryz.func21, Tryz.ntmps21
      go_wp2_with fail
      refine (may_amay a _ ha (HM.out.step HB0.out)).mono ?_
      rintro e w1 ⟨rfl, hb1⟩
      rw [← HMM.out]
      have hk := blk_below HNB.out hb1
      have k2 : w1.cell? ⟨w.heap.size, 2, none⟩ = some (.slice A ps.length cc) := by rw [cellAt hk]; rfl
      have HB1 := Lib.hid (HB0.out.trans (hb1.mono HB0.out.size))
      clear hb1 hk
      go_wp2_with fail
      refine (areParams_any ps _ _ (HU.out.step HB1.out) hl HX.out).mono ?_
      rintro e w2 ⟨rfl, hb1⟩
      have HB2 := Lib.hid (HB1.out.trans (hb1.mono HB1.out.size))
      clear hb1
      go_wp2
      go_ret
      rw [HF.out]
      exact ⟨by simp, HB2.out⟩
  · have HF := Lib.hid (show mayK ⟨5, a, ps⟩ = (a.isEmpty && ps.isEmpty) from rfl)
    obtain ⟨m, hm⟩ : ∃ m, m = a.isEmpty := ⟨_, rfl⟩
    rw [← hm] at HF
    have hm' := hm.symm
    clear hm
    cases m with
    | false =>
      go_enter Tryz.func21, Tryz.ntmps21
      go_wp2
      go_ret
      rw [HF.out]
      exact ⟨rfl, HB0.out⟩
    | true =>
      go_enter Tryz.func21, Tryz.ntmps21
      go_wp2
      go_ret
      rw [HF.out]
      exact ⟨by simp [hle], HB0.out⟩
  · have HF := Lib.hid (show mayK ⟨6, a, ps⟩ = (a.isEmpty && ps.isEmpty) from rfl)
    obtain ⟨m, hm⟩ : ∃ m, m = a.isEmpty := ⟨_, rfl⟩
    rw [← hm] at HF
    have hm' := hm.symm
    clear hm
    cases m with
    | false =>
      go_enter Tryz.func21, Tryz.ntmps21
      go_wp2
      go_ret
      rw [HF.out]
      exact ⟨rfl, HB0.out⟩
    | true =>
      go_enter Tryz.func21, Tryz.ntmps21
      go_wp2
      go_ret
      rw [HF.out]
      exact ⟨by simp [hle], HB0.out⟩
  · have HF := Lib.hid (mayK_none (a := a) (ps := ps) h)
    have t1 : ((v : Int) == 1) = false := by rw [beq_eq_false_iff_ne]; omega
    have t2 : ((v : Int) == 2) = false := by rw [beq_eq_false_iff_ne]; omega
    have t3 : ((v : Int) == 3) = false := by rw [beq_eq_false_iff_ne]; omega
    have t4 : ((v : Int) == 4) = false := by rw [beq_eq_false_iff_ne]; omega
    have t5 : ((v : Int) == 5) = false := by rw [beq_eq_false_iff_ne]; omega
    have t6 : ((v : Int) == 6) = false := by rw [beq_eq_false_iff_ne]; omega
    clear h hv
    go_enter Tryz.func21, Tryz.ntmps21
    go_wp2
    go_ret
    rw [HF.out]
    exact ⟨rfl, HB0.out⟩
end Go.Proofs.YtbmjmiioobgbfaaGreatDoor
