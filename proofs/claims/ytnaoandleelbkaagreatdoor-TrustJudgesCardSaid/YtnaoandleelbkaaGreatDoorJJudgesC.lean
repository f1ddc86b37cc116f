/-
  TrustJudges, walked.
-/
import Derived.Test.YtnaoandleelbkaaGreatDoorJJudP
namespace Go.Proofs.YtnaoandleelbkaaGreatDoor
set_option linter.unusedSimpArgs false
set_option linter.unusedVariables false
open Go Go.RowKit
set_option maxRecDepth 100000

theorem nvOf_form (ps : List Cn) (k : Nat) : nvOf ps k = .slice (ps.getD k cn0).2.1 (ps.getD k cn0).1.names.length (ps.getD k cn0).2.2 := rfl
theorem ctAt_map {ps : List Cn} {k : Nat} (hk : k < ps.length) : ctAt (ps.map (·.1)) k = (ps.getD k cn0).1 := by
  unfold ctAt
  rw [List.getD_eq_getElem?_getD, List.getD_eq_getElem?_getD, List.getElem?_map, List.getElem?_eq_getElem hk]; rfl
/-- A certificate of the row, and its names. -/
theorem Sp.at {w W : World} {g cap : Nat} {ps : List Cn} (h : Sp w (some ⟨g, 0, none⟩) cap W ps) {k : Nat} (hk : k < ps.length) {x : Cn} (hx : ps.getD k cn0 = x) :
    CC W g (0 + k * 6) x.1 (.slice x.2.1 x.1.names.length x.2.2) ∧ SX W (.slice x.2.1 x.1.names.length x.2.2) x.1.names := by
  have := h.cr.cc (k := k) (by rw [List.length_map]; exact hk)
  rw [ctAt_map hk, nvOf_form, hx] at this
  exact this
theorem Sp.at2 {w W : World} {g cap : Nat} {ps : List Cn} (h : Sp w (some ⟨g, 0, none⟩) cap W ps) {k : Nat} (hk : k < ps.length) : W.cell? ⟨g, k * 6 + 2, none⟩ = some (.slice (ps.getD k cn0).2.1 (ps.getD k cn0).1.names.length (ps.getD k cn0).2.2) := by
  have := (h.at hk rfl).1.c2
  rw [Nat.zero_add] at this
  exact this
theorem Sp.len {w W : World} {A : Option Addr} {cap : Nat} {ps : List Cn} (h : Sp w A cap W ps) : ps.length ≤ cap := by
  obtain ⟨A', c', e, hc⟩ := h.co.form
  simp only [Value.slice.injEq, true_and] at e
  omega
/-- The names' row of one that has names: its block. -/
theorem Sp.names {w W : World} {A : Option Addr} {cap : Nat} {ps : List Cn} (h : Sp w A cap W ps) {k : Nat} (hk : k < ps.length) (hn : 0 < (ps.getD k cn0).1.names.length) : ∃ b c, (ps.getD k cn0).2 = (some ⟨b, 0, none⟩, c) ∧ (ps.getD k cn0).1.names.length ≤ c ∧ ∀ j, W.frozen? ⟨b, j, none⟩ = false := by
  have hT := h.no _ (getD_memC hk)
  rcases hT.2 with ⟨e, h0⟩ | ⟨b, c, cur, e, _, hb, hle, _⟩
  · omega
  · rcases hp : (ps.getD k cn0).2 with ⟨A1, c1⟩
    unfold nvC at e
    rw [hp] at e
    simp only [Value.slice.injEq, true_and] at e
    obtain ⟨rfl, rfl⟩ := e
    exact ⟨b, _, rfl, hle, fun j => frozen_of_row W b j cur _ hb⟩
theorem Sp.first {w W : World} {A : Option Addr} {cap : Nat} {ps : List Cn} (h : Sp w A cap W ps) (hb : Below w.heap.size w W) {P : World → Prop} (hP : Ca P) (h0 : P w) : P W := hP.step h0 h.bw

set_option maxHeartbeats 16000000 in
theorem trustJudges_walk {w : World} (chain : List (List UInt8)) (A : Option Addr) (cp : Nat) (hi : TI w A chain cp) (host : List UInt8) (hh : host.length ≤ 140737488351232) {now : Int} (_ : -9223372036854775808 ≤ now ∧ now ≤ 9223372036854775807)
    (an : List (List UInt8)) (B : Option Addr) (bc : Nat) (hj : TI w B an bc) (hgl : GL w) (hlw : LWc w) :
    Calls Tryz.prog 6 #[.slice A chain.length cp, sv host, .int .i64 now, .slice B an.length bc] w fun e w' => e = .returned (.bool true) ∧ Below w.heap.size w w' := by
  have hz := str_size host
  obtain ⟨P0, hPe⟩ : ∃ P : World → Prop, P = fun W => Ga w W ∧ (SX W (.slice A chain.length cp) chain ∧ SX W (.slice B an.length bc) an) := ⟨_, rfl⟩
  have HP0 := Lib.hid (show Ca P0 by rw [hPe]; exact Ca.mk0.and (fun h hb => ⟨h.1.step hb, h.2.step hb⟩))
  have H0 := Lib.hid (show P0 w by rw [hPe]; exact ⟨Ga.start ⟨hgl, hlw⟩, hi.sx, hj.sx⟩)
  have HB0 := Lib.hid (show ∀ W, P0 W → Below w.heap.size w W by rw [hPe]; exact fun W h => h.1.1)
  have HC0 := Lib.hid (show ∀ W, P0 W → SX W (.slice A chain.length cp) chain by rw [hPe]; exact fun W h => h.2.1)
  have HA0 := Lib.hid (show ∀ W, P0 W → SX W (.slice B an.length bc) an by rw [hPe]; exact fun W h => h.2.2)
  have HL1 := Lib.hid (fun W (h : P0 W) => jlong_p h (HC0.out W h) hi.len hi.each)
  have HL2 := Lib.hid (fun W (h : P0 W) => jlong_p h (HA0.out W h) hj.len hj.each)
  have HAW := Lib.hid (fun W (h : P0 W) => jawake_p HP0.out h)
  have HCP := Lib.hid hi.cap
  obtain ⟨n1, hn1⟩ : ∃ n, n = chain.length := ⟨_, rfl⟩
  have HN1 := Lib.hid hn1
  clear hPe hi hj hgl hlw
  by_cases hl : 3000 < host.length
  · have hl' : (3000 : Int) < (host.length : Int) := by omega
    go_enter Tryz.func6, Tryz.ntmps6
    go_wp2_with (first
      | (go_at_call 31; refine (HAW.out _ (by assumption)).mono ?_; rintro e w3 ⟨rfl, h3⟩)
      | (go_at_call 40; with_reducible refine (HL1.out _ H0.out).mono ?_; rintro e w1 ⟨hb1, h1⟩; have H1 := Lib.hid h1; rcases hb1 with ⟨rfl, f1⟩ | rfl)
      | (go_at_call 40; with_reducible refine (HL2.out _ H1.out).mono ?_; rintro e w2 ⟨hb2, h2⟩; have H2 := Lib.hid h2; rcases hb2 with ⟨rfl, f2⟩ | rfl))
    all_goals (go_ret; exact ⟨rfl, HB0.out _ h3⟩)
  have hl' : ¬ (3000 : Int) < (host.length : Int) := by omega
  have hl3 : host.length ≤ 3000 := by omega
  have HH3 := Lib.hid hl3
  obtain ⟨l, hle⟩ : ∃ l, l = chainT chain := ⟨_, rfl⟩
  have HSH := Lib.hid (show shortR l by rw [hle]; exact chainT_short chain)
  have HL4 := Lib.hid (show l.length ≤ 4 by rw [hle]; exact chainT_len chain)
  obtain ⟨n, hn⟩ : ∃ n, n = l.length := ⟨_, rfl⟩
  have HN := Lib.hid hn
  have HRR := Lib.hid (fun (P : World → Prop) (hP : Ca P) W (h : P W) (h0 : SX W (.slice A chain.length cp) chain) (f1 : few5 chain) => rread_p hP h h0 f1)
  have HLE := Lib.hid hle
  rw [← hle, ← hn] at HRR
  rw [← hn1] at HRR HL1 ⊢
  clear hn1 hle hn hl hl3
  go_enter Tryz.func6, Tryz.ntmps6
  go_wp2_with (first
    | (go_at_call 31; refine (HAW.out _ (by assumption)).mono ?_; rintro e w3 ⟨rfl, h3⟩)
    | (go_at_call 41; (with_reducible refine (HRR.out _ HP1.out _ H4.out HC4.out F1.out).mono ?_); rintro e w5 ⟨A5, c5, nv5, rfl, hc5, hcr5, h5⟩; have H5 := Lib.hid h5; have HC5 := Lib.hid hc5; have HR5 := Lib.hid hcr5; clear h5 hc5 hcr5)
    | (at_builtin; refine stepApp rfl _ _ 25 rfl rfl rfl HRUN.out ?_)
    | (go_at_call 40; with_reducible refine (HL1.out _ H0.out).mono ?_; rintro e w1 ⟨hb1, h1⟩; have H1 := Lib.hid h1; clear h1; rcases hb1 with ⟨rfl, f1⟩ | rfl)
    | (go_at_call 40; with_reducible refine (HL2.out _ H1.out).mono ?_; rintro e w2 ⟨hb2, h2⟩; have H2 := Lib.hid h2; clear h2; rcases hb2 with ⟨rfl, f2⟩ | rfl; have F1 := Lib.hid f1; have F2 := Lib.hid f2; clear f1 f2; obtain ⟨A3, cp3, w4, hrun, h4, hsx4, hcp4⟩ := own2_p HP0.out H2.out (HC0.out _ H2.out) F1.out.len; rw [← HN1.out] at hrun; have HRUN := Lib.hid hrun; have H4 := Lib.hid (show P0 w4 ∧ SX w4 (.slice A3 chain.length cp3) chain from ⟨h4, hsx4⟩); have HCP3 := Lib.hid hcp4; have HP1 := Lib.hid (HP0.out.and (Q := fun W => SX W (.slice A3 chain.length cp3) chain) (fun h hb => h.step hb)); have HC4 := Lib.hid (show SX w4 (.slice A n1 cp) chain by rw [HN1.out]; exact HC0.out _ h4); clear hrun h4 hsx4 hcp4))
  · obtain ⟨P, hPd⟩ : ∃ P : World → Prop, P = fun W => (P0 W ∧ SX W (.slice A3 chain.length cp3) chain) ∧ CR W A5 l nv5 := ⟨_, rfl⟩
    have HP := Lib.hid (show Ca P by rw [hPd]; exact HP1.out.and (fun h hb => h.step hb))
    have HS := Lib.hid (show P w5 by rw [hPd]; exact ⟨H5.out, HR5.out⟩)
    have HPB := Lib.hid (show ∀ W, P W → Below w.heap.size w W by rw [hPd]; exact fun W h => HB0.out W h.1.1)
    have HXw := Lib.hid (show ∀ W, P W → CR W A5 l nv5 by rw [hPd]; exact fun W h => h.2)
    have HXo := Lib.hid (show ∀ W, P W → SX W (.slice A3 chain.length cp3) chain by rw [hPd]; exact fun W h => h.1.2)
    have HXc := Lib.hid (show ∀ W, P W → SX W (.slice A chain.length cp) chain by rw [hPd]; exact fun W h => HC0.out W h.1.1)
    have HXa := Lib.hid (show ∀ W, P W → SX W (.slice B an.length bc) an by rw [hPd]; exact fun W h => HA0.out W h.1.1)
    have hal : an.length ≤ 1000000 := by have := F2.out.len; omega
    have hcl : chain.length ≤ 1000000 := by have := F1.out.len; omega
    have HTR := Lib.hid (fun W (h : P W) => tread_p HP.out h (HXo.out W h) F1.out HCP3.out)
    have HJ := Lib.hid (fun W (h : P W) => judge_p HP.out h now (HXo.out W h) F1.out HCP3.out HH3.out (HXa.out W h) hal)
    have HRJ := Lib.hid (fun W (h : P W) => rjudge_p HP.out h now (HXc.out W h) F1.out HCP.out HH3.out (HXa.out W h) hal)
    have HSA := Lib.hid (fun W (h : P W) => same_p HP.out h (HXo.out W h) (HXc.out W h) hcl)
    have HAK := Lib.hid (fun W (h : P W) => jawake_p HP.out h)
    obtain ⟨z, hz2⟩ : ∃ z, z = judgeN chain host now an := ⟨_, rfl⟩
    rw [← HLE.out, ← HN1.out] at HTR
    rw [← HN1.out, ← hz2] at HJ HRJ
    rw [← HN1.out] at HSA
    clear hPd hz2 H1 H2 F1 F2 H4 H5 HR5 HP1 HC4 HRUN HRR HL1 HL2 H0 HP0 HB0 HC0 HA0 HAW HXo HXc HXa hal hcl HCP HCP3
    go_loopw [11] (fun i wr => ∃ k : Nat, k ≤ 2 ∧ i = .int .i64 (k : Int) ∧ P wr) (fun i _ => 2 - (intOf i).toNat)
    case atStart => exact ⟨0, by omega, rfl, HS.out⟩
    case round =>
      clear HS
      obtain ⟨k, hk, rfl, hp⟩ := hrel
      obtain ⟨wo, rfl⟩ : ∃ wo : World, wo = wr := ⟨_, rfl⟩
      have HPW := Lib.hid hp
      clear hp
      by_cases hlt : k < 2
      · have hlt' : (k : Int) < 2 := by omega
        go_wp2_with (go_at_call 35; (with_reducible refine (HTR.out _ HPW.out).mono ?_); rintro e w1 ⟨A1, c1, ps, rfl, hm, hsp, hp1⟩; have hpl : ps.length = n := (by rw [HN.out, ← hm, List.length_map]); rw [hpl]; have HSP := Lib.hid hsp; have HM := Lib.hid hm; have HPL := Lib.hid hpl; clear hsp hm hp1 hpl)
        go_loopw [13] (fun i wr2 => ∃ (q : Nat) (ps' : List Cn), q ≤ n ∧ i = .int .i64 (q : Int) ∧ ps'.length = n ∧ (∀ j, q ≤ j → ps'.getD j cn0 = ps.getD j cn0) ∧ Sp wo A1 c1 wr2 ps') (fun i _ => n - (intOf i).toNat)
        case atStart => exact ⟨0, ps, Nat.zero_le _, rfl, HPL.out, fun _ _ => rfl, HSP.out⟩
        case round =>
          obtain ⟨q, ps', hq, rfl, hpl', hsame, hsp⟩ := hrel
          obtain ⟨w2, rfl⟩ : ∃ w2 : World, w2 = wr := ⟨_, rfl⟩
          have HPL' := Lib.hid hpl'
          have HSM0 := Lib.hid hsame
          have HS2 := Lib.hid hsp
          clear hpl' hsame hsp HSP
          by_cases hqn : q < n
          · have hqn' : (q : Int) < (n : Int) := by omega
            have hn4 : n ≤ 4 := by rw [HN.out]; exact HL4.out
            have hqp : q < ps'.length := by rw [HPL'.out]; exact hqn
            have hql : q < l.length := by rw [← HN.out]; exact hqn
            obtain ⟨g, hA1, _⟩ := HS2.out.addr (by omega)
            subst hA1
            have hPw2 : P w2 := HP.out.step HPW.out HS2.out.bw
            obtain ⟨g5, off5, hA5, _⟩ := (HXw.out _ hPw2).at hql
            subst hA5
            obtain ⟨a2, k2, e2⟩ := ((HXw.out _ hPw2).sx hql).form
            have hxq : ps'.getD q cn0 = ps.getD q cn0 := HSM0.out q (Nat.le_refl _)
            have hx1 : (ps'.getD q cn0).1 = ctAt l q := by rw [hxq, ← HM.out, ctAt_map (by rw [HPL.out]; exact hqn)]
            have R1 := Lib.hid (fun W (h : Sp wo (some ⟨g, 0, none⟩) c1 W ps') => (h.at hqp rfl).1.range)
            have S1 := Lib.hid (fun W (h : Sp wo (some ⟨g, 0, none⟩) c1 W ps') => (h.at hqp rfl).2)
            have R2 := Lib.hid (fun W (h : Sp wo (some ⟨g, 0, none⟩) c1 W ps') => ((HXw.out W (HP.out.step HPW.out h.bw)).cc hql).1.range)
            have S2 := Lib.hid (fun W (h : Sp wo (some ⟨g, 0, none⟩) c1 W ps') => (HXw.out W (HP.out.step HPW.out h.bw)).sx hql)
            rw [e2] at R2 S2
            rw [hx1, Nat.zero_add] at R1
            rw [hx1] at S1
            have hshc := HSH.out.at hql
            obtain ⟨⟨a1, k1⟩, hx2⟩ : ∃ y : Option Addr × Nat, (ps'.getD q cn0).2 = y := ⟨_, rfl⟩
            rw [hx2] at R1 S1
            obtain ⟨c, hc⟩ : ∃ c, c = ctAt l q := ⟨_, rfl⟩
            rw [← hc] at R1 R2 S1 S2 hx1 hshc
            have HSM := Lib.hid (fun W (h : Sp wo (some ⟨g, 0, none⟩) c1 W ps') => rsame14_s h (S1.out W h) (S2.out W h) hshc)
            have HX1 := Lib.hid hx1
            have HC6 := Lib.hid hshc.2.2.1
            have HX2 := Lib.hid hx2
            have HSPd := Lib.hid HS2.out.drew
            clear hPw2 hxq hx1 hx2 hshc hc e2 S1 S2
            go_wp2_with fail
            refine wp_region_held_drew (S := fun W => Sp wo (some ⟨g, 0, none⟩) c1 W ps') (by kernel_rfl) HSPd.out (fun hHeld => ?_)
            refine wpAnyH_take (i := 0) (v := ?vv0_1) rfl (by kernel_rfl) (by kernel_rfl) (by kernel_rfl) (fun _ _ _ h => h) (Or.inl ⟨by rfl, ?hy0_1⟩) (by assumption) ?rest0_1
            case hy0_1 => (intro w' hSw; (try dsimp only at hSw); go_simp; try with_reducible rfl)
            try simp only [List.getElem_toArray, List.getElem_cons_zero, List.getElem_cons_succ, Act.put, List.setIfInBounds_toArray, List.set_cons_zero, List.set_cons_succ]
            refine wpAnyH_take (i := 1) (v := ?vv1_1) rfl (by kernel_rfl) (by kernel_rfl) (by kernel_rfl) (fun _ _ _ h => h) (Or.inl ⟨by rfl, ?hy1_1⟩) (by assumption) ?rest1_1
            case hy1_1 => (intro w' hSw; (try dsimp only at hSw); go_simp; try with_reducible rfl)
            try simp only [List.getElem_toArray, List.getElem_cons_zero, List.getElem_cons_succ, Act.put, List.setIfInBounds_toArray, List.set_cons_zero, List.set_cons_succ]
            refine wpAnyH_take (i := 2) (v := ?vv2_1) rfl (by kernel_rfl) (by kernel_rfl) (by kernel_rfl) (fun _ _ _ h => h) (Or.inl ⟨by rfl, ?hy2_1⟩) (by assumption) ?rest2_1
            case hy2_1 => (intro w' hSw; (try dsimp only at hSw); go_simp; try with_reducible rfl)
            try simp only [List.getElem_toArray, List.getElem_cons_zero, List.getElem_cons_succ, Act.put, List.setIfInBounds_toArray, List.set_cons_zero, List.set_cons_succ]
            refine wpAnyH_take (i := 3) (v := .agg #[sv c.key, sv c.sig, .slice a1 c.names.length k1, .int .i64 c.fr, .int .i64 c.un, .bool c.ca]) rfl (by kernel_rfl) (by kernel_rfl) (by kernel_rfl) (fun _ _ _ h => h) (Or.inl ⟨by rfl, fun w' hSw => exec_load_midC w' rfl rfl (R1.out w' hSw) Tryz.underlying27 rfl (by kernel_rfl)⟩) (by assumption) ?_
            try simp only [List.getElem_toArray, List.getElem_cons_zero, List.getElem_cons_succ, Act.put, List.setIfInBounds_toArray, List.set_cons_zero, List.set_cons_succ]
            refine wpAnyH_take (i := 4) (v := ?vv4_1) rfl (by kernel_rfl) (by kernel_rfl) (by kernel_rfl) (fun _ _ _ h => h) (Or.inl ⟨by rfl, ?hy4_1⟩) (by assumption) ?rest4_1
            case hy4_1 => (intro w' hSw; (try dsimp only at hSw); go_simp; try with_reducible rfl)
            try simp only [List.getElem_toArray, List.getElem_cons_zero, List.getElem_cons_succ, Act.put, List.setIfInBounds_toArray, List.set_cons_zero, List.set_cons_succ]
            refine wpAnyH_take (i := 5) (v := ?vv5_1) rfl (by kernel_rfl) (by kernel_rfl) (by kernel_rfl) (fun _ _ _ h => h) (Or.inl ⟨by rfl, ?hy5_1⟩) (by assumption) ?rest5_1
            case hy5_1 => (intro w' hSw; (try dsimp only at hSw); go_simp; try with_reducible rfl)
            try simp only [List.getElem_toArray, List.getElem_cons_zero, List.getElem_cons_succ, Act.put, List.setIfInBounds_toArray, List.set_cons_zero, List.set_cons_succ]
            refine wpAnyH_take (i := 6) (v := ?vv6_1) rfl (by kernel_rfl) (by kernel_rfl) (by kernel_rfl) (fun _ _ _ h => h) (Or.inl ⟨by rfl, ?hy6_1⟩) (by assumption) ?rest6_1
            case hy6_1 => (intro w' hSw; (try dsimp only at hSw); go_simp; try with_reducible rfl)
            try simp only [List.getElem_toArray, List.getElem_cons_zero, List.getElem_cons_succ, Act.put, List.setIfInBounds_toArray, List.set_cons_zero, List.set_cons_succ]
            refine wpAnyH_take (i := 7) (v := .agg #[sv c.key, sv c.sig, .slice a2 c.names.length k2, .int .i64 c.fr, .int .i64 c.un, .bool c.ca]) rfl (by kernel_rfl) (by kernel_rfl) (by kernel_rfl) (fun _ _ _ h => h) (Or.inl ⟨by rfl, fun w' hSw => exec_load_midC w' rfl rfl (R2.out w' hSw) Tryz.underlying39 rfl (by kernel_rfl)⟩) (by assumption) ?_
            try simp only [List.getElem_toArray, List.getElem_cons_zero, List.getElem_cons_succ, Act.put, List.setIfInBounds_toArray, List.set_cons_zero, List.set_cons_succ]
            refine wpAnyH_ready (rs := [8]) (by kernel_rfl) (by simp) ?_
            refine AllReadyH.cons rfl (fun K hK => ?_) AllReadyH.nil
            go_simp
            go_at_call 23
            with_reducible refine (HSM.out _ hHeld).mono ?_
            rintro e w9 ⟨rfl, hp9⟩
            refine hK.out _ _ hp9 (fun hHeld => ?_)
            clear hK K
            try simp only [List.getElem_toArray, List.getElem_cons_zero, List.getElem_cons_succ, Act.put, List.setIfInBounds_toArray, List.set_cons_zero, List.set_cons_succ]
            refine wpAnyH_take (i := 9) (v := ?vv9_1) rfl (by kernel_rfl) (by kernel_rfl) (by kernel_rfl) (fun _ _ _ h => h) (Or.inl ⟨by rfl, ?hy9_1⟩) (by assumption) ?rest9_1
            case hy9_1 => (intro w' hSw; (try dsimp only at hSw); go_simp; try with_reducible rfl)
            try simp only [List.getElem_toArray, List.getElem_cons_zero, List.getElem_cons_succ, Act.put, List.setIfInBounds_toArray, List.set_cons_zero, List.set_cons_succ]
            refine wpAnyH_done (by kernel_rfl) ?_ _
            have HP9 := Lib.hid hHeld
            have c0 := R1.out _ hHeld 0 _ rfl
            have f0 := hHeld.free (q * 6)
            rw [Nat.add_zero] at c0
            have hsk := HP9.out.key hqp [115, 112, 111, 105, 108, 116]
            have hkn : ((ps'.set q (keyed (ps'.getD q cn0) [115, 112, 111, 105, 108, 116])).getD q cn0).1.names.length = c.names.length := by rw [getD_setS _ hqp]; show (ps'.getD q cn0).1.names.length = _; rw [HX1.out]
            have hk2 : ((ps'.set q (keyed (ps'.getD q cn0) [115, 112, 111, 105, 108, 116])).getD q cn0).2 = (a1, k1) := by rw [getD_setS _ hqp]; exact HX2.out
            have hkl : (ps'.set q (keyed (ps'.getD q cn0) [115, 112, 111, 105, 108, 116])).length = n := by rw [List.length_set]; exact HPL'.out
            have hks : ∀ j, q + 1 ≤ j → (ps'.set q (keyed (ps'.getD q cn0) [115, 112, 111, 105, 108, 116])).getD j cn0 = ps.getD j cn0 := fun j hj => by rw [getD_setC _ (by omega)]; exact HSM0.out j (by omega)
            obtain ⟨ps1, hps1⟩ : ∃ p, p = ps'.set q (keyed (ps'.getD q cn0) [115, 112, 111, 105, 108, 116]) := ⟨_, rfl⟩
            rw [← hps1] at hsk hkn hk2 hkl hks
            have HSK := Lib.hid hsk
            have HKN := Lib.hid hkn
            have HK2 := Lib.hid hk2
            have HKL := Lib.hid hkl
            have HKS := Lib.hid hks
            obtain ⟨N, hNN⟩ : ∃ N, N = c.names.length := ⟨_, rfl⟩
            have hN6 : N ≤ 1000000 := by rw [hNN]; exact HC6.out
            rw [← hNN] at HKN ⊢
            clear hHeld hsk hkn hk2 hkl hks hps1 hNN
            go_wp2_with fail
            go_loopw [14] (fun i wr3 => ∃ (m : Nat) (p2 : List Cn), m ≤ N ∧ i = .int .i64 (m : Int) ∧ p2.length = n ∧ (∀ j, q + 1 ≤ j → p2.getD j cn0 = ps.getD j cn0) ∧ (p2.getD q cn0).1.names.length = N ∧ (p2.getD q cn0).2 = (a1, k1) ∧ Sp wo (some ⟨g, 0, none⟩) c1 wr3 p2) (fun i _ => N - (intOf i).toNat)
            case atStart => exact ⟨0, ps1, Nat.zero_le _, rfl, HKL.out, HKS.out, HKN.out, HK2.out, HSK.out⟩
            case round =>
              obtain ⟨m, p2, hm, rfl, hl2, hs2, hn2, ha2, hsp2⟩ := hrel
              have hq2 : q < p2.length := by rw [hl2]; exact hqn
              have HSP2 := Lib.hid hsp2
              have HS22 := Lib.hid hs2
              have HL2 := Lib.hid hl2
              have HN2 := Lib.hid hn2
              have HA2 := Lib.hid ha2
              have c2 := hsp2.at2 hq2
              rw [hn2, ha2] at c2
              clear hs2 hl2
              by_cases hmN : m < N
              · have hmN' : (m : Int) < (N : Int) := by omega
                obtain ⟨b, cc, hbc, hle, hfz⟩ := hsp2.names hq2 (by rw [hn2]; omega)
                rw [ha2] at hbc
                simp only [Prod.mk.injEq] at hbc
                obtain ⟨hb1, hb2⟩ := hbc
                subst hb1
                subst hb2
                rw [hn2] at hle
                have f4 := hfz m
                obtain ⟨g', off', e', _, c4⟩ := ((hsp2.at hq2 rfl).2).at (k := m) (by rw [hn2]; exact hmN)
                rw [ha2] at e'
                cases e'
                rw [Nat.zero_add] at c4
                have hsn := HSP2.out.name hq2 HA2.out m [115, 112, 111, 105, 108, 116]
                have hn3 : ((p2.set q (named (p2.getD q cn0) m [115, 112, 111, 105, 108, 116])).getD q cn0).1.names.length = N := by rw [getD_setS _ hq2]; show ((p2.getD q cn0).1.names.set m _).length = N; rw [List.length_set]; exact HN2.out
                have ha3 : ((p2.set q (named (p2.getD q cn0) m [115, 112, 111, 105, 108, 116])).getD q cn0).2 = (some ⟨b, 0, none⟩, k1) := by rw [getD_setS _ hq2]; exact HA2.out
                have hl3 : (p2.set q (named (p2.getD q cn0) m [115, 112, 111, 105, 108, 116])).length = n := by rw [List.length_set]; exact HL2.out
                have hs3 : ∀ j, q + 1 ≤ j → (p2.set q (named (p2.getD q cn0) m [115, 112, 111, 105, 108, 116])).getD j cn0 = ps.getD j cn0 := fun j hj => by rw [getD_setC _ (by omega)]; exact HS22.out j hj
                obtain ⟨p3, hp3⟩ : ∃ p, p = p2.set q (named (p2.getD q cn0) m [115, 112, 111, 105, 108, 116]) := ⟨_, rfl⟩
                rw [← hp3] at hsn hn3 ha3 hl3 hs3
                have HSN := Lib.hid hsn
                have HN3 := Lib.hid hn3
                have HA3 := Lib.hid ha3
                have HL3 := Lib.hid hl3
                have HS3 := Lib.hid hs3
                clear hsn hn3 ha3 hl3 hs3 hp3 hn2 ha2 hsp2 hfz
                go_wp2_with fail
                go_roundw
                case rel => exact ⟨m + 1, p3, by omega, by go_num, HL3.out, HS3.out, HN3.out, HA3.out, HSN.out⟩
                case measure => simp [intOf]; omega
              · obtain rfl : m = N := by omega
                clear hn2 ha2 hsp2
                go_wp2_with fail
                go_roundw
                case rel => exact ⟨q + 1, p2, by omega, by go_num, HL2.out, HS22.out, HSP2.out⟩
                case measure => simp [intOf]; omega
          · obtain rfl : q = n := by omega
            go_wp2_with fail
            go_roundw
            case rel => exact ⟨k + 1, by omega, by go_num, HP.out.step HPW.out HS2.out.bw⟩
            case measure => simp [intOf]; omega
      · obtain rfl : k = 2 := by omega
        go_wp2_with (first
          | (go_at_call 33; with_reducible refine (HJ.out _ HPW.out).mono ?_; rintro e wa ⟨rfl, pa⟩; have HPa := Lib.hid pa; clear pa)
          | (go_at_call 42; with_reducible refine (HRJ.out _ HPa.out).mono ?_; rintro e wb ⟨rfl, pb⟩; have HPb := Lib.hid pb; clear pb)
          | (go_at_call 43; with_reducible refine (HSA.out _ HPb.out).mono ?_; rintro e wc ⟨rfl, pc⟩; have HPc := Lib.hid pc; clear pc)
          | (go_at_call 31; with_reducible refine (HAK.out _ HPc.out).mono ?_; rintro e wf ⟨rfl, pf⟩; have HPf := Lib.hid pf; clear pf))
        go_ret
        exact ⟨rfl, HPB.out _ HPf.out⟩
  all_goals (go_ret; exact ⟨rfl, HB0.out _ h3⟩)
end Go.Proofs.YtnaoandleelbkaaGreatDoor
