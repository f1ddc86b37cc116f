/-
  TrustTells, walked.
-/
import Derived.Test.YtoinicmhkfomjaaGreatDoorJTellsP
namespace Go.Proofs.YtoinicmhkfomjaaGreatDoor
set_option linter.unusedSimpArgs false
set_option linter.unusedVariables false
open Go Go.RowKit
set_option maxRecDepth 100000

set_option maxHeartbeats 16000000 in
theorem trustTells_walk {w : World} (l : List Ct) (A : Option Addr) (cp : Nat) (nv : Nat → Value) (hi : CI w A l cp nv) (host : List UInt8) (hh : host.length ≤ 140737488351232) {now : Int} (_ : -9223372036854775808 ≤ now ∧ now ≤ 9223372036854775807)
    (an : List (List UInt8)) (B : Option Addr) (bc : Nat) (hj : TI w B an bc) (hgl : GL w) (hlw : LWc w) :
    Calls Tryz.prog 6 #[.slice A l.length cp, sv host, .int .i64 now, .slice B an.length bc] w fun e w' => e = .returned (.bool true) ∧ Below w.heap.size w w' := by
  have hz := str_size host
  obtain ⟨P0, hPe⟩ : ∃ P : World → Prop, P = fun W => Ga w W ∧ (CR W A l nv ∧ SX W (.slice B an.length bc) an) := ⟨_, rfl⟩
  have HP0 := Lib.hid (show Ca P0 by rw [hPe]; exact Ca.mk0.and (fun h hb => ⟨h.1.step hb, h.2.step hb⟩))
  have H0 := Lib.hid (show P0 w by rw [hPe]; exact ⟨Ga.start ⟨hgl, hlw⟩, hi.cr, hj.sx⟩)
  have HB0 := Lib.hid (show ∀ W, P0 W → Below w.heap.size w W by rw [hPe]; exact fun W h => h.1.1)
  have HC0 := Lib.hid (show ∀ W, P0 W → CR W A l nv by rw [hPe]; exact fun W h => h.2.1)
  have HA0 := Lib.hid (show ∀ W, P0 W → SX W (.slice B an.length bc) an by rw [hPe]; exact fun W h => h.2.2)
  have HL1 := Lib.hid (fun W (h : P0 W) => large_p HP0.out h (HC0.out W h) hi.len hi.each hi.cap)
  have HL2 := Lib.hid (fun W (h : P0 W) => jlong_p h (HA0.out W h) hj.len hj.each)
  have HAW := Lib.hid (fun W (h : P0 W) => jawake_p HP0.out h)
  have HCP := Lib.hid hi.cap
  obtain ⟨n1, hn1⟩ : ∃ n, n = l.length := ⟨_, rfl⟩
  obtain ⟨n2, hn2⟩ : ∃ n, n = an.length := ⟨_, rfl⟩
  have HN1 := Lib.hid hn1
  have HN2 := Lib.hid hn2
  have HTO := Lib.hid (fun W (h : P0 W) (f1 : fewR l) => told_p (cp := cp) HP0.out h (HC0.out W h) (Nat.le_trans f1.1 (by decide)))
  rw [← hn1] at HL1 HTO HCP ⊢
  rw [← hn2] at HL2 ⊢
  by_cases hl : 3000 < host.length
  · have hl' : (3000 : Int) < (host.length : Int) := by omega
    clear hPe hi hj hgl hlw hn1 hn2 HTO
    go_enter Tryz.func6, Tryz.ntmps6
    go_wp2_with (first
      | (go_at_call 30; refine (HAW.out _ (by assumption)).mono ?_; rintro e w3 ⟨rfl, h3⟩)
      | (go_at_call 39; with_reducible refine (HL1.out _ H0.out).mono ?_; rintro e w1 ⟨hb1, h1⟩; have H1 := Lib.hid h1; rcases hb1 with ⟨rfl, f1⟩ | rfl)
      | (go_at_call 40; with_reducible refine (HL2.out _ H1.out).mono ?_; rintro e w2 ⟨hb2, h2⟩; have H2 := Lib.hid h2; rcases hb2 with ⟨rfl, f2⟩ | rfl))
    all_goals (go_ret; exact ⟨rfl, HB0.out _ h3⟩)
  have hl' : ¬ (3000 : Int) < (host.length : Int) := by omega
  have hl3 : host.length ≤ 3000 := by omega
  have HH3 := Lib.hid hl3
  clear hPe hi hj hgl hlw hn1 hn2 hl hl3
  go_enter Tryz.func6, Tryz.ntmps6
  go_wp2_with (first
    | (go_at_call 30; refine (HAW.out _ (by assumption)).mono ?_; rintro e w3 ⟨rfl, h3⟩)
    | (go_at_call 41; with_reducible refine (HTO.out _ H2.out F1.out).mono ?_; rintro e w3 ⟨A2, cp2, nv2, rfl, hc2, hcr2, h3⟩; obtain ⟨A3, cp3, w4, hrun, h4, hsx4⟩ := own_p (HP0.out.and (Q := fun W => CR W A2 l nv2) (fun h hb => h.step hb)) ⟨h3, hcr2⟩ (HA0.out _ h3) F2.out.len; rw [← HN2.out] at hrun; have HRUN := Lib.hid hrun; have H4 := Lib.hid h4; have HX4 := Lib.hid hsx4; have HC2 := Lib.hid hc2; clear hrun h4 hsx4 hc2 hcr2 h3)
    | (at_builtin; refine stepApp rfl _ _ 25 rfl rfl rfl HRUN.out ?_)
    | (go_at_call 39; with_reducible refine (HL1.out _ H0.out).mono ?_; rintro e w1 ⟨hb1, h1⟩; have H1 := Lib.hid h1; clear h1; rcases hb1 with ⟨rfl, f1⟩ | rfl)
    | (go_at_call 40; with_reducible refine (HL2.out _ H1.out).mono ?_; rintro e w2 ⟨hb2, h2⟩; have H2 := Lib.hid h2; clear h2; rcases hb2 with ⟨rfl, f2⟩ | rfl; have F1 := Lib.hid f1; have F2 := Lib.hid f2; clear f1 f2))
  · obtain ⟨P, hPd⟩ : ∃ P : World → Prop, P = fun W => (P0 W ∧ CR W A2 l nv2) ∧ SX W (.slice A3 an.length cp3) an := ⟨_, rfl⟩
    have HP := Lib.hid (show Ca P by rw [hPd]; exact (HP0.out.and (fun h hb => h.step hb)).and (fun h hb => h.step hb))
    have HS := Lib.hid (show P w4 by rw [hPd]; exact ⟨H4.out, HX4.out⟩)
    have HPB := Lib.hid (show ∀ W, P W → Below w.heap.size w W by rw [hPd]; exact fun W h => HB0.out W h.1.1)
    have HXl := Lib.hid (show ∀ W, P W → CR W A l nv by rw [hPd]; exact fun W h => HC0.out W h.1.1)
    have HXr := Lib.hid (show ∀ W, P W → CR W A2 l nv2 by rw [hPd]; exact fun W h => h.1.2)
    have HXo := Lib.hid (show ∀ W, P W → SX W (.slice A3 an.length cp3) an by rw [hPd]; exact fun W h => h.2)
    have HXa := Lib.hid (show ∀ W, P W → SX W (.slice B an.length bc) an by rw [hPd]; exact fun W h => HA0.out W h.1.1)
    have HSH := Lib.hid F1.out.short
    have HAL := Lib.hid (show an.length ≤ 1000000 by have := F2.out.len; omega)
    have HEL := Lib.hid (fun W (h : P W) => linked_p HP.out h cp (HXl.out W h) HSH.out HN1.out.symm)
    have HERL := Lib.hid (fun W (h : P W) => rlinked_p HP.out h cp2 (HXr.out W h) HSH.out HN1.out.symm)
    have HEA := Lib.hid (fun W (h : P W) => anch_n HP.out h now (HXl.out W h) HSH.out HN1.out.symm HCP.out (HXo.out W h) HAL.out HN2.out.symm)
    have HERA := Lib.hid (fun W (h : P W) => ranch_n HP.out h now (HXr.out W h) HSH.out HN1.out.symm HC2.out (HXa.out W h) HAL.out HN2.out.symm)
    have HSA := Lib.hid (fun W (h : P W) => same_p HP.out h (HXo.out W h) (HXa.out W h) HAL.out)
    have HAK := Lib.hid (fun W (h : P W) => jawake_p HP.out h)
    rw [← HN2.out] at HSA
    clear hPd H1 H2 F1 F2 H4 HX4 HRUN HTO HL1 HL2 H0 HP0 HB0 HC0 HA0 HAW
    go_loopw [11] (fun i wr => ∃ k : Nat, k ≤ n1 ∧ i = .int .i64 (k : Int) ∧ P wr) (fun i _ => n1 - (intOf i).toNat)
    case atStart => exact ⟨0, Nat.zero_le _, rfl, HS.out⟩
    case round =>
      clear HS
      obtain ⟨k, hk, rfl, hp⟩ := hrel
      have HPW := Lib.hid hp
      clear hp
      by_cases hlt : k < n1
      · have hll : k < l.length := by rw [← HN1.out]; exact hlt
        obtain ⟨g, off, rfl, _⟩ := (HXl.out _ HPW.out).at hll
        obtain ⟨g2, off2, rfl, _⟩ := (HXr.out _ HPW.out).at hll
        obtain ⟨a1, c1, e1⟩ := ((HXl.out _ HPW.out).sx hll).form
        obtain ⟨a2, c2, e2⟩ := ((HXr.out _ HPW.out).sx hll).form
        have R1 := Lib.hid (fun W (h : P W) => ((HXl.out W h).cc hll).1.range)
        have R2 := Lib.hid (fun W (h : P W) => ((HXr.out W h).cc hll).1.range)
        have S1 := Lib.hid (fun W (h : P W) => (HXl.out W h).sx hll)
        have S2 := Lib.hid (fun W (h : P W) => (HXr.out W h).sx hll)
        rw [e1] at R1 S1
        rw [e2] at R2 S2
        have HH := Lib.hid (fun W (h : P W) => host_p HP.out h (ctAt l k) a1 c1 host (S1.out W h) (HSH.out.at hll) HH3.out)
        have HRH := Lib.hid (fun W (h : P W) => rhost_p HP.out h (ctAt l k) a2 c2 host (S2.out W h) (HSH.out.at hll) HH3.out)
        have HD := Lib.hid (fun W (h : P W) => dates_p HP.out h (ctAt l k) a1 (ctAt l k).names.length c1 now)
        have HRD := Lib.hid (fun W (h : P W) => rdates_p HP.out h (ctAt l k) a2 (ctAt l k).names.length c2 now)
        have hdl : (l.drop k).length = n1 - k := by rw [List.length_drop, HN1.out]
        have HL := Lib.hid (fun W (h : P W) c' => linked_p HP.out h c' ((HXl.out W h).from hll) (HSH.out.drop k) hdl)
        have HRL := Lib.hid (fun W (h : P W) c' => rlinked_p HP.out h c' ((HXr.out W h).from hll) (HSH.out.drop k) hdl)
        have HA := Lib.hid (fun W (h : P W) => anch_n HP.out h now ((HXl.out W h).from hll) (HSH.out.drop k) hdl (cp := cp - k) (by have := HCP.out; omega) (HXo.out W h) HAL.out HN2.out.symm)
        have HRA := Lib.hid (fun W (h : P W) => ranch_n HP.out h now ((HXr.out W h).from hll) (HSH.out.drop k) hdl (cp := cp2 - k) (by have := HC2.out; omega) (HXa.out W h) HAL.out HN2.out.symm)
        obtain ⟨c, hc⟩ : ∃ c, c = ctAt l k := ⟨_, rfl⟩
        rw [← hc] at R1 R2 HH HRH HD HRD
        obtain ⟨b1, hb1⟩ : ∃ b, b = hostB c host := ⟨_, rfl⟩
        rw [← hb1] at HH HRH
        obtain ⟨b2, hb2⟩ : ∃ b, b = dateB c now := ⟨_, rfl⟩
        rw [← hb2] at HD HRD
        obtain ⟨b3, hb3⟩ : ∃ b, b = linkedB (l.drop k) := ⟨_, rfl⟩
        rw [← hb3] at HL HRL
        obtain ⟨b4, hb4⟩ : ∃ b, b = anchB (l.drop k) now an := ⟨_, rfl⟩
        rw [← hb4] at HA HRA
        have hn6 : n1 ≤ 1000000 := by rw [HN1.out]; exact HSH.out.1
        have hcp1 : n1 ≤ cp := HCP.out
        have hcp2 : n1 ≤ cp2 := HC2.out
        have hlt' : (k : Int) < (n1 : Int) := by omega
        have hle' : (k : Int) ≤ (n1 : Int) := by omega
        have hlc1 : (n1 : Int) ≤ (cp : Int) := by omega
        have hlc2 : (n1 : Int) ≤ (cp2 : Int) := by omega
        have hkc1 : ¬ cp = k := by omega
        have hkc2 : ¬ cp2 = k := by omega
        clear hc hb1 hb2 hb3 hb4 hdl e1 e2 S1 S2 hll HEL HERL HEA HERA HSA HAK HXl HXr HXo HXa
        go_wp2_with fail
        refine wp_region_held_drew (S := fun W => P W) (by kernel_rfl) (HP.out.step HPW.out (Below.refl _ _).drew) (fun hHeld => ?_)
        refine wpAnyH_take (i := 0) (v := ?vv0_1) rfl (by kernel_rfl) (by kernel_rfl) (by kernel_rfl) (fun _ _ _ h => h) (Or.inl ⟨by rfl, ?hy0_1⟩) (by assumption) ?rest0_1
        case hy0_1 => (intro w' hSw; (try dsimp only at hSw); go_simp; try with_reducible rfl)
        try simp only [List.getElem_toArray, List.getElem_cons_zero, List.getElem_cons_succ, Act.put, List.setIfInBounds_toArray, List.set_cons_zero, List.set_cons_succ]
        refine wpAnyH_take (i := 1) (v := ?vv1_1) rfl (by kernel_rfl) (by kernel_rfl) (by kernel_rfl) (fun _ _ _ h => h) (Or.inl ⟨by rfl, ?hy1_1⟩) (by assumption) ?rest1_1
        case hy1_1 => (intro w' hSw; (try dsimp only at hSw); go_simp; try with_reducible rfl)
        try simp only [List.getElem_toArray, List.getElem_cons_zero, List.getElem_cons_succ, Act.put, List.setIfInBounds_toArray, List.set_cons_zero, List.set_cons_succ]
        refine wpAnyH_take (i := 2) (v := ?vv2_1) rfl (by kernel_rfl) (by kernel_rfl) (by kernel_rfl) (fun _ _ _ h => h) (Or.inl ⟨by rfl, ?hy2_1⟩) (by assumption) ?rest2_1
        case hy2_1 => (intro w' hSw; (try dsimp only at hSw); go_simp; try with_reducible rfl)
        try simp only [List.getElem_toArray, List.getElem_cons_zero, List.getElem_cons_succ, Act.put, List.setIfInBounds_toArray, List.set_cons_zero, List.set_cons_succ]
        refine wpAnyH_take (i := 3) (v := .agg #[sv c.key, sv c.sig, .slice a1 c.names.length c1, .int .i64 c.fr, .int .i64 c.un, .bool c.ca]) rfl (by kernel_rfl) (by kernel_rfl) (by kernel_rfl) (fun _ _ _ h => h) (Or.inl ⟨by rfl, fun w' hSw => exec_load_midC w' rfl rfl (R1.out w' hSw) Tryz.underlying27 rfl (by kernel_rfl)⟩) (by assumption) ?_
        try simp only [List.getElem_toArray, List.getElem_cons_zero, List.getElem_cons_succ, Act.put, List.setIfInBounds_toArray, List.set_cons_zero, List.set_cons_succ]
        refine wpAnyH_take (i := 4) (v := ?vv4_1) rfl (by kernel_rfl) (by kernel_rfl) (by kernel_rfl) (fun _ _ _ h => h) (Or.inl ⟨by rfl, ?hy4_1⟩) (by assumption) ?rest4_1
        case hy4_1 => (intro w' hSw; (try dsimp only at hSw); go_simp; try with_reducible rfl)
        try simp only [List.getElem_toArray, List.getElem_cons_zero, List.getElem_cons_succ, Act.put, List.setIfInBounds_toArray, List.set_cons_zero, List.set_cons_succ]
        refine wpAnyH_take (i := 6) (v := ?vv6_1) rfl (by kernel_rfl) (by kernel_rfl) (by kernel_rfl) (fun _ _ _ h => h) (Or.inl ⟨by rfl, ?hy6_1⟩) (by assumption) ?rest6_1
        case hy6_1 => (intro w' hSw; (try dsimp only at hSw); go_simp; try with_reducible rfl)
        try simp only [List.getElem_toArray, List.getElem_cons_zero, List.getElem_cons_succ, Act.put, List.setIfInBounds_toArray, List.set_cons_zero, List.set_cons_succ]
        refine wpAnyH_take (i := 7) (v := ?vv7_1) rfl (by kernel_rfl) (by kernel_rfl) (by kernel_rfl) (fun _ _ _ h => h) (Or.inl ⟨by rfl, ?hy7_1⟩) (by assumption) ?rest7_1
        case hy7_1 => (intro w' hSw; (try dsimp only at hSw); go_simp; try with_reducible rfl)
        try simp only [List.getElem_toArray, List.getElem_cons_zero, List.getElem_cons_succ, Act.put, List.setIfInBounds_toArray, List.set_cons_zero, List.set_cons_succ]
        refine wpAnyH_take (i := 8) (v := ?vv8_1) rfl (by kernel_rfl) (by kernel_rfl) (by kernel_rfl) (fun _ _ _ h => h) (Or.inl ⟨by rfl, ?hy8_1⟩) (by assumption) ?rest8_1
        case hy8_1 => (intro w' hSw; (try dsimp only at hSw); go_simp; try with_reducible rfl)
        try simp only [List.getElem_toArray, List.getElem_cons_zero, List.getElem_cons_succ, Act.put, List.setIfInBounds_toArray, List.set_cons_zero, List.set_cons_succ]
        refine wpAnyH_take (i := 9) (v := .agg #[sv c.key, sv c.sig, .slice a2 c.names.length c2, .int .i64 c.fr, .int .i64 c.un, .bool c.ca]) rfl (by kernel_rfl) (by kernel_rfl) (by kernel_rfl) (fun _ _ _ h => h) (Or.inl ⟨by rfl, fun w' hSw => exec_load_midC w' rfl rfl (R2.out w' hSw) Tryz.underlying39 rfl (by kernel_rfl)⟩) (by assumption) ?_
        try simp only [List.getElem_toArray, List.getElem_cons_zero, List.getElem_cons_succ, Act.put, List.setIfInBounds_toArray, List.set_cons_zero, List.set_cons_succ]
        refine wpAnyH_take (i := 10) (v := ?vv10_1) rfl (by kernel_rfl) (by kernel_rfl) (by kernel_rfl) (fun _ _ _ h => h) (Or.inl ⟨by rfl, ?hy10_1⟩) (by assumption) ?rest10_1
        case hy10_1 => (intro w' hSw; (try dsimp only at hSw); go_simp; try with_reducible rfl)
        try simp only [List.getElem_toArray, List.getElem_cons_zero, List.getElem_cons_succ, Act.put, List.setIfInBounds_toArray, List.set_cons_zero, List.set_cons_succ]
        refine wpAnyH_ready (rs := [5]) (by kernel_rfl) (by simp) ?_
        refine AllReadyH.cons rfl (fun K hK => ?_) AllReadyH.nil
        go_simp
        go_at_call 37
        with_reducible refine (HH.out _ hHeld).mono ?_
        rintro e w9 ⟨rfl, hp9⟩
        refine hK.out _ _ hp9 (fun hHeld => ?_)
        clear hK K
        try simp only [List.getElem_toArray, List.getElem_cons_zero, List.getElem_cons_succ, Act.put, List.setIfInBounds_toArray, List.set_cons_zero, List.set_cons_succ]
        refine wpAnyH_ready (rs := [11]) (by kernel_rfl) (by simp) ?_
        refine AllReadyH.cons rfl (fun K hK => ?_) AllReadyH.nil
        go_simp
        go_at_call 42
        with_reducible refine (HRH.out _ hHeld).mono ?_
        rintro e w9 ⟨rfl, hp9⟩
        refine hK.out _ _ hp9 (fun hHeld => ?_)
        clear hK K
        try simp only [List.getElem_toArray, List.getElem_cons_zero, List.getElem_cons_succ, Act.put, List.setIfInBounds_toArray, List.set_cons_zero, List.set_cons_succ]
        refine wpAnyH_take (i := 12) (v := ?vv12_1) rfl (by kernel_rfl) (by kernel_rfl) (by kernel_rfl) (fun _ _ _ h => h) (Or.inl ⟨by rfl, ?hy12_1⟩) (by assumption) ?rest12_1
        case hy12_1 => (intro w' hSw; (try dsimp only at hSw); go_simp; try with_reducible rfl)
        try simp only [List.getElem_toArray, List.getElem_cons_zero, List.getElem_cons_succ, Act.put, List.setIfInBounds_toArray, List.set_cons_zero, List.set_cons_succ]
        refine wpAnyH_take (i := 13) (v := ?vv13_1) rfl (by kernel_rfl) (by kernel_rfl) (by kernel_rfl) (fun _ _ _ h => h) (Or.inl ⟨by rfl, ?hy13_1⟩) (by assumption) ?rest13_1
        case hy13_1 => (intro w' hSw; (try dsimp only at hSw); go_simp; try with_reducible rfl)
        try simp only [List.getElem_toArray, List.getElem_cons_zero, List.getElem_cons_succ, Act.put, List.setIfInBounds_toArray, List.set_cons_zero, List.set_cons_succ]
        refine wpAnyH_take (i := 14) (v := ?vv14_1) rfl (by kernel_rfl) (by kernel_rfl) (by kernel_rfl) (fun _ _ _ h => h) (Or.inl ⟨by rfl, ?hy14_1⟩) (by assumption) ?rest14_1
        case hy14_1 => (intro w' hSw; (try dsimp only at hSw); go_simp; try with_reducible rfl)
        try simp only [List.getElem_toArray, List.getElem_cons_zero, List.getElem_cons_succ, Act.put, List.setIfInBounds_toArray, List.set_cons_zero, List.set_cons_succ]
        refine wpAnyH_take (i := 15) (v := ?vv15_1) rfl (by kernel_rfl) (by kernel_rfl) (by kernel_rfl) (fun _ _ _ h => h) (Or.inl ⟨by rfl, ?hy15_1⟩) (by assumption) ?rest15_1
        case hy15_1 => (intro w' hSw; (try dsimp only at hSw); go_simp; try with_reducible rfl)
        try simp only [List.getElem_toArray, List.getElem_cons_zero, List.getElem_cons_succ, Act.put, List.setIfInBounds_toArray, List.set_cons_zero, List.set_cons_succ]
        refine wpAnyH_take (i := 16) (v := ?vv16_1) rfl (by kernel_rfl) (by kernel_rfl) (by kernel_rfl) (fun _ _ _ h => h) (Or.inl ⟨by rfl, ?hy16_1⟩) (by assumption) ?rest16_1
        case hy16_1 => (intro w' hSw; (try dsimp only at hSw); go_simp; try with_reducible rfl)
        try simp only [List.getElem_toArray, List.getElem_cons_zero, List.getElem_cons_succ, Act.put, List.setIfInBounds_toArray, List.set_cons_zero, List.set_cons_succ]
        refine wpAnyH_take (i := 17) (v := .agg #[sv c.key, sv c.sig, .slice a1 c.names.length c1, .int .i64 c.fr, .int .i64 c.un, .bool c.ca]) rfl (by kernel_rfl) (by kernel_rfl) (by kernel_rfl) (fun _ _ _ h => h) (Or.inl ⟨by rfl, fun w' hSw => exec_load_midC w' rfl rfl (R1.out w' hSw) Tryz.underlying27 rfl (by kernel_rfl)⟩) (by assumption) ?_
        try simp only [List.getElem_toArray, List.getElem_cons_zero, List.getElem_cons_succ, Act.put, List.setIfInBounds_toArray, List.set_cons_zero, List.set_cons_succ]
        refine wpAnyH_take (i := 18) (v := ?vv18_1) rfl (by kernel_rfl) (by kernel_rfl) (by kernel_rfl) (fun _ _ _ h => h) (Or.inl ⟨by rfl, ?hy18_1⟩) (by assumption) ?rest18_1
        case hy18_1 => (intro w' hSw; (try dsimp only at hSw); go_simp; try with_reducible rfl)
        try simp only [List.getElem_toArray, List.getElem_cons_zero, List.getElem_cons_succ, Act.put, List.setIfInBounds_toArray, List.set_cons_zero, List.set_cons_succ]
        refine wpAnyH_take (i := 20) (v := ?vv20_1) rfl (by kernel_rfl) (by kernel_rfl) (by kernel_rfl) (fun _ _ _ h => h) (Or.inl ⟨by rfl, ?hy20_1⟩) (by assumption) ?rest20_1
        case hy20_1 => (intro w' hSw; (try dsimp only at hSw); go_simp; try with_reducible rfl)
        try simp only [List.getElem_toArray, List.getElem_cons_zero, List.getElem_cons_succ, Act.put, List.setIfInBounds_toArray, List.set_cons_zero, List.set_cons_succ]
        refine wpAnyH_take (i := 21) (v := ?vv21_1) rfl (by kernel_rfl) (by kernel_rfl) (by kernel_rfl) (fun _ _ _ h => h) (Or.inl ⟨by rfl, ?hy21_1⟩) (by assumption) ?rest21_1
        case hy21_1 => (intro w' hSw; (try dsimp only at hSw); go_simp; try with_reducible rfl)
        try simp only [List.getElem_toArray, List.getElem_cons_zero, List.getElem_cons_succ, Act.put, List.setIfInBounds_toArray, List.set_cons_zero, List.set_cons_succ]
        refine wpAnyH_take (i := 22) (v := ?vv22_1) rfl (by kernel_rfl) (by kernel_rfl) (by kernel_rfl) (fun _ _ _ h => h) (Or.inl ⟨by rfl, ?hy22_1⟩) (by assumption) ?rest22_1
        case hy22_1 => (intro w' hSw; (try dsimp only at hSw); go_simp; try with_reducible rfl)
        try simp only [List.getElem_toArray, List.getElem_cons_zero, List.getElem_cons_succ, Act.put, List.setIfInBounds_toArray, List.set_cons_zero, List.set_cons_succ]
        refine wpAnyH_take (i := 23) (v := .agg #[sv c.key, sv c.sig, .slice a2 c.names.length c2, .int .i64 c.fr, .int .i64 c.un, .bool c.ca]) rfl (by kernel_rfl) (by kernel_rfl) (by kernel_rfl) (fun _ _ _ h => h) (Or.inl ⟨by rfl, fun w' hSw => exec_load_midC w' rfl rfl (R2.out w' hSw) Tryz.underlying39 rfl (by kernel_rfl)⟩) (by assumption) ?_
        try simp only [List.getElem_toArray, List.getElem_cons_zero, List.getElem_cons_succ, Act.put, List.setIfInBounds_toArray, List.set_cons_zero, List.set_cons_succ]
        refine wpAnyH_take (i := 24) (v := ?vv24_1) rfl (by kernel_rfl) (by kernel_rfl) (by kernel_rfl) (fun _ _ _ h => h) (Or.inl ⟨by rfl, ?hy24_1⟩) (by assumption) ?rest24_1
        case hy24_1 => (intro w' hSw; (try dsimp only at hSw); go_simp; try with_reducible rfl)
        try simp only [List.getElem_toArray, List.getElem_cons_zero, List.getElem_cons_succ, Act.put, List.setIfInBounds_toArray, List.set_cons_zero, List.set_cons_succ]
        refine wpAnyH_ready (rs := [19]) (by kernel_rfl) (by simp) ?_
        refine AllReadyH.cons rfl (fun K hK => ?_) AllReadyH.nil
        go_simp
        go_at_call 38
        with_reducible refine (HD.out _ hHeld).mono ?_
        rintro e w9 ⟨rfl, hp9⟩
        refine hK.out _ _ hp9 (fun hHeld => ?_)
        clear hK K
        try simp only [List.getElem_toArray, List.getElem_cons_zero, List.getElem_cons_succ, Act.put, List.setIfInBounds_toArray, List.set_cons_zero, List.set_cons_succ]
        refine wpAnyH_ready (rs := [25]) (by kernel_rfl) (by simp) ?_
        refine AllReadyH.cons rfl (fun K hK => ?_) AllReadyH.nil
        go_simp
        go_at_call 43
        with_reducible refine (HRD.out _ hHeld).mono ?_
        rintro e w9 ⟨rfl, hp9⟩
        refine hK.out _ _ hp9 (fun hHeld => ?_)
        clear hK K
        try simp only [List.getElem_toArray, List.getElem_cons_zero, List.getElem_cons_succ, Act.put, List.setIfInBounds_toArray, List.set_cons_zero, List.set_cons_succ]
        refine wpAnyH_take (i := 26) (v := ?vv26_1) rfl (by kernel_rfl) (by kernel_rfl) (by kernel_rfl) (fun _ _ _ h => h) (Or.inl ⟨by rfl, ?hy26_1⟩) (by assumption) ?rest26_1
        case hy26_1 => (intro w' hSw; (try dsimp only at hSw); go_simp; try with_reducible rfl)
        try simp only [List.getElem_toArray, List.getElem_cons_zero, List.getElem_cons_succ, Act.put, List.setIfInBounds_toArray, List.set_cons_zero, List.set_cons_succ]
        refine wpAnyH_take (i := 27) (v := ?vv27_1) rfl (by kernel_rfl) (by kernel_rfl) (by kernel_rfl) (fun _ _ _ h => h) (Or.inl ⟨by rfl, ?hy27_1⟩) (by assumption) ?rest27_1
        case hy27_1 => (intro w' hSw; (try dsimp only at hSw); go_simp; try with_reducible rfl)
        try simp only [List.getElem_toArray, List.getElem_cons_zero, List.getElem_cons_succ, Act.put, List.setIfInBounds_toArray, List.set_cons_zero, List.set_cons_succ]
        refine wpAnyH_take (i := 28) (v := ?vv28_1) rfl (by kernel_rfl) (by kernel_rfl) (by kernel_rfl) (fun _ _ _ h => h) (Or.inl ⟨by rfl, ?hy28_1⟩) (by assumption) ?rest28_1
        case hy28_1 => (intro w' hSw; (try dsimp only at hSw); go_simp; try with_reducible rfl)
        try simp only [List.getElem_toArray, List.getElem_cons_zero, List.getElem_cons_succ, Act.put, List.setIfInBounds_toArray, List.set_cons_zero, List.set_cons_succ]
        refine wpAnyH_take (i := 29) (v := ?vv29_1) rfl (by kernel_rfl) (by kernel_rfl) (by kernel_rfl) (fun _ _ _ h => h) (Or.inl ⟨by rfl, ?hy29_1⟩) (by assumption) ?rest29_1
        case hy29_1 => (intro w' hSw; (try dsimp only at hSw); go_simp; try with_reducible rfl)
        try simp only [List.getElem_toArray, List.getElem_cons_zero, List.getElem_cons_succ, Act.put, List.setIfInBounds_toArray, List.set_cons_zero, List.set_cons_succ]
        refine wpAnyH_take (i := 30) (v := ?vv30_1) rfl (by kernel_rfl) (by kernel_rfl) (by kernel_rfl) (fun _ _ _ h => h) (Or.inl ⟨by rfl, ?hy30_1⟩) (by assumption) ?rest30_1
        case hy30_1 => (intro w' hSw; (try dsimp only at hSw); go_simp; try with_reducible rfl)
        try simp only [List.getElem_toArray, List.getElem_cons_zero, List.getElem_cons_succ, Act.put, List.setIfInBounds_toArray, List.set_cons_zero, List.set_cons_succ]
        refine wpAnyH_take (i := 31) (v := ?vv31_1) rfl (by kernel_rfl) (by kernel_rfl) (by kernel_rfl) (fun _ _ _ h => h) (Or.inl ⟨by rfl, ?hy31_1⟩) (by assumption) ?rest31_1
        case hy31_1 => (intro w' hSw; (try dsimp only at hSw); go_simp; try with_reducible rfl)
        try simp only [List.getElem_toArray, List.getElem_cons_zero, List.getElem_cons_succ, Act.put, List.setIfInBounds_toArray, List.set_cons_zero, List.set_cons_succ]
        refine wpAnyH_take (i := 33) (v := ?vv33_1) rfl (by kernel_rfl) (by kernel_rfl) (by kernel_rfl) (fun _ _ _ h => h) (Or.inl ⟨by rfl, ?hy33_1⟩) (by assumption) ?rest33_1
        case hy33_1 => (intro w' hSw; (try dsimp only at hSw); go_simp; try with_reducible rfl)
        try simp only [List.getElem_toArray, List.getElem_cons_zero, List.getElem_cons_succ, Act.put, List.setIfInBounds_toArray, List.set_cons_zero, List.set_cons_succ]
        refine wpAnyH_take (i := 34) (v := ?vv34_1) rfl (by kernel_rfl) (by kernel_rfl) (by kernel_rfl) (fun _ _ _ h => h) (Or.inl ⟨by rfl, ?hy34_1⟩) (by assumption) ?rest34_1
        case hy34_1 => (intro w' hSw; (try dsimp only at hSw); go_simp; try with_reducible rfl)
        try simp only [List.getElem_toArray, List.getElem_cons_zero, List.getElem_cons_succ, Act.put, List.setIfInBounds_toArray, List.set_cons_zero, List.set_cons_succ]
        refine wpAnyH_take (i := 35) (v := ?vv35_1) rfl (by kernel_rfl) (by kernel_rfl) (by kernel_rfl) (fun _ _ _ h => h) (Or.inl ⟨by rfl, ?hy35_1⟩) (by assumption) ?rest35_1
        case hy35_1 => (intro w' hSw; (try dsimp only at hSw); go_simp; try with_reducible rfl)
        try simp only [List.getElem_toArray, List.getElem_cons_zero, List.getElem_cons_succ, Act.put, List.setIfInBounds_toArray, List.set_cons_zero, List.set_cons_succ]
        refine wpAnyH_ready (rs := [32]) (by kernel_rfl) (by simp) ?_
        refine AllReadyH.cons rfl (fun K hK => ?_) AllReadyH.nil
        go_simp
        go_at_call 35
        with_reducible refine (HL.out _ hHeld _).mono ?_
        rintro e w9 ⟨rfl, hp9⟩
        refine hK.out _ _ hp9 (fun hHeld => ?_)
        clear hK K
        try simp only [List.getElem_toArray, List.getElem_cons_zero, List.getElem_cons_succ, Act.put, List.setIfInBounds_toArray, List.set_cons_zero, List.set_cons_succ]
        refine wpAnyH_ready (rs := [36]) (by kernel_rfl) (by simp) ?_
        refine AllReadyH.cons rfl (fun K hK => ?_) AllReadyH.nil
        go_simp
        go_at_call 44
        with_reducible refine (HRL.out _ hHeld _).mono ?_
        rintro e w9 ⟨rfl, hp9⟩
        refine hK.out _ _ hp9 (fun hHeld => ?_)
        clear hK K
        try simp only [List.getElem_toArray, List.getElem_cons_zero, List.getElem_cons_succ, Act.put, List.setIfInBounds_toArray, List.set_cons_zero, List.set_cons_succ]
        refine wpAnyH_take (i := 37) (v := ?vv37_1) rfl (by kernel_rfl) (by kernel_rfl) (by kernel_rfl) (fun _ _ _ h => h) (Or.inl ⟨by rfl, ?hy37_1⟩) (by assumption) ?rest37_1
        case hy37_1 => (intro w' hSw; (try dsimp only at hSw); go_simp; try with_reducible rfl)
        try simp only [List.getElem_toArray, List.getElem_cons_zero, List.getElem_cons_succ, Act.put, List.setIfInBounds_toArray, List.set_cons_zero, List.set_cons_succ]
        refine wpAnyH_take (i := 38) (v := ?vv38_1) rfl (by kernel_rfl) (by kernel_rfl) (by kernel_rfl) (fun _ _ _ h => h) (Or.inl ⟨by rfl, ?hy38_1⟩) (by assumption) ?rest38_1
        case hy38_1 => (intro w' hSw; (try dsimp only at hSw); go_simp; try with_reducible rfl)
        try simp only [List.getElem_toArray, List.getElem_cons_zero, List.getElem_cons_succ, Act.put, List.setIfInBounds_toArray, List.set_cons_zero, List.set_cons_succ]
        refine wpAnyH_take (i := 39) (v := ?vv39_1) rfl (by kernel_rfl) (by kernel_rfl) (by kernel_rfl) (fun _ _ _ h => h) (Or.inl ⟨by rfl, ?hy39_1⟩) (by assumption) ?rest39_1
        case hy39_1 => (intro w' hSw; (try dsimp only at hSw); go_simp; try with_reducible rfl)
        try simp only [List.getElem_toArray, List.getElem_cons_zero, List.getElem_cons_succ, Act.put, List.setIfInBounds_toArray, List.set_cons_zero, List.set_cons_succ]
        refine wpAnyH_take (i := 40) (v := ?vv40_1) rfl (by kernel_rfl) (by kernel_rfl) (by kernel_rfl) (fun _ _ _ h => h) (Or.inl ⟨by rfl, ?hy40_1⟩) (by assumption) ?rest40_1
        case hy40_1 => (intro w' hSw; (try dsimp only at hSw); go_simp; try with_reducible rfl)
        try simp only [List.getElem_toArray, List.getElem_cons_zero, List.getElem_cons_succ, Act.put, List.setIfInBounds_toArray, List.set_cons_zero, List.set_cons_succ]
        refine wpAnyH_take (i := 41) (v := ?vv41_1) rfl (by kernel_rfl) (by kernel_rfl) (by kernel_rfl) (fun _ _ _ h => h) (Or.inl ⟨by rfl, ?hy41_1⟩) (by assumption) ?rest41_1
        case hy41_1 => (intro w' hSw; (try dsimp only at hSw); go_simp; try with_reducible rfl)
        try simp only [List.getElem_toArray, List.getElem_cons_zero, List.getElem_cons_succ, Act.put, List.setIfInBounds_toArray, List.set_cons_zero, List.set_cons_succ]
        refine wpAnyH_take (i := 42) (v := ?vv42_1) rfl (by kernel_rfl) (by kernel_rfl) (by kernel_rfl) (fun _ _ _ h => h) (Or.inl ⟨by rfl, ?hy42_1⟩) (by assumption) ?rest42_1
        case hy42_1 => (intro w' hSw; (try dsimp only at hSw); go_simp; try with_reducible rfl)
        try simp only [List.getElem_toArray, List.getElem_cons_zero, List.getElem_cons_succ, Act.put, List.setIfInBounds_toArray, List.set_cons_zero, List.set_cons_succ]
        refine wpAnyH_take (i := 43) (v := ?vv43_1) rfl (by kernel_rfl) (by kernel_rfl) (by kernel_rfl) (fun _ _ _ h => h) (Or.inl ⟨by rfl, ?hy43_1⟩) (by assumption) ?rest43_1
        case hy43_1 => (intro w' hSw; (try dsimp only at hSw); go_simp; try with_reducible rfl)
        try simp only [List.getElem_toArray, List.getElem_cons_zero, List.getElem_cons_succ, Act.put, List.setIfInBounds_toArray, List.set_cons_zero, List.set_cons_succ]
        refine wpAnyH_take (i := 44) (v := ?vv44_1) rfl (by kernel_rfl) (by kernel_rfl) (by kernel_rfl) (fun _ _ _ h => h) (Or.inl ⟨by rfl, ?hy44_1⟩) (by assumption) ?rest44_1
        case hy44_1 => (intro w' hSw; (try dsimp only at hSw); go_simp; try with_reducible rfl)
        try simp only [List.getElem_toArray, List.getElem_cons_zero, List.getElem_cons_succ, Act.put, List.setIfInBounds_toArray, List.set_cons_zero, List.set_cons_succ]
        refine wpAnyH_take (i := 46) (v := ?vv46_1) rfl (by kernel_rfl) (by kernel_rfl) (by kernel_rfl) (fun _ _ _ h => h) (Or.inl ⟨by rfl, ?hy46_1⟩) (by assumption) ?rest46_1
        case hy46_1 => (intro w' hSw; (try dsimp only at hSw); go_simp; try with_reducible rfl)
        try simp only [List.getElem_toArray, List.getElem_cons_zero, List.getElem_cons_succ, Act.put, List.setIfInBounds_toArray, List.set_cons_zero, List.set_cons_succ]
        refine wpAnyH_take (i := 47) (v := ?vv47_1) rfl (by kernel_rfl) (by kernel_rfl) (by kernel_rfl) (fun _ _ _ h => h) (Or.inl ⟨by rfl, ?hy47_1⟩) (by assumption) ?rest47_1
        case hy47_1 => (intro w' hSw; (try dsimp only at hSw); go_simp; try with_reducible rfl)
        try simp only [List.getElem_toArray, List.getElem_cons_zero, List.getElem_cons_succ, Act.put, List.setIfInBounds_toArray, List.set_cons_zero, List.set_cons_succ]
        refine wpAnyH_take (i := 48) (v := ?vv48_1) rfl (by kernel_rfl) (by kernel_rfl) (by kernel_rfl) (fun _ _ _ h => h) (Or.inl ⟨by rfl, ?hy48_1⟩) (by assumption) ?rest48_1
        case hy48_1 => (intro w' hSw; (try dsimp only at hSw); go_simp; try with_reducible rfl)
        try simp only [List.getElem_toArray, List.getElem_cons_zero, List.getElem_cons_succ, Act.put, List.setIfInBounds_toArray, List.set_cons_zero, List.set_cons_succ]
        refine wpAnyH_take (i := 49) (v := ?vv49_1) rfl (by kernel_rfl) (by kernel_rfl) (by kernel_rfl) (fun _ _ _ h => h) (Or.inl ⟨by rfl, ?hy49_1⟩) (by assumption) ?rest49_1
        case hy49_1 => (intro w' hSw; (try dsimp only at hSw); go_simp; try with_reducible rfl)
        try simp only [List.getElem_toArray, List.getElem_cons_zero, List.getElem_cons_succ, Act.put, List.setIfInBounds_toArray, List.set_cons_zero, List.set_cons_succ]
        refine wpAnyH_take (i := 50) (v := ?vv50_1) rfl (by kernel_rfl) (by kernel_rfl) (by kernel_rfl) (fun _ _ _ h => h) (Or.inl ⟨by rfl, ?hy50_1⟩) (by assumption) ?rest50_1
        case hy50_1 => (intro w' hSw; (try dsimp only at hSw); go_simp; try with_reducible rfl)
        try simp only [List.getElem_toArray, List.getElem_cons_zero, List.getElem_cons_succ, Act.put, List.setIfInBounds_toArray, List.set_cons_zero, List.set_cons_succ]
        refine wpAnyH_ready (rs := [45]) (by kernel_rfl) (by simp) ?_
        refine AllReadyH.cons rfl (fun K hK => ?_) AllReadyH.nil
        go_simp
        go_at_call 36
        with_reducible refine (HA.out _ hHeld).mono ?_
        rintro e w9 ⟨rfl, hp9⟩
        refine hK.out _ _ hp9 (fun hHeld => ?_)
        clear hK K
        try simp only [List.getElem_toArray, List.getElem_cons_zero, List.getElem_cons_succ, Act.put, List.setIfInBounds_toArray, List.set_cons_zero, List.set_cons_succ]
        refine wpAnyH_ready (rs := [51]) (by kernel_rfl) (by simp) ?_
        refine AllReadyH.cons rfl (fun K hK => ?_) AllReadyH.nil
        go_simp
        go_at_call 45
        with_reducible refine (HRA.out _ hHeld).mono ?_
        rintro e w9 ⟨rfl, hp9⟩
        refine hK.out _ _ hp9 (fun hHeld => ?_)
        clear hK K
        try simp only [List.getElem_toArray, List.getElem_cons_zero, List.getElem_cons_succ, Act.put, List.setIfInBounds_toArray, List.set_cons_zero, List.set_cons_succ]
        refine wpAnyH_take (i := 52) (v := ?vv52_1) rfl (by kernel_rfl) (by kernel_rfl) (by kernel_rfl) (fun _ _ _ h => h) (Or.inl ⟨by rfl, ?hy52_1⟩) (by assumption) ?rest52_1
        case hy52_1 => (intro w' hSw; (try dsimp only at hSw); go_simp; try with_reducible rfl)
        try simp only [List.getElem_toArray, List.getElem_cons_zero, List.getElem_cons_succ, Act.put, List.setIfInBounds_toArray, List.set_cons_zero, List.set_cons_succ]
        refine wpAnyH_take (i := 53) (v := ?vv53_1) rfl (by kernel_rfl) (by kernel_rfl) (by kernel_rfl) (fun _ _ _ h => h) (Or.inl ⟨by rfl, ?hy53_1⟩) (by assumption) ?rest53_1
        case hy53_1 => (intro w' hSw; (try dsimp only at hSw); go_simp; try with_reducible rfl)
        try simp only [List.getElem_toArray, List.getElem_cons_zero, List.getElem_cons_succ, Act.put, List.setIfInBounds_toArray, List.set_cons_zero, List.set_cons_succ]
        refine wpAnyH_done (by kernel_rfl) ?_ _
        have HP9 := Lib.hid hHeld
        clear hHeld
        go_wp2_with fail
        go_roundw
        case rel => exact ⟨k + 1, by omega, by go_num, HP9.out⟩
        case measure => simp [intOf]; omega
      · obtain rfl : k = n1 := by omega
        obtain ⟨b3, hb3⟩ : ∃ b, b = linkedB l := ⟨_, rfl⟩
        rw [← hb3] at HEL HERL
        obtain ⟨b4, hb4⟩ : ∃ b, b = anchB l now an := ⟨_, rfl⟩
        rw [← hb4] at HEA HERA
        clear hb3 hb4
        go_wp2_with (first
          | (go_at_call 35; with_reducible refine (HEL.out _ HPW.out).mono ?_; rintro e wa ⟨rfl, pa⟩; have HPa := Lib.hid pa; clear pa)
          | (go_at_call 44; with_reducible refine (HERL.out _ HPa.out).mono ?_; rintro e wb ⟨rfl, pb⟩; have HPb := Lib.hid pb; clear pb)
          | (go_at_call 36; with_reducible refine (HEA.out _ HPb.out).mono ?_; rintro e wc ⟨rfl, pc⟩; have HPc := Lib.hid pc; clear pc)
          | (go_at_call 45; with_reducible refine (HERA.out _ HPc.out).mono ?_; rintro e wd ⟨rfl, pd⟩; have HPd := Lib.hid pd; clear pd)
          | (go_at_call 46; with_reducible refine (HSA.out _ HPd.out).mono ?_; rintro e we ⟨rfl, pe⟩; have HPe := Lib.hid pe; clear pe)
          | (go_at_call 30; with_reducible refine (HAK.out _ HPe.out).mono ?_; rintro e wf ⟨rfl, pf⟩; have HPf := Lib.hid pf; clear pf))
        go_ret
        exact ⟨rfl, HPB.out _ HPf.out⟩
  · go_ret
    exact ⟨rfl, HB0.out _ h3⟩
  · go_ret
    exact ⟨rfl, HB0.out _ h3⟩
end Go.Proofs.YtoinicmhkfomjaaGreatDoor
