/-
  TrustLink, walked.
-/
import Derived.Test.YtoinicmhkfomjaaGreatDoorJLinkR
namespace Go.Proofs.YtoinicmhkfomjaaGreatDoor
set_option linter.unusedSimpArgs false
set_option linter.unusedVariables false
open Go Go.RowKit
set_option maxRecDepth 100000

theorem keys_sx (W : World) : SX (W.alloc (.cells #[.string { data := #[97] }, .string { data := #[98] }, .string { data := #[99] }, .string { data := #[100] }, .string { data := #[114, 111, 111, 116] }] 9)) (.slice (some ⟨W.heap.size, 0, none⟩) 5 5) keysL := by
  refine ⟨_, _, rfl, fun _ => ⟨_, 0, rfl, by simp, fun j hj => ?_⟩⟩
  rw [cellAt (heap_alloc_new W _), Nat.zero_add]
  have hj' : j < 5 := hj
  rcases (show j = 0 ∨ j = 1 ∨ j = 2 ∨ j = 3 ∨ j = 4 by omega) with rfl | rfl | rfl | rfl | rfl <;> rfl
theorem keys_cell {W : World} {K : Nat} (h : SX W (.slice (some ⟨K, 0, none⟩) 5 5) keysL) {k : Nat} (hk : k < 5) : W.cell? ⟨K, k, none⟩ = some (sv (keyAt k)) := by
  obtain ⟨g, off, e, _, hc⟩ := h.at (show k < keysL.length from hk)
  cases e
  rw [Nat.zero_add] at hc; exact hc
/-- Between two rounds of the making. -/
def LkR (u : World) (N : Nat) (k : Nat) (v : Value) (W : World) : Prop := ∃ ps : List Cn, ps.map (·.1) = (List.range k).map (linkC N) ∧ CO u.heap.size W v ps ∧ NO u.heap.size W ps ∧ Ga u W
theorem LkR.start {u : World} (h : GA u) (N : Nat) : LkR u N 0 (.slice none 0 0) u := ⟨[], rfl, CO.nil _ _, fun x hx => (by cases hx), Ga.start h⟩
theorem LkR.form {u W : World} {N k : Nat} {v : Value} (h : LkR u N k v W) : ∃ A c, v = .slice A k c := by
  obtain ⟨ps, hm, hco, _, _⟩ := h
  obtain ⟨A, c, rfl, _⟩ := hco.form
  have : ps.length = k := by have := congrArg List.length hm; simpa using this
  exact ⟨A, c, by rw [this]⟩
theorem LkR.add {u wr w1 : World} {N k : Nat} {A : Option Addr} {cp : Nat} (h : LkR u N k (.slice A k cp) wr) (hgu : GA u) (hb1 : Below (wr.alloc (.cells #[sv xyT] 9)).heap.size (wr.alloc (.cells #[sv xyT] 9)) w1) (hk : k ≤ 3) :
    ∃ g cap w2, (Builtin.append_ #[29, 29] 29 #[.slice A k cp, .slice (some ⟨w1.heap.size, 0, none⟩) 1 1]).run Tryz.prog (w1.alloc (cellsC (linkC N k) (.slice (some ⟨wr.heap.size, 0, none⟩) 1 1))) = .ok (.slice (some ⟨g, 0, none⟩) (k + 1) cap) w2 ∧ LkR u N (k + 1) (.slice (some ⟨g, 0, none⟩) (k + 1) cap) w2 := by
  obtain ⟨ps, hm, hco, hno, hg⟩ := h
  have hl : ps.length = k := by have := congrArg List.length hm; simpa using this
  have htw : TW u.heap.size w1 (nvC (linkC N k, (some ⟨wr.heap.size, 0, none⟩, 1))) (linkC N k).names := (tw_one wr _ xyT rfl hg.1.size).below hb1
  obtain ⟨g, cap, w2, h1, h2, h3, h4⟩ := lk_step hco hno hg (below1 hb1) (linkC N k, (some ⟨wr.heap.size, 0, none⟩, 1)) htw (by omega) hgu
  rw [hl] at h1 h2
  exact ⟨g, cap, w2, h1, ps ++ [(linkC N k, (some ⟨wr.heap.size, 0, none⟩, 1))], by rw [List.map_append, hm, List.range_succ, List.map_append]; rfl, h2, h3, h4⟩
set_option maxHeartbeats 16000000 in
theorem trustLink_walk {w : World} {many which : Int} (hmb : -9223372036854775808 ≤ many ∧ many ≤ 9223372036854775807) (hwb : -9223372036854775808 ≤ which ∧ which ≤ 9223372036854775807) {how : Int} (hhb : 0 ≤ how ∧ how ≤ 255) (by' : List UInt8) (hh : by'.length ≤ 140737488351232) (hgl : GL w) (hlw : LWc w) :
    Calls Tryz.prog 9 #[.int .i64 many, .int .i64 which, .int .u8 how, sv by'] w fun e w' => e = .returned (.bool true) ∧ Below w.heap.size w w' := by
  have hz := str_size by'
  have HG0 := Lib.hid (Ga.start (w := w) ⟨hgl, hlw⟩)
  have HAW := Lib.hid (fun W (h : Ga w W) => jawake_p Ca.mk0 h)
  clear hgl hlw
  by_cases hl : 5000 < by'.length
  · have hl' : (5000 : Int) < (by'.length : Int) := by omega
    go_enter Tryz.func9, Tryz.ntmps9
    go_wp2_with (go_at_call 30; refine (HAW.out _ HG0.out).mono ?_; rintro e wa ⟨rfl, ha⟩)
    go_ret
    exact ⟨rfl, ha.1⟩
  have hl' : ¬ (5000 : Int) < (by'.length : Int) := by omega
  obtain ⟨n0, hn0, hne⟩ := at_lt many 4 (by omega) (by omega)
  obtain ⟨N, hN⟩ : ∃ N, N = 1 + n0 := ⟨_, rfl⟩
  have hNi : (1 : Int) + (n0 : Int) = (N : Int) := by omega
  have hN1 : 1 ≤ N := by omega
  have hN4 : N ≤ 4 := by omega
  have hne' : wrap64 ((IntKind.u64.wrap many).tmod 4) = (n0 : Int) := hne
  clear hN hne
  go_enter Tryz.func9, Tryz.ntmps9
  go_wp2_with (go_at_call 30; refine (HAW.out _ HG0.out).mono ?_; rintro e wa ⟨rfl, ha⟩)
  obtain ⟨K, hK⟩ : ∃ K, K = wa.heap.size := ⟨_, rfl⟩
  obtain ⟨u, hu⟩ : ∃ u, u = wa.alloc (.cells #[.string { data := #[97] }, .string { data := #[98] }, .string { data := #[99] }, .string { data := #[100] }, .string { data := #[114, 111, 111, 116] }] 9) := ⟨_, rfl⟩
  rw [← hu, ← hK]
  have hgu := ha.alloc (.cells #[.string { data := #[97] }, .string { data := #[98] }, .string { data := #[99] }, .string { data := #[100] }, .string { data := #[114, 111, 111, 116] }] 9)
  have hks := keys_sx wa
  rw [← hu] at hgu hks
  rw [← hK] at hks
  have HGU := Lib.hid hgu
  have HKS := Lib.hid hks
  clear hu hK hgu hks ha
  have hgau := HGU.out.2
  have HGAU := Lib.hid hgau
  have HBY := Lib.hid hl
  clear hgau hl hne' hNi hn0
  go_loopw [11, 12] (fun v i wr => ∃ k : Nat, k ≤ N ∧ i = .int .i64 (k : Int) ∧ LkR u N k v wr) (fun _ i _ => N - (intOf i).toNat)
  case atStart => exact ⟨0, Nat.zero_le _, rfl, LkR.start HGAU.out N⟩
  case round =>
    obtain ⟨k, hk, rfl, hlk⟩ := hrel
    obtain ⟨A, cp, rfl⟩ := hlk.form
    have HLK := Lib.hid hlk
    by_cases hlt : k < N
    · have hlt' : (k : Int) < (N : Int) := by omega
      have hbw : Below u.heap.size u wr := by obtain ⟨ps, _, _, _, hg⟩ := hlk; exact hg.1
      have hgw : GA wr := HGAU.out.below hbw
      obtain ⟨m, hm⟩ : ∃ m, m = k + 1 := ⟨_, rfl⟩
      have hwk : IntKind.i64.wrap ((k : Int) + 1) = (m : Int) := by rw [show (k : Int) + 1 = (m : Int) by omega]; simp [IntKind.wrap, IntKind.bits, IntKind.signed]; omega
      have hm5 : m < 5 := by omega
      have hk5 : k < 5 := by omega
      have c1 := keys_cell (HKS.out.step hbw) hm5
      have c2 := keys_cell (HKS.out.step hbw) hk5
      have hg2 := Ga.alloc (Ga.start hgw) (.cells #[sv xyT] 9)
      have HK0 := Lib.hid (show K < wr.heap.size by obtain ⟨g, off, e, hg, _⟩ := (HKS.out.step hbw).at (show 0 < keysL.length by decide); cases e; exact hg)
      have hK0 := HK0.out
      obtain ⟨c, hc⟩ : ∃ c, c = linkC N k := ⟨_, rfl⟩
      have HST := Lib.hid (fun w1 hb => hlk.add HGAU.out (w1 := w1) hb (by omega))
      rw [← hc] at HST
      have HM := Lib.hid hm
      by_cases hlast : k + 1 = N
      · have HO := Lib.hid (show Calls Tryz.prog 31 #[sv (keyAt k), .string { data := #[114, 111, 111, 116] }, .bool (decide (0 < k)), .slice (some ⟨wr.heap.size, 0, none⟩) 1 1] (wr.alloc (.cells #[.string { data := #[120, 46, 121] }] 9)) (fun e w' => e = .returned (.agg #[sv c.key, sv c.sig, .slice (some ⟨wr.heap.size, 0, none⟩) 1 1, .int .i64 c.fr, .int .i64 c.un, .bool c.ca]) ∧ Below (wr.alloc (.cells #[sv xyT] 9)).heap.size (wr.alloc (.cells #[sv xyT] 9)) w') by
          have := @one_any (wr.alloc (.cells #[sv xyT] 9)) (keyAt k) rootT (decide (0 < k)) [xyT] (some ⟨wr.heap.size, 0, none⟩) 1 1 (by decide) hg2.2
          rw [show oneC (keyAt k) rootT (decide (0 < k)) [xyT] = c by rw [hc]; unfold linkC; rw [if_pos hlast]] at this
          exact this)
        have hsub : (N : Int) - 1 = (k : Int) := by omega
        have hsub2 : IntKind.i64.wrap ((N : Int) - 1) = (k : Int) := by rw [hsub]; simp [IntKind.wrap, IntKind.bits, IntKind.signed]; omega
        clear hlk hbw hgw hg2 hc hlast hm
        have HNN := Lib.hid hsub
        go_wp2_with (first
          | (go_at_call 31; with_reducible refine HO.out.mono ?_; rintro e w1 ⟨rfl, hb1⟩; obtain ⟨g, cap, w2, hr1, hr2⟩ := HST.out _ hb1; have HR1 := Lib.hid hr1; have HR2 := Lib.hid hr2; clear hr1 hr2 hb1)
          | (at_builtin; refine stepApp (v := .slice A k cp) (xv := .slice (some ⟨w1.heap.size, 0, none⟩) 1 1) rfl _ _ 29 rfl rfl rfl HR1.out ?_))
        go_roundw
        case rel => exact ⟨m, by have := HM.out; omega, rfl, by rw [HM.out]; exact HR2.out⟩
        case measure => have := HM.out; simp [intOf]; omega
      · have HO := Lib.hid (show Calls Tryz.prog 31 #[sv (keyAt k), sv (keyAt m), .bool (decide (0 < k)), .slice (some ⟨wr.heap.size, 0, none⟩) 1 1] (wr.alloc (.cells #[.string { data := #[120, 46, 121] }] 9)) (fun e w' => e = .returned (.agg #[sv c.key, sv c.sig, .slice (some ⟨wr.heap.size, 0, none⟩) 1 1, .int .i64 c.fr, .int .i64 c.un, .bool c.ca]) ∧ Below (wr.alloc (.cells #[sv xyT] 9)).heap.size (wr.alloc (.cells #[sv xyT] 9)) w') by
          have hkl : (keyAt m).length ≤ 9223372036854775807 := by
            rcases (show m = 1 ∨ m = 2 ∨ m = 3 ∨ m = 4 by omega) with e | e | e | e <;> rw [e] <;> decide
          have := @one_any (wr.alloc (.cells #[sv xyT] 9)) (keyAt k) (keyAt m) (decide (0 < k)) [xyT] (some ⟨wr.heap.size, 0, none⟩) 1 1 hkl hg2.2
          rw [show oneC (keyAt k) (keyAt m) (decide (0 < k)) [xyT] = c by rw [hc, hm]; unfold linkC; rw [if_neg hlast]] at this
          exact this)
        obtain ⟨n1, hn1⟩ : ∃ n1, n1 = N - 1 := ⟨_, rfl⟩
        have hsub : (N : Int) - 1 = (n1 : Int) := by omega
        have hsub2 : IntKind.i64.wrap ((N : Int) - 1) = (n1 : Int) := by rw [hsub]; simp [IntKind.wrap, IntKind.bits, IntKind.signed]; omega
        have hkn : ¬ (k : Int) = (n1 : Int) := by omega
        have hkn2 : ((k : Int) == (n1 : Int)) = false := by rw [beq_eq_false_iff_ne]; exact hkn
        have hkn3 : ¬ k = n1 := by omega
        clear hlk hbw hgw hg2 hc hlast hm hn1
        have HNN := Lib.hid hsub
        go_wp2_with (first
          | (go_at_call 31; with_reducible refine HO.out.mono ?_; rintro e w1 ⟨rfl, hb1⟩; obtain ⟨g, cap, w2, hr1, hr2⟩ := HST.out _ hb1; have HR1 := Lib.hid hr1; have HR2 := Lib.hid hr2; clear hr1 hr2 hb1)
          | (at_builtin; refine stepApp (v := .slice A k cp) (xv := .slice (some ⟨w1.heap.size, 0, none⟩) 1 1) rfl _ _ 29 rfl rfl rfl HR1.out ?_))
        go_roundw
        case rel => exact ⟨m, by have := HM.out; omega, rfl, by rw [HM.out]; exact HR2.out⟩
        case measure => have := HM.out; simp [intOf]; omega
    · obtain rfl : N = k := by omega
      obtain ⟨ps, hm, hco, hno, hga⟩ := hlk
      have hpl : ps.length = N := by have := congrArg List.length hm; simpa using this
      obtain ⟨g, cp', e1, hbg, hgl2, hcp⟩ := hco.blk (by omega)
      rw [hpl] at e1 hcp
      simp only [Value.slice.injEq] at e1
      obtain ⟨rfl, _, rfl⟩ := e1
      have hml : ps.map (·.1) = linksL N := hm
      obtain ⟨Q, hQe⟩ : ∃ Q : World → Prop, Q = fun W => Ga u W ∧ CO u.heap.size W (.slice (some ⟨g, 0, none⟩) N cp) ps ∧ NO u.heap.size W ps := ⟨_, rfl⟩
      have HQ := Lib.hid (show Ca Q by rw [hQe]; exact ⟨fun h hb => ⟨h.1.step hb, h.2.1.below hb, h.2.2.below hb⟩, fun h => h.1.2⟩)
      have q0 : Q wr := by rw [hQe]; exact ⟨hga, hco, hno⟩
      have HB := Lib.hid (show ∀ W, Q W → Below w.heap.size w W by rw [hQe]; exact fun W h => HGU.out.1.trans (h.1.1.mono HGU.out.1.size))
      obtain ⟨nv, hnv⟩ : ∃ nv, nv = nvOf ps := ⟨_, rfl⟩
      have HCR := Lib.hid (show ∀ W, Q W → CR W (some ⟨g, 0, none⟩) (linksL N) nv by rw [hQe, hnv, ← hml]; exact fun W h => h.2.1.crs h.2.2)
      have HCO := Lib.hid (show ∀ W, Q W → CO u.heap.size W (.slice (some ⟨g, 0, none⟩) N cp) ps ∧ NO u.heap.size W ps by rw [hQe]; exact fun W h => h.2)
      have HBU := Lib.hid (show ∀ W, Q W → u.heap.size ≤ W.heap.size by rw [hQe]; exact fun W h => h.1.1.size)
      have HCP := Lib.hid hcp
      have HPL := Lib.hid hpl
      have HML := Lib.hid hml
      have HNV := Lib.hid hnv
      have HSH := Lib.hid (links_shortR hN4)
      have HN1 := Lib.hid hN1
      have HN4 := Lib.hid hN4
      have HA0 := Lib.hid (links_anch hN1)
      have HJ0 := Lib.hid (links_judge hN1 hN4)
      obtain ⟨kk, hkk, hke⟩ := at_lt which N (by omega) (by omega)
      have hwN : IntKind.u64.wrap (N : Int) = (N : Int) := by simp [IntKind.wrap, IntKind.bits, IntKind.signed]; omega
      have hN0 : ¬ (N : Int) = 0 := by omega
      have hN02 : ((N : Int) == 0) = false := by rw [beq_eq_false_iff_ne]; exact hN0
      have hshk := links_short (N := N) (i := kk) hkk hN4
      have hby : by'.length ≤ 5000 := by have := HBY.out; omega
      have hjz : ∀ C, anchB ((linksL N).set kk C) 15 [rtL] = false → ∃ z, z = judgeN (((linksL N).set kk C).map encL) xyT 15 [rtL] ∧ z ≠ 0 := fun C h => ⟨_, rfl, not_right h⟩
      clear hm hco hno hga hpl hml hQe hnv hk hlt hcp HLK
      have h3 : how % 3 = 0 ∨ how % 3 = 1 ∨ how % 3 = 2 := by omega
      have h3t : how.tmod 3 = how % 3 := Int.tmod_eq_emod_of_nonneg hhb.1
      rcases h3 with hr | hr | hr
      · rw [hr] at h3t
        obtain ⟨sg, hsg⟩ : ∃ sg, sg = (linkC N kk).sig := ⟨_, rfl⟩
        have HSG := Lib.hid hsg
        by_cases he1 : by' = sg
        · have hq1 : (by' == sg) = true := by simpa using he1
          clear he1 hjz hsg
          go_wp2_with (first
            | (go_at_call 32; (with_reducible refine (judge_o HQ2.out q8 (links_len N) HN4.out hx8 hc8 q8.2 HJ0.out).mono ?_); rintro e w9 ⟨rfl, q9⟩; obtain ⟨g2, cap2, w10, hr, q10, hc2, hfz, hcl2, hcl1, hset⟩ := odd_ready HQ2.out q9 (HCO.out _ q9.1).1 (HCO.out _ q9.1).2 (HBU.out _ q9.1) HPL.out HN1.out HN4.out HML.out; rw [← HNV.out] at hcl1 hcl2 hset; have HR1 := Lib.hid hr; have a1 : w10.cell? ⟨g, kk * 6 + 1, none⟩ = some (sv sg) := (by rw [hcl1 kk 1 hkk (by omega), HSG.out]; rfl); clear hcl1 hcl2 hset hfz; clear hr)
            | (go_at_call 33; with_reducible refine (sent_o HQ2.out q7 (links_len N) (HCR.out _ q7.1) HSH.out HN4.out).mono ?_; rintro e w8 ⟨A8, c8, rfl, hx8, hc8, q8⟩)
            | (go_at_call 36; with_reducible refine (anch_o HQ2.out q6 (links_len N) (HCR.out _ q6.1) HSH.out HCP.out q6.2 HA0.out).mono ?_; rintro e w7 ⟨rfl, q7⟩)
            | (go_at_call 35; with_reducible refine (linked_o HQ2.out q5 (links_len N) (HCR.out _ q5.1) HSH.out).mono ?_; rintro e w6 ⟨rfl, q6⟩; rw [links_linked])
            | (go_at_call 15; refine (digest_root (HQ.out.ga q0)).mono ?_; rintro e w5 ⟨rfl, hb5⟩; have HQ2 := Lib.hid (HQ.out.and (Q := fun W => SX W (.slice (some ⟨w5.heap.size, 0, none⟩) 1 1) [rtL]) (fun h hb => h.step hb)); have q5 : Q (w5.alloc (.cells #[sv rtL] 9)) ∧ SX (w5.alloc (.cells #[sv rtL] 9)) (.slice (some ⟨w5.heap.size, 0, none⟩) 1 1) [rtL] := ⟨HQ.out.alloc (HQ.out.step q0 hb5) _, sx_one w5 _ rtL rfl⟩; clear hb5)
            | (at_builtin; refine stepApp (v := .slice (some ⟨w9.heap.size, 0, none⟩) 0 0) (xv := .slice (some ⟨g, 0, none⟩) N cp) rfl _ _ 29 rfl rfl rfl HR1.out ?_))
          go_ret
          exact ⟨rfl, HB.out _ q10.1⟩
        · have hq1 : (by' == sg) = false := by simpa using he1
          have c0f : ∀ (W : World) (R : Nat), SX W (.slice (some ⟨R, 0, none⟩) 1 1) [rtL] → W.cell? ⟨R, 0, none⟩ = some (sv rtL) := fun W R h => by
            obtain ⟨g', off', e, _, hc⟩ := h.at (k := 0) (by decide)
            cases e; exact hc
          have HCF := Lib.hid c0f
          obtain ⟨rt, hrt⟩ : ∃ rt, rt = rtL := ⟨_, rfl⟩
          have HRT := Lib.hid hrt
          by_cases he2 : by' = rt
          · have hq2 : (by' == rt) = true := by simpa using he2
            clear he1 he2 hjz hsg c0f hrt
            go_wp2_with (first
              | (go_at_call 32; (with_reducible refine (judge_o HQ2.out q8 (links_len N) HN4.out hx8 hc8 q8.2 HJ0.out).mono ?_); rintro e w9 ⟨rfl, q9⟩; obtain ⟨g2, cap2, w10, hr, q10, hc2, hfz, hcl2, hcl1, hset⟩ := odd_ready HQ2.out q9 (HCO.out _ q9.1).1 (HCO.out _ q9.1).2 (HBU.out _ q9.1) HPL.out HN1.out HN4.out HML.out; rw [← HNV.out] at hcl1 hcl2 hset; have HR1 := Lib.hid hr; have a1 : w10.cell? ⟨g, kk * 6 + 1, none⟩ = some (sv sg) := (by rw [hcl1 kk 1 hkk (by omega), HSG.out]; rfl); have a2 : w10.cell? ⟨w5.heap.size, 0, none⟩ = some (sv rt) := (by rw [HRT.out]; exact HCF.out _ _ q10.2); clear hcl1 hcl2 hset hfz; clear hr)
              | (go_at_call 33; with_reducible refine (sent_o HQ2.out q7 (links_len N) (HCR.out _ q7.1) HSH.out HN4.out).mono ?_; rintro e w8 ⟨A8, c8, rfl, hx8, hc8, q8⟩)
              | (go_at_call 36; with_reducible refine (anch_o HQ2.out q6 (links_len N) (HCR.out _ q6.1) HSH.out HCP.out q6.2 HA0.out).mono ?_; rintro e w7 ⟨rfl, q7⟩)
              | (go_at_call 35; with_reducible refine (linked_o HQ2.out q5 (links_len N) (HCR.out _ q5.1) HSH.out).mono ?_; rintro e w6 ⟨rfl, q6⟩; rw [links_linked])
              | (go_at_call 15; refine (digest_root (HQ.out.ga q0)).mono ?_; rintro e w5 ⟨rfl, hb5⟩; have HQ2 := Lib.hid (HQ.out.and (Q := fun W => SX W (.slice (some ⟨w5.heap.size, 0, none⟩) 1 1) [rtL]) (fun h hb => h.step hb)); have q5 : Q (w5.alloc (.cells #[sv rtL] 9)) ∧ SX (w5.alloc (.cells #[sv rtL] 9)) (.slice (some ⟨w5.heap.size, 0, none⟩) 1 1) [rtL] := ⟨HQ.out.alloc (HQ.out.step q0 hb5) _, sx_one w5 _ rtL rfl⟩; clear hb5)
              | (at_builtin; refine stepApp (v := .slice (some ⟨w9.heap.size, 0, none⟩) 0 0) (xv := .slice (some ⟨g, 0, none⟩) N cp) rfl _ _ 29 rfl rfl rfl HR1.out ?_))
            go_ret
            exact ⟨rfl, HB.out _ q10.1⟩
          · have hq2 : (by' == rt) = false := by simpa using he2
            obtain ⟨C, hC⟩ : ∃ C : Ct, C = { linkC N kk with sig := by' } := ⟨_, rfl⟩
            have HAO := Lib.hid (show anchB ((linksL N).set kk C) 15 [rtL] = false by rw [hC]; exact odd_sig HN1.out HN4.out hkk (by rw [← hsg]; exact he1) (by rw [← hrt]; exact he2))
            have HSO := Lib.hid (odd_shortR (N := N) (k := kk) (c := C) HN4.out (by rw [hC]; exact ⟨hshk.1, Nat.le_trans hby (by decide), hshk.2.2⟩))
            have HLO := Lib.hid (show ((linksL N).set kk C).length = N by rw [List.length_set, links_len])
            obtain ⟨z, hz1, hz2⟩ := hjz C HAO.out
            have HZ := Lib.hid hz1
            have hz3 : ((z : Int) != 0) = true := by rw [bne_iff_ne]; omega
            have hz4 : ¬ (z : Int) = 0 := by omega
            have HCV := Lib.hid (show ∀ i, i < 6 → (cvs C (nv kk))[i]? = if i = 1 then some (sv by') else (cvs (linkC N kk) (nv kk))[i]? by
              rw [hC]; intro i hi
              rcases (show i = 0 ∨ i = 1 ∨ i = 2 ∨ i = 3 ∨ i = 4 ∨ i = 5 by omega) with rfl | rfl | rfl | rfl | rfl | rfl <;> rfl)
            have HCN := Lib.hid (show C.names = (linkC N kk).names by rw [hC])
            clear he1 he2 hjz hsg c0f hrt hC hz1 hz2 hshk hby
            go_wp2_with (first
              | (go_at_call 32; (with_reducible refine (judge_o HQ3.out q13 HLO.out HN4.out hx13 hc13 q13.1.2 rfl).mono ?_); rintro e w14 ⟨rfl, q14⟩; rw [← HZ.out])
              | (go_at_call 33; with_reducible refine (sent_o HQ3.out q12 HLO.out q12.2 HSO.out HN4.out).mono ?_; rintro e w13 ⟨A13, c13, rfl, hx13, hc13, q13⟩)
              | (go_at_call 36; with_reducible refine (anch_o HQ3.out q11 HLO.out q11.2 HSO.out hc2 q11.1.2 HAO.out).mono ?_; rintro e w12 ⟨rfl, q12⟩)
              | (go_at_call 32; (with_reducible refine (judge_o HQ2.out q8 (links_len N) HN4.out hx8 hc8 q8.2 HJ0.out).mono ?_); rintro e w9 ⟨rfl, q9⟩; obtain ⟨g2, cap2, w10, hr, q10, hc2, hfz, hcl2, hcl1, hset⟩ := odd_ready HQ2.out q9 (HCO.out _ q9.1).1 (HCO.out _ q9.1).2 (HBU.out _ q9.1) HPL.out HN1.out HN4.out HML.out; rw [← HNV.out] at hcl1 hcl2 hset; have HR1 := Lib.hid hr; have a1 : w10.cell? ⟨g, kk * 6 + 1, none⟩ = some (sv sg) := (by rw [hcl1 kk 1 hkk (by omega), HSG.out]; rfl); have a2 : w10.cell? ⟨w5.heap.size, 0, none⟩ = some (sv rt) := (by rw [HRT.out]; exact HCF.out _ _ q10.2); obtain ⟨qs, cs⟩ := hset kk 1 (sv by') C hkk (by omega) HCV.out HCN.out; have HQ3 := Lib.hid (HQ2.out.and (Q := fun W => CR W (some ⟨g2, 0, none⟩) ((linksL N).set kk C) nv) (fun h hb => h.step hb)); have q11 : (Q (w10.setCell ⟨g2, kk * 6 + 1, none⟩ (sv by')) ∧ SX (w10.setCell ⟨g2, kk * 6 + 1, none⟩ (sv by')) (.slice (some ⟨w5.heap.size, 0, none⟩) 1 1) [rtL]) ∧ CR (w10.setCell ⟨g2, kk * 6 + 1, none⟩ (sv by')) (some ⟨g2, 0, none⟩) ((linksL N).set kk C) nv := ⟨qs, cs⟩; have b0 := hcl2 kk 1 hkk (by omega); have b1 := hfz (kk * 6 + 1); clear hcl1 hcl2 hset hfz qs cs; clear hr)
              | (go_at_call 33; with_reducible refine (sent_o HQ2.out q7 (links_len N) (HCR.out _ q7.1) HSH.out HN4.out).mono ?_; rintro e w8 ⟨A8, c8, rfl, hx8, hc8, q8⟩)
              | (go_at_call 36; with_reducible refine (anch_o HQ2.out q6 (links_len N) (HCR.out _ q6.1) HSH.out HCP.out q6.2 HA0.out).mono ?_; rintro e w7 ⟨rfl, q7⟩)
              | (go_at_call 35; with_reducible refine (linked_o HQ2.out q5 (links_len N) (HCR.out _ q5.1) HSH.out).mono ?_; rintro e w6 ⟨rfl, q6⟩; rw [links_linked])
              | (go_at_call 15; refine (digest_root (HQ.out.ga q0)).mono ?_; rintro e w5 ⟨rfl, hb5⟩; have HQ2 := Lib.hid (HQ.out.and (Q := fun W => SX W (.slice (some ⟨w5.heap.size, 0, none⟩) 1 1) [rtL]) (fun h hb => h.step hb)); have q5 : Q (w5.alloc (.cells #[sv rtL] 9)) ∧ SX (w5.alloc (.cells #[sv rtL] 9)) (.slice (some ⟨w5.heap.size, 0, none⟩) 1 1) [rtL] := ⟨HQ.out.alloc (HQ.out.step q0 hb5) _, sx_one w5 _ rtL rfl⟩; clear hb5)
              | (at_builtin; refine stepApp (v := .slice (some ⟨w9.heap.size, 0, none⟩) 0 0) (xv := .slice (some ⟨g, 0, none⟩) N cp) rfl _ _ 29 rfl rfl rfl HR1.out ?_))
            go_ret
            exact ⟨rfl, HB.out _ q14.1.1⟩
      · rw [hr] at h3t
        by_cases hk0 : kk = 0
        · have hk1 : ((kk : Int) == 0) = true := by rw [beq_iff_eq]; omega
          obtain ⟨C, hC⟩ : ∃ C : Ct, C = { linkC N kk with ca := false } := ⟨_, rfl⟩
          have HAO := Lib.hid (show anchB ((linksL N).set kk C) 15 [rtL] = true by rw [hC]; exact (by rw [hk0]; exact odd_ca0 HN1.out))
          have HSO := Lib.hid (odd_shortR (N := N) (k := kk) (c := C) HN4.out (by rw [hC]; exact ⟨hshk.1, hshk.2.1, hshk.2.2⟩))
          have HLO := Lib.hid (show ((linksL N).set kk C).length = N by rw [List.length_set, links_len])
          have HCV := Lib.hid (show ∀ i, i < 6 → (cvs C (nv kk))[i]? = if i = 5 then some (.bool false) else (cvs (linkC N kk) (nv kk))[i]? by
            rw [hC]; intro i hi
            rcases (show i = 0 ∨ i = 1 ∨ i = 2 ∨ i = 3 ∨ i = 4 ∨ i = 5 by omega) with rfl | rfl | rfl | rfl | rfl | rfl <;> rfl)
          have HCN := Lib.hid (show C.names = (linkC N kk).names by rw [hC])
          clear hjz hC hk0 hshk hby
          go_wp2_with (first
            | (go_at_call 36; with_reducible refine (anch_o HQ3.out q11 HLO.out q11.2 HSO.out hc2 q11.1.2 HAO.out).mono ?_; rintro e w12 ⟨rfl, q12⟩)
            | (go_at_call 32; (with_reducible refine (judge_o HQ2.out q8 (links_len N) HN4.out hx8 hc8 q8.2 HJ0.out).mono ?_); rintro e w9 ⟨rfl, q9⟩; obtain ⟨g2, cap2, w10, hr, q10, hc2, hfz, hcl2, hcl1, hset⟩ := odd_ready HQ2.out q9 (HCO.out _ q9.1).1 (HCO.out _ q9.1).2 (HBU.out _ q9.1) HPL.out HN1.out HN4.out HML.out; rw [← HNV.out] at hcl1 hcl2 hset; have HR1 := Lib.hid hr; obtain ⟨qs, cs⟩ := hset kk 5 (.bool false) C hkk (by omega) HCV.out HCN.out; have HQ3 := Lib.hid (HQ2.out.and (Q := fun W => CR W (some ⟨g2, 0, none⟩) ((linksL N).set kk C) nv) (fun h hb => h.step hb)); have q11 : (Q (w10.setCell ⟨g2, kk * 6 + 5, none⟩ (.bool false)) ∧ SX (w10.setCell ⟨g2, kk * 6 + 5, none⟩ (.bool false)) (.slice (some ⟨w5.heap.size, 0, none⟩) 1 1) [rtL]) ∧ CR (w10.setCell ⟨g2, kk * 6 + 5, none⟩ (.bool false)) (some ⟨g2, 0, none⟩) ((linksL N).set kk C) nv := ⟨qs, cs⟩; have b0 := hcl2 kk 5 hkk (by omega); have b1 := hfz (kk * 6 + 5); clear hcl1 hcl2 hset hfz qs cs; clear hr)
            | (go_at_call 33; with_reducible refine (sent_o HQ2.out q7 (links_len N) (HCR.out _ q7.1) HSH.out HN4.out).mono ?_; rintro e w8 ⟨A8, c8, rfl, hx8, hc8, q8⟩)
            | (go_at_call 36; with_reducible refine (anch_o HQ2.out q6 (links_len N) (HCR.out _ q6.1) HSH.out HCP.out q6.2 HA0.out).mono ?_; rintro e w7 ⟨rfl, q7⟩)
            | (go_at_call 35; with_reducible refine (linked_o HQ2.out q5 (links_len N) (HCR.out _ q5.1) HSH.out).mono ?_; rintro e w6 ⟨rfl, q6⟩; rw [links_linked])
            | (go_at_call 15; refine (digest_root (HQ.out.ga q0)).mono ?_; rintro e w5 ⟨rfl, hb5⟩; have HQ2 := Lib.hid (HQ.out.and (Q := fun W => SX W (.slice (some ⟨w5.heap.size, 0, none⟩) 1 1) [rtL]) (fun h hb => h.step hb)); have q5 : Q (w5.alloc (.cells #[sv rtL] 9)) ∧ SX (w5.alloc (.cells #[sv rtL] 9)) (.slice (some ⟨w5.heap.size, 0, none⟩) 1 1) [rtL] := ⟨HQ.out.alloc (HQ.out.step q0 hb5) _, sx_one w5 _ rtL rfl⟩; clear hb5)
            | (at_builtin; refine stepApp (v := .slice (some ⟨w9.heap.size, 0, none⟩) 0 0) (xv := .slice (some ⟨g, 0, none⟩) N cp) rfl _ _ 29 rfl rfl rfl HR1.out ?_))
          go_ret
          exact ⟨rfl, HB.out _ q12.1.1⟩
        · have hk1 : ((kk : Int) == 0) = false := by rw [beq_eq_false_iff_ne]; omega
          have hk2 : ¬ (kk : Int) = 0 := by omega
          obtain ⟨C, hC⟩ : ∃ C : Ct, C = { linkC N kk with ca := false } := ⟨_, rfl⟩
          have HAO := Lib.hid (show anchB ((linksL N).set kk C) 15 [rtL] = false by rw [hC]; exact odd_ca HN1.out HN4.out hkk (by omega))
          have HSO := Lib.hid (odd_shortR (N := N) (k := kk) (c := C) HN4.out (by rw [hC]; exact ⟨hshk.1, hshk.2.1, hshk.2.2⟩))
          have HLO := Lib.hid (show ((linksL N).set kk C).length = N by rw [List.length_set, links_len])
          obtain ⟨z, hz1, hz2⟩ := hjz C HAO.out
          have HZ := Lib.hid hz1
          have hz3 : ((z : Int) != 0) = true := by rw [bne_iff_ne]; omega
          have hz4 : ¬ (z : Int) = 0 := by omega
          have HCV := Lib.hid (show ∀ i, i < 6 → (cvs C (nv kk))[i]? = if i = 5 then some (.bool false) else (cvs (linkC N kk) (nv kk))[i]? by
            rw [hC]; intro i hi
            rcases (show i = 0 ∨ i = 1 ∨ i = 2 ∨ i = 3 ∨ i = 4 ∨ i = 5 by omega) with rfl | rfl | rfl | rfl | rfl | rfl <;> rfl)
          have HCN := Lib.hid (show C.names = (linkC N kk).names by rw [hC])
          clear hjz hC hk0 hz1 hz2 hshk hby
          go_wp2_with (first
            | (go_at_call 32; (with_reducible refine (judge_o HQ3.out q13 HLO.out HN4.out hx13 hc13 q13.1.2 rfl).mono ?_); rintro e w14 ⟨rfl, q14⟩; rw [← HZ.out])
            | (go_at_call 33; with_reducible refine (sent_o HQ3.out q12 HLO.out q12.2 HSO.out HN4.out).mono ?_; rintro e w13 ⟨A13, c13, rfl, hx13, hc13, q13⟩)
            | (go_at_call 36; with_reducible refine (anch_o HQ3.out q11 HLO.out q11.2 HSO.out hc2 q11.1.2 HAO.out).mono ?_; rintro e w12 ⟨rfl, q12⟩)
            | (go_at_call 32; (with_reducible refine (judge_o HQ2.out q8 (links_len N) HN4.out hx8 hc8 q8.2 HJ0.out).mono ?_); rintro e w9 ⟨rfl, q9⟩; obtain ⟨g2, cap2, w10, hr, q10, hc2, hfz, hcl2, hcl1, hset⟩ := odd_ready HQ2.out q9 (HCO.out _ q9.1).1 (HCO.out _ q9.1).2 (HBU.out _ q9.1) HPL.out HN1.out HN4.out HML.out; rw [← HNV.out] at hcl1 hcl2 hset; have HR1 := Lib.hid hr; obtain ⟨qs, cs⟩ := hset kk 5 (.bool false) C hkk (by omega) HCV.out HCN.out; have HQ3 := Lib.hid (HQ2.out.and (Q := fun W => CR W (some ⟨g2, 0, none⟩) ((linksL N).set kk C) nv) (fun h hb => h.step hb)); have q11 : (Q (w10.setCell ⟨g2, kk * 6 + 5, none⟩ (.bool false)) ∧ SX (w10.setCell ⟨g2, kk * 6 + 5, none⟩ (.bool false)) (.slice (some ⟨w5.heap.size, 0, none⟩) 1 1) [rtL]) ∧ CR (w10.setCell ⟨g2, kk * 6 + 5, none⟩ (.bool false)) (some ⟨g2, 0, none⟩) ((linksL N).set kk C) nv := ⟨qs, cs⟩; have b0 := hcl2 kk 5 hkk (by omega); have b1 := hfz (kk * 6 + 5); clear hcl1 hcl2 hset hfz qs cs; clear hr)
            | (go_at_call 33; with_reducible refine (sent_o HQ2.out q7 (links_len N) (HCR.out _ q7.1) HSH.out HN4.out).mono ?_; rintro e w8 ⟨A8, c8, rfl, hx8, hc8, q8⟩)
            | (go_at_call 36; with_reducible refine (anch_o HQ2.out q6 (links_len N) (HCR.out _ q6.1) HSH.out HCP.out q6.2 HA0.out).mono ?_; rintro e w7 ⟨rfl, q7⟩)
            | (go_at_call 35; with_reducible refine (linked_o HQ2.out q5 (links_len N) (HCR.out _ q5.1) HSH.out).mono ?_; rintro e w6 ⟨rfl, q6⟩; rw [links_linked])
            | (go_at_call 15; refine (digest_root (HQ.out.ga q0)).mono ?_; rintro e w5 ⟨rfl, hb5⟩; have HQ2 := Lib.hid (HQ.out.and (Q := fun W => SX W (.slice (some ⟨w5.heap.size, 0, none⟩) 1 1) [rtL]) (fun h hb => h.step hb)); have q5 : Q (w5.alloc (.cells #[sv rtL] 9)) ∧ SX (w5.alloc (.cells #[sv rtL] 9)) (.slice (some ⟨w5.heap.size, 0, none⟩) 1 1) [rtL] := ⟨HQ.out.alloc (HQ.out.step q0 hb5) _, sx_one w5 _ rtL rfl⟩; clear hb5)
            | (at_builtin; refine stepApp (v := .slice (some ⟨w9.heap.size, 0, none⟩) 0 0) (xv := .slice (some ⟨g, 0, none⟩) N cp) rfl _ _ 29 rfl rfl rfl HR1.out ?_))
          go_ret
          exact ⟨rfl, HB.out _ q14.1.1⟩
      · rw [hr] at h3t
        obtain ⟨C, hC⟩ : ∃ C : Ct, C = { linkC N kk with un := 14 } := ⟨_, rfl⟩
        have HAO := Lib.hid (show anchB ((linksL N).set kk C) 15 [rtL] = false by rw [hC]; exact odd_un HN1.out HN4.out hkk)
        have HSO := Lib.hid (odd_shortR (N := N) (k := kk) (c := C) HN4.out (by rw [hC]; exact ⟨hshk.1, hshk.2.1, hshk.2.2⟩))
        have HLO := Lib.hid (show ((linksL N).set kk C).length = N by rw [List.length_set, links_len])
        obtain ⟨z, hz1, hz2⟩ := hjz C HAO.out
        have HZ := Lib.hid hz1
        have hz3 : ((z : Int) != 0) = true := by rw [bne_iff_ne]; omega
        have hz4 : ¬ (z : Int) = 0 := by omega
        have HCV := Lib.hid (show ∀ i, i < 6 → (cvs C (nv kk))[i]? = if i = 4 then some (.int .i64 14) else (cvs (linkC N kk) (nv kk))[i]? by
          rw [hC]; intro i hi
          rcases (show i = 0 ∨ i = 1 ∨ i = 2 ∨ i = 3 ∨ i = 4 ∨ i = 5 by omega) with rfl | rfl | rfl | rfl | rfl | rfl <;> rfl)
        have HCN := Lib.hid (show C.names = (linkC N kk).names by rw [hC])
        clear hjz hC hz1 hz2 hshk hby
        go_wp2_with (first
          | (go_at_call 32; (with_reducible refine (judge_o HQ3.out q13 HLO.out HN4.out hx13 hc13 q13.1.2 rfl).mono ?_); rintro e w14 ⟨rfl, q14⟩; rw [← HZ.out])
          | (go_at_call 33; with_reducible refine (sent_o HQ3.out q12 HLO.out q12.2 HSO.out HN4.out).mono ?_; rintro e w13 ⟨A13, c13, rfl, hx13, hc13, q13⟩)
          | (go_at_call 36; with_reducible refine (anch_o HQ3.out q11 HLO.out q11.2 HSO.out hc2 q11.1.2 HAO.out).mono ?_; rintro e w12 ⟨rfl, q12⟩)
          | (go_at_call 32; (with_reducible refine (judge_o HQ2.out q8 (links_len N) HN4.out hx8 hc8 q8.2 HJ0.out).mono ?_); rintro e w9 ⟨rfl, q9⟩; obtain ⟨g2, cap2, w10, hr, q10, hc2, hfz, hcl2, hcl1, hset⟩ := odd_ready HQ2.out q9 (HCO.out _ q9.1).1 (HCO.out _ q9.1).2 (HBU.out _ q9.1) HPL.out HN1.out HN4.out HML.out; rw [← HNV.out] at hcl1 hcl2 hset; have HR1 := Lib.hid hr; obtain ⟨qs, cs⟩ := hset kk 4 (.int .i64 14) C hkk (by omega) HCV.out HCN.out; have HQ3 := Lib.hid (HQ2.out.and (Q := fun W => CR W (some ⟨g2, 0, none⟩) ((linksL N).set kk C) nv) (fun h hb => h.step hb)); have q11 : (Q (w10.setCell ⟨g2, kk * 6 + 4, none⟩ (.int .i64 14)) ∧ SX (w10.setCell ⟨g2, kk * 6 + 4, none⟩ (.int .i64 14)) (.slice (some ⟨w5.heap.size, 0, none⟩) 1 1) [rtL]) ∧ CR (w10.setCell ⟨g2, kk * 6 + 4, none⟩ (.int .i64 14)) (some ⟨g2, 0, none⟩) ((linksL N).set kk C) nv := ⟨qs, cs⟩; have b0 := hcl2 kk 4 hkk (by omega); have b1 := hfz (kk * 6 + 4); clear hcl1 hcl2 hset hfz qs cs; clear hr)
          | (go_at_call 33; with_reducible refine (sent_o HQ2.out q7 (links_len N) (HCR.out _ q7.1) HSH.out HN4.out).mono ?_; rintro e w8 ⟨A8, c8, rfl, hx8, hc8, q8⟩)
          | (go_at_call 36; with_reducible refine (anch_o HQ2.out q6 (links_len N) (HCR.out _ q6.1) HSH.out HCP.out q6.2 HA0.out).mono ?_; rintro e w7 ⟨rfl, q7⟩)
          | (go_at_call 35; with_reducible refine (linked_o HQ2.out q5 (links_len N) (HCR.out _ q5.1) HSH.out).mono ?_; rintro e w6 ⟨rfl, q6⟩; rw [links_linked])
          | (go_at_call 15; refine (digest_root (HQ.out.ga q0)).mono ?_; rintro e w5 ⟨rfl, hb5⟩; have HQ2 := Lib.hid (HQ.out.and (Q := fun W => SX W (.slice (some ⟨w5.heap.size, 0, none⟩) 1 1) [rtL]) (fun h hb => h.step hb)); have q5 : Q (w5.alloc (.cells #[sv rtL] 9)) ∧ SX (w5.alloc (.cells #[sv rtL] 9)) (.slice (some ⟨w5.heap.size, 0, none⟩) 1 1) [rtL] := ⟨HQ.out.alloc (HQ.out.step q0 hb5) _, sx_one w5 _ rtL rfl⟩; clear hb5)
          | (at_builtin; refine stepApp (v := .slice (some ⟨w9.heap.size, 0, none⟩) 0 0) (xv := .slice (some ⟨g, 0, none⟩) N cp) rfl _ _ 29 rfl rfl rfl HR1.out ?_))
        go_ret
        exact ⟨rfl, HB.out _ q14.1.1⟩
end Go.Proofs.YtoinicmhkfomjaaGreatDoor
