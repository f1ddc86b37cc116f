/-
  The walk of CmdBack.
-/
import Derived.Test.YtifmnlcggokfkaaGreatDoorKWalk2
namespace Go.Proofs.YtifmnlcggokfkaaGreatDoor
open Go Go.RowKit Go.Shelf
set_option maxRecDepth 100000

set_option maxHeartbeats 16000000 in
theorem cmdBack_walk (c : Cm) (u : Value) (s : List UInt8) (q : Int) (w : World) (hu : PR w u c.ps) (ic : IN c) (hs : s.length ≤ 140737488351232) (hq : (Lit.int .u64 q).wf = true) (hL : LW w) :
    Calls Tryz.prog 6 #[cmV c u, sv s, .int .u64 q] w fun e w' => e = .returned (.bool true) ∧ Below w.heap.size w w' := by
  obtain ⟨hq0, hq1⟩ := bounds_u64 hq
  obtain ⟨A, cp, rfl⟩ := hu.form
  have IC := Lib.hid ic
  have HS := Lib.hid (((KR.start hL).add hu).alloc #[.int .u8 (c.verb : Int), sv c.arg, .slice A c.ps.length cp])
  have HPS := Lib.hid (show ((parseK s).2 = 0 ∧ mayK (parseK s).1 = true ∧ (shownK (parseK s).1).length ≤ 510 ∧ s.length ≤ 510) ∨ ((parseK s).2 ≠ 0 ∧ (parseK s).1 = cm0) from by
    rcases parse_err s with ⟨x1, x2, x3⟩ | x
    · exact .inl ⟨x1, x2, x3, parse_long_err x1⟩
    · exact .inr x)
  clear hu ic hL hq
  go_enter Tryz.func6, Tryz.ntmps6
  go_wp2_with fail
  refine (IC.out.ml _ _ HS.out.row0).mono ?_
  rintro e w1 ⟨lc, rfl, hb1, hs1⟩
  have SC := Lib.hid hs1
  have HS1 := Lib.hid (HS.out.step hb1)
  clear hs1 hb1 HS
  cases lc with
  | true =>
    go_wp2_with fail
    refine (awake_any _ HS1.out.lw).mono ?_
    rintro e w2 ⟨rfl, hb2⟩
    have HS2 := Lib.hid (HS1.out.step hb2)
    clear hb2
    go_wp2
    go_ret
    exact ⟨rfl, HS2.out.bl⟩
  | false =>
  have SD := Lib.hid (SC.out (by simp))
  clear SC
  by_cases hlen : 5000 < s.length
  · go_wp2_with fail
    refine (awake_any _ HS1.out.lw).mono ?_
    rintro e w2 ⟨rfl, hb2⟩
    have HS2 := Lib.hid (HS1.out.step hb2)
    clear hb2
    go_wp2
    go_ret
    exact ⟨rfl, HS2.out.bl⟩
  have hlen' : s.length ≤ 5000 := by omega
  clear hlen
  go_wp2_with fail
  refine (awake_any _ HS1.out.lw).mono ?_
  rintro e w3 ⟨rfl, hb3⟩
  have HS3 := Lib.hid (HS1.out.step hb3)
  clear hb3 HS1
  obtain ⟨p0, p1, p2⟩ := HS3.out.at0
  have l0 := HS3.out.lt0
  rcases show_cases c with ⟨ha0, ha1, hma, hla⟩ | ⟨n, hn, hka⟩
  · obtain ⟨t, ht⟩ : ∃ t, t = shownK c := ⟨_, rfl⟩
    have HKA := Lib.hid (show showK c = (t, 0) by rw [ht, ← ha1, ← ha0])
    have HPC := Lib.hid (show parseK t = (c, 0) by rw [ht]; exact parse_show' hma hla)
    have HSIM := Lib.hid (show ∀ t', Sim t (hdL c.verb).length t' → parseK t' = (c, 0) from fun t' h => parse_sim hma hla (by rw [← ht]; exact h))
    have HV := Lib.hid (may_verb hma)
    have hl1 : t.length ≤ 510 := by rw [ht]; exact hla
    clear ht ha0 ha1 hma hla
    go_wp2_with fail
    refine (show_ok HS3.out.row0 SD.out HS3.out.lw HKA.out).mono ?_
    rintro e w4 ⟨rfl, hb4⟩
    have HS4 := Lib.hid (HS3.out.step hb4)
    clear hb4 HS3 p0 p1 p2 l0
    go_wp2_with fail
    refine (parseK_any t _ (HS4.out.step (below_alloc _ _)).lw).mono ?_
    rintro e w5 h5
    obtain ⟨Ae, ke, rfl, hb5, hp5⟩ := pa_open HPC.out h5
    dsimp only at hp5
    have HS5 := Lib.hid (((HS4.out.step (below_alloc _ _)).step hb5).add hp5)
    have hz := blk_below (heap_alloc_new w4 _) hb5
    have hmo : w5.cell? ⟨w4.heap.size, c.verb, none⟩ = some (.int .i64 ((hdL c.verb).length : Int)) := by
      rw [cellAt hz]
      obtain ⟨x1, x2⟩ := HV.out
      exact hd_six (P := fun v => (#[Value.int .i64 0, .int .i64 5, .int .i64 8, .int .i64 10, .int .i64 8, .int .i64 4, .int .i64 4])[v]? = some (.int .i64 ((hdL v).length : Int))) rfl rfl rfl rfl rfl rfl c.verb x1 x2
    have HN := Lib.hid (hd_len c.verb HV.out.1 HV.out.2)
    have hv0 : (0 : Int) ≤ (c.verb : Int) := by omega
    have hv1 : (c.verb : Int) < 7 := by have := HV.out.2; omega
    have hv2 : c.verb < 7 := by omega
    have lz := lt_of_blk hz
    clear h5 hb5 hp5 hz HS4
    obtain ⟨p0, p1, p2⟩ := HS5.out.at0
    have l0 := HS5.out.lt0
    have HX5 := Lib.hid (HS5.out.alloc #[.int .u8 (c.verb : Int), sv c.arg, .slice Ae c.ps.length ke])
    go_wp2_with fail
    refine (other_any t q (hdL c.verb).length _ (by omega) (by have := HN.out; omega) hq0 hq1).mono ?_
    rintro e w6 ⟨t', rfl, hsim, hb6⟩
    have HPO := Lib.hid (HSIM.out t' hsim)
    have HS6 := Lib.hid (HX5.out.step hb6)
    clear hsim hb6 HX5 HS5 p0 p1 p2 l0 hmo lz
    go_wp2_with fail
    refine (parseK_any t' _ HS6.out.lw).mono ?_
    rintro e w7 h7
    obtain ⟨Af, kf, rfl, hb7, hp7⟩ := pa_open HPO.out h7
    dsimp only at hp7
    have HS7 := Lib.hid ((HS6.out.step hb7).add hp7)
    clear h7 hb7 hp7 HS6
    obtain ⟨p0, p1, p2⟩ := HS7.out.at1
    have l0 := HS7.out.lt1
    obtain ⟨q0, q1, q2⟩ := HS7.out.at0
    have l1 := HS7.out.lt0
    have HX7 := Lib.hid (HS7.out.alloc #[.int .u8 (c.verb : Int), sv c.arg, .slice Af c.ps.length kf])
    go_wp2_with fail
    refine (sameK_any c c _ _ _ HX7.out.row1 HX7.out.row2 SD.out.p6 SD.out.p6).mono ?_
    rintro e w8 ⟨rfl, hb8⟩
    rw [(sameK_iff c c).2 rfl]
    have HS8 := Lib.hid (HX7.out.step hb8)
    clear hb8 HX7 HS7 p0 p1 p2 q0 q1 q2 l0 l1
    obtain ⟨p0, p1, p2⟩ := HS8.out.at2
    have l0 := HS8.out.lt2
    obtain ⟨q0, q1, q2⟩ := HS8.out.at0
    have l1 := HS8.out.lt0
    go_wp2_with fail
    refine (sameK_any c c _ _ _ HS8.out.row0 HS8.out.row2 SD.out.p6 SD.out.p6).mono ?_
    rintro e w9 ⟨rfl, hb9⟩
    rw [(sameK_iff c c).2 rfl]
    have HS9 := Lib.hid (HS8.out.step hb9)
    clear hb9 HS8 p0 p1 p2 q0 q1 q2 l0 l1
    go_wp2_with fail
    refine (parseK_any s w9 HS9.out.lw).mono ?_
    rintro e w10 h10
    obtain ⟨Ab, kb, rfl, hb10, hp10⟩ := pa_open rfl h10
    have HS10 := Lib.hid ((HS9.out.step hb10).add hp10)
    clear h10 hb10 hp10 HS9
    rcases HPS.out with ⟨he, hmb, hlb, hsl⟩ | ⟨he, hzb⟩
    · obtain ⟨b, hbd⟩ : ∃ b, b = (parseK s).1 := ⟨_, rfl⟩
      rw [he, ← hbd]
      rw [← hbd] at HS10 hmb hlb
      have SB := Lib.hid (show SM b by rw [hbd]; exact sm_of_parse hsl)
      have HMB := Lib.hid hmb
      have HLB := Lib.hid hlb
      have HGS := Lib.hid (show gr (shownK b) = gr s by rw [hbd]; exact (parse_back (line := s) (a := (parseK s).1) (by rw [← he])).2.1)
      obtain ⟨t2, ht2⟩ : ∃ t, t = shownK b := ⟨_, rfl⟩
      have HT2 := Lib.hid ht2
      have hl2 : t2.length ≤ 510 := by rw [ht2]; exact hlb
      have HKB := Lib.hid (show showK b = (t2, 0) by unfold showK; rw [if_pos hmb, if_pos hlb, ht2])
      have HPB := Lib.hid (show parseK t2 = (b, 0) by rw [ht2]; exact parse_show' hmb hlb)
      clear hbd hmb hlb ht2 he
      have HX10 := Lib.hid (HS10.out.alloc #[.int .u8 (b.verb : Int), sv b.arg, .slice Ab b.ps.length kb])
      go_wp2_with fail
      refine (show_ok HX10.out.row0 SB.out HX10.out.lw HKB.out).mono ?_
      rintro e w11 ⟨rfl, hb11⟩
      have HS11 := Lib.hid (HX10.out.step hb11)
      clear hb11 HX10 HS10
      go_wp2_with fail
      refine (parseK_any t2 w11 HS11.out.lw).mono ?_
      rintro e w12 h12
      obtain ⟨Ad, kd, rfl, hb12, hp12⟩ := pa_open HPB.out h12
      dsimp only at hp12
      have HS12 := Lib.hid ((HS11.out.step hb12).add hp12)
      clear h12 hb12 hp12 HS11
      obtain ⟨p0, p1, p2⟩ := HS12.out.at0
      have l0 := HS12.out.lt0
      have HX12 := Lib.hid (HS12.out.alloc #[.int .u8 (b.verb : Int), sv b.arg, .slice Ad b.ps.length kd])
      go_wp2_with fail
      refine (may_any' b _ _ HX12.out.row1 SB.out HX12.out.lw).mono ?_
      rintro e w13 ⟨rfl, hb13⟩
      rw [HMB.out]
      have HS13 := Lib.hid (HX12.out.step hb13)
      clear hb13 HX12 HS12 p0 p1 p2 l0
      obtain ⟨p0, p1, p2⟩ := HS13.out.at0
      have l0 := HS13.out.lt0
      obtain ⟨q0, q1, q2⟩ := HS13.out.at1
      have l1 := HS13.out.lt1
      go_wp2_with fail
      refine (sameK_any b b _ _ _ HS13.out.row1 HS13.out.row0 SB.out.p6 SB.out.p6).mono ?_
      rintro e w14 ⟨rfl, hb14⟩
      rw [(sameK_iff b b).2 rfl]
      have HS14 := Lib.hid (HS13.out.step hb14)
      clear hb14 HS13 p0 p1 p2 q0 q1 q2 l0 l1
      have eg : (gr t2 == gr s) = true := by rw [HT2.out, HGS.out]; simp
      go_wp2_with fail
      refine (rGreat_any t2 w14 (by omega)).mono ?_
      rintro e w15 ⟨rfl, hb15⟩
      have HS15 := Lib.hid (HS14.out.step hb15)
      clear hb15 HS14
      go_wp2_with fail
      refine (rGreat_any s w15 (by omega)).mono ?_
      rintro e w16 ⟨rfl, hb16⟩
      have HS16 := Lib.hid (HS15.out.step hb16)
      clear hb16 HS15
      go_wp2_with fail
      go_ret
      exact ⟨rfl, HS16.out.bl⟩
    · obtain ⟨n, hn⟩ : ∃ n, n = (parseK s).2 := ⟨_, rfl⟩
      rw [← hn] at he ⊢
      rw [hzb]
      have e1 : ((n : Int) != 0) = true := by rw [bne_iff_ne]; omega
      have e3 : ((n : Int) == 0) = false := by rw [beq_eq_false_iff_ne]; omega
      rw [hzb] at HS10
      have HX10 := Lib.hid (HS10.out.alloc #[.int .u8 0, sv [], .slice Ab 0 kb])
      clear hn
      go_wp2_with fail
      go_ret
      exact ⟨rfl, HX10.out.bl⟩
  · have e1 : ((n : Int) != 0) = true := by rw [bne_iff_ne]; omega
    have e2 : ((n : Int) == 0) = false := by rw [beq_eq_false_iff_ne]; omega
    go_wp2_with fail
    refine (show_ok HS3.out.row0 SD.out HS3.out.lw hka).mono ?_
    rintro e w4 ⟨rfl, hb4⟩
    have HS4 := Lib.hid (HS3.out.step hb4)
    clear hb4 HS3 p0 p1 p2 l0
    go_wp2_with fail
    refine (parseK_any s w4 HS4.out.lw).mono ?_
    rintro e w5 h5
    obtain ⟨Ab, kb, rfl, hb5, hp5⟩ := pa_open rfl h5
    have HS5 := Lib.hid ((HS4.out.step hb5).add hp5)
    clear h5 hb5 hp5 HS4
    rcases HPS.out with ⟨he, hmb, hlb, hsl⟩ | ⟨he, hzb⟩
    · obtain ⟨b, hbd⟩ : ∃ b, b = (parseK s).1 := ⟨_, rfl⟩
      rw [he, ← hbd]
      rw [← hbd] at HS5 hmb hlb
      have SB := Lib.hid (show SM b by rw [hbd]; exact sm_of_parse hsl)
      have HMB := Lib.hid hmb
      have HLB := Lib.hid hlb
      have HGS := Lib.hid (show gr (shownK b) = gr s by rw [hbd]; exact (parse_back (line := s) (a := (parseK s).1) (by rw [← he])).2.1)
      obtain ⟨t2, ht2⟩ : ∃ t, t = shownK b := ⟨_, rfl⟩
      have HT2 := Lib.hid ht2
      have hl2 : t2.length ≤ 510 := by rw [ht2]; exact hlb
      have HKB := Lib.hid (show showK b = (t2, 0) by unfold showK; rw [if_pos hmb, if_pos hlb, ht2])
      have HPB := Lib.hid (show parseK t2 = (b, 0) by rw [ht2]; exact parse_show' hmb hlb)
      clear hbd hmb hlb ht2 he
      have HX5 := Lib.hid (HS5.out.alloc #[.int .u8 (b.verb : Int), sv b.arg, .slice Ab b.ps.length kb])
      go_wp2_with fail
      refine (show_ok HX5.out.row0 SB.out HX5.out.lw HKB.out).mono ?_
      rintro e w6 ⟨rfl, hb6⟩
      have HS6 := Lib.hid (HX5.out.step hb6)
      clear hb6 HX5 HS5
      go_wp2_with fail
      refine (parseK_any t2 w6 HS6.out.lw).mono ?_
      rintro e w7 h7
      obtain ⟨Ad, kd, rfl, hb7, hp7⟩ := pa_open HPB.out h7
      dsimp only at hp7
      have HS7 := Lib.hid ((HS6.out.step hb7).add hp7)
      clear h7 hb7 hp7 HS6
      obtain ⟨p0, p1, p2⟩ := HS7.out.at0
      have l0 := HS7.out.lt0
      have HX7 := Lib.hid (HS7.out.alloc #[.int .u8 (b.verb : Int), sv b.arg, .slice Ad b.ps.length kd])
      go_wp2_with fail
      refine (may_any' b _ _ HX7.out.row1 SB.out HX7.out.lw).mono ?_
      rintro e w8 ⟨rfl, hb8⟩
      rw [HMB.out]
      have HS8 := Lib.hid (HX7.out.step hb8)
      clear hb8 HX7 HS7 p0 p1 p2 l0
      obtain ⟨p0, p1, p2⟩ := HS8.out.at0
      have l0 := HS8.out.lt0
      obtain ⟨q0, q1, q2⟩ := HS8.out.at1
      have l1 := HS8.out.lt1
      go_wp2_with fail
      refine (sameK_any b b _ _ _ HS8.out.row1 HS8.out.row0 SB.out.p6 SB.out.p6).mono ?_
      rintro e w9 ⟨rfl, hb9⟩
      rw [(sameK_iff b b).2 rfl]
      have HS9 := Lib.hid (HS8.out.step hb9)
      clear hb9 HS8 p0 p1 p2 q0 q1 q2 l0 l1
      have eg : (gr t2 == gr s) = true := by rw [HT2.out, HGS.out]; simp
      go_wp2_with fail
      refine (rGreat_any t2 w9 (by omega)).mono ?_
      rintro e w10 ⟨rfl, hb10⟩
      have HS10 := Lib.hid (HS9.out.step hb10)
      clear hb10 HS9
      go_wp2_with fail
      refine (rGreat_any s w10 (by omega)).mono ?_
      rintro e w11 ⟨rfl, hb11⟩
      have HS11 := Lib.hid (HS10.out.step hb11)
      clear hb11 HS10
      go_wp2_with fail
      go_ret
      exact ⟨rfl, HS11.out.bl⟩
    · obtain ⟨n, hn⟩ : ∃ n, n = (parseK s).2 := ⟨_, rfl⟩
      rw [← hn] at he ⊢
      rw [hzb]
      have e1 : ((n : Int) != 0) = true := by rw [bne_iff_ne]; omega
      have e3 : ((n : Int) == 0) = false := by rw [beq_eq_false_iff_ne]; omega
      rw [hzb] at HS5
      have HX5 := Lib.hid (HS5.out.alloc #[.int .u8 0, sv [], .slice Ab 0 kb])
      clear hn
      go_wp2_with fail
      go_ret
      exact ⟨rfl, HX5.out.bl⟩
end Go.Proofs.YtifmnlcggokfkaaGreatDoor
