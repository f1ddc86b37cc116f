/-
  The walk of CmdNames.
-/
import Derived.Test.YtbmjmiioobgbfaaGreatDoorKNamesA
import Derived.Deep.CutRange
import Derived.Deep.RegionLaw
import Derived.Deep.RegionHeld3
namespace Go.Proofs.YtbmjmiioobgbfaaGreatDoor
open Go Go.RowKit Go.Shelf
set_option maxRecDepth 100000
set_option linter.unusedSimpArgs false
set_option linter.unusedVariables false

attribute [local irreducible] nmRows nmBad nmCms nmU
set_option maxHeartbeats 16000000 in
theorem cmdNames_walk (w : World) (hL : LW w) :
    Calls Tryz.prog 4 #[] w fun e w' => e = .returned (.bool true) ∧ Below w.heap.size w w' := by
  have HS := Lib.hid (KR.start hL)
  have HL := Lib.hid hL
  clear hL
  go_enter Tryz.func4, Tryz.ntmps4
  go_wp2_with fail
  refine (awake_any _ HS.out.lw).mono ?_
  rintro e w1 ⟨rfl, hb1⟩
  have HS1 := Lib.hid (HS.out.step hb1)
  clear hb1 HS
  go_wp2_with fail
  go_loopw [65] (fun i wr => ∃ k : Nat, k ≤ 8 ∧ i = .int .i64 k ∧ KR w [] [] wr ∧ RowsAt (w1.heap.size + 2) w1.heap.size wr) (fun i _ => 8 - (intOf i).toNat)
  case atStart =>
    refine ⟨0, by omega, rfl, ((HS1.out.step (below_alloc _ _)).step (below_alloc _ _)).step (below_alloc _ _), ?_⟩
    exact rows_start w1 _ _ _
  case round =>
    obtain ⟨k, hk, rfl, hkr, hro⟩ := hrel
    have HK := Lib.hid hkr
    have HR := Lib.hid hro
    clear hkr hro
    by_cases hlt : k < 8
    · obtain ⟨s, c, A, cp, q0, q1, q2, q3, hrw, hP, hSM⟩ := row_open HR.out hlt
      have HP := Lib.hid hP
      have HSM := Lib.hid hSM
      have HRW := Lib.hid hrw
      have hlg := HR.out.lt
      have hk1 : (0 : Int) ≤ (k : Int) := by omega
      have hk2 : (k : Int) < 8 := by omega
      clear hrw hP hSM
      go_wp2_with fail
      refine (parseK_any s _ (HK.out.step (below_alloc _ _)).lw).mono ?_
      rintro e w2 h2
      obtain ⟨Ae, ke, rfl, hb2, hp2⟩ := pa_open HP.out h2
      dsimp only at hp2
      have hz := blk_below (heap_alloc_new wr _) hb2
      have HRO2 := Lib.hid ((HR.out.step (below_alloc _ _)).step hb2)
      have HRW2 := Lib.hid ((HRW.out.step (below_alloc _ _)).step hb2)
      have HK2 := Lib.hid (((HK.out.step (below_alloc _ _)).step hb2).add hp2)
      obtain ⟨z0, z1, z2, z3⟩ := c4 hz
      have lz := lt_of_blk hz
      have HX2 := Lib.hid (HK2.out.alloc #[.int .u8 (c.verb : Int), sv c.arg, .slice Ae c.ps.length ke])
      clear h2 hb2 hp2 hz q0 q1 q2 q3 hlg
      go_wp2_with fail
      refine (sameK_any c c _ _ _ HX2.out.row0 (HRW2.out.step (below_alloc _ _)) HSM.out.p6 HSM.out.p6).mono ?_
      rintro e w3 ⟨rfl, hb3⟩
      rw [(sameK_iff c c).2 rfl]
      have HK3 := Lib.hid (HX2.out.step hb3).bare
      have HRO3 := Lib.hid ((HRO2.out.step (below_alloc _ _)).step hb3)
      clear hb3 z0 z1 z2 z3 lz
      go_wp2_with fail
      go_roundw
      case rel => exact ⟨k + 1, by omega, by go_num, HK3.out, HRO3.out⟩
      case measure => simp [intOf]; omega
    · obtain rfl : k = 8 := by omega
      obtain ⟨r1, hr1⟩ : ∃ r, r = List.replicate 33 (65 : UInt8) := ⟨_, rfl⟩
      have HM1 := Lib.hid (many_any 65 65 rfl 33 wr (by omega))
      rw [← hr1] at HM1
      have HR1 := Lib.hid hr1
      have hl1 : ¬ 9223372036854775807 < 14 + r1.length := by rw [hr1]; simp
      clear hr1 HR hlt hk
      go_wp2_with fail
      refine (HM1.out).mono ?_
      rintro e w4 ⟨rfl, hb4⟩
      have HS4 := Lib.hid (HK.out.step hb4)
      clear hb4 HK HM1
      go_wp2_with fail
      go_loopw [94] (fun i wr => ∃ k : Nat, k ≤ 30 ∧ i = .int .i64 k ∧ KR w [] [] wr ∧ BadAt w4.heap.size wr) (fun i _ => 30 - (intOf i).toNat)
      case atStart =>
        refine ⟨0, by omega, rfl, HS4.out.step (below_alloc _ _), ?_⟩
        rw [HR1.out]
        exact bad_start w4 _
      case round =>
        obtain ⟨k, hk, rfl, hkr, hro⟩ := hrel
        have HK := Lib.hid hkr
        have HR := Lib.hid hro
        clear hkr hro
        by_cases hlt : k < 30
        · obtain ⟨s, q0, hP⟩ := bad_open HR.out hlt
          have HP := Lib.hid hP
          have hk1 : (0 : Int) ≤ (k : Int) := by omega
          have hk2 : (k : Int) < 30 := by omega
          clear hP
          go_wp2_with fail
          refine (wrong_any s _ HK.out.lw).mono ?_
          rintro e w5 ⟨rfl, hb5⟩
          rw [HP.out]
          have HK5 := Lib.hid (HK.out.step hb5)
          have HR5 := Lib.hid (HR.out.step hb5)
          clear hb5 q0
          go_wp2_with fail
          go_roundw
          case rel => exact ⟨k + 1, by omega, by go_num, HK5.out, HR5.out⟩
          case measure => simp [intOf]; omega
        · obtain rfl : k = 30 := by omega
          clear hlt hk HR HR1 hl1
          obtain ⟨r2, hr2⟩ : ∃ r, r = List.replicate 32 (65 : UInt8) := ⟨_, rfl⟩
          have HM2 := Lib.hid (fun W => many_any 65 65 rfl 32 W (by omega))
          have HO2 := Lib.hid nm_ok2
          rw [← hr2] at HM2 HO2
          have hl2 : ¬ 9223372036854775807 < 14 + r2.length := by rw [hr2]; simp
          clear hr2
          go_wp2_with fail
          refine (wrong_any _ _ HK.out.lw).mono ?_
          rintro e w6 ⟨rfl, hb6⟩
          rw [nm_ok1]
          have HS6 := Lib.hid (HK.out.step hb6)
          clear hb6 HK
          go_wp2_with fail
          refine (HM2.out _).mono ?_
          rintro e w6b ⟨rfl, hb6⟩
          have HS6b := Lib.hid (HS6.out.step hb6)
          clear hb6 HS6
          go_wp2_with fail
          refine (wrong_any ([82, 67, 80, 84, 32, 84, 79, 58, 60, 97, 64, 98, 62, 32] ++ r2) _ HS6b.out.lw).mono ?_
          rintro e w7 ⟨rfl, hb7⟩
          rw [HO2.out]
          have HS7 := Lib.hid (HS6b.out.step hb7)
          clear hb7 HS6b
          go_wp2_with fail
          go_loopw [137] (fun i wr => ∃ k : Nat, k ≤ 12 ∧ i = .int .i64 k ∧ KR w [] [] wr ∧ CmsAt (w7.heap.size + 6) w7.heap.size wr) (fun i _ => 12 - (intOf i).toNat)
          case atStart =>
            refine ⟨0, by omega, rfl, ((((((HS7.out.step (below_alloc _ _)).step (below_alloc _ _)).step (below_alloc _ _)).step (below_alloc _ _)).step (below_alloc _ _)).step (below_alloc _ _)).step (below_alloc _ _), ?_⟩
            exact cms_start w7 _ _ _ _ _ _ _
          case round =>
            obtain ⟨k, hk, rfl, hkr, hro⟩ := hrel
            have HK := Lib.hid hkr
            have HR := Lib.hid hro
            clear hkr hro
            by_cases hlt : k < 12
            · obtain ⟨c, A, cp, q0, q1, q2, hrw, hM⟩ := cms_open HR.out hlt
              have HMC := Lib.hid hM
              have hlg := HR.out.lt
              have hk1 : (0 : Int) ≤ (k : Int) := by omega
              have hk2 : (k : Int) < 12 := by omega
              have HX := Lib.hid ((HK.out.add hrw).alloc #[.int .u8 (c.verb : Int), sv c.arg, .slice A c.ps.length cp])
              have HRX := Lib.hid (HR.out.step (below_alloc wr (.cells #[.int .u8 (c.verb : Int), sv c.arg, .slice A c.ps.length cp] 41)))
              clear hM hrw
              go_wp2_with fail
              refine (show_ok HX.out.row0 HMC.out.2 HX.out.lw (show_no HMC.out.1)).mono ?_
              rintro e w8 ⟨rfl, hb8⟩
              have HS8 := Lib.hid (HX.out.step hb8)
              have HR8 := Lib.hid (HRX.out.step hb8)
              obtain ⟨p0, p1, p2⟩ := HS8.out.at0
              clear hb8 q0 q1 q2 hlg
              go_wp2_with fail
              refine (may_any' c _ _ HS8.out.row0 HMC.out.2 HS8.out.lw).mono ?_
              rintro e w9 ⟨rfl, hb9⟩
              rw [HMC.out.1]
              have HS9 := Lib.hid (HS8.out.step hb9).bare
              have HR9 := Lib.hid (HR8.out.step hb9)
              clear hb9 p0 p1 p2
              go_wp2_with fail
              go_roundw
              case rel => exact ⟨k + 1, by omega, by go_num, HS9.out, HR9.out⟩
              case measure => simp [intOf]; omega
            · obtain rfl : k = 12 := by omega
              clear hlt hk HR HM2 HO2
              obtain ⟨r3, hr3⟩ : ∃ r, r = List.replicate 495 (121 : UInt8) := ⟨_, rfl⟩
              obtain ⟨r4, hr4⟩ : ∃ r, r = List.replicate 496 (121 : UInt8) := ⟨_, rfl⟩
              obtain ⟨r5, hr5⟩ : ∃ r, r = List.replicate 511 (120 : UInt8) := ⟨_, rfl⟩
              obtain ⟨r6, hr6⟩ : ∃ r, r = List.replicate 33 (97 : UInt8) := ⟨_, rfl⟩
              obtain ⟨r7, hr7⟩ : ∃ r, r = List.replicate 32 (97 : UInt8) := ⟨_, rfl⟩
              have HM3 := Lib.hid (fun W => many_any 121 121 rfl 495 W (by omega))
              have HM4 := Lib.hid (fun W => many_any 121 121 rfl 496 W (by omega))
              have HM5 := Lib.hid (fun W => many_any 120 120 rfl 511 W (by omega))
              have HM6 := Lib.hid (fun W => many_any 97 97 rfl 33 W (by omega))
              have HM7 := Lib.hid (fun W => many_any 97 97 rfl 32 W (by omega))
              have HN3 := Lib.hid nm_long1
              have HN4 := Lib.hid nm_long2
              have HN5 := Lib.hid nm_long3
              have HN6 := Lib.hid nm_env2
              have HN7 := Lib.hid nm_mail6
              have HG1 := Lib.hid nm_get1
              have HG2 := Lib.hid nm_get2
              have HG3 := Lib.hid nm_get3
              have HS3 := Lib.hid sm_x1
              have HS4 := Lib.hid sm_x2
              have HSM6 := Lib.hid sm_6
              unfold cmX at HN3 HN4 HS3 HS4
              unfold ps6 at HN7 HG1 HG2 HG3 HSM6
              rw [← hr3] at HM3 HN3 HS3
              rw [← hr4] at HM4 HN4 HS4
              rw [← hr5] at HM5 HN5
              rw [← hr6] at HM6 HN6
              rw [← hr7] at HM7 HN7 HG1 HG2 HG3 HSM6
              have HE6 := Lib.hid (show r6.length ≤ 6000 by rw [hr6]; simp)
              have HE7 := Lib.hid (show r7.length ≤ 6000 by rw [hr7]; simp)
              clear hr3 hr4 hr5 hr6 hr7
              obtain ⟨t1, ht1⟩ : ∃ t, t = shownK ⟨3, [], [([88], r3)]⟩ := ⟨_, rfl⟩
              rw [← ht1] at HN3
              clear ht1
              go_wp2_with fail
              refine (HM3.out _).mono ?_
              rintro e wa ⟨rfl, hba⟩
              have HSa := Lib.hid (HK.out.step hba)
              clear hba HK HM3
              have HBa := Lib.hid (heap_alloc_new wa (.cells #[sv [88], sv r3] 38))
              have HPa := Lib.hid (show PR (wa.alloc (.cells #[sv [88], sv r3] 38)) (.slice (some ⟨wa.heap.size, 0, none⟩) 1 1) [([88], r3)] from pr_block HBa.out (fun j hj => by
                match j, hj with
                | 0, _ => exact ⟨rfl, rfl⟩) 1 rfl)
              have HXa := Lib.hid (((HSa.out.step (below_alloc _ (.cells #[sv [88], sv r3] 38))).add HPa.out).alloc #[.int .u8 3, sv [], .slice (some ⟨wa.heap.size, 0, none⟩) 1 1])
              have HBb := Lib.hid ((Lib.alloc_old _ (.cells #[.int .u8 3, sv [], .slice (some ⟨wa.heap.size, 0, none⟩) 1 1] 41) _ (by rw [World.size_alloc]; omega)).trans HBa.out)
              rw [World.size_alloc] at HXa
              go_wp2_with fail
              refine (show_ok (c := ⟨3, [], [([88], r3)]⟩) HXa.out.row0 HS3.out HXa.out.lw HN3.out.1).mono ?_
              rintro e wb ⟨rfl, hbb⟩
              have HSb := Lib.hid (HXa.out.step hbb)
              have HBc := Lib.hid (blk_below HBb.out hbb)
              clear hbb HXa HPa HBa HBb
              have HFB := Lib.hid (show FU w wa.heap.size (wa.heap.size + 1) r3 wb from ⟨HBc.out, HSb.out.blk _ (List.mem_singleton.2 rfl), HSb.out.bl, HSb.out.lw, HSa.out.bl.size, by omega⟩)
              obtain ⟨ga, hga⟩ : ∃ g, g = wa.heap.size := ⟨_, rfl⟩
              obtain ⟨gf, hgf⟩ : ∃ g, g = ga + 1 := ⟨_, rfl⟩
              rw [← hga, ← hgf] at HFB
              rw [← hga, ← hgf]
              have HFS := Lib.hid (fun W (h : Below wb.heap.size wb W) => HFB.out.step h)
              obtain ⟨q0, q1, q2⟩ := HFB.out.facts
              have hlga := lt_of_blk HFB.out.par
              have hlgf := lt_of_blk HFB.out.cmd
              clear HSb HBc HFB HSa hga hgf
              go_wp2_with fail
              go_cut [168] from 166 to 170 (fun _ W => FU w ga gf r4 W)
              case first =>
                go_region_with (go_at_call 18; refine (HM4.out _).mono ?_; rintro e wc ⟨rfl, hbc⟩; have hF := HFS.out _ (by first | exact hbc | exact ((Below.refl _ _).drew).trans hbc | exact ((Below.refl _ _).drew.drew).trans hbc); obtain ⟨x0, x1, x2⟩ := hF.facts; have y1 := lt_of_blk hF.par; have y2 := lt_of_blk hF.cmd)
                all_goals (try go_wp2)
                all_goals go_meet
                all_goals (case rel => first | exact hF.set HL.out r4 | exact hF.drew.set HL.out r4 | exact hF.drew.drew.set HL.out r4)
              case rest =>
                obtain ⟨x0, x1, x2⟩ := hcut.kr.at0
                have hK := hcut.kr
                have hlw := hcut.lw
                have HFC := Lib.hid hcut
                have ht1 : (t1.length : Int) = 510 := by have := HN3.out.2.1; omega
                have hl3 : ¬ 9223372036854775807 < t1.length + 1 := by have := HN3.out.2.1; omega
                clear hcut hK hlw q0 q1 q2 hlga hlgf HFS HM4
                have HSH := Lib.hid (show_ok (c := ⟨3, [], [([88], r4)]⟩) HFC.out.kr.row0 HS4.out HFC.out.lw HN4.out)
                go_wp2_with fail
                refine (HSH.out).mono ?_
                rintro e wd ⟨rfl, hb⟩
                have Kd := Lib.hid (HFC.out.step hb).kr.bare
                clear hb x0 x1 x2 HFC HSH
                go_wp2_with fail
                refine (wrong_any t1 _ (by first | exact Kd.out.lw | exact (Kd.out.step (below_alloc _ _)).lw)).mono ?_
                rintro e we ⟨rfl, hb⟩
                rw [HN3.out.2.2.1]
                have Ke := Lib.hid (show KR w [] [] we by first | exact Kd.out.step hb | exact (Kd.out.step (below_alloc _ _)).step hb)
                clear hb Kd
                go_wp2_with fail
                refine (wrong_any (t1 ++ [121]) _ (by first | exact Ke.out.lw | exact (Ke.out.step (below_alloc _ _)).lw)).mono ?_
                rintro e wf ⟨rfl, hb⟩
                rw [HN3.out.2.2.2]
                have Kf := Lib.hid (show KR w [] [] wf by first | exact Ke.out.step hb | exact (Ke.out.step (below_alloc _ _)).step hb)
                clear hb Ke
                go_wp2_with fail
                refine (HM5.out _).mono ?_
                rintro e wg ⟨rfl, hb⟩
                have Kg := Lib.hid (show KR w [] [] wg by first | exact Kf.out.step hb | exact (Kf.out.step (below_alloc _ _)).step hb)
                clear hb Kf HM5
                go_wp2_with fail
                refine (wrong_any r5 _ (by first | exact Kg.out.lw | exact (Kg.out.step (below_alloc _ _)).lw)).mono ?_
                rintro e wh ⟨rfl, hb⟩
                rw [HN5.out]
                have Kh := Lib.hid (show KR w [] [] wh by first | exact Kg.out.step hb | exact (Kg.out.step (below_alloc _ _)).step hb)
                clear hb Kg
                go_wp2_with fail
                refine (all_any _).mono ?_
                rintro e wi ⟨rfl, hb⟩
                have Ki := Lib.hid (show KR w [] [] wi by first | exact Kh.out.step hb | exact (Kh.out.step (below_alloc _ _)).step hb)
                clear hb Kh
                go_wp2_with fail
                refine (mailK_any cpAll [97, 64, 98, 46, 99] (-1) false [] _ (by decide) (by decide) (by decide) (by decide) (by first | exact Ki.out.lw | exact (Ki.out.step (below_alloc _ _)).lw)).mono ?_
                rintro e wj hm
                rw [mail_neg] at hm
                obtain ⟨Awj, kwj, he, hb, -⟩ := ma_open hm
                replace he : e = .returned (.tuple #[.agg #[.int .u8 0, sv [], .slice Awj 0 kwj], .int .i64 4]) := he
                subst he
                have Kj := Lib.hid (show KR w [] [] wj by first | exact Ki.out.step hb | exact (Ki.out.step (below_alloc _ _)).step hb)
                clear hm hb Ki
                go_wp2_with fail
                refine (mailK_any ⟨false, false, false, false, false, false, 0⟩ [97, 64, 98, 46, 99] 0 false [97, 32, 98] _ (by decide) (by decide) (by decide) (by decide) (by first | exact Kj.out.lw | exact (Kj.out.step (below_alloc _ _)).lw)).mono ?_
                rintro e wk hm
                rw [mail_env _ _ _ _ _ nm_env1] at hm
                obtain ⟨Awk, kwk, he, hb, -⟩ := ma_open hm
                replace he : e = .returned (.tuple #[.agg #[.int .u8 0, sv [], .slice Awk 0 kwk], .int .i64 4]) := he
                subst he
                have Kk := Lib.hid (show KR w [] [] wk by first | exact Kj.out.step hb | exact (Kj.out.step (below_alloc _ _)).step hb)
                clear hm hb Kj
                go_wp2_with fail
                refine (HM6.out _).mono ?_
                rintro e wl ⟨rfl, hb⟩
                have Kl := Lib.hid (show KR w [] [] wl by first | exact Kk.out.step hb | exact (Kk.out.step (below_alloc _ _)).step hb)
                clear hb Kk HM6
                go_wp2_with fail
                refine (mailK_any ⟨false, false, false, false, false, false, 0⟩ [97, 64, 98, 46, 99] 0 false r6 _ (by decide) HE6.out (by decide) (by decide) (by first | exact Kl.out.lw | exact (Kl.out.step (below_alloc _ _)).lw)).mono ?_
                rintro e wm hm
                rw [mail_env _ _ _ _ _ HN6.out] at hm
                obtain ⟨Awm, kwm, he, hb, -⟩ := ma_open hm
                replace he : e = .returned (.tuple #[.agg #[.int .u8 0, sv [], .slice Awm 0 kwm], .int .i64 4]) := he
                subst he
                have Km := Lib.hid (show KR w [] [] wm by first | exact Kl.out.step hb | exact (Kl.out.step (below_alloc _ _)).step hb)
                clear hm hb Kl
                go_wp2_with fail
                refine (all_any _).mono ?_
                rintro e wn ⟨rfl, hb⟩
                have Kn := Lib.hid (show KR w [] [] wn by first | exact Km.out.step hb | exact (Km.out.step (below_alloc _ _)).step hb)
                clear hb Km
                go_wp2_with fail
                refine (mailK_any cpAll [97] 0 false [] _ (by decide) (by decide) (by decide) (by decide) (by first | exact Kn.out.lw | exact (Kn.out.step (below_alloc _ _)).lw)).mono ?_
                rintro e wo hm
                rw [nm_mail4] at hm
                obtain ⟨Awo, kwo, he, hb, -⟩ := ma_open hm
                replace he : e = .returned (.tuple #[.agg #[.int .u8 0, sv [], .slice Awo 0 kwo], .int .i64 4]) := he
                subst he
                have Ko := Lib.hid (show KR w [] [] wo by first | exact Kn.out.step hb | exact (Kn.out.step (below_alloc _ _)).step hb)
                clear hm hb Kn
                go_wp2_with fail
                refine (all_any _).mono ?_
                rintro e wp ⟨rfl, hb⟩
                have Kp := Lib.hid (show KR w [] [] wp by first | exact Ko.out.step hb | exact (Ko.out.step (below_alloc _ _)).step hb)
                clear hb Ko
                go_wp2_with fail
                refine (rcptK_any cpAll [] false _ (by decide) (by first | exact Kp.out.lw | exact (Kp.out.step (below_alloc _ _)).lw)).mono ?_
                rintro e wq hm
                rw [nm_rcpt] at hm
                obtain ⟨Awq, kwq, he, hb, -⟩ := ma_open hm
                replace he : e = .returned (.tuple #[.agg #[.int .u8 0, sv [], .slice Awq 0 kwq], .int .i64 4]) := he
                subst he
                have Kq := Lib.hid (show KR w [] [] wq by first | exact Kp.out.step hb | exact (Kp.out.step (below_alloc _ _)).step hb)
                clear hm hb Kp
                go_wp2_with fail
                refine (all_any _).mono ?_
                rintro e wr1 ⟨rfl, hb⟩
                have Kr := Lib.hid (show KR w [] [] wr1 by first | exact Kq.out.step hb | exact (Kq.out.step (below_alloc _ _)).step hb)
                clear hb Kq
                go_wp2_with fail
                refine (HM7.out _).mono ?_
                rintro e ws ⟨rfl, hb⟩
                have Ks := Lib.hid (show KR w [] [] ws by first | exact Kr.out.step hb | exact (Kr.out.step (below_alloc _ _)).step hb)
                clear hb Kr HM7
                go_wp2_with fail
                refine (mailK_any cpAll [] 0 false r7 _ (by decide) HE7.out (by decide) (by decide) (by first | exact Ks.out.lw | exact (Ks.out.step (below_alloc _ _)).lw)).mono ?_
                rintro e wt hm
                rw [HN7.out] at hm
                obtain ⟨At, kt, he, hb, hp⟩ := ma_open hm
                replace he : e = .returned (.tuple #[.agg #[.int .u8 3, sv [], .slice At 2 kt], .int .i64 0]) := he
                replace hp : PR wt (.slice At 2 kt) [(wSZ, [48]), (wEN, r7)] := hp
                subst he
                have Kt := Lib.hid (((show KR w [] [] wt by first | exact Ks.out.step hb | exact (Ks.out.step (below_alloc _ _)).step hb).add hp).alloc #[.int .u8 3, sv [], .slice At 2 kt])
                clear hm hb Ks hp
                have HG1L := Lib.hid (show ([(wSZ, [48]), (wEN, r7)] : List PM).length ≤ 1000000 by simp)
                have HG2L := Lib.hid (show ∀ p ∈ ([(wSZ, [48]), (wEN, r7)] : List PM), p.2.length ≤ 1000000 by
                  intro p hp
                  have := HE7.out
                  simp only [List.mem_cons, List.not_mem_nil, or_false] at hp
                  rcases hp with rfl | rfl
                  · decide
                  · show r7.length ≤ 1000000; omega)
                go_wp2_with fail
                refine (getK_any ⟨3, [], [(wSZ, [48]), (wEN, r7)]⟩ wSZ _ _ Kt.out.row0 HG1L.out HG2L.out).mono ?_
                rintro e wu ⟨rfl, hb⟩
                rw [HG1.out]
                have Ku := Lib.hid (Kt.out.step hb)
                clear hb Kt
                obtain ⟨x0, x1, x2⟩ := Ku.out.at0
                have lx := Ku.out.lt0
                go_wp2_with fail
                refine (getK_any ⟨3, [], [(wSZ, [48]), (wEN, r7)]⟩ wRT _ _ Ku.out.row0 HG1L.out HG2L.out).mono ?_
                rintro e wv1 ⟨rfl, hb⟩
                clear x0 x1 x2 lx
                rw [HG2.out]
                have Kv := Lib.hid (Ku.out.step hb)
                clear hb Ku
                obtain ⟨x0, x1, x2⟩ := Kv.out.at0
                have lx := Kv.out.lt0
                go_wp2_with fail
                refine (getK_any ⟨3, [], [(wSZ, [48]), (wEN, r7)]⟩ [115, 105, 122, 101] _ _ Kv.out.row0 HG1L.out HG2L.out).mono ?_
                rintro e ww ⟨rfl, hb⟩
                clear x0 x1 x2 lx
                rw [HG3.out]
                have Kw := Lib.hid (Kv.out.step hb)
                clear hb Kv
                go_wp2_with fail
                go_ret
                exact ⟨rfl, Kw.out.bl⟩
end Go.Proofs.YtbmjmiioobgbfaaGreatDoor
