/-
  The reference's Decode.
-/
import Derived.Test.YtnaoandleelbkaaGreatDoorJDm
namespace Go.Proofs.YtnaoandleelbkaaGreatDoor
set_option linter.unusedSimpArgs false
set_option linter.unusedVariables false
open Go Go.RowKit
set_option maxRecDepth 100000

theorem CQB.all {W : World} {k : Nat} {c : Ct} {nv : Value} (h : CQB W k c nv) : W.cell? ⟨k, 0, none⟩ = some (sv c.key) ∧ W.cell? ⟨k, 1, none⟩ = some (sv c.sig) ∧ W.cell? ⟨k, 2, none⟩ = some nv ∧ W.cell? ⟨k, 3, none⟩ = some (.int .i64 c.fr) ∧ W.cell? ⟨k, 4, none⟩ = some (.int .i64 c.un) ∧ W.cell? ⟨k, 5, none⟩ = some (.bool c.ca) := ⟨h.c0, h.c1, h.c2, h.c3, h.c4, h.c5⟩
theorem TW.sx2 {b : Nat} {W : World} {A : Option Addr} {m c : Nat} {xs : List (List UInt8)} (h : TW b W (.slice A m c) xs) : SX W (.slice A m c) xs := h.sx
set_option maxHeartbeats 16000000 in
theorem rdecode_any {w : World} (s : List UInt8) (hs : s.length ≤ 1000000000) : Calls Tryz.prog 30 #[sv s] w (DecPost w s) := by
  have hz := str_size s
  have HC := Lib.hid (CQB.new w ct0 (.slice none 0 0))
  have HB := Lib.hid (below_alloc w (cellsQ ct0 (.slice none 0 0)))
  by_cases hl : 512 < s.length
  · have hl' : (512 : Int) < (s.length : Int) := by omega
    have HN := Lib.hid (dec_forty hl).2
    have HE := Lib.hid (dec_forty hl).1
    clear hl
    go_enter Tryz.func30, Tryz.ntmps30
    go_wp2_with fail
    exact rdec_end0 HN.out HB.out HC.out _ rfl (by rw [HE.out]; rfl)
  have hl' : ¬ (512 : Int) < (s.length : Int) := by omega
  have HFO := Lib.hid (fun h => dec_four hl h)
  cases hcp : cutP s with
  | er z =>
    have HG := Lib.hid (fun W => show Calls Tryz.prog 77 #[sv s] W (fun e w' => e = .returned (.tuple #[.agg #[.int .u8 0, sv []], sv [], .int .i64 (z : Int)]) ∧ Below W.heap.size W w') by have := @rget_any W s hs; rw [hcp] at this; exact this)
    have HA := Lib.hid (fun W => show Calls Tryz.prog 78 #[sv []] W (fun e w' => (∃ A c, e = .returned (.tuple #[.slice A 0 c, .int .i64 0])) ∧ Below W.heap.size W w') from (@rall_any W [] (by decide)).mono fun e w' h => ⟨h.1.elim fun A h => h.elim fun c h => ⟨A, c, h.1⟩, h.2⟩)
    have HN := Lib.hid (dec_er1 hcp)
    have hz4 := cutP_er hcp
    have hz1 : ¬ (z : Int) = 0 := by omega
    have hz2 : ¬ z = 0 := by omega
    clear hcp hl hz4
    go_enter Tryz.func30, Tryz.ntmps30
    go_wp2_with (first
      | (go_at_call 77; (with_reducible refine (HG.out _).mono ?_); rintro e w1 ⟨rfl, hb1⟩; have HB1 := Lib.hid (HB.out.trans (hb1.mono HB.out.size)); have HC1 := Lib.hid (HC.out.step hb1); clear hb1)
      | (go_at_call 78; (with_reducible refine (HA.out _).mono ?_); rintro e w2 ⟨⟨A, cc, rfl⟩, hb2⟩; have HB2 := Lib.hid ((HB1.out.alloc HB1.out.size (.cells #[.int .u8 0, sv []] 89)).trans (hb2.mono (HB1.out.alloc HB1.out.size _).size)); have HC2 := Lib.hid ((HC1.out.step (below_alloc w1 (.cells #[.int .u8 0, sv []] 89))).step hb2); obtain ⟨⟨d0, d1, d2, d3, d4, d5⟩, g0, g1, g2, g3, g4, g5⟩ := HC2.out.zero; clear hb2))
    exact rdec_end1 HN.out HB2.out HC2.out _ rfl (by rw [HFO.out HN.out]; rfl)
  | ok p =>
    obtain ⟨⟨t, v⟩, r⟩ := p
    have HG := Lib.hid (fun W => show Calls Tryz.prog 77 #[sv s] W (fun e w' => e = .returned (.tuple #[.agg #[.int .u8 (t.toNat : Int), sv v], sv r, .int .i64 0]) ∧ Below W.heap.size W w') by have := @rget_any W s hs; rw [hcp] at this; exact this)
    have hvl := (cutP_rest hcp).1
    cases har : allR v with
    | er z =>
      have HA := Lib.hid (fun W => show Calls Tryz.prog 78 #[sv v] W (fun e w' => e = .returned (.tuple #[.slice none 0 0, .int .i64 (z : Int)]) ∧ Below W.heap.size W w') by have := @rall_any W v (by omega); rw [har] at this; exact this)
      have HN := Lib.hid (dec_er2 hcp har)
      have hz0 : z ≠ 0 := allOf_er _ _ _ har
      have hz1 : ¬ (z : Int) = 0 := by omega
      clear hcp hl har
      go_enter Tryz.func30, Tryz.ntmps30
      go_wp2_with (first
        | (go_at_call 77; (with_reducible refine (HG.out _).mono ?_); rintro e w1 ⟨rfl, hb1⟩; have HB1 := Lib.hid (HB.out.trans (hb1.mono HB.out.size)); have HC1 := Lib.hid (HC.out.step hb1); clear hb1)
        | (go_at_call 78; (with_reducible refine (HA.out _).mono ?_); rintro e w2 ⟨rfl, hb2⟩; have HB2 := Lib.hid ((HB1.out.alloc HB1.out.size (.cells #[.int .u8 (t.toNat : Int), sv v] 89)).trans (hb2.mono (HB1.out.alloc HB1.out.size _).size)); have HC2 := Lib.hid ((HC1.out.step (below_alloc w1 (.cells #[.int .u8 (t.toNat : Int), sv v] 89))).step hb2); obtain ⟨⟨d0, d1, d2, d3, d4, d5⟩, g0, g1, g2, g3, g4, g5⟩ := HC2.out.zero; clear hb2))
      exact rdec_end1 HN.out HB2.out HC2.out _ rfl (by rw [HFO.out HN.out]; rfl)
    | ok l =>
      have hll := (allR_ok har).2
      have HA := Lib.hid (fun W => show Calls Tryz.prog 78 #[sv v] W (fun e w' => (∃ A c, e = .returned (.tuple #[.slice A l.length c, .int .i64 0]) ∧ TR w' (.slice A l.length c) l) ∧ Below W.heap.size W w') by
        have := @rall_any W v (by omega); rw [har] at this
        exact this.mono fun e w' h => ⟨h.1.elim fun A h => h.elim fun c h => ⟨A, c, h.1, h.2.1.pr⟩, h.2⟩)
      have b0 := valAt_le har 0
      have b2 := valAt_le har 2
      have b3 := valAt_le har 3
      have b4 := valAt_le har 4
      have b5 := valAt_le har 5
      have HSH := Lib.hid (rdC_short har (by omega))
      have HNO := Lib.hid (fun h => dec_no hcp har h)
      have HYE := Lib.hid (fun h1 h2 => @dec_yes s v r t l h1 h2)
      have hv := fun W A cp (i : Nat) (hi : i ≤ 100) (h : TR W (.slice A l.length cp) l) => rvalue_any (w := W) l A cp i h (by omega) hi
      have HV0 := Lib.hid (fun W A cp (h : TR W (.slice A l.length cp) l) => show Calls Tryz.prog 79 #[.slice A l.length cp, .int .i64 0] W (fun e w' => e = .returned (sv (valAt l 0)) ∧ w' = W) from hv W A cp 0 (by decide) h)
      have HV1 := Lib.hid (fun W A cp (h : TR W (.slice A l.length cp) l) => show Calls Tryz.prog 79 #[.slice A l.length cp, .int .i64 1] W (fun e w' => e = .returned (sv (valAt l 1)) ∧ w' = W) from hv W A cp 1 (by decide) h)
      have HV2 := Lib.hid (fun W A cp (h : TR W (.slice A l.length cp) l) => show Calls Tryz.prog 79 #[.slice A l.length cp, .int .i64 2] W (fun e w' => e = .returned (sv (valAt l 2)) ∧ w' = W) from hv W A cp 2 (by decide) h)
      have HV3 := Lib.hid (fun W A cp (h : TR W (.slice A l.length cp) l) => show Calls Tryz.prog 79 #[.slice A l.length cp, .int .i64 3] W (fun e w' => e = .returned (sv (valAt l 3)) ∧ w' = W) from hv W A cp 3 (by decide) h)
      have HV4 := Lib.hid (fun W A cp (h : TR W (.slice A l.length cp) l) => show Calls Tryz.prog 79 #[.slice A l.length cp, .int .i64 4] W (fun e w' => e = .returned (sv (valAt l 4)) ∧ w' = W) from hv W A cp 4 (by decide) h)
      have HV5 := Lib.hid (fun W A cp (h : TR W (.slice A l.length cp) l) => show Calls Tryz.prog 79 #[.slice A l.length cp, .int .i64 5] W (fun e w' => e = .returned (sv (valAt l 5)) ∧ w' = W) from hv W A cp 5 (by decide) h)
      have HGK := Lib.hid (fun W : World => @rget_head W (valAt l 0) (by omega))
      have HAN := Lib.hid (fun W : World => @rall_items W (valAt l 2) (by omega))
      have HR3 := Lib.hid (fun W : World => @rreadInt_any W (valAt l 3) (by omega))
      have HR4 := Lib.hid (fun W : World => @rreadInt_any W (valAt l 4) (by omega))
      have HR5 := Lib.hid (fun W : World => @rreadBool_any W (valAt l 5) (by omega))
      have HEN := Lib.hid (fun (W : World) A cp (h : SX W (.slice A (rdC l).names.length cp) (rdC l).names) => rencode_any (rdC l) A cp h HSH.out)
      obtain ⟨cc, hcc⟩ : ∃ c, c = rdC l := ⟨_, rfl⟩
      have HCC := Lib.hid (show cc = ⟨headV (valAt l 0), valAt l 1, (itemsV (valAt l 2)).map (·.2), readN (valAt l 3), readN (valAt l 4), valAt l 5 == [255]⟩ from hcc)
      rw [← hcc] at HEN HNO HYE
      obtain ⟨n, hn⟩ : ∃ n, n = itemsV (valAt l 2) := ⟨_, rfl⟩
      have hn64 : n.length ≤ 64 := by rw [hn]; exact (itemsV_le _).1
      rw [← hn] at HAN HCC
      obtain ⟨K, hK⟩ : ∃ n, n = headV (valAt l 0) := ⟨_, rfl⟩
      rw [← hK] at HGK HCC
      obtain ⟨v0, e0⟩ : ∃ n, n = valAt l 0 := ⟨_, rfl⟩
      obtain ⟨v1, e1⟩ : ∃ n, n = valAt l 1 := ⟨_, rfl⟩
      obtain ⟨v2, e2⟩ : ∃ n, n = valAt l 2 := ⟨_, rfl⟩
      obtain ⟨v3, e3⟩ : ∃ n, n = valAt l 3 := ⟨_, rfl⟩
      obtain ⟨v4, e4⟩ : ∃ n, n = valAt l 4 := ⟨_, rfl⟩
      obtain ⟨v5, e5⟩ : ∃ n, n = valAt l 5 := ⟨_, rfl⟩
      rw [← e0] at HGK HV0
      rw [← e1] at HV1 HCC
      rw [← e2] at HV2 HAN
      rw [← e3] at HV3 HR3 HCC
      rw [← e4] at HV4 HR4 HCC
      rw [← e5] at HV5 HR5 HCC
      have hlm : l.length ≤ 64 := hll
      clear hcp hl har hcc hn hK e0 e1 e2 e3 e4 e5 b0 b2 b3 b4 b5 hv hvl HSH hll
      go_enter Tryz.func30, Tryz.ntmps30
      go_wp2_with (first
        | (go_at_call 79; (with_reducible refine (HV2.out _ Al cl (HT3.out.step (below_alloc _ _))).mono ?_); rintro e wz ⟨rfl, rfl⟩)
        | (go_at_call 79; (with_reducible refine (HV0.out _ Al cl HT2.out).mono ?_); rintro e wz ⟨rfl, rfl⟩)
        | (go_at_call 78; (with_reducible refine (HAN.out _).mono ?_); rintro e w4 ⟨⟨An, cn, zn, rfl, htn⟩, hb4⟩; have hbk := (below_alloc w3 (.cells #[.int .u8 (tk.toNat : Int), sv K] 89)).trans (hb4.mono (below_alloc w3 (.cells #[.int .u8 (tk.toNat : Int), sv K] 89)).size); have HB4 := Lib.hid (HB3.out.trans (hbk.mono HB3.out.size)); have HC4 := Lib.hid (HC3.out.step hbk); have HT4 := Lib.hid (HT3.out.step hbk); have HN4 := Lib.hid htn; have HK4 := Lib.hid ((RIB.new w3 tk K).step hb4); clear hb4 hbk htn)
        | (go_at_call 77; (with_reducible refine (HG.out _).mono ?_); rintro e w1 ⟨rfl, hb1⟩; have HB1 := Lib.hid (HB.out.trans (hb1.mono HB.out.size)); have HC1 := Lib.hid (HC.out.step hb1); clear hb1)
        | (go_at_call 77; (with_reducible refine (HGK.out _).mono ?_); rintro e w3 ⟨⟨tk, rk, zk, rfl⟩, hb3⟩; have HB3 := Lib.hid (HB2.out.trans (hb3.mono HB2.out.size)); have HC3 := Lib.hid (HC2.out.step hb3); have HT3 := Lib.hid (HT2.out.step hb3); clear hb3)
        | (go_at_call 78; (with_reducible refine (HA.out _).mono ?_); rintro e w2 ⟨⟨Al, cl, rfl, htl⟩, hb2⟩; have HB2 := Lib.hid ((HB1.out.alloc HB1.out.size (.cells #[.int .u8 (t.toNat : Int), sv v] 89)).trans (hb2.mono (HB1.out.alloc HB1.out.size _).size)); have HC2 := Lib.hid ((HC1.out.step (below_alloc w1 (.cells #[.int .u8 (t.toNat : Int), sv v] 89))).step hb2); have HT2 := Lib.hid htl; clear hb2 htl))
      obtain ⟨El, hEl⟩ : ∃ x, x = encL cc := ⟨_, rfl⟩
      obtain ⟨E, hE⟩ : ∃ x, x = encE cc := ⟨_, rfl⟩
      have HEN2 := Lib.hid (show ∀ (W : World) A cp, SX W (.slice A n.length cp) (n.map (·.2)) → Calls Tryz.prog 26 #[.agg #[sv K, sv v1, .slice A n.length cp, .int .i64 (readN v3), .int .i64 (readN v4), .bool (v5 == [255])]] W (fun e w' => e = .returned (.tuple #[sv El, .int .i64 (E : Nat)]) ∧ Below W.heap.size W w') by
        intro W A cp h
        have := HEN.out W A cp
        rw [← hEl, ← hE, HCC.out] at this
        simp only [certV, List.length_map] at this
        exact this h)
      rw [← hEl, ← hE] at HNO HYE
      obtain ⟨F, hF⟩ : ∃ x, x = readN v3 := ⟨_, rfl⟩
      obtain ⟨U, hU⟩ : ∃ x, x = readN v4 := ⟨_, rfl⟩
      obtain ⟨B5, hB5⟩ : ∃ x, x = (v5 == [255]) := ⟨_, rfl⟩
      rw [← hF] at HCC HR3 HEN2
      rw [← hU] at HCC HR4 HEN2
      rw [← hB5] at HCC HR5 HEN2
      clear hEl hE hF hU hB5 HEN
      have HV1b := HV1
      have lk := HK4.out.lt
      have ck := HK4.out.c1
      obtain ⟨kb, hkb⟩ : ∃ kb, kb = w3.heap.size := ⟨_, rfl⟩
      rw [← hkb] at lk ck ⊢
      clear hkb HV0 HV2 HG HA HGK HAN HB1 HC1 HB2 HC2 HT2 HB3 HC3 HT3
      have HW1 := Lib.hid (show CQB (w4.alloc (cellsQ ⟨K, v1, [], 0, 0, false⟩ (.slice none 0 0))).drew w4.heap.size ⟨K, v1, [], 0, 0, false⟩ (.slice none 0 0) ∧ Below w4.heap.size w4 (w4.alloc (cellsQ ⟨K, v1, [], 0, 0, false⟩ (.slice none 0 0))).drew from ⟨(CQB.new _ _ _).step (Below.refl _ _).drew, (below_alloc _ _).drew⟩)
      go_region_with (go_at_call 79; refine (HV1.out _ Al cl (HT4.out.step (by first | exact Below.refl _ _ | exact (Below.refl _ _).drew | exact below_alloc _ _ | exact (below_alloc _ _).drew))).mono ?_; rintro e wz ⟨rfl, rfl⟩)
      all_goals
        clear lk ck
        go_wp2_with fail
        go_loopw [15] (fun i wr => ∃ k A c, k ≤ n.length ∧ i = .int .i64 (k : Int) ∧ CQB wr w4.heap.size ⟨K, v1, (n.map (·.2)).take k, 0, 0, false⟩ (.slice A k c) ∧ TW (w4.heap.size + 1) wr (.slice A k c) ((n.map (·.2)).take k) ∧ Below w4.heap.size w4 wr) (fun i _ => n.length - (intOf i).toNat)
        case atStart => exact ⟨0, none, 0, Nat.zero_le _, rfl, HW1.out.1, TW.nil _ _, HW1.out.2⟩
        case round =>
          clear HW1
          obtain ⟨k, A, c, hk, rfl, hcb, htw, hb⟩ := hrel
          have hmk : ((n.map (·.2)).take k).length = k := by rw [List.length_take, List.length_map]; omega
          have HCr := Lib.hid hcb
          have HTr := Lib.hid htw
          have HBr := Lib.hid hb
          have p2 := hcb.c2
          have f2 := hcb.free 2
          try simp only at p2
          by_cases hlt : k < n.length
          · obtain ⟨g, off, hAn, hgl, q0, q1⟩ := (HN4.out.step hb).at hlt
            subst hAn
            have hlt' : (k : Int) < (n.length : Int) := by omega
            have hlt2 : k < (n.map (·.2)).length := by rw [List.length_map]; exact hlt
            have htk := take_text hlt2
            obtain ⟨x, hx⟩ : ∃ x, x = (n.getD k pm0).2 := ⟨_, rfl⟩
            have hxe : (n.map (·.2)).getD k [] = x := by
              rw [hx, List.getD_eq_getElem?_getD, List.getD_eq_getElem?_getD, List.getElem?_map, List.getElem?_eq_getElem hlt]; rfl
            rw [hxe] at htk
            rw [← hx] at q1
            have HAP := Lib.hid (fun W (h : Below wr.heap.size wr W) => dec_app hmk (HCr.out.step h) (HTr.out.below h) (HBr.out.trans (h.mono HBr.out.size)) (by omega) x)
            rw [← htk] at HAP
            have hlc := hcb.lt
            clear hcb htw hb hx hxe htk hmk hlt2
            go_wp2_with fail
            go_region_law (first
              | (obtain ⟨g2, cap2, w2, hrun, y0, y1, hfin⟩ := HAP.out wr (Below.refl _ _); refine step_app rfl (.tmp 66) (.tmp 72) 25 rfl rfl rfl hrun ?_; have HFIN := Lib.hid hfin; clear hrun hfin)
              | (obtain ⟨g2, cap2, w2, hrun, y0, y1, hfin⟩ := HAP.out wr.drew (Below.refl _ _).drew; refine step_app rfl (.tmp 66) (.tmp 72) 25 rfl rfl rfl hrun ?_; have HFIN := Lib.hid hfin; clear hrun hfin)
              | (obtain ⟨g2, cap2, w2, hrun, y0, y1, hfin⟩ := HAP.out wr.drew.drew (Below.refl _ _).drew.drew; refine step_app rfl (.tmp 66) (.tmp 72) 25 rfl rfl rfl hrun ?_; have HFIN := Lib.hid hfin; clear hrun hfin))
            all_goals (try go_wp2)
            all_goals go_roundw
            all_goals first | (case rel => exact ⟨k + 1, _, _, by omega, by go_num, HFIN.out⟩) | skip
            all_goals first | (case measure => simp [intOf]; omega) | skip
          · obtain rfl : k = n.length := by omega
            have htl : (n.map (·.2)).take n.length = n.map (·.2) := List.take_of_length_le (by rw [List.length_map]; exact Nat.le_refl _)
            rw [htl] at HCr HTr
            have hnl : ¬ (n.length : Int) < (n.length : Int) := by omega
            have HS3 := Lib.hid (show Below w4.heap.size w4 (wr.setCell ⟨w4.heap.size, 3, none⟩ (.int .i64 F)) from HBr.out.setCell (p := ⟨w4.heap.size, 3, none⟩) (Nat.le_refl _) _)
            have HS4 := Lib.hid (show Below w4.heap.size w4 ((wr.setCell ⟨w4.heap.size, 3, none⟩ (.int .i64 F)).setCell ⟨w4.heap.size, 4, none⟩ (.int .i64 U)) from HS3.out.setCell (p := ⟨w4.heap.size, 4, none⟩) (Nat.le_refl _) _)
            have HBf := Lib.hid (show Below w4.heap.size w4 (((wr.setCell ⟨w4.heap.size, 3, none⟩ (.int .i64 F)).setCell ⟨w4.heap.size, 4, none⟩ (.int .i64 U)).setCell ⟨w4.heap.size, 5, none⟩ (.bool B5)) from HS4.out.setCell (p := ⟨w4.heap.size, 5, none⟩) (Nat.le_refl _) _)
            have HCf := Lib.hid (((HCr.out.set3 F).set4 U).set5 B5)
            have HTf := Lib.hid (((HTr.out.set1J (n := w4.heap.size) (j := 3) (u := .int .i64 F) (by omega)).set1J (n := w4.heap.size) (j := 4) (u := .int .i64 U) (by omega)).set1J (n := w4.heap.size) (j := 5) (u := .bool B5) (by omega))
            have HC0f := Lib.hid (HC4.out.step HBf.out)
            have hk0 := HC4.out.lt
            have HV3b := Lib.hid (HV3.out _ Al cl (HT4.out.step HBr.out))
            have HV4b := Lib.hid (HV4.out _ Al cl (HT4.out.step HS3.out))
            have HV5b := Lib.hid (HV5.out _ Al cl (HT4.out.step HS4.out))
            have HENb := Lib.hid (HEN2.out _ A c HTf.out.sx2)
            have p0 := HCr.out.c0
            have p1 := HCr.out.c1
            have p3 := HCr.out.c3
            have p4 := HCr.out.c4
            have p5 := HCr.out.c5
            have f3 := HCr.out.free 3
            have f4 := HCr.out.free 4
            have f5 := HCr.out.free 5
            try simp only at p0 p1 p3 p4 p5
            have HLW := Lib.hid (show w.heap.size < w4.heap.size + 1 by omega)
            clear hcb htw hb htl hmk f2
            by_cases hE0 : E = 0
            · by_cases hEs : El = s
              · have HY := Lib.hid (HYE.out hE0 hEs)
                have e1 : (El == s) = true := by simpa using hEs
                have e2 : (El != s) = false := by simpa using hEs
                subst hE0
                clear hEs
                go_wp2_with (first
                | (go_at_call 79; (with_reducible refine (HV3b.out).mono ?_); rintro e wz ⟨rfl, rfl⟩)
                | (go_at_call 79; (with_reducible refine (HV4b.out).mono ?_); rintro e wz ⟨rfl, rfl⟩)
                | (go_at_call 79; (with_reducible refine (HV5b.out).mono ?_); rintro e wz ⟨rfl, rfl⟩)
                | (go_at_call 80; (with_reducible refine (HR3.out _).mono ?_); rintro e wz ⟨rfl, rfl⟩)
                | (go_at_call 80; (with_reducible refine (HR4.out _).mono ?_); rintro e wz ⟨rfl, rfl⟩)
                | (go_at_call 81; (with_reducible refine (HR5.out _).mono ?_); rintro e wz ⟨rfl, rfl⟩)
                | (go_at_call 26; (with_reducible refine (HENb.out).mono ?_); rintro e w5 ⟨rfl, hb5⟩; have HB5 := Lib.hid (HB4.out.trans ((HBf.out.trans (hb5.mono HBf.out.size)).mono HB4.out.size)); have HC5 := Lib.hid (HC0f.out.step hb5); have HCk := Lib.hid (HCf.out.step hb5); have HT5 := Lib.hid (HTf.out.below hb5); obtain ⟨⟨d0, d1, d2, d3, d4, d5⟩, g0, g1, g2, g3, g4, g5⟩ := (HC0f.out.step hb5).zero; obtain ⟨t0, t1, t2, t3, t4, t5⟩ := HCk.out.all; clear hb5))
                refine rdec_fin (HC5.out.put6 ⟨K, v1, n.map (·.2), F, U, B5⟩ (.slice A n.length c)) _ 0 rfl rfl ⟨below_put6 HB5.out (Nat.le_refl _), ?_⟩
                rw [HY.out.1, HCC.out]
                refine ⟨A, c, by simp only [List.length_map], ?_⟩
                simp only [List.length_map]
                exact (HT5.out.put6 HLW.out).lower (Nat.le_of_lt HLW.out)
              · have HN := Lib.hid (HNO.out (fun h => hEs h.2))
                have e1 : (El == s) = false := by simpa using hEs
                have e2 : (El != s) = true := by simpa using hEs
                subst hE0
                have HES := Lib.hid hEs
                clear hEs
                go_wp2_with (first
                | (go_at_call 79; (with_reducible refine (HV3b.out).mono ?_); rintro e wz ⟨rfl, rfl⟩)
                | (go_at_call 79; (with_reducible refine (HV4b.out).mono ?_); rintro e wz ⟨rfl, rfl⟩)
                | (go_at_call 79; (with_reducible refine (HV5b.out).mono ?_); rintro e wz ⟨rfl, rfl⟩)
                | (go_at_call 80; (with_reducible refine (HR3.out _).mono ?_); rintro e wz ⟨rfl, rfl⟩)
                | (go_at_call 80; (with_reducible refine (HR4.out _).mono ?_); rintro e wz ⟨rfl, rfl⟩)
                | (go_at_call 81; (with_reducible refine (HR5.out _).mono ?_); rintro e wz ⟨rfl, rfl⟩)
                | (go_at_call 26; (with_reducible refine (HENb.out).mono ?_); rintro e w5 ⟨rfl, hb5⟩; have HB5 := Lib.hid (HB4.out.trans ((HBf.out.trans (hb5.mono HBf.out.size)).mono HB4.out.size)); have HC5 := Lib.hid (HC0f.out.step hb5); have HCk := Lib.hid (HCf.out.step hb5); have HT5 := Lib.hid (HTf.out.below hb5); obtain ⟨⟨d0, d1, d2, d3, d4, d5⟩, g0, g1, g2, g3, g4, g5⟩ := (HC0f.out.step hb5).zero; obtain ⟨t0, t1, t2, t3, t4, t5⟩ := HCk.out.all; clear hb5))
                exact rdec_end1 HN.out HB5.out HC5.out _ rfl (by rw [HFO.out HN.out]; rfl)
            · have HN := Lib.hid (HNO.out (fun h => hE0 h.1))
              have hE1 : ¬ (E : Int) = 0 := by omega
              go_wp2_with (first
                | (go_at_call 79; (with_reducible refine (HV3b.out).mono ?_); rintro e wz ⟨rfl, rfl⟩)
                | (go_at_call 79; (with_reducible refine (HV4b.out).mono ?_); rintro e wz ⟨rfl, rfl⟩)
                | (go_at_call 79; (with_reducible refine (HV5b.out).mono ?_); rintro e wz ⟨rfl, rfl⟩)
                | (go_at_call 80; (with_reducible refine (HR3.out _).mono ?_); rintro e wz ⟨rfl, rfl⟩)
                | (go_at_call 80; (with_reducible refine (HR4.out _).mono ?_); rintro e wz ⟨rfl, rfl⟩)
                | (go_at_call 81; (with_reducible refine (HR5.out _).mono ?_); rintro e wz ⟨rfl, rfl⟩)
                | (go_at_call 26; (with_reducible refine (HENb.out).mono ?_); rintro e w5 ⟨rfl, hb5⟩; have HB5 := Lib.hid (HB4.out.trans ((HBf.out.trans (hb5.mono HBf.out.size)).mono HB4.out.size)); have HC5 := Lib.hid (HC0f.out.step hb5); have HCk := Lib.hid (HCf.out.step hb5); have HT5 := Lib.hid (HTf.out.below hb5); obtain ⟨⟨d0, d1, d2, d3, d4, d5⟩, g0, g1, g2, g3, g4, g5⟩ := (HC0f.out.step hb5).zero; obtain ⟨t0, t1, t2, t3, t4, t5⟩ := HCk.out.all; clear hb5))
              exact rdec_end1 HN.out HB5.out HC5.out _ rfl (by rw [HFO.out HN.out]; rfl)
end Go.Proofs.YtnaoandleelbkaaGreatDoor
