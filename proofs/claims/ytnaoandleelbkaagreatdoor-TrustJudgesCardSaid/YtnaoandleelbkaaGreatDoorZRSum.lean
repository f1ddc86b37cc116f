/-
  Contract of the reference's Sum.
-/
import Derived.BigQuiet
import Derived.Deep.RegionHeld3
import Derived.Test.YtnaoandleelbkaaGreatDoorZRm
namespace Go.Proofs.YtnaoandleelbkaaGreatDoor
open Go Go.RowKit
set_option maxRecDepth 100000
/-- How long a row is. -/
def rowN : Value → Nat | .slice _ n _ => n | _ => 0
attribute [local go_sem ↓] Go.wp_at_zero Go.wp_at_succ

set_option maxHeartbeats 100000000 in
theorem rsum_any (s : List UInt8) (w : World) (hs : s.length ≤ 1000) : Calls Tryz.prog 76 #[.string (str s)] w fun e w' => e = .returned (sv (sumP s)) ∧ Below w.heap.size w w' := by
  have hsi : (s.length : Int) ≤ 1000 := by omega
  obtain ⟨p, hp⟩ : ∃ p, p = (64 - (s.length + 9) % 64) % 64 := ⟨_, rfl⟩
  have HP := Lib.hid hp
  have hp64 : p < 64 := by omega
  go_enter Tryz.func76, Tryz.ntmps76
  go_wp2_with fail
  refine (rwords_any w).mono ?_
  rintro e w1 ⟨gh, gk, rfl, hgh, hghk, hh, hk, hb1⟩
  rw [h0L_eq] at hh
  rw [k0L_eq] at hk
  have HH := Lib.hid (show At gh H0.l w1 from hh)
  have HK := Lib.hid (show At gk Kw w1 from hk)
  have HB1 := Lib.hid hb1
  have HGH := Lib.hid hgh
  have HGHK := Lib.hid hghk
  obtain ⟨vb, wb, hrb, hb0⟩ := rb_bytes w1 w1 (Below.refl _ _) s (by omega)
  have HRB := Lib.hid hb0
  clear hh hk hb1 hgh hghk hb0
  go_wp2_with (first | (at_builtin; refine rb_append HRB.out (by omega) 128 _ rfl (.tmp 26) (.tmp 27) rfl rfl rfl rfl ?_; intro vb2 wb2 hb2) | fail)
  have HB2 := Lib.hid (show RB w1 vb2 (s ++ [128] ++ List.replicate 0 0) wb2 by rw [List.replicate_zero, List.append_nil]; exact hb2)
  clear hb2 hrb
  go_wp2_with fail
  go_loopw [5] (fun v wr => ∃ m : Nat, m ≤ p ∧ RB w1 v (s ++ [128] ++ List.replicate m 0) wr) (fun v _ => s.length + 1 + p - rowN v)
  case atStart => exact ⟨0, Nat.zero_le _, HB2.out⟩
  case round =>
    obtain ⟨m, hm, hg⟩ := hrel
    have HG := Lib.hid hg
    obtain ⟨gb, cb, rfl, hgb, -, -, -⟩ := hg.form
    have hbl : (s ++ [128] ++ List.replicate m (0 : UInt8)).length = s.length + 1 + m := by simp; omega
    rw [hbl] at HG ⊢
    clear hg
    by_cases h6 : (s.length + 1 + m) % 64 = 56
    · obtain rfl : m = p := by omega
      obtain ⟨B, hB⟩ : ∃ B, B = s ++ [128] ++ List.replicate m (0 : UInt8) := ⟨_, rfl⟩
      rw [← hB] at hbl HG
      have HB := Lib.hid hB
      obtain ⟨L, hL⟩ : ∃ L, L = bytesBE (8 * s.length) 8 := ⟨_, rfl⟩
      have hL8 : L.length = 8 := by rw [hL, bytesBE_length]
      have HL := Lib.hid hL
      have hBl : B.length ≤ 1100 := by omega
      have h6i : ((s.length : Int) + 1 + (m : Int)).tmod 64 = 56 := by rw [show ((s.length : Int) + 1 + (m : Int)).tmod 64 = (((s.length + 1 + m) % 64 : Nat) : Int) from rfl, h6]; rfl
      have HBL := Lib.hid hbl
      rw [← hbl] at HG ⊢
      have hBi : ((s.length : Int) + 1 + (m : Int)) = (B.length : Int) := by omega
      rw [hBi] at h6i
      clear hB hL hBi hbl hp
      go_wp2_with fail
      go_loopw [5, 6] (fun v k wr => ∃ i : Nat, i ≤ 8 ∧ k = .int .i64 (56 - 8 * (i : Int)) ∧ RB w1 v (B ++ L.take i) wr) (fun _ k _ => (intOf k + 8).toNat)
      case atStart => exact ⟨0, Nat.zero_le _, rfl, by rw [List.take_zero, List.append_nil]; exact HG.out⟩
      case round =>
        obtain ⟨i, hi, rfl, hg⟩ := hrel
        have HG2 := Lib.hid hg
        obtain ⟨gb2, cb2, rfl, -, -, -, -⟩ := hg.form
        have hbl2 : (B ++ L.take i).length = B.length + i := by rw [List.length_append, List.length_take]; omega
        rw [hbl2] at HG2 ⊢
        clear hg
        by_cases h8 : i < 8
        · have hki : (56 - 8 * (i : Int)) = ((8 * (7 - i) : Nat) : Int) := by omega
          have HT := Lib.hid (show L.take (i + 1) = L.take i ++ [UInt8.ofNat ((8 * s.length) / 2 ^ (8 * (7 - i)) % 256)] by rw [HL.out]; exact bytesBE_take h8)
          have HV := Lib.hid (byte_at (8 * s.length) (8 * (7 - i)))
          obtain ⟨k, hk⟩ : ∃ k, k = 8 * (7 - i) := ⟨_, rfl⟩
          rw [← hk] at hki HT HV
          rw [hki]
          have hk56 : k ≤ 56 := by omega
          obtain ⟨y, hy⟩ : ∃ y, y = UInt8.ofNat ((8 * s.length) / 2 ^ k % 256) := ⟨_, rfl⟩
          rw [← hy] at HT HV
          have HKI := Lib.hid hki
          have HKK := Lib.hid hk
          have hw1 : IntKind.u64.wrap (s.length : Int) = (s.length : Int) := wraps_u64 _ (by omega) (by omega)
          have hw2 : IntKind.u64.wrap ((s.length : Int) * 8) = ((8 * s.length : Nat) : Int) := by rw [wraps_u64 _ (by omega) (by omega)]; omega
          have hw3 : IntKind.u64.wrap (k : Int) = (k : Int) := wraps_u64 _ (by omega) (by omega)
          clear hy hki hk
          go_wp2_with (first | (at_builtin; refine rb_append HG2.out (by rw [hbl2]; omega) y _ ?hz (.tmp 40) (.tmp 49) rfl rfl rfl rfl ?_; rotate_left; intro v2 wr2 hg2) | fail)
          case hz => exact HV.out
          · rw [List.append_assoc, ← HT.out] at hg2
            go_roundw
            case rel => exact ⟨i + 1, by omega, by have := HKI.out; go_num, hg2⟩
            case measure => have := HKI.out; simp [intOf]; omega
        · obtain rfl : i = 8 := by omega
          rw [List.take_of_length_le (by omega)] at HG2 hbl2
          obtain ⟨T, hT⟩ : ∃ T, T = B ++ L := ⟨_, rfl⟩
          rw [← hT] at HG2 hbl2
          have hTE : T = s ++ endP s.length := by
            rw [hT, HB.out, HL.out]
            unfold endP
            rw [← HP.out]
            simp
          have HTE := Lib.hid hTE
          have hT64 : T.length % 64 = 0 := by rw [hTE, List.length_append]; exact (endP_length s.length).1
          obtain ⟨N, hN⟩ : ∃ N, N = T.length / 64 := ⟨_, rfl⟩
          have hTN : T.length = 64 * N := by omega
          have HNN := Lib.hid hN
          rw [← hbl2] at HG2 ⊢
          rw [show (56 - 8 * ((8 : Nat) : Int)) = -8 from rfl]
          have hTl : T.length ≤ 1200 := by omega
          obtain ⟨gb3, cb3, he3, hgb3, hltb, hlc, hcl⟩ := HG2.out.form
          obtain ⟨rfl, rfl⟩ : gb2 = gb3 ∧ cb2 = cb3 := by simpa using he3
          obtain ⟨ob, hob⟩ : ∃ ob, wr.heap[gb2]? = some ob := ⟨_, Array.getElem?_eq_getElem hltb⟩
          have HCELL := Lib.hid (show ∀ W : World, W.heap[gb2]? = some ob → ∀ j, j < T.length → W.cell? ⟨gb2, j, none⟩ = some (bv (T.getD j 0)) from fun W hW j hj => (World.cell?_of_block (a := ⟨gb2, j, none⟩) (hW.trans hob.symm)).trans (hcl j hj))
          have HSG := Lib.hid (show Sg w gh gk gb2 ob (blocksN H0 T 0).l wr from ⟨HB1.out.trans (HG2.out.below.mono HB1.out.size), HH.out.behind HG2.out.below, HK.out.behind HG2.out.below, hob⟩)
          have HN1 := Lib.hid (show gb2 ≠ gh by have := HH.out.lt; omega)
          have HN2 := Lib.hid (show gk ≠ gh by have := HGHK.out; omega)
          have hlc2 : T.length ≤ cb2 := hlc
          have HTN := Lib.hid hTN
          clear hTN hT hTE hN hob hcl he3 hltb hlc hgb3 HG2 HG HRB HB2 HB HL hL8 hT64 hbl2 h8 hi hBl h6 h6i hm hp64 hgb
          go_wp2_with fail
          go_loopw [7] (fun f W => ∃ m : Nat, m ≤ N ∧ f = .int .i64 ((64 * m : Nat) : Int) ∧ Sg w gh gk gb2 ob (blocksN H0 T m).l W) (fun f _ => T.length - (intOf f).toNat)
          case atStart => exact ⟨0, Nat.zero_le _, rfl, HSG.out⟩
          case round =>
            obtain ⟨m2, hm2, rfl, hsg⟩ := hrel
            obtain ⟨f, hf⟩ : ∃ f, f = 64 * m2 := ⟨_, rfl⟩
            rw [← hf]
            have HF := Lib.hid hf
            have HS := Lib.hid hsg
            by_cases hlt : m2 < N
            · have hf64 : f + 64 ≤ T.length := by have := HTN.out; omega
              obtain ⟨st, hst⟩ : ∃ st, st = blocksN H0 T m2 := ⟨_, rfl⟩
              obtain ⟨ch, hch⟩ : ∃ ch, ch = (T.drop f).take 64 := ⟨_, rfl⟩
              have HNX := Lib.hid (show blocksN H0 T (m2 + 1) = blockP Kw st ch by rw [blocksN, ← hst, hch, hf])
              rw [← hst] at HS
              have hch64 : ch.length = 64 := by rw [hch, List.length_take, List.length_drop]; omega
              have HW := Lib.hid (fun c => words_any ch gb2 f c wr (by omega) (fun j hj => by
                rw [HCELL.out wr HS.out.2.2.2 (f + j) (by omega), hch]
                simp only [List.getD_eq_getElem?_getD]
                rw [List.getElem?_take_of_lt (by omega), List.getElem?_drop]))
              rw [hch64] at HW
              have hfi : (f : Int) + 64 ≤ (T.length : Int) := by omega
              have hfc : (f : Int) + 64 ≤ (cb2 : Int) := by omega
              have hft : (f : Int) < (T.length : Int) := by omega
              have HCH := Lib.hid hch64
              clear hf hst hch hsg hch64
              go_wp2_with fail
              refine (HW.out _).mono ?_
              rintro e w2 ⟨v0, rfl, hg0⟩
              obtain ⟨ws, hws⟩ : ∃ ws, ws = wordsP ch := ⟨_, rfl⟩
              have hws16 : ws.length = 16 := by rw [hws, wordsP_length, HCH.out]
              rw [← hws] at hg0
              have HWS := Lib.hid hws
              have HWL := Lib.hid hws16
              have HG0 := Lib.hid (show GW wr v0 (schedP ws 0) w2 from hg0)
              clear hg0 hws hws16
              go_wp2_with fail
              go_loopw [8, 9] (fun v i W => ∃ k : Nat, k ≤ 48 ∧ i = .int .i64 ((k : Int) + 16) ∧ GW wr v (schedP ws k) W) (fun _ i _ => 64 - (intOf i).toNat)
              case atStart => exact ⟨0, Nat.zero_le _, rfl, HG0.out⟩
              case round =>
                obtain ⟨k, hk, rfl, hg⟩ := hrel
                have hl := schedP_length ws k
                rw [HWL.out] at hl
                obtain ⟨gw, cw, rfl, hgw0, hgw1⟩ := hg.at (by omega)
                obtain ⟨l, hll⟩ : ∃ l, l = schedP ws k := ⟨_, rfl⟩
                rw [← hll] at hg hl ⊢
                have HLL := Lib.hid hll
                clear hll hgw0 hgw1
                by_cases h48 : k < 48
                · have g15 := hg.row (k + 1) (by omega)
                  have g2 := hg.row (k + 14) (by omega)
                  have g7 := hg.row (k + 9) (by omega)
                  have g16 := hg.row k (by omega)
                  obtain ⟨x15, h15⟩ : ∃ x, x = l.getD (k + 1) 0 := ⟨_, rfl⟩
                  obtain ⟨x2, h2⟩ : ∃ x, x = l.getD (k + 14) 0 := ⟨_, rfl⟩
                  obtain ⟨x7, h7⟩ : ∃ x, x = l.getD (k + 9) 0 := ⟨_, rfl⟩
                  obtain ⟨x16, h16⟩ : ∃ x, x = l.getD k 0 := ⟨_, rfl⟩
                  rw [← h15] at g15
                  rw [← h2] at g2
                  rw [← h7] at g7
                  rw [← h16] at g16
                  have HN := Lib.hid (show nextW l = x16 + x7 + sm0 x15 + sm1 x2 by
                    unfold nextW
                    rw [hl, show 16 + k - 2 = k + 14 by omega, show 16 + k - 7 = k + 9 by omega, show 16 + k - 15 = k + 1 by omega, show 16 + k - 16 = k by omega, ← h15, ← h2, ← h7, ← h16]
                    rw [BitVec.add_comm _ x16, BitVec.add_assoc (sm1 x2), BitVec.add_comm (sm1 x2), ← BitVec.add_assoc, ← BitVec.add_assoc])
                  have HX7 := Lib.hid h7
                  have HX16 := Lib.hid h16
                  clear h15 h2 h7 h16
                  obtain ⟨n, hn⟩ : ∃ n, n = l.length := ⟨_, rfl⟩
                  rw [← hn]
                  have HNL := Lib.hid hn
                  have HGG := Lib.hid hg
                  have hnk : n = 16 + k := by omega
                  have HNK := Lib.hid hnk
                  have s15 : IntKind.i64.wrap ((k : Int) + 16 - 15) = (k : Int) + 1 := by rw [IntWalk.i64_in _ (by omega)]; omega
                  have s2 : IntKind.i64.wrap ((k : Int) + 16 - 2) = (k : Int) + 14 := by rw [IntWalk.i64_in _ (by omega)]; omega
                  have s7 : IntKind.i64.wrap ((k : Int) + 16 - 7) = (k : Int) + 9 := by rw [IntWalk.i64_in _ (by omega)]; omega
                  have s16 : IntKind.i64.wrap ((k : Int) + 16 - 16) = (k : Int) := by rw [IntWalk.i64_in _ (by omega)]; omega
                  have t1 : ((k : Int) + 1).toNat = k + 1 := by omega
                  have t14 : ((k : Int) + 14).toNat = k + 14 := by omega
                  have t9 : ((k : Int) + 9).toNat = k + 9 := by omega
                  have p1 : 0 ≤ (k : Int) + 1 := by omega
                  have p14 : 0 ≤ (k : Int) + 14 := by omega
                  have p9 : 0 ≤ (k : Int) + 9 := by omega
                  have q1 : (k : Int) + 1 < n := by omega
                  have q14 : (k : Int) + 14 < n := by omega
                  have q9 : (k : Int) + 9 < n := by omega
                  have q0 : (k : Int) < n := by omega
                  clear hn hg hl hnk
                  go_wp2_with fail
                  go_quiet (fail)
                  clear s15 s2
                  have rx := bits_xor32
                  have r3 := shr_3
                  have r10 := shr_10
                  have rp := wrap_add
                  have s0 : IntKind.i64.wrap (k : Int) = (k : Int) := IntWalk.i64_in _ (by omega)
                  obtain ⟨wn, hwn⟩ : ∃ wn, wn = wr.drewN nq := ⟨_, rfl⟩
                  rw [← hwn]
                  have d7 : wn.cell? ⟨gw, k + 9, none⟩ = some (wv x7) := by rw [hwn]; exact g7
                  have d16 : wn.cell? ⟨gw, k, none⟩ = some (wv x16) := by rw [hwn]; exact g16
                  have hgn := HGG.out.behind (below_drewNC (Below.refl wr.heap.size wr) nq)
                  rw [← hwn] at hgn
                  have hnl := HNL.out
                  have hnk := HNK.out
                  obtain ⟨v3, w3, hrun, hg3, hk3⟩ := gw_run2 hgn.drew (by omega) (by omega) (x16 + x7 + sm0 x15 + sm1 x2) (wv (x16 + x7 + sm0 x15 + sm1 x2)) rfl
                  rw [← hnl] at hrun
                  have e7 := hk3 (k + 9) (by omega)
                  rw [← HX7.out] at e7
                  have e16 := hk3 k (by omega)
                  rw [← HX16.out] at e16
                  rw [← HN.out, HLL.out] at hg3
                  have HG5 := Lib.hid (show GW _ v3 (schedP ws (k + 1)) w3 from hg3)
                  have HRUN := Lib.hid hrun
                  clear hwn g15 g2 g7 g16 t1 t14 p1 p14 q1 q14 hgn hnl hnk hrun hg3 hk3
                  have R7 := Lib.hid (show ∀ W : World, Calls Tryz.prog 136 #[wv x15, .int .u64 7] W fun e w' => e = .returned (wv (rotP x15 7)) ∧ W = w' from fun W => rrot_any x15 7 W (by decide) (by decide))
                  have R18 := Lib.hid (show ∀ W : World, Calls Tryz.prog 136 #[wv x15, .int .u64 18] W fun e w' => e = .returned (wv (rotP x15 18)) ∧ W = w' from fun W => rrot_any x15 18 W (by decide) (by decide))
                  have R17 := Lib.hid (show ∀ W : World, Calls Tryz.prog 136 #[wv x2, .int .u64 17] W fun e w' => e = .returned (wv (rotP x2 17)) ∧ W = w' from fun W => rrot_any x2 17 W (by decide) (by decide))
                  have R19 := Lib.hid (show ∀ W : World, Calls Tryz.prog 136 #[wv x2, .int .u64 19] W fun e w' => e = .returned (wv (rotP x2 19)) ∧ W = w' from fun W => rrot_any x2 19 W (by decide) (by decide))
                  go_wp2_with fail
                  go_region_held3 (fun w' => w'.cell? ⟨gw, k + 9, none⟩ = some (wv x7) ∧ w'.cell? ⟨gw, k, none⟩ = some (wv x16)) (go_keep)
                    (first
                      | (go_at_call 136; with_reducible refine (R7.out _).mono ?_; rintro e w' ⟨rfl, rfl⟩)
                      | (go_at_call 136; with_reducible refine (R18.out _).mono ?_; rintro e w' ⟨rfl, rfl⟩)
                      | (go_at_call 136; with_reducible refine (R17.out _).mono ?_; rintro e w' ⟨rfl, rfl⟩)
                      | (go_at_call 136; with_reducible refine (R19.out _).mono ?_; rintro e w' ⟨rfl, rfl⟩)
                      | (refine step_app rfl (.tmp 77) (.tmp 107) 156 rfl rfl rfl HRUN.out ?_))
                  all_goals
                    clear rx r3 r10 rp s0 s7 s16 d7 d16 e7 e16
                    go_wp2_with fail
                    go_roundw
                    case rel => exact ⟨k + 1, by omega, by go_num, HG5.out⟩
                    case measure => simp [intOf]; omega
                · obtain rfl : k = 48 := by omega
                  have hl64 : l.length = 64 := by omega
                  rw [hl64] at hg ⊢
                  obtain ⟨wt, hwt⟩ : ∃ wt, wt = wr := ⟨_, rfl⟩
                  rw [← hwt] at hg ⊢
                  have hst := HS.out.behind hg.below
                  have HST := Lib.hid hst
                  have HLW := Lib.hid (show ∀ j, j < 64 → wt.cell? ⟨gw, j, none⟩ = some (wv (l.getD j 0)) from fun j hj => hg.row j (by omega))
                  have HGWL := Lib.hid (show gw < wt.heap.size from World.block_lt_of_cell? wt ⟨gw, 0, none⟩ (HLW.out 0 (by decide)))
                  have HV0 := Lib.hid (GW.lit (Below.refl wt.heap.size wt) [] #[] rfl (by simp))
                  have HADD := Lib.hid (show ∀ (g j : Nat), (⟨g, 0, none⟩ : Addr).add j = ⟨g, j, none⟩ from fun g j => by rw [Addr.add_lit, Nat.zero_add])
                  have HK0 := Lib.hid hst.1
                  clear hwt hg hst hl hk h48 hl64 HG0
                  go_wp2_with (first | (at_builtin; refine gw_app HV0.out (by simp) st.l ⟨gh, 0, none⟩ (by simp [St.l]) ?hc (.tmp 109) (.tmp 110) rfl rfl rfl 8 8 rfl rfl ?_; rotate_left; intro gv0 cv0 wu hgv0) | fail)
                  case hc =>
                    intro j hj
                    rw [HADD.out]
                    exact (HST.out.2.1.behind ((Below.refl _ _).alloc (Nat.le_refl _) _)).cell hj
                  have HT0 := Lib.hid (show GW wt (.slice (some ⟨gv0, 0, none⟩) 8 cv0) (turnsN st l 0).l wu from hgv0)
                  clear hgv0
                  go_wp2_with fail
                  go_loopw [12, 13] (fun v i W => ∃ k : Nat, k ≤ 64 ∧ i = .int .i64 (k : Int) ∧ GW wt v (turnsN st l k).l W) (fun _ i _ => 64 - (intOf i).toNat)
                  case atStart => exact ⟨0, Nat.zero_le _, rfl, HT0.out⟩
                  case round =>
                    obtain ⟨k, hk, rfl, hg⟩ := hrel
                    obtain ⟨t, ht⟩ : ∃ t, t = turnsN st l k := ⟨_, rfl⟩
                    rw [← ht] at hg
                    obtain ⟨gv, cv, rfl, hgva, hgvb⟩ := hg.at (by show 0 < 8; decide)
                    have hcap := hg.cap
                    rw [show t.l.length = 8 from rfl] at hg hcap ⊢
                    by_cases h64 : k < 64
                    · obtain ⟨kw, hkw⟩ : ∃ x, x = Kw.getD k 0 := ⟨_, rfl⟩
                      obtain ⟨xw, hxw⟩ : ∃ x, x = l.getD k 0 := ⟨_, rfl⟩
                      have hck : wr.cell? ⟨gk, k, none⟩ = some (wv kw) := by rw [hkw]; exact ((HST.out.behind hg.below).2.2.1).cell (by rw [Kw_length]; omega)
                      have hcl : wr.cell? ⟨gw, k, none⟩ = some (wv xw) := by rw [hxw]; exact (hg.below.cell (p := ⟨gw, k, none⟩) HGWL.out).trans (HLW.out k h64)
                      have HTK := Lib.hid (show turnsN st l (k + 1) = turnP t (kw + xw) by rw [turnsN, ← ht, hkw, hxw])
                      have HGT := Lib.hid hg
                      have htc : TC gv gk gw k t kw xw wr := ⟨hg.row 0 (by show 0 < 8; decide), hg.row 1 (by show 1 < 8; decide), hg.row 2 (by show 2 < 8; decide), hg.row 3 (by show 3 < 8; decide), hg.row 4 (by show 4 < 8; decide), hg.row 5 (by show 5 < 8; decide), hg.row 6 (by show 6 < 8; decide), hg.row 7 (by show 7 < 8; decide), hck, hcl⟩
                      obtain ⟨t0, t1, t2, t3, t4, t5, t6, t7⟩ := t
                      have HTC := Lib.hid htc
                      obtain ⟨c0, c1, c2, c3, c4, c5, c6, c7, ck, cl⟩ := htc
                      have q64 : (k : Int) < 64 := by omega
                      have qcv : (7 : Int) ≤ (cv : Int) := by omega
                      have qcn : 7 ≤ cv := by omega
                      have rx := bits_xor32
                      have ra := bits_and32
                      have ro := bits_or32
                      have rn : ∀ x : W32, bits BinOp.xor IntKind.u32 (if IntKind.u32.signed = true then -1 else IntKind.u32.max) (n32 x) = n32 (~~~x) := fun x => by rw [if_neg (by decide)]; exact bits_not32 x
                      have rm := add32
                      have rp := wrap_add
                      have HGVA := Lib.hid hgva
                      have HGVB := Lib.hid hgvb
                      clear hg ht hkw hxw hgva hgvb hcap hck hcl
                      go_wp2_with fail
                      go_quiet (fail)
                      obtain ⟨wn, hwn⟩ : ∃ W, W = wr.drewN nq := ⟨_, rfl⟩
                      rw [← hwn]
                      have Hwn := Lib.hid (show TC gv gk gw k ⟨t0, t1, t2, t3, t4, t5, t6, t7⟩ kw xw wn by rw [hwn]; exact HTC.out.drewN nq)
                      have Gwn := Lib.hid (show GW wt _ _ wn by rw [hwn]; exact HGT.out.behind (below_drewNC (Below.refl wr.heap.size wr) nq))
                      clear hwn c0 c1 c2 c3 c4 c5 c6 c7 ck cl
                      obtain ⟨c0, c1, c2, c3, c4, c5, c6, c7, ck, cl⟩ := Hwn.out
                      go_wp2_with fail
                      go_big_quiet (exact rrot_z t4 _ (by decide) _ _)
                      obtain ⟨wp, hwn⟩ : ∃ W, W = wn.drewN nq := ⟨_, rfl⟩
                      rw [← hwn]
                      have Hwp := Lib.hid (show TC gv gk gw k ⟨t0, t1, t2, t3, t4, t5, t6, t7⟩ kw xw wp by rw [hwn]; exact Hwn.out.drewN nq)
                      have Gwp := Lib.hid (show GW wt _ _ wp by rw [hwn]; exact Gwn.out.behind (below_drewNC (Below.refl wn.heap.size wn) nq))
                      clear hwn c0 c1 c2 c3 c4 c5 c6 c7 ck cl
                      obtain ⟨c0, c1, c2, c3, c4, c5, c6, c7, ck, cl⟩ := Hwp.out
                      go_wp2_with fail
                      go_big_quiet (exact rrot_z t0 _ (by decide) _ _)
                      obtain ⟨wq, hwn⟩ : ∃ W, W = wp.drewN nq := ⟨_, rfl⟩
                      rw [← hwn]
                      have Hwq := Lib.hid (show TC gv gk gw k ⟨t0, t1, t2, t3, t4, t5, t6, t7⟩ kw xw wq by rw [hwn]; exact Hwp.out.drewN nq)
                      have Gwq := Lib.hid (show GW wt _ _ wq by rw [hwn]; exact Gwp.out.behind (below_drewNC (Below.refl wp.heap.size wp) nq))
                      clear hwn c0 c1 c2 c3 c4 c5 c6 c7 ck cl
                      obtain ⟨c0, c1, c2, c3, c4, c5, c6, c7, ck, cl⟩ := Hwq.out
                      have hgle2 := World.block_lt_of_cell? wq ⟨gv, 0, none⟩ c0
                      have HGL := Lib.hid hgle2
                      have HCC := Lib.hid (show ∀ j, j < 8 → wq.cell? ⟨gv, j, none⟩ = some (wv ((St.l ⟨t0, t1, t2, t3, t4, t5, t6, t7⟩).getD j 0)) from fun j hj => Gwq.out.row j hj)
                      clear c0 c1 c2 c3 c4 c5 c6 c7 ck cl hgle2
                      go_wp2_with (first | (at_builtin; refine gw_app8 Gwq.out.below ⟨t0, t1, t2, t3, t4, t5, t6, t7⟩ _ gv HGL.out HCC.out (.tmp 188) (.tmp 190) rfl rfl rfl cv rfl ?_; intro g2 c2 w2 hg2 hd4 hf4 hg2le) | fail)
                      have HG2B := Lib.hid hg2
                      have HG2L := Lib.hid hg2le
                      simp only [] at hd4
                      clear hg2 hg2le
                      go_wp2_with fail
                      go_roundw
                      case rel => exact ⟨k + 1, by omega, by go_num, by rw [HTK.out, ← turn_row]; exact HG2B.out.stored rfl HG2L.out 4 _⟩
                      case measure => simp [intOf]; omega
                    · obtain rfl : k = 64 := by omega
                      obtain ⟨ov, hov⟩ : ∃ o, wr.heap[gv]? = some o := ⟨_, Array.getElem?_eq_getElem hgvb⟩
                      have HVC := Lib.hid (show ∀ W : World, W.heap[gv]? = some ov → ∀ j, j < 8 → W.cell? ⟨gv, j, none⟩ = some (wv (t.l.getD j 0)) from fun W hW j hj => (World.cell?_of_block (a := ⟨gv, j, none⟩) (hW.trans hov.symm)).trans (hg.row j hj))
                      have HNV := Lib.hid (show gv ≠ gh by have := HST.out.2.1.lt; omega)
                      have HOV := Lib.hid hov
                      have HSW := Lib.hid (show Sg w gh gk gb2 ob (mixL st.l t.l 0) wr from HST.out.behind hg.below)
                      have HTE2 := Lib.hid (show blockP Kw st ch = addP st t by
                        unfold blockP
                        rw [← HWS.out, ← HLL.out, ht, turnsN_all st l (by rw [HLL.out, schedP_length, HWL.out])])
                      clear hov hg ht hgva hgvb hcap hk h64
                      go_wp2_with fail
                      go_loopw [18] (fun i W => ∃ k : Nat, k ≤ 8 ∧ i = .int .i64 (k : Int) ∧ Sg w gh gk gb2 ob (mixL st.l t.l k) W ∧ W.heap[gv]? = some ov) (fun i _ => 8 - (intOf i).toNat)
                      case atStart => exact ⟨0, Nat.zero_le _, rfl, HSW.out, HOV.out⟩
                      case round =>
                        obtain ⟨k, hk, rfl, hsg, hov⟩ := hrel
                        by_cases h8 : k < 8
                        · obtain ⟨x, hx⟩ : ∃ x, x = st.l.getD k 0 := ⟨_, rfl⟩
                          obtain ⟨y, hy⟩ : ∃ x, x = t.l.getD k 0 := ⟨_, rfl⟩
                          have hlen : st.l.length = t.l.length := rfl
                          have hcx : wr.cell? ⟨gh, k, none⟩ = some (wv x) := by
                            rw [cellAt hsg.2.1, hx]
                            have := mix_get hlen (k := k) h8
                            simp [this]
                          have hfx := freeAt hsg.2.1 k
                          have hcy := HVC.out wr hov k h8
                          rw [← hy] at hcy
                          have hs2 := (hsg.behind (Below.refl wr.heap.size wr).drew).set HGH.out HN2.out HN1.out k (x + y)
                          rw [hx, hy, mix_set hlen h8, ← hx, ← hy] at hs2
                          have HS2 := Lib.hid hs2
                          have HO2 := Lib.hid (show (wr.drew.setCell ⟨gh, k, none⟩ (wv (x + y))).heap[gv]? = some ov from (heap_set_ne _ (fun e => HNV.out e.symm)).trans hov)
                          have rp := wrap_add
                          have q8 : (k : Int) < 8 := by omega
                          clear hsg hov hs2 hx hy hlen
                          go_wp2_with fail
                          go_region
                          all_goals (clear rp hcy; go_wp2_with fail)
                          go_roundw
                          case rel => exact ⟨k + 1, by omega, by go_num, HS2.out, HO2.out⟩
                          case measure => simp [intOf]; omega
                        · obtain rfl : k = 8 := by omega
                          have HSF := Lib.hid (show Sg w gh gk gb2 ob (blocksN H0 T (m2 + 1)).l wr by rw [HNX.out, HTE2.out]; exact hsg)
                          clear hsg hov
                          have e : (f : Int) + 64 = ((64 * (m2 + 1) : Nat) : Int) := by have := HF.out; omega
                          have HEE := Lib.hid e
                          clear e
                          go_wp2_with fail
                          refine ⟨⟨m2 + 1, by omega, by rw [HEE.out], HSF.out⟩, ?_⟩
                          simp [intOf]; omega
            · obtain rfl : m2 = N := by omega
              obtain ⟨R, hR⟩ : ∃ R, R = blocksN H0 T m2 := ⟨_, rfl⟩
              rw [← hR] at HS
              have HRS := Lib.hid (show (R.l.take 8).flatMap wordB = sumP s by
                rw [sumP_whole, ← HTE.out, ← HNN.out, ← hR]; rfl)
              have hfl : ¬ ((f : Int) < (T.length : Int)) := by have := HTN.out; omega
              obtain ⟨wE, hwE⟩ : ∃ wE, wE = wr := ⟨_, rfl⟩
              have HSE := Lib.hid (show Sg w gh gk gb2 ob R.l wE by rw [hwE]; exact HS.out)
              rw [← hwE]
              have HG0 := Lib.hid (show GB wE (.slice none 0 0) ((R.l.take 0).flatMap wordB) wE from GB.nil wE)
              have HSTR := Lib.hid (fun (W : World) (v : Value) (h : GB wE v (sumP s) W) => gb_string h)
              clear hR hsg hwE hf HF hlt HCELL HSG hTl hlc2
              go_wp2_with fail
              go_loopw [19, 20] (fun v i W => ∃ k : Nat, k ≤ 8 ∧ i = .int .i64 (k : Int) ∧ GB wE v ((R.l.take k).flatMap wordB) W) (fun _ i _ => 8 - (intOf i).toNat)
              case atStart => exact ⟨0, Nat.zero_le _, rfl, HG0.out⟩
              case round =>
                obtain ⟨k, hk, rfl, hg⟩ := hrel
                obtain ⟨A, cp, rfl⟩ := hg.form
                have hwle := words_le R k
                by_cases h8 : k < 8
                · obtain ⟨x, hx⟩ : ∃ x, x = R.l.getD k 0 := ⟨_, rfl⟩
                  have hcx := (HSE.out.2.1.behind hg.below).cell (j := k) h8
                  rw [← hx] at hcx
                  have hT1 : (R.l.take (k + 1)).flatMap wordB = (R.l.take k).flatMap wordB ++ wordB x := by
                    rw [List.take_succ_eq_append_getElem (by exact h8), List.flatMap_append, hx, List.getD_eq_getElem?_getD, List.getElem?_eq_getElem (by exact h8)]
                    simp
                  obtain ⟨b0, hb0⟩ : ∃ b, b = UInt8.ofNat (x.toNat / 2 ^ 24 % 256) := ⟨_, rfl⟩
                  obtain ⟨b1, hb1⟩ : ∃ b, b = UInt8.ofNat (x.toNat / 2 ^ 16 % 256) := ⟨_, rfl⟩
                  obtain ⟨b2, hb2⟩ : ∃ b, b = UInt8.ofNat (x.toNat / 2 ^ 8 % 256) := ⟨_, rfl⟩
                  obtain ⟨b3, hb3⟩ : ∃ b, b = UInt8.ofNat (x.toNat / 2 ^ 0 % 256) := ⟨_, rfl⟩
                  have hwb : wordB x = [b0, b1, b2, b3] := by rw [hb0, hb1, hb2, hb3]; rfl
                  have v0 : IntKind.u8.wrap (n32 x / 16777216) = (b0.toNat : Int) := by rw [hb0, ← byte_at, IntKind.wrap_u8]; rfl
                  have v1 : IntKind.u8.wrap (n32 x / 65536) = (b1.toNat : Int) := by rw [hb1, ← byte_at, IntKind.wrap_u8]; rfl
                  have v2 : IntKind.u8.wrap (n32 x / 256) = (b2.toNat : Int) := by rw [hb2, ← byte_at, IntKind.wrap_u8]; rfl
                  have v3 : IntKind.u8.wrap (n32 x) = (b3.toNat : Int) := by rw [hb3, ← byte_at, IntKind.wrap_u8]; unfold n32; simp
                  have u0 : n32 x / 16777216 % 256 = (b0.toNat : Int) := by rw [← v0, IntKind.wrap_u8]
                  have u1 : n32 x / 65536 % 256 = (b1.toNat : Int) := by rw [← v1, IntKind.wrap_u8]
                  have u2 : n32 x / 256 % 256 = (b2.toNat : Int) := by rw [← v2, IntKind.wrap_u8]
                  have u3 : n32 x % 256 = (b3.toNat : Int) := by rw [← v3, IntKind.wrap_u8]
                  obtain ⟨X, hX⟩ : ∃ X, X = (R.l.take k).flatMap wordB := ⟨_, rfl⟩
                  rw [← hX] at hg hwle hT1 ⊢
                  rw [hwb] at hT1
                  obtain ⟨g3, cap3, w3, hrun, hg3⟩ := gb_run hg.drew (by omega) [b0, b1, b2, b3] #[.int .u8 b0.toNat, .int .u8 b1.toNat, .int .u8 b2.toNat, .int .u8 b3.toNat] rfl ⟨by simp, by simp⟩ 4 4 rfl
                  have hcx3 := (HSE.out.2.1.behind hg3.below).cell (j := k) h8
                  rw [← hx] at hcx3
                  rw [← hT1] at hg3
                  have HRUN := Lib.hid hrun
                  have HG3 := Lib.hid hg3
                  have q8 : (k : Int) < 8 := by omega
                  clear hb0 hb1 hb2 hb3 hwb hx hX hT1 hrun hg3 hg
                  go_wp2_with fail
                  go_region_held3 (fun w' => w'.cell? ⟨gh, k, none⟩ = some (wv x)) (go_keep)
                    (refine step_app rfl (.tmp 219) (.tmp 243) 41 rfl rfl rfl HRUN.out ?_)
                  all_goals
                    clear v0 v1 v2 v3 u0 u1 u2 u3 hcx hcx3
                    go_wp2
                    go_roundw
                    case rel => exact ⟨k + 1, by omega, by go_num, HG3.out⟩
                    case measure => simp [intOf]; omega
                · obtain rfl : k = 8 := by omega
                  rw [HRS.out] at hg ⊢
                  have hr := HSTR.out _ _ hg
                  have HB := Lib.hid (HSE.out.1.trans (hg.below.mono HSE.out.1.size))
                  clear hg hwle
                  go_wp2
                  go_ret
                  exact ⟨rfl, HB.out⟩
    · have h6i : ((((s.length : Int) + 1 + (m : Int)).tmod 64) != 56) = true := by
        rw [show ((s.length : Int) + 1 + (m : Int)).tmod 64 = (((s.length + 1 + m) % 64 : Nat) : Int) from rfl]
        rw [bne_iff_ne]; omega
      go_wp2_with (first | (at_builtin; refine rb_append HG.out (by omega) 0 _ rfl (.tmp 33) (.tmp 34) rfl rfl rfl rfl ?_; intro v2 wr2 hg2) | fail)
      rw [List.append_assoc, ← List.replicate_succ'] at hg2
      obtain ⟨g2, c2, rfl, _, _, _, _⟩ := hg2.form
      exact ⟨⟨m + 1, by omega, hg2⟩, by simp [rowN]; omega⟩
end Go.Proofs.YtnaoandleelbkaaGreatDoor
