/-
  The reference's disk: Boot.
-/
import Derived.Test.YtechpecnanodfaaDRef4
import Derived.StillTailTactics
namespace Go.Proofs.Ytechpecnanodfaa
open Go Go.RowKit Go.Maps
set_option maxRecDepth 100000
set_option linter.unusedSimpArgs false
set_option linter.unusedVariables false

/-- What is left of a Boot's loop, and that what was written last of what is left is as it was. -/
structure Rm (S : DS) (kf : Nat → Nat) (k : Nat) (T : DS) : Prop where
  r : Rem S kf k T
  nw : ∀ j ∈ (dirtyL S.wet).drop k, T.now.getD j [] = S.now.getD j []
theorem Rm.start {S : DS} (h : S.Ok) (kf : Nat → Nat) : Rm S kf 0 S := ⟨Rem.start h kf, fun _ _ => rfl⟩
theorem Rm.step {S T : DS} {kf : Nat → Nat} {k : Nat} (h : Rm S kf k T) (hS : S.Ok) (hk : k < (dirtyL S.wet).length) : Rm S kf (k + 1) (T.st ((dirtyL S.wet).getD k 0) (kf k)) := by
  refine ⟨h.r.step hS hk, fun j hj => ?_⟩
  have hd := drop_cons_getD hk
  have hn : ((dirtyL S.wet).drop k).Nodup := (nodup_dirtyL S.wet).sublist (List.drop_sublist _ _)
  rw [hd, List.nodup_cons] at hn
  have hne : (dirtyL S.wet).getD k 0 ≠ j := fun e => hn.1 (e ▸ hj)
  have hm : j ∈ (dirtyL S.wet).drop k := by rw [hd]; exact List.mem_cons_of_mem _ hj
  rw [← h.nw j hm]
  show (T.now.set ((dirtyL S.wet).getD k 0) _).getD j [] = _
  rw [getD_set, if_neg (fun e => hne e.1)]

theorem cuty (sa : List UInt8) {sb : List UInt8} (hb : (str sb).size = 128) (y : Nat) : (str sa).extract 0 y ++ (str sb).extract y 128 = str (spl y sa sb) := by
  have hl : sb.length = 128 := by have : sb.toArray.size = 128 := hb; simpa using this
  apply ByteArray.ext
  apply Array.ext'
  simp [str, spl, List.extract_eq_take_drop]
  rw [List.take_of_length_le (by rw [List.length_drop]; omega)]
theorem cut0 (sa : List UInt8) {sb : List UInt8} (hb : (str sb).size = 128) : (str sb).extract 0 128 = str (spl 0 sa sb) := by
  rw [← cuty sa hb 0]
  apply ByteArray.ext
  apply Array.ext'
  simp
theorem cut128 {sa sb : List UInt8} (ha : (str sa).size = 128) (hb : (str sb).size = 128) : (str sa).extract 0 128 = str (spl 128 sa sb) := by
  rw [← cuty sa hb 128]
  apply ByteArray.ext
  apply Array.ext'
  simp

set_option maxHeartbeats 4000000 in
theorem boot_rd {w : World} {q g1 g2 g3 : Nat} {S : DS} (h : RD w q g1 g2 g3 S) {Ak : Option Addr} {ck : Nat} {L : List Int} (hL : IR w Ak L) (hLA : ∀ a, Ak = some a → L ≠ [] → a.block ∉ [q, g1, g2, g3]) (hLl : L.length ≤ 100000) :
    Calls Try.prog 42 #[dp q, .slice Ak L.length ck] w fun e w' => e = .returned (.int .i64 S.bootE) ∧ RT w w' q g1 g2 g3 (S.boot L) := by
  have HH := Lib.hid h
  obtain ⟨c1, c2, c3, left, fails, hq, h1, h2, h3, hr⟩ := h.box
  have k6 : w.cell? ⟨q, 6, none⟩ = some (.bool S.off) := cellAt hq 6
  have HOK := Lib.hid h.ok
  have HQ := Lib.hid hq
  have H1 := Lib.hid h1
  have H2 := Lib.hid h2
  have HR := Lib.hid hr
  have HRE := Lib.hid (show S.bootE = if S.off then 0 else 7 from rfl)
  have HWR := Lib.hid (show S.boot L = if S.off then { S.sts (keptN L) (dirtyL S.wet) 0 with left := 0, off := false } else S from rfl)
  have HL := Lib.hid hL
  have HLA := Lib.hid hLA
  have hn2 := h.ok.n2
  have hn1 := h.ok.n1
  generalize hn : S.was.length = n at HQ hn1 hn2
  have HN := Lib.hid hn
  have HNN := Lib.hid (show n = S.now.length by rw [h.ok.hn]; exact hn.symm)
  have CDI := Lib.hid (dirty_rd h)
  have hmax : (dL S.wet).length ≤ 1024 := by rw [dL_length]; exact dirtyL_le h.ok
  generalize hm : (dL S.wet).length = m at hmax CDI
  have HM := Lib.hid hm
  have HMD := Lib.hid (show (dirtyL S.wet).length = m by rw [← dL_length]; exact hm)
  generalize hll : L.length = ll at hLl ⊢
  have HLL := Lib.hid hll
  clear h hq h1 h2 h3 hr hn hL hLA hm hll
  go_enter Try.func42, Try.ntmps42
  cases hoff : S.off with
  | false =>
    rw [hoff] at k6
    have HE1 := Lib.hid (show S.bootE = 7 by rw [HRE.out, hoff]; rfl)
    have HW1 := Lib.hid (show S.boot L = S by rw [HWR.out, hoff]; rfl)
    clear hoff
    go_wp2_with fail
    go_ret
    exact ⟨by rw [HE1.out]; rfl, by rw [HW1.out]; exact .same HH.out (Kp.refl _ _)⟩
  | true =>
    rw [hoff] at k6
    have HE1 := Lib.hid (show S.bootE = 0 by rw [HRE.out, hoff]; rfl)
    have HOF := Lib.hid hoff
    clear hoff
    go_wp2_with (go_at_call 44; refine CDI.out.mono ?_; rintro e w1 ⟨A, c, rfl, hI, hA, hb⟩; have HI := Lib.hid hI; have HA := Lib.hid hA; have HB := Lib.hid hb; clear hI hA hb)
    go_loopw [6] (fun kx W => ∃ (k : Nat) (T : DS), kx = .int .i64 (k : Int) ∧ k ≤ m ∧ Rm S (keptN L) k T ∧ XR W 9 g1 c1 (txs T.was) ∧ Kp [g1] w1 W) (fun kx _ => m - (RowKit.intOf kx).toNat)
    case atStart => exact ⟨0, S, rfl, by omega, Rm.start HOK.out _, H1.out.of_block (HB.out.block g1 H1.out.lt), Kp.refl _ _⟩
    case round =>
      obtain ⟨k, T, rfl, hkm, hR, hX, hK⟩ := hrel
      have HRM := Lib.hid hR
      have HX := Lib.hid hX
      have HK := Lib.hid hK
      by_cases hk : k < m
      · have hki : (k : Int) < (m : Int) := by omega
        have hk0 : (0 : Int) ≤ (k : Int) := by omega
        have hkw : IntKind.i64.wrap ((k : Int) + 1) = (k : Int) + 1 := IntWalk.i64_in _ (by omega)
        have hqw := lt_of_blk HQ.out
        have hsz1 := HB.out.size
        obtain ⟨n1, n2, n3, n4, n5, n6⟩ := HH.out.ne
        have hqr : wr.heap[q]? = some (.cells (rCells n g1 c1 g2 c2 g3 c3 S.ops left fails S.off) 78 (0, 0)) := (hK.block q (by omega) (by simp; omega)).trans ((HB.out.block q hqw).trans HQ.out)
        have k0 : wr.cell? ⟨q, 0, none⟩ = some (.slice (some ⟨g1, 0, none⟩) n c1) := cellAt hqr 0
        have k1 : wr.cell? ⟨q, 1, none⟩ = some (.slice (some ⟨g2, 0, none⟩) n c2) := cellAt hqr 1
        have h2r : XR wr 9 g2 c2 (txs S.now) := H2.out.of_block ((hK.block g2 (by have := H2.out.lt; omega) (by simp; omega)).trans (HB.out.block g2 H2.out.lt))
        have hkd : k < (dirtyL S.wet).length := by rw [HMD.out]; exact hk
        obtain ⟨b, o, hAe, hb, hc⟩ := (HI.out.kp hK (fun a ha _ => by simp; have := HA.out a ha; have := H1.out.lt; omega) : IR wr A (dL S.wet)) k (by rw [HM.out]; exact hk)
        rw [getD_dL] at hc
        obtain ⟨q1, q2⟩ := hR.r.lt HOK.out hkd
        have hST := hR.step HOK.out hkd
        have hnw := hR.nw ((dirtyL S.wet).getD k 0) (by rw [drop_cons_getD hkd]; simp)
        have hkq := hR.r.ok
        have hst2 : (T.st ((dirtyL S.wet).getD k 0) (keptN L k)).was = T.was.set ((dirtyL S.wet).getD k 0) (spl (keptN L k) (S.now.getD ((dirtyL S.wet).getD k 0) []) (T.was.getD ((dirtyL S.wet).getD k 0) [])) := by
          rw [← hnw]; rfl
        have hdn : (dirtyL S.wet).getD k 0 < n := by rw [← HN.out, ← hR.r.len]; exact q1
        generalize (dirtyL S.wet).getD k 0 = d at hc q1 q2 hST hst2 hdn
        have hcn := (h2r.cell (j := d) (by rw [txs_length, ← HNN.out]; exact hdn)).1
        obtain ⟨hcw, hfw⟩ := hX.cell (j := d) (by rw [txs_length]; exact q1)
        rw [txs_getD (by rw [← HNN.out]; exact hdn)] at hcn
        rw [txs_getD q1] at hcw
        have hla : (S.now.getD d []).length = 128 := HOK.out.now_len (by rw [HN.out]; exact hdn)
        have hlb : (T.was.getD d []).length = 128 := hkq.was_len q1
        have HST := Lib.hid hST
        have HST2 := Lib.hid hst2
        have HDW := Lib.hid q1
        generalize S.now.getD d [] = sa at hcn hla HST2
        generalize T.was.getD d [] = sb at hcw hlb HST2
        have hsa : (str sa).size = 128 := by show sa.toArray.size = 128; simpa using hla
        have hsb : (str sb).size = 128 := by show sb.toArray.size = 128; simpa using hlb
        have hdi : (d : Int) < (n : Int) := by omega
        have hd0 : (0 : Int) ≤ (d : Int) := by omega
        have HAE := Lib.hid hAe
        rw [hAe]
        have HLr := Lib.hid (show IR wr Ak L from (HL.out.below HB.out).kp hK (fun a ha hn => by have := HLA.out a ha hn; simp at this ⊢; exact this.2.1))
        clear hqr h2r hkd hST hst2 hkq hdn hnw q1 q2 hla hlb hR hX hK hb hAe n1 n2 n3 n4 n5 n6
        by_cases hkl : k < ll
        · obtain ⟨bk, ok, hAk, hbk, hck⟩ := HLr.out k (by rw [HLL.out]; exact hkl)
          have hkli : (k : Int) < (ll : Int) := by omega
          have HKX := Lib.hid (show keptN L k = (min (max (L.getD k 0) 0) 128).toNat by unfold keptN; rw [if_pos (by rw [HLL.out]; exact hkl)])
          generalize L.getD k 0 = x at hck HKX
          rw [hAk]
          clear hAk hbk hkl
          by_cases hx0 : 0 < x
          · by_cases hx1 : 128 < x
            · have HKN := Lib.hid (show keptN L k = 128 by rw [HKX.out]; omega)
              clear HKX
              go_wp2_with fail
              go_still_tail 34, (by kernel_rfl)
              change wpList _ _ _ _ _ wr.drew
              have hcw2 : wr.drew.cell? ⟨g1, d, none⟩ = some (sv sb) := hcw
              have hfw2 : wr.drew.frozen? ⟨g1, d, none⟩ = false := hfw
              go_wp2_with fail
              go_roundw
              case rel =>
                refine ⟨k + 1, _, by go_num, by omega, HST.out, ?_, (HK.out.setCell (by simp) _).drew⟩
                rw [HST2.out, HKN.out, cut128 hsa hsb, ← txs_set]
                exact XR.of_block (w := wr.setCell ⟨g1, d, none⟩ (sv (spl 128 sa sb))) (HX.out.set (j := d) (by rw [txs_length]; exact HDW.out) _) rfl
              case measure => simp [RowKit.intOf]; omega
            · obtain ⟨y, rfl⟩ : ∃ y : Nat, x = (y : Int) := ⟨x.toNat, by omega⟩
              have HKN := Lib.hid (show keptN L k = y by rw [HKX.out]; omega)
              have hyi : (y : Int) ≤ 128 := by omega
              have hy0 : (0 : Int) ≤ (y : Int) := by omega
              have hy128 : y ≤ 128 := by omega
              clear HKX
              go_wp2_with fail
              go_still_tail 34, (by kernel_rfl)
              change wpList _ _ _ _ _ wr.drew
              have hcw2 : wr.drew.cell? ⟨g1, d, none⟩ = some (sv sb) := hcw
              have hfw2 : wr.drew.frozen? ⟨g1, d, none⟩ = false := hfw
              go_wp2_with fail
              go_roundw
              case rel =>
                refine ⟨k + 1, _, by go_num, by omega, HST.out, ?_, (HK.out.setCell (by simp) _).drew⟩
                rw [HST2.out, HKN.out, cuty sa hsb y, ← txs_set]
                exact XR.of_block (w := wr.setCell ⟨g1, d, none⟩ (sv (spl y sa sb))) (HX.out.set (j := d) (by rw [txs_length]; exact HDW.out) _) rfl
              case measure => simp [RowKit.intOf]; omega
          · have HKN := Lib.hid (show keptN L k = 0 by rw [HKX.out]; omega)
            clear HKX
            go_wp2_with fail
            go_still_tail 34, (by kernel_rfl)
            change wpList _ _ _ _ _ wr.drew
            have hcw2 : wr.drew.cell? ⟨g1, d, none⟩ = some (sv sb) := hcw
            have hfw2 : wr.drew.frozen? ⟨g1, d, none⟩ = false := hfw
            go_wp2_with fail
            go_roundw
            case rel =>
              refine ⟨k + 1, _, by go_num, by omega, HST.out, ?_, (HK.out.setCell (by simp) _).drew⟩
              rw [HST2.out, HKN.out, cut0 sa hsb, ← txs_set]
              exact XR.of_block (w := wr.setCell ⟨g1, d, none⟩ (sv (spl 0 sa sb))) (HX.out.set (j := d) (by rw [txs_length]; exact HDW.out) _) rfl
            case measure => simp [RowKit.intOf]; omega
        · have hkli : ¬ (k : Int) < (ll : Int) := by omega
          have HKN := Lib.hid (show keptN L k = 0 by unfold keptN; rw [if_neg (by rw [HLL.out]; exact hkl)])
          go_wp2_with fail
          go_still_tail 34, (by kernel_rfl)
          change wpList _ _ _ _ _ wr.drew
          have hcw2 : wr.drew.cell? ⟨g1, d, none⟩ = some (sv sb) := hcw
          have hfw2 : wr.drew.frozen? ⟨g1, d, none⟩ = false := hfw
          go_wp2_with fail
          go_roundw
          case rel =>
            refine ⟨k + 1, _, by go_num, by omega, HST.out, ?_, (HK.out.setCell (by simp) _).drew⟩
            rw [HST2.out, HKN.out, cut0 sa hsb, ← txs_set]
            exact XR.of_block (w := wr.setCell ⟨g1, d, none⟩ (sv (spl 0 sa sb))) (HX.out.set (j := d) (by rw [txs_length]; exact HDW.out) _) rfl
          case measure => simp [RowKit.intOf]; omega
      · have hki : ¬ (k : Int) < (m : Int) := by omega
        have HTD := Lib.hid (hR.r.done (by rw [HMD.out]; omega))
        have HTL := Lib.hid (show n = T.was.length by rw [hR.r.len, HN.out])
        have HTO := Lib.hid hR.r.off.2
        have hqw := lt_of_blk HQ.out
        have hsz1 := HB.out.size
        obtain ⟨n1, n2, n3, n4, n5, n6⟩ := HH.out.ne
        have hqr : wr.heap[q]? = some (.cells (rCells n g1 c1 g2 c2 g3 c3 S.ops left fails S.off) 78 (0, 0)) := (hK.block q (by omega) (by simp; omega)).trans ((HB.out.block q hqw).trans HQ.out)
        have HQR := Lib.hid hqr
        have k0b : (wr.alloc (.cells #[] 9)).cell? ⟨q, 0, none⟩ = some (.slice (some ⟨g1, 0, none⟩) n c1) := (World.cell?_of_block (w := wr) (Lib.alloc_old wr _ q (lt_of_blk hqr))).trans (cellAt hqr 0)
        have HNE := Lib.hid HH.out.ne
        clear hR hX hK hqr n1 n2 n3 n4 n5 n6 hqw hsz1
        go_wp2_with (at_builtin; obtain ⟨G2, C2, wa, hra, hxa, hba, hga⟩ := fresh_t (n := n) (c := c1) wr HX.out HTL.out (by omega) (by omega); refine wpList_builtin2_run _ rfl .append Builtin.append_ _ _ _ _ rfl (fun _ _ _ => rfl) _ _ rfl rfl hra ?_; have HXA := Lib.hid hxa; have HBA := Lib.hid hba; have HGA := Lib.hid hga; have hqa := (hba.block q (lt_of_blk HQR.out)).trans HQR.out; have j1 : wa.cell? ⟨q, 1, none⟩ = some (.slice (some ⟨g2, 0, none⟩) n c2) := cellAt hqa 1; have l1 := freeAt hqa 1; have HQA := Lib.hid hqa; clear hra hxa hba hga hqa)
        rw [make_bools n hn2]
        simp only [Result.andThen]
        rw [Oper.upon_value]
        have hk1 : Kp [q] wa (wa.setCell ⟨q, 1, none⟩ (.slice (some ⟨G2, 0, none⟩) n C2)) := (Kp.refl _ _).setCell (by simp) _
        have hq1 := blk_set HQA.out 1 (.slice (some ⟨G2, 0, none⟩) n C2)
        generalize wa.setCell ⟨q, 1, none⟩ (.slice (some ⟨G2, 0, none⟩) n C2) = W1 at hk1 hq1 ⊢
        have hx := XR.new W1 4 (bls (List.replicate n false)) (by rw [bls_length, List.length_replicate]; omega)
        have hlen : (bls (List.replicate n false)).length = n := by rw [bls_length, List.length_replicate]
        rw [hlen] at hx
        have hk2 : Kp [q] wa (W1.alloc (.cells (bls (List.replicate n false)).toArray 4)) := hk1.alloc _
        have hq2 : (W1.alloc (.cells (bls (List.replicate n false)).toArray 4)).heap[q]? = some (.cells (rCells n g1 c1 G2 C2 g3 c3 S.ops left fails S.off) 78 (0, 0)) := (Lib.alloc_old W1 _ q (lt_of_blk hq1)).trans (by rw [hq1]; simp [rCells])
        have HG3 := Lib.hid hk1.size
        generalize W1.alloc (.cells (bls (List.replicate n false)).toArray 4) = w2 at hx hk2 hq2 ⊢
        generalize W1.heap.size = G3 at hx HG3 ⊢
        have j2 : w2.cell? ⟨q, 2, none⟩ = some (.slice (some ⟨g3, 0, none⟩) n c3) := cellAt hq2 2
        have l2 := freeAt hq2 2
        have j5 : w2.cell? ⟨q, 5, none⟩ = some (.bool fails) := cellAt hq2 5
        have l5 := freeAt hq2 5
        have j6 : w2.cell? ⟨q, 6, none⟩ = some (.bool S.off) := cellAt hq2 6
        have l6 := freeAt hq2 6
        have hk3 : Kp [q] w2 (((w2.setCell ⟨q, 2, none⟩ (.slice (some ⟨G3, 0, none⟩) n n)).setCell ⟨q, 6, none⟩ (.bool false)).setCell ⟨q, 5, none⟩ (.bool false)) := (((Kp.refl _ _).setCell (by simp) _).setCell (by simp) _).setCell (by simp) _
        have hq3 : (((w2.setCell ⟨q, 2, none⟩ (.slice (some ⟨G3, 0, none⟩) n n)).setCell ⟨q, 6, none⟩ (.bool false)).setCell ⟨q, 5, none⟩ (.bool false)).heap[q]? = some (.cells (rCells n g1 c1 G2 C2 G3 n S.ops left false false) 78 (0, 0)) := by rw [blk_set (blk_set (blk_set hq2 2 _) 6 _) 5]; simp [rCells]
        have HK2 := Lib.hid hk2
        have HK3 := Lib.hid hk3
        have HQ3 := Lib.hid hq3
        have HXB := Lib.hid hx
        clear hk1 hq1 hlen hx hk2 hq2 hk3 hq3 j1 l1 k0b
        go_wp2_with fail
        go_ret
        obtain ⟨n1, n2, n3, n4, n5, n6⟩ := HNE.out
        have hqw := lt_of_blk HQ.out
        have h1w := H1.out.lt
        have hwb := HB.out.size
        have hrs := HK.out.size
        have hsa := HBA.out.size
        have hga := HGA.out
        have hG2 := HXA.out.lt
        have hG3 := HG3.out
        have hKa : Kp [q] wa (((w2.setCell ⟨q, 2, none⟩ (.slice (some ⟨G3, 0, none⟩) n n)).setCell ⟨q, 6, none⟩ (.bool false)).setCell ⟨q, 5, none⟩ (.bool false)) := HK2.out.trans HK3.out (fun k hk _ => hk)
        have hKr : Kp [q] wr (((w2.setCell ⟨q, 2, none⟩ (.slice (some ⟨G3, 0, none⟩) n n)).setCell ⟨q, 6, none⟩ (.bool false)).setCell ⟨q, 5, none⟩ (.bool false)) := (Kp.of_below HBA.out [q]).trans hKa (fun k hk _ => hk)
        have hKw : Kp [q, g1, g2, g3] w (((w2.setCell ⟨q, 2, none⟩ (.slice (some ⟨G3, 0, none⟩) n n)).setCell ⟨q, 6, none⟩ (.bool false)).setCell ⟨q, 5, none⟩ (.bool false)) := ((Kp.of_below HB.out [q, g1, g2, g3]).trans HK.out (fun k hk _ => by simp at hk; simp [hk])).trans hKr (fun k hk _ => by simp at hk; simp [hk])
        have hTC := DS.sts_clean HOK.out (keptN L)
        rw [← HTD.out] at hTC
        have hSB : S.boot L = { T with left := 0, off := false } := by rw [HWR.out, if_pos HOF.out, HTD.out]
        have hBO := HOK.out.boot L
        refine ⟨by rw [HE1.out]; rfl, g1, G2, G3, ⟨hBO, ?_, by omega, by omega, by omega, by omega, by omega, by omega⟩, hKw, fun b hb => ?_⟩
        · rw [hSB]
          refine ⟨c1, C2, n, left, false, ?_, HX.out.of_block (hKr.block g1 HX.out.lt (by simp; omega)), ?_, ?_, ⟨HR.out.b, fun _ => ⟨by simp, fun h => absurd h (by simp)⟩⟩⟩
          · show _ = some (Obj.cells (rCells T.was.length g1 c1 G2 C2 G3 n T.ops left false false) 78 (0, 0))
            rw [← HTL.out, HTO.out]
            exact HQ3.out
          · show XR _ 9 G2 C2 (txs T.now)
            rw [hTC.2]
            exact HXA.out.of_block (hKa.block G2 hG2 (by simp; omega))
          · show XR _ 4 G3 n (bls T.wet)
            rw [hTC.1, HN.out]
            exact HXB.out.of_block (HK3.out.block G3 HXB.out.lt (by simp; omega))
        · simp at hb
          rcases hb with rfl | rfl | rfl | rfl
          · simp
          · simp
          · right; omega
          · right; omega
end Go.Proofs.Ytechpecnanodfaa
