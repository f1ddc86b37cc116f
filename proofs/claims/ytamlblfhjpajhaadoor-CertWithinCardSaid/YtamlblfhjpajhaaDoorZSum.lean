/-
  Contract of Sum: the digest.
  Texts of 100000 bytes at most; where the laid words are as their texts lay them.
-/
import Derived.Deep.CutRange
import Derived.Test.YtamlblfhjpajhaaDoorZBlocks
namespace Go.Proofs.YtamlblfhjpajhaaDoor
open Go Go.RowKit
set_option maxRecDepth 100000

/-- A word's four bytes, the greatest first; the digest. -/
def wordB (x : W32) : List UInt8 := bytesBE x.toNat 4
def sumP (s : List UInt8) : List UInt8 :=
  let q := s.length / 64
  let r := s.drop (64 * q) ++ endP s.length
  (blocksN (blocksN H0 (s.take (64 * q)) q) r (r.length / 64)).l.flatMap wordB

theorem wordB_length (x : W32) : (wordB x).length = 4 := bytesBE_length _ _

theorem grownBy_of_below {W W' : World} (h : Below W.heap.size W W') (row : Option Nat) : W.grownBy W' row := ⟨h.os, h.tape, h.output, h.size, fun k hk _ => h.block k hk⟩

theorem builder_below {w w' : World} {B b : Nat} {T : TypeId} {bs : List Value} (h : Lib.IsBuilderF T 5 B b bs w) (hb : Below w.heap.size w w') : Lib.IsBuilderF T 5 B b bs w' := by
  have one : ∀ p, Lib.BuilderAtF T 5 B b p bs w → Lib.BuilderAtF T 5 B b p bs w' := by
    rintro p ⟨hB, v', hbk, hown, hnb⟩
    refine ⟨hB, v', (hb.block b (lt_of_blk hbk)).trans hbk, hown.kept (grownBy_of_below hb none) ?_, hnb⟩
    cases h : v'.ownBlock with
    | none => exact .inl rfl
    | some k => exact .inr (by simp)
  exact h.elim (fun h => .inl (one _ h)) (fun h => .inr (one _ h))

theorem words_le (r : St) (k : Nat) : ((r.l.take k).flatMap wordB).length ≤ 100 := by
  have h : ∀ l : List W32, (l.flatMap wordB).length = 4 * l.length := by
    intro l
    induction l with
    | nil => rfl
    | cons x l ih => rw [List.flatMap_cons, List.length_append, ih]; unfold wordB; rw [bytesBE_length, List.length_cons]; omega
  rw [h, List.length_take]
  have : r.l.length = 8 := rfl
  omega

theorem st_cells {w : World} {n : Nat} {Q : St} (h : w.heap[n]? = some (.cells (Q.l.map wv).toArray 68 (0, 0))) : w.cell? ⟨n, 0, none⟩ = some (wv Q.a) ∧ w.frozen? ⟨n, 0, none⟩ = false ∧ w.cell? ⟨n, 1, none⟩ = some (wv Q.b) ∧ w.frozen? ⟨n, 1, none⟩ = false ∧ w.cell? ⟨n, 2, none⟩ = some (wv Q.c) ∧ w.frozen? ⟨n, 2, none⟩ = false ∧ w.cell? ⟨n, 3, none⟩ = some (wv Q.d) ∧ w.frozen? ⟨n, 3, none⟩ = false ∧ w.cell? ⟨n, 4, none⟩ = some (wv Q.e) ∧ w.frozen? ⟨n, 4, none⟩ = false ∧ w.cell? ⟨n, 5, none⟩ = some (wv Q.f) ∧ w.frozen? ⟨n, 5, none⟩ = false ∧ w.cell? ⟨n, 6, none⟩ = some (wv Q.g) ∧ w.frozen? ⟨n, 6, none⟩ = false ∧ w.cell? ⟨n, 7, none⟩ = some (wv Q.h) ∧ w.frozen? ⟨n, 7, none⟩ = false := by
  refine ⟨?_, freeAt h 0, ?_, freeAt h 1, ?_, freeAt h 2, ?_, freeAt h 3, ?_, freeAt h 4, ?_, freeAt h 5, ?_, freeAt h 6, ?_, freeAt h 7⟩ <;> (rw [cellAt h]; rfl)

theorem filled2 {w : World} {n : Nat} (Q R : St) (h : w.heap[n]? = some (.cells (Q.l.map wv).toArray 68 (0, 0))) :
    ((((((((w.setCell ⟨n, 0, none⟩ (wv R.a)).setCell ⟨n, 1, none⟩ (wv R.b)).setCell ⟨n, 2, none⟩ (wv R.c)).setCell ⟨n, 3, none⟩ (wv R.d)).setCell ⟨n, 4, none⟩ (wv R.e)).setCell ⟨n, 5, none⟩ (wv R.f)).setCell ⟨n, 6, none⟩ (wv R.g)).setCell ⟨n, 7, none⟩ (wv R.h)).heap[n]? = some (.cells (R.l.map wv).toArray 68 (0, 0)) := by
  have h0 := heap_setCell_same w n 0 _ 68 (wv R.a) h
  have h1 := heap_setCell_same _ n 1 _ 68 (wv R.b) h0
  have h2 := heap_setCell_same _ n 2 _ 68 (wv R.c) h1
  have h3 := heap_setCell_same _ n 3 _ 68 (wv R.d) h2
  have h4 := heap_setCell_same _ n 4 _ 68 (wv R.e) h3
  have h5 := heap_setCell_same _ n 5 _ 68 (wv R.f) h4
  have h6 := heap_setCell_same _ n 6 _ 68 (wv R.g) h5
  have h7 := heap_setCell_same _ n 7 _ 68 (wv R.h) h6
  rw [h7]
  simp [St.l]

set_option maxHeartbeats 2000000 in
theorem sum_any (s : List UInt8) (w : World) (hs : s.length ≤ 100000) (hw : LWc w) :
    Calls Tryd.prog 24 #[.string (str s)] w fun e w' => e = .returned (sv (sumP s)) ∧ Below w.heap.size w w' := by
  have HW := Lib.hid hw
  have c0 : w.cell? ⟨1, 0, none⟩ = some (wv H0.a) := hw.h0 0
  have c1 : w.cell? ⟨1, 1, none⟩ = some (wv H0.b) := hw.h0 1
  have c2 : w.cell? ⟨1, 2, none⟩ = some (wv H0.c) := hw.h0 2
  have c3 : w.cell? ⟨1, 3, none⟩ = some (wv H0.d) := hw.h0 3
  have c4 : w.cell? ⟨1, 4, none⟩ = some (wv H0.e) := hw.h0 4
  have c5 : w.cell? ⟨1, 5, none⟩ = some (wv H0.f) := hw.h0 5
  have c6 : w.cell? ⟨1, 6, none⟩ = some (wv H0.g) := hw.h0 6
  have c7 : w.cell? ⟨1, 7, none⟩ = some (wv H0.h) := hw.h0 7
  have hpos := hw.pos0
  have hal : ∀ (o : Obj) (i : Nat), (w.alloc o).cell? ⟨1, i, none⟩ = w.cell? ⟨1, i, none⟩ := fun o i => (below_allocC w o).cell (p := ⟨1, i, none⟩) (by show 1 < w.heap.size; omega)
  obtain ⟨q, hq⟩ : ∃ q, q = s.length / 64 := ⟨_, rfl⟩
  have hq2 : (s.length : Int) - (s.length : Int) % 64 = 64 * (q : Int) := by omega
  have hq3 : 64 * q ≤ s.length := by omega
  have hqi : 64 * (q : Int) ≤ (s.length : Int) := by omega
  have e1 := str_take s (64 * q)
  have HT := Lib.hid (show (s.take (64 * q)).length = 64 * q by rw [List.length_take]; omega)
  have HQ := Lib.hid hq2
  have hq1000 : q ≤ 10000 := by omega
  have hq64 : s.length ≤ 64 * q + 64 := by omega
  have HQQ := Lib.hid hq
  clear hw hq hq2
  go_enter Tryd.func24, Tryd.ntmps24
  go_wp2_with fail
  rw [HQ.out]
  obtain ⟨R, hR⟩ : ∃ R, R = blocksN H0 (s.take (64 * q)) q := ⟨_, rfl⟩
  have HBL := fun (W : World) (h : LWc W) => blocks_any H0 (s.take (64 * q)) q W HT.out hq1000 h
  rw [← hR] at HBL
  have HB := Lib.hid HBL
  have HR := Lib.hid hR
  clear HBL hR
  go_cut [4] from 14 to 18 (fun v wr => ∃ g, v = .pointer (some ⟨g, 0, none⟩) ∧ wr.heap[g]? = some (.cells (R.l.map wv).toArray 68 (0, 0)) ∧ w.heap.size ≤ g ∧ Below w.heap.size w wr)
  case first =>
   go_region_with (go_at_call 37; refine (HB.out _ (by first | exact HW.out | exact HW.out.drew | exact HW.out.below (below_allocC _ _) | exact (HW.out.below (below_allocC _ _)).drew)).mono ?_; rintro e w1 ⟨rfl, hb1⟩; first | (obtain ⟨k0, g0, k1, g1, k2, g2, k3, g3, k4, g4, k5, g5, k6, g6, k7, g7⟩ := zero_cells ((hb1.block w.heap.size (by simp)).trans (heap_alloc_new _ _))) | skip)
   all_goals (try go_wp2)
   all_goals go_meet
   all_goals (case rel =>
     refine ⟨_, rfl, ?_, ?_, ?_⟩
     · first | (with_reducible exact filled R ((hb1.block w.heap.size (by simp; done)).trans (heap_alloc_new _ _))) | exact heap_alloc_new w1 _
     · first | (with_reducible exact Nat.le_refl _) | exact hb1.size
     · first | (with_reducible exact below_filled R (((below_allocC w _).drew).trans (hb1.mono (by simp; done))) (Nat.le_refl _)) | exact (show Below w.heap.size w w1 from (Below.refl _ w).drew.trans hb1).alloc hb1.size _)
  case rest =>
    obtain ⟨g, rfl, hg, hgle, hbc⟩ := hcut
    have d0 : wc.cell? ⟨g, 0, none⟩ = some (wv R.a) := by rw [cellAt hg]; rfl
    have d1 : wc.cell? ⟨g, 1, none⟩ = some (wv R.b) := by rw [cellAt hg]; rfl
    have d2 : wc.cell? ⟨g, 2, none⟩ = some (wv R.c) := by rw [cellAt hg]; rfl
    have d3 : wc.cell? ⟨g, 3, none⟩ = some (wv R.d) := by rw [cellAt hg]; rfl
    have d4 : wc.cell? ⟨g, 4, none⟩ = some (wv R.e) := by rw [cellAt hg]; rfl
    have d5 : wc.cell? ⟨g, 5, none⟩ = some (wv R.f) := by rw [cellAt hg]; rfl
    have d6 : wc.cell? ⟨g, 6, none⟩ = some (wv R.g) := by rw [cellAt hg]; rfl
    have d7 : wc.cell? ⟨g, 7, none⟩ = some (wv R.h) := by rw [cellAt hg]; rfl
    have htn : (64 * (q : Int)).toNat = 64 * q := by omega
    have hq0 : 0 ≤ 64 * (q : Int) := by omega
    have e2 := str_extractC s (64 * q)
    obtain ⟨t, ht⟩ : ∃ t, t = s.drop (64 * q) := ⟨_, rfl⟩
    rw [← ht] at e2
    have htl : t.length ≤ 64 := by rw [ht, List.length_drop]; omega
    have HTD := Lib.hid ht
    have HG := Lib.hid hg
    have HLE := Lib.hid hgle
    have HBC := Lib.hid hbc
    clear c0 c1 c2 c3 c4 c5 c6 c7 hal e1 ht hg hgle hbc
    have HLT := Lib.hid (lt_of_blk HG.out)
    have HEN := Lib.hid (fun W : World => ending_any s.length W (by omega))
    obtain ⟨E, hE⟩ : ∃ E, E = endP s.length := ⟨_, rfl⟩
    have hEl := (endP_length s.length).2
    have hEm := (endP_length s.length).1
    rw [← hE] at hEl hEm HEN
    have hrl : (t ++ E).length = 64 * ((t ++ E).length / 64) := by
      have htl2 : t.length = s.length - 64 * q := by rw [HTD.out, List.length_drop]
      rw [List.length_append]; omega
    have hr4 : (t ++ E).length / 64 ≤ 10000 := by rw [List.length_append]; omega
    have HBK := fun (W : World) (h : LWc W) => blocks_any R (t ++ E) ((t ++ E).length / 64) W hrl hr4 h
    obtain ⟨R2, hR2⟩ : ∃ R2, R2 = blocksN R (t ++ E) ((t ++ E).length / 64) := ⟨_, rfl⟩
    rw [← hR2] at HBK
    have HBK2 := Lib.hid HBK
    have HRR := Lib.hid hR2
    have HEE := Lib.hid hE
    have HLWC := Lib.hid (HW.out.below HBC.out)
    clear HBK hR2 hE hEm hrl hr4
    go_wp2_with fail
    go_cut [] from 19 to 27 (fun wr => wr.heap[g]? = some (.cells (R2.l.map wv).toArray 68 (0, 0)) ∧ Below w.heap.size w wr)
    case first =>
      go_region_with (first
        | (go_at_call 38; refine (HEN.out _).mono ?_; rintro e w1 ⟨rfl, hb1⟩; have k0 := (hb1.cell (p := ⟨g, 0, none⟩) HLT.out).trans d0; have k1 := (hb1.cell (p := ⟨g, 1, none⟩) HLT.out).trans d1; have k2 := (hb1.cell (p := ⟨g, 2, none⟩) HLT.out).trans d2; have k3 := (hb1.cell (p := ⟨g, 3, none⟩) HLT.out).trans d3; have k4 := (hb1.cell (p := ⟨g, 4, none⟩) HLT.out).trans d4; have k5 := (hb1.cell (p := ⟨g, 5, none⟩) HLT.out).trans d5; have k6 := (hb1.cell (p := ⟨g, 6, none⟩) HLT.out).trans d6; have k7 := (hb1.cell (p := ⟨g, 7, none⟩) HLT.out).trans d7; have HL1 := Lib.hid (show LWc w1 from (HLWC.out.drew).below hb1); have HG1 := Lib.hid ((hb1.block g HLT.out).trans HG.out); have HB1 := Lib.hid (show Below w.heap.size w w1 from HBC.out.trans (((Below.refl _ wc).drew.trans hb1).mono HBC.out.size)); clear hb1)
        | (go_at_call 37; rw [str_appendC]; refine (HBK2.out _ (by first | exact HL1.out | exact HL1.out.drew)).mono ?_; rintro e w2 ⟨rfl, hb2⟩; have HG2 := Lib.hid ((hb2.block g (lt_of_blk HG1.out)).trans HG1.out); obtain ⟨m0, f0, m1, f1, m2, f2, m3, f3, m4, f4, m5, f5, m6, f6, m7, f7⟩ := st_cells HG2.out; have HB2 := Lib.hid (show Below w.heap.size w w2 from HB1.out.trans (hb2.mono HB1.out.size)); clear hb2 k0 k1 k2 k3 k4 k5 k6 k7))
      all_goals (try go_wp2)
      all_goals go_meet
      all_goals exact ⟨filled2 R R2 HG2.out, below_filled R2 HB2.out HLE.out⟩
    case rest =>
      obtain ⟨hg2, hb2⟩ := hcut
      obtain ⟨V, hV⟩ : ∃ V, V = (R2.l.map wv).toArray := ⟨_, rfl⟩
      rw [← hV] at hg2
      have hV8 : V.size = 8 := by rw [hV]; rfl
      have HI := Lib.hid (show (Tryd.prog.info? 68).map (·.size) = some V.size by rw [hV8]; kernel_rfl)
      have HV := Lib.hid hV
      obtain ⟨wd, hwd⟩ : ∃ wd, wd = wc := ⟨_, rfl⟩
      rw [← hwd] at hg2 hb2 ⊢
      clear hwd
      obtain ⟨we, hwe⟩ : ∃ we, we = wd.alloc (.cells #[.pointer none, .slice none 0 0] 73) := ⟨_, rfl⟩
      have HWE := Lib.hid hwe
      have HGE := Lib.hid (show we.heap[g]? = some (.cells V 68 (0, 0)) by rw [hwe]; exact (Lib.alloc_old _ _ _ (lt_of_blk hg2)).trans hg2)
      have HBE := Lib.hid (show Below w.heap.size w we by rw [hwe]; exact hb2.alloc hb2.size _)
      have HBU := Lib.hid (show Lib.IsBuilderF 73 5 wd.heap.size wd.heap.size (Lib.byteCells []) we by
        rw [hwe]
        exact Lib.IsBuilderF.of (.inl ⟨Nat.le_refl _, .slice none 0 0, heap_alloc_new wd _, World.ownsRow_nil _ _ _ _, by simp [Value.ownBlock]⟩))
      have HZE := Lib.hid (show wd.heap.size ≤ we.heap.size by rw [hwe]; simp)
      have HGD := Lib.hid (show g < wd.heap.size from lt_of_blk hg2)
      clear hg2 hb2 hV hV8 hwe
      obtain ⟨n, hn⟩ : ∃ n, n = wd.heap.size := ⟨_, rfl⟩
      rw [← hn] at HBU HZE
      have HNN := Lib.hid hn
      have HLN := Lib.hid (show w.heap.size ≤ n by rw [hn]; exact Nat.le_trans HLE.out (Nat.le_of_lt HGD.out))
      clear hn
      go_wp2_with (first | (refine wpList_load_row rfl 68 (.tmp 4) rfl g rfl 68 V (0, 0) _ (by first | exact HGE.out | (rw [← HWE.out]; exact HGE.out)) Tryd.underlying68 rfl HI.out ?_))
      rw [← HWE.out, ← HNN.out]
      go_loopw [29] (fun i wr => ∃ k : Nat, k ≤ 8 ∧ i = .int .i64 k ∧ Lib.IsBuilderF 73 5 n n (Lib.byteCells ((R2.l.take k).flatMap wordB)) wr ∧ Below w.heap.size w wr ∧ n ≤ wr.heap.size) (fun i _ => 8 - (intOf i).toNat)
      case atStart => exact ⟨0, by omega, rfl, HBU.out, HBE.out, HZE.out⟩
      case round =>
        obtain ⟨k, hk, rfl, hb, hl, hz⟩ := hrel
        have HB := Lib.hid hb
        have HL := Lib.hid hl
        have HZ := Lib.hid hz
        clear hb hl hz
        by_cases hlt : k < 8
        · obtain ⟨x, hx⟩ : ∃ x, x = R2.l.getD k 0 := ⟨_, rfl⟩
          have hidx : ∀ W : World, (Instr.index 68 (.agg V) (.int .i64 (k : Int))).run Tryd.prog W = .ok (wv x) W := fun W => by
            rw [HV.out, hx]
            exact run_agg_index Tryd.underlying68 W k hlt rfl
          have hx0 := n32_lo x
          have hx1 := n32_hi x
          have HT := Lib.hid (show (R2.l.take (k + 1)).flatMap wordB = (R2.l.take k).flatMap wordB ++ wordB x by
            rw [List.take_succ_eq_append_getElem (by exact hlt), List.flatMap_append, hx, List.getD_eq_getElem?_getD, List.getElem?_eq_getElem (by exact hlt)]
            simp)
          have hol : ((R2.l.take k).flatMap wordB).length ≤ 100 := words_le R2 k
          clear hx
          go_wp2_with fail
          refine (inbytes_any x.toNat 4 wr (by have := x.isLt; omega) (by decide)).mono ?_
          rintro e w1 ⟨rfl, hb1⟩
          have HB1 := Lib.hid (builder_below HB.out hb1)
          have HL1 := Lib.hid (HL.out.trans (hb1.mono HL.out.size))
          have HZ1 := Lib.hid (Nat.le_trans HZ.out hb1.size)
          clear hb1
          go_wp2_with fail
          refine (write_str n n _ (wordB x) w1 HB1.out (by rw [Lib.byteCells_length, wordB_length]; omega) HZ1.out).mono ?_
          rw [← Lib.byteCells_append, ← HT.out]
          rintro e w2 ⟨rfl, hb2, hl2, hk2⟩
          have HB2 := Lib.hid hb2
          have HL2 := Lib.hid (HL1.out.trans (hl2.mono HLN.out))
          have HZ2 := Lib.hid (Nat.le_trans HZ1.out hl2.size)
          clear hb2 hl2 hk2
          go_wp2
          go_roundw
          case rel => exact ⟨k + 1, by omega, by go_num, HB2.out, HL2.out, HZ2.out⟩
          case measure => simp [intOf]; omega
        · obtain rfl : k = 8 := by omega
          have HS := Lib.hid (show (R2.l.take 8).flatMap wordB = sumP s by
            show _ = (blocksN (blocksN H0 (s.take (64 * (s.length / 64))) (s.length / 64)) (s.drop (64 * (s.length / 64)) ++ endP s.length) ((s.drop (64 * (s.length / 64)) ++ endP s.length).length / 64)).l.flatMap wordB
            rw [← HQQ.out, ← HTD.out, ← HEE.out, ← HR.out, ← HRR.out]
            rfl)
          rw [HS.out] at HB
          go_wp2_with fail
          refine (Tryd.Builder_String_any_k n n _ wr HB.out HZ.out).mono ?_
          rintro e w2 ⟨rfl, hb2, hl2, hk2⟩
          have HL2 := Lib.hid (HL.out.trans (hl2.mono HLN.out))
          clear hb2 hl2 hk2
          go_wp2
          go_ret
          exact ⟨rfl, HL2.out⟩
end Go.Proofs.YtamlblfhjpajhaaDoor
