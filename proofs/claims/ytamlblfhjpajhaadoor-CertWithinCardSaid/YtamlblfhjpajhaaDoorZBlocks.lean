/-
  Contracts of addBlocks, inBytes, ending, Sum.
  Texts of 100000 bytes at most; where the laid words are as their texts lay them.
-/
import Derived.Deep.CutRange
import Derived.Test.YtamlblfhjpajhaaDoorZBlock
namespace Go.Proofs.YtamlblfhjpajhaaDoor
open Go Go.RowKit
set_option maxRecDepth 100000

/-- Block by block. -/
def blocksN (h : St) (s : List UInt8) : Nat → St
  | 0 => h
  | n + 1 => blockP Kw (blocksN h s n) ((s.drop (64 * n)).take 64)

/-- A number's n lowest bytes, the greatest first. -/
def bytesBE (x n : Nat) : List UInt8 := (List.range n).map fun i => UInt8.ofNat (x / 2 ^ (8 * (n - 1 - i)) % 256)
theorem bytesBE_length (x n : Nat) : (bytesBE x n).length = n := by simp [bytesBE]
theorem bytesBE_take {x n i : Nat} (h : i < n) : (bytesBE x n).take (i + 1) = (bytesBE x n).take i ++ [UInt8.ofNat (x / 2 ^ (8 * (n - 1 - i)) % 256)] := by
  rw [List.take_succ_eq_append_getElem (by rw [bytesBE_length]; exact h)]
  simp [bytesBE]

theorem byte_at (x p : Nat) : ((x : Int) / 2 ^ p % 256) = ((UInt8.ofNat (x / 2 ^ p % 256)).toNat : Int) := by
  rw [UInt8.toNat_ofNat_of_lt' (Nat.mod_lt _ (by decide))]
  push_cast; rfl

theorem inbytes_any (x n : Nat) (w : World) (hx : x < 2 ^ 64) (hn : n ≤ 8) :
    Calls Tryd.prog 40 #[.int .u64 x, .int .i64 n] w fun e w' => e = .returned (sv (bytesBE x n)) ∧ Below w.heap.size w w' := by
  have hB0 : Lib.IsBuilderF 73 5 w.heap.size w.heap.size (Lib.byteCells []) (w.alloc (.cells #[.pointer none, .slice none 0 0] 73)) :=
    Lib.IsBuilderF.of (.inl ⟨Nat.le_refl _, .slice none 0 0, heap_alloc_new w _, World.ownsRow_nil _ _ _ _, by simp [Value.ownBlock]⟩)
  have HB0 := Lib.hid hB0
  have HX := Lib.hid hx
  clear hB0 hx
  go_enter Tryd.func40, Tryd.ntmps40
  go_wp2_with fail
  go_loopw [8] (fun i wr => ∃ j : Nat, j ≤ n ∧ i = .int .i64 j ∧ Lib.IsBuilderF 73 5 w.heap.size w.heap.size (Lib.byteCells ((bytesBE x n).take j)) wr ∧ Below w.heap.size w wr ∧ w.heap.size ≤ wr.heap.size) (fun i _ => n - (intOf i).toNat)
  case atStart => exact ⟨0, Nat.zero_le _, rfl, HB0.out, below_allocC _ _, by simp⟩
  case round =>
    obtain ⟨j, hj, rfl, hb, hl, hz⟩ := hrel
    have HB := Lib.hid hb
    have HL := Lib.hid hl
    have HZ := Lib.hid hz
    clear hb hl hz
    by_cases hlt : j < n
    · have e1 : ((n : Int) - 1 - (j : Int)).toNat = n - 1 - j := by omega
      have hv : ((x : Int) / 2 ^ (8 * (n - 1 - j)) % 256) = ((UInt8.ofNat (x / 2 ^ (8 * (n - 1 - j)) % 256)).toNat : Int) := byte_at x _
      have HV := Lib.hid hv
      have HT := Lib.hid (bytesBE_take (x := x) hlt)
      clear hv
      go_wp2_with fail
      rw [HV.out]
      refine (write_byte w.heap.size w.heap.size _ _ wr HB.out (by rw [List.length_take, bytesBE_length]; omega) HZ.out).mono ?_
      rw [← HT.out]
      rintro e w2 ⟨rfl, hb2, hl2, hk2⟩
      have HB2 := Lib.hid hb2
      have HL2 := Lib.hid (HL.out.trans hl2)
      have HZ2 := Lib.hid (Nat.le_trans HZ.out hl2.size)
      clear hb2 hl2 hk2
      go_wp2
      go_roundw
      case rel => exact ⟨j + 1, by omega, by go_num, HB2.out, HL2.out, HZ2.out⟩
      case measure => simp [intOf]; omega
    · obtain rfl : j = n := by omega
      rw [List.take_of_length_le (by rw [bytesBE_length]; exact Nat.le_refl _)] at HB
      go_wp2_with fail
      refine (Tryd.Builder_String_any_k w.heap.size w.heap.size _ wr HB.out HZ.out).mono ?_
      rintro e w2 ⟨rfl, hb2, hl2, hk2⟩
      have HL2 := Lib.hid (HL.out.trans hl2)
      clear hb2 hl2 hk2
      go_wp2
      go_ret
      exact ⟨rfl, HL2.out⟩

theorem LWc.drew {w : World} (h : LWc w) : LWc w.drew := ⟨h.first, h.round⟩

theorem str_take (s : List UInt8) (k : Nat) : (str s).extract 0 k = str (s.take k) := by
  apply ByteArray.ext
  apply Array.ext'
  rw [Lib.extract_data]
  simp

set_option maxHeartbeats 1000000 in
theorem blocks_any (h : St) (s : List UInt8) (m : Nat) (w : World) (hs : s.length = 64 * m) (hm : m ≤ 10000) (hw : LWc w) :
    Calls Tryd.prog 37 #[h.v, .string (str s)] w fun e w' => e = .returned (blocksN h s m).v ∧ Below w.heap.size w w' := by
  have HW := Lib.hid hw
  have HS := Lib.hid hs
  obtain ⟨wa, hwa⟩ : ∃ wa, wa = (w.alloc (.cells #[wv h.a, wv h.b, wv h.c, wv h.d, wv h.e, wv h.f, wv h.g, wv h.h] 68)).alloc (.cells #[.int .u32 0, .int .u32 0, .int .u32 0, .int .u32 0, .int .u32 0, .int .u32 0, .int .u32 0, .int .u32 0] 68) := ⟨_, rfl⟩
  have HBA := Lib.hid (show Below w.heap.size w wa by rw [hwa]; exact (below_allocC _ _).trans ((below_allocC _ _).mono (by simp)))
  have HA0 := Lib.hid (show wa.heap[w.heap.size]? = some (.cells (h.l.map wv).toArray 68 (0, 0)) by rw [hwa]; exact heap_alloc2_old w _ _)
  have HA1 := Lib.hid (show wa.heap[w.heap.size + 1]? = some (.cells #[.int .u32 0, .int .u32 0, .int .u32 0, .int .u32 0, .int .u32 0, .int .u32 0, .int .u32 0, .int .u32 0] 68 (0, 0)) by rw [hwa]; exact heap_alloc2_new w _ _)
  have HWA := Lib.hid hwa
  clear hw hs hwa
  go_enter Tryd.func37, Tryd.ntmps37
  go_wp2_with fail
  rw [← HWA.out]
  go_loopw [1] (fun v wr => ∃ j : Nat, j ≤ m ∧ v = .string (str (s.drop (64 * j))) ∧ wr.heap[w.heap.size]? = some (.cells ((blocksN h s j).l.map wv).toArray 68 (0, 0)) ∧ (∃ cs, wr.heap[w.heap.size + 1]? = some (.cells cs 68 (0, 0)) ∧ cs.size = 8) ∧ Below w.heap.size w wr) (fun v _ => match v with | .string t => t.size | _ => 0)
  case atStart => exact ⟨0, by omega, rfl, HA0.out, ⟨_, HA1.out, rfl⟩, HBA.out⟩
  case round =>
    obtain ⟨j, hj, rfl, hr0, hr1, hb⟩ := hrel
    have HR1 := Lib.hid hr1
    have HB := Lib.hid hb
    by_cases hlt : j < m
    · obtain ⟨u, hu⟩ : ∃ u, u = s.drop (64 * j) := ⟨_, rfl⟩
      have hul : u.length = 64 * (m - j) := by rw [hu, List.length_drop, HS.out]; omega
      have h64 : 64 ≤ u.length := by omega
      have hne : u ≠ [] := by intro e; rw [e] at h64; simp at h64
      have hem : u.isEmpty = false := by simpa using hne
      have e1 := str_take u 64
      have e2 := str_extractC u 64
      have HU := Lib.hid (show s.drop (64 * (j + 1)) = u.drop 64 by rw [hu, List.drop_drop, Nat.mul_succ])
      obtain ⟨t, ht⟩ : ∃ t, t = blocksN h s j := ⟨_, rfl⟩
      have HN := Lib.hid (show blocksN h s (j + 1) = blockP Kw t (u.take 64) by rw [blocksN, ← ht, ← hu])
      rw [← ht] at hr0
      rw [← hu]
      have HTL := Lib.hid (show (u.take 64).length = 64 by rw [List.length_take]; omega)
      obtain ⟨t0, t1, t2, t3, t4, t5, t6, t7⟩ := t
      have c0 : wr.cell? ⟨w.heap.size, 0, none⟩ = some (wv t0) := by rw [cellAt hr0]; rfl
      have c1 : wr.cell? ⟨w.heap.size, 1, none⟩ = some (wv t1) := by rw [cellAt hr0]; rfl
      have c2 : wr.cell? ⟨w.heap.size, 2, none⟩ = some (wv t2) := by rw [cellAt hr0]; rfl
      have c3 : wr.cell? ⟨w.heap.size, 3, none⟩ = some (wv t3) := by rw [cellAt hr0]; rfl
      have c4 : wr.cell? ⟨w.heap.size, 4, none⟩ = some (wv t4) := by rw [cellAt hr0]; rfl
      have c5 : wr.cell? ⟨w.heap.size, 5, none⟩ = some (wv t5) := by rw [cellAt hr0]; rfl
      have c6 : wr.cell? ⟨w.heap.size, 6, none⟩ = some (wv t6) := by rw [cellAt hr0]; rfl
      have c7 : wr.cell? ⟨w.heap.size, 7, none⟩ = some (wv t7) := by rw [cellAt hr0]; rfl
      have HR0 := Lib.hid hr0
      have HLW := Lib.hid (HW.out.below hb)
      clear hr0 hr1 hb hu hul ht
      have h64i : (64 : Int) ≤ (u.length : Int) := by omega
      go_wp2_with fail
      go_still_tail 3, (by kernel_rfl)
      clear c0 c1 c2 c3 c4 c5 c6 c7
      change wpList _ _ _ _ _ wr.drew
      go_wp2_with fail
      refine (block_any ⟨t0, t1, t2, t3, t4, t5, t6, t7⟩ (u.take 64) wr.drew HTL.out HLW.out.drew).mono ?_
      rintro e w3 ⟨rfl, hb3⟩
      have hlt2 : w.heap.size < wr.heap.size := lt_of_blk HR0.out
      have HB3 := Lib.hid (HB.out.trans (show Below w.heap.size wr w3 from ((Below.refl _ wr).drew).trans (hb3.mono (by show w.heap.size ≤ wr.heap.size; omega))))
      have HS0 := Lib.hid (show w3.heap[w.heap.size]? = _ from (hb3.block _ hlt2).trans HR0.out)
      have HS1 := Lib.hid (show ∃ cs, w3.heap[w.heap.size + 1]? = some (.cells cs 68 (0, 0)) ∧ cs.size = 8 from by
        obtain ⟨cs, h1, h2⟩ := HR1.out
        exact ⟨cs, (hb3.block _ (lt_of_blk h1)).trans h1, h2⟩)
      clear hb3 hlt2
      rw [← HN.out]
      obtain ⟨R, hR⟩ : ∃ R, R = ((blocksN h s (j + 1)).l.map wv).toArray := ⟨_, rfl⟩
      rw [St.v_eq, ← hR]
      have hR8 : R.size = 8 := by rw [hR]; rfl
      have HI := Lib.hid (show (Tryd.prog.info? 68).map (·.size) = some R.size by rw [hR8]; kernel_rfl)
      have HR8 := Lib.hid hR8
      have HR1' := Lib.hid (show R.all (·.oneCell') = true by rw [hR]; exact all_one _)
      have HRR := Lib.hid hR
      clear hR hR8
      go_wp2_with (first | (refine wpList_store_row rfl 68 (.tmp 2) (.tmp 12) rfl w.heap.size R rfl rfl 68 _ HS0.out HI.out (by rw [HR8.out]; rfl) HR1'.out ?_))
      have HF := Lib.hid (setRow_heap w3 w.heap.size _ R 68 (0, 0) HS0.out)
      go_roundw
      case rel =>
        obtain ⟨cs, h1, h2⟩ := HS1.out
        refine ⟨j + 1, by omega, by rw [HU.out], ?_, ⟨cs, ?_, h2⟩, below_setRow HB3.out (by omega) R⟩
        · rw [← HRR.out]; exact HF.out
        · exact (heap_setRow_ne (by omega)).trans h1
      case measure =>
        show (str (u.drop 64)).size < (str u).size
        simp [ByteArray.size]
        omega
    · obtain rfl : j = m := by omega
      have hz : s.drop (64 * j) = [] := List.drop_of_length_le (by rw [HS.out]; omega)
      rw [hz]
      obtain ⟨cs, h1, h2⟩ := hr1
      obtain ⟨M, hM⟩ : ∃ M, M = ((blocksN h s j).l.map wv).toArray := ⟨_, rfl⟩
      rw [← hM] at hr0
      have hM8 : M.size = 8 := by rw [hM]; rfl
      have HM1 := Lib.hid (show M.all (·.oneCell') = true by rw [hM]; exact all_one _)
      have HI2 := Lib.hid (show (Tryd.prog.info? 68).map (·.size) = some M.size by rw [hM8]; kernel_rfl)
      have HMM := Lib.hid hM
      have HR0 := Lib.hid hr0
      have HO := Lib.hid h1
      have HO2 := Lib.hid (show cs.size = M.size by rw [h2, hM8])
      clear hr0 h1 h2 hM hM8 hb hz
      go_wp2_with (first | (refine wpList_load_row rfl 68 (.tmp 2) rfl w.heap.size rfl 68 M (0, 0) _ HR0.out Tryd.underlying68 rfl HI2.out ?_; refine wpList_store_row rfl 68 (.tmp 4) (.tmp 13) rfl (w.heap.size + 1) M rfl rfl 68 cs HO.out HI2.out HO2.out HM1.out ?_))
      refine bodyPost_ret (results_cell_row (p := 4) (by kernel_rfl) _ _ (w.heap.size + 1) 68 M (0, 0) _ rfl (setRow_heap wr (w.heap.size + 1) cs M 68 (0, 0) HO.out) Tryd.underlying68 rfl HI2.out) rfl ⟨?_, ?_⟩
      · rw [HMM.out]; rfl
      · exact below_setRow HB.out (by omega) M

/-- The first words. -/
def H0 : St := ⟨0x6a09e667#32, 0xbb67ae85#32, 0x3c6ef372#32, 0xa54ff53a#32, 0x510e527f#32, 0x9b05688c#32, 0x1f83d9ab#32, 0x5be0cd19#32⟩
/-- What stands behind the bytes. -/
def endP (n : Nat) : List UInt8 := 128 :: List.replicate ((64 - (n + 9) % 64) % 64) 0 ++ bytesBE (8 * n) 8

theorem ending_any (n : Nat) (w : World) (hn : n ≤ 100000) :
    Calls Tryd.prog 38 #[.int .i64 n] w fun e w' => e = .returned (sv (endP n)) ∧ Below w.heap.size w w' := by
  have HF := Lib.hid (show (-(((n : Int) + 1 + 8) % 64) % 64) = (((64 - (n + 9) % 64) % 64 : Nat) : Int) by omega)
  have HE := Lib.hid (show endP n = 128 :: List.replicate ((64 - (n + 9) % 64) % 64) 0 ++ bytesBE (8 * n) 8 from rfl)
  obtain ⟨z, hz⟩ : ∃ z, z = (64 - (n + 9) % 64) % 64 := ⟨_, rfl⟩
  have hz64 : z < 64 := by rw [hz]; exact Nat.mod_lt _ (by decide)
  rw [← hz] at HF HE
  clear hz
  go_enter Tryd.func38, Tryd.ntmps38
  go_wp2_with fail
  rw [HF.out]
  refine (repeat_any 0 z w (by omega)).mono ?_
  rintro e w1 ⟨rfl, hb1⟩
  have HB1 := Lib.hid hb1
  clear hb1
  go_wp2_with fail
  rw [show (8 * (n : Int)) = ((8 * n : Nat) : Int) by push_cast; rfl]
  refine (inbytes_any (8 * n) 8 w1 (by omega) (by decide)).mono ?_
  rintro e w2 ⟨rfl, hb2⟩
  have HB2 := Lib.hid (HB1.out.trans (hb2.mono HB1.out.size))
  have hl8 := bytesBE_length (8 * n) 8
  obtain ⟨t, ht⟩ : ∃ t, t = bytesBE (8 * n) 8 := ⟨_, rfl⟩
  rw [← ht] at hl8 HE ⊢
  clear hb2 ht
  go_wp2
  go_ret
  rw [HE.out]
  refine ⟨?_, HB2.out⟩
  congr 2

theorem endP_length (n : Nat) : (n + (endP n).length) % 64 = 0 ∧ (endP n).length ≤ 200 := by
  unfold endP
  rw [List.length_append, List.length_cons, List.length_replicate, bytesBE_length]
  omega

/-- A row of the first words. -/
theorem LWc.h0 {w : World} (h : LWc w) : ∀ i : Fin 8, w.cell? ⟨1, i.val, none⟩ = some (wv (H0.l.getD i.val 0)) := fun i => by
  rw [h.first.cell gFirst i.val i.isLt]
  congr 2
  revert i
  decide +kernel

theorem zero_cells {w : World} {n : Nat} (h : w.heap[n]? = some (.cells #[.int .u32 0, .int .u32 0, .int .u32 0, .int .u32 0, .int .u32 0, .int .u32 0, .int .u32 0, .int .u32 0] 68 (0, 0))) : w.cell? ⟨n, 0, none⟩ = some (.int .u32 0) ∧ w.frozen? ⟨n, 0, none⟩ = false ∧ w.cell? ⟨n, 1, none⟩ = some (.int .u32 0) ∧ w.frozen? ⟨n, 1, none⟩ = false ∧ w.cell? ⟨n, 2, none⟩ = some (.int .u32 0) ∧ w.frozen? ⟨n, 2, none⟩ = false ∧ w.cell? ⟨n, 3, none⟩ = some (.int .u32 0) ∧ w.frozen? ⟨n, 3, none⟩ = false ∧ w.cell? ⟨n, 4, none⟩ = some (.int .u32 0) ∧ w.frozen? ⟨n, 4, none⟩ = false ∧ w.cell? ⟨n, 5, none⟩ = some (.int .u32 0) ∧ w.frozen? ⟨n, 5, none⟩ = false ∧ w.cell? ⟨n, 6, none⟩ = some (.int .u32 0) ∧ w.frozen? ⟨n, 6, none⟩ = false ∧ w.cell? ⟨n, 7, none⟩ = some (.int .u32 0) ∧ w.frozen? ⟨n, 7, none⟩ = false := by
  refine ⟨?_, freeAt h 0, ?_, freeAt h 1, ?_, freeAt h 2, ?_, freeAt h 3, ?_, freeAt h 4, ?_, freeAt h 5, ?_, freeAt h 6, ?_, freeAt h 7⟩ <;> (rw [cellAt h]; rfl)

/-- Eight stores. -/
theorem filled {w : World} {n : Nat} (R : St) (h : w.heap[n]? = some (.cells #[.int .u32 0, .int .u32 0, .int .u32 0, .int .u32 0, .int .u32 0, .int .u32 0, .int .u32 0, .int .u32 0] 68 (0, 0))) :
    ((((((((w.setCell ⟨n, 0, none⟩ (wv R.a)).setCell ⟨n, 1, none⟩ (wv R.b)).setCell ⟨n, 2, none⟩ (wv R.c)).setCell ⟨n, 3, none⟩ (wv R.d)).setCell ⟨n, 4, none⟩ (wv R.e)).setCell ⟨n, 5, none⟩ (wv R.f)).setCell ⟨n, 6, none⟩ (wv R.g)).setCell ⟨n, 7, none⟩ (wv R.h)).heap[n]? = some (.cells (R.l.map wv).toArray 68 (0, 0)) := by
  have h0 := heap_setCell_same w n 0 _ 68 (wv R.a) h
  have h1 := heap_setCell_same _ n 1 _ 68 (wv R.b) h0
  have h2 := heap_setCell_same _ n 2 _ 68 (wv R.c) h1
  have h3 := heap_setCell_same _ n 3 _ 68 (wv R.d) h2
  have h4 := heap_setCell_same _ n 4 _ 68 (wv R.e) h3
  have h5 := heap_setCell_same _ n 5 _ 68 (wv R.f) h4
  have h6 := heap_setCell_same _ n 6 _ 68 (wv R.g) h5
  have h7 := heap_setCell_same _ n 7 _ 68 (wv R.h) h6
  rw [h7]
  simp [St.l]

theorem below_filled {w w1 : World} {n g : Nat} (R : St) (h : Below n w w1) (hg : n ≤ g) :
    Below n w ((((((((w1.setCell ⟨g, 0, none⟩ (wv R.a)).setCell ⟨g, 1, none⟩ (wv R.b)).setCell ⟨g, 2, none⟩ (wv R.c)).setCell ⟨g, 3, none⟩ (wv R.d)).setCell ⟨g, 4, none⟩ (wv R.e)).setCell ⟨g, 5, none⟩ (wv R.f)).setCell ⟨g, 6, none⟩ (wv R.g)).setCell ⟨g, 7, none⟩ (wv R.h)) :=
  ((((((((h.setCell (p := ⟨g, 0, none⟩) hg _)).setCell (p := ⟨g, 1, none⟩) hg _).setCell (p := ⟨g, 2, none⟩) hg _).setCell (p := ⟨g, 3, none⟩) hg _).setCell (p := ⟨g, 4, none⟩) hg _).setCell (p := ⟨g, 5, none⟩) hg _).setCell (p := ⟨g, 6, none⟩) hg _).setCell (p := ⟨g, 7, none⟩) hg _

end Go.Proofs.YtamlblfhjpajhaaDoor
