/-
  Contracts of addBlock, addBlocks.
  Contracts of addBlocks, inBytes, ending, Sum.
  Texts of 100000 bytes at most; where the laid words are as their texts lay them.
  Contract of Sum: the digest.
  Texts of 100000 bytes at most; where the laid words are as their texts lay them.
-/
import Derived.Deep.RegionWith
import Derived.Deep.RegionHeld3
import Derived.Test.YtnaoandleelbkaaGreatDoorZTm
import Derived.Deep.CutRange
namespace Go.Proofs.YtnaoandleelbkaaGreatDoor
open Go Go.RowKit
set_option maxRecDepth 100000

def Kw : List W32 := roundZ.map (fun z => BitVec.ofNat 32 z.toNat)

theorem Kw_get : ∀ k : Fin 64, roundZ.getD k.val 0 = n32 (Kw.getD k.val 0) := by decide +kernel
theorem Kw_length : Kw.length = 64 := by decide +kernel

def St.l (s : St) : List W32 := [s.a, s.b, s.c, s.d, s.e, s.f, s.g, s.h]
theorem St.v_eq (s : St) : s.v = .agg (s.l.map wv).toArray := rfl
def St.of (l : List W32) : St := ⟨l.getD 0 0, l.getD 1 0, l.getD 2 0, l.getD 3 0, l.getD 4 0, l.getD 5 0, l.getD 6 0, l.getD 7 0⟩

/-- The turns of the first n words. -/
def turnsN (s : St) (l : List W32) : Nat → St
  | 0 => s
  | n + 1 => turnP (turnsN s l n) (Kw.getD n 0 + l.getD n 0)

theorem zip_getD {a b : List W32} {n : Nat} (ha : n < a.length) (hb : n < b.length) : (List.zipWith (· + ·) a b).take (n + 1) = (List.zipWith (· + ·) a b).take n ++ [a.getD n 0 + b.getD n 0] := by
  have h : n < (List.zipWith (· + ·) a b).length := by simp; omega
  rw [List.take_succ_eq_append_getElem h]
  simp [List.getD_eq_getElem?_getD, ha, hb]

theorem turnsN_eq (s : St) (l : List W32) (hl : l.length = 64) (n : Nat) (hn : n ≤ 64) : turnsN s l n = ((List.zipWith (· + ·) Kw l).take n).foldl turnP s := by
  induction n with
  | zero => rfl
  | succ n ih =>
    rw [turnsN, ih (by omega), zip_getD (by rw [Kw_length]; omega) (by omega), List.foldl_append]; rfl

theorem turnsN_all (s : St) (l : List W32) (hl : l.length = 64) : turnsN s l 64 = turnsP Kw s l := by
  rw [turnsN_eq s l hl 64 (Nat.le_refl _), turnsP, List.take_of_length_le]
  simp [Kw_length, hl]

/-- The first k are added. -/
def mixL (a b : List W32) (k : Nat) : List W32 := (List.zipWith (· + ·) a b).take k ++ a.drop k
theorem mix_length {a b : List W32} (h : a.length = b.length) {k : Nat} (hk : k ≤ a.length) : (mixL a b k).length = a.length := by
  simp [mixL]; omega
theorem mix_get {a b : List W32} (h : a.length = b.length) {k : Nat} (hk : k < a.length) : (mixL a b k)[k]? = some (a.getD k 0) := by
  have hl : ((List.zipWith (· + ·) a b).take k).length = k := by simp; omega
  rw [mixL, List.getElem?_append_right (by omega), hl, Nat.sub_self, List.getElem?_drop, Nat.add_zero, List.getElem?_eq_getElem hk, List.getD_eq_getElem?_getD, List.getElem?_eq_getElem hk]; rfl
theorem mix_set {a b : List W32} (h : a.length = b.length) {k : Nat} (hk : k < a.length) : (mixL a b k).set k (a.getD k 0 + b.getD k 0) = mixL a b (k + 1) := by
  have hl : ((List.zipWith (· + ·) a b).take k).length = k := by simp; omega
  rw [mixL, List.set_append_right _ _ (by omega), hl, Nat.sub_self, List.drop_eq_getElem_cons hk, List.set_cons_zero, mixL, zip_getD hk (by omega), List.append_assoc]; rfl

theorem run_agg_index {T : TypeId} {n : Nat} {l : List W32} (hT : Tryz.prog.underlying T = some (.array n 116)) (W : World) (k : Nat) (hk : k < n) (hl : l.length = n) :
    (Instr.index T (.agg (l.map wv).toArray) (.int .i64 (k : Int))).run Tryz.prog W = .ok (wv (l.getD k 0)) W := by
  have h1 : k < l.length := by omega
  have hs : (sizeOf 116).run Tryz.prog W = .ok 1 W := by kernel_rfl
  have hp : (part 116 (l.map wv).toArray k).run Tryz.prog W = .ok (wv (l.getD k 0)) W := by
    have ha : (isAgg 116).run Tryz.prog W = .ok false W := by kernel_rfl
    have hg : (l.map wv).toArray[k]? = some (wv (l.getD k 0)) := by
      simp [List.getD_eq_getElem?_getD, h1]
    simp [part, Sem.run_bind, ha, hg]
  simp [Instr.index, run_underlying hT, asIntOf, Sem.run_bind, hk, hs, hp]

theorem getD_of_lt {l : List W32} {k : Nat} (h : k < l.length) : l[k]? = some (l.getD k 0) := by
  rw [List.getD_eq_getElem?_getD, List.getElem?_eq_getElem h]; rfl

theorem block_eq {hl T l : List W32} {t : St} {b : List UInt8} {h0 h1 h2 h3 h4 h5 h6 h7 : W32} (hh : hl = [h0, h1, h2, h3, h4, h5, h6, h7]) (hT : T = t.l) (ht : t = turnsN ⟨h0, h1, h2, h3, h4, h5, h6, h7⟩ l 64) (hll : l.length = 64) (hl' : l = schedP (wordsP b) 48) :
    Ending.returned (.agg ((mixL hl T 8).map wv).toArray) = .returned (blockP Kw ⟨h0, h1, h2, h3, h4, h5, h6, h7⟩ b).v := by
  rw [turnsN_all _ _ hll] at ht
  unfold blockP
  rw [← hl', ← ht, hT, hh]
  rfl

theorem heap_setRow_ne {w : World} {g k : Nat} {A : Array Value} (h : k ≠ g) : (w.setRow g A).heap[k]? = w.heap[k]? := by
  simp only [World.setRow, Array.getElem?_modify]
  rw [if_neg (fun e => h e.symm)]

set_option maxHeartbeats 2000000 in
theorem block_any (h : St) (b : List UInt8) (w : World) (hb : b.length = 64) (hw : LWc w) :
    Calls Tryz.prog 153 #[h.v, .string (str b)] w fun e w' => e = .returned (blockP Kw h b).v ∧ Below w.heap.size w w' := by
  have HW := Lib.hid hw
  have HBL := Lib.hid hb
  clear hw
  obtain ⟨h0, h1, h2, h3, h4, h5, h6, h7⟩ := h
  obtain ⟨wa, hwa⟩ : ∃ wa, wa = ((w.alloc (.cells #[wv h0, wv h1, wv h2, wv h3, wv h4, wv h5, wv h6, wv h7] 117)).alloc (.cells #[.int .u32 0, .int .u32 0, .int .u32 0, .int .u32 0, .int .u32 0, .int .u32 0, .int .u32 0, .int .u32 0] 117)).alloc (.cells #[wv h0, wv h1, wv h2, wv h3, wv h4, wv h5, wv h6, wv h7] 117) := ⟨_, rfl⟩
  have hba : Below w.heap.size w wa := by rw [hwa]; exact ((below_allocC _ _).trans ((below_allocC _ _).mono (by simp))).trans ((below_allocC _ _).mono (by simp; omega))
  have hza : wa.heap.size = w.heap.size + 3 := by rw [hwa]; simp
  have ha0 : wa.heap[w.heap.size]? = some (.cells #[wv h0, wv h1, wv h2, wv h3, wv h4, wv h5, wv h6, wv h7] 117 (0, 0)) := by
    rw [hwa]; exact (Lib.alloc_old _ _ _ (by simp; omega)).trans (heap_alloc2_old w _ _)
  have ha1 : wa.heap[w.heap.size + 1]? = some (.cells #[.int .u32 0, .int .u32 0, .int .u32 0, .int .u32 0, .int .u32 0, .int .u32 0, .int .u32 0, .int .u32 0] 117 (0, 0)) := by
    rw [hwa]; exact (Lib.alloc_old _ _ _ (by simp)).trans (heap_alloc2_new w _ _)
  have ha2 : wa.heap[w.heap.size + 2]? = some (.cells #[wv h0, wv h1, wv h2, wv h3, wv h4, wv h5, wv h6, wv h7] 117 (0, 0)) := by
    rw [hwa]
    have := heap_alloc_new ((w.alloc (.cells #[wv h0, wv h1, wv h2, wv h3, wv h4, wv h5, wv h6, wv h7] 117)).alloc (.cells #[.int .u32 0, .int .u32 0, .int .u32 0, .int .u32 0, .int .u32 0, .int .u32 0, .int .u32 0, .int .u32 0] 117)) (.cells #[wv h0, wv h1, wv h2, wv h3, wv h4, wv h5, wv h6, wv h7] 117)
    simpa using this
  have HWA := Lib.hid hwa
  have HBA := Lib.hid hba
  have HZA := Lib.hid hza
  have HA0 := Lib.hid ha0
  have HA1 := Lib.hid ha1
  have HA2 := Lib.hid ha2
  have HSC := Lib.hid (sched_any b wa hb)
  obtain ⟨l, hl⟩ : ∃ l, l = schedP (wordsP b) 48 := ⟨_, rfl⟩
  have hll : l.length = 64 := by rw [hl, schedP_length, wordsP_length, hb]
  rw [← hl] at HSC
  have HL := Lib.hid hl
  have HLL := Lib.hid hll
  clear hwa hba hza ha0 ha1 ha2 hl hll hb
  go_enter Tryz.func153, Tryz.ntmps153
  go_wp2_with fail
  change Calls _ _ _ (((w.alloc (.cells #[wv h0, wv h1, wv h2, wv h3, wv h4, wv h5, wv h6, wv h7] 117)).alloc (.cells #[.int .u32 0, .int .u32 0, .int .u32 0, .int .u32 0, .int .u32 0, .int .u32 0, .int .u32 0, .int .u32 0] 117)).alloc (.cells #[wv h0, wv h1, wv h2, wv h3, wv h4, wv h5, wv h6, wv h7] 117)) _
  rw [← HWA.out]
  refine HSC.out.mono ?_
  rintro e w1 ⟨rfl, hb1⟩
  have HB1 := Lib.hid (HBA.out.trans (hb1.mono (by rw [HZA.out]; omega)))
  have HR0 := Lib.hid (show w1.heap[w.heap.size]? = _ from (hb1.block _ (by rw [HZA.out]; omega)).trans HA0.out)
  have HR1 := Lib.hid (show w1.heap[w.heap.size + 1]? = _ from (hb1.block _ (by rw [HZA.out]; omega)).trans HA1.out)
  have HR2 := Lib.hid (show w1.heap[w.heap.size + 2]? = _ from (hb1.block _ (by rw [HZA.out]; omega)).trans HA2.out)
  clear hb1
  obtain ⟨A, hA⟩ : ∃ A, A = (l.map wv).toArray := ⟨_, rfl⟩
  rw [← hA]
  have HA := Lib.hid hA
  clear hA
  go_wp2_with fail
  go_loopw [13] (fun i wr => ∃ k : Nat, k ≤ 64 ∧ i = .int .i64 k ∧ wr.heap[w.heap.size]? = some (.cells #[wv h0, wv h1, wv h2, wv h3, wv h4, wv h5, wv h6, wv h7] 117 (0, 0)) ∧ (∃ cs, wr.heap[w.heap.size + 1]? = some (.cells cs 117 (0, 0)) ∧ cs.size = 8) ∧ wr.heap[w.heap.size + 2]? = some (.cells ((turnsN ⟨h0, h1, h2, h3, h4, h5, h6, h7⟩ l k).l.map wv).toArray 117 (0, 0)) ∧ Below w.heap.size w wr) (fun i _ => 64 - (intOf i).toNat)
  case atStart => exact ⟨0, by omega, rfl, HR0.out, ⟨_, HR1.out, rfl⟩, HR2.out, HB1.out⟩
  case round =>
    obtain ⟨k, hk, rfl, hr0, hr1, hr2, hb⟩ := hrel
    have HR0 := Lib.hid hr0
    have HR1 := Lib.hid hr1
    have HB := Lib.hid hb
    by_cases hlt : k < 64
    · obtain ⟨t, ht⟩ : ∃ t, t = turnsN ⟨h0, h1, h2, h3, h4, h5, h6, h7⟩ l k := ⟨_, rfl⟩
      rw [← ht] at hr2
      have HT := Lib.hid ht
      obtain ⟨x, hx⟩ : ∃ x, x = l.getD k 0 := ⟨_, rfl⟩
      have hidx : ∀ W : World, (Instr.index 192 (.agg A) (.int .i64 (k : Int))).run Tryz.prog W = .ok (wv x) W := fun W => by
        rw [HA.out, hx]
        exact run_agg_index Tryz.underlying192 W k hlt HLL.out
      obtain ⟨kw, hkw⟩ : ∃ x, x = Kw.getD k 0 := ⟨_, rfl⟩
      have hck : wr.cell? ⟨2, k, none⟩ = some (wv kw) := by
        have := (HW.out.below hb).round.cell gRound k (by exact hlt)
        rw [this, Kw_get ⟨k, hlt⟩, hkw]
      have HX := Lib.hid hx
      have HK := Lib.hid hkw
      obtain ⟨t0, t1, t2, t3, t4, t5, t6, t7⟩ := t
      have HR2 := Lib.hid hr2
      have c0 : wr.cell? ⟨w.heap.size + 2, 0, none⟩ = some (wv t0) := by rw [cellAt hr2]; rfl
      have c1 : wr.cell? ⟨w.heap.size + 2, 1, none⟩ = some (wv t1) := by rw [cellAt hr2]; rfl
      have c2 : wr.cell? ⟨w.heap.size + 2, 2, none⟩ = some (wv t2) := by rw [cellAt hr2]; rfl
      have c3 : wr.cell? ⟨w.heap.size + 2, 3, none⟩ = some (wv t3) := by rw [cellAt hr2]; rfl
      have c4 : wr.cell? ⟨w.heap.size + 2, 4, none⟩ = some (wv t4) := by rw [cellAt hr2]; rfl
      have c5 : wr.cell? ⟨w.heap.size + 2, 5, none⟩ = some (wv t5) := by rw [cellAt hr2]; rfl
      have c6 : wr.cell? ⟨w.heap.size + 2, 6, none⟩ = some (wv t6) := by rw [cellAt hr2]; rfl
      have c7 : wr.cell? ⟨w.heap.size + 2, 7, none⟩ = some (wv t7) := by rw [cellAt hr2]; rfl
      clear hr0 hr1 hr2 hb ht hx hkw
      go_wp2_with fail
      have rp := wrap_add
      go_still_tail 6, (by kernel_rfl)
      clear rp c0 c1 c2 c3 c4 c5 c6 c7 hck hidx
      change wpList _ _ _ _ _ wr.drew
      go_wp2_with fail
      refine (turn_any ⟨t0, t1, t2, t3, t4, t5, t6, t7⟩ (kw + x) wr.drew).mono ?_
      rintro e w3 ⟨rfl, hb3⟩
      have hlt2 : w.heap.size + 2 < wr.heap.size := lt_of_blk HR2.out
      have HB3 := Lib.hid (HB.out.trans (show Below w.heap.size wr w3 from ((Below.refl _ wr).drew).trans (hb3.mono (by show w.heap.size ≤ wr.heap.size; omega))))
      have HS0 := Lib.hid (show w3.heap[w.heap.size]? = _ from (hb3.block _ (by show _ < wr.heap.size; omega)).trans HR0.out)
      have HS1 := Lib.hid (show ∃ cs, w3.heap[w.heap.size + 1]? = some (.cells cs 117 (0, 0)) ∧ cs.size = 8 from by
        obtain ⟨cs, h1, h2⟩ := HR1.out
        exact ⟨cs, (hb3.block _ (by show _ < wr.heap.size; omega)).trans h1, h2⟩)
      have HS2 := Lib.hid (show w3.heap[w.heap.size + 2]? = _ from (hb3.block _ (by show _ < wr.heap.size; omega)).trans HR2.out)
      clear hb3 hlt2
      obtain ⟨r, hr⟩ : ∃ r, r = turnP ⟨t0, t1, t2, t3, t4, t5, t6, t7⟩ (kw + x) := ⟨_, rfl⟩
      rw [← hr]
      have HRR := Lib.hid (show r = turnsN ⟨h0, h1, h2, h3, h4, h5, h6, h7⟩ l (k + 1) by rw [turnsN, ← HT.out, ← HK.out, ← HX.out, hr])
      clear hr
      obtain ⟨R, hR⟩ : ∃ R, R = (r.l.map wv).toArray := ⟨_, rfl⟩
      rw [St.v_eq, ← hR]
      have hR8 : R.size = 8 := by rw [hR]; rfl
      have hR1 : R.all (·.oneCell') = true := by rw [hR]; exact all_one _
      have HR := Lib.hid hR
      have HI := Lib.hid (show (Tryz.prog.info? 117).map (·.size) = some R.size by rw [hR8]; kernel_rfl)
      have HR8 := Lib.hid hR8
      have HR1' := Lib.hid hR1
      clear hR hR8 hR1
      go_wp2_with (first | (refine wpList_store_row rfl 117 (.tmp 5) (.tmp 23) rfl (w.heap.size + 2) R rfl rfl 117 _ HS2.out HI.out (by rw [HR8.out]; rfl) HR1'.out ?_))
      have HF := Lib.hid (setRow_heap w3 (w.heap.size + 2) _ R 117 (0, 0) HS2.out)
      go_roundw
      case rel =>
        obtain ⟨cs, h1, h2⟩ := HS1.out
        refine ⟨k + 1, by omega, by go_num, ?_, ⟨cs, ?_, h2⟩, ?_, below_setRow HB3.out (by omega) R⟩
        · exact (heap_setRow_ne (by omega)).trans HS0.out
        · exact (heap_setRow_ne (by omega)).trans h1
        · rw [← HRR.out, ← HR.out]; exact HF.out
      case measure => simp [intOf]; omega
    · obtain rfl : k = 64 := by omega
      obtain ⟨t, ht⟩ : ∃ t, t = turnsN ⟨h0, h1, h2, h3, h4, h5, h6, h7⟩ l 64 := ⟨_, rfl⟩
      rw [← ht] at hr2
      have HT := Lib.hid ht
      obtain ⟨T, hT⟩ : ∃ T, T = t.l := ⟨_, rfl⟩
      rw [← hT] at hr2
      obtain ⟨V, hV⟩ : ∃ V, V = (T.map wv).toArray := ⟨_, rfl⟩
      rw [← hV] at hr2
      have hT8 : T.length = 8 := by rw [hT]; rfl
      have hV8 : V.size = 8 := by rw [hV]; simp [hT8]
      have HI := Lib.hid (show (Tryz.prog.info? 117).map (·.size) = some V.size by rw [hV8]; kernel_rfl)
      have HR2 := Lib.hid hr2
      have HV := Lib.hid hV
      have HTT := Lib.hid hT
      have HT8 := Lib.hid hT8
      clear hr0 hr1 hr2 hb ht hT hV hT8 hV8
      go_wp2_with (first | (refine wpList_load_row rfl 117 (.tmp 5) rfl (w.heap.size + 2) rfl 117 V (0, 0) _ HR2.out Tryz.underlying117 rfl HI.out ?_))
      obtain ⟨hl, hhl⟩ : ∃ hl : List W32, hl = [h0, h1, h2, h3, h4, h5, h6, h7] := ⟨_, rfl⟩
      have hh8 : hl.length = 8 := by rw [hhl]; rfl
      have HH8 := Lib.hid hh8
      have HHL := Lib.hid hhl
      have HM0 := Lib.hid (show wr.heap[w.heap.size]? = some (.cells ((mixL hl T 0).map wv).toArray 117 (0, 0)) by rw [HR0.out, hhl]; rfl)
      have HX := Lib.hid (show hl.length = T.length by rw [hh8, HT8.out])
      clear hhl hh8
      go_loopw [26] (fun i wr => ∃ k : Nat, k ≤ 8 ∧ i = .int .i64 k ∧ wr.heap[w.heap.size]? = some (.cells ((mixL hl T k).map wv).toArray 117 (0, 0)) ∧ (∃ cs, wr.heap[w.heap.size + 1]? = some (.cells cs 117 (0, 0)) ∧ cs.size = 8) ∧ Below w.heap.size w wr) (fun i _ => 8 - (intOf i).toNat)
      case atStart => exact ⟨0, by omega, rfl, HM0.out, HR1.out, HB.out⟩
      case round =>
        obtain ⟨k, hk, rfl, hr0, hr1, hb⟩ := hrel
        by_cases hlt : k < 8
        · obtain ⟨x, hx⟩ : ∃ x, x = hl.getD k 0 := ⟨_, rfl⟩
          obtain ⟨y, hy⟩ : ∃ y, y = T.getD k 0 := ⟨_, rfl⟩
          have hidx : ∀ W : World, (Instr.index 117 (.agg V) (.int .i64 (k : Int))).run Tryz.prog W = .ok (wv y) W := fun W => by
            rw [HV.out, hy]
            exact run_agg_index Tryz.underlying117 W k hlt HT8.out
          have hc : wr.cell? ⟨w.heap.size, k, none⟩ = some (wv x) := by
            rw [cellAt hr0, hx]
            have := mix_get HX.out (k := k) (by rw [HH8.out]; exact hlt)
            simp [this]
          have hf := freeAt hr0 k
          have HS := Lib.hid (show (wr.setCell ⟨w.heap.size, k, none⟩ (wv (x + y))).heap[w.heap.size]? = some (.cells ((mixL hl T (k + 1)).map wv).toArray 117 (0, 0)) by
            rw [heap_setCell_same _ _ _ _ _ _ hr0, ← mix_set HX.out (by rw [HH8.out]; exact hlt), hx, hy]
            simp [List.map_set])
          have HR1 := Lib.hid hr1
          have HB := Lib.hid hb
          clear hr0 hr1 hb hx hy
          go_wp2
          rw [add32]
          go_roundw
          case rel =>
            obtain ⟨cs, h1, h2⟩ := HR1.out
            refine ⟨k + 1, by omega, by go_num, HS.out, ⟨cs, ?_, h2⟩, ?_⟩
            · exact (heap_setCell_other wr ⟨w.heap.size, k, none⟩ _ _ (by simp)).trans h1
            · exact HB.out.setCell (p := ⟨w.heap.size, k, none⟩) (by simp) _
          case measure => simp [intOf]; omega
        · obtain rfl : k = 8 := by omega
          obtain ⟨cs, h1, h2⟩ := hr1
          obtain ⟨M, hM⟩ : ∃ M, M = ((mixL hl T 8).map wv).toArray := ⟨_, rfl⟩
          rw [← hM] at hr0
          have hM8 : M.size = 8 := by rw [hM]; simp [mix_length HX.out (k := 8) (by rw [HH8.out]; omega), HH8.out]
          have HM1 := Lib.hid (show M.all (·.oneCell') = true by rw [hM]; exact all_one _)
          have HI2 := Lib.hid (show (Tryz.prog.info? 117).map (·.size) = some M.size by rw [hM8]; kernel_rfl)
          have HMM := Lib.hid hM
          have HR0 := Lib.hid hr0
          have HO := Lib.hid h1
          have HO2 := Lib.hid (show cs.size = M.size by rw [h2, hM8])
          have HB := Lib.hid hb
          clear hr0 h1 h2 hM hM8 hb
          go_wp2_with (first | (refine wpList_load_row rfl 117 (.tmp 2) rfl w.heap.size rfl 117 M (0, 0) _ HR0.out Tryz.underlying117 rfl HI2.out ?_; refine wpList_store_row rfl 117 (.tmp 4) (.tmp 37) rfl (w.heap.size + 1) M rfl rfl 117 cs HO.out HI2.out HO2.out HM1.out ?_))
          refine bodyPost_ret (results_cell_row (p := 4) (by kernel_rfl) _ _ (w.heap.size + 1) 117 M (0, 0) _ rfl (setRow_heap wr (w.heap.size + 1) cs M 117 (0, 0) HO.out) Tryz.underlying117 rfl HI2.out) rfl ⟨?_, ?_⟩
          · rw [HMM.out, block_eq HHL.out HTT.out HT.out HLL.out HL.out]
          · exact below_setRow HB.out (by omega) M
end Go.Proofs.YtnaoandleelbkaaGreatDoor

namespace Go.Proofs.YtnaoandleelbkaaGreatDoor
open Go Go.RowKit
set_option maxRecDepth 100000

/-- Block by block. -/
def blocksN (h : St) (s : List UInt8) : Nat → St
  | 0 => h
  | n + 1 => blockP Kw (blocksN h s n) ((s.drop (64 * n)).take 64)

/-- A number's n lowest bytes, the greatest first. -/
def bytesBE (x n : Nat) : List UInt8 := (List.range n).map fun i => UInt8.ofNat (x / 2 ^ (8 * (n - 1 - i)) % 256)
theorem bytesBE_length (x n : Nat) : (bytesBE x n).length = n := by simp [bytesBE]
theorem bytesBE_take {x n i : Nat} (h : i < n) : (bytesBE x n).take (i + 1) = (bytesBE x n).take i ++ [UInt8.ofNat (x / 2 ^ (8 * (n - 1 - i)) % 256)] := by
  rw [List.take_succ_eq_append_getElem (by rw [bytesBE_length]; exact h)]
  simp [bytesBE]

theorem byte_at (x p : Nat) : ((x : Int) / 2 ^ p % 256) = ((UInt8.ofNat (x / 2 ^ p % 256)).toNat : Int) := by
  rw [UInt8.toNat_ofNat_of_lt' (Nat.mod_lt _ (by decide))]
  push_cast; rfl

theorem inbytes_any (x n : Nat) (w : World) (hx : x < 2 ^ 64) (hn : n ≤ 8) :
    Calls Tryz.prog 101 #[.int .u64 x, .int .i64 n] w fun e w' => e = .returned (sv (bytesBE x n)) ∧ Below w.heap.size w w' := by
  have hB0 : Lib.IsBuilderF 121 5 w.heap.size w.heap.size (Lib.byteCells []) (w.alloc (.cells #[.pointer none, .slice none 0 0] 121)) :=
    Lib.IsBuilderF.of (.inl ⟨Nat.le_refl _, .slice none 0 0, heap_alloc_new w _, World.ownsRow_nil _ _ _ _, by simp [Value.ownBlock]⟩)
  have HB0 := Lib.hid hB0
  have HX := Lib.hid hx
  clear hB0 hx
  go_enter Tryz.func101, Tryz.ntmps101
  go_wp2_with fail
  go_loopw [8] (fun i wr => ∃ j : Nat, j ≤ n ∧ i = .int .i64 j ∧ Lib.IsBuilderF 121 5 w.heap.size w.heap.size (Lib.byteCells ((bytesBE x n).take j)) wr ∧ Below w.heap.size w wr ∧ w.heap.size ≤ wr.heap.size) (fun i _ => n - (intOf i).toNat)
  case atStart => exact ⟨0, Nat.zero_le _, rfl, HB0.out, below_allocC _ _, by simp⟩
  case round =>
    obtain ⟨j, hj, rfl, hb, hl, hz⟩ := hrel
    have HB := Lib.hid hb
    have HL := Lib.hid hl
    have HZ := Lib.hid hz
    clear hb hl hz
    by_cases hlt : j < n
    · have e1 : ((n : Int) - 1 - (j : Int)).toNat = n - 1 - j := by omega
      have hv : ((x : Int) / 2 ^ (8 * (n - 1 - j)) % 256) = ((UInt8.ofNat (x / 2 ^ (8 * (n - 1 - j)) % 256)).toNat : Int) := byte_at x _
      have HV := Lib.hid hv
      have HT := Lib.hid (bytesBE_take (x := x) hlt)
      clear hv
      go_wp2_with fail
      rw [HV.out]
      refine (write_byte w.heap.size w.heap.size _ _ wr HB.out (by rw [List.length_take, bytesBE_length]; omega) HZ.out).mono ?_
      rw [← HT.out]
      rintro e w2 ⟨rfl, hb2, hl2, hk2⟩
      have HB2 := Lib.hid hb2
      have HL2 := Lib.hid (HL.out.trans hl2)
      have HZ2 := Lib.hid (Nat.le_trans HZ.out hl2.size)
      clear hb2 hl2 hk2
      go_wp2
      go_roundw
      case rel => exact ⟨j + 1, by omega, by go_num, HB2.out, HL2.out, HZ2.out⟩
      case measure => simp [intOf]; omega
    · obtain rfl : j = n := by omega
      rw [List.take_of_length_le (by rw [bytesBE_length]; exact Nat.le_refl _)] at HB
      go_wp2_with fail
      refine (Tryz.Builder_String_any_k w.heap.size w.heap.size _ wr HB.out HZ.out).mono ?_
      rintro e w2 ⟨rfl, hb2, hl2, hk2⟩
      have HL2 := Lib.hid (HL.out.trans hl2)
      clear hb2 hl2 hk2
      go_wp2
      go_ret
      exact ⟨rfl, HL2.out⟩

theorem LWc.drew {w : World} (h : LWc w) : LWc w.drew := ⟨h.first, h.round⟩

theorem str_take (s : List UInt8) (k : Nat) : (str s).extract 0 k = str (s.take k) := by
  apply ByteArray.ext
  apply Array.ext'
  rw [Lib.extract_data]
  simp

set_option maxHeartbeats 1000000 in
theorem blocks_any (h : St) (s : List UInt8) (m : Nat) (w : World) (hs : s.length = 64 * m) (hm : m ≤ 10000) (hw : LWc w) :
    Calls Tryz.prog 98 #[h.v, .string (str s)] w fun e w' => e = .returned (blocksN h s m).v ∧ Below w.heap.size w w' := by
  have HW := Lib.hid hw
  have HS := Lib.hid hs
  obtain ⟨wa, hwa⟩ : ∃ wa, wa = (w.alloc (.cells #[wv h.a, wv h.b, wv h.c, wv h.d, wv h.e, wv h.f, wv h.g, wv h.h] 117)).alloc (.cells #[.int .u32 0, .int .u32 0, .int .u32 0, .int .u32 0, .int .u32 0, .int .u32 0, .int .u32 0, .int .u32 0] 117) := ⟨_, rfl⟩
  have HBA := Lib.hid (show Below w.heap.size w wa by rw [hwa]; exact (below_allocC _ _).trans ((below_allocC _ _).mono (by simp)))
  have HA0 := Lib.hid (show wa.heap[w.heap.size]? = some (.cells (h.l.map wv).toArray 117 (0, 0)) by rw [hwa]; exact heap_alloc2_old w _ _)
  have HA1 := Lib.hid (show wa.heap[w.heap.size + 1]? = some (.cells #[.int .u32 0, .int .u32 0, .int .u32 0, .int .u32 0, .int .u32 0, .int .u32 0, .int .u32 0, .int .u32 0] 117 (0, 0)) by rw [hwa]; exact heap_alloc2_new w _ _)
  have HWA := Lib.hid hwa
  clear hw hs hwa
  go_enter Tryz.func98, Tryz.ntmps98
  go_wp2_with fail
  rw [← HWA.out]
  go_loopw [1] (fun v wr => ∃ j : Nat, j ≤ m ∧ v = .string (str (s.drop (64 * j))) ∧ wr.heap[w.heap.size]? = some (.cells ((blocksN h s j).l.map wv).toArray 117 (0, 0)) ∧ (∃ cs, wr.heap[w.heap.size + 1]? = some (.cells cs 117 (0, 0)) ∧ cs.size = 8) ∧ Below w.heap.size w wr) (fun v _ => match v with | .string t => t.size | _ => 0)
  case atStart => exact ⟨0, by omega, rfl, HA0.out, ⟨_, HA1.out, rfl⟩, HBA.out⟩
  case round =>
    obtain ⟨j, hj, rfl, hr0, hr1, hb⟩ := hrel
    have HR1 := Lib.hid hr1
    have HB := Lib.hid hb
    by_cases hlt : j < m
    · obtain ⟨u, hu⟩ : ∃ u, u = s.drop (64 * j) := ⟨_, rfl⟩
      have hul : u.length = 64 * (m - j) := by rw [hu, List.length_drop, HS.out]; omega
      have h64 : 64 ≤ u.length := by omega
      have hne : u ≠ [] := by intro e; rw [e] at h64; simp at h64
      have hem : u.isEmpty = false := by simpa using hne
      have e1 := str_take u 64
      have e2 := str_extractC u 64
      have HU := Lib.hid (show s.drop (64 * (j + 1)) = u.drop 64 by rw [hu, List.drop_drop, Nat.mul_succ])
      obtain ⟨t, ht⟩ : ∃ t, t = blocksN h s j := ⟨_, rfl⟩
      have HN := Lib.hid (show blocksN h s (j + 1) = blockP Kw t (u.take 64) by rw [blocksN, ← ht, ← hu])
      rw [← ht] at hr0
      rw [← hu]
      have HTL := Lib.hid (show (u.take 64).length = 64 by rw [List.length_take]; omega)
      obtain ⟨t0, t1, t2, t3, t4, t5, t6, t7⟩ := t
      have c0 : wr.cell? ⟨w.heap.size, 0, none⟩ = some (wv t0) := by rw [cellAt hr0]; rfl
      have c1 : wr.cell? ⟨w.heap.size, 1, none⟩ = some (wv t1) := by rw [cellAt hr0]; rfl
      have c2 : wr.cell? ⟨w.heap.size, 2, none⟩ = some (wv t2) := by rw [cellAt hr0]; rfl
      have c3 : wr.cell? ⟨w.heap.size, 3, none⟩ = some (wv t3) := by rw [cellAt hr0]; rfl
      have c4 : wr.cell? ⟨w.heap.size, 4, none⟩ = some (wv t4) := by rw [cellAt hr0]; rfl
      have c5 : wr.cell? ⟨w.heap.size, 5, none⟩ = some (wv t5) := by rw [cellAt hr0]; rfl
      have c6 : wr.cell? ⟨w.heap.size, 6, none⟩ = some (wv t6) := by rw [cellAt hr0]; rfl
      have c7 : wr.cell? ⟨w.heap.size, 7, none⟩ = some (wv t7) := by rw [cellAt hr0]; rfl
      have HR0 := Lib.hid hr0
      have HLW := Lib.hid (HW.out.below hb)
      clear hr0 hr1 hb hu hul ht
      have h64i : (64 : Int) ≤ (u.length : Int) := by omega
      go_wp2_with fail
      go_still_tail 3, (by kernel_rfl)
      clear c0 c1 c2 c3 c4 c5 c6 c7
      change wpList _ _ _ _ _ wr.drew
      go_wp2_with fail
      refine (block_any ⟨t0, t1, t2, t3, t4, t5, t6, t7⟩ (u.take 64) wr.drew HTL.out HLW.out.drew).mono ?_
      rintro e w3 ⟨rfl, hb3⟩
      have hlt2 : w.heap.size < wr.heap.size := lt_of_blk HR0.out
      have HB3 := Lib.hid (HB.out.trans (show Below w.heap.size wr w3 from ((Below.refl _ wr).drew).trans (hb3.mono (by show w.heap.size ≤ wr.heap.size; omega))))
      have HS0 := Lib.hid (show w3.heap[w.heap.size]? = _ from (hb3.block _ hlt2).trans HR0.out)
      have HS1 := Lib.hid (show ∃ cs, w3.heap[w.heap.size + 1]? = some (.cells cs 117 (0, 0)) ∧ cs.size = 8 from by
        obtain ⟨cs, h1, h2⟩ := HR1.out
        exact ⟨cs, (hb3.block _ (lt_of_blk h1)).trans h1, h2⟩)
      clear hb3 hlt2
      rw [← HN.out]
      obtain ⟨R, hR⟩ : ∃ R, R = ((blocksN h s (j + 1)).l.map wv).toArray := ⟨_, rfl⟩
      rw [St.v_eq, ← hR]
      have hR8 : R.size = 8 := by rw [hR]; rfl
      have HI := Lib.hid (show (Tryz.prog.info? 117).map (·.size) = some R.size by rw [hR8]; kernel_rfl)
      have HR8 := Lib.hid hR8
      have HR1' := Lib.hid (show R.all (·.oneCell') = true by rw [hR]; exact all_one _)
      have HRR := Lib.hid hR
      clear hR hR8
      go_wp2_with (first | (refine wpList_store_row rfl 117 (.tmp 2) (.tmp 12) rfl w.heap.size R rfl rfl 117 _ HS0.out HI.out (by rw [HR8.out]; rfl) HR1'.out ?_))
      have HF := Lib.hid (setRow_heap w3 w.heap.size _ R 117 (0, 0) HS0.out)
      go_roundw
      case rel =>
        obtain ⟨cs, h1, h2⟩ := HS1.out
        refine ⟨j + 1, by omega, by rw [HU.out], ?_, ⟨cs, ?_, h2⟩, below_setRow HB3.out (by omega) R⟩
        · rw [← HRR.out]; exact HF.out
        · exact (heap_setRow_ne (by omega)).trans h1
      case measure =>
        show (str (u.drop 64)).size < (str u).size
        simp [ByteArray.size]
        omega
    · obtain rfl : j = m := by omega
      have hz : s.drop (64 * j) = [] := List.drop_of_length_le (by rw [HS.out]; omega)
      rw [hz]
      obtain ⟨cs, h1, h2⟩ := hr1
      obtain ⟨M, hM⟩ : ∃ M, M = ((blocksN h s j).l.map wv).toArray := ⟨_, rfl⟩
      rw [← hM] at hr0
      have hM8 : M.size = 8 := by rw [hM]; rfl
      have HM1 := Lib.hid (show M.all (·.oneCell') = true by rw [hM]; exact all_one _)
      have HI2 := Lib.hid (show (Tryz.prog.info? 117).map (·.size) = some M.size by rw [hM8]; kernel_rfl)
      have HMM := Lib.hid hM
      have HR0 := Lib.hid hr0
      have HO := Lib.hid h1
      have HO2 := Lib.hid (show cs.size = M.size by rw [h2, hM8])
      clear hr0 h1 h2 hM hM8 hb hz
      go_wp2_with (first | (refine wpList_load_row rfl 117 (.tmp 2) rfl w.heap.size rfl 117 M (0, 0) _ HR0.out Tryz.underlying117 rfl HI2.out ?_; refine wpList_store_row rfl 117 (.tmp 4) (.tmp 13) rfl (w.heap.size + 1) M rfl rfl 117 cs HO.out HI2.out HO2.out HM1.out ?_))
      refine bodyPost_ret (results_cell_row (p := 4) (by kernel_rfl) _ _ (w.heap.size + 1) 117 M (0, 0) _ rfl (setRow_heap wr (w.heap.size + 1) cs M 117 (0, 0) HO.out) Tryz.underlying117 rfl HI2.out) rfl ⟨?_, ?_⟩
      · rw [HMM.out]; rfl
      · exact below_setRow HB.out (by omega) M

/-- The first words. -/
def H0 : St := ⟨0x6a09e667#32, 0xbb67ae85#32, 0x3c6ef372#32, 0xa54ff53a#32, 0x510e527f#32, 0x9b05688c#32, 0x1f83d9ab#32, 0x5be0cd19#32⟩
/-- What stands behind the bytes. -/
def endP (n : Nat) : List UInt8 := 128 :: List.replicate ((64 - (n + 9) % 64) % 64) 0 ++ bytesBE (8 * n) 8

theorem ending_any (n : Nat) (w : World) (hn : n ≤ 100000) :
    Calls Tryz.prog 99 #[.int .i64 n] w fun e w' => e = .returned (sv (endP n)) ∧ Below w.heap.size w w' := by
  have HF := Lib.hid (show (-(((n : Int) + 1 + 8) % 64) % 64) = (((64 - (n + 9) % 64) % 64 : Nat) : Int) by omega)
  have HE := Lib.hid (show endP n = 128 :: List.replicate ((64 - (n + 9) % 64) % 64) 0 ++ bytesBE (8 * n) 8 from rfl)
  obtain ⟨z, hz⟩ : ∃ z, z = (64 - (n + 9) % 64) % 64 := ⟨_, rfl⟩
  have hz64 : z < 64 := by rw [hz]; exact Nat.mod_lt _ (by decide)
  rw [← hz] at HF HE
  clear hz
  go_enter Tryz.func99, Tryz.ntmps99
  go_wp2_with fail
  rw [HF.out]
  refine (repeat_any 0 z w (by omega)).mono ?_
  rintro e w1 ⟨rfl, hb1⟩
  have HB1 := Lib.hid hb1
  clear hb1
  go_wp2_with fail
  rw [show (8 * (n : Int)) = ((8 * n : Nat) : Int) by push_cast; rfl]
  refine (inbytes_any (8 * n) 8 w1 (by omega) (by decide)).mono ?_
  rintro e w2 ⟨rfl, hb2⟩
  have HB2 := Lib.hid (HB1.out.trans (hb2.mono HB1.out.size))
  have hl8 := bytesBE_length (8 * n) 8
  obtain ⟨t, ht⟩ : ∃ t, t = bytesBE (8 * n) 8 := ⟨_, rfl⟩
  rw [← ht] at hl8 HE ⊢
  clear hb2 ht
  go_wp2
  go_ret
  rw [HE.out]
  refine ⟨?_, HB2.out⟩
  congr 2

theorem endP_length (n : Nat) : (n + (endP n).length) % 64 = 0 ∧ (endP n).length ≤ 200 := by
  unfold endP
  rw [List.length_append, List.length_cons, List.length_replicate, bytesBE_length]
  omega

/-- A row of the first words. -/
theorem LWc.h0 {w : World} (h : LWc w) : ∀ i : Fin 8, w.cell? ⟨0, i.val, none⟩ = some (wv (H0.l.getD i.val 0)) := fun i => by
  rw [h.first.cell gFirst i.val i.isLt]
  congr 2
  revert i
  decide +kernel

theorem zero_cells {w : World} {n : Nat} (h : w.heap[n]? = some (.cells #[.int .u32 0, .int .u32 0, .int .u32 0, .int .u32 0, .int .u32 0, .int .u32 0, .int .u32 0, .int .u32 0] 117 (0, 0))) : w.cell? ⟨n, 0, none⟩ = some (.int .u32 0) ∧ w.frozen? ⟨n, 0, none⟩ = false ∧ w.cell? ⟨n, 1, none⟩ = some (.int .u32 0) ∧ w.frozen? ⟨n, 1, none⟩ = false ∧ w.cell? ⟨n, 2, none⟩ = some (.int .u32 0) ∧ w.frozen? ⟨n, 2, none⟩ = false ∧ w.cell? ⟨n, 3, none⟩ = some (.int .u32 0) ∧ w.frozen? ⟨n, 3, none⟩ = false ∧ w.cell? ⟨n, 4, none⟩ = some (.int .u32 0) ∧ w.frozen? ⟨n, 4, none⟩ = false ∧ w.cell? ⟨n, 5, none⟩ = some (.int .u32 0) ∧ w.frozen? ⟨n, 5, none⟩ = false ∧ w.cell? ⟨n, 6, none⟩ = some (.int .u32 0) ∧ w.frozen? ⟨n, 6, none⟩ = false ∧ w.cell? ⟨n, 7, none⟩ = some (.int .u32 0) ∧ w.frozen? ⟨n, 7, none⟩ = false := by
  refine ⟨?_, freeAt h 0, ?_, freeAt h 1, ?_, freeAt h 2, ?_, freeAt h 3, ?_, freeAt h 4, ?_, freeAt h 5, ?_, freeAt h 6, ?_, freeAt h 7⟩ <;> (rw [cellAt h]; rfl)

/-- Eight stores. -/
theorem filled {w : World} {n : Nat} (R : St) (h : w.heap[n]? = some (.cells #[.int .u32 0, .int .u32 0, .int .u32 0, .int .u32 0, .int .u32 0, .int .u32 0, .int .u32 0, .int .u32 0] 117 (0, 0))) :
    ((((((((w.setCell ⟨n, 0, none⟩ (wv R.a)).setCell ⟨n, 1, none⟩ (wv R.b)).setCell ⟨n, 2, none⟩ (wv R.c)).setCell ⟨n, 3, none⟩ (wv R.d)).setCell ⟨n, 4, none⟩ (wv R.e)).setCell ⟨n, 5, none⟩ (wv R.f)).setCell ⟨n, 6, none⟩ (wv R.g)).setCell ⟨n, 7, none⟩ (wv R.h)).heap[n]? = some (.cells (R.l.map wv).toArray 117 (0, 0)) := by
  have h0 := heap_setCell_same w n 0 _ 117 (wv R.a) h
  have h1 := heap_setCell_same _ n 1 _ 117 (wv R.b) h0
  have h2 := heap_setCell_same _ n 2 _ 117 (wv R.c) h1
  have h3 := heap_setCell_same _ n 3 _ 117 (wv R.d) h2
  have h4 := heap_setCell_same _ n 4 _ 117 (wv R.e) h3
  have h5 := heap_setCell_same _ n 5 _ 117 (wv R.f) h4
  have h6 := heap_setCell_same _ n 6 _ 117 (wv R.g) h5
  have h7 := heap_setCell_same _ n 7 _ 117 (wv R.h) h6
  rw [h7]
  simp [St.l]

theorem below_filled {w w1 : World} {n g : Nat} (R : St) (h : Below n w w1) (hg : n ≤ g) :
    Below n w ((((((((w1.setCell ⟨g, 0, none⟩ (wv R.a)).setCell ⟨g, 1, none⟩ (wv R.b)).setCell ⟨g, 2, none⟩ (wv R.c)).setCell ⟨g, 3, none⟩ (wv R.d)).setCell ⟨g, 4, none⟩ (wv R.e)).setCell ⟨g, 5, none⟩ (wv R.f)).setCell ⟨g, 6, none⟩ (wv R.g)).setCell ⟨g, 7, none⟩ (wv R.h)) :=
  ((((((((h.setCell (p := ⟨g, 0, none⟩) hg _)).setCell (p := ⟨g, 1, none⟩) hg _).setCell (p := ⟨g, 2, none⟩) hg _).setCell (p := ⟨g, 3, none⟩) hg _).setCell (p := ⟨g, 4, none⟩) hg _).setCell (p := ⟨g, 5, none⟩) hg _).setCell (p := ⟨g, 6, none⟩) hg _).setCell (p := ⟨g, 7, none⟩) hg _

end Go.Proofs.YtnaoandleelbkaaGreatDoor

namespace Go.Proofs.YtnaoandleelbkaaGreatDoor
open Go Go.RowKit
set_option maxRecDepth 100000

/-- A word's four bytes, the greatest first; the digest. -/
def wordB (x : W32) : List UInt8 := bytesBE x.toNat 4
def sumP (s : List UInt8) : List UInt8 :=
  let q := s.length / 64
  let r := s.drop (64 * q) ++ endP s.length
  (blocksN (blocksN H0 (s.take (64 * q)) q) r (r.length / 64)).l.flatMap wordB

theorem wordB_length (x : W32) : (wordB x).length = 4 := bytesBE_length _ _

theorem grownBy_of_below {W W' : World} (h : Below W.heap.size W W') (row : Option Nat) : W.grownBy W' row := ⟨h.os, h.tape, h.output, h.size, fun k hk _ => h.block k hk⟩

theorem builder_below {w w' : World} {B b : Nat} {T : TypeId} {bs : List Value} (h : Lib.IsBuilderF T 5 B b bs w) (hb : Below w.heap.size w w') : Lib.IsBuilderF T 5 B b bs w' := by
  have one : ∀ p, Lib.BuilderAtF T 5 B b p bs w → Lib.BuilderAtF T 5 B b p bs w' := by
    rintro p ⟨hB, v', hbk, hown, hnb⟩
    refine ⟨hB, v', (hb.block b (lt_of_blk hbk)).trans hbk, hown.kept (grownBy_of_below hb none) ?_, hnb⟩
    cases h : v'.ownBlock with
    | none => exact .inl rfl
    | some k => exact .inr (by simp)
  exact h.elim (fun h => .inl (one _ h)) (fun h => .inr (one _ h))

theorem words_le (r : St) (k : Nat) : ((r.l.take k).flatMap wordB).length ≤ 100 := by
  have h : ∀ l : List W32, (l.flatMap wordB).length = 4 * l.length := by
    intro l
    induction l with
    | nil => rfl
    | cons x l ih => rw [List.flatMap_cons, List.length_append, ih]; unfold wordB; rw [bytesBE_length, List.length_cons]; omega
  rw [h, List.length_take]
  have : r.l.length = 8 := rfl
  omega

theorem st_cells {w : World} {n : Nat} {Q : St} (h : w.heap[n]? = some (.cells (Q.l.map wv).toArray 117 (0, 0))) : w.cell? ⟨n, 0, none⟩ = some (wv Q.a) ∧ w.frozen? ⟨n, 0, none⟩ = false ∧ w.cell? ⟨n, 1, none⟩ = some (wv Q.b) ∧ w.frozen? ⟨n, 1, none⟩ = false ∧ w.cell? ⟨n, 2, none⟩ = some (wv Q.c) ∧ w.frozen? ⟨n, 2, none⟩ = false ∧ w.cell? ⟨n, 3, none⟩ = some (wv Q.d) ∧ w.frozen? ⟨n, 3, none⟩ = false ∧ w.cell? ⟨n, 4, none⟩ = some (wv Q.e) ∧ w.frozen? ⟨n, 4, none⟩ = false ∧ w.cell? ⟨n, 5, none⟩ = some (wv Q.f) ∧ w.frozen? ⟨n, 5, none⟩ = false ∧ w.cell? ⟨n, 6, none⟩ = some (wv Q.g) ∧ w.frozen? ⟨n, 6, none⟩ = false ∧ w.cell? ⟨n, 7, none⟩ = some (wv Q.h) ∧ w.frozen? ⟨n, 7, none⟩ = false := by
  refine ⟨?_, freeAt h 0, ?_, freeAt h 1, ?_, freeAt h 2, ?_, freeAt h 3, ?_, freeAt h 4, ?_, freeAt h 5, ?_, freeAt h 6, ?_, freeAt h 7⟩ <;> (rw [cellAt h]; rfl)

theorem filled2 {w : World} {n : Nat} (Q R : St) (h : w.heap[n]? = some (.cells (Q.l.map wv).toArray 117 (0, 0))) :
    ((((((((w.setCell ⟨n, 0, none⟩ (wv R.a)).setCell ⟨n, 1, none⟩ (wv R.b)).setCell ⟨n, 2, none⟩ (wv R.c)).setCell ⟨n, 3, none⟩ (wv R.d)).setCell ⟨n, 4, none⟩ (wv R.e)).setCell ⟨n, 5, none⟩ (wv R.f)).setCell ⟨n, 6, none⟩ (wv R.g)).setCell ⟨n, 7, none⟩ (wv R.h)).heap[n]? = some (.cells (R.l.map wv).toArray 117 (0, 0)) := by
  have h0 := heap_setCell_same w n 0 _ 117 (wv R.a) h
  have h1 := heap_setCell_same _ n 1 _ 117 (wv R.b) h0
  have h2 := heap_setCell_same _ n 2 _ 117 (wv R.c) h1
  have h3 := heap_setCell_same _ n 3 _ 117 (wv R.d) h2
  have h4 := heap_setCell_same _ n 4 _ 117 (wv R.e) h3
  have h5 := heap_setCell_same _ n 5 _ 117 (wv R.f) h4
  have h6 := heap_setCell_same _ n 6 _ 117 (wv R.g) h5
  have h7 := heap_setCell_same _ n 7 _ 117 (wv R.h) h6
  rw [h7]
  simp [St.l]

set_option maxHeartbeats 2000000 in
theorem sum_any (s : List UInt8) (w : World) (hs : s.length ≤ 100000) (hw : LWc w) :
    Calls Tryz.prog 48 #[.string (str s)] w fun e w' => e = .returned (sv (sumP s)) ∧ Below w.heap.size w w' := by
  have HW := Lib.hid hw
  have c0 : w.cell? ⟨0, 0, none⟩ = some (wv H0.a) := hw.h0 0
  have c1 : w.cell? ⟨0, 1, none⟩ = some (wv H0.b) := hw.h0 1
  have c2 : w.cell? ⟨0, 2, none⟩ = some (wv H0.c) := hw.h0 2
  have c3 : w.cell? ⟨0, 3, none⟩ = some (wv H0.d) := hw.h0 3
  have c4 : w.cell? ⟨0, 4, none⟩ = some (wv H0.e) := hw.h0 4
  have c5 : w.cell? ⟨0, 5, none⟩ = some (wv H0.f) := hw.h0 5
  have c6 : w.cell? ⟨0, 6, none⟩ = some (wv H0.g) := hw.h0 6
  have c7 : w.cell? ⟨0, 7, none⟩ = some (wv H0.h) := hw.h0 7
  have hpos := hw.pos0
  have hal : ∀ (o : Obj) (i : Nat), (w.alloc o).cell? ⟨0, i, none⟩ = w.cell? ⟨0, i, none⟩ := fun o i => (below_allocC w o).cell (p := ⟨0, i, none⟩) (by show 0 < w.heap.size; omega)
  obtain ⟨q, hq⟩ : ∃ q, q = s.length / 64 := ⟨_, rfl⟩
  have hq2 : (s.length : Int) - (s.length : Int) % 64 = 64 * (q : Int) := by omega
  have hq3 : 64 * q ≤ s.length := by omega
  have hqi : 64 * (q : Int) ≤ (s.length : Int) := by omega
  have e1 := str_take s (64 * q)
  have HT := Lib.hid (show (s.take (64 * q)).length = 64 * q by rw [List.length_take]; omega)
  have HQ := Lib.hid hq2
  have hq1000 : q ≤ 10000 := by omega
  have hq64 : s.length ≤ 64 * q + 64 := by omega
  have HQQ := Lib.hid hq
  clear hw hq hq2
  go_enter Tryz.func48, Tryz.ntmps48
  go_wp2_with fail
  rw [HQ.out]
  obtain ⟨R, hR⟩ : ∃ R, R = blocksN H0 (s.take (64 * q)) q := ⟨_, rfl⟩
  have HBL := fun (W : World) (h : LWc W) => blocks_any H0 (s.take (64 * q)) q W HT.out hq1000 h
  rw [← hR] at HBL
  have HB := Lib.hid HBL
  have HR := Lib.hid hR
  clear HBL hR
  go_cut [4] from 14 to 18 (fun v wr => ∃ g, v = .pointer (some ⟨g, 0, none⟩) ∧ wr.heap[g]? = some (.cells (R.l.map wv).toArray 117 (0, 0)) ∧ w.heap.size ≤ g ∧ Below w.heap.size w wr)
  case first =>
   go_region_with (go_at_call 98; refine (HB.out _ (by first | exact HW.out | exact HW.out.drew | exact HW.out.below (below_allocC _ _) | exact (HW.out.below (below_allocC _ _)).drew)).mono ?_; rintro e w1 ⟨rfl, hb1⟩; first | (obtain ⟨k0, g0, k1, g1, k2, g2, k3, g3, k4, g4, k5, g5, k6, g6, k7, g7⟩ := zero_cells ((hb1.block w.heap.size (by simp)).trans (heap_alloc_new _ _))) | skip)
   all_goals (try go_wp2)
   all_goals go_meet
   all_goals (case rel =>
     refine ⟨_, rfl, ?_, ?_, ?_⟩
     · first | (with_reducible exact filled R ((hb1.block w.heap.size (by simp; done)).trans (heap_alloc_new _ _))) | exact heap_alloc_new w1 _
     · first | (with_reducible exact Nat.le_refl _) | exact hb1.size
     · first | (with_reducible exact below_filled R (((below_allocC w _).drew).trans (hb1.mono (by simp; done))) (Nat.le_refl _)) | exact (show Below w.heap.size w w1 from (Below.refl _ w).drew.trans hb1).alloc hb1.size _)
  case rest =>
    obtain ⟨g, rfl, hg, hgle, hbc⟩ := hcut
    have d0 : wc.cell? ⟨g, 0, none⟩ = some (wv R.a) := by rw [cellAt hg]; rfl
    have d1 : wc.cell? ⟨g, 1, none⟩ = some (wv R.b) := by rw [cellAt hg]; rfl
    have d2 : wc.cell? ⟨g, 2, none⟩ = some (wv R.c) := by rw [cellAt hg]; rfl
    have d3 : wc.cell? ⟨g, 3, none⟩ = some (wv R.d) := by rw [cellAt hg]; rfl
    have d4 : wc.cell? ⟨g, 4, none⟩ = some (wv R.e) := by rw [cellAt hg]; rfl
    have d5 : wc.cell? ⟨g, 5, none⟩ = some (wv R.f) := by rw [cellAt hg]; rfl
    have d6 : wc.cell? ⟨g, 6, none⟩ = some (wv R.g) := by rw [cellAt hg]; rfl
    have d7 : wc.cell? ⟨g, 7, none⟩ = some (wv R.h) := by rw [cellAt hg]; rfl
    have htn : (64 * (q : Int)).toNat = 64 * q := by omega
    have hq0 : 0 ≤ 64 * (q : Int) := by omega
    have e2 := str_extractC s (64 * q)
    obtain ⟨t, ht⟩ : ∃ t, t = s.drop (64 * q) := ⟨_, rfl⟩
    rw [← ht] at e2
    have htl : t.length ≤ 64 := by rw [ht, List.length_drop]; omega
    have HTD := Lib.hid ht
    have HG := Lib.hid hg
    have HLE := Lib.hid hgle
    have HBC := Lib.hid hbc
    clear c0 c1 c2 c3 c4 c5 c6 c7 hal e1 ht hg hgle hbc
    have HLT := Lib.hid (lt_of_blk HG.out)
    have HEN := Lib.hid (fun W : World => ending_any s.length W (by omega))
    obtain ⟨E, hE⟩ : ∃ E, E = endP s.length := ⟨_, rfl⟩
    have hEl := (endP_length s.length).2
    have hEm := (endP_length s.length).1
    rw [← hE] at hEl hEm HEN
    have hrl : (t ++ E).length = 64 * ((t ++ E).length / 64) := by
      have htl2 : t.length = s.length - 64 * q := by rw [HTD.out, List.length_drop]
      rw [List.length_append]; omega
    have hr4 : (t ++ E).length / 64 ≤ 10000 := by rw [List.length_append]; omega
    have HBK := fun (W : World) (h : LWc W) => blocks_any R (t ++ E) ((t ++ E).length / 64) W hrl hr4 h
    obtain ⟨R2, hR2⟩ : ∃ R2, R2 = blocksN R (t ++ E) ((t ++ E).length / 64) := ⟨_, rfl⟩
    rw [← hR2] at HBK
    have HBK2 := Lib.hid HBK
    have HRR := Lib.hid hR2
    have HEE := Lib.hid hE
    have HLWC := Lib.hid (HW.out.below HBC.out)
    clear HBK hR2 hE hEm hrl hr4
    go_wp2_with fail
    go_cut [] from 19 to 27 (fun wr => wr.heap[g]? = some (.cells (R2.l.map wv).toArray 117 (0, 0)) ∧ Below w.heap.size w wr)
    case first =>
      go_region_with (first
        | (go_at_call 99; refine (HEN.out _).mono ?_; rintro e w1 ⟨rfl, hb1⟩; have k0 := (hb1.cell (p := ⟨g, 0, none⟩) HLT.out).trans d0; have k1 := (hb1.cell (p := ⟨g, 1, none⟩) HLT.out).trans d1; have k2 := (hb1.cell (p := ⟨g, 2, none⟩) HLT.out).trans d2; have k3 := (hb1.cell (p := ⟨g, 3, none⟩) HLT.out).trans d3; have k4 := (hb1.cell (p := ⟨g, 4, none⟩) HLT.out).trans d4; have k5 := (hb1.cell (p := ⟨g, 5, none⟩) HLT.out).trans d5; have k6 := (hb1.cell (p := ⟨g, 6, none⟩) HLT.out).trans d6; have k7 := (hb1.cell (p := ⟨g, 7, none⟩) HLT.out).trans d7; have HL1 := Lib.hid (show LWc w1 from (HLWC.out.drew).below hb1); have HG1 := Lib.hid ((hb1.block g HLT.out).trans HG.out); have HB1 := Lib.hid (show Below w.heap.size w w1 from HBC.out.trans (((Below.refl _ wc).drew.trans hb1).mono HBC.out.size)); clear hb1)
        | (go_at_call 98; rw [str_appendC]; refine (HBK2.out _ (by first | exact HL1.out | exact HL1.out.drew)).mono ?_; rintro e w2 ⟨rfl, hb2⟩; have HG2 := Lib.hid ((hb2.block g (lt_of_blk HG1.out)).trans HG1.out); obtain ⟨m0, f0, m1, f1, m2, f2, m3, f3, m4, f4, m5, f5, m6, f6, m7, f7⟩ := st_cells HG2.out; have HB2 := Lib.hid (show Below w.heap.size w w2 from HB1.out.trans (hb2.mono HB1.out.size)); clear hb2 k0 k1 k2 k3 k4 k5 k6 k7))
      all_goals (try go_wp2)
      all_goals go_meet
      all_goals exact ⟨filled2 R R2 HG2.out, below_filled R2 HB2.out HLE.out⟩
    case rest =>
      obtain ⟨hg2, hb2⟩ := hcut
      obtain ⟨V, hV⟩ : ∃ V, V = (R2.l.map wv).toArray := ⟨_, rfl⟩
      rw [← hV] at hg2
      have hV8 : V.size = 8 := by rw [hV]; rfl
      have HI := Lib.hid (show (Tryz.prog.info? 117).map (·.size) = some V.size by rw [hV8]; kernel_rfl)
      have HV := Lib.hid hV
      obtain ⟨wd, hwd⟩ : ∃ wd, wd = wc := ⟨_, rfl⟩
      rw [← hwd] at hg2 hb2 ⊢
      clear hwd
      obtain ⟨we, hwe⟩ : ∃ we, we = wd.alloc (.cells #[.pointer none, .slice none 0 0] 121) := ⟨_, rfl⟩
      have HWE := Lib.hid hwe
      have HGE := Lib.hid (show we.heap[g]? = some (.cells V 117 (0, 0)) by rw [hwe]; exact (Lib.alloc_old _ _ _ (lt_of_blk hg2)).trans hg2)
      have HBE := Lib.hid (show Below w.heap.size w we by rw [hwe]; exact hb2.alloc hb2.size _)
      have HBU := Lib.hid (show Lib.IsBuilderF 121 5 wd.heap.size wd.heap.size (Lib.byteCells []) we by
        rw [hwe]
        exact Lib.IsBuilderF.of (.inl ⟨Nat.le_refl _, .slice none 0 0, heap_alloc_new wd _, World.ownsRow_nil _ _ _ _, by simp [Value.ownBlock]⟩))
      have HZE := Lib.hid (show wd.heap.size ≤ we.heap.size by rw [hwe]; simp)
      have HGD := Lib.hid (show g < wd.heap.size from lt_of_blk hg2)
      clear hg2 hb2 hV hV8 hwe
      obtain ⟨n, hn⟩ : ∃ n, n = wd.heap.size := ⟨_, rfl⟩
      rw [← hn] at HBU HZE
      have HNN := Lib.hid hn
      have HLN := Lib.hid (show w.heap.size ≤ n by rw [hn]; exact Nat.le_trans HLE.out (Nat.le_of_lt HGD.out))
      clear hn
      go_wp2_with (first | (refine wpList_load_row rfl 117 (.tmp 4) rfl g rfl 117 V (0, 0) _ (by first | exact HGE.out | (rw [← HWE.out]; exact HGE.out)) Tryz.underlying117 rfl HI.out ?_))
      rw [← HWE.out, ← HNN.out]
      go_loopw [29] (fun i wr => ∃ k : Nat, k ≤ 8 ∧ i = .int .i64 k ∧ Lib.IsBuilderF 121 5 n n (Lib.byteCells ((R2.l.take k).flatMap wordB)) wr ∧ Below w.heap.size w wr ∧ n ≤ wr.heap.size) (fun i _ => 8 - (intOf i).toNat)
      case atStart => exact ⟨0, by omega, rfl, HBU.out, HBE.out, HZE.out⟩
      case round =>
        obtain ⟨k, hk, rfl, hb, hl, hz⟩ := hrel
        have HB := Lib.hid hb
        have HL := Lib.hid hl
        have HZ := Lib.hid hz
        clear hb hl hz
        by_cases hlt : k < 8
        · obtain ⟨x, hx⟩ : ∃ x, x = R2.l.getD k 0 := ⟨_, rfl⟩
          have hidx : ∀ W : World, (Instr.index 117 (.agg V) (.int .i64 (k : Int))).run Tryz.prog W = .ok (wv x) W := fun W => by
            rw [HV.out, hx]
            exact run_agg_index Tryz.underlying117 W k hlt rfl
          have hx0 := n32_lo x
          have hx1 := n32_hi x
          have HT := Lib.hid (show (R2.l.take (k + 1)).flatMap wordB = (R2.l.take k).flatMap wordB ++ wordB x by
            rw [List.take_succ_eq_append_getElem (by exact hlt), List.flatMap_append, hx, List.getD_eq_getElem?_getD, List.getElem?_eq_getElem (by exact hlt)]
            simp)
          have hol : ((R2.l.take k).flatMap wordB).length ≤ 100 := words_le R2 k
          clear hx
          go_wp2_with fail
          refine (inbytes_any x.toNat 4 wr (by have := x.isLt; omega) (by decide)).mono ?_
          rintro e w1 ⟨rfl, hb1⟩
          have HB1 := Lib.hid (builder_below HB.out hb1)
          have HL1 := Lib.hid (HL.out.trans (hb1.mono HL.out.size))
          have HZ1 := Lib.hid (Nat.le_trans HZ.out hb1.size)
          clear hb1
          go_wp2_with fail
          refine (write_str n n _ (wordB x) w1 HB1.out (by rw [Lib.byteCells_length, wordB_length]; omega) HZ1.out).mono ?_
          rw [← Lib.byteCells_append, ← HT.out]
          rintro e w2 ⟨rfl, hb2, hl2, hk2⟩
          have HB2 := Lib.hid hb2
          have HL2 := Lib.hid (HL1.out.trans (hl2.mono HLN.out))
          have HZ2 := Lib.hid (Nat.le_trans HZ1.out hl2.size)
          clear hb2 hl2 hk2
          go_wp2
          go_roundw
          case rel => exact ⟨k + 1, by omega, by go_num, HB2.out, HL2.out, HZ2.out⟩
          case measure => simp [intOf]; omega
        · obtain rfl : k = 8 := by omega
          have HS := Lib.hid (show (R2.l.take 8).flatMap wordB = sumP s by
            show _ = (blocksN (blocksN H0 (s.take (64 * (s.length / 64))) (s.length / 64)) (s.drop (64 * (s.length / 64)) ++ endP s.length) ((s.drop (64 * (s.length / 64)) ++ endP s.length).length / 64)).l.flatMap wordB
            rw [← HQQ.out, ← HTD.out, ← HEE.out, ← HR.out, ← HRR.out]
            rfl)
          rw [HS.out] at HB
          go_wp2_with fail
          refine (Tryz.Builder_String_any_k n n _ wr HB.out HZ.out).mono ?_
          rintro e w2 ⟨rfl, hb2, hl2, hk2⟩
          have HL2 := Lib.hid (HL.out.trans (hl2.mono HLN.out))
          clear hb2 hl2 hk2
          go_wp2
          go_ret
          exact ⟨rfl, HL2.out⟩
end Go.Proofs.YtnaoandleelbkaaGreatDoor
