/-
  Contracts of addBlock, addBlocks.
-/
import Derived.Deep.RegionWith
import Derived.Deep.RegionHeld3
import Derived.Test.YtamlblfhjpajhaaDoorZSched
namespace Go.Proofs.YtamlblfhjpajhaaDoor
open Go Go.RowKit
set_option maxRecDepth 100000

def Kw : List W32 := roundZ.map (fun z => BitVec.ofNat 32 z.toNat)

theorem Kw_get : ∀ k : Fin 64, roundZ.getD k.val 0 = n32 (Kw.getD k.val 0) := by decide +kernel
theorem Kw_length : Kw.length = 64 := by decide +kernel

def St.l (s : St) : List W32 := [s.a, s.b, s.c, s.d, s.e, s.f, s.g, s.h]
theorem St.v_eq (s : St) : s.v = .agg (s.l.map wv).toArray := rfl
def St.of (l : List W32) : St := ⟨l.getD 0 0, l.getD 1 0, l.getD 2 0, l.getD 3 0, l.getD 4 0, l.getD 5 0, l.getD 6 0, l.getD 7 0⟩

/-- The turns of the first n words. -/
def turnsN (s : St) (l : List W32) : Nat → St
  | 0 => s
  | n + 1 => turnP (turnsN s l n) (Kw.getD n 0 + l.getD n 0)

theorem zip_getD {a b : List W32} {n : Nat} (ha : n < a.length) (hb : n < b.length) : (List.zipWith (· + ·) a b).take (n + 1) = (List.zipWith (· + ·) a b).take n ++ [a.getD n 0 + b.getD n 0] := by
  have h : n < (List.zipWith (· + ·) a b).length := by simp; omega
  rw [List.take_succ_eq_append_getElem h]
  simp [List.getD_eq_getElem?_getD, ha, hb]

theorem turnsN_eq (s : St) (l : List W32) (hl : l.length = 64) (n : Nat) (hn : n ≤ 64) : turnsN s l n = ((List.zipWith (· + ·) Kw l).take n).foldl turnP s := by
  induction n with
  | zero => rfl
  | succ n ih =>
    rw [turnsN, ih (by omega), zip_getD (by rw [Kw_length]; omega) (by omega), List.foldl_append]; rfl

theorem turnsN_all (s : St) (l : List W32) (hl : l.length = 64) : turnsN s l 64 = turnsP Kw s l := by
  rw [turnsN_eq s l hl 64 (Nat.le_refl _), turnsP, List.take_of_length_le]
  simp [Kw_length, hl]

/-- The first k are added. -/
def mixL (a b : List W32) (k : Nat) : List W32 := (List.zipWith (· + ·) a b).take k ++ a.drop k
theorem mix_length {a b : List W32} (h : a.length = b.length) {k : Nat} (hk : k ≤ a.length) : (mixL a b k).length = a.length := by
  simp [mixL]; omega
theorem mix_get {a b : List W32} (h : a.length = b.length) {k : Nat} (hk : k < a.length) : (mixL a b k)[k]? = some (a.getD k 0) := by
  have hl : ((List.zipWith (· + ·) a b).take k).length = k := by simp; omega
  rw [mixL, List.getElem?_append_right (by omega), hl, Nat.sub_self, List.getElem?_drop, Nat.add_zero, List.getElem?_eq_getElem hk, List.getD_eq_getElem?_getD, List.getElem?_eq_getElem hk]; rfl
theorem mix_set {a b : List W32} (h : a.length = b.length) {k : Nat} (hk : k < a.length) : (mixL a b k).set k (a.getD k 0 + b.getD k 0) = mixL a b (k + 1) := by
  have hl : ((List.zipWith (· + ·) a b).take k).length = k := by simp; omega
  rw [mixL, List.set_append_right _ _ (by omega), hl, Nat.sub_self, List.drop_eq_getElem_cons hk, List.set_cons_zero, mixL, zip_getD hk (by omega), List.append_assoc]; rfl

theorem run_agg_index {T : TypeId} {n : Nat} {l : List W32} (hT : Tryd.prog.underlying T = some (.array n 67)) (W : World) (k : Nat) (hk : k < n) (hl : l.length = n) :
    (Instr.index T (.agg (l.map wv).toArray) (.int .i64 (k : Int))).run Tryd.prog W = .ok (wv (l.getD k 0)) W := by
  have h1 : k < l.length := by omega
  have hs : (sizeOf 67).run Tryd.prog W = .ok 1 W := by kernel_rfl
  have hp : (part 67 (l.map wv).toArray k).run Tryd.prog W = .ok (wv (l.getD k 0)) W := by
    have ha : (isAgg 67).run Tryd.prog W = .ok false W := by kernel_rfl
    have hg : (l.map wv).toArray[k]? = some (wv (l.getD k 0)) := by
      simp [List.getD_eq_getElem?_getD, h1]
    simp [part, Sem.run_bind, ha, hg]
  simp [Instr.index, run_underlying hT, asIntOf, Sem.run_bind, hk, hs, hp]

theorem getD_of_lt {l : List W32} {k : Nat} (h : k < l.length) : l[k]? = some (l.getD k 0) := by
  rw [List.getD_eq_getElem?_getD, List.getElem?_eq_getElem h]; rfl

theorem block_eq {hl T l : List W32} {t : St} {b : List UInt8} {h0 h1 h2 h3 h4 h5 h6 h7 : W32} (hh : hl = [h0, h1, h2, h3, h4, h5, h6, h7]) (hT : T = t.l) (ht : t = turnsN ⟨h0, h1, h2, h3, h4, h5, h6, h7⟩ l 64) (hll : l.length = 64) (hl' : l = schedP (wordsP b) 48) :
    Ending.returned (.agg ((mixL hl T 8).map wv).toArray) = .returned (blockP Kw ⟨h0, h1, h2, h3, h4, h5, h6, h7⟩ b).v := by
  rw [turnsN_all _ _ hll] at ht
  unfold blockP
  rw [← hl', ← ht, hT, hh]
  rfl

theorem heap_setRow_ne {w : World} {g k : Nat} {A : Array Value} (h : k ≠ g) : (w.setRow g A).heap[k]? = w.heap[k]? := by
  simp only [World.setRow, Array.getElem?_modify]
  rw [if_neg (fun e => h e.symm)]

set_option maxHeartbeats 2000000 in
theorem block_any (h : St) (b : List UInt8) (w : World) (hb : b.length = 64) (hw : LWc w) :
    Calls Tryd.prog 50 #[h.v, .string (str b)] w fun e w' => e = .returned (blockP Kw h b).v ∧ Below w.heap.size w w' := by
  have HW := Lib.hid hw
  have HBL := Lib.hid hb
  clear hw
  obtain ⟨h0, h1, h2, h3, h4, h5, h6, h7⟩ := h
  obtain ⟨wa, hwa⟩ : ∃ wa, wa = ((w.alloc (.cells #[wv h0, wv h1, wv h2, wv h3, wv h4, wv h5, wv h6, wv h7] 68)).alloc (.cells #[.int .u32 0, .int .u32 0, .int .u32 0, .int .u32 0, .int .u32 0, .int .u32 0, .int .u32 0, .int .u32 0] 68)).alloc (.cells #[wv h0, wv h1, wv h2, wv h3, wv h4, wv h5, wv h6, wv h7] 68) := ⟨_, rfl⟩
  have hba : Below w.heap.size w wa := by rw [hwa]; exact ((below_allocC _ _).trans ((below_allocC _ _).mono (by simp))).trans ((below_allocC _ _).mono (by simp; omega))
  have hza : wa.heap.size = w.heap.size + 3 := by rw [hwa]; simp
  have ha0 : wa.heap[w.heap.size]? = some (.cells #[wv h0, wv h1, wv h2, wv h3, wv h4, wv h5, wv h6, wv h7] 68 (0, 0)) := by
    rw [hwa]; exact (Lib.alloc_old _ _ _ (by simp; omega)).trans (heap_alloc2_old w _ _)
  have ha1 : wa.heap[w.heap.size + 1]? = some (.cells #[.int .u32 0, .int .u32 0, .int .u32 0, .int .u32 0, .int .u32 0, .int .u32 0, .int .u32 0, .int .u32 0] 68 (0, 0)) := by
    rw [hwa]; exact (Lib.alloc_old _ _ _ (by simp)).trans (heap_alloc2_new w _ _)
  have ha2 : wa.heap[w.heap.size + 2]? = some (.cells #[wv h0, wv h1, wv h2, wv h3, wv h4, wv h5, wv h6, wv h7] 68 (0, 0)) := by
    rw [hwa]
    have := heap_alloc_new ((w.alloc (.cells #[wv h0, wv h1, wv h2, wv h3, wv h4, wv h5, wv h6, wv h7] 68)).alloc (.cells #[.int .u32 0, .int .u32 0, .int .u32 0, .int .u32 0, .int .u32 0, .int .u32 0, .int .u32 0, .int .u32 0] 68)) (.cells #[wv h0, wv h1, wv h2, wv h3, wv h4, wv h5, wv h6, wv h7] 68)
    simpa using this
  have HWA := Lib.hid hwa
  have HBA := Lib.hid hba
  have HZA := Lib.hid hza
  have HA0 := Lib.hid ha0
  have HA1 := Lib.hid ha1
  have HA2 := Lib.hid ha2
  have HSC := Lib.hid (sched_any b wa hb)
  obtain ⟨l, hl⟩ : ∃ l, l = schedP (wordsP b) 48 := ⟨_, rfl⟩
  have hll : l.length = 64 := by rw [hl, schedP_length, wordsP_length, hb]
  rw [← hl] at HSC
  have HL := Lib.hid hl
  have HLL := Lib.hid hll
  clear hwa hba hza ha0 ha1 ha2 hl hll hb
  go_enter Tryd.func50, Tryd.ntmps50
  go_wp2_with fail
  change Calls _ _ _ (((w.alloc (.cells #[wv h0, wv h1, wv h2, wv h3, wv h4, wv h5, wv h6, wv h7] 68)).alloc (.cells #[.int .u32 0, .int .u32 0, .int .u32 0, .int .u32 0, .int .u32 0, .int .u32 0, .int .u32 0, .int .u32 0] 68)).alloc (.cells #[wv h0, wv h1, wv h2, wv h3, wv h4, wv h5, wv h6, wv h7] 68)) _
  rw [← HWA.out]
  refine HSC.out.mono ?_
  rintro e w1 ⟨rfl, hb1⟩
  have HB1 := Lib.hid (HBA.out.trans (hb1.mono (by rw [HZA.out]; omega)))
  have HR0 := Lib.hid (show w1.heap[w.heap.size]? = _ from (hb1.block _ (by rw [HZA.out]; omega)).trans HA0.out)
  have HR1 := Lib.hid (show w1.heap[w.heap.size + 1]? = _ from (hb1.block _ (by rw [HZA.out]; omega)).trans HA1.out)
  have HR2 := Lib.hid (show w1.heap[w.heap.size + 2]? = _ from (hb1.block _ (by rw [HZA.out]; omega)).trans HA2.out)
  clear hb1
  obtain ⟨A, hA⟩ : ∃ A, A = (l.map wv).toArray := ⟨_, rfl⟩
  rw [← hA]
  have HA := Lib.hid hA
  clear hA
  go_wp2_with fail
  go_loopw [13] (fun i wr => ∃ k : Nat, k ≤ 64 ∧ i = .int .i64 k ∧ wr.heap[w.heap.size]? = some (.cells #[wv h0, wv h1, wv h2, wv h3, wv h4, wv h5, wv h6, wv h7] 68 (0, 0)) ∧ (∃ cs, wr.heap[w.heap.size + 1]? = some (.cells cs 68 (0, 0)) ∧ cs.size = 8) ∧ wr.heap[w.heap.size + 2]? = some (.cells ((turnsN ⟨h0, h1, h2, h3, h4, h5, h6, h7⟩ l k).l.map wv).toArray 68 (0, 0)) ∧ Below w.heap.size w wr) (fun i _ => 64 - (intOf i).toNat)
  case atStart => exact ⟨0, by omega, rfl, HR0.out, ⟨_, HR1.out, rfl⟩, HR2.out, HB1.out⟩
  case round =>
    obtain ⟨k, hk, rfl, hr0, hr1, hr2, hb⟩ := hrel
    have HR0 := Lib.hid hr0
    have HR1 := Lib.hid hr1
    have HB := Lib.hid hb
    by_cases hlt : k < 64
    · obtain ⟨t, ht⟩ : ∃ t, t = turnsN ⟨h0, h1, h2, h3, h4, h5, h6, h7⟩ l k := ⟨_, rfl⟩
      rw [← ht] at hr2
      have HT := Lib.hid ht
      obtain ⟨x, hx⟩ : ∃ x, x = l.getD k 0 := ⟨_, rfl⟩
      have hidx : ∀ W : World, (Instr.index 98 (.agg A) (.int .i64 (k : Int))).run Tryd.prog W = .ok (wv x) W := fun W => by
        rw [HA.out, hx]
        exact run_agg_index Tryd.underlying98 W k hlt HLL.out
      obtain ⟨kw, hkw⟩ : ∃ x, x = Kw.getD k 0 := ⟨_, rfl⟩
      have hck : wr.cell? ⟨2, k, none⟩ = some (wv kw) := by
        have := (HW.out.below hb).round.cell gRound k (by exact hlt)
        rw [this, Kw_get ⟨k, hlt⟩, hkw]
      have HX := Lib.hid hx
      have HK := Lib.hid hkw
      obtain ⟨t0, t1, t2, t3, t4, t5, t6, t7⟩ := t
      have HR2 := Lib.hid hr2
      have c0 : wr.cell? ⟨w.heap.size + 2, 0, none⟩ = some (wv t0) := by rw [cellAt hr2]; rfl
      have c1 : wr.cell? ⟨w.heap.size + 2, 1, none⟩ = some (wv t1) := by rw [cellAt hr2]; rfl
      have c2 : wr.cell? ⟨w.heap.size + 2, 2, none⟩ = some (wv t2) := by rw [cellAt hr2]; rfl
      have c3 : wr.cell? ⟨w.heap.size + 2, 3, none⟩ = some (wv t3) := by rw [cellAt hr2]; rfl
      have c4 : wr.cell? ⟨w.heap.size + 2, 4, none⟩ = some (wv t4) := by rw [cellAt hr2]; rfl
      have c5 : wr.cell? ⟨w.heap.size + 2, 5, none⟩ = some (wv t5) := by rw [cellAt hr2]; rfl
      have c6 : wr.cell? ⟨w.heap.size + 2, 6, none⟩ = some (wv t6) := by rw [cellAt hr2]; rfl
      have c7 : wr.cell? ⟨w.heap.size + 2, 7, none⟩ = some (wv t7) := by rw [cellAt hr2]; rfl
      clear hr0 hr1 hr2 hb ht hx hkw
      go_wp2_with fail
      have rp := wrap_add
      go_still_tail 6, (by kernel_rfl)
      clear rp c0 c1 c2 c3 c4 c5 c6 c7 hck hidx
      change wpList _ _ _ _ _ wr.drew
      go_wp2_with fail
      refine (turn_any ⟨t0, t1, t2, t3, t4, t5, t6, t7⟩ (kw + x) wr.drew).mono ?_
      rintro e w3 ⟨rfl, hb3⟩
      have hlt2 : w.heap.size + 2 < wr.heap.size := lt_of_blk HR2.out
      have HB3 := Lib.hid (HB.out.trans (show Below w.heap.size wr w3 from ((Below.refl _ wr).drew).trans (hb3.mono (by show w.heap.size ≤ wr.heap.size; omega))))
      have HS0 := Lib.hid (show w3.heap[w.heap.size]? = _ from (hb3.block _ (by show _ < wr.heap.size; omega)).trans HR0.out)
      have HS1 := Lib.hid (show ∃ cs, w3.heap[w.heap.size + 1]? = some (.cells cs 68 (0, 0)) ∧ cs.size = 8 from by
        obtain ⟨cs, h1, h2⟩ := HR1.out
        exact ⟨cs, (hb3.block _ (by show _ < wr.heap.size; omega)).trans h1, h2⟩)
      have HS2 := Lib.hid (show w3.heap[w.heap.size + 2]? = _ from (hb3.block _ (by show _ < wr.heap.size; omega)).trans HR2.out)
      clear hb3 hlt2
      obtain ⟨r, hr⟩ : ∃ r, r = turnP ⟨t0, t1, t2, t3, t4, t5, t6, t7⟩ (kw + x) := ⟨_, rfl⟩
      rw [← hr]
      have HRR := Lib.hid (show r = turnsN ⟨h0, h1, h2, h3, h4, h5, h6, h7⟩ l (k + 1) by rw [turnsN, ← HT.out, ← HK.out, ← HX.out, hr])
      clear hr
      obtain ⟨R, hR⟩ : ∃ R, R = (r.l.map wv).toArray := ⟨_, rfl⟩
      rw [St.v_eq, ← hR]
      have hR8 : R.size = 8 := by rw [hR]; rfl
      have hR1 : R.all (·.oneCell') = true := by rw [hR]; exact all_one _
      have HR := Lib.hid hR
      have HI := Lib.hid (show (Tryd.prog.info? 68).map (·.size) = some R.size by rw [hR8]; kernel_rfl)
      have HR8 := Lib.hid hR8
      have HR1' := Lib.hid hR1
      clear hR hR8 hR1
      go_wp2_with (first | (refine wpList_store_row rfl 68 (.tmp 5) (.tmp 23) rfl (w.heap.size + 2) R rfl rfl 68 _ HS2.out HI.out (by rw [HR8.out]; rfl) HR1'.out ?_))
      have HF := Lib.hid (setRow_heap w3 (w.heap.size + 2) _ R 68 (0, 0) HS2.out)
      go_roundw
      case rel =>
        obtain ⟨cs, h1, h2⟩ := HS1.out
        refine ⟨k + 1, by omega, by go_num, ?_, ⟨cs, ?_, h2⟩, ?_, below_setRow HB3.out (by omega) R⟩
        · exact (heap_setRow_ne (by omega)).trans HS0.out
        · exact (heap_setRow_ne (by omega)).trans h1
        · rw [← HRR.out, ← HR.out]; exact HF.out
      case measure => simp [intOf]; omega
    · obtain rfl : k = 64 := by omega
      obtain ⟨t, ht⟩ : ∃ t, t = turnsN ⟨h0, h1, h2, h3, h4, h5, h6, h7⟩ l 64 := ⟨_, rfl⟩
      rw [← ht] at hr2
      have HT := Lib.hid ht
      obtain ⟨T, hT⟩ : ∃ T, T = t.l := ⟨_, rfl⟩
      rw [← hT] at hr2
      obtain ⟨V, hV⟩ : ∃ V, V = (T.map wv).toArray := ⟨_, rfl⟩
      rw [← hV] at hr2
      have hT8 : T.length = 8 := by rw [hT]; rfl
      have hV8 : V.size = 8 := by rw [hV]; simp [hT8]
      have HI := Lib.hid (show (Tryd.prog.info? 68).map (·.size) = some V.size by rw [hV8]; kernel_rfl)
      have HR2 := Lib.hid hr2
      have HV := Lib.hid hV
      have HTT := Lib.hid hT
      have HT8 := Lib.hid hT8
      clear hr0 hr1 hr2 hb ht hT hV hT8 hV8
      go_wp2_with (first | (refine wpList_load_row rfl 68 (.tmp 5) rfl (w.heap.size + 2) rfl 68 V (0, 0) _ HR2.out Tryd.underlying68 rfl HI.out ?_))
      obtain ⟨hl, hhl⟩ : ∃ hl : List W32, hl = [h0, h1, h2, h3, h4, h5, h6, h7] := ⟨_, rfl⟩
      have hh8 : hl.length = 8 := by rw [hhl]; rfl
      have HH8 := Lib.hid hh8
      have HHL := Lib.hid hhl
      have HM0 := Lib.hid (show wr.heap[w.heap.size]? = some (.cells ((mixL hl T 0).map wv).toArray 68 (0, 0)) by rw [HR0.out, hhl]; rfl)
      have HX := Lib.hid (show hl.length = T.length by rw [hh8, HT8.out])
      clear hhl hh8
      go_loopw [26] (fun i wr => ∃ k : Nat, k ≤ 8 ∧ i = .int .i64 k ∧ wr.heap[w.heap.size]? = some (.cells ((mixL hl T k).map wv).toArray 68 (0, 0)) ∧ (∃ cs, wr.heap[w.heap.size + 1]? = some (.cells cs 68 (0, 0)) ∧ cs.size = 8) ∧ Below w.heap.size w wr) (fun i _ => 8 - (intOf i).toNat)
      case atStart => exact ⟨0, by omega, rfl, HM0.out, HR1.out, HB.out⟩
      case round =>
        obtain ⟨k, hk, rfl, hr0, hr1, hb⟩ := hrel
        by_cases hlt : k < 8
        · obtain ⟨x, hx⟩ : ∃ x, x = hl.getD k 0 := ⟨_, rfl⟩
          obtain ⟨y, hy⟩ : ∃ y, y = T.getD k 0 := ⟨_, rfl⟩
          have hidx : ∀ W : World, (Instr.index 68 (.agg V) (.int .i64 (k : Int))).run Tryd.prog W = .ok (wv y) W := fun W => by
            rw [HV.out, hy]
            exact run_agg_index Tryd.underlying68 W k hlt HT8.out
          have hc : wr.cell? ⟨w.heap.size, k, none⟩ = some (wv x) := by
            rw [cellAt hr0, hx]
            have := mix_get HX.out (k := k) (by rw [HH8.out]; exact hlt)
            simp [this]
          have hf := freeAt hr0 k
          have HS := Lib.hid (show (wr.setCell ⟨w.heap.size, k, none⟩ (wv (x + y))).heap[w.heap.size]? = some (.cells ((mixL hl T (k + 1)).map wv).toArray 68 (0, 0)) by
            rw [heap_setCell_same _ _ _ _ _ _ hr0, ← mix_set HX.out (by rw [HH8.out]; exact hlt), hx, hy]
            simp [List.map_set])
          have HR1 := Lib.hid hr1
          have HB := Lib.hid hb
          clear hr0 hr1 hb hx hy
          go_wp2
          rw [add32]
          go_roundw
          case rel =>
            obtain ⟨cs, h1, h2⟩ := HR1.out
            refine ⟨k + 1, by omega, by go_num, HS.out, ⟨cs, ?_, h2⟩, ?_⟩
            · exact (heap_setCell_other wr ⟨w.heap.size, k, none⟩ _ _ (by simp)).trans h1
            · exact HB.out.setCell (p := ⟨w.heap.size, k, none⟩) (by simp) _
          case measure => simp [intOf]; omega
        · obtain rfl : k = 8 := by omega
          obtain ⟨cs, h1, h2⟩ := hr1
          obtain ⟨M, hM⟩ : ∃ M, M = ((mixL hl T 8).map wv).toArray := ⟨_, rfl⟩
          rw [← hM] at hr0
          have hM8 : M.size = 8 := by rw [hM]; simp [mix_length HX.out (k := 8) (by rw [HH8.out]; omega), HH8.out]
          have HM1 := Lib.hid (show M.all (·.oneCell') = true by rw [hM]; exact all_one _)
          have HI2 := Lib.hid (show (Tryd.prog.info? 68).map (·.size) = some M.size by rw [hM8]; kernel_rfl)
          have HMM := Lib.hid hM
          have HR0 := Lib.hid hr0
          have HO := Lib.hid h1
          have HO2 := Lib.hid (show cs.size = M.size by rw [h2, hM8])
          have HB := Lib.hid hb
          clear hr0 h1 h2 hM hM8 hb
          go_wp2_with (first | (refine wpList_load_row rfl 68 (.tmp 2) rfl w.heap.size rfl 68 M (0, 0) _ HR0.out Tryd.underlying68 rfl HI2.out ?_; refine wpList_store_row rfl 68 (.tmp 4) (.tmp 37) rfl (w.heap.size + 1) M rfl rfl 68 cs HO.out HI2.out HO2.out HM1.out ?_))
          refine bodyPost_ret (results_cell_row (p := 4) (by kernel_rfl) _ _ (w.heap.size + 1) 68 M (0, 0) _ rfl (setRow_heap wr (w.heap.size + 1) cs M 68 (0, 0) HO.out) Tryd.underlying68 rfl HI2.out) rfl ⟨?_, ?_⟩
          · rw [HMM.out, block_eq HHL.out HTT.out HT.out HLL.out HL.out]
          · exact below_setRow HB.out (by omega) M
end Go.Proofs.YtamlblfhjpajhaaDoor
