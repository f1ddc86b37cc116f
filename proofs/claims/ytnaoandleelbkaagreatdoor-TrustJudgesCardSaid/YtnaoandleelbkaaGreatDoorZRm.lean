/-
  Contracts of the reference's rot and Words; CodeSum of more than 400 bytes.
  Contract of the reference's words (117).
  On the way to the reference's Sum: rows of words, the blocks of a text that is put together, what a round of its loops does.
  A row of bytes that '[]byte(s)' began, and that is appended to.
  An append onto a row of words, whose old cells stay as they were.
  An append of words, its length told; a turn's row.
-/
import Derived.Test.YtnaoandleelbkaaGreatDoorZBm
import Derived.Test.YtnaoandleelbkaaGreatDoorZSm
import Derived.Deep.RegionHeld3
import Derived.Deep.DrawnRows
import Derived.Deep.AppendSrc
import Derived.Laws.IdiomStrings
namespace Go.Proofs.YtnaoandleelbkaaGreatDoor
open Go Go.RowKit
set_option maxRecDepth 100000

theorem rrot_any (x : W32) (n : Nat) (w : World) (hn : 0 < n) (hn2 : n < 32) : Calls Tryz.prog 136 #[wv x, .int .u64 n] w fun e w' => e = .returned (wv (rotP x n)) ∧ w = w' := by
  obtain ⟨m, hm⟩ : ∃ m, m = 32 - n := ⟨_, rfl⟩
  have hs : IntKind.u64.wrap (32 - (n : Int)) = (m : Int) := by rw [wraps_u64 _ (by omega) (by omega)]; omega
  have hx0 := n32_lo x
  have hx1 := n32_hi x
  have e1 := shl32 x m
  have e2 := shr32 x n
  have e3 := bits_or32 (x >>> n) (x <<< m)
  have HV := Lib.hid (show rotP x n = (x >>> n) ||| (x <<< m) by rw [hm]; rfl)
  have hm1 : m < 32 := by omega
  clear hm
  go_enter Tryz.func136, Tryz.ntmps136
  go_wp2
  go_ret
  rw [HV.out]
  exact ⟨rfl, rfl⟩

/-- The two rows of words, as values. -/
def h0L : List Value := firstZ.map (Value.int .u32)
def k0L : List Value := roundZ.map (Value.int .u32)

theorem rwords_any (w : World) : Calls Tryz.prog 134 #[] w fun e w' => ∃ g h, e = .returned (.tuple #[.slice (some ⟨g, 0, none⟩) 8 8, .slice (some ⟨h, 0, none⟩) 64 64]) ∧ w.heap.size ≤ g ∧ g < h ∧
    w'.heap[g]? = some (.cells h0L.toArray 116 (0, 0)) ∧ w'.heap[h]? = some (.cells k0L.toArray 116 (0, 0)) ∧ Below w.heap.size w w' := by
  go_enter Tryz.func134, Tryz.ntmps134
  go_wp2
  go_ret2
  have hb := (Below.refl w.heap.size w).alloc (Nat.le_refl _) (.cells h0L.toArray 116)
  have hb2 := hb.alloc hb.size (.cells k0L.toArray 116)
  refine ⟨w.heap.size, w.heap.size + 1, rfl, Nat.le_refl _, Nat.lt_succ_self _, ?_, ?_, hb2⟩
  · exact (Below.heap_alloc (w.alloc (.cells h0L.toArray 116)) (.cells k0L.toArray 116) w.heap.size (by simp)).trans (heap_alloc_new w _)
  · have := heap_alloc_new (w.alloc (.cells h0L.toArray 116)) (.cells k0L.toArray 116)
    rw [show (w.alloc (.cells h0L.toArray 116)).heap.size = w.heap.size + 1 by simp] at this
    exact this
end Go.Proofs.YtnaoandleelbkaaGreatDoor

namespace Go.Proofs.YtnaoandleelbkaaGreatDoor
open Go Go.RowKit
set_option maxRecDepth 100000

theorem info40' : (Tryz.prog.info? 116).map (fun i => (i.zero, i.size, i.bytes)) = some (some (.int .u32 0), 1, 4) := by kernel_rfl

theorem wv_one {ys : List W32} : ∀ u ∈ ys.map wv, u.oneCell' = true := by
  intro u hu
  obtain ⟨b, _, rfl⟩ := List.mem_map.1 hu
  rfl

/-- A row of words. -/
def GW (w0 : World) (v : Value) (l : List W32) (w : World) : Prop := GV 116 w0 v (l.map wv) w
theorem GW.nil (w : World) : GW w (.slice none 0 0) [] w := GV.nil _ _
theorem GW.below {w0 w : World} {v : Value} {l : List W32} (h : GW w0 v l w) : Below w0.heap.size w0 w := h.1
theorem GW.form {w0 w : World} {v : Value} {l : List W32} (h : GW w0 v l w) : ∃ A c, v = .slice A l.length c := by have := GV.form h; simpa using this
theorem GW.drew {w0 w : World} {v : Value} {l : List W32} (h : GW w0 v l w) : GW w0 v l w.drew := GV.drew h
theorem GW.behind {w0 w w' : World} {v : Value} {l : List W32} (h : GW w0 v l w) (hb : Below w.heap.size w w') : GW w0 v l w' := GV.behind h hb

/-- An append of words whose run is known, ahead of a region that draws its order. -/
theorem gw_run {w0 w1 : World} {v : Value} {l : List W32} (h : GW w0 v l w1) (hlen : l.length ≤ 1000000) (m : List W32) (C : Array Value) (hC : C.toList = m.map wv) (hm : 0 < m.length ∧ m.length ≤ 1000000) (n c : Nat) (hn : n = m.length) :
    ∃ g cap w', (Builtin.append_ #[156, 156] 156 #[v, .slice (some ⟨w1.heap.size, 0, none⟩) n c]).run Tryz.prog (w1.alloc (.cells C 116)) = .ok (.slice (some ⟨g, 0, none⟩) (l.length + m.length) cap) w' ∧ GW w0 (.slice (some ⟨g, 0, none⟩) (l.length + m.length) cap) (l ++ m) w' := by
  subst hn
  obtain ⟨i, hi, hz0, hz1, hz2⟩ := info_parts info40'
  have hsz := h.1.size
  obtain ⟨g, cap, w', hrun, hown, hgr, _, _⟩ := run_append_lies (P := Tryz.prog) (w1.alloc (.cells C 116)) 156 156 w0.heap.size 116 i (.int .u32 0) 1 4 Tryz.underlying156 hi hz0 hz1 hz2 rfl (by decide) v (l.map wv).length (l.map wv) (h.2.alloc _) ⟨w1.heap.size, 0, none⟩ m.length c (m.map wv) (by simp)
    (by rw [← hC]; exact World.news_of_block (heap_alloc_new w1 _)) wv_one hm.1 (by rw [List.length_map]; unfold maxLen; omega) (by rw [List.length_map]; omega) (by simp; omega) _ rfl
  rw [List.length_map] at hrun hown
  refine ⟨g, cap, w', hrun, Below.grown (h.1.alloc hsz _) hgr (by simp; omega) (fun j hj => (h.2.lt j hj).1), ?_⟩
  simpa using hown

theorem drop_four {l : List UInt8} {j : Nat} (h : j + 4 ≤ l.length) : l.drop j = l.getD j 0 :: l.getD (j + 1) 0 :: l.getD (j + 2) 0 :: l.getD (j + 3) 0 :: l.drop (j + 4) := by
  rw [List.drop_eq_getElem_cons (by omega), List.drop_eq_getElem_cons (i := j + 1) (by omega), List.drop_eq_getElem_cons (i := j + 1 + 1) (by omega), List.drop_eq_getElem_cons (i := j + 1 + 1 + 1) (by omega)]
  simp only [List.getD_eq_getElem?_getD]
  rw [List.getElem?_eq_getElem (show j < l.length by omega), List.getElem?_eq_getElem (show j + 1 < l.length by omega), List.getElem?_eq_getElem (show j + 2 < l.length by omega), List.getElem?_eq_getElem (show j + 3 < l.length by omega)]
  rfl

set_option maxHeartbeats 2000000 in
theorem words_any (l : List UInt8) (g f c : Nat) (w : World) (hl : l.length ≤ 1000) (hc : ∀ j, j < l.length → w.cell? ⟨g, f + j, none⟩ = some (bv (l.getD j 0))) :
    Calls Tryz.prog 135 #[.slice (some ⟨g, f, none⟩) l.length c] w fun e w' => ∃ v, e = .returned v ∧ GW w v (wordsP l) w' := by
  have HC := Lib.hid (show ∀ W : World, Below w.heap.size w W → ∀ j, j < l.length → W.cell? ⟨g, f + j, none⟩ = some (bv (l.getD j 0)) from fun W hW j hj =>
    (hW.cell (p := ⟨g, f + j, none⟩) (World.block_lt_of_cell? w _ (hc j hj))).trans (hc j hj))
  have HG := Lib.hid (show GW w (.slice none 0 0) ((wordsP l).take 0) w by rw [List.take_zero]; exact GW.nil w)
  clear hc
  go_enter Tryz.func135, Tryz.ntmps135
  go_wp2_with fail
  go_loopw [3, 4] (fun v i wr => ∃ j q : Nat, j = 4 * q ∧ j ≤ l.length ∧ i = .int .i64 j ∧ GW w v ((wordsP l).take q) wr) (fun _ i _ => l.length - (intOf i).toNat)
  case atStart => exact ⟨0, 0, rfl, Nat.zero_le _, rfl, HG.out⟩
  case round =>
    obtain ⟨j, q, hjq, hj, rfl, hg⟩ := hrel
    have hwl := wordsP_length l
    have htl : ((wordsP l).take q).length = q := by rw [List.length_take]; omega
    obtain ⟨A, cp, rfl⟩ := hg.form
    rw [htl] at hg ⊢
    by_cases hlt : j + 4 ≤ l.length
    · have HT := Lib.hid (words_take q l (by rw [← hjq]; exact drop_four hlt))
      have hc0 := HC.out wr hg.below j (by omega)
      have hc1 := HC.out wr hg.below (j + 1) (by omega)
      have hc2 := HC.out wr hg.below (j + 2) (by omega)
      have hc3 := HC.out wr hg.below (j + 3) (by omega)
      obtain ⟨x0, h0⟩ : ∃ x, x = l.getD j 0 := ⟨_, rfl⟩
      obtain ⟨x1, h1⟩ : ∃ x, x = l.getD (j + 1) 0 := ⟨_, rfl⟩
      obtain ⟨x2, h2⟩ : ∃ x, x = l.getD (j + 2) 0 := ⟨_, rfl⟩
      obtain ⟨x3, h3⟩ : ∃ x, x = l.getD (j + 3) 0 := ⟨_, rfl⟩
      rw [← h0] at hc0 HT
      rw [← h1] at hc1 HT
      rw [← h2] at hc2 HT
      rw [← h3] at hc3 HT
      unfold bv at hc0 hc1 hc2 hc3
      obtain ⟨g2, cap, w3, hrun, hg3⟩ := gw_run hg.drew (by rw [htl]; omega) [wordP x0 x1 x2 x3] #[wv (wordP x0 x1 x2 x3)] rfl ⟨by simp, by simp⟩ 1 1 rfl
      rw [htl] at hrun hg3
      rw [← HT.out] at hg3
      have k0 := HC.out w3 hg3.below j (by omega)
      have k1 := HC.out w3 hg3.below (j + 1) (by omega)
      have k2 := HC.out w3 hg3.below (j + 2) (by omega)
      have k3 := HC.out w3 hg3.below (j + 3) (by omega)
      rw [← h0] at k0
      rw [← h1] at k1
      rw [← h2] at k2
      rw [← h3] at k3
      unfold bv at k0 k1 k2 k3
      clear h0 h1 h2 h3
      have HRUN := Lib.hid hrun
      have HG3 := Lib.hid hg3
      have HQ := Lib.hid hjq
      have hlen : l.length = l.length := rfl
      clear hrun hg3 hg HT htl hwl hjq hlen
      have s1 : IntKind.i64.wrap ((j : Int) + 1) = (j : Int) + 1 := IntWalk.i64_in _ (by omega)
      have s2 : IntKind.i64.wrap ((j : Int) + 2) = (j : Int) + 2 := IntWalk.i64_in _ (by omega)
      have s3 : IntKind.i64.wrap ((j : Int) + 3) = (j : Int) + 3 := IntWalk.i64_in _ (by omega)
      have t1 : ((j : Int) + 1).toNat = j + 1 := by omega
      have t2 : ((j : Int) + 2).toNat = j + 2 := by omega
      have t3 : ((j : Int) + 3).toNat = j + 3 := by omega
      have p0 : 0 ≤ (j : Int) := by omega
      have p1 : 0 ≤ (j : Int) + 1 := by omega
      have p2 : 0 ≤ (j : Int) + 2 := by omega
      have p3 : 0 ≤ (j : Int) + 3 := by omega
      have q0 : (j : Int) < l.length := by omega
      have q1 : (j : Int) + 1 < l.length := by omega
      have q2 : (j : Int) + 2 < l.length := by omega
      have q3 : (j : Int) + 3 < l.length := by omega
      go_wp2_with fail
      have r0 := wrap_byte
      have r24 := wrap_24
      have r16 := wrap_16
      have r8 := wrap_8
      have ro := bits_or32
      go_region_held3 (fun w' => w'.cell? ⟨g, f + j, none⟩ = some (.int .u8 x0.toNat) ∧ w'.cell? ⟨g, f + (j + 1), none⟩ = some (.int .u8 x1.toNat) ∧ w'.cell? ⟨g, f + (j + 2), none⟩ = some (.int .u8 x2.toNat) ∧ w'.cell? ⟨g, f + (j + 3), none⟩ = some (.int .u8 x3.toNat)) (go_keep)
        (refine step_app rfl (.tmp 12) (.tmp 42) 156 rfl rfl rfl HRUN.out ?_)
      all_goals
        clear r0 r24 r16 r8 ro k0 k1 k2 k3
        go_wp2
        go_roundw
        case rel => exact ⟨j + 4, q + 1, by have := HQ.out; omega, by omega, by go_num, HG3.out⟩
        case measure => simp [intOf]; omega
    · have HB := Lib.hid hg
      rw [List.take_of_length_le (by omega)] at HB
      clear hg
      go_wp2
      go_ret
      exact ⟨_, rfl, HB.out⟩
end Go.Proofs.YtnaoandleelbkaaGreatDoor

namespace Go.Proofs.YtnaoandleelbkaaGreatDoor
open Go Go.RowKit
set_option maxRecDepth 100000

theorem blocksN_pre (h : St) (a r : List UInt8) : ∀ n, 64 * n ≤ a.length → blocksN h (a ++ r) n = blocksN h a n
  | 0, _ => rfl
  | n + 1, hn => by
    rw [blocksN, blocksN, blocksN_pre h a r n (by omega), List.drop_append_of_le_length (by omega), List.take_append_of_le_length (by rw [List.length_drop]; omega)]

theorem blocksN_append (h : St) (a r : List UInt8) (q : Nat) (ha : a.length = 64 * q) : ∀ m, blocksN h (a ++ r) (q + m) = blocksN (blocksN h a q) r m
  | 0 => by rw [Nat.add_zero, blocksN_pre h a r q (by omega)]; rfl
  | m + 1 => by
    rw [← Nat.add_assoc, blocksN, blocksN, blocksN_append h a r q ha m, List.drop_append]
    rw [show 64 * (q + m) - a.length = 64 * m by omega, List.drop_of_length_le (by omega), List.nil_append]

theorem sumP_whole (s : List UInt8) : sumP s = (blocksN H0 (s ++ endP s.length) ((s ++ endP s.length).length / 64)).l.flatMap wordB := by
  have he := (endP_length s.length).1
  obtain ⟨q, hq⟩ : ∃ q, q = s.length / 64 := ⟨_, rfl⟩
  have ha : (s.take (64 * q)).length = 64 * q := by rw [List.length_take]; omega
  have e : s ++ endP s.length = s.take (64 * q) ++ (s.drop (64 * q) ++ endP s.length) := by rw [← List.append_assoc, List.take_append_drop]
  have hn : (s ++ endP s.length).length / 64 = q + (s.drop (64 * q) ++ endP s.length).length / 64 := by
    simp only [List.length_append, List.length_drop]; omega
  rw [hn, e, blocksN_append H0 _ _ q ha]
  show (blocksN (blocksN H0 (s.take (64 * (s.length / 64))) (s.length / 64)) (s.drop (64 * (s.length / 64)) ++ endP s.length) ((s.drop (64 * (s.length / 64)) ++ endP s.length).length / 64)).l.flatMap wordB = _
  rw [← hq]

theorem h0L_eq : h0L = H0.l.map wv := by
  have e : firstZ = H0.l.map n32 := by decide +kernel
  rw [h0L, e, List.map_map]; rfl
theorem k0L_eq : k0L = Kw.map wv := by
  have e : roundZ = Kw.map n32 := by decide +kernel
  rw [k0L, e, List.map_map]; rfl

/-- A row of words that lies at a block. -/
def At (g : Nat) (l : List W32) (w : World) : Prop := w.heap[g]? = some (.cells (l.map wv).toArray 116 (0, 0))
theorem At.lt {g : Nat} {l : List W32} {w : World} (h : At g l w) : g < w.heap.size := lt_of_blk h
theorem At.cell {g : Nat} {l : List W32} {w : World} (h : At g l w) {j : Nat} (hj : j < l.length) : w.cell? ⟨g, j, none⟩ = some (wv (l.getD j 0)) := by
  rw [cellAt h]
  simp [List.getD_eq_getElem?_getD, hj]
theorem At.behind {g : Nat} {l : List W32} {w w' : World} (h : At g l w) (hb : Below w.heap.size w w') : At g l w' := (hb.block g h.lt).trans h
theorem At.set {g : Nat} {l : List W32} {w : World} (h : At g l w) (j : Nat) (x : W32) : At g (l.set j x) (w.setCell ⟨g, j, none⟩ (wv x)) := by
  unfold At
  rw [heap_setCell_same _ _ _ _ _ _ h]
  simp [List.map_set]

/-- What lies at three blocks, in a world behind w: the words of the state, of the turns, the text. -/
def Sg (w : World) (gh gk gb : Nat) (ob : Obj) (l : List W32) (W : World) : Prop := Below w.heap.size w W ∧ At gh l W ∧ At gk Kw W ∧ W.heap[gb]? = some ob
theorem Sg.behind {w W W' : World} {gh gk gb : Nat} {ob : Obj} {l : List W32} (h : Sg w gh gk gb ob l W) (hb : Below W.heap.size W W') : Sg w gh gk gb ob l W' :=
  ⟨h.1.trans (hb.mono h.1.size), h.2.1.behind hb, h.2.2.1.behind hb, (hb.block gb (lt_of_blk h.2.2.2)).trans h.2.2.2⟩
theorem Sg.set {w W : World} {gh gk gb : Nat} {ob : Obj} {l : List W32} (h : Sg w gh gk gb ob l W) (hw : w.heap.size ≤ gh) (hk : gk ≠ gh) (hb : gb ≠ gh) (j : Nat) (x : W32) : Sg w gh gk gb ob (l.set j x) (W.setCell ⟨gh, j, none⟩ (wv x)) :=
  ⟨h.1.setCell (p := ⟨gh, j, none⟩) hw _, h.2.1.set j x, (heap_set_ne _ (fun e => hk e.symm)).trans h.2.2.1, (heap_set_ne _ (fun e => hb e.symm)).trans h.2.2.2⟩

theorem GW.row {w0 w : World} {g n c : Nat} {l : List W32} (h : GW w0 (.slice (some ⟨g, 0, none⟩) n c) l w) (j : Nat) (hj : j < l.length) : w.cell? ⟨g, j, none⟩ = some (wv (l.getD j 0)) := by
  obtain ⟨g', e, _, _, hc⟩ := GV.cell h j (by simpa using hj)
  obtain rfl : g = g' := by simpa using e
  rw [hc]
  simp [List.getD_eq_getElem?_getD, hj]
theorem GW.at {w0 w : World} {v : Value} {l : List W32} (h : GW w0 v l w) (hl : 0 < l.length) : ∃ g c, v = .slice (some ⟨g, 0, none⟩) l.length c ∧ w0.heap.size ≤ g ∧ g < w.heap.size := by
  obtain ⟨A, c, rfl⟩ := h.form
  obtain ⟨g, rfl, h1, h2, _⟩ := GV.cell h 0 (by simpa using hl)
  exact ⟨g, c, rfl, h1, h2⟩

theorem GW.cap {w0 w : World} {g n c : Nat} {l : List W32} (h : GW w0 (.slice (some ⟨g, 0, none⟩) n c) l w) : l.length ≤ c := by
  rcases h.2.2 with ⟨h', _⟩ | ⟨g', cap', cur, hv, _, _, hnc, _⟩
  · simp at h'
  · obtain ⟨rfl, hn, rfl⟩ : g = g' ∧ n = (l.map wv).length ∧ c = cap' := by simpa using hv
    simpa using hnc

/-- A row that is laid whole. -/
theorem GW.lit {w0 w : World} (h : Below w0.heap.size w0 w) (l : List W32) (C : Array Value) (hC : C.toList = l.map wv) (hl : l.length ≤ 1000) : GW w0 (.slice (some ⟨w.heap.size, 0, none⟩) l.length l.length) l (w.alloc (.cells C 116)) := by
  refine ⟨h.alloc h.size _, ?_⟩
  have := World.ownsRow_lit (base := w0.heap.size) (e := 116) (size := 1) w C l.length h.size (by unfold maxLen; omega) (by rw [← Array.length_toList, hC, List.length_map, Nat.mul_one])
  rw [hC] at this
  simpa using this

/-- A word of a row is written. -/
theorem GW.stored {w0 w : World} {g n c : Nat} {l : List W32} (h : GW w0 (.slice (some ⟨g, 0, none⟩) n c) l w) (hn : n = l.length) (hg : w0.heap.size ≤ g) (j : Nat) (x : W32) : GW w0 (.slice (some ⟨g, 0, none⟩) n c) (l.set j x) (w.setCell ⟨g, j, none⟩ (wv x)) := by
  subst hn
  refine ⟨h.1.setCell (p := ⟨g, j, none⟩) hg _, ?_⟩
  have h2 := h.2
  rw [List.length_map] at h2
  have := (h2.stored j (wv x)).1
  rw [← List.map_set] at this
  simpa using this

/-- An append of words that lie somewhere. -/
theorem gw_app {w0 w1 : World} {v : Value} {l : List W32} (h : GW w0 v l w1) (hlen : l.length ≤ 1000000)
    {ops : Array Oper} {rest : List Oper} {o : Oper} {a : Act} {Q : Exit → Act → World → Prop} (m : List W32) (ad : Addr) (hm : 0 < m.length ∧ m.length ≤ 1000000)
    (hcell : ∀ j, j < m.length → w1.cell? (ad.add j) = some (wv (m.getD j 0)))
    (s x : Operand) (hgd : o.guard = none) (ho : o.op = .call { callee := .builtin .append, args := #[s, x], argTypes := #[156, 156] }) (hs : a.eval s = v) (n c : Nat) (hn : n = m.length) (hx : a.eval x = .slice (some ad) n c)
    (k : ∀ g cap w', GW w0 (.slice (some ⟨g, 0, none⟩) (l.length + m.length) cap) (l ++ m) w' → wpList Tryz.prog ops Q rest (a.put o.dst (.slice (some ⟨g, 0, none⟩) (l.length + m.length) cap)) w') :
    wpList Tryz.prog ops Q (o :: rest) a w1 := by
  subst hn
  obtain ⟨i, hi, hz0, hz1, hz2⟩ := info_parts info40'
  have hsz := h.1.size
  refine wpList_append_lies _ hgd s x 156 ho w0.heap.size 116 i (.int .u32 0) 1 4 Tryz.underlying156 hi hz0 hz1 hz2 rfl (by decide) v (l.map wv).length (l.map wv) hs h.2 ad m.length c (m.map wv) hx (by simp) ?_ wv_one hm.1 (by rw [List.length_map]; unfold maxLen; omega) (by rw [List.length_map]; omega) hsz _ rfl ?_
  · intro j u hu
    have hj : j < m.length := by
      have := (List.getElem?_eq_some_iff.1 hu).1
      simpa using this
    rw [hcell j hj]
    rw [← hu]
    simp [List.getD_eq_getElem?_getD, hj]
  · intro g cap w' hown hgr _ _
    rw [List.length_map] at hown ⊢
    refine k g cap w' ⟨Below.grown h.1 hgr hsz fun j hj => (h.2.lt j hj).1, ?_⟩
    simpa using hown

theorem rrot_q (x : W32) (n : Nat) (z : Int) (hz : z = (n : Int)) (hn : 0 < n) (hn2 : n < 32) (w : World) (m : Nat) : Calls Tryz.prog 136 #[wv x, .int .u64 z] (w.drewN m) fun e w'' => e = .returned (wv (rotP x n)) ∧ ∃ k, w'' = w.drewN k := by
  subst hz
  exact (rrot_any x n _ hn hn2).mono fun e w' ⟨h1, h2⟩ => ⟨h1, m, h2.symm⟩

/-- One of the turns, as a row. -/
theorem turn_row (s : St) (k w : W32) :
    let t := s.h + big1 s.e + ((s.e &&& s.f) ||| (~~~s.e &&& s.g)) + k + w
    let u := big0 s.a + ((s.a &&& s.b) ||| (s.a &&& s.c) ||| (s.b &&& s.c))
    (([t + u] ++ s.l.take 7).set 4 (([t + u] ++ s.l.take 7).getD 4 0 + t)) = (turnP s (k + w)).l := by
  simp only [choice_or, major_or, turnP, St.l, List.take_succ_cons, List.take_zero, List.cons_append, List.nil_append, List.set_cons_succ, List.set_cons_zero, List.getD_cons_succ, List.getD_cons_zero]
  rw [BitVec.add_assoc _ k w]
end Go.Proofs.YtnaoandleelbkaaGreatDoor

namespace Go.Proofs.YtnaoandleelbkaaGreatDoor
open Go Go.RowKit
set_option maxRecDepth 100000

/-- A row of bytes of the call's own, its end marked or not. -/
def RB (w0 : World) (v : Value) (l : List UInt8) (W : World) : Prop := Below w0.heap.size w0 W ∧ ∃ g cap, v = .slice (some ⟨g, 0, none⟩) l.length cap ∧ w0.heap.size ≤ g ∧ g < W.heap.size ∧ l.length ≤ cap ∧ cap ≤ maxLen ∧
  (∀ j, j < l.length → W.cell? ⟨g, j, none⟩ = some (bv (l.getD j 0))) ∧ ∀ j, j < cap → (W.cell? ⟨g, j, none⟩).isSome = true ∧ W.frozen? ⟨g, j, none⟩ = false

theorem RB.below {w0 w : World} {v : Value} {l : List UInt8} (h : RB w0 v l w) : Below w0.heap.size w0 w := h.1
theorem RB.form {w0 w : World} {v : Value} {l : List UInt8} (h : RB w0 v l w) : ∃ g c, v = .slice (some ⟨g, 0, none⟩) l.length c ∧ w0.heap.size ≤ g ∧ g < w.heap.size ∧ l.length ≤ c ∧ ∀ j, j < l.length → w.cell? ⟨g, j, none⟩ = some (bv (l.getD j 0)) := by
  obtain ⟨_, g, c, rfl, h1, h2, h3, _, h4, _⟩ := h
  exact ⟨g, c, rfl, h1, h2, h3, h4⟩

/-- '[]byte(s)'. -/
theorem rb_bytes (w0 w : World) (h : Below w0.heap.size w0 w) (s : List UInt8) (hs : s.length ≤ 1000000) : ∃ v W, (convert 9 41 (.string (str s))).run Tryz.prog w = .ok v W ∧ RB w0 v s W := by
  have hsz : (str s).size = s.length := by simp [ByteArray.size]
  have hr := run_bytes_of_string (P := Tryz.prog) w 9 41 5 (str s) Tryz.underlying9 Tryz.underlying41 Tryz.underlying5
  rw [hsz] at hr
  obtain ⟨c, hc⟩ : ∃ c, c = grownCap w s.length 0 5 := ⟨_, rfl⟩
  have hcl : s.length ≤ c := by rw [hc]; exact grownCap_ge _ _ _ _
  have hcm : c ≤ maxLen := by rw [hc]; exact grownCap_le_maxLen _ _ _ _ (by unfold maxLen; omega)
  rw [← hc] at hr
  have hbs : (bytesRow (str s) c).size = c := by
    unfold bytesRow
    simp only [Array.size_append, Array.size_map, Array.size_replicate]
    have : (str s).data.size = s.length := by simp
    rw [this, hsz]; omega
  have hcell : ∀ j, (w.drew.alloc (.cells (bytesRow (str s) c) 5 ((bytesRow (str s) c).size, (bytesRow (str s) c).size + 1))).cell? ⟨w.heap.size, j, none⟩ = (bytesRow (str s) c)[j]? := fun j => by
    have e := World.cell?_alloc_mark w.drew (bytesRow (str s) c) 5 ((bytesRow (str s) c).size, (bytesRow (str s) c).size + 1) j
    have e2 : w.drew.heap.size = w.heap.size := rfl
    rwa [e2] at e
  refine ⟨_, _, hr, (h.drew).alloc h.size _, w.heap.size, c, rfl, h.size, by rw [World.size_alloc]; exact Nat.lt_succ_self _, hcl, hcm, fun j hj => ?_, fun j hj => ⟨?_, ?_⟩⟩
  · rw [hcell, bytesRow_at (str s) c j (by simpa using hj), getD_str s j hj]
    simp [bv]
  · rw [hcell, Array.getElem?_eq_getElem (by rw [hbs]; exact hj)]; rfl
  · have e := World.frozen?_alloc_mark w.drew (bytesRow (str s) c) 5 (bytesRow (str s) c).size ((bytesRow (str s) c).size + 1) j
    have e2 : w.drew.heap.size = w.heap.size := rfl
    rw [e2] at e
    rw [e, decide_eq_false (show ¬ (bytesRow (str s) c).size ≤ j by omega)]; rfl

/-- A byte is appended. -/
theorem rb_append {w0 w1 : World} {v : Value} {l : List UInt8} (h : RB w0 v l w1) (hlen : l.length ≤ 1000000)
    {ops : Array Oper} {rest : List Oper} {o : Oper} {a : Act} {Q : Exit → Act → World → Prop} (b : UInt8) (z : Int) (hz : z = (b.toNat : Int))
    (s x : Operand) (hgd : o.guard = none) (ho : o.op = .call { callee := .builtin .append, args := #[s, x], argTypes := #[41, 41] }) (hs : a.eval s = v) (hx : a.eval x = .slice (some ⟨w1.heap.size, 0, none⟩) 1 1)
    (k : ∀ v' w', RB w0 v' (l ++ [b]) w' → wpList Tryz.prog ops Q rest (a.put o.dst v') w') :
    wpList Tryz.prog ops Q (o :: rest) a (w1.alloc (.cells #[.int .u8 z] 5)) := by
  subst hz
  have hl1 : (l ++ [b]).length = l.length + 1 := by simp
  obtain ⟨i, hi, hz0, hz1, hz2⟩ := info_parts info5'
  obtain ⟨hb, g, cap, hv, hg0, hg, hlc, hcm, hc, hf⟩ := h
  obtain ⟨wA, hwA⟩ : ∃ wA, wA = w1.alloc (.cells #[.int .u8 (b.toNat : Int)] 5) := ⟨_, rfl⟩
  have hold : ∀ k, k < w1.heap.size → wA.heap[k]? = w1.heap[k]? := fun k hk => by rw [hwA]; exact Lib.alloc_old _ _ _ hk
  have hbA : Below w0.heap.size w0 wA := by rw [hwA]; exact hb.alloc hb.size _
  have hzA : wA.heap.size = w1.heap.size + 1 := by rw [hwA]; simp
  have hcA : ∀ j, wA.cell? ⟨g, j, none⟩ = w1.cell? ⟨g, j, none⟩ := fun j => World.cell?_of_block (a := ⟨g, j, none⟩) (hold g hg)
  have hfA : ∀ j, wA.frozen? ⟨g, j, none⟩ = w1.frozen? ⟨g, j, none⟩ := fun j => World.frozen?_of_block (a := ⟨g, j, none⟩) (hold g hg)
  have hsrc : Src Tryz.prog 1 41 (.slice (some ⟨w1.heap.size, 0, none⟩) 1 1) 1 [.int .u8 (b.toNat : Int)] wA := by
    refine Src.ofSlice wA Tryz.underlying41 ⟨w1.heap.size, 0, none⟩ 1 1 [.int .u8 (b.toNat : Int)] rfl ?_ (by simp [Value.oneCell'])
    rw [hwA]
    exact World.news_of_block (cs := #[.int .u8 (b.toNat : Int)]) (heap_alloc_new w1 _)
  rw [← hwA]
  have hrun : ∃ v' w', (Builtin.append_ #[41, 41] o.type #[v, .slice (some ⟨w1.heap.size, 0, none⟩) 1 1]).run Tryz.prog wA = .ok v' w' ∧ RB w0 v' (l ++ [b]) w' := by
    subst hv
    by_cases hroom : l.length + 1 ≤ cap
    · have hr := run_append_room_src (P := Tryz.prog) wA 41 41 o.type 5 i Tryz.underlying41 hi g 0 l.length cap (.slice (some ⟨w1.heap.size, 0, none⟩) 1 1) 1 [.int .u8 (b.toNat : Int)] (by rw [hz1]; exact hsrc) hroom
        (fun j hj => by
          have : j = 0 := by simpa using hj
          subst this
          rw [hz1, Nat.mul_one, Nat.add_zero, Nat.zero_add, hcA]; exact (hf _ (by omega)).1)
        (fun j hj => by
          have : j = 0 := by simpa using hj
          subst this
          rw [hz1, Nat.mul_one, Nat.add_zero, Nat.zero_add, hfA]; exact (hf _ (by omega)).2)
      rw [hz1, Nat.mul_one, Nat.zero_add] at hr
      have e1 : wA.setCells g l.length [.int .u8 (b.toNat : Int)] = wA.setCell ⟨g, l.length, none⟩ (.int .u8 (b.toNat : Int)) := rfl
      rw [e1] at hr
      have hsame := World.cell?_setCell_same' wA ⟨g, l.length, none⟩ (.int .u8 (b.toNat : Int)) (by rw [hcA]; exact (hf _ (by omega)).1)
      have hoth : ∀ j, j ≠ l.length → (wA.setCell ⟨g, l.length, none⟩ (.int .u8 (b.toNat : Int))).cell? ⟨g, j, none⟩ = wA.cell? ⟨g, j, none⟩ := fun j hj => World.cell?_setCell_other _ _ _ _ (by intro he; injection he; omega)
      refine ⟨_, _, hr, hbA.setCell (p := ⟨g, l.length, none⟩) hg0 _, g, cap, by rw [hl1], hg0, by simp [World.setCell]; omega, by rw [hl1]; exact hroom, hcm, fun j hj => ?_, fun j hj => ⟨?_, ?_⟩⟩
      · rw [hl1] at hj
        by_cases e : j = l.length
        · subst e
          rw [hsame]
          simp [bv]
        · rw [hoth j e, hcA, hc j (by omega)]
          simp only [List.getD_eq_getElem?_getD]
          rw [List.getElem?_append_left (by omega)]
      · by_cases e : j = l.length
        · subst e; rw [hsame]; rfl
        · rw [hoth j e, hcA]; exact (hf j hj).1
      · rw [World.frozen?_setCell, hfA]; exact (hf j hj).2
    · have holds : (Builtin.firstCells i.size l.length (.slice (some ⟨g, 0, none⟩) l.length cap)).run Tryz.prog wA.drew = .ok (l.map bv).toArray wA.drew := by
        refine run_firstCells_some wA.drew i.size l.length ⟨g, 0, none⟩ l.length cap (l.map bv) (by rw [hz1]; simp) (fun j u hu => ?_)
        have hj : j < l.length := by
          have := (List.getElem?_eq_some_iff.1 hu).1
          simpa using this
        rw [Addr.add_lit]
        show wA.cell? ⟨g, 0 + j, none⟩ = some u
        rw [Nat.zero_add, hcA, hc j hj, ← hu]
        simp [List.getD_eq_getElem?_getD, hj]
      have hr := run_append_grow_src (P := Tryz.prog) wA 41 41 o.type 5 i (.int .u8 0) Tryz.underlying41 hi hz0 (some ⟨g, 0, none⟩) l.length cap (l.map bv) holds (.slice (some ⟨w1.heap.size, 0, none⟩) 1 1) 1 [.int .u8 (b.toNat : Int)] (by rw [hz1]; exact hsrc)
        (by omega) (by omega) (growslice_fits (by omega) (by rw [hz2]; omega))
      have hge := grownCap_ge wA (l.length + 1) cap 5
      have hcm2 := grownCap_le_maxLen wA (l.length + 1) cap 5 (by unfold maxLen; omega)
      have em : l.map bv ++ [.int .u8 (b.toNat : Int)] = (l ++ [b]).map bv := by simp [bv]
      rw [em] at hr
      obtain ⟨c2, hc2⟩ : ∃ c, c = grownCap wA (l.length + 1) cap 5 := ⟨_, rfl⟩
      rw [← hc2] at hr hge hcm2
      have hcell : ∀ j, (wA.drew.alloc (.cells (((l ++ [b]).map bv).toArray ++ Builtin.zeroCells (Value.int .u8 0).cells (c2 - (l.length + 1))) 5)).cell? ⟨wA.heap.size, j, none⟩ = (((l ++ [b]).map bv).toArray ++ Builtin.zeroCells (Value.int .u8 0).cells (c2 - (l.length + 1)))[j]? := fun j => World.cell?_alloc_new wA.drew _ _ j
      have hsz : (((l ++ [b]).map bv).toArray ++ Builtin.zeroCells (Value.int .u8 0).cells (c2 - (l.length + 1))).size = c2 := by
        rw [Array.size_append, size_zeroCells]
        simp [Value.cells]; omega
      refine ⟨_, _, hr, (hbA.drew).alloc hbA.size _, wA.heap.size, c2, by rw [hl1], hbA.size, by rw [World.size_alloc]; exact Nat.lt_succ_self _, by rw [hl1]; exact hge, hcm2, fun j hj => ?_, fun j hj => ⟨?_, ?_⟩⟩
      · rw [hcell, Array.getElem?_append_left (by simpa using hj)]
        simp only [List.getElem?_toArray, List.getElem?_map, List.getElem?_eq_getElem hj, List.getD_eq_getElem?_getD]
        rfl
      · rw [hcell, Array.getElem?_eq_getElem (by rw [hsz]; exact hj)]; rfl
      · exact World.frozen?_alloc_new wA.drew _ _ j
  obtain ⟨v', w', hr, hrb⟩ := hrun
  refine wpList_plain hgd fun K hK => ?_
  unfold Oper.wp execOp
  simp only [ho, resolve, invoke, builtin, Sem.run_bind, Sem.run_pure, Result.andThen_ok, List.map_toArray, List.map_cons, List.map_nil, hs, hx, hr]
  exact hK _ _ (k v' w' hrb)
end Go.Proofs.YtnaoandleelbkaaGreatDoor

namespace Go.Proofs.YtnaoandleelbkaaGreatDoor
open Go Go.RowKit
set_option maxRecDepth 100000

theorem gw_run2 {w0 w1 : World} {gw c0 : Nat} {l : List W32} (h : GW w0 (.slice (some ⟨gw, 0, none⟩) l.length c0) l w1) (hlen : l.length ≤ 1000000) (hpos : 0 < l.length) (x : W32) (y : Value) (hy : y = wv x) :
    ∃ v' w', (Builtin.append_ #[156, 156] 156 #[.slice (some ⟨gw, 0, none⟩) l.length c0, .slice (some ⟨w1.heap.size, 0, none⟩) 1 1]).run Tryz.prog (w1.alloc (.cells #[y] 116)) = .ok v' w' ∧ GW w0 v' (l ++ [x]) w' ∧ ∀ j, j < l.length → w'.cell? ⟨gw, j, none⟩ = some (wv (l.getD j 0)) := by
  subst hy
  obtain ⟨i, hi, hz0, hz1, hz2⟩ := info_parts info40'
  have hsz := h.1.size
  have hrow := h.row
  obtain ⟨wA, hwA⟩ : ∃ wA, wA = w1.alloc (.cells #[wv x] 116) := ⟨_, rfl⟩
  have hbA : Below w0.heap.size w0 wA := by rw [hwA]; exact h.1.alloc hsz _
  have hownA : wA.ownsRow w0.heap.size 116 1 (.slice (some ⟨gw, 0, none⟩) l.length c0) (l.map wv).length (l.map wv) := by rw [hwA]; exact h.2.alloc _
  have hnews : ∀ (j : Nat) (u : Value), [wv x][j]? = some u → wA.cell? ((⟨w1.heap.size, 0, none⟩ : Addr).add j) = some u := by
    rw [hwA]
    exact World.news_of_block (cs := #[wv x]) (heap_alloc_new w1 _)
  have hone : ∀ u ∈ [wv x], u.oneCell' = true := by simp [Value.oneCell']
  have hzA : wA.heap.size = w1.heap.size + 1 := by rw [hwA]; simp
  have hgl : gw < w1.heap.size := (h.2.lt gw rfl).2
  have hgw0 : w0.heap.size ≤ gw := (h.2.lt gw rfl).1
  have hcA : ∀ j, j < l.length → wA.cell? ⟨gw, j, none⟩ = some (wv (l.getD j 0)) := fun j hj => by
    rw [hwA]
    exact (World.cell?_of_block (a := ⟨gw, j, none⟩) (Lib.alloc_old _ _ _ hgl)).trans (hrow j hj)
  rw [List.length_map] at hownA
  rw [← hwA]
  have e1 : l.map wv ++ [wv x] = (l ++ [x]).map wv := by simp
  have el : (l ++ [x]).length = l.length + 1 := by simp
  rcases hownA.2 with ⟨h', _⟩ | ⟨g, cap, cur, hv, hbg, hg, hnc, hcm, hcs, htake⟩
  · simp at h'
  · obtain ⟨rfl, rfl⟩ : gw = g ∧ c0 = cap := by simpa using hv
    rw [Nat.mul_one] at hcs htake
    by_cases hroom : l.length + 1 ≤ c0
    · have hr := run_append_room (P := Tryz.prog) wA 156 156 116 i Tryz.underlying156 hi gw l.length c0 cur hg ⟨w1.heap.size, 0, none⟩ 1 1 [wv x] (by rw [hz1]; rfl) hnews hone hroom (by rw [hz1]; simp; omega)
      rw [hz1, Nat.mul_one, htake] at hr
      have hrow2 := setRow_heap wA gw cur ((l.map wv) ++ [wv x] ++ cur.toList.drop (l.length + [wv x].length)).toArray 116 (0, 0) hg
      refine ⟨_, _, hr, ⟨below_setRow hbA hgw0 _, ?_⟩, fun j hj => ?_⟩
      · rw [List.length_map, el]
        refine ⟨by simp, .inr ⟨gw, c0, _, rfl, hbg, hrow2, hroom, hcm, ?_, ?_⟩⟩
        · simp only [List.size_toArray, List.length_append, List.length_map, List.length_drop, Array.length_toList, List.length_cons, List.length_nil]
          omega
        · rw [e1, Nat.mul_one, ← el]
          have : ((l ++ [x]).map wv).length = (l ++ [x]).length := List.length_map _
          rw [← this]
          exact List.take_left
      · rw [cell_of_row _ _ _ _ _ _ hrow2]
        simp [List.getD_eq_getElem?_getD, List.getElem?_append_left, hj]
    · have holds : ∀ (j : Nat) (u : Value), (l.map wv)[j]? = some u → wA.cell? ((⟨gw, 0, none⟩ : Addr).add j) = some u := fun j u hu => by
        have hj : j < l.length := by
          have := (List.getElem?_eq_some_iff.1 hu).1
          simpa using this
        rw [Addr.add_lit]
        show wA.cell? ⟨gw, 0 + j, none⟩ = some u
        rw [Nat.zero_add, hcA j hj, ← hu]
        simp [List.getD_eq_getElem?_getD, hj]
      have hr := run_append_grow (P := Tryz.prog) wA 156 156 116 i (.int .u32 0) Tryz.underlying156 hi hz0 ⟨gw, 0, none⟩ l.length c0 (l.map wv) (by rw [hz1]; simp) holds ⟨w1.heap.size, 0, none⟩ 1 1 [wv x] (by rw [hz1]; rfl) hnews (by omega) (by omega) (growslice_fits (by omega) (by rw [hz2]; omega))
      have hge := grownCap_ge wA (l.length + 1) c0 116
      have hcm2 := grownCap_le_maxLen wA (l.length + 1) c0 116 (by unfold maxLen; omega)
      refine ⟨_, _, hr, ⟨(hbA.drew).alloc hbA.size _, ?_⟩, fun j hj => ?_⟩
      · rw [List.length_map, el]
        refine ⟨by simp, .inr ⟨wA.heap.size, _, _, rfl, hbA.size, heap_alloc_new wA.drew _, hge, hcm2, ?_, ?_⟩⟩
        · simp only [Array.size_append, List.size_toArray, size_zeroCells, List.length_map, List.length_cons, List.length_nil, Value.cells]
          simp
          omega
        · rw [Nat.mul_one, ← el, Array.toList_append, Array.toList_append]
          show List.take _ ((l.map wv ++ [wv x]) ++ _) = _
          rw [e1]
          have : ((l ++ [x]).map wv).length = (l ++ [x]).length := List.length_map _
          rw [← this]
          exact List.take_left
      · exact (World.cell?_of_block (a := ⟨gw, j, none⟩) (Lib.alloc_old wA.drew _ gw (by show gw < wA.heap.size; omega))).trans (hcA j hj)

/-- The words that a turn reads. -/
def TC (gv gk gw k : Nat) (t : St) (kw xw : W32) (W : World) : Prop :=
  W.cell? ⟨gv, 0, none⟩ = some (wv t.a) ∧ W.cell? ⟨gv, 1, none⟩ = some (wv t.b) ∧ W.cell? ⟨gv, 2, none⟩ = some (wv t.c) ∧ W.cell? ⟨gv, 3, none⟩ = some (wv t.d) ∧
  W.cell? ⟨gv, 4, none⟩ = some (wv t.e) ∧ W.cell? ⟨gv, 5, none⟩ = some (wv t.f) ∧ W.cell? ⟨gv, 6, none⟩ = some (wv t.g) ∧ W.cell? ⟨gv, 7, none⟩ = some (wv t.h) ∧
  W.cell? ⟨gk, k, none⟩ = some (wv kw) ∧ W.cell? ⟨gw, k, none⟩ = some (wv xw)
theorem TC.drewN {gv gk gw k : Nat} {t : St} {kw xw : W32} {W : World} (h : TC gv gk gw k t kw xw W) (n : Nat) : TC gv gk gw k t kw xw (W.drewN n) := h
end Go.Proofs.YtnaoandleelbkaaGreatDoor

namespace Go.Proofs.YtnaoandleelbkaaGreatDoor
open Go Go.RowKit
set_option maxRecDepth 100000

theorem gw_app8 {wt w1 : World} (hb : Below wt.heap.size wt w1) (s : St) (x : W32) (gv : Nat) (hg : gv < w1.heap.size) (hc : ∀ j, j < 8 → w1.cell? ⟨gv, j, none⟩ = some (wv (s.l.getD j 0)))
    {ops : Array Oper} {rest : List Oper} {o : Oper} {a : Act} {Q : Exit → Act → World → Prop}
    (ss xx : Operand) (hgd : o.guard = none) (ho : o.op = .call { callee := .builtin .append, args := #[ss, xx], argTypes := #[156, 156] }) (hs : a.eval ss = .slice (some ⟨w1.heap.size, 0, none⟩) 1 1) (c : Nat) (hx : a.eval xx = .slice (some ⟨gv, 0, none⟩) 7 c)
    (k : ∀ g cap w', GW wt (.slice (some ⟨g, 0, none⟩) 8 cap) ([x] ++ s.l.take 7) w' → w'.cell? ⟨g, 4, none⟩ = some (wv s.d) → w'.frozen? ⟨g, 4, none⟩ = false → wt.heap.size ≤ g → wpList Tryz.prog ops Q rest (a.put o.dst (.slice (some ⟨g, 0, none⟩) 8 cap)) w') :
    wpList Tryz.prog ops Q (o :: rest) a (w1.alloc (.cells #[wv x] 116)) := by
  have h := GW.lit hb [x] #[wv x] rfl (by simp)
  refine gw_app h (by simp) (s.l.take 7) ⟨gv, 0, none⟩ (by simp [St.l]) (fun j hj => ?_) ss xx hgd ho hs 7 c rfl hx fun g cap w' hg2 => ?_
  · have hj7 : j < 7 := by simpa [St.l] using hj
    rw [Addr.add_lit, Nat.zero_add]
    rw [World.cell?_of_block (a := ⟨gv, j, none⟩) (Lib.alloc_old w1 _ gv hg), hc j (by omega)]
    simp only [List.getD_eq_getElem?_getD]
    rw [List.getElem?_take_of_lt hj7]
  · have hg3 : GW wt (.slice (some ⟨g, 0, none⟩) 8 cap) ([x] ++ s.l.take 7) w' := hg2
    exact k g cap w' hg3 (hg3.row 4 (by show 4 < 8; decide)) (World.ownsRow.frozenAt (show w'.ownsRow wt.heap.size 116 1 (.slice (some ⟨g, 0, none⟩) 8 cap) 8 (([x] ++ s.l.take 7).map wv) from hg3.2) 4) (hg3.2.lt g rfl).1

theorem rrot_z (x : W32) (z : Int) (hz : z = (z.toNat : Int) ∧ 0 < z.toNat ∧ z.toNat < 32) (W : World) (m : Nat) : Calls Tryz.prog 136 #[wv x, .int .u64 z] (W.drewN m) fun e w'' => e = .returned (wv (rotP x z.toNat)) ∧ ∃ k, w'' = W.drewN k :=
  rrot_q x z.toNat z hz.1 hz.2.1 hz.2.2 W m
end Go.Proofs.YtnaoandleelbkaaGreatDoor
