/-
  On the way to the reference's Sum: rows of words, the blocks of a text that is put together, what a round of its loops does.
-/
import Derived.Test.YtoinicmhkfomjaaGreatDoorZRSumA
namespace Go.Proofs.YtoinicmhkfomjaaGreatDoor
open Go Go.RowKit
set_option maxRecDepth 100000

theorem blocksN_pre (h : St) (a r : List UInt8) : ∀ n, 64 * n ≤ a.length → blocksN h (a ++ r) n = blocksN h a n
  | 0, _ => rfl
  | n + 1, hn => by
    rw [blocksN, blocksN, blocksN_pre h a r n (by omega), List.drop_append_of_le_length (by omega), List.take_append_of_le_length (by rw [List.length_drop]; omega)]

theorem blocksN_append (h : St) (a r : List UInt8) (q : Nat) (ha : a.length = 64 * q) : ∀ m, blocksN h (a ++ r) (q + m) = blocksN (blocksN h a q) r m
  | 0 => by rw [Nat.add_zero, blocksN_pre h a r q (by omega)]; rfl
  | m + 1 => by
    rw [← Nat.add_assoc, blocksN, blocksN, blocksN_append h a r q ha m, List.drop_append]
    rw [show 64 * (q + m) - a.length = 64 * m by omega, List.drop_of_length_le (by omega), List.nil_append]

theorem sumP_whole (s : List UInt8) : sumP s = (blocksN H0 (s ++ endP s.length) ((s ++ endP s.length).length / 64)).l.flatMap wordB := by
  have he := (endP_length s.length).1
  obtain ⟨q, hq⟩ : ∃ q, q = s.length / 64 := ⟨_, rfl⟩
  have ha : (s.take (64 * q)).length = 64 * q := by rw [List.length_take]; omega
  have e : s ++ endP s.length = s.take (64 * q) ++ (s.drop (64 * q) ++ endP s.length) := by rw [← List.append_assoc, List.take_append_drop]
  have hn : (s ++ endP s.length).length / 64 = q + (s.drop (64 * q) ++ endP s.length).length / 64 := by
    simp only [List.length_append, List.length_drop]; omega
  rw [hn, e, blocksN_append H0 _ _ q ha]
  show (blocksN (blocksN H0 (s.take (64 * (s.length / 64))) (s.length / 64)) (s.drop (64 * (s.length / 64)) ++ endP s.length) ((s.drop (64 * (s.length / 64)) ++ endP s.length).length / 64)).l.flatMap wordB = _
  rw [← hq]

theorem h0L_eq : h0L = H0.l.map wv := by
  have e : firstZ = H0.l.map n32 := by decide +kernel
  rw [h0L, e, List.map_map]; rfl
theorem k0L_eq : k0L = Kw.map wv := by
  have e : roundZ = Kw.map n32 := by decide +kernel
  rw [k0L, e, List.map_map]; rfl

/-- A row of words that lies at a block. -/
def At (g : Nat) (l : List W32) (w : World) : Prop := w.heap[g]? = some (.cells (l.map wv).toArray 104 (0, 0))
theorem At.lt {g : Nat} {l : List W32} {w : World} (h : At g l w) : g < w.heap.size := lt_of_blk h
theorem At.cell {g : Nat} {l : List W32} {w : World} (h : At g l w) {j : Nat} (hj : j < l.length) : w.cell? ⟨g, j, none⟩ = some (wv (l.getD j 0)) := by
  rw [cellAt h]
  simp [List.getD_eq_getElem?_getD, hj]
theorem At.behind {g : Nat} {l : List W32} {w w' : World} (h : At g l w) (hb : Below w.heap.size w w') : At g l w' := (hb.block g h.lt).trans h
theorem At.set {g : Nat} {l : List W32} {w : World} (h : At g l w) (j : Nat) (x : W32) : At g (l.set j x) (w.setCell ⟨g, j, none⟩ (wv x)) := by
  unfold At
  rw [heap_setCell_same _ _ _ _ _ _ h]
  simp [List.map_set]

/-- What lies at three blocks, in a world behind w: the words of the state, of the turns, the text. -/
def Sg (w : World) (gh gk gb : Nat) (ob : Obj) (l : List W32) (W : World) : Prop := Below w.heap.size w W ∧ At gh l W ∧ At gk Kw W ∧ W.heap[gb]? = some ob
theorem Sg.behind {w W W' : World} {gh gk gb : Nat} {ob : Obj} {l : List W32} (h : Sg w gh gk gb ob l W) (hb : Below W.heap.size W W') : Sg w gh gk gb ob l W' :=
  ⟨h.1.trans (hb.mono h.1.size), h.2.1.behind hb, h.2.2.1.behind hb, (hb.block gb (lt_of_blk h.2.2.2)).trans h.2.2.2⟩
theorem Sg.set {w W : World} {gh gk gb : Nat} {ob : Obj} {l : List W32} (h : Sg w gh gk gb ob l W) (hw : w.heap.size ≤ gh) (hk : gk ≠ gh) (hb : gb ≠ gh) (j : Nat) (x : W32) : Sg w gh gk gb ob (l.set j x) (W.setCell ⟨gh, j, none⟩ (wv x)) :=
  ⟨h.1.setCell (p := ⟨gh, j, none⟩) hw _, h.2.1.set j x, (heap_set_ne _ (fun e => hk e.symm)).trans h.2.2.1, (heap_set_ne _ (fun e => hb e.symm)).trans h.2.2.2⟩

theorem GW.row {w0 w : World} {g n c : Nat} {l : List W32} (h : GW w0 (.slice (some ⟨g, 0, none⟩) n c) l w) (j : Nat) (hj : j < l.length) : w.cell? ⟨g, j, none⟩ = some (wv (l.getD j 0)) := by
  obtain ⟨g', e, _, _, hc⟩ := GV.cell h j (by simpa using hj)
  obtain rfl : g = g' := by simpa using e
  rw [hc]
  simp [List.getD_eq_getElem?_getD, hj]
theorem GW.at {w0 w : World} {v : Value} {l : List W32} (h : GW w0 v l w) (hl : 0 < l.length) : ∃ g c, v = .slice (some ⟨g, 0, none⟩) l.length c ∧ w0.heap.size ≤ g ∧ g < w.heap.size := by
  obtain ⟨A, c, rfl⟩ := h.form
  obtain ⟨g, rfl, h1, h2, _⟩ := GV.cell h 0 (by simpa using hl)
  exact ⟨g, c, rfl, h1, h2⟩

theorem GW.cap {w0 w : World} {g n c : Nat} {l : List W32} (h : GW w0 (.slice (some ⟨g, 0, none⟩) n c) l w) : l.length ≤ c := by
  rcases h.2.2 with ⟨h', _⟩ | ⟨g', cap', cur, hv, _, _, hnc, _⟩
  · simp at h'
  · obtain ⟨rfl, hn, rfl⟩ : g = g' ∧ n = (l.map wv).length ∧ c = cap' := by simpa using hv
    simpa using hnc

/-- A row that is laid whole. -/
theorem GW.lit {w0 w : World} (h : Below w0.heap.size w0 w) (l : List W32) (C : Array Value) (hC : C.toList = l.map wv) (hl : l.length ≤ 1000) : GW w0 (.slice (some ⟨w.heap.size, 0, none⟩) l.length l.length) l (w.alloc (.cells C 104)) := by
  refine ⟨h.alloc h.size _, ?_⟩
  have := World.ownsRow_lit (base := w0.heap.size) (e := 104) (size := 1) w C l.length h.size (by unfold maxLen; omega) (by rw [← Array.length_toList, hC, List.length_map, Nat.mul_one])
  rw [hC] at this
  simpa using this

/-- A word of a row is written. -/
theorem GW.stored {w0 w : World} {g n c : Nat} {l : List W32} (h : GW w0 (.slice (some ⟨g, 0, none⟩) n c) l w) (hn : n = l.length) (hg : w0.heap.size ≤ g) (j : Nat) (x : W32) : GW w0 (.slice (some ⟨g, 0, none⟩) n c) (l.set j x) (w.setCell ⟨g, j, none⟩ (wv x)) := by
  subst hn
  refine ⟨h.1.setCell (p := ⟨g, j, none⟩) hg _, ?_⟩
  have h2 := h.2
  rw [List.length_map] at h2
  have := (h2.stored j (wv x)).1
  rw [← List.map_set] at this
  simpa using this

/-- An append of words that lie somewhere. -/
theorem gw_app {w0 w1 : World} {v : Value} {l : List W32} (h : GW w0 v l w1) (hlen : l.length ≤ 1000000)
    {ops : Array Oper} {rest : List Oper} {o : Oper} {a : Act} {Q : Exit → Act → World → Prop} (m : List W32) (ad : Addr) (hm : 0 < m.length ∧ m.length ≤ 1000000)
    (hcell : ∀ j, j < m.length → w1.cell? (ad.add j) = some (wv (m.getD j 0)))
    (s x : Operand) (hgd : o.guard = none) (ho : o.op = .call { callee := .builtin .append, args := #[s, x], argTypes := #[129, 129] }) (hs : a.eval s = v) (n c : Nat) (hn : n = m.length) (hx : a.eval x = .slice (some ad) n c)
    (k : ∀ g cap w', GW w0 (.slice (some ⟨g, 0, none⟩) (l.length + m.length) cap) (l ++ m) w' → wpList Tryz.prog ops Q rest (a.put o.dst (.slice (some ⟨g, 0, none⟩) (l.length + m.length) cap)) w') :
    wpList Tryz.prog ops Q (o :: rest) a w1 := by
  subst hn
  obtain ⟨i, hi, hz0, hz1, hz2⟩ := info_parts info40'
  have hsz := h.1.size
  refine wpList_append_lies _ hgd s x 129 ho w0.heap.size 104 i (.int .u32 0) 1 4 Tryz.underlying129 hi hz0 hz1 hz2 rfl (by decide) v (l.map wv).length (l.map wv) hs h.2 ad m.length c (m.map wv) hx (by simp) ?_ wv_one hm.1 (by rw [List.length_map]; unfold maxLen; omega) (by rw [List.length_map]; omega) hsz _ rfl ?_
  · intro j u hu
    have hj : j < m.length := by
      have := (List.getElem?_eq_some_iff.1 hu).1
      simpa using this
    rw [hcell j hj]
    rw [← hu]
    simp [List.getD_eq_getElem?_getD, hj]
  · intro g cap w' hown hgr _ _
    rw [List.length_map] at hown ⊢
    refine k g cap w' ⟨Below.grown h.1 hgr hsz fun j hj => (h.2.lt j hj).1, ?_⟩
    simpa using hown

theorem rrot_q (x : W32) (n : Nat) (z : Int) (hz : z = (n : Int)) (hn : 0 < n) (hn2 : n < 32) (w : World) (m : Nat) : Calls Tryz.prog 106 #[wv x, .int .u64 z] (w.drewN m) fun e w'' => e = .returned (wv (rotP x n)) ∧ ∃ k, w'' = w.drewN k := by
  subst hz
  exact (rrot_any x n _ hn hn2).mono fun e w' ⟨h1, h2⟩ => ⟨h1, m, h2.symm⟩

/-- One of the turns, as a row. -/
theorem turn_row (s : St) (k w : W32) :
    let t := s.h + big1 s.e + ((s.e &&& s.f) ||| (~~~s.e &&& s.g)) + k + w
    let u := big0 s.a + ((s.a &&& s.b) ||| (s.a &&& s.c) ||| (s.b &&& s.c))
    (([t + u] ++ s.l.take 7).set 4 (([t + u] ++ s.l.take 7).getD 4 0 + t)) = (turnP s (k + w)).l := by
  simp only [choice_or, major_or, turnP, St.l, List.take_succ_cons, List.take_zero, List.cons_append, List.nil_append, List.set_cons_succ, List.set_cons_zero, List.getD_cons_succ, List.getD_cons_zero]
  rw [BitVec.add_assoc _ k w]
end Go.Proofs.YtoinicmhkfomjaaGreatDoor
