/-
  For CmdTells: loads of whole boxes; two boxes of nothing and two rows of parameters, as region 4 makes them in whatever order; the boxes filled.
-/
import Derived.Test.YtbmjmiioobgbfaaGreatDoorQP
import Derived.Test.YtbmjmiioobgbfaaGreatDoorQMakesC
import Derived.Test.YtbmjmiioobgbfaaGreatDoorKWalk2
import Derived.Deep.RegionHeld3
import Derived.Deep.CutRange
namespace Go.Proofs.YtbmjmiioobgbfaaGreatDoor
open Go Go.RowKit Go.Shelf
set_option maxRecDepth 100000
set_option linter.unusedSimpArgs false
set_option linter.unusedVariables false

section
variable {P : Program} (w : World) {o : Oper} {a : Act}
theorem exec_load_rowQ {t : TypeId} {x : Operand} (ho : o.op = .load t x) {b : Nat} (hd : a.eval x = .pointer (some ⟨b, 0, none⟩)) {cs : Array Value} {ty : TypeId} {fr : Nat × Nat} (hc : w.heap[b]? = some (.cells cs ty fr)) {d : TypeDesc} (hu : P.underlying t = some d) (hn : (match d with | .struct _ | .array _ _ => true | _ => false) = true)
    (hi : (P.info? t).map (·.size) = some cs.size) : (execOp a.eval o).run P w = .ok (.value (.agg cs)) w := by
  unfold execOp
  simp [ho, hd, Instr.loadAt, Instr.sureAddr, run_loadVar_row w b ty t cs fr d hc hu hn hi]
end
theorem cmd_size {x y z : Value} : (Tryz.prog.info? 41).map (·.size) = some (#[x, y, z] : Array Value).size := by
  have h : (Tryz.prog.info? 41).map (·.size) = some 3 := by kernel_rfl
  rw [h]; rfl
theorem rcmd_size {x y z : Value} : (Tryz.prog.info? 61).map (·.size) = some (#[x, y, z] : Array Value).size := by
  have h : (Tryz.prog.info? 61).map (·.size) = some 3 := by kernel_rfl
  rw [h]; rfl

abbrev ZQ (W : World) (g : Nat) : Prop := W.heap[g]? = some (.cells zC 61 (0, 0))
/-- A row with cells lies in no box of nothing. -/
theorem pr_zero {W : World} {b : Nat} (h : ZQ W b) {g off n c : Nat} {ps : List PM} (hp : PR W (.slice (some ⟨g, off, none⟩) n c) ps) (h0 : 0 < ps.length) : g ≠ b := by
  rintro rfl
  obtain ⟨g', off', e, _, c0, c1⟩ := hp.at (k := 0) h0
  cases e
  rw [cellAt h] at c0 c1
  simp only [Nat.zero_mul, Nat.add_zero] at c0 c1
  match off, c0, c1 with
  | 0, c0, _ => cases c0
  | 1, _, c1 => cases c1
  | 2, c0, _ => cases c0
  | k + 3, c0, _ => simp at c0
theorem pr_far {W : World} {b : Nat} {x : Value} {i : Nat} {v : Value} {ps : List PM} (hp : PR W v ps) (hne : ∀ g off n c, v = .slice (some ⟨g, off, none⟩) n c → 0 < ps.length → g ≠ b) : PR (W.setCell ⟨b, i, none⟩ x) v ps := by
  obtain ⟨A', c', e, hh⟩ := hp
  refine ⟨A', c', e, fun h0 => ?_⟩
  obtain ⟨g, off, e2, hl, hc⟩ := hh h0
  subst e2
  have hn := hne g off _ _ e h0
  refine ⟨g, off, rfl, by simpa using hl, fun j hj => ⟨?_, ?_⟩⟩
  · rw [World.cell?_setCell_other _ _ _ _ (by intro e; injection e with e; exact hn e.symm)]; exact (hc j hj).1
  · rw [World.cell?_setCell_other _ _ _ _ (by intro e; injection e with e; exact hn e.symm)]; exact (hc j hj).2
/-- A box of nothing is filled: what rows there are stay. -/
theorem pr_fill {W : World} {b : Nat} (h : ZQ W b) {x y z v : Value} {ps : List PM} (hp : PR W v ps) : PR (((W.setCell ⟨b, 0, none⟩ x).setCell ⟨b, 1, none⟩ y).setCell ⟨b, 2, none⟩ z) v ps := by
  have hne : ∀ g off n c, v = .slice (some ⟨g, off, none⟩) n c → 0 < ps.length → g ≠ b := fun g off n c e h0 => by subst e; exact pr_zero h hp h0
  exact pr_far (pr_far (pr_far hp hne) hne) hne
theorem zq_fill {W : World} {b : Nat} (h : ZQ W b) (x y z : Value) : (((W.setCell ⟨b, 0, none⟩ x).setCell ⟨b, 1, none⟩ y).setCell ⟨b, 2, none⟩ z).heap[b]? = some (.cells #[x, y, z] 61 (0, 0)) := by
  simp [World.setCell, Array.getElem?_modify, h]
theorem blk_far {W : World} {b g : Nat} {o : Obj} (h : W.heap[g]? = some o) (hne : g ≠ b) (x y z : Value) : (((W.setCell ⟨b, 0, none⟩ x).setCell ⟨b, 1, none⟩ y).setCell ⟨b, 2, none⟩ z).heap[g]? = some o := by
  rw [Below.heap_setCell _ _ _ _ hne, Below.heap_setCell _ _ _ _ hne, Below.heap_setCell _ _ _ _ hne]; exact h
theorem below_fill {Y W : World} {b : Nat} (h : Below Y.heap.size Y W) (hb : Y.heap.size ≤ b) (x y z : Value) : Below Y.heap.size Y (((W.setCell ⟨b, 0, none⟩ x).setCell ⟨b, 1, none⟩ y).setCell ⟨b, 2, none⟩ z) :=
  ((h.setCell (p := ⟨b, 0, none⟩) hb _).setCell (p := ⟨b, 1, none⟩) hb _).setCell (p := ⟨b, 2, none⟩) hb _

theorem blk_setQ {w : World} {b : Nat} {cs : Array Value} {t : TypeId} {fr : Nat × Nat} (h : w.heap[b]? = some (.cells cs t fr)) (i : Nat) (x : Value) : (w.setCell ⟨b, i, none⟩ x).heap[b]? = some (.cells (cs.setIfInBounds i x) t fr) := by
  simp [World.setCell, Array.getElem?_modify, h]

/-- Behind Y: these rows, these boxes of nothing, all apart. -/
structure Nd (Y W : World) (rows : List (Value × List PM)) (zs : List Nat) : Prop where
  bl : Below Y.heap.size Y W
  row : ∀ p ∈ rows, PR W p.1 p.2
  zq : ∀ g ∈ zs, ZQ W g ∧ Y.heap.size ≤ g
  nd : zs.Nodup
theorem Nd.start (Y : World) : Nd Y Y.drew [] [] := ⟨(Below.refl _ _).drew, by simp, by simp, by simp⟩
theorem Nd.step {Y W W' : World} {rows : List (Value × List PM)} {zs : List Nat} (h : Nd Y W rows zs) (hb : Below W.heap.size W W') : Nd Y W' rows zs :=
  ⟨h.bl.trans (hb.mono h.bl.size), fun p hp => (h.row p hp).step hb, fun g hg => ⟨blk_below (h.zq g hg).1 hb, (h.zq g hg).2⟩, h.nd⟩
theorem Nd.add {Y W : World} {rows : List (Value × List PM)} {zs : List Nat} (h : Nd Y W rows zs) {v : Value} {ps : List PM} (hp : PR W v ps) : Nd Y W ((v, ps) :: rows) zs :=
  ⟨h.bl, fun p hm => by
    rcases List.mem_cons.1 hm with rfl | hm
    · exact hp
    · exact h.row p hm, h.zq, h.nd⟩
theorem Nd.alloc {Y W : World} {rows : List (Value × List PM)} {zs : List Nat} (h : Nd Y W rows zs) : Nd Y (W.alloc (.cells zC 61)) rows (W.heap.size :: zs) := by
  have h' := h.step (below_alloc W (.cells zC 61))
  refine ⟨h'.bl, h'.row, fun g hg => ?_, List.nodup_cons.2 ⟨fun hm => ?_, h.nd⟩⟩
  · rcases List.mem_cons.1 hg with rfl | hg
    · exact ⟨heap_alloc_new _ _, h.bl.size⟩
    · exact h'.zq g hg
  · have := lt_of_blk (h.zq _ hm).1
    omega
/-- Both boxes are filled. -/
theorem Nd.fill {Y W : World} {r1 r2 : Value} {p1 p2 : List PM} {zs : List Nat} (h : Nd Y W [(r2, p2), (r1, p1)] zs) {g1 g2 : Nat} (m1 : g1 ∈ zs) (m2 : g2 ∈ zs) (hne : g1 ≠ g2) (x0 x1 x2 y0 y1 y2 : Value) :
    ∀ W', W' = (((((((W.setCell ⟨g1, 0, none⟩ x0).setCell ⟨g1, 1, none⟩ x1).setCell ⟨g1, 2, none⟩ x2).setCell ⟨g2, 0, none⟩ y0).setCell ⟨g2, 1, none⟩ y1).setCell ⟨g2, 2, none⟩ y2)) →
      Below Y.heap.size Y W' ∧ W'.heap[g1]? = some (.cells #[x0, x1, x2] 61 (0, 0)) ∧ W'.heap[g2]? = some (.cells #[y0, y1, y2] 61 (0, 0)) ∧ PR W' r1 p1 ∧ PR W' r2 p2 := by
  rintro W' rfl
  have hz1 := (h.zq g1 m1).1
  have hz2 := (h.zq g2 m2).1
  have q1 := (h.zq g1 m1).2
  have q2 := (h.zq g2 m2).2
  have hz2' : ZQ (((W.setCell ⟨g1, 0, none⟩ x0).setCell ⟨g1, 1, none⟩ x1).setCell ⟨g1, 2, none⟩ x2) g2 := blk_far hz2 (fun e => hne e.symm) _ _ _
  exact ⟨below_fill (below_fill h.bl q1 _ _ _) q2 _ _ _, blk_far (zq_fill hz1 _ _ _) hne _ _ _, zq_fill hz2' _ _ _, pr_fill hz2' (pr_fill hz1 (h.row (r1, p1) (by simp))), pr_fill hz2' (pr_fill hz1 (h.row (r2, p2) (by simp)))⟩
theorem KB.more {w W : World} {L : List (Nat × Obj)} {R : List (Value × List PM)} (h : KB w L R W) {g : Nat} {o : Obj} (hg : W.heap[g]? = some o) : KB w ((g, o) :: L) R W :=
  ⟨h.bl, h.lw, fun p hm => by
    rcases List.mem_cons.1 hm with rfl | hm
    · exact hg
    · exact h.blk p hm, h.row⟩
theorem sameK_refl (c : Cm) : sameK c c = true := (sameK_iff c c).2 rfl
theorem showK_len (c : Cm) : (showK c).1.length ≤ 510 := by
  rcases show_cases c with ⟨_, h, _, hl⟩ | ⟨n, _, h⟩
  · rw [h]; exact hl
  · rw [h]; simp
/-- The first cell of each parameter of a row of one's own, whatever lies there. -/
def Wr (W : World) (m : Nat) (A : Option Addr) (B : Nat) : Prop := 0 < m → ∃ g cur, A = some ⟨g, 0, none⟩ ∧ B ≤ g ∧ W.heap[g]? = some (.cells cur 38 (0, 0)) ∧ m * 2 ≤ cur.size
theorem Wr.of_po {W : World} {B n c : Nat} {A : Option Addr} {ps : List PM} (h : PO 38 B W (.slice A n c) ps) : Wr W ps.length A B := fun h0 => by
  have hl := h.1
  rcases h.2 with ⟨_, e⟩ | ⟨g, cap, cur, e1, hb, hg, h1, h2, h3, h4⟩
  · omega
  · cases e1
    exact ⟨g, cur, rfl, hb, hg, by omega⟩
theorem Wr.below {W W' : World} {m B : Nat} {A : Option Addr} (h : Wr W m A B) (hb : Below W.heap.size W W') : Wr W' m A B := fun h0 => by
  obtain ⟨g, cur, e, hB, hg, hs⟩ := h h0
  exact ⟨g, cur, e, hB, blk_below hg hb, hs⟩
end Go.Proofs.YtbmjmiioobgbfaaGreatDoor
