/-
  The contract of package cmd's read, where no parameters are read.
  The contract of package cmd's read, where parameters are read.
-/
import Derived.BigRegion
import Derived.Test.YtbmjmiioobgbfaaGreatDoorKRow
import Derived.Test.YtbmjmiioobgbfaaGreatDoorKIterM
namespace Go.Proofs.YtbmjmiioobgbfaaGreatDoor
open Go Go.RowKit Go.Shelf
set_option maxRecDepth 100000
set_option linter.unusedSimpArgs false
set_option linter.unusedVariables false

/-- What read leaves. -/
def RdPost (w : World) (line : List UInt8) (e : Ending) (w' : World) : Prop :=
  ∃ u, e = .returned (.tuple #[cmV (readK line).1 u, sv (readK line).2]) ∧ Below w.heap.size w w' ∧ PO 38 w.heap.size w' u (readK line).1.ps

theorem rd_world {w W : World} {n0 : Nat} {v0 v1 v2 r0 : Value} {C S : TypeId} (hc : W.heap[n0]? = some (.cells #[v0, v1, v2] C (0, 0))) (hr : W.heap[n0 + 1]? = some (.cells #[r0] S (0, 0))) (hb : Below n0 w W) (x0 x1 x2 y : Value) :
    ((((W.setCell ⟨n0, 0, none⟩ x0).setCell ⟨n0, 1, none⟩ x1).setCell ⟨n0, 2, none⟩ x2).setCell ⟨n0 + 1, 0, none⟩ y).heap[n0]? = some (.cells #[x0, x1, x2] C (0, 0)) ∧
    ((((W.setCell ⟨n0, 0, none⟩ x0).setCell ⟨n0, 1, none⟩ x1).setCell ⟨n0, 2, none⟩ x2).setCell ⟨n0 + 1, 0, none⟩ y).cell? ⟨n0 + 1, 0, none⟩ = some y ∧
    Below n0 w ((((W.setCell ⟨n0, 0, none⟩ x0).setCell ⟨n0, 1, none⟩ x1).setCell ⟨n0, 2, none⟩ x2).setCell ⟨n0 + 1, 0, none⟩ y) := by
  refine ⟨?_, ?_, ?_⟩
  · simp [World.setCell, Array.getElem?_modify, hc]
  · have h1 : ((((W.setCell ⟨n0, 0, none⟩ x0).setCell ⟨n0, 1, none⟩ x1).setCell ⟨n0, 2, none⟩ x2).setCell ⟨n0 + 1, 0, none⟩ y).heap[n0 + 1]? = some (.cells #[y] S (0, 0)) := by
      simp [World.setCell, Array.getElem?_modify, hr]
    rw [cellAt h1]; rfl
  · exact (((hb.setCell (p := ⟨n0, 0, none⟩) (Nat.le_refl _) _).setCell (p := ⟨n0, 1, none⟩) (Nat.le_refl _) _).setCell (p := ⟨n0, 2, none⟩) (Nat.le_refl _) _).setCell (p := ⟨n0 + 1, 0, none⟩) (Nat.le_succ _) _

/-- The two boxes of read. -/
structure RB2 (w : World) (a b c r : Value) (W : World) : Prop where
  bl : BK w W
  cc : W.heap[w.heap.size]? = some (.cells #[a, b, c] 41 (0, 0))
  rr : W.heap[w.heap.size + 1]? = some (.cells #[r] 9 (0, 0))
theorem RB2.step {w W W' : World} {a b c r : Value} (h : RB2 w a b c r W) (hb : Below W.heap.size W W') : RB2 w a b c r W' := ⟨h.bl.step hb, blk_below h.cc hb, blk_below h.rr hb⟩
theorem RB2.drew {w W : World} {a b c r : Value} (h : RB2 w a b c r W) : RB2 w a b c r W.drew := ⟨h.bl.drew, h.cc, h.rr⟩
theorem RB2.facts {w W : World} {a b c r : Value} (h : RB2 w a b c r W) :
    W.cell? ⟨w.heap.size, 0, none⟩ = some a ∧ W.cell? ⟨w.heap.size, 1, none⟩ = some b ∧ W.cell? ⟨w.heap.size, 2, none⟩ = some c ∧ W.cell? ⟨w.heap.size + 1, 0, none⟩ = some r ∧
    W.frozen? ⟨w.heap.size, 0, none⟩ = false ∧ W.frozen? ⟨w.heap.size, 1, none⟩ = false ∧ W.frozen? ⟨w.heap.size, 2, none⟩ = false ∧ W.frozen? ⟨w.heap.size + 1, 0, none⟩ = false :=
  ⟨by rw [cellAt h.cc]; rfl, by rw [cellAt h.cc]; rfl, by rw [cellAt h.cc]; rfl, by rw [cellAt h.rr]; rfl, freeAt h.cc 0, freeAt h.cc 1, freeAt h.cc 2, freeAt h.rr 0⟩
theorem RB2.put {w W : World} {a b c r : Value} (hL : LW w) (h : RB2 w a b c r W) (x : List UInt8) : RB2 w a b c (sv x) (W.setCell ⟨w.heap.size + 1, 0, none⟩ (sv x)) := by
  have hb := h.bl.below.setCell (p := ⟨w.heap.size + 1, 0, none⟩) (Nat.le_succ _) (sv x)
  refine ⟨⟨hb, hL.below hb⟩, ?_, ?_⟩
  · rw [heap_set_ne _ (by omega)]; exact h.cc
  · simp [World.setCell, Array.getElem?_modify, h.rr]
theorem rb2_start {w : World} (hL : LW w) : RB2 w (.int .u8 0) (sv []) (.slice none 0 0) (sv []) ((w.alloc (.cells #[.int .u8 0, sv [], .slice none 0 0] 41)).alloc (.cells #[sv []] 9)) := by
  refine ⟨((BK.start hL).alloc _).alloc _, ?_, ?_⟩
  · exact (Lib.alloc_old _ _ _ (by simp)).trans (heap_alloc_new w _)
  · have := heap_alloc_new (w.alloc (.cells #[.int .u8 0, sv [], .slice none 0 0] 41)) (.cells #[sv []] 9)
    rw [World.size_alloc] at this
    exact this
theorem load_text {W : World} {g : Nat} {s : List UInt8} (h : W.cell? ⟨g, 0, none⟩ = some (sv s)) : (loadVar 9 ⟨g, 0, none⟩).run Tryz.prog W = .ok (sv s) W := by
  simp [go_sem, h]
/-- read's end. -/
theorem rd_end {w W : World} {line : List UInt8} {a b c r : Value} {tmps : Array Value} (h : RB2 w a b c r W) {v : Nat} {x y : List UInt8} {ps : List PM} {u : Value}
    (hk : readK line = (⟨v, x, ps⟩, y)) (hp : tmps.getD 2 undef = .pointer (some ⟨w.heap.size, 0, none⟩)) (hq : tmps.getD 3 undef = .pointer (some ⟨w.heap.size + 1, 0, none⟩))
    (hu : PO 38 w.heap.size ((((W.setCell ⟨w.heap.size, 0, none⟩ (.int .u8 (v : Int))).setCell ⟨w.heap.size, 1, none⟩ (sv x)).setCell ⟨w.heap.size, 2, none⟩ u).setCell ⟨w.heap.size + 1, 0, none⟩ (sv y)) u ps) :
    bodyPost Tryz.prog Tryz.f52 (RdPost w line) .ret { tmps := tmps, defers := [] } ((((W.setCell ⟨w.heap.size, 0, none⟩ (.int .u8 (v : Int))).setCell ⟨w.heap.size, 1, none⟩ (sv x)).setCell ⟨w.heap.size, 2, none⟩ u).setCell ⟨w.heap.size + 1, 0, none⟩ (sv y)) := by
  obtain ⟨h1, h2, h3⟩ := rd_world h.cc h.rr h.bl.below (.int .u8 (v : Int)) (sv x) u (sv y)
  refine bodyPost_ret (v := .tuple #[cmV ⟨v, x, ps⟩ u, sv y]) (results_row_cell (p := 2) (q := 3) (fr := (0, 0)) Tryz.results52 _ _ w.heap.size (w.heap.size + 1) 41 _ _ _ hp h1 Tryz.underlying41 rfl (by kernel_rfl) hq (load_text h2)) rfl ⟨u, ?_, h3, ?_⟩
  · rw [hk]
  · rw [hk]; exact hu

set_option maxHeartbeats 4000000 in
theorem read_ehlo (line : List UInt8) (w : World) (hs : line.length ≤ 100000) (hL : LW w) (h1 : (cutH line).1 = 1) : Calls Tryz.prog 52 #[sv line] w (RdPost w line) := by
  obtain ⟨r, hr⟩ : ∃ r, r = (cutH line).2 := ⟨_, rfl⟩
  have hc : cutH line = (1, r) := by rw [hr, ← h1]
  have HC := Lib.hid hc
  have HK := Lib.hid (show readK line = (⟨1, r, []⟩, []) by unfold readK; rw [hc]; rfl)
  have HL := Lib.hid hL
  have H0 := Lib.hid (rb2_start hL)
  have hrl : r.length ≤ 100000 := by
    rw [hr]
    rcases cutH_cases line with ⟨v, _, _, _, h2⟩ | ⟨_, h2⟩
    · rw [h2, List.length_drop]; omega
    · rw [h2]; exact hs
  clear hr h1 hc hL
  go_enter Tryz.func52, Tryz.ntmps52
  go_wp2_with fail
  refine (cutHead_any line _ (by omega) H0.out.bl.lw).mono ?_
  rintro e w1 ⟨rfl, hb1⟩
  rw [HC.out]
  have H1 := Lib.hid (H0.out.step hb1)
  clear hb1
  obtain ⟨c0, c1, c2, d0, f0, f1, f2, g0⟩ := H1.out.facts
  have H2 := Lib.hid (H1.out.put HL.out r)
  go_wp2_with fail
  clear c0 c1 c2 d0 f0 f1 f2 g0
  refine (clone_any (str r) _ (by simp [ByteArray.size]; omega)).mono ?_
  rintro e w2 ⟨rfl, hb2⟩
  have H3 := Lib.hid (H2.out.step hb2)
  clear hb2
  obtain ⟨c0, c1, c2, d0, f0, f1, f2, g0⟩ := H3.out.facts
  go_wp2_with fail
  exact rd_end H3.out HK.out rfl rfl (PO.nil _ _ _)

set_option maxHeartbeats 4000000 in
theorem read_bare (line : List UInt8) (w : World) (hs : line.length ≤ 100000) (hL : LW w) (h1 : (cutH line).1 ≠ 1) (hp : pathV (cutH line).1 = false) : Calls Tryz.prog 52 #[sv line] w (RdPost w line) := by
  obtain ⟨r, hr⟩ : ∃ r, r = (cutH line).2 := ⟨_, rfl⟩
  obtain ⟨v, hv⟩ : ∃ v, v = (cutH line).1 := ⟨_, rfl⟩
  rw [← hv] at h1 hp
  have hc : cutH line = (v, r) := by rw [hr, hv]
  have HC := Lib.hid hc
  have HP := Lib.hid hp
  have HK := Lib.hid (show readK line = (⟨v, [], []⟩, r) by unfold readK; rw [hc]; dsimp only; rw [if_neg h1, hp]; rfl)
  have HL := Lib.hid hL
  have H0 := Lib.hid (rb2_start hL)
  have e1 : ((v : Int) == 1) = false := by rw [beq_eq_false_iff_ne]; omega
  clear hr hv h1 hc hL hp
  go_enter Tryz.func52, Tryz.ntmps52
  go_wp2_with fail
  refine (cutHead_any line _ (by omega) H0.out.bl.lw).mono ?_
  rintro e w1 ⟨rfl, hb1⟩
  rw [HC.out]
  have H1 := Lib.hid (H0.out.step hb1)
  clear hb1
  obtain ⟨c0, c1, c2, d0, f0, f1, f2, g0⟩ := H1.out.facts
  have H2 := Lib.hid (H1.out.put HL.out r)
  go_wp2_with fail
  clear c0 c1 c2 d0 f0 f1 f2 g0
  refine (hasPath_any v _).mono ?_
  rintro e w2 ⟨rfl, rfl⟩
  rw [HP.out]
  obtain ⟨wa, hwa⟩ : ∃ wa, wa = w1.setCell ⟨w.heap.size + 1, 0, none⟩ (sv r) := ⟨_, rfl⟩
  rw [← hwa] at H2 ⊢
  clear hwa
  have H3 := Lib.hid H2.out.drew
  obtain ⟨c0, c1, c2, d0, f0, f1, f2, g0⟩ := H2.out.facts
  go_wp2_with fail
  go_region
  all_goals (try go_wp2_with fail)
  all_goals first
    | exact rd_end H2.out HK.out rfl rfl (PO.nil _ _ _)
    | exact rd_end H3.out HK.out rfl rfl (PO.nil _ _ _)

set_option maxHeartbeats 4000000 in
theorem read_none (line : List UInt8) (w : World) (hs : line.length ≤ 100000) (hL : LW w) (h1 : (cutH line).1 ≠ 1) (hp : pathV (cutH line).1 = true) (hq : cutP (cutH line).2 = none) : Calls Tryz.prog 52 #[sv line] w (RdPost w line) := by
  obtain ⟨r, hr⟩ : ∃ r, r = (cutH line).2 := ⟨_, rfl⟩
  obtain ⟨v, hv⟩ : ∃ v, v = (cutH line).1 := ⟨_, rfl⟩
  rw [← hv] at h1 hp
  rw [← hr] at hq
  have hrl : r.length ≤ 100000 := by
    rw [hr]
    rcases cutH_cases line with ⟨v, _, _, _, h2⟩ | ⟨_, h2⟩
    · rw [h2, List.length_drop]; omega
    · rw [h2]; exact hs
  have hc : cutH line = (v, r) := by rw [hr, hv]
  have HC := Lib.hid hc
  have HP := Lib.hid hp
  have HQ := Lib.hid hq
  have HK := Lib.hid (show readK line = (⟨0, [], []⟩, r) by unfold readK; rw [hc]; dsimp only; rw [if_neg h1, hp, if_pos rfl, hq])
  have HL := Lib.hid hL
  have H0 := Lib.hid (rb2_start hL)
  have e1 : ((v : Int) == 1) = false := by rw [beq_eq_false_iff_ne]; omega
  clear hr hv h1 hc hL hp hq
  go_enter Tryz.func52, Tryz.ntmps52
  go_wp2_with fail
  refine (cutHead_any line _ (by omega) H0.out.bl.lw).mono ?_
  rintro e w1 ⟨rfl, hb1⟩
  rw [HC.out]
  have H1 := Lib.hid (H0.out.step hb1)
  clear hb1
  obtain ⟨c0, c1, c2, d0, f0, f1, f2, g0⟩ := H1.out.facts
  have H2 := Lib.hid (H1.out.put HL.out r)
  go_wp2_with fail
  clear c0 c1 c2 d0 f0 f1 f2 g0
  refine (hasPath_any v _).mono ?_
  rintro e w2 ⟨rfl, rfl⟩
  rw [HP.out]
  obtain ⟨wa, hwa⟩ : ∃ wa, wa = w1.setCell ⟨w.heap.size + 1, 0, none⟩ (sv r) := ⟨_, rfl⟩
  rw [← hwa] at H2 ⊢
  clear hwa
  obtain ⟨c0, c1, c2, d0, f0, f1, f2, g0⟩ := H2.out.facts
  go_wp2_with fail
  refine (cutPath_any r _ (by omega) H2.out.bl.ml).mono ?_
  rintro e w3 ⟨rfl, hb3⟩
  rw [HQ.out]
  clear c0 c1 c2 d0 f0 f1 f2 g0
  have H4 := Lib.hid (H2.out.step hb3)
  clear hb3
  obtain ⟨c0, c1, c2, d0, f0, f1, f2, g0⟩ := H4.out.facts
  unfold cutPV
  have H5 := Lib.hid (H4.out.put HL.out r)
  have H6 := Lib.hid H5.out.drew
  go_wp2_with fail
  go_region
  all_goals (try go_wp2_with fail)
  all_goals first
    | exact rd_end H5.out HK.out rfl rfl (PO.nil _ _ _)
    | exact rd_end H6.out HK.out rfl rfl (PO.nil _ _ _)
end Go.Proofs.YtbmjmiioobgbfaaGreatDoor

namespace Go.Proofs.YtbmjmiioobgbfaaGreatDoor
open Go Go.RowKit Go.Shelf
set_option maxRecDepth 100000
set_option linter.unusedSimpArgs false
set_option linter.unusedVariables false
attribute [local go_sem] Oper.semAt_some

theorem wpListIn_append_run {F : Fence} {n : Nat} {P : Program} {ops : Array Oper} {rest : List Oper} {o : Oper} {a : Act} {w w' : World} {Q : Exit → Act → World → Prop} {v v' xv : Value}
    (hg : o.guard = none) (s x : Operand) (t : TypeId) (hop : o.op = Op.call { callee := Callee.builtin Builtin.append, args := #[s, x], argTypes := #[t, t] }) (hs : a.eval s = v) (hx : a.eval x = xv)
    (hrun : (Builtin.append_ #[t, t] o.type #[v, xv]).run P w = .ok v' w') (hK : wpListIn F n P ops Q rest (a.put o.dst v') w') : wpListIn F n P ops Q (o :: rest) a w := by
  refine wpListIn_plain hg fun K hK' => ?_
  unfold Oper.wpIn
  refine ⟨?_, ?_⟩
  · simp [Oper.about, hop, resolve, Target.leads, Sem.run_pure]
  · rw [Oper.semAt_plain F _ _ (by rw [hop]; intro c hc'; cases hc')]
    simp [execOp, hop, resolve, invoke, builtin, hs, hx, hrun, Result.andThen]
    exact hK' _ _ hK

theorem RB2.grown {w W W' : World} {a b c r : Value} {row : Option Nat} (hL : LW w) (h : RB2 w a b c r W) (hg : W.grownBy W' row) (hr : ∀ k, row = some k → w.heap.size + 1 < k) : RB2 w a b c r W' := by
  have hb : Below w.heap.size w W' := h.bl.below.grown hg h.bl.size fun k e => by have := hr k e; omega
  refine ⟨⟨hb, hL.below hb⟩, ?_, ?_⟩
  · exact (hg.block _ (lt_of_blk h.cc) (fun e => by have := hr _ e.symm; omega)).trans h.cc
  · exact (hg.block _ (lt_of_blk h.rr) (fun e => by have := hr _ e.symm; omega)).trans h.rr
theorem RB2.put2 {w W : World} {a b c r : Value} (hL : LW w) (h : RB2 w a b c r W) (u : Value) : RB2 w a b u r (W.setCell ⟨w.heap.size, 2, none⟩ u) := by
  have hb := h.bl.below.setCell (p := ⟨w.heap.size, 2, none⟩) (Nat.le_refl _) u
  refine ⟨⟨hb, hL.below hb⟩, ?_, ?_⟩
  · simp [World.setCell, Array.getElem?_modify, h.cc]
  · rw [heap_set_ne _ (by omega)]; exact h.rr
theorem RB2.put0 {w W : World} {a b c r : Value} (hL : LW w) (h : RB2 w a b c r W) (u : Value) : RB2 w u b c r (W.setCell ⟨w.heap.size, 0, none⟩ u) := by
  have hb := h.bl.below.setCell (p := ⟨w.heap.size, 0, none⟩) (Nat.le_refl _) u
  refine ⟨⟨hb, hL.below hb⟩, ?_, ?_⟩
  · simp [World.setCell, Array.getElem?_modify, h.cc]
  · rw [heap_set_ne _ (by omega)]; exact h.rr
theorem RB2.put1 {w W : World} {a b c r : Value} (hL : LW w) (h : RB2 w a b c r W) (u : Value) : RB2 w a u c r (W.setCell ⟨w.heap.size, 1, none⟩ u) := by
  have hb := h.bl.below.setCell (p := ⟨w.heap.size, 1, none⟩) (Nat.le_refl _) u
  refine ⟨⟨hb, hL.below hb⟩, ?_, ?_⟩
  · simp [World.setCell, Array.getElem?_modify, h.cc]
  · rw [heap_set_ne _ (by omega)]; exact h.rr
theorem RB2.put3 {w W : World} {a b c r : Value} (hL : LW w) (h : RB2 w a b c r W) (x y z : Value) : RB2 w x y z r (((W.setCell ⟨w.heap.size, 0, none⟩ x).setCell ⟨w.heap.size, 1, none⟩ y).setCell ⟨w.heap.size, 2, none⟩ z) := by
  have hb := ((h.bl.below.setCell (p := ⟨w.heap.size, 0, none⟩) (Nat.le_refl _) x).setCell (p := ⟨w.heap.size, 1, none⟩) (Nat.le_refl _) y).setCell (p := ⟨w.heap.size, 2, none⟩) (Nat.le_refl _) z
  refine ⟨⟨hb, hL.below hb⟩, ?_, ?_⟩
  · simp [World.setCell, Array.getElem?_modify, h.cc]
  · rw [heap_set_ne _ (by omega), heap_set_ne _ (by omega), heap_set_ne _ (by omega)]; exact h.rr

/-- Between two rounds. -/
def RdI (w : World) (B : Nat) (v a : Value) (t0 t : List UInt8) (W : World) : Prop :=
  ∃ u ps, RB2 w v a u (sv t) W ∧ PO 38 B W u ps ∧ parsP t0 = (ps ++ (parsP t).1, (parsP t).2) ∧ ps.length + t.length ≤ t0.length
theorem PO.cells {e : TypeId} {base g : Nat} {W : World} {v : Value} {ps : List PM} (h : PO e base W v ps) (hg : v.ownBlock = some g) : ∃ cs, W.heap[g]? = some (.cells cs e (0, 0)) := by
  rcases h.2 with ⟨rfl, _⟩ | ⟨g', cap, cur, rfl, hb', hgb, _⟩
  · simp [Value.ownBlock] at hg
  · obtain rfl : g' = g := by simpa [Value.ownBlock] using hg
    exact ⟨_, hgb⟩
theorem RdI.kept {w : World} {B Bs : Nat} {v a : Value} {t0 t : List UInt8} {W W' : World} {row : Option Nat} (hL : LW w) (hB : w.heap.size + 1 < Bs) (hBs : Bs < B) (h : RdI w B v a t0 t W) (hg : W.grownBy W' row) (hr : mayTurn B Bs W row) : RdI w B v a t0 t W' := by
  obtain ⟨u, ps, h1, h2, h3, h4⟩ := h
  refine ⟨u, ps, h1.grown hL hg (fun k e => by rcases hr k e with h | ⟨h, _⟩ <;> omega), h2.old hg fun g hgo e => ?_, h3, h4⟩
  obtain ⟨cs, hcs⟩ := h2.cells hgo
  have := h2.lt hgo
  rcases hr g e.symm with h | ⟨_, o, ho, hc⟩
  · omega
  · rw [hcs] at ho
    cases ho
    cases hc

/-- A round. -/
theorem rd_round {w W : World} {B Bs : Nat} {v a u : Value} {t0 t t' : List UInt8} {ps : List PM} {n x : List UInt8} (hL : LW w) (hB : w.heap.size + 1 < Bs) (hBs : Bs < B) (hBW : B ≤ W.heap.size)
    (h1 : RB2 w v a u (sv t) W) (h2 : PO 38 B W u ps) (h3 : parsP t0 = (ps ++ (parsP t).1, (parsP t).2)) (h4 : ps.length + t.length ≤ t0.length) (ht0 : t0.length ≤ 100000) (hst : stepP t = some ((n, x), t')) (hS : St Bs t' W) :
    ∃ g cap w2, (Builtin.append_ #[35, 35] 35 #[u, .slice (some ⟨W.heap.size, 0, none⟩) 1 1]).run Tryz.prog (W.alloc (.cells #[sv n, sv x] 38)) = .ok (.slice (some ⟨g, 0, none⟩) (ps.length + 1) cap) w2 ∧
      (w2.cell? ⟨w.heap.size, 2, none⟩ = some u ∧ w2.frozen? ⟨w.heap.size, 2, none⟩ = false ∧ w2.cell? ⟨w.heap.size + 1, 0, none⟩ = some (sv t) ∧ w2.frozen? ⟨w.heap.size + 1, 0, none⟩ = false) ∧
      KeepsFrom B W ((w2.setCell ⟨w.heap.size, 2, none⟩ (.slice (some ⟨g, 0, none⟩) (ps.length + 1) cap)).setCell ⟨w.heap.size + 1, 0, none⟩ (sv t')) ∧
      RdI w B v a t0 t' ((w2.setCell ⟨w.heap.size, 2, none⟩ (.slice (some ⟨g, 0, none⟩) (ps.length + 1) cap)).setCell ⟨w.heap.size + 1, 0, none⟩ (sv t')) ∧
      St Bs t' ((w2.setCell ⟨w.heap.size, 2, none⟩ (.slice (some ⟨g, 0, none⟩) (ps.length + 1) cap)).setCell ⟨w.heap.size + 1, 0, none⟩ (sv t')) := by
  obtain ⟨g, cap, w2, hrun, hown, hgr, hor⟩ := po_append Tryz.underlying35 info_param (by decide) h2 hBW (by omega) n x
  have ha := below_alloc W (.cells #[sv n, sv x] 38)
  have hrow : ∀ k, u.ownBlock = some k → B ≤ k := fun k e => (h2.lt e).1
  have r1 := (h1.step ha).grown hL hgr (fun k e => by have := hrow k e; omega)
  obtain ⟨_, _, c2, d0, _, _, f2, g0⟩ := r1.facts
  refine ⟨g, cap, w2, hrun, ⟨c2, f2, d0, g0⟩, ?_, ?_, ?_⟩
  · refine KeepsOthers.from ?_ _
    refine (((KeepsOthers.alloc W _).trans (KeepsOthers.of_grownBy hgr fun j o e ho => ?_)).trans (KeepsOthers.setCell _ _ _)).trans (KeepsOthers.setCell _ _ _)
    obtain ⟨cs, hcs⟩ := h2.cells e
    rw [(ha.block j (lt_of_blk hcs)).trans hcs] at ho
    cases ho; rfl
  · refine ⟨.slice (some ⟨g, 0, none⟩) (ps.length + 1) cap, ps ++ [(n, x)], (r1.put2 hL _).put hL t', ?_, ?_, ?_⟩
    · have hge : B ≤ g := (hown.lt rfl).1
      exact (hown.set (fun k e => by simp only [Value.ownBlock, Option.some.injEq] at e; omega) _).set (fun k e => by simp only [Value.ownBlock, Option.some.injEq] at e; omega) _
    · rw [h3, parsP_some hst]; simp
    · have := stepP_len hst
      simp; omega
  · have s1 := (hS.step ha).out (B := Bs + 1) (by omega) (by have := hL.ml.lt; omega) hgr (fun k e => by have := hrow k e; omega)
    obtain ⟨q1, ⟨mx, q2⟩, q3⟩ := s1
    have hml := hL.ml.lt
    refine ⟨?_, ⟨mx, ?_⟩, q3⟩
    · rw [heap_set_ne _ (by omega), heap_set_ne _ (by omega)]; exact q1
    · rw [World.cell?_setCell_other _ _ _ _ (by intro e; simp at e <;> omega), World.cell?_setCell_other _ _ _ _ (by intro e; simp at e <;> omega)]
      exact q2

theorem rd_done {w W : World} {D B : Nat} {a t : List UInt8} {v0 : Value} {b0 c0 r0 : Value} {v : Nat} {A0 : Option Addr} {cp : Nat} {ps : List PM} (h : RB2 w v0 b0 c0 r0 W) (hD : w.heap.size + 1 < D) (hB : w.heap.size + 1 < B) (hDh : W.heap[D]? = some (.deferred (some []))) (hu : PO 38 B W (.slice A0 ps.length cp) ps) :
    let X := ((((W.setCell ⟨w.heap.size, 0, none⟩ (.int .u8 (v : Int))).setCell ⟨w.heap.size, 1, none⟩ (sv a)).setCell ⟨w.heap.size, 2, none⟩ (.slice A0 ps.length cp)).setCell ⟨w.heap.size + 1, 0, none⟩ (sv t)).drew
    X.heap[D]? = some (.deferred (some [])) ∧ (X.putObj D (.deferred none)).heap[w.heap.size]? = some (.cells #[.int .u8 (v : Int), sv a, .slice A0 ps.length cp] 41 (0, 0)) ∧ (X.putObj D (.deferred none)).cell? ⟨w.heap.size + 1, 0, none⟩ = some (sv t) ∧
    Below w.heap.size w (X.putObj D (.deferred none)) ∧ PO 38 w.heap.size (X.putObj D (.deferred none)) (.slice A0 ps.length cp) ps := by
  intro X
  obtain ⟨h1, h2, h3⟩ := rd_world h.cc h.rr h.bl.below (.int .u8 (v : Int)) (sv a) (.slice A0 ps.length cp) (sv t)
  have hX : X.heap[D]? = some (.deferred (some [])) := by
    show ((((W.setCell ⟨w.heap.size, 0, none⟩ (.int .u8 (v : Int))).setCell ⟨w.heap.size, 1, none⟩ (sv a)).setCell ⟨w.heap.size, 2, none⟩ (.slice A0 ps.length cp)).setCell ⟨w.heap.size + 1, 0, none⟩ (sv t)).heap[D]? = _
    rw [heap_set_ne _ (by omega), heap_set_ne _ (by omega), heap_set_ne _ (by omega), heap_set_ne _ (by omega)]
    exact hDh
  have hu2 : PO 38 w.heap.size X (.slice A0 ps.length cp) ps := by
    have q : ∀ k, (Value.slice A0 ps.length cp).ownBlock = some k → w.heap.size + 1 < k := fun k e => by have := (hu.lt e).1; omega
    have := (((hu.set (i := 0) (b := w.heap.size) (fun k e => by have := q k e; omega) (.int .u8 (v : Int))).set (i := 1) (b := w.heap.size) (fun k e => by have := q k e; omega) (sv a)).set (i := 2) (b := w.heap.size) (fun k e => by have := q k e; omega) (.slice A0 ps.length cp)).set (i := 0) (b := w.heap.size + 1) (fun k e => by have := q k e; omega) (sv t)
    exact (this.below (Below.refl _ _).drew).lower (by omega)
  refine ⟨hX, ?_, ?_, ?_, ?_⟩
  · rw [World.putObj_heap_other (by omega)]; exact h1
  · rw [World.cell?_of_block (w := X) (World.putObj_heap_other (by simp; omega))]; exact h2
  · exact h3.drew.trans (belowK_b (w := w) (Nat.le_refl _) _ D _ _ (by omega) hX rfl rfl)
  · exact ownsRow_putObj hu2 (.deferred none) hX rfl

theorem goesOn_normal {R : World → Prop} {a : Act} {W : World} (h : R W) : goesOn R .normal a W := h

set_option maxHeartbeats 4000000 in
theorem read_path (line : List UInt8) (w : World) (hs : line.length ≤ 100000) (hL : LW w) (h1 : (cutH line).1 ≠ 1) (hp : pathV (cutH line).1 = true) {a b : List UInt8} (hq : cutP (cutH line).2 = some (a, b)) : Calls Tryz.prog 52 #[sv line] w (RdPost w line) := by
  obtain ⟨r, hr⟩ : ∃ r, r = (cutH line).2 := ⟨_, rfl⟩
  obtain ⟨v, hv⟩ : ∃ v, v = (cutH line).1 := ⟨_, rfl⟩
  rw [← hv] at h1 hp
  rw [← hr] at hq
  have hrl : r.length ≤ 100000 := by
    rw [hr]
    rcases cutH_cases line with ⟨v, _, _, _, h2⟩ | ⟨_, h2⟩
    · rw [h2, List.length_drop]; omega
    · rw [h2]; exact hs
  have hbl : b.length ≤ 100000 := by
    have := congrArg List.length (cutP_some hq).2
    simp at this; omega
  have hc : cutH line = (v, r) := by rw [hr, hv]
  have HC := Lib.hid hc
  have HP := Lib.hid hp
  have HQ := Lib.hid hq
  have HK := Lib.hid (show readK line = (⟨v, a, (parsP b).1⟩, (parsP b).2) by unfold readK; rw [hc]; dsimp only; rw [if_neg h1, hp, if_pos rfl, hq])
  have HL := Lib.hid hL
  have H0 := Lib.hid (rb2_start hL)
  have e1 : ((v : Int) == 1) = false := by rw [beq_eq_false_iff_ne]; omega
  clear hr hv h1 hc hL hp hq
  refine (callsIn_wide (n := 3)).1 ?_
  refine callsIn_of_wp_marks Tryz.func52 rfl trivial (wpIn_calmly ?_) rfl
  simp only [Tryz.ntmps52, List.size_toArray, List.length_cons, List.length_nil, Nat.reduceAdd, Nat.reduceSub, Array.replicate_succ, Array.replicate_zero, List.push_toArray, List.append_toArray, List.nil_append, List.cons_append]
  gi_wp2_with fail
  refine ⟨trivial, ?_⟩
  refine (callsIn_wide.2 (cutHead_any line _ (by omega) H0.out.bl.lw)).mono ?_
  rintro e w1 ⟨rfl, hb1⟩
  rw [HC.out]
  have H1 := Lib.hid (H0.out.step hb1)
  clear hb1
  obtain ⟨c0, c1, c2, d0, f0, f1, f2, g0⟩ := H1.out.facts
  have H2 := Lib.hid (H1.out.put HL.out r)
  gi_wp2_with fail
  clear c0 c1 c2 d0 f0 f1 f2 g0
  refine ⟨trivial, ?_⟩
  refine (callsIn_wide.2 (hasPath_any v _)).mono ?_
  rintro e w2 ⟨rfl, rfl⟩
  rw [HP.out]
  obtain ⟨wa, hwa⟩ : ∃ wa, wa = w1.setCell ⟨w.heap.size + 1, 0, none⟩ (sv r) := ⟨_, rfl⟩
  rw [← hwa] at H2 ⊢
  clear hwa
  obtain ⟨c0, c1, c2, d0, f0, f1, f2, g0⟩ := H2.out.facts
  gi_wp2_with fail
  refine ⟨trivial, ?_⟩
  refine (callsIn_wide.2 (cutPath_any r _ (by omega) H2.out.bl.ml)).mono ?_
  rintro e w3 ⟨rfl, hb3⟩
  rw [HQ.out]
  clear c0 c1 c2 d0 f0 f1 f2 g0
  have H4 := Lib.hid (H2.out.step hb3)
  clear hb3
  obtain ⟨c0, c1, c2, d0, f0, f1, f2, g0⟩ := H4.out.facts
  unfold cutPV
  have H5 := Lib.hid ((H4.out.put HL.out b).put3 HL.out (.int .u8 (v : Int)) (sv a) (.slice none 0 0))
  gi_wp2_with fail
  obtain ⟨wb, hwb⟩ : ∃ wb, wb = ((((w3.setCell ⟨w.heap.size + 1, 0, none⟩ (sv b)).setCell ⟨w.heap.size, 0, none⟩ (.int .u8 (v : Int))).setCell ⟨w.heap.size, 1, none⟩ (sv a)).setCell ⟨w.heap.size, 2, none⟩ (.slice none 0 0)) := ⟨_, rfl⟩
  rw [← hwb] at H5 ⊢
  clear hwb c0 c1 c2 d0 f0 f1 f2 g0
  refine ⟨trivial, ?_⟩
  refine (callsIn_wide.2 (params_any (str b) _)).mono ?_
  rintro e w4 ⟨rfl, rfl⟩
  obtain ⟨Wl, hWl⟩ : ∃ Wl, Wl = wb.alloc (.cells #[.string (str b)] 9) := ⟨_, rfl⟩
  have H6 := Lib.hid (show RB2 w (.int .u8 (v : Int)) (sv a) (.slice none 0 0) (sv b) Wl by rw [hWl]; exact H5.out.step (below_alloc _ _))
  have hBs : w.heap.size + 1 < wb.heap.size := lt_of_blk H5.out.rr
  have hsz : Wl.heap.size = wb.heap.size + 1 := by rw [hWl]; simp
  have HSB := Lib.hid (show Wl.heap[wb.heap.size]? = some (.cells #[sv b] 9 (0, 0)) by rw [hWl]; exact heap_alloc_new wb _)
  rw [← hWl]
  clear hWl
  have hml := HL.out.ml.lt
  gi_wp2_with fail
  refine wpIn_rangeFunc_sv (σ := List UInt8) (χ := PM × List UInt8) (w := Wl) rfl (by omega) (gf := 129) (lb := #[.pointer (some ⟨wb.heap.size, 0, none⟩)]) rfl trivial (enters_of Tryz.func129 (by kernel_rfl) rfl)
    (params_steps wb.heap.size b Wl (by omega)) (by omega) (fun _ => rfl)
    (fun t W W' row h hg hr => h.out (B := wb.heap.size + 1) (by omega) (by omega) hg (fun r e => by have := (hr r e).1; omega))
    (RdI w Wl.heap.size (.int .u8 (v : Int)) (sv a) b) (fun t W W' row h hg hr => h.kept HL.out hBs (by omega) hg hr) ?_ ?_
    (fun x A => { tmps := #[sv line, undef, .pointer (some ⟨w.heap.size, 0, none⟩), .pointer (some ⟨w.heap.size + 1, 0, none⟩), .int .u8 (v : Int), sv a, .bool true, .pointer (some ⟨A, 0, none⟩), sv x.2, .tuple #[.int .u8 (v : Int), sv r], sv line, .tuple #[.int .u8 (v : Int), sv r], .int .u8 (v : Int), sv r, .bool false, .int .u8 (v : Int), .bool false, undef, undef, undef, undef, .bool false, .int .u8 (v : Int), .bool true, .bool false, undef, undef, undef, .tuple #[sv a, sv b, .bool true], sv r, .tuple #[sv a, sv b, .bool true], sv a, sv b, .bool true, .bool true, .bool false, undef, undef, .int .u8 (v : Int), sv a, .agg #[.int .u8 (v : Int), sv a, .slice none 0 0], .string (str b), .func (.func 129) #[] #[.pointer (some ⟨wb.heap.size, 0, none⟩)], pmV x.1, sv x.2, undef, undef, undef, undef, undef, undef, undef, undef, undef], defers := [] }) (fun x => #[sv x.1.1, sv x.1.2]) 38 ?assign ?body ?done
  · exact ⟨_, [], H6.out, PO.nil _ _ _, rfl, by simp⟩
  · exact ⟨HSB.out, H6.out.bl.ml, by omega⟩
  case assign =>
    intro l x W K hK
    gi_wp2
    exact hK
  case body =>
    rintro l t ⟨⟨n, x⟩, z⟩ t' A W ⟨hst, hz⟩ hI hS hA hAW
    dsimp only at hst hz hAW ⊢
    subst hz
    obtain ⟨u, ps, h1, h2, h3, h4⟩ := hI
    have hBW : Wl.heap.size ≤ W.heap.size := Nat.le_trans hA (Nat.le_of_lt (lt_of_blk hAW))
    obtain ⟨g, cap, w5, hrun, ⟨k2, kf2, kd, kg⟩, k5, k6, k7⟩ := rd_round HL.out hBs (by omega) hBW h1 h2 h3 h4 hbl hst hS
    have c2 := h1.facts.2.2.1
    have a0 : W.cell? ⟨A, 0, none⟩ = some (sv n) := by rw [cellAt hAW]; rfl
    have a1 : W.cell? ⟨A, 1, none⟩ = some (sv x) := by rw [cellAt hAW]; rfl
    have K5 := Lib.hid k5
    have K6 := Lib.hid k6
    have K7 := Lib.hid k7
    have HR := Lib.hid hrun
    clear hst h1 h2 h3 h4 hS hAW hrun k5 k6 k7
    gi_wp2_with (gi_at_builtin; refine wpListIn_append_run rfl (.tmp 46) (.tmp 48) 35 rfl rfl rfl HR.out ?_)
    exact ⟨K5.out, K6.out, K7.out⟩
  case done =>
    rintro D t W hD hfin ⟨u, ps, h1, h2, h3, h4⟩ hS hDh
    have hn := parsP_none hfin
    have HK2 := Lib.hid (show readK line = (⟨v, a, ps⟩, t) by rw [HK.out, h3, hn]; simp)
    have H1 := Lib.hid h1
    have H1d := Lib.hid h1.drew
    have H2 := Lib.hid h2
    have HDh := Lib.hid hDh
    obtain ⟨A0, cp, rfl⟩ := h2.form
    obtain ⟨c0, c1, c2, d0, f0, f1, f2, g0⟩ := h1.facts
    clear hfin h1 h2 h3 h4 hS hDh hn
    gi_wp2
    refine wpIn_region_any (by kernel_rfl) ?_
    change wpAnyIn _ _ _ _ _ _ _ _ _ (World.drew _)
    refine wpAnyIn_ready (rs := [0, 1]) (by kernel_rfl) (by simp) ?_
    refine AllReadyIn.cons rfl (fun K hK => ?_) (AllReadyIn.cons rfl (fun K hK => ?_) (AllReadyIn.nil))
    · go_simp
      refine hK _ _ ?_; clear hK K
      refine wpAnyIn_ready (rs := [1, 2]) (by kernel_rfl) (by simp) ?_
      refine AllReadyIn.cons rfl (fun K hK => ?_) (AllReadyIn.cons rfl (fun K hK => ?_) (AllReadyIn.nil))
      · go_simp
        refine hK _ _ ?_; clear hK K
        refine wpAnyIn_ready (rs := [2]) (by kernel_rfl) (by simp) ?_
        refine AllReadyIn.cons rfl (fun K hK => ?_) (AllReadyIn.nil)
        go_simp
        refine hK _ _ ?_; clear hK K
        refine wpAnyIn_ready (rs := [3]) (by kernel_rfl) (by simp) ?_
        refine AllReadyIn.cons rfl (fun K hK => ?_) (AllReadyIn.nil)
        go_simp
        refine hK _ _ ?_; clear hK K
        refine wpAnyIn_done (by kernel_rfl) ?_ _
        gi_wp2
        obtain ⟨q1, q2, q3, q4, q5⟩ := rd_done (a := a) (t := t) (v := v) H1.out (by omega) (by omega) HDh.out H2.out
        refine ⟨by simp, .inl ⟨_, _, rfl, run_takeDeferred q1, ?_⟩⟩
        refine ⟨.tuple #[cmV ⟨v, a, ps⟩ (.slice A0 ps.length cp), sv t], results_row_cell (p := 2) (q := 3) (fr := (0, 0)) Tryz.results52 _ _ w.heap.size (w.heap.size + 1) 41 _ _ _ rfl q2 Tryz.underlying41 rfl (by kernel_rfl) rfl (load_text q3), ⟨.slice A0 ps.length cp, ?_, q4, ?_⟩⟩
        · rw [HK2.out]
        · rw [HK2.out]; exact q5
      · go_simp
        refine hK _ _ ?_; clear hK K
        refine wpAnyIn_ready (rs := [1]) (by kernel_rfl) (by simp) ?_
        refine AllReadyIn.cons rfl (fun K hK => ?_) (AllReadyIn.nil)
        go_simp
        refine hK _ _ ?_; clear hK K
        refine wpAnyIn_ready (rs := [3]) (by kernel_rfl) (by simp) ?_
        refine AllReadyIn.cons rfl (fun K hK => ?_) (AllReadyIn.nil)
        go_simp
        refine hK _ _ ?_; clear hK K
        refine wpAnyIn_done (by kernel_rfl) ?_ _
        gi_wp2
        obtain ⟨q1, q2, q3, q4, q5⟩ := rd_done (a := a) (t := t) (v := v) H1.out (by omega) (by omega) HDh.out H2.out
        refine ⟨by simp, .inl ⟨_, _, rfl, run_takeDeferred q1, ?_⟩⟩
        refine ⟨.tuple #[cmV ⟨v, a, ps⟩ (.slice A0 ps.length cp), sv t], results_row_cell (p := 2) (q := 3) (fr := (0, 0)) Tryz.results52 _ _ w.heap.size (w.heap.size + 1) 41 _ _ _ rfl q2 Tryz.underlying41 rfl (by kernel_rfl) rfl (load_text q3), ⟨.slice A0 ps.length cp, ?_, q4, ?_⟩⟩
        · rw [HK2.out]
        · rw [HK2.out]; exact q5
    · go_simp
      refine hK _ _ ?_; clear hK K
      refine wpAnyIn_ready (rs := [0]) (by kernel_rfl) (by simp) ?_
      refine AllReadyIn.cons rfl (fun K hK => ?_) (AllReadyIn.nil)
      go_simp
      refine hK _ _ ?_; clear hK K
      refine wpAnyIn_ready (rs := [2]) (by kernel_rfl) (by simp) ?_
      refine AllReadyIn.cons rfl (fun K hK => ?_) (AllReadyIn.nil)
      go_simp
      refine hK _ _ ?_; clear hK K
      refine wpAnyIn_ready (rs := [3]) (by kernel_rfl) (by simp) ?_
      refine AllReadyIn.cons rfl (fun K hK => ?_) (AllReadyIn.nil)
      go_simp
      refine hK _ _ ?_; clear hK K
      refine wpAnyIn_done (by kernel_rfl) ?_ _
      gi_wp2
      obtain ⟨q1, q2, q3, q4, q5⟩ := rd_done (a := a) (t := t) (v := v) H1.out (by omega) (by omega) HDh.out H2.out
      refine ⟨by simp, .inl ⟨_, _, rfl, run_takeDeferred q1, ?_⟩⟩
      refine ⟨.tuple #[cmV ⟨v, a, ps⟩ (.slice A0 ps.length cp), sv t], results_row_cell (p := 2) (q := 3) (fr := (0, 0)) Tryz.results52 _ _ w.heap.size (w.heap.size + 1) 41 _ _ _ rfl q2 Tryz.underlying41 rfl (by kernel_rfl) rfl (load_text q3), ⟨.slice A0 ps.length cp, ?_, q4, ?_⟩⟩
      · rw [HK2.out]
      · rw [HK2.out]; exact q5

theorem read_any (line : List UInt8) (w : World) (hs : line.length ≤ 100000) (hL : LW w) : Calls Tryz.prog 52 #[sv line] w (RdPost w line) := by
  by_cases h1 : (cutH line).1 = 1
  · exact read_ehlo line w hs hL h1
  · cases hp : pathV (cutH line).1 with
    | false => exact read_bare line w hs hL h1 hp
    | true =>
      cases hq : cutP (cutH line).2 with
      | none => exact read_none line w hs hL h1 hp hq
      | some x => exact read_path line w hs hL h1 hp (a := x.1) (b := x.2) hq
end Go.Proofs.YtbmjmiioobgbfaaGreatDoor
