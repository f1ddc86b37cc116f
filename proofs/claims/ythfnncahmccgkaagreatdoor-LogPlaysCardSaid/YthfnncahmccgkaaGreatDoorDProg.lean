/-
  The program's disk as it lies; its small methods.
-/
import Derived.Test.YthfnncahmccgkaaGreatDoorDPure
namespace Go.Proofs.YthfnncahmccgkaaGreatDoor
open Go Go.RowKit
set_option maxRecDepth 100000
set_option linter.unusedSimpArgs false
set_option linter.unusedVariables false

abbrev dp (p : Nat) : Value := .pointer (some ⟨p, 0, none⟩)
/-- What the dirty ones' map holds. -/
def dirF (S : DS) : Int → Option (List UInt8) := fun (k : Int) => if 0 ≤ k ∧ k < S.was.length ∧ S.wet.getD k.toNat false = true then some (S.now.getD k.toNat []) else none
def LasF (S : DS) (F : Int → Option (List UInt8)) : Prop := ∀ k : Int, (0 ≤ k ∧ k < S.was.length → (F k).getD zrL = S.was.getD k.toNat []) ∧ (¬ (0 ≤ k ∧ k < S.was.length) → F k = none)
def dCells (S : DS) (bl bd : Nat) : Array Value := #[.int .i64 (S.was.length : Int), .map (some bl), .map (some bd), .int .i64 (S.ops : Int), .int .i64 S.left, .bool S.off]

/-- A disk of the program's, at block p; its maps at bl and bd. -/
structure PD (w : World) (p bl bd : Nat) (S : DS) : Prop where
  ok : S.Ok
  blk : w.heap[p]? = some (.cells (dCells S bl bd) 87 (0, 0))
  las : ∃ F, MP w bl F ∧ LasF S F
  dir : MP w bd (dirF S)
  ne : bl ≠ bd

theorem PD.lt {w : World} {p bl bd : Nat} {S : DS} (h : PD w p bl bd S) : p < w.heap.size ∧ bl < w.heap.size ∧ bd < w.heap.size := by
  obtain ⟨F, hF, _⟩ := h.las
  exact ⟨lt_of_blk h.blk, hF.lt, h.dir.lt⟩
theorem PD.ne_l {w : World} {p bl bd : Nat} {S : DS} (h : PD w p bl bd S) : p ≠ bl := by
  intro e
  obtain ⟨F, hF, _⟩ := h.las
  obtain ⟨es, c, hb⟩ := hF.isMap
  have := h.blk
  rw [e, hb] at this
  cases this
theorem PD.ne_d {w : World} {p bl bd : Nat} {S : DS} (h : PD w p bl bd S) : p ≠ bd := by
  intro e
  obtain ⟨es, c, hb⟩ := h.dir.isMap
  have := h.blk
  rw [e, hb] at this
  cases this
theorem PD.of_blocks {w w' : World} {p bl bd : Nat} {S : DS} (h : PD w p bl bd S) (h1 : w'.heap[p]? = w.heap[p]?) (h2 : w'.heap[bl]? = w.heap[bl]?) (h3 : w'.heap[bd]? = w.heap[bd]?) : PD w' p bl bd S := by
  obtain ⟨ok, blk, ⟨F, hF, hl⟩, dir, ne⟩ := h
  exact ⟨ok, h1.trans blk, ⟨F, hF.of_block h2, hl⟩, dir.of_block h3, ne⟩
theorem PD.kp {T : List Nat} {w w' : World} {p bl bd : Nat} {S : DS} (h : PD w p bl bd S) (hk : Kp T w w') (hs : p ∉ T ∧ bl ∉ T ∧ bd ∉ T) : PD w' p bl bd S :=
  h.of_blocks (hk.block p h.lt.1 hs.1) (hk.block bl h.lt.2.1 hs.2.1) (hk.block bd h.lt.2.2 hs.2.2)
theorem PD.below {w w' : World} {p bl bd : Nat} {S : DS} (h : PD w p bl bd S) (hb : Below w.heap.size w w') : PD w' p bl bd S := h.kp (Kp.of_below hb []) (by simp)
theorem PD.cell {w : World} {p bl bd : Nat} {S : DS} (h : PD w p bl bd S) (j : Nat) : w.cell? ⟨p, j, none⟩ = (dCells S bl bd)[j]? := cellAt h.blk j
theorem PD.free {w : World} {p bl bd : Nat} {S : DS} (h : PD w p bl bd S) (j : Nat) : w.frozen? ⟨p, j, none⟩ = false := freeAt h.blk j
theorem PD.cells {w : World} {p bl bd : Nat} {S : DS} (h : PD w p bl bd S) : w.cell? ⟨p, 0, none⟩ = some (.int .i64 (S.was.length : Int)) ∧ w.cell? ⟨p, 1, none⟩ = some (.map (some bl)) ∧ w.cell? ⟨p, 2, none⟩ = some (.map (some bd)) ∧
    w.cell? ⟨p, 3, none⟩ = some (.int .i64 (S.ops : Int)) ∧ w.cell? ⟨p, 4, none⟩ = some (.int .i64 S.left) ∧ w.cell? ⟨p, 5, none⟩ = some (.bool S.off) :=
  ⟨h.cell 0, h.cell 1, h.cell 2, h.cell 3, h.cell 4, h.cell 5⟩

/-- The block's own numbers are written. -/
theorem PD.turn {w : World} {p bl bd : Nat} {S : DS} (h : PD w p bl bd S) {T : DS} (ho : T.Ok) (h1 : T.was = S.was) (h2 : T.now = S.now) (h3 : T.wet = S.wet) {w' : World} (hk : Kp [p] w w')
    (hb : w'.heap[p]? = some (.cells (dCells T bl bd) 87 (0, 0))) : PD w' p bl bd T := by
  obtain ⟨F, hF, hl⟩ := h.las
  have e : dirF T = dirF S := by unfold dirF; rw [h1, h2, h3]
  refine ⟨ho, hb, ⟨F, hF.kp hk (by simp; exact fun e => h.ne_l e.symm), ?_⟩, ?_, h.ne⟩
  · unfold LasF at hl ⊢; rw [h1]; exact hl
  · rw [e]; exact h.dir.kp hk (by simp; exact fun e => h.ne_d e.symm)

theorem on_any {w : World} {p bl bd : Nat} {S : DS} (h : PD w p bl bd S) : Calls Tryz.prog 33 #[dp p] w fun e w' => e = .returned (.bool (!S.off)) ∧ Below w.heap.size w w' := by
  obtain ⟨c0, c1, c2, c3, c4, c5⟩ := h.cells
  go_enter Tryz.func33, Tryz.ntmps33
  go_wp2
  go_ret
  exact ⟨rfl, Below.refl _ _⟩
theorem sectors_any {w : World} {p bl bd : Nat} {S : DS} (h : PD w p bl bd S) : Calls Tryz.prog 58 #[dp p] w fun e w' => e = .returned (.int .i64 (S.was.length : Int)) ∧ Below w.heap.size w w' := by
  obtain ⟨c0, c1, c2, c3, c4, c5⟩ := h.cells
  go_enter Tryz.func58, Tryz.ntmps58
  go_wp2
  go_ret
  exact ⟨rfl, Below.refl _ _⟩
theorem ops_any {w : World} {p bl bd : Nat} {S : DS} (h : PD w p bl bd S) : Calls Tryz.prog 17 #[dp p] w fun e w' => e = .returned (.int .i64 (S.ops : Int)) ∧ Below w.heap.size w w' := by
  obtain ⟨c0, c1, c2, c3, c4, c5⟩ := h.cells
  go_enter Tryz.func17, Tryz.ntmps17
  go_wp2
  go_ret
  exact ⟨rfl, Below.refl _ _⟩
theorem has_any {w : World} {p bl bd : Nat} {S : DS} (h : PD w p bl bd S) (a : Int) : Calls Tryz.prog 77 #[dp p, .int .i64 a] w fun e w' => e = .returned (.bool (S.has a)) ∧ Below w.heap.size w w' := by
  obtain ⟨c0, c1, c2, c3, c4, c5⟩ := h.cells
  go_enter Tryz.func77, Tryz.ntmps77
  by_cases h0 : (0 : Int) ≤ a
  · go_wp2
    go_ret
    refine ⟨?_, Below.refl _ _⟩
    simp [DS.has, h0]
  · go_wp2
    go_ret
    refine ⟨?_, Below.refl _ _⟩
    simp [DS.has, h0]
    omega
theorem fail_any {w : World} {p bl bd : Nat} {S : DS} (h : PD w p bl bd S) {a : Int} (ha : (-9223372036854775808 : Int) ≤ a ∧ a ≤ 9223372036854775807) : Calls Tryz.prog 18 #[dp p, .int .i64 a] w fun e w' => e = .returned (.tuple #[]) ∧ PD w' p bl bd (S.fail a) ∧ Kp [p] w w' := by
  obtain ⟨c0, c1, c2, c3, c4, c5⟩ := h.cells
  have f4 := h.free 4
  go_enter Tryz.func18, Tryz.ntmps18
  go_wp2
  go_end0
  have hk : Kp [p] w (w.setCell ⟨p, 4, none⟩ (.int .i64 a)) := (Kp.refl _ _).setCell (by simp) _
  exact ⟨rfl, h.turn (h.ok.fail ha) rfl rfl rfl hk (by rw [blk_set h.blk]; rfl), hk⟩
set_option maxHeartbeats 1000000 in
theorem done_any {w : World} {p bl bd : Nat} {S : DS} (h : PD w p bl bd S) (hops : S.ops < 4611686018427387904) : Calls Tryz.prog 60 #[dp p] w fun e w' => e = .returned (.tuple #[]) ∧ PD w' p bl bd S.did ∧ Kp [p] w w' := by
  obtain ⟨c0, c1, c2, c3, c4, c5⟩ := h.cells
  have f3 := h.free 3
  have f4 := h.free 4
  have f5 := h.free 5
  have hlf := h.ok.lf
  have e1 : IntKind.i64.wrap ((S.ops : Int) + 1) = (S.ops : Int) + 1 := IntWalk.i64_in _ (by omega)
  go_enter Tryz.func60, Tryz.ntmps60
  by_cases hl : 0 < S.left
  · have e2 : IntKind.i64.wrap (S.left - 1) = S.left - 1 := IntWalk.i64_in _ (by omega)
    go_wp2
    go_end0
    have hk : Kp [p] w (((w.setCell ⟨p, 3, none⟩ (.int .i64 ((S.ops : Int) + 1))).setCell ⟨p, 4, none⟩ (.int .i64 (S.left - 1))).setCell ⟨p, 5, none⟩ (.bool (S.left - 1 == 0))) :=
      (((Kp.refl _ _).setCell (by simp) _).setCell (by simp) _).setCell (by simp) _
    refine ⟨rfl, h.turn h.ok.did rfl rfl rfl hk ?_, hk⟩
    rw [blk_set (blk_set (blk_set h.blk 3 _) 4 _) 5]
    have e3 : (S.left - 1 == 0) = decide (S.left = 1) := by
      rw [Bool.eq_iff_iff]; simp; omega
    simp [dCells, DS.did, hl, e3]
  · go_wp2
    go_end0
    have hk : Kp [p] w (w.setCell ⟨p, 3, none⟩ (.int .i64 ((S.ops : Int) + 1))) := (Kp.refl _ _).setCell (by simp) _
    refine ⟨rfl, h.turn h.ok.did rfl rfl rfl hk ?_, hk⟩
    rw [blk_set h.blk 3]
    have hl2 : ¬ 0 < S.left := by omega
    simp [dCells, DS.did, hl2]
end Go.Proofs.YthfnncahmccgkaaGreatDoor
