/-
  The walk of CmdMakes.
-/
import Derived.Deep.RegionHeld3
import Derived.Deep.CutRange
import Derived.Deep.RegionLaw
import Derived.WalkLawsBesides
import Derived.Test.YtbmjmiioobgbfaaGreatDoorQB
import Derived.Test.YtbmjmiioobgbfaaGreatDoorKMailM
import Derived.Test.YtbmjmiioobgbfaaGreatDoorKLaw3
namespace Go.Proofs.YtbmjmiioobgbfaaGreatDoor
open Go Go.RowKit Go.Shelf
set_option maxRecDepth 100000
set_option linter.unusedSimpArgs false
set_option linter.unusedVariables false

theorem mq_open {w w' : World} {r : Cm × Nat} {e : Ending} (h : MqPost w r e w') : ∃ A cap, e = .returned (.tuple #[.agg #[.int .u8 (r.1.verb : Int), sv r.1.arg, .slice A r.1.ps.length cap], .int .i64 (r.2 : Int)]) ∧ Below w.heap.size w w' ∧ PR w' (.slice A r.1.ps.length cap) r.1.ps := by
  obtain ⟨u, he, hb, hp⟩ := h
  obtain ⟨A, c, rfl⟩ := hp.form
  exact ⟨A, c, he, hb, hp⟩
theorem rc_open {w w' : World} {c : Cm} {e : Ending} (h : RcPost w c e w') : ∃ A cap, e = .returned (.agg #[.int .u8 (c.verb : Int), sv c.arg, .slice A c.ps.length cap]) ∧ Below w.heap.size w w' ∧ PR w' (.slice A c.ps.length cap) c.ps := by
  obtain ⟨u, he, hb, hp⟩ := h
  obtain ⟨A, c, rfl⟩ := hp.form
  exact ⟨A, c, he, hb, hp⟩

/-- Blocks that lie there, and rows of parameters. -/
structure KB (w : World) (L : List (Nat × Obj)) (R : List (Value × List PM)) (W : World) : Prop where
  bl : Below w.heap.size w W
  lw : LW W
  blk : ∀ p ∈ L, W.heap[p.1]? = some p.2
  row : ∀ p ∈ R, PR W p.1 p.2
theorem KB.start {w : World} (h : LW w) : KB w [] [] w := ⟨Below.refl _ _, h, (fun _ h => by cases h), fun _ h => by cases h⟩
theorem KB.step {w W W' : World} {L : List (Nat × Obj)} {R : List (Value × List PM)} (h : KB w L R W) (hb : Below W.heap.size W W') : KB w L R W' :=
  ⟨h.bl.trans (hb.mono h.bl.size), h.lw.below hb, fun p hp => blk_below (h.blk p hp) hb, fun p hp => (h.row p hp).step hb⟩
theorem KB.drew {w W : World} {L : List (Nat × Obj)} {R : List (Value × List PM)} (h : KB w L R W) : KB w L R W.drew := h.step (Below.refl _ _).drew
theorem KB.alloc {w W : World} {L : List (Nat × Obj)} {R : List (Value × List PM)} (h : KB w L R W) (o : Array Value) (t : TypeId) : KB w ((W.heap.size, .cells o t) :: L) R (W.alloc (.cells o t)) := by
  have h' := h.step (below_alloc W (.cells o t))
  refine ⟨h'.bl, h'.lw, fun p hp => ?_, h'.row⟩
  rcases List.mem_cons.1 hp with rfl | hp
  · exact heap_alloc_new _ _
  · exact h'.blk p hp
theorem KB.add {w W : World} {L : List (Nat × Obj)} {R : List (Value × List PM)} {v : Value} {ps : List PM} (h : KB w L R W) (hp : PR W v ps) : KB w L ((v, ps) :: R) W :=
  ⟨h.bl, h.lw, h.blk, fun p hm => by
    rcases List.mem_cons.1 hm with rfl | hm
    · exact hp
    · exact h.row p hm⟩

theorem kb {w W : World} {L : List (Nat × Obj)} {R : List (Value × List PM)} {f : Nat} {args : Array Value} {v : Value} (hc : Calls Tryz.prog f args W fun e w' => e = .returned v ∧ Below W.heap.size W w') (h : KB w L R W) :
    Calls Tryz.prog f args W fun e w' => e = .returned v ∧ KB w L R w' := hc.mono fun _ _ ⟨h1, h2⟩ => ⟨h1, h.step h2⟩
theorem cells3 {W : World} {g : Nat} {x y z : Value} {t : TypeId} (h : W.heap[g]? = some (.cells #[x, y, z] t (0, 0))) : W.cell? ⟨g, 0, none⟩ = some x ∧ W.cell? ⟨g, 1, none⟩ = some y ∧ W.cell? ⟨g, 2, none⟩ = some z :=
  ⟨by rw [cellAt h]; rfl, by rw [cellAt h]; rfl, by rw [cellAt h]; rfl⟩
theorem cells7 {W : World} {g : Nat} {c : Cp} (h : W.heap[g]? = some (.cells (cpL c) 53 (0, 0))) : W.cell? ⟨g, 0, none⟩ = some (.bool c.st) ∧ W.cell? ⟨g, 1, none⟩ = some (.bool c.pi) ∧ W.cell? ⟨g, 2, none⟩ = some (.bool c.rq) ∧ W.cell? ⟨g, 3, none⟩ = some (.bool c.ds) ∧ W.cell? ⟨g, 4, none⟩ = some (.bool c.eb) ∧ W.cell? ⟨g, 5, none⟩ = some (.bool c.sz) ∧ W.cell? ⟨g, 6, none⟩ = some (.int .i64 c.mo) :=
  ⟨by rw [cellAt h]; rfl, by rw [cellAt h]; rfl, by rw [cellAt h]; rfl, by rw [cellAt h]; rfl, by rw [cellAt h]; rfl, by rw [cellAt h]; rfl, by rw [cellAt h]; rfl⟩

theorem mailK_few (c : Cp) (f : List UInt8) (size : Int) (req : Bool) (env : List UInt8) (h0 : -9223372036854775808 ≤ size) (h1 : size ≤ 9223372036854775807) (he : env.length ≤ 5000) : (mailK c f size req env).1.ps.length ≤ 3 := by
  have h := (mailPs_small c size req env h0 h1 (by omega)).1
  unfold mailK
  split
  · exact Nat.zero_le _
  · split
    · exact h
    · exact Nat.zero_le _
theorem rcptK_few (c : Cp) (f : List UInt8) (nev : Bool) : (rcptK c f nev).1.ps.length ≤ 1 := by
  unfold rcptK
  split
  · exact optP_len _ _
  · exact Nat.zero_le _
theorem PR.drew {W : World} {v : Value} {ps : List PM} (h : PR W v ps) : PR W.drew v ps := h.step (Below.refl _ _).drew

end Go.Proofs.YtbmjmiioobgbfaaGreatDoor
