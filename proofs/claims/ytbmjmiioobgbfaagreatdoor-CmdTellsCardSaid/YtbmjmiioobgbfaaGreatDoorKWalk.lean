/-
  What the walks share.
-/
import Derived.Test.YtbmjmiioobgbfaaGreatDoorKLaw2
import Derived.Test.YtbmjmiioobgbfaaGreatDoorKLaw3
import Derived.Test.YtbmjmiioobgbfaaGreatDoorKSame
import Derived.Test.YtbmjmiioobgbfaaGreatDoorKOpen
namespace Go.Proofs.YtbmjmiioobgbfaaGreatDoor
open Go Go.RowKit Go.Shelf
set_option maxRecDepth 100000
set_option linter.unusedSimpArgs false
set_option linter.unusedVariables false

theorem IN.ml {c : Cm} (h : IN c) (u : Value) (w : World) (hu : PR w u c.ps) : Calls Tryz.prog 26 #[cmV c u] w (LoPost w c) := long_any c u w hu h.verb h.arg h.ps h.each

theorem show_cases (c : Cm) : ((showK c).2 = 0 ∧ (showK c).1 = shownK c ∧ mayK c = true ∧ (shownK c).length ≤ 510) ∨ (∃ n, n ≠ 0 ∧ showK c = ([], n)) := by
  unfold showK
  split
  · split
    · exact .inl ⟨rfl, rfl, by assumption, by assumption⟩
    · exact .inr ⟨40, by decide, rfl⟩
  · exact .inr ⟨4, by decide, rfl⟩
theorem c3 {W : World} {g : Nat} {x y z : Value} (h : W.heap[g]? = some (.cells #[x, y, z] 41 (0, 0))) : W.cell? ⟨g, 0, none⟩ = some x ∧ W.cell? ⟨g, 1, none⟩ = some y ∧ W.cell? ⟨g, 2, none⟩ = some z :=
  ⟨by rw [cellAt h]; rfl, by rw [cellAt h]; rfl, by rw [cellAt h]; rfl⟩

/-- Behind w, with new memory alone; these commands lie where they lay. -/
structure KS (w : World) (L : List (Nat × Array Value)) (W : World) : Prop where
  bl : Below w.heap.size w W
  lw : LW W
  blk : ∀ p ∈ L, W.heap[p.1]? = some (.cells p.2 41 (0, 0))
theorem KS.start {w : World} (h : LW w) : KS w [] w := ⟨Below.refl _ _, h, fun _ h => by cases h⟩
theorem KS.step {w W W' : World} {L : List (Nat × Array Value)} (h : KS w L W) (hb : Below W.heap.size W W') : KS w L W' :=
  ⟨h.bl.trans (hb.mono h.bl.size), h.lw.below hb, fun p hp => blk_below (h.blk p hp) hb⟩
theorem KS.alloc {w W : World} {L : List (Nat × Array Value)} (h : KS w L W) (cs : Array Value) : KS w ((W.heap.size, cs) :: L) (W.alloc (.cells cs 41)) := by
  have h2 := h.step (below_alloc W (.cells cs 41))
  refine ⟨h2.bl, h2.lw, fun p hp => ?_⟩
  rcases List.mem_cons.1 hp with rfl | hp
  · exact heap_alloc_new W _
  · exact h2.blk p hp
theorem KS.at0 {w W : World} {g : Nat} {x y z : Value} {L : List (Nat × Array Value)} (h : KS w ((g, #[x, y, z]) :: L) W) : W.cell? ⟨g, 0, none⟩ = some x ∧ W.cell? ⟨g, 1, none⟩ = some y ∧ W.cell? ⟨g, 2, none⟩ = some z := c3 (h.blk (g, #[x, y, z]) (by simp))
theorem KS.at1 {w W : World} {p : Nat × Array Value} {g : Nat} {x y z : Value} {L : List (Nat × Array Value)} (h : KS w (p :: (g, #[x, y, z]) :: L) W) : W.cell? ⟨g, 0, none⟩ = some x ∧ W.cell? ⟨g, 1, none⟩ = some y ∧ W.cell? ⟨g, 2, none⟩ = some z := c3 (h.blk (g, #[x, y, z]) (by simp))
theorem KS.at2 {w W : World} {p q : Nat × Array Value} {g : Nat} {x y z : Value} {L : List (Nat × Array Value)} (h : KS w (p :: q :: (g, #[x, y, z]) :: L) W) : W.cell? ⟨g, 0, none⟩ = some x ∧ W.cell? ⟨g, 1, none⟩ = some y ∧ W.cell? ⟨g, 2, none⟩ = some z := c3 (h.blk (g, #[x, y, z]) (by simp))
theorem KS.at3 {w W : World} {p q r : Nat × Array Value} {g : Nat} {x y z : Value} {L : List (Nat × Array Value)} (h : KS w (p :: q :: r :: (g, #[x, y, z]) :: L) W) : W.cell? ⟨g, 0, none⟩ = some x ∧ W.cell? ⟨g, 1, none⟩ = some y ∧ W.cell? ⟨g, 2, none⟩ = some z := c3 (h.blk (g, #[x, y, z]) (by simp))
theorem show_ok {c : Cm} {u : Value} {w : World} {t : List UInt8} {n : Nat} (hu : PR w u c.ps) (hs : SM c) (hL : LW w) (h : showK c = (t, n)) :
    Calls Tryz.prog 20 #[cmV c u] w fun e w' => e = .returned (.tuple #[sv t, .int .i64 (n : Int)]) ∧ Below w.heap.size w w' := by
  have := showK_any c u w hu hs hL
  rw [h] at this
  exact this
theorem SM.p6 {c : Cm} (h : SM c) : c.ps.length ≤ 1000000 := by have := h.ps; omega
end Go.Proofs.YtbmjmiioobgbfaaGreatDoor
