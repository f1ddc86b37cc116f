/-
  The contract of package caps' Union, where whatever it is.
-/
import Derived.Test.YtanfonpbnamjmaaDoorCUnionA
import Derived.Test.YtanfonpbnamjmaaDoorCUnionB
namespace Go.Proofs.YtanfonpbnamjmaaDoor
open Go Go.RowKit Go.Shelf
set_option maxRecDepth 100000

theorem union_any (a b : Cp) (w : World) : Calls Tryd.prog 31 #[ofV a, ofV b] w fun e w' => e = .returned (ofV (unionC a b)) ∧ Below w.heap.size w w' := by
  obtain ⟨a0, a1, a2, a3, a4, a5, a6⟩ := a
  obtain ⟨b0, b1, b2, b3, b4, b5, b6⟩ := b
  unfold unionC
  by_cases hz : a6 = 0
  · simp only [hz, if_true]
    exact union_z a0 a1 a2 a3 a4 a5 b0 b1 b2 b3 b4 b5 0 b6 w rfl
  · simp only [hz, if_false]
    exact union_n a0 a1 a2 a3 a4 a5 b0 b1 b2 b3 b4 b5 a6 b6 w (by simpa using hz)
end Go.Proofs.YtanfonpbnamjmaaDoor
