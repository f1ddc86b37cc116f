/-
  The contract of package caps' Union, where the first one's Most is 0.
-/
import Derived.Deep.Cut
import Derived.Test.YtanfonpbnamjmaaDoorCLaw
namespace Go.Proofs.YtanfonpbnamjmaaDoor
open Go Go.RowKit Go.Shelf
set_option maxRecDepth 100000

theorem union_heapZ (w : World) (A B C : Obj) : (((w.alloc A).alloc B).alloc C).heap[w.heap.size + 1 + 1]? = some C ∧
    Below w.heap.size w (((w.alloc A).alloc B).alloc C) := by
  have h := heap_alloc_new ((w.alloc A).alloc B) C
  rw [World.size_alloc, World.size_alloc] at h
  exact ⟨h, (((Below.refl _ w).alloc (Nat.le_refl _) _).alloc (by simp) _).alloc (by simp; omega) _⟩

set_option maxHeartbeats 64000000 in
theorem union_z (a0 a1 a2 a3 a4 a5 b0 b1 b2 b3 b4 b5 : Bool) (a6 b6 : Int) (w : World) (hz : a6 = 0) :
    Calls Tryd.prog 31 #[ofV ⟨a0, a1, a2, a3, a4, a5, a6⟩, ofV ⟨b0, b1, b2, b3, b4, b5, b6⟩] w fun e w' => e = .returned (ofV ⟨a0 || b0, a1 || b1, a2 || b2, a3 || b3, a4 || b4, a5 || b5, b6⟩) ∧ Below w.heap.size w w' := by
  subst hz
  unfold ofV cpL
  go_enter Tryd.func31, Tryd.ntmps31
  go_upto_region 4 with (fail)
  cases a0 <;> cases a1 <;> cases a2 <;> cases a3 <;> cases a4 <;> cases a5
  all_goals
    go_wp2_with fail
    exact bodyPost_ret (v := .agg _) (results_cell_row (p := 4) (fr := (0, 0)) Tryd.results31 _ _ (w.heap.size + 1 + 1) 50 _ _ rfl (union_heapZ w _ _ _).1 Tryd.underlying50 rfl (by kernel_rfl)) rfl ⟨rfl, (union_heapZ w _ _ _).2⟩
end Go.Proofs.YtanfonpbnamjmaaDoor
