/-
  A statement of one text: long's contract; a row of texts, in a world behind.
-/
import Derived.Test.YtdniojbplakeoaaDoorLongC
import Derived.Test.YtdniojbplakeoaaDoorCarry
import Derived.Test.YtdniojbplakeoaaDoorRShow
namespace Go.Proofs.YtdniojbplakeoaaDoor
open Go Go.RowKit
set_option maxRecDepth 100000

theorem one_cells (w : World) (s : List UInt8) : ∀ k, ∀ h : k < [s].length, (w.alloc (.cells #[.string (str s)] 9)).cell? ⟨w.heap.size, k, none⟩ = some (sv [s][k]) := by
  intro k h
  obtain rfl : k = 0 := by simpa using h
  exact cell_one_new w (.string (str s)) 9 0 _ rfl

theorem long_one (s : List UInt8) (w : World) (hs : s.length ≤ 140737488351232) :
    Calls Tryd.prog 19 #[.slice (some ⟨w.heap.size, 0, none⟩) 1 1] (w.alloc (.cells #[.string (str s)] 9)) fun e w' => e = .returned (.bool (decide (9000 ≤ minSum [s]))) ∧ w.alloc (.cells #[.string (str s)] 9) = w' :=
  long_any [s] w.heap.size 1 _ (by simp) (by simp) (one_cells w s) (by
    intro x hx
    rw [List.mem_singleton.1 hx]; exact hs)

theorem bl_long_one {w0 : World} (s : List UInt8) (w : World) (hs : s.length ≤ 140737488351232) (h : BL w0 w) :
    Calls Tryd.prog 19 #[.slice (some ⟨w.heap.size, 0, none⟩) 1 1] (w.alloc (.cells #[.string (str s)] 9)) fun e w' => e = .returned (.bool (decide (9000 ≤ minSum [s]))) ∧ BL w0 w' := by
  refine (long_one s w hs).mono ?_
  rintro e w' ⟨rfl, rfl⟩
  exact ⟨rfl, h.alloc _⟩

/-- The same, with what lies below kept. -/
theorem bk {w0 w : World} {f : Nat} {args : Array Value} {v : Value} (h : Calls Tryd.prog f args w fun e w' => e = .returned v ∧ Below w.heap.size w w') (hb : BL w0 w) :
    Calls Tryd.prog f args w fun e w' => e = .returned v ∧ (BL w0 w' ∧ ∀ g, g < w.heap.size → w'.heap[g]? = w.heap[g]?) := h.mono fun _ _ ⟨he, h⟩ => ⟨he, hb.step h, fun g hg => h.block g hg⟩

theorem of_same {w : World} {f : Nat} {args : Array Value} {v : Value} (h : Calls Tryd.prog f args w fun e w' => e = .returned v ∧ w = w') :
    Calls Tryd.prog f args w fun e w' => e = .returned v ∧ Below w.heap.size w w' := h.mono fun _ _ ⟨he, h⟩ => ⟨he, by rw [← h]; exact Below.refl _ _⟩

theorem rowc {w : World} {g k : Nat} {xs : List (List UInt8)} (h : w.heap[g]? = some (.cells (xs.map sv).toArray 9 (0, 0))) (hk : k < xs.length) : w.cell? ⟨g, k, none⟩ = some (sv (xs.getD k [])) := by
  rw [cellAt h]
  simp [List.getD_eq_getElem?_getD, hk]
theorem rowm {xs : List (List UInt8)} {k : Nat} (hk : k < xs.length) : xs.getD k [] ∈ xs := by
  rw [List.getD_eq_getElem?_getD, List.getElem?_eq_getElem hk]
  exact List.getElem_mem hk
theorem rowl {w : World} {g : Nat} {o : Obj} (h : w.heap[g]? = some o) : g < w.heap.size := by
  rcases Nat.lt_or_ge g w.heap.size with h' | h'
  · exact h'
  · simp [Array.getElem?_eq_none h'] at h
end Go.Proofs.YtdniojbplakeoaaDoor
