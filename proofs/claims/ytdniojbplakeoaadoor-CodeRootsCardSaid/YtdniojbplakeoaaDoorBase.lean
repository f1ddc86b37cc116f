/-
  Words that the walks share: strings of lists of bytes; a block of one cell; a builder that lies beside other blocks.
-/
import Derived.WalkKit
import Derived.IntWalk
import Derived.Lib.Hide
import Derived.Lib.Builder
import Derived.Lib.FrozenHead
import Derived.Lib.OthersKept
import Derived.Laws.Rows
import Derived.Laws.MakeOwn
import Derived.Test.YtdniojbplakeoaaDoorChecked
import Derived.Test.YtdniojbplakeoaaDoorCodec
namespace Go.Proofs.YtdniojbplakeoaaDoor
open Go Go.RowKit

/-- A string of these bytes. -/
abbrev str (l : List UInt8) : ByteArray := ⟨l.toArray⟩
abbrev sv (l : List UInt8) : Value := .string (str l)

theorem cellAt {w : World} {b : Nat} {cs : Array Value} {t : TypeId} (h : w.heap[b]? = some (.cells cs t (0, 0))) (j : Nat) : w.cell? ⟨b, j, none⟩ = cs[j]? := cell_of_row w b j cs t (0, 0) h
theorem freeAt {w : World} {b : Nat} {cs : Array Value} {t : TypeId} (h : w.heap[b]? = some (.cells cs t (0, 0))) (j : Nat) : w.frozen? ⟨b, j, none⟩ = false := frozen_of_row w b j cs t h

theorem lt_of_blk {w : World} {b : Nat} {o : Obj} (h : w.heap[b]? = some o) : b < w.heap.size := (Array.getElem?_eq_some_iff.1 h).1

/-- Block k is one cell: v, of type T. -/
def Bx (w : World) (k : Nat) (v : Value) (T : TypeId) : Prop := w.heap[k]? = some (.cells #[v] T (0, 0))
theorem Bx.cell {w : World} {k : Nat} {v : Value} {T : TypeId} (h : Bx w k v T) : w.cell? ⟨k, 0, none⟩ = some v := by rw [cellAt h]; rfl
theorem Bx.free {w : World} {k : Nat} {v : Value} {T : TypeId} (h : Bx w k v T) : w.frozen? ⟨k, 0, none⟩ = false := freeAt h 0
theorem Bx.lt {w : World} {k : Nat} {v : Value} {T : TypeId} (h : Bx w k v T) : k < w.heap.size := lt_of_blk h
theorem Bx.new (w : World) (v : Value) (T : TypeId) : Bx (w.alloc (.cells #[v] T)) w.heap.size v T := heap_alloc_new w _
theorem Bx.alloc {w : World} {k : Nat} {v : Value} {T : TypeId} (h : Bx w k v T) (o : Obj) : Bx (w.alloc o) k v T := (Lib.alloc_old w o k h.lt).trans h
theorem Bx.set {w : World} {k : Nat} {v : Value} {T : TypeId} (h : Bx w k v T) (x : Value) : Bx (w.setCell ⟨k, 0, none⟩ x) k x T := by
  unfold Bx at h ⊢
  simp [World.setCell, Array.getElem?_modify, h]
theorem heap_set_ne {w : World} {k j i : Nat} (x : Value) (hne : j ≠ k) : (w.setCell ⟨j, i, none⟩ x).heap[k]? = w.heap[k]? := by
  simp [World.setCell, Array.getElem?_modify, hne]
theorem Bx.other {w : World} {k j : Nat} {v : Value} {T : TypeId} (h : Bx w k v T) (x : Value) (hne : j ≠ k) : Bx (w.setCell ⟨j, 0, none⟩ x) k v T := (heap_set_ne x hne).trans h
theorem Bx.kept {w w' : World} {k b : Nat} {v : Value} {T e : TypeId} (h : Bx w k v T) (hk : Lib.OthersKept e (some b) w w') (hb : k ≠ b) (hT : T ≠ e) : Bx w' k v T :=
  hk k _ h (fun e => hb (by simpa using e)) (fun c fz e => by simp at e; exact hT e.2.1)
theorem Bx.below {w w' : World} {k n : Nat} {v : Value} {T : TypeId} (h : Bx w k v T) (hb : Below n w w') (hn : k < n) : Bx w' k v T := (hb.block k hn).trans h

/-- A builder stands as it stood where another block's cell is written, that is of another type than its bytes. -/
theorem builder_set {w : World} {B b k : Nat} {v x : Value} {T U : TypeId} {bs : List Value} (h : Lib.IsBuilderF T 5 B b bs w) (hk : Bx w k v U) (hU : U ≠ 5) (hne : k ≠ b) : Lib.IsBuilderF T 5 B b bs (w.setCell ⟨k, 0, none⟩ x) := by
  have one : ∀ p, Lib.BuilderAtF T 5 B b p bs w → Lib.BuilderAtF T 5 B b p bs (w.setCell ⟨k, 0, none⟩ x) := by
    rintro p ⟨hB, v', hb, hown, hnb⟩
    refine ⟨hB, v', (heap_set_ne x hne).trans hb, ?_, hnb⟩
    refine hown.kept (row := some k) ⟨rfl, rfl, rfl, by simp [World.setCell], fun j _ hj => heap_set_ne x (fun e => hj (by rw [e]))⟩ (Or.inr ?_)
    exact Lib.ownBlock_neF hown hk hU
  exact h.elim (fun h => .inl (one _ h)) (fun h => .inr (one _ h))

theorem builder_alloc {w : World} {B b : Nat} {T : TypeId} {bs : List Value} (h : Lib.IsBuilderF T 5 B b bs w) (o : Obj) : Lib.IsBuilderF T 5 B b bs (w.alloc o) :=
  h.elim (fun h => .inl (h.alloc o)) (fun h => .inr (h.alloc o))

theorem builder_lt {w : World} {B b : Nat} {T : TypeId} {bs : List Value} (h : Lib.IsBuilderF T 5 B b bs w) : b < w.heap.size :=
  h.elim (fun h => h.lt) (fun h => h.lt)

end Go.Proofs.YtdniojbplakeoaaDoor
