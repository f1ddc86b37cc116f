/-
  Worlds that lie behind another one, with the library's variable as it was; rows of texts as they lie; contracts carried through.
-/
import Derived.Test.YtbmjmiioobgbfaaGreatDoorNRCut
import Derived.Test.YtbmjmiioobgbfaaGreatDoorNIter
namespace Go.Proofs.YtbmjmiioobgbfaaGreatDoor
set_option linter.unusedSimpArgs false
set_option linter.unusedVariables false
open Go Go.RowKit
set_option maxRecDepth 100000

theorem below_of_drewN {w w' : World} {n : Nat} (h : Below (w.drewN n).heap.size (w.drewN n) w') : Below w.heap.size w w' := ⟨h.os, h.tape, h.output, h.size, h.block⟩
theorem str_append (a b : List UInt8) : str a ++ str b = str (a ++ b) := by
  apply ByteArray.ext
  simp [str, ByteArray.data_append]

theorem below_drewN {n : Nat} {w w' : World} (h : Below n w w') (k : Nat) : Below n w (w'.drewN k) := ⟨h.os, h.tape, h.output, h.size, h.block⟩

/-- A row of texts, as a slice's value names it. -/
def RowIs (w : World) (v : Value) (xs : List (List UInt8)) : Prop :=
  ∃ A c, v = .slice A xs.length c ∧ (0 < xs.length → ∃ g, A = some ⟨g, 0, none⟩ ∧ g < w.heap.size ∧ (∀ j, j < xs.length → w.cell? ⟨g, j, none⟩ = some (sv (xs.getD j []))) ∧ ∀ j, j < xs.length → w.frozen? ⟨g, j, none⟩ = false)
theorem GT.row {w0 w : World} {v : Value} {xs : List (List UInt8)} (h : GT w0 v xs w) : RowIs w v xs := by
  obtain ⟨A, c, rfl⟩ := h.form
  refine ⟨A, c, rfl, fun hp => ?_⟩
  obtain ⟨g, e, _, hl, hc, hf⟩ := h.cell hp
  exact ⟨g, e, hl, hc, hf⟩
theorem RowIs.step {w w' : World} {v : Value} {xs : List (List UInt8)} (h : RowIs w v xs) (hb : Below w.heap.size w w') : RowIs w' v xs := by
  obtain ⟨A, c, rfl, h⟩ := h
  refine ⟨A, c, rfl, fun hp => ?_⟩
  obtain ⟨g, e, hl, hc, hf⟩ := h hp
  exact ⟨g, e, Nat.lt_of_lt_of_le hl hb.size, fun j hj => (hb.cell (p := ⟨g, j, none⟩) hl).trans (hc j hj), fun j hj => (hb.frozen (p := ⟨g, j, none⟩) hl).trans (hf j hj)⟩

theorem rows_next {xs ys : List (List UInt8)} {k : Nat} (ha : ∀ j, j < k → xs.getD j [] = ys.getD j []) (h : xs.getD k [] = ys.getD k []) : ∀ j, j < k + 1 → xs.getD j [] = ys.getD j [] := by
  intro j hj
  by_cases e : j = k
  · rw [e]; exact h
  · exact ha j (by omega)
theorem rows_eq {xs ys : List (List UInt8)} (hl : xs.length = ys.length) (ha : ∀ j, j < xs.length → xs.getD j [] = ys.getD j []) : xs = ys := by
  refine List.ext_getElem hl fun j h1 h2 => ?_
  have := ha j h1
  rwa [List.getD_eq_getElem?_getD, List.getD_eq_getElem?_getD, List.getElem?_eq_getElem h1, List.getElem?_eq_getElem h2] at this

/-- Behind w0, with new memory alone; the library's variable is there. -/
def BL (w0 w : World) : Prop := Below w0.heap.size w0 w ∧ ML w
theorem BL.start {w : World} (h : ML w) : BL w w := ⟨Below.refl _ _, h⟩
theorem BL.below {w0 w : World} (h : BL w0 w) : Below w0.heap.size w0 w := h.1
theorem BL.ml {w0 w : World} (h : BL w0 w) : ML w := h.2
theorem BL.step {w0 w w' : World} (h : BL w0 w) (hb : Below w.heap.size w w') : BL w0 w' := ⟨h.1.trans (hb.mono h.1.size), h.2.step hb⟩
theorem BL.alloc {w0 w : World} (h : BL w0 w) (o : Obj) : BL w0 (w.alloc o) := h.step ((Below.refl _ _).alloc (Nat.le_refl _) _)
theorem BL.drew {w0 w : World} (h : BL w0 w) : BL w0 w.drew := ⟨h.1.drew, h.2⟩
theorem BL.drewN {w0 w : World} (h : BL w0 w) (k : Nat) : BL w0 (w.drewN k) := ⟨⟨h.1.os, h.1.tape, h.1.output, h.1.size, h.1.block⟩, h.2⟩

theorem bl {w0 w : World} {f : Nat} {args : Array Value} {v : Value} (h : Calls Tryz.prog f args w fun e w' => e = .returned v ∧ Below w.heap.size w w') (hb : BL w0 w) :
    Calls Tryz.prog f args w fun e w' => e = .returned v ∧ BL w0 w' := h.mono fun _ _ ⟨he, h⟩ => ⟨he, hb.step h⟩
/-- The same, with what lies below kept. -/
theorem blk {w0 w : World} {f : Nat} {args : Array Value} {v : Value} (h : Calls Tryz.prog f args w fun e w' => e = .returned v ∧ Below w.heap.size w w') (hb : BL w0 w) :
    Calls Tryz.prog f args w fun e w' => e = .returned v ∧ (BL w0 w' ∧ ∀ g, g < w.heap.size → w'.heap[g]? = w.heap[g]?) := h.mono fun _ _ ⟨he, h⟩ => ⟨he, hb.step h, fun g hg => h.block g hg⟩

/-- A literal of texts, in a world behind. -/
theorem lit_cell {w : World} {g k : Nat} {xs : List (List UInt8)} (h : w.heap[g]? = some (.cells (xs.map sv).toArray 9 (0, 0))) (hk : k < xs.length) : w.cell? ⟨g, k, none⟩ = some (sv (xs.getD k [])) := by
  rw [cellAt h]
  simp [List.getD_eq_getElem?_getD, hk]
theorem getD_mem {xs : List (List UInt8)} {k : Nat} (hk : k < xs.length) : xs.getD k [] ∈ xs := by
  rw [List.getD_eq_getElem?_getD, List.getElem?_eq_getElem hk]
  exact List.getElem_mem hk

/-- A contract of the reference's, where what it tells is known. -/
theorem blr {w0 w : World} {f : Nat} {args : Array Value} {α : Type} {V : α → Value} {x y : α} (h : Calls Tryz.prog f args w fun e w' => e = .returned (V x) ∧ Below w.heap.size w w') (e : x = y) (hb : BL w0 w) :
    Calls Tryz.prog f args w fun e w' => e = .returned (V y) ∧ BL w0 w' := e ▸ bl h hb

/-- A contract, with the step that it makes. -/
theorem bls {w0 w : World} {f : Nat} {args : Array Value} {α : Type} {V : α → Value} {x y : α} (h : Calls Tryz.prog f args w fun e w' => e = .returned (V x) ∧ Below w.heap.size w w') (e : x = y) (hb : BL w0 w) :
    Calls Tryz.prog f args w fun e w' => e = .returned (V y) ∧ Below w.heap.size w w' ∧ BL w0 w' := by
  subst e
  exact h.mono fun _ _ ⟨h1, h2⟩ => ⟨h1, h2, hb.step h2⟩

theorem BL.set {w0 w : World} (h : BL w0 w) (hM : ML w0) {g k : Nat} (hg : w0.heap.size ≤ g) (x : Value) : BL w0 (w.setCell ⟨g, k, none⟩ x) := by
  refine ⟨h.1.setCell (p := ⟨g, k, none⟩) hg x, ?_⟩
  exact hM.below (h.1.setCell (p := ⟨g, k, none⟩) hg x) hM.lt

end Go.Proofs.YtbmjmiioobgbfaaGreatDoor
