/-
  A world that lies behind another one, with the library's variable as it was; the contracts of package name in its words; a literal of texts.
-/
import Derived.Test.YtnlmlhjegjphiaaDoorNRest
import Derived.Test.YtnlmlhjegjphiaaDoorNLabels
namespace Go.Proofs.YtnlmlhjegjphiaaDoor
open Go Go.RowKit
set_option maxRecDepth 100000

/-- Behind w0, with new memory alone; the library's variable is there. -/
def BL (w0 w : World) : Prop := Below w0.heap.size w0 w ∧ ML w
theorem BL.start {w : World} (h : ML w) : BL w w := ⟨Below.refl _ _, h⟩
theorem BL.below {w0 w : World} (h : BL w0 w) : Below w0.heap.size w0 w := h.1
theorem BL.ml {w0 w : World} (h : BL w0 w) : ML w := h.2
theorem BL.step {w0 w w' : World} (h : BL w0 w) (hb : Below w.heap.size w w') : BL w0 w' := ⟨h.1.trans (hb.mono h.1.size), h.2.step hb⟩
theorem BL.alloc {w0 w : World} (h : BL w0 w) (o : Obj) : BL w0 (w.alloc o) := h.step ((Below.refl _ _).alloc (Nat.le_refl _) _)
theorem BL.drew {w0 w : World} (h : BL w0 w) : BL w0 w.drew := ⟨h.1.drew, h.2⟩
theorem BL.drewN {w0 w : World} (h : BL w0 w) (k : Nat) : BL w0 (w.drewN k) := ⟨⟨h.1.os, h.1.tape, h.1.output, h.1.size, h.1.block⟩, h.2⟩

theorem bl {w0 w : World} {f : Nat} {args : Array Value} {v : Value} (h : Calls Tryd.prog f args w fun e w' => e = .returned v ∧ Below w.heap.size w w') (hb : BL w0 w) :
    Calls Tryd.prog f args w fun e w' => e = .returned v ∧ BL w0 w' := h.mono fun _ _ ⟨he, h⟩ => ⟨he, hb.step h⟩
/-- The same, with what lies below kept. -/
theorem blk {w0 w : World} {f : Nat} {args : Array Value} {v : Value} (h : Calls Tryd.prog f args w fun e w' => e = .returned v ∧ Below w.heap.size w w') (hb : BL w0 w) :
    Calls Tryd.prog f args w fun e w' => e = .returned v ∧ (BL w0 w' ∧ ∀ g, g < w.heap.size → w'.heap[g]? = w.heap[g]?) := h.mono fun _ _ ⟨he, h⟩ => ⟨he, hb.step h, fun g hg => h.block g hg⟩

/-- A literal of texts, in a world behind. -/
theorem lit_cell {w : World} {g k : Nat} {xs : List (List UInt8)} (h : w.heap[g]? = some (.cells (xs.map sv).toArray 9 (0, 0))) (hk : k < xs.length) : w.cell? ⟨g, k, none⟩ = some (sv (xs.getD k [])) := by
  rw [cellAt h]
  simp [List.getD_eq_getElem?_getD, hk]
theorem getD_mem {xs : List (List UInt8)} {k : Nat} (hk : k < xs.length) : xs.getD k [] ∈ xs := by
  rw [List.getD_eq_getElem?_getD, List.getElem?_eq_getElem hk]
  exact List.getElem_mem hk

section
variable {w0 w : World}
theorem bl_may {x : List UInt8} {r : Bool} (e : mayL x = r) (hx : x.length ≤ 1000000) (h : BL w0 w) : Calls Tryd.prog 12 #[.string (str x)] w fun e w' => e = .returned (.bool r) ∧ BL w0 w' := by
  have := bl (may_any x w hx h.ml) h
  rwa [e] at this
theorem bl_fold {x : List UInt8} {r : Option (List UInt8)} (e : foldL x = r) (hx : x.length ≤ 1000000) (h : BL w0 w) : Calls Tryd.prog 17 #[.string (str x)] w fun e w' => e = .returned (foldV r) ∧ BL w0 w' := by
  have := bl (fold_any x w hx h.ml) h
  rwa [e] at this
theorem bl_parent {x : List UInt8} {r : Option (List UInt8)} (e : parentL x = r) (hx : x.length ≤ 1000000) (h : BL w0 w) : Calls Tryd.prog 13 #[.string (str x)] w fun e w' => e = .returned (optV r) ∧ BL w0 w' := by
  have := bl (parent_any x w hx h.ml) h
  rwa [e] at this
theorem bl_under {a x : List UInt8} {r : Option (List UInt8)} (e : underL a x = r) (ha : a.length ≤ 1000000) (hx : x.length ≤ 1000000) (h : BL w0 w) : Calls Tryd.prog 14 #[.string (str a), .string (str x)] w fun e w' => e = .returned (optV r) ∧ BL w0 w' := by
  have := bl (under_any a x w ha hx h.ml) h
  rwa [e] at this
theorem bl_match {p x : List UInt8} {r : Bool} (e : matchL p x = r) (hp : p.length ≤ 1000000) (hx : x.length ≤ 1000000) (h : BL w0 w) : Calls Tryd.prog 16 #[.string (str p), .string (str x)] w fun e w' => e = .returned (.bool r) ∧ BL w0 w' := by
  have := bl (match_any p x w hp hx h.ml) h
  rwa [e] at this
theorem bl_pattern {x : List UInt8} {r : Bool} (e : patL x = r) (hx : x.length ≤ 1000000) (h : BL w0 w) : Calls Tryd.prog 18 #[.string (str x)] w fun e w' => e = .returned (.bool r) ∧ BL w0 w' := by
  have := bl (pattern_any x w hx h.ml) h
  rwa [e] at this
theorem bl_compare {a b : List UInt8} {r : Int} (e : Lib.compareBytes a b = r) (h : BL w0 w) : Calls Tryd.prog 19 #[.string (str a), .string (str b)] w fun e w' => e = .returned (.int .i64 r) ∧ BL w0 w' := by
  have h2 : Calls Tryd.prog 19 #[.string (str a), .string (str b)] w fun e w' => e = .returned (.int .i64 (Lib.compareBytes a b)) ∧ Below w.heap.size w w' := (compare_any a b w).mono fun _ _ ⟨h1, h2⟩ => ⟨h1, h2 ▸ Below.refl _ _⟩
  have := bl h2 h
  rwa [e] at this
/-- What Labels leaves, in a world behind. -/
theorem bl_labels {x : List UInt8} (hx : x.length ≤ 1000000) (h : BL w0 w) : Calls Tryd.prog 15 #[.string (str x)] w fun e w' => ∃ v, e = .returned v ∧ GV 9 w v ((labelsL x).map sv) w' ∧ BL w0 w' :=
  (labels_call x w hx h.ml).mono fun _ _ ⟨v, h1, h2⟩ => ⟨v, h1, h2, h.step h2.1⟩
end
end Go.Proofs.YtnlmlhjegjphiaaDoor
