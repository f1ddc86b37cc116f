/-
  Contracts of package caps: the closure by which Texts adds; Texts.
-/
import Derived.Deep.RegionHeld3
import Derived.Test.YtanfonpbnamjmaaDoorTextRow
import Derived.Test.YtanfonpbnamjmaaDoorCOf
namespace Go.Proofs.YtanfonpbnamjmaaDoor
open Go Go.RowKit Go.Shelf
set_option maxRecDepth 100000

/-- What Texts holds: what it was handed in block k3, the row so far in the variable of block ko. -/
structure AI (w : World) (k3 ko : Nat) (c : Cp) (xs : List (List UInt8)) (v : Value) (W : World) : Prop where
  lw : LW w
  bl : BL w W
  up : w.heap.size ≤ ko ∧ k3 ≠ ko
  cb : CB W k3 c
  box : Bx W ko v 28
  own : W.ownsRow w.heap.size 9 1 v xs.length (xs.map sv)
  ne : ∀ g, v.ownBlock = some g → g ≠ ko ∧ g ≠ k3
theorem AI.below {w W W' : World} {k3 ko : Nat} {c : Cp} {xs : List (List UInt8)} {v : Value} (h : AI w k3 ko c xs v W) (hb : Below W.heap.size W W') : AI w k3 ko c xs v W' :=
  ⟨h.lw, h.bl.step hb, h.up, blk_below h.cb hb, blk_below h.box hb, owns_below h.own hb, h.ne⟩
theorem AI.app {w W w' : World} {k3 ko : Nat} {c : Cp} {xs : List (List UInt8)} {v : Value} {t : List UInt8} {C : Array Value} {g cap : Nat} (h : AI w k3 ko c xs v W)
    (hown : w'.ownsRow w.heap.size 9 1 (.slice (some ⟨g, 0, none⟩) (xs.length + 1) cap) (xs.length + 1) ((xs ++ [t]).map sv)) (hgr : (W.alloc (.cells C 9)).grownBy w' v.ownBlock) (hor : v.ownBlock = some g ∨ g = W.heap.size + 1) :
    Bx w' ko v 28 ∧ AI w k3 ko c (xs ++ [t]) (.slice (some ⟨g, 0, none⟩) (xs.length + 1) cap) (w'.setCell ⟨ko, 0, none⟩ (.slice (some ⟨g, 0, none⟩) (xs.length + 1) cap)) := by
  have hz := h.bl.size
  have hko := h.box.lt
  have hk3 := lt_of_blk h.cb
  have hgne : g ≠ ko ∧ g ≠ k3 := by
    rcases hor with e | e
    · exact h.ne g e
    · omega
  have hbox : Bx w' ko v 28 := (hgr.block ko (by simp; omega) (by
    intro e
    exact (h.ne ko e.symm).1 rfl)).trans (Bx.alloc h.box _)
  have hcb : CB w' k3 c := (hgr.block k3 (by simp; omega) (by
    intro e
    exact (h.ne k3 e.symm).2 rfl)).trans ((Lib.alloc_old _ _ _ hk3).trans h.cb)
  have hbl : Below w.heap.size w w' := by
    refine Below.grown (h.bl.below.alloc hz _) hgr (by simp; omega) fun j hj => ?_
    exact (h.own.lt j hj).1
  have hl : LW w' := h.lw.below hbl
  refine ⟨hbox, h.lw, ⟨hbl.setCell (p := ⟨ko, 0, none⟩) h.up.1 _, h.lw.below (hbl.setCell (p := ⟨ko, 0, none⟩) h.up.1 _)⟩, h.up, ?_, hbox.set _, ?_, ?_⟩
  · exact (Below.heap_setCell _ _ _ _ (by exact h.up.2)).trans hcb
  · have := owns_set hown (p := ⟨ko, 0, none⟩) (fun g' e => by
      simp only [Value.ownBlock, Option.some.injEq] at e
      subst e; exact fun e => hgne.1 e.symm) (.slice (some ⟨g, 0, none⟩) (xs.length + 1) cap)
    rw [List.length_append]
    exact this
  · intro g' e
    simp only [Value.ownBlock, Option.some.injEq] at e
    subst e; exact hgne

def AddPost (w : World) (k3 ko : Nat) (c : Cp) (xs : List (List UInt8)) (e : Ending) (W' : World) : Prop := e = .returned (.tuple #[]) ∧ ∃ v', AI w k3 ko c xs v' W'

set_option maxHeartbeats 1000000 in
theorem add_any {w W : World} {k3 ko : Nat} {c : Cp} {xs : List (List UInt8)} {v : Value} (h : AI w k3 ko c xs v W) (b : Bool) (t : List UInt8) (hl : xs.length ≤ 1000) :
    Calls Tryd.prog 63 #[.bool b, sv t, .pointer (some ⟨ko, 0, none⟩)] W (AddPost w k3 ko c (xs ++ opt b t)) := by
  cases b with
  | false =>
    have H := Lib.hid h
    clear h
    go_enter Tryd.func63, Tryd.ntmps63
    go_wp2_with fail
    go_end0
    exact ⟨rfl, v, by unfold opt; simpa using H.out⟩
  | true =>
    have H := Lib.hid h
    have c0 := h.box.cell
    have HO := Lib.hid h.own
    have hz := h.bl.size
    clear h
    go_enter Tryd.func63, Tryd.ntmps63
    go_wp2_with (at_builtin; refine row_append HO.out hz (by omega) t _ rfl _ _ rfl rfl rfl _ rfl ?_; intro g cap w' hown hgr hor hlt; have HA := H.out.app hown hgr hor; have c1 := HA.1.cell; have f1 := HA.1.free; have HF := Lib.hid HA.2; clear HA hown hgr hor hlt)
    go_end0
    exact ⟨rfl, _, HF.out⟩
end Go.Proofs.YtanfonpbnamjmaaDoor
