/-
  Contracts of package cmd's adder, and of the closure that it makes.
-/
import Derived.Deep.RegionLaw
import Derived.Test.YtbmjmiioobgbfaaGreatDoorKRow
import Derived.Test.YtbmjmiioobgbfaaGreatDoorKRead1
namespace Go.Proofs.YtbmjmiioobgbfaaGreatDoor
open Go Go.RowKit Go.Shelf
set_option maxRecDepth 100000
set_option linter.unusedSimpArgs false
set_option linter.unusedVariables false

/-- What the closure holds: the pointer in block k, the command in block m; its row is made from B on. -/
structure AD (w : World) (B k m : Nat) (vb a u : Value) (ps : List PM) (W : World) : Prop where
  bk : BK w W
  up : w.heap.size ≤ m ∧ m < B ∧ k < B ∧ B ≤ W.heap.size ∧ k ≠ m
  kk : W.heap[k]? = some (.cells #[.pointer (some ⟨m, 0, none⟩)] 92 (0, 0))
  mm : W.heap[m]? = some (.cells #[vb, a, u] 41 (0, 0))
  own : PO 38 B W u ps
theorem AD.step {w W W' : World} {B k m : Nat} {vb a u : Value} {ps : List PM} (h : AD w B k m vb a u ps W) (hb : Below W.heap.size W W') : AD w B k m vb a u ps W' :=
  ⟨h.bk.step hb, ⟨h.up.1, h.up.2.1, h.up.2.2.1, Nat.le_trans h.up.2.2.2.1 hb.size, h.up.2.2.2.2⟩, blk_below h.kk hb, blk_below h.mm hb, h.own.below hb⟩
theorem AD.drew {w W : World} {B k m : Nat} {vb a u : Value} {ps : List PM} (h : AD w B k m vb a u ps W) : AD w B k m vb a u ps W.drew := h.step (Below.refl _ _).drew

/-- What an append of one does. -/
theorem AD.app {w W : World} {B k m : Nat} {vb a u : Value} {ps : List PM} (hL : LW w) (h : AD w B k m vb a u ps W) (n x : List UInt8) (hl : ps.length ≤ 1000) :
    ∃ g cap w2, (Builtin.append_ #[35, 35] 35 #[u, .slice (some ⟨W.heap.size, 0, none⟩) 1 1]).run Tryz.prog (W.alloc (.cells #[sv n, sv x] 38)) = .ok (.slice (some ⟨g, 0, none⟩) (ps.length + 1) cap) w2 ∧
      (w2.cell? ⟨k, 0, none⟩ = some (.pointer (some ⟨m, 0, none⟩)) ∧ w2.cell? ⟨m, 2, none⟩ = some u ∧ w2.frozen? ⟨m, 2, none⟩ = false) ∧
      AD w B k m vb a (.slice (some ⟨g, 0, none⟩) (ps.length + 1) cap) (ps ++ [(n, x)]) (w2.setCell ⟨m, 2, none⟩ (.slice (some ⟨g, 0, none⟩) (ps.length + 1) cap)) := by
  obtain ⟨h0, h1, h2, h3, h4⟩ := h.up
  obtain ⟨g, cap, w2, hrun, hown, hgr, hor⟩ := po_append Tryz.underlying35 info_param (by decide) h.own h3 (by omega) n x
  have ha := h.step (below_alloc W (.cells #[sv n, sv x] 38))
  have hrow : ∀ j, u.ownBlock = some j → B ≤ j := fun j e => (h.own.lt e).1
  have kk2 : w2.heap[k]? = some (.cells #[.pointer (some ⟨m, 0, none⟩)] 92 (0, 0)) := (hgr.block _ (lt_of_blk ha.kk) (fun e => by have := hrow _ e.symm; omega)).trans ha.kk
  have mm2 : w2.heap[m]? = some (.cells #[vb, a, u] 41 (0, 0)) := (hgr.block _ (lt_of_blk ha.mm) (fun e => by have := hrow _ e.symm; omega)).trans ha.mm
  have hb2 : Below w.heap.size w w2 := ha.bk.below.grown hgr ha.bk.size fun j e => by have := hrow j e; omega
  have hb3 := hb2.setCell (p := ⟨m, 2, none⟩) h0 (.slice (some ⟨g, 0, none⟩) (ps.length + 1) cap)
  refine ⟨g, cap, w2, hrun, ⟨by rw [cellAt kk2]; rfl, by rw [cellAt mm2]; rfl, freeAt mm2 2⟩, ⟨hb3, hL.below hb3⟩, ⟨h0, h1, h2, ?_, h4⟩, ?_, ?_, ?_⟩
  · have := hgr.size
    simp [World.setCell] at this ⊢
    omega
  · rw [heap_set_ne _ (by omega)]; exact kk2
  · simp [World.setCell, Array.getElem?_modify, mm2]
  · have := hown.set (b := m) (i := 2) (fun j e => by have := (hown.lt e).1; omega) (.slice (some ⟨g, 0, none⟩) (ps.length + 1) cap)
    exact this

theorem adder_any (m : Nat) (w : World) :
    Calls Tryz.prog 58 #[.pointer (some ⟨m, 0, none⟩)] w fun e w' => e = .returned (.func (.func 98) #[] #[.pointer (some ⟨w.heap.size, 0, none⟩)]) ∧ w' = w.alloc (.cells #[.pointer (some ⟨m, 0, none⟩)] 92) := by
  go_enter Tryz.func58, Tryz.ntmps58
  go_wp2
  go_ret
  exact ⟨rfl, rfl⟩

set_option maxHeartbeats 4000000 in
theorem adder1_any {w W : World} {B k m : Nat} {vb a u : Value} {ps : List PM} (hL : LW w) (h : AD w B k m vb a u ps W) (is : Bool) (n x : List UInt8) (hl : ps.length ≤ 1000) (hx : x.length ≤ 1000000) :
    Calls Tryz.prog 98 #[.bool is, sv n, sv x, .pointer (some ⟨k, 0, none⟩)] W fun e W' => e = .returned (.tuple #[]) ∧ ∃ u', AD w B k m vb a u' (ps ++ optP is (n, x)) W' := by
  cases is with
  | false =>
    have H := Lib.hid h
    clear h
    go_enter Tryz.func98, Tryz.ntmps98
    go_wp2
    go_end0
    exact ⟨rfl, u, by unfold optP; simpa using H.out⟩
  | true =>
    have HCL := Lib.hid (fun W (hW : AD w B k m vb a u ps W) => (clone_any (str x) W (by simp [ByteArray.size]; omega)).mono (R' := fun e W' => e = .returned (.string (str x)) ∧ AD w B k m vb a u ps W') fun _ _ ⟨e1, e2⟩ => ⟨e1, hW.step e2⟩)
    have HAP := Lib.hid (fun W (hW : AD w B k m vb a u ps W) => hW.app hL n x hl)
    have HC := Lib.hid (show ∀ W, AD w B k m vb a u ps W → W.cell? ⟨k, 0, none⟩ = some (.pointer (some ⟨m, 0, none⟩)) ∧ W.cell? ⟨m, 2, none⟩ = some u ∧ k < W.heap.size ∧ m < W.heap.size from fun W hW => ⟨by rw [cellAt hW.kk]; rfl, by rw [cellAt hW.mm]; rfl, lt_of_blk hW.kk, lt_of_blk hW.mm⟩)
    obtain ⟨A, cp, hu⟩ := h.own.form
    subst hu
    obtain ⟨c0, c1, l0, l1⟩ := HC.out _ h
    have h0X := h
    clear h
    go_enter Tryz.func98, Tryz.ntmps98
    go_wp2_with fail
    go_region_law (first
      | (go_simp; go_at_call 57; with_reducible refine (HCL.out _ (by first | exact h0X | exact AD.drew h0X)).mono ?_; rintro e1 w8 ⟨rfl, hR⟩; obtain ⟨d0, d1, l8, l9⟩ := HC.out _ hR; obtain ⟨g, cap, w9, hrun, ⟨y0, y1, y2⟩, hfin⟩ := HAP.out _ hR; have HRUN := Lib.hid hrun; have HFIN := Lib.hid hfin; clear hrun hfin hR)
      | (refine step_app rfl (.tmp 12) (.tmp 17) 35 rfl rfl rfl HRUN.out ?_))
    all_goals
      go_wp2
      go_end0
      exact ⟨rfl, _, by unfold optP; exact HFIN.out⟩
end Go.Proofs.YtbmjmiioobgbfaaGreatDoor
