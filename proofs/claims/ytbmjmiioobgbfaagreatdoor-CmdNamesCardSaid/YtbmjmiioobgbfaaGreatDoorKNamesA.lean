/-
  CmdNames: its rows in letters.
-/
import Derived.Test.YtbmjmiioobgbfaaGreatDoorKNames1
namespace Go.Proofs.YtbmjmiioobgbfaaGreatDoor
open Go Go.RowKit Go.Shelf
set_option maxRecDepth 100000
set_option linter.unusedSimpArgs false
set_option linter.unusedVariables false

theorem row_ok {k : Nat} (hk : k < 8) : parseK (nmRows.getD k row0).1 = ((nmRows.getD k row0).2, 0) := by
  have h : nmRows.getD k row0 ∈ nmRows := by rw [List.getD_eq_getElem?_getD, List.getElem?_eq_getElem (show k < nmRows.length from hk)]; exact List.getElem_mem _
  simpa using List.all_eq_true.1 nm_rows _ h
theorem bad_ok {k : Nat} (hk : k < 30) : (parseK (nmBad.getD k [])).2 = 4 := by
  have h : nmBad.getD k [] ∈ nmBad := by rw [List.getD_eq_getElem?_getD, List.getElem?_eq_getElem (show k < nmBad.length from hk)]; exact List.getElem_mem _
  simpa using List.all_eq_true.1 nm_bad _ h
theorem cms_ok {k : Nat} (hk : k < 12) : mayK (nmCms.getD k cm0) = false ∧ SM (nmCms.getD k cm0) := by
  have h : nmCms.getD k cm0 ∈ nmCms := by rw [List.getD_eq_getElem?_getD, List.getElem?_eq_getElem (show k < nmCms.length from hk)]; exact List.getElem_mem _
  exact ⟨by simpa using List.all_eq_true.1 nm_cms _ h, sm_cms _ h⟩
theorem row_small {k : Nat} (hk : k < 8) : (nmRows.getD k row0).1.length ≤ 510 := by
  have h : nmRows.getD k row0 ∈ nmRows := by rw [List.getD_eq_getElem?_getD, List.getElem?_eq_getElem (show k < nmRows.length from hk)]; exact List.getElem_mem _
  exact nm_rows_small _ h

theorem sm_of_parse2 {s : List UInt8} {c : Cm} {e : Nat} (h : parseK s = (c, e)) (hs : s.length ≤ 510) : SM c := by
  have := sm_of_parse hs
  rw [h] at this
  exact this
/-- One row, in letters. -/
theorem row_open {g n : Nat} {W : World} (h : RowsAt g n W) {k : Nat} (hk : k < 8) : ∃ (s : List UInt8) (c : Cm) (A : Option Addr) (cp : Nat),
    W.cell? ⟨g, k * 4, none⟩ = some (sv s) ∧ W.cell? ⟨g, k * 4 + 1, none⟩ = some (.int .u8 (c.verb : Int)) ∧ W.cell? ⟨g, k * 4 + 2, none⟩ = some (sv c.arg) ∧ W.cell? ⟨g, k * 4 + 3, none⟩ = some (.slice A c.ps.length cp) ∧
    PR W (.slice A c.ps.length cp) c.ps ∧ parseK s = (c, 0) ∧ SM c := by
  obtain ⟨q0, q1, q2, q3⟩ := h.at_ k hk
  have hrw := h.row k hk
  obtain ⟨A, cp, hA⟩ := hrw.form
  rw [hA] at q3 hrw
  exact ⟨_, _, A, cp, q0, q1, q2, q3, hrw, row_ok hk, sm_of_parse2 (row_ok hk) (row_small hk)⟩
theorem bad_open {g : Nat} {W : World} (h : BadAt g W) {k : Nat} (hk : k < 30) : ∃ s : List UInt8, W.cell? ⟨g, k, none⟩ = some (sv s) ∧ (parseK s).2 = 4 := ⟨_, h.at_ k hk, bad_ok hk⟩
theorem cms_open {g n : Nat} {W : World} (h : CmsAt g n W) {k : Nat} (hk : k < 12) : ∃ (c : Cm) (A : Option Addr) (cp : Nat),
    W.cell? ⟨g, k * 3, none⟩ = some (.int .u8 (c.verb : Int)) ∧ W.cell? ⟨g, k * 3 + 1, none⟩ = some (sv c.arg) ∧ W.cell? ⟨g, k * 3 + 2, none⟩ = some (.slice A c.ps.length cp) ∧ PR W (.slice A c.ps.length cp) c.ps ∧ mayK c = false ∧ SM c := by
  obtain ⟨q0, q1, q2⟩ := h.at_ k hk
  have hrw := h.row k hk
  obtain ⟨A, cp, hA⟩ := hrw.form
  rw [hA] at q2 hrw
  exact ⟨_, A, cp, q0, q1, q2, hrw, (cms_ok hk).1, (cms_ok hk).2⟩

theorem c4 {W : World} {g : Nat} {a x y z : Value} {T : TypeId} (h : W.heap[g]? = some (.cells #[a, x, y, z] T (0, 0))) : W.cell? ⟨g, 0, none⟩ = some a ∧ W.cell? ⟨g, 1, none⟩ = some x ∧ W.cell? ⟨g, 2, none⟩ = some y ∧ W.cell? ⟨g, 3, none⟩ = some z :=
  ⟨by rw [cellAt h]; rfl, by rw [cellAt h]; rfl, by rw [cellAt h]; rfl, by rw [cellAt h]; rfl⟩

theorem KR.bare {w W : World} {L : List (Nat × Array Value)} {R : List (Value × List PM)} (h : KR w L R W) : KR w [] [] W := ⟨h.bl, h.lw, (fun _ h => by cases h), fun _ h => by cases h⟩
theorem show_no {c : Cm} (h : mayK c = false) : showK c = ([], 4) := by unfold showK; rw [h]; rfl

/-- The command that the law changes: its parameter's value is r. -/
structure FU (w : World) (ga gf : Nat) (r : List UInt8) (W : World) : Prop where
  par : W.heap[ga]? = some (.cells #[sv [88], sv r] 38 (0, 0))
  cmd : W.heap[gf]? = some (.cells #[.int .u8 3, sv [], .slice (some ⟨ga, 0, none⟩) 1 1] 41 (0, 0))
  bl : Below w.heap.size w W
  lw : LW W
  ge : w.heap.size ≤ ga
  ne : gf ≠ ga
theorem FU.step {w W W' : World} {ga gf : Nat} {r : List UInt8} (h : FU w ga gf r W) (hb : Below W.heap.size W W') : FU w ga gf r W' :=
  ⟨blk_below h.par hb, blk_below h.cmd hb, h.bl.trans (hb.mono h.bl.size), h.lw.below hb, h.ge, h.ne⟩
theorem FU.drew {w W : World} {ga gf : Nat} {r : List UInt8} (h : FU w ga gf r W) : FU w ga gf r W.drew := h.step (Below.refl _ _).drew
theorem FU.set {w W : World} {ga gf : Nat} {r : List UInt8} (h : FU w ga gf r W) (hL : LW w) (r' : List UInt8) : FU w ga gf r' (W.setCell ⟨ga, 1, none⟩ (sv r')) := by
  have hb : Below w.heap.size w (W.setCell ⟨ga, 1, none⟩ (sv r')) := h.bl.setCell h.ge _
  exact ⟨by simp [World.setCell, Array.getElem?_modify, h.par], by rw [Below.heap_setCell _ _ _ _ h.ne]; exact h.cmd, hb, hL.below hb, h.ge, h.ne⟩
theorem FU.facts {w W : World} {ga gf : Nat} {r : List UInt8} (h : FU w ga gf r W) : W.cell? ⟨gf, 2, none⟩ = some (.slice (some ⟨ga, 0, none⟩) 1 1) ∧ W.cell? ⟨ga, 1, none⟩ = some (sv r) ∧ W.frozen? ⟨ga, 1, none⟩ = false :=
  ⟨by rw [cellAt h.cmd]; rfl, by rw [cellAt h.par]; rfl, freeAt h.par 1⟩
theorem FU.kr {w W : World} {ga gf : Nat} {r : List UInt8} (h : FU w ga gf r W) : KR w [(gf, #[.int .u8 3, sv [], .slice (some ⟨ga, 0, none⟩) 1 1])] [(.slice (some ⟨ga, 0, none⟩) 1 1, [([88], r)])] W :=
  ⟨h.bl, h.lw, fun p hp => by
    rw [List.mem_singleton] at hp
    subst hp
    exact h.cmd, fun p hp => by
    rw [List.mem_singleton] at hp
    subst hp
    exact pr_block h.par (fun j hj => by
      match j, hj with
      | 0, _ => exact ⟨rfl, rfl⟩) 1 rfl⟩
end Go.Proofs.YtbmjmiioobgbfaaGreatDoor
