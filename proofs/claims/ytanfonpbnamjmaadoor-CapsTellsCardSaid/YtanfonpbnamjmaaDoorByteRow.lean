/-
  A row of bytes of the call's own, its end marked or not ('[]byte(s)'): it is written in place, and made a text.
-/
import Derived.Laws.IdiomStrings
import Derived.Test.YtanfonpbnamjmaaDoorCW
namespace Go.Proofs.YtanfonpbnamjmaaDoor
open Go Go.RowKit
set_option maxRecDepth 100000

/-- In a world behind w0, block g is a row of the call's own that holds l. -/
structure RB (w0 : World) (g cap : Nat) (l : List UInt8) (W : World) : Prop where
  below : Below w0.heap.size w0 W
  up : w0.heap.size ≤ g
  lt : g < W.heap.size
  ok : l.length ≤ cap ∧ cap ≤ maxLen
  cell : ∀ j, j < l.length → W.cell? ⟨g, j, none⟩ = some (bv (l.getD j 0))
  free : ∀ j, j < cap → W.frozen? ⟨g, j, none⟩ = false

/-- '[]byte(s)'. -/
theorem rb_bytes (w0 w : World) (h : Below w0.heap.size w0 w) (s : List UInt8) (hs : s.length ≤ 1000000) : ∃ g cap W, (convert 9 29 (.string (str s))).run Tryd.prog w = .ok (.slice (some ⟨g, 0, none⟩) s.length cap) W ∧ RB w0 g cap s W := by
  have hsz : (str s).size = s.length := by simp [ByteArray.size]
  have hr := run_bytes_of_string (P := Tryd.prog) w 9 29 5 (str s) Tryd.underlying9 Tryd.underlying29 Tryd.underlying5
  rw [hsz] at hr
  obtain ⟨c, hc⟩ : ∃ c, c = grownCap w s.length 0 5 := ⟨_, rfl⟩
  have hcl : s.length ≤ c := by rw [hc]; exact grownCap_ge _ _ _ _
  have hcm : c ≤ maxLen := by rw [hc]; exact grownCap_le_maxLen _ _ _ _ (by unfold maxLen; omega)
  rw [← hc] at hr
  have hbs : (bytesRow (str s) c).size = c := by
    unfold bytesRow
    simp only [Array.size_append, Array.size_map, Array.size_replicate]
    have : (str s).data.size = s.length := by simp
    rw [this, hsz]; omega
  have hcell : ∀ j, (w.drew.alloc (.cells (bytesRow (str s) c) 5 ((bytesRow (str s) c).size, (bytesRow (str s) c).size + 1))).cell? ⟨w.heap.size, j, none⟩ = (bytesRow (str s) c)[j]? := fun j => by
    have e := World.cell?_alloc_mark w.drew (bytesRow (str s) c) 5 ((bytesRow (str s) c).size, (bytesRow (str s) c).size + 1) j
    have e2 : w.drew.heap.size = w.heap.size := rfl
    rwa [e2] at e
  refine ⟨_, _, _, hr, ⟨(h.drew).alloc h.size _, h.size, by rw [World.size_alloc]; exact Nat.lt_succ_self _, ⟨hcl, hcm⟩, fun j hj => ?_, fun j hj => ?_⟩⟩
  · rw [hcell, bytesRow_at (str s) c j (by simpa using hj), getD_str s j hj]
    simp [bv]
  · have e := World.frozen?_alloc_mark w.drew (bytesRow (str s) c) 5 (bytesRow (str s) c).size ((bytesRow (str s) c).size + 1) j
    have e2 : w.drew.heap.size = w.heap.size := rfl
    rw [e2] at e
    rw [e, decide_eq_false (show ¬ (bytesRow (str s) c).size ≤ j by omega)]; rfl

theorem RB.drewN {w0 W : World} {g cap : Nat} {l : List UInt8} (h : RB w0 g cap l W) (n : Nat) : RB w0 g cap l (W.drewN n) := ⟨below_drewN h.below n, h.up, h.lt, h.ok, h.cell, h.free⟩
/-- A byte is written. -/
theorem RB.set {w0 W : World} {g cap : Nat} {l : List UInt8} (h : RB w0 g cap l W) {i : Nat} (hi : i < l.length) (b : UInt8) {z : Int} (hz : z = (b.toNat : Int)) : RB w0 g cap (l.set i b) (W.setCell ⟨g, i, none⟩ (.int .u8 z)) := by
  subst hz
  have hf := h.free i (by have := h.ok; omega)
  refine ⟨h.below.setCell (p := ⟨g, i, none⟩) h.up _, h.up, by simpa [World.setCell] using h.lt, by simpa using h.ok, fun j hj => ?_, fun j hj => ?_⟩
  · rw [List.length_set] at hj
    by_cases hij : i = j
    · subst hij
      rw [World.cell?_setCell_same _ _ _ (h.cell i hi)]
      rw [getD_str _ _ (by simpa using hi), List.getElem_set_self]
      rfl
    · rw [World.cell?_setCell_other _ _ _ _ (by intro e; injection e with _ e2 _; exact hij e2), h.cell j hj, getD_str l j hj, getD_str (l.set i b) j (by simpa using hj), List.getElem_set_ne hij]
  · rw [World.frozen?_setCell]; exact h.free j hj
/-- 'string(b)'. -/
theorem RB.text {w0 W : World} {g cap : Nat} {l : List UInt8} (h : RB w0 g cap l W) {n : Nat} (hn : n = l.length) : (convert 29 9 (.slice (some ⟨g, 0, none⟩) n cap)).run Tryd.prog W = .ok (.string (str l)) W := by
  subst hn
  refine run_convert_bytes_back W 29 9 5 ⟨g, 0, none⟩ cap l Tryd.underlying29 Tryd.underlying5 Tryd.underlying9 (fun j hj => ?_)
  have e1 : (⟨g, 0, none⟩ : Addr).add j = ⟨g, j, none⟩ := by unfold Addr.add; split <;> simp_all
  rw [e1, h.cell j hj, getD_str l j hj]
  rfl
end Go.Proofs.YtanfonpbnamjmaaDoor
