/-
  Bytes of a text that a call turns in place: '[]byte(s)', a byte written, 'string(b)'.
-/
import Derived.Laws.IdiomStrings
import Derived.Test.YtbmjmiioobgbfaaGreatDoorBase
namespace Go.Proofs.YtbmjmiioobgbfaaGreatDoor
open Go Go.RowKit
set_option maxRecDepth 100000

/-- Block g begins by these bytes, and they may be written. -/
def BufAt (w : World) (g : Nat) (l : List UInt8) : Prop := g < w.heap.size ∧ (∀ j, j < l.length → w.cell? ⟨g, j, none⟩ = some (.int .u8 ((l.getD j 0).toNat : Int))) ∧ ∀ j, j < l.length → w.frozen? ⟨g, j, none⟩ = false

theorem BufAt.cell {w : World} {g : Nat} {l : List UInt8} (h : BufAt w g l) {j : Nat} (hj : j < l.length) : w.cell? ⟨g, j, none⟩ = some (.int .u8 ((l.getD j 0).toNat : Int)) := h.2.1 j hj
theorem BufAt.free {w : World} {g : Nat} {l : List UInt8} (h : BufAt w g l) {j : Nat} (hj : j < l.length) : w.frozen? ⟨g, j, none⟩ = false := h.2.2 j hj
theorem BufAt.set {w : World} {g : Nat} {l : List UInt8} (h : BufAt w g l) {k : Nat} (hk : k < l.length) (b : UInt8) {v : Int} (hv : v = (b.toNat : Int)) : BufAt (w.setCell ⟨g, k, none⟩ (.int .u8 v)) g (l.set k b) := by
  subst hv
  obtain ⟨h0, h1, h2⟩ := h
  refine ⟨by simpa [World.setCell] using h0, fun j hj => ?_, fun j hj => ?_⟩
  · rw [List.length_set] at hj
    by_cases e : j = k
    · subst e
      rw [World.cell?_setCell_same' _ _ _ (by rw [h1 j hj]; rfl)]
      rw [List.getD_eq_getElem?_getD, List.getElem?_set_self hj]; rfl
    · rw [World.cell?_setCell_other _ _ _ _ (by intro he; injection he; omega), h1 j hj]
      rw [List.getD_eq_getElem?_getD, List.getD_eq_getElem?_getD, List.getElem?_set_ne (fun he => e he.symm)]
  · rw [List.length_set] at hj
    rw [World.frozen?_setCell]; exact h2 j hj
theorem BufAt.below {w w' : World} {g n : Nat} {l : List UInt8} (h : BufAt w g l) (hg : g < n) (hb : Below n w w') : BufAt w' g l :=
  ⟨Nat.lt_of_lt_of_le h.1 hb.size, fun j hj => (hb.cell (p := ⟨g, j, none⟩) hg).trans (h.2.1 j hj), fun j hj => (hb.frozen (p := ⟨g, j, none⟩) hg).trans (h.2.2 j hj)⟩

/-- '[]byte(s)'. -/
theorem run_bytes (w : World) (s : List UInt8) : ∃ c W1, (convert 9 87 (.string (str s))).run Tryz.prog w = .ok (.slice (some ⟨w.heap.size, 0, none⟩) s.length c) W1 ∧ BufAt W1 w.heap.size s ∧ Below w.heap.size w W1 ∧ s.length ≤ c := by
  have hsz : (str s).size = s.length := by simp [ByteArray.size]
  have h := run_bytes_of_string (P := Tryz.prog) w 9 87 5 (str s) Tryz.underlying9 Tryz.underlying87 Tryz.underlying5
  rw [hsz] at h
  obtain ⟨c, hc⟩ : ∃ c, c = grownCap w s.length 0 5 := ⟨_, rfl⟩
  have hcl : s.length ≤ c := by rw [hc]; exact grownCap_ge _ _ _ _
  rw [← hc] at h
  refine ⟨c, _, h, ⟨?_, fun j hj => ?_, fun j hj => ?_⟩, ?_, hcl⟩
  · rw [World.size_alloc]; exact Nat.lt_succ_self _
  · have e := World.cell?_alloc_mark w.drew (bytesRow (str s) c) 5 ((bytesRow (str s) c).size, (bytesRow (str s) c).size + 1) j
    have e2 : w.drew.heap.size = w.heap.size := rfl
    rw [e2] at e
    rw [e, bytesRow_at (str s) c j (by simpa using hj), getD_str s j hj]
    simp
  · have e := World.frozen?_alloc_mark w.drew (bytesRow (str s) c) 5 (bytesRow (str s) c).size ((bytesRow (str s) c).size + 1) j
    have e2 : w.drew.heap.size = w.heap.size := rfl
    rw [e2] at e
    rw [e]
    have : s.length ≤ (bytesRow (str s) c).size := by unfold bytesRow; simp
    rw [decide_eq_false (show ¬ (bytesRow (str s) c).size ≤ j by omega)]; rfl
  · exact ((Below.refl _ w).drew).alloc (Nat.le_refl _) _

/-- 'string(b)'. -/
theorem run_text {w : World} {g : Nat} {l : List UInt8} (h : BufAt w g l) (c n : Nat) (hn : n = l.length) : (convert 87 9 (.slice (some ⟨g, 0, none⟩) n c)).run Tryz.prog w = .ok (.string (str l)) w := by
  subst hn
  refine run_convert_bytes_back w 87 9 5 ⟨g, 0, none⟩ c l Tryz.underlying87 Tryz.underlying5 Tryz.underlying9 (fun j hj => ?_)
  have e1 : (⟨g, 0, none⟩ : Addr).add j = ⟨g, j, none⟩ := by unfold Addr.add; split <;> simp_all
  rw [e1, h.cell hj, getD_str l j hj]
end Go.Proofs.YtbmjmiioobgbfaaGreatDoor
