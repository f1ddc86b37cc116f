/-
  Rows of texts: read; a block of them that is filled.
-/
import Derived.Laws.MakeOwn
import Derived.Test.YthfnncahmccgkaaGreatDoorFPuM
namespace Go.Proofs.YthfnncahmccgkaaGreatDoor
set_option linter.unusedSimpArgs false
set_option linter.unusedVariables false
open Go Go.RowKit
set_option maxRecDepth 100000

/-- A slice at A reads as these texts. -/
def Tx (W : World) (A : Option Addr) (xs : List (List UInt8)) : Prop :=
  xs = [] ∨ ∃ b o, A = some ⟨b, o, none⟩ ∧ b < W.heap.size ∧ ∀ k, ∀ h : k < xs.length, W.cell? ⟨b, o + k, none⟩ = some (sv xs[k])
theorem Tx.below {W W' : World} {A : Option Addr} {xs : List (List UInt8)} (h : Tx W A xs) (hb : Below W.heap.size W W') : Tx W' A xs :=
  h.imp id fun ⟨b, o, e, hl, hc⟩ => ⟨b, o, e, Nat.lt_of_lt_of_le hl hb.size, fun k hk => (hb.cell (p := ⟨b, o + k, none⟩) hl).trans (hc k hk)⟩
theorem Tx.drew {W : World} {A : Option Addr} {xs : List (List UInt8)} (h : Tx W A xs) : Tx W.drew A xs := h
theorem Tx.cell {W : World} {A : Option Addr} {xs : List (List UInt8)} (h : Tx W A xs) {k : Nat} (hk : k < xs.length) : ∃ b o, A = some ⟨b, o, none⟩ ∧ W.cell? ⟨b, o + k, none⟩ = some (sv (xs.getD k [])) := by
  rcases h with rfl | ⟨b, o, e, _, hc⟩
  · simp at hk
  · refine ⟨b, o, e, ?_⟩
    rw [hc k hk, List.getD_eq_getElem?_getD, List.getElem?_eq_getElem hk]
    rfl
theorem Tx.lt {W : World} {b o : Nat} {xs : List (List UInt8)} (h : Tx W (some ⟨b, o, none⟩) xs) (h0 : 0 < xs.length) : b < W.heap.size := by
  rcases h with rfl | ⟨b', o', e, hl, _⟩
  · simp at h0
  · simp only [Option.some.injEq, Addr.mk.injEq, and_true] at e
    omega
def txs (xs : List (List UInt8)) : List Value := xs.map sv
theorem txs_length (xs : List (List UInt8)) : (txs xs).length = xs.length := by simp [txs]
/-- Block g holds these texts. -/
def TB (w : World) (g : Nat) (xs : List (List UInt8)) : Prop := w.heap[g]? = some (.cells (txs xs).toArray 9 (0, 0))
theorem TB.lt {w : World} {g : Nat} {xs : List (List UInt8)} (h : TB w g xs) : g < w.heap.size := lt_of_blk h
theorem TB.cell {w : World} {g : Nat} {xs : List (List UInt8)} (h : TB w g xs) {j : Nat} (hj : j < xs.length) : w.cell? ⟨g, j, none⟩ = some (sv (xs.getD j [])) := by
  rw [cellAt h]
  simp [txs, List.getD_eq_getElem?_getD, hj]
theorem TB.free {w : World} {g : Nat} {xs : List (List UInt8)} (h : TB w g xs) (j : Nat) : w.frozen? ⟨g, j, none⟩ = false := freeAt h j
theorem TB.below {w w' : World} {g : Nat} {xs : List (List UInt8)} (h : TB w g xs) (hb : Below w.heap.size w w') : TB w' g xs := (hb.block g h.lt).trans h
theorem TB.set {w : World} {g : Nat} {xs : List (List UInt8)} (h : TB w g xs) (j : Nat) (x : List UInt8) : TB (w.setCell ⟨g, j, none⟩ (sv x)) g (xs.set j x) := by
  unfold TB at h ⊢
  simp [World.setCell, Array.getElem?_modify, h, txs, List.map_set]
theorem TB.tx {w : World} {g : Nat} {xs : List (List UInt8)} (h : TB w g xs) : Tx w (some ⟨g, 0, none⟩) xs :=
  .inr ⟨g, 0, rfl, h.lt, fun k hk => by rw [Nat.zero_add, h.cell hk, List.getD_eq_getElem?_getD, List.getElem?_eq_getElem hk]; rfl⟩
theorem make_texts (n : Nat) (hn : n ≤ 1024) (W : World) : (Instr.makeSlice 26 (.int .i64 n) (.int .i64 n)).run Tryz.prog W = .ok (.slice (some ⟨W.heap.size, 0, none⟩) n n) (W.alloc (.cells (txs (List.replicate n [])).toArray 9)) := by
  obtain ⟨i, hi, hz0, hz1, hz2⟩ := info_parts (show (Tryz.prog.info? 9).map (fun i => (i.zero, i.size, i.bytes)) = some (some (.string ⟨#[]⟩), 1, 16) by kernel_rfl)
  have := run_make W _ 9 i _ Tryz.underlying26 hi hz0 .i64 .i64 n n (by omega) (by omega) (by rw [hz2]; omega) (by omega)
  have e : madeCells (Value.string ⟨#[]⟩).cells (n * i.size) = (txs (List.replicate n [])).toArray := by
    apply Array.ext
    · simp [madeCells, hz1, txs]
    · intro j h1 h2
      have hc : (Value.string ⟨#[]⟩).cells = #[Value.string ⟨#[]⟩] := rfl
      have hm : ∀ x : Nat, x % 1 = 0 := fun x => by omega
      simp [madeCells, hc, hm, txs]
  simpa [e] using this
end Go.Proofs.YthfnncahmccgkaaGreatDoor
