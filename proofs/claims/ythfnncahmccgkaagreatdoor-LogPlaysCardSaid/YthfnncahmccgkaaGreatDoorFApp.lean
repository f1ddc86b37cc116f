/-
  Rows of texts that a call makes by appending to a literal, or to nil.
-/
import Derived.Deep.AppendLies
import Derived.Test.YthfnncahmccgkaaGreatDoorFRow
import Derived.Test.YthfnncahmccgkaaGreatDoorDW
namespace Go.Proofs.YthfnncahmccgkaaGreatDoor
set_option linter.unusedSimpArgs false
set_option linter.unusedVariables false
open Go Go.RowKit
set_option maxRecDepth 100000

theorem info9t : (Tryz.prog.info? 9).map (fun i => (i.zero, i.size, i.bytes)) = some (some (.string ⟨#[]⟩), 1, 16) := by kernel_rfl
/-- Behind W0, v is a row of one's own that holds xs; what lay at W0 is as it was. -/
def Ro (W0 W : World) (v : Value) (xs : List (List UInt8)) : Prop := W.ownsRow W0.heap.size 9 1 v xs.length (txs xs) ∧ Below W0.heap.size W0 W
theorem Ro.below {W0 W : World} {v : Value} {xs : List (List UInt8)} (h : Ro W0 W v xs) : Below W0.heap.size W0 W := h.2
theorem Ro.nil (W : World) : Ro W W (.slice none 0 0) [] := ⟨World.ownsRow_nil _ _ _ _, Below.refl _ _⟩
theorem Ro.lit (W : World) : Ro W (W.alloc (.cells #[] 9)) (.slice (some ⟨W.heap.size, 0, none⟩) 0 0) [] :=
  ⟨⟨by simp [txs], .inr ⟨W.heap.size, 0, #[], rfl, Nat.le_refl _, heap_alloc_new W _, Nat.le_refl _, by decide, rfl, by simp [txs]⟩⟩, below_alloc W _⟩
theorem Ro.drew {W0 W : World} {v : Value} {xs : List (List UInt8)} (h : Ro W0 W v xs) : Ro W0 W.drew v xs := ⟨h.1, h.2.drew⟩
theorem Ro.step {W0 W W' : World} {v : Value} {xs : List (List UInt8)} (h : Ro W0 W v xs) (hb : Below W.heap.size W W') : Ro W0 W' v xs := by
  refine ⟨⟨h.1.1, ?_⟩, h.2.trans (hb.mono h.2.size)⟩
  rcases h.1.2 with hn | ⟨g, cap, cur, rfl, hg, hgg, rest⟩
  · exact .inl hn
  · exact .inr ⟨g, cap, cur, rfl, hg, (hb.block g (lt_of_blk hgg)).trans hgg, rest⟩
theorem Ro.form {W0 W : World} {v : Value} {xs : List (List UInt8)} (h : Ro W0 W v xs) : ∃ A c, v = .slice A xs.length c ∧ Tx W A xs ∧ xs.length ≤ c ∧ c ≤ maxLen ∧ (0 < xs.length → ∃ g, A = some ⟨g, 0, none⟩ ∧ W0.heap.size ≤ g ∧ g < W.heap.size ∧ ∀ j, W.frozen? ⟨g, j, none⟩ = false) := by
  obtain ⟨⟨h1, h2⟩, hb⟩ := h
  rcases h2 with ⟨rfl, h0⟩ | ⟨g, cap, cur, rfl, hg, hgg, hnc, hcm, hsz, ht⟩
  · exact ⟨none, 0, by rw [h0], .inl (List.length_eq_zero_iff.1 h0), by omega, by decide, fun h => by omega⟩
  · refine ⟨_, cap, rfl, .inr ⟨g, 0, rfl, lt_of_blk hgg, fun k hk => ?_⟩, hnc, hcm, fun _ => ⟨g, rfl, hg, lt_of_blk hgg, fun j => freeAt hgg j⟩⟩
    rw [Nat.zero_add, cellAt hgg]
    have h3 : (cur.toList.take (xs.length * 1))[k]? = cur.toList[k]? := List.getElem?_take_of_lt (by omega)
    rw [ht, txs, List.getElem?_map, List.getElem?_eq_getElem hk] at h3
    rw [← Array.getElem?_toList, ← h3]
    rfl
theorem app_none {W : World} {B n c : Nat} {v : Value} {xs : List Value} (hown : W.ownsRow B 9 1 v n xs) (A : Option Addr) : (Builtin.append_ #[26, 26] 26 #[v, .slice A 0 c]).run Tryz.prog W = .ok v W := by
  obtain ⟨i, hi, _, _, _⟩ := info_parts info9t
  rcases hown.2 with ⟨rfl, rfl⟩ | ⟨g, cap, cur, rfl, _, _, hnc, _⟩
  · cases A <;> simp [Builtin.append_, run_underlying Tryz.underlying26, sizeOf, typeInfo, hi, Builtin.lenOf, Builtin.firstCells, loadCells, loadCellsFrom]
  · cases A <;> simp [Builtin.append_, run_underlying Tryz.underlying26, sizeOf, typeInfo, hi, Builtin.lenOf, Builtin.firstCells, hnc, storeCells, loadCells, loadCellsFrom]
/-- Texts are appended. -/
theorem Ro.app {W0 W : World} {v : Value} {xs ys : List (List UInt8)} {A : Option Addr} (h : Ro W0 W v xs) (hy : Tx W A ys) (c : Nat) (hm : xs.length + ys.length ≤ 1000000) :
    ∃ v' W', (Builtin.append_ #[26, 26] 26 #[v, .slice A ys.length c]).run Tryz.prog W = .ok v' W' ∧ Ro W0 W' v' (xs ++ ys) := by
  rcases Nat.eq_zero_or_pos ys.length with h0 | hp
  · obtain rfl : ys = [] := List.length_eq_zero_iff.1 h0
    exact ⟨v, W, app_none h.1 A, by simpa using h⟩
  · obtain ⟨i, hi, hz0, hz1, hz2⟩ := info_parts info9t
    rcases hy with rfl | ⟨b, o, rfl, hlt, hc⟩
    · simp at hp
    · obtain ⟨g', cap', W', h1, h2, h3, _, _⟩ := run_append_lies (P := Tryz.prog) W 26 26 W0.heap.size 9 i _ 1 16 Tryz.underlying26 hi hz0 hz1 hz2 rfl (by decide) _ xs.length (txs xs) h.1 ⟨b, o, none⟩ ys.length c (txs ys) (by simp [txs_length]) (fun j u hu => by
        have hj : j < ys.length := by have := (List.getElem?_eq_some_iff.1 hu).1; simpa [txs_length] using this
        rw [Go.WideShapes.add_plain, hc j hj, ← hu, txs, List.getElem?_map, List.getElem?_eq_getElem hj]
        rfl) (by
        intro u hu
        obtain ⟨y, _, rfl⟩ := List.mem_map.1 hu
        rfl) hp (by unfold maxLen; omega) (by omega) h.2.size _ rfl
      refine ⟨_, W', h1, ⟨?_, Below.grown h.2 h3 h.2.size fun j hj => (h.1.lt j hj).1⟩⟩
      rw [List.length_append, show txs (xs ++ ys) = txs xs ++ txs ys from List.map_append]
      exact h2
theorem Tx.take {W : World} {A : Option Addr} {xs : List (List UInt8)} (h : Tx W A xs) (k : Nat) : Tx W A (xs.take k) := by
  rcases h with rfl | ⟨b, o, e, hl, hc⟩
  · exact .inl (by simp)
  · refine .inr ⟨b, o, e, hl, fun j hj => ?_⟩
    rw [List.length_take] at hj
    rw [hc j (by omega), List.getElem_take]
/-- A slice of a slice of texts, from a place on. -/
def fromA (A : Option Addr) (i c : Nat) : Option Addr := A.map fun a => if c = i then a else a.add i
theorem Tx.drop {W : World} {A : Option Addr} {xs : List (List UInt8)} (h : Tx W A xs) {i c : Nat} (hc : xs.length ≤ c) : Tx W (fromA A i c) (xs.drop i) := by
  rcases Nat.lt_or_ge i xs.length with hi | hi
  · rcases h with rfl | ⟨b, o, rfl, hl, hx⟩
    · simp at hi
    · refine .inr ⟨b, o + i, ?_, hl, fun j hj => ?_⟩
      · show some (if c = i then _ else _) = _
        rw [if_neg (by omega), Go.WideShapes.add_plain]
      · rw [List.length_drop] at hj
        have := hx (i + j) (by omega)
        rw [Nat.add_assoc, this, List.getElem_drop]
  · exact .inl (List.drop_of_length_le hi)
theorem slice_row {W : World} (A : Option Addr) (n c i : Nat) (hi : i ≤ n) (hA : A ≠ none) :
    (Instr.slice 26 (.slice A n c) (some (.int .i64 i)) none none).run Tryz.prog W = .ok (.slice (fromA A i c) (n - i) (c - i)) W := by
  obtain ⟨ti, hti, hs1⟩ := Option.map_eq_some_iff.1 (show (Tryz.prog.info? 9).map (·.size) = some 1 by kernel_rfl)
  have h1 : (i : Int) ≤ (n : Int) := by omega
  cases A with
  | none => exact absurd rfl hA
  | some a =>
    simp [Instr.slice, run_underlying Tryz.underlying26, Instr.sliceBounds, Instr.sliceBound, asIntOf, h1, hi, Int.toNat_natCast, Result.andThen, sizeOf, typeInfo, hti, hs1, fromA]
    split <;> rfl
section
variable {P : Program} (w : World) {o : Oper} {a : Act}
theorem exec_slice_run {t e : TypeId} {x : Operand} {lo hi : Option Operand} (hu : P.underlying t = some (.slice e)) (ho : o.op = .slice t x lo hi none) {u v : Value} (hx : a.eval x = u)
    (hr : (Instr.slice t u (lo.map a.eval) (hi.map a.eval) none).run P w = .ok v w) : (execOp a.eval o).run P w = .ok (.value v) w := by
  unfold execOp
  simp [ho, hx, Instr.sliceAt, run_underlying hu, hr]
end
/-- A text of an own row is written. -/
theorem Ro.set {W0 W : World} {A : Option Addr} {c k : Nat} {xs : List (List UInt8)} (h : Ro W0 W (.slice A xs.length c) xs) (hk : k < xs.length) (x : List UInt8) :
    ∃ g, A = some ⟨g, 0, none⟩ ∧ W.cell? ⟨g, k, none⟩ = some (sv (xs.getD k [])) ∧ W.frozen? ⟨g, k, none⟩ = false ∧ Tx (W.setCell ⟨g, k, none⟩ (sv x)) A (xs.set k x) ∧ Below W0.heap.size W0 (W.setCell ⟨g, k, none⟩ (sv x)) := by
  rcases h.1.2 with ⟨e, h0⟩ | ⟨g, cap, cur, e, hg, hgg, hnc, hcm, hsz, ht⟩
  · omega
  · simp only [Value.slice.injEq] at e
    obtain ⟨rfl, _, rfl⟩ := e
    have hcur : ∀ j, ∀ hj : j < xs.length, cur[j]? = some (sv xs[j]) := fun j hj => by
      have h3 : (cur.toList.take (xs.length * 1))[j]? = cur.toList[j]? := List.getElem?_take_of_lt (by omega)
      rw [ht, txs, List.getElem?_map, List.getElem?_eq_getElem hj] at h3
      rw [← Array.getElem?_toList, ← h3]
      rfl
    refine ⟨g, rfl, ?_, freeAt hgg k, .inr ⟨g, 0, rfl, by simpa [World.setCell] using lt_of_blk hgg, fun j hj => ?_⟩, h.2.setCell (p := ⟨g, k, none⟩) hg _⟩
    · rw [cellAt hgg, hcur k hk, List.getD_eq_getElem?_getD, List.getElem?_eq_getElem hk]
      rfl
    · rw [List.length_set] at hj
      rw [Nat.zero_add, cellAt (blk_set hgg k (sv x))]
      by_cases e : k = j
      · subst e
        rw [List.getElem_set_self, Array.getElem?_setIfInBounds_self_of_lt (by have := Array.getElem?_eq_some_iff.1 (hcur k hk); exact this.1)]
      · rw [List.getElem_set_ne e, Array.getElem?_setIfInBounds_ne e, hcur j hj]
end Go.Proofs.YthfnncahmccgkaaGreatDoor
