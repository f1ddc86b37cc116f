/-
  '[]byte(s)' with 128 zeros behind.
-/
import Derived.Laws.IdiomStrings
import Derived.Lib.AppendZerosOnto
import Derived.Deep.MidRow
import Derived.Test.YthfnncahmccgkaaGreatDoorLWorks
namespace Go.Proofs.YthfnncahmccgkaaGreatDoor
open Go Go.RowKit Go.Maps
set_option maxRecDepth 100000
set_option linter.unusedSimpArgs false
set_option linter.unusedVariables false

/-- In a world behind w0, block g is a row of the call's own that holds l. -/
structure RP (w0 : World) (g cap : Nat) (l : List UInt8) (W : World) : Prop where
  below : Below w0.heap.size w0 W
  up : w0.heap.size ≤ g
  lt : g < W.heap.size
  ok : l.length ≤ cap ∧ cap ≤ maxLen
  cell : ∀ j, j < l.length → W.cell? ⟨g, j, none⟩ = some (bv (l.getD j 0))
  free : ∀ j, j < cap → W.frozen? ⟨g, j, none⟩ = false ∧ (W.cell? ⟨g, j, none⟩).isSome = true
theorem rp_bytes (w0 w : World) (h : Below w0.heap.size w0 w) (s : List UInt8) (hs : s.length ≤ 1000000) : ∃ g cap W, (convert 9 44 (.string (str s))).run Tryz.prog w = .ok (.slice (some ⟨g, 0, none⟩) s.length cap) W ∧ RP w0 g cap s W := by
  have hsz : (str s).size = s.length := by simp [ByteArray.size]
  have hr := run_bytes_of_string (P := Tryz.prog) w 9 44 5 (str s) Tryz.underlying9 Tryz.underlying44 Tryz.underlying5
  rw [hsz] at hr
  obtain ⟨c, hc⟩ : ∃ c, c = grownCap w s.length 0 5 := ⟨_, rfl⟩
  have hcl : s.length ≤ c := by rw [hc]; exact grownCap_ge _ _ _ _
  have hcm : c ≤ maxLen := by rw [hc]; exact grownCap_le_maxLen _ _ _ _ (by unfold maxLen; omega)
  rw [← hc] at hr
  have hbs : (bytesRow (str s) c).size = c := by
    unfold bytesRow
    simp only [Array.size_append, Array.size_map, Array.size_replicate]
    have : (str s).data.size = s.length := by simp
    rw [this, hsz]; omega
  have hcell : ∀ j, (w.drew.alloc (.cells (bytesRow (str s) c) 5 ((bytesRow (str s) c).size, (bytesRow (str s) c).size + 1))).cell? ⟨w.heap.size, j, none⟩ = (bytesRow (str s) c)[j]? := fun j => by
    have e := World.cell?_alloc_mark w.drew (bytesRow (str s) c) 5 ((bytesRow (str s) c).size, (bytesRow (str s) c).size + 1) j
    have e2 : w.drew.heap.size = w.heap.size := rfl
    rwa [e2] at e
  refine ⟨_, _, _, hr, ⟨(h.drew).alloc h.size _, h.size, by rw [World.size_alloc]; exact Nat.lt_succ_self _, ⟨hcl, hcm⟩, fun j hj => ?_, fun j hj => ⟨?_, ?_⟩⟩⟩
  · rw [hcell, bytesRow_at (str s) c j (by simpa using hj), getD_str s j hj]
    simp [bv]
  · have e := World.frozen?_alloc_mark w.drew (bytesRow (str s) c) 5 (bytesRow (str s) c).size ((bytesRow (str s) c).size + 1) j
    have e2 : w.drew.heap.size = w.heap.size := rfl
    rw [e2] at e
    rw [e, decide_eq_false (show ¬ (bytesRow (str s) c).size ≤ j by omega)]; rfl
  · rw [hcell, Array.getElem?_eq_getElem (by rw [hbs]; exact hj)]; rfl
theorem zero_cells (k : Nat) : Builtin.zeroCells (Value.int .u8 0).cells k = (List.replicate k (Value.int .u8 0)).toArray := by
  have hc : (Value.int .u8 0).cells = #[Value.int .u8 0] := rfl
  rw [hc]
  apply Array.ext
  · simp [Builtin.zeroCells]
  · intro j h1 h2
    have hm : ∀ x : Nat, x % 1 = 0 := fun x => by omega
    simp [Builtin.zeroCells, hm]
theorem bel_setCells {B : Nat} {a : World} (b : Nat) (hb : B ≤ b) : ∀ (vs : List Value) (o : Nat) {w : World}, Below B a w → Below B a (w.setCells b o vs)
  | [], _, _, h => h
  | v :: vs, o, _, h => bel_setCells b hb vs (o + 1) (h.setCell (p := ⟨b, o, none⟩) hb v)
theorem siz_setCells (b : Nat) : ∀ (vs : List Value) (o : Nat) (w : World), (w.setCells b o vs).heap.size = w.heap.size
  | [], _, _ => rfl
  | v :: vs, o, w => by
    show ((w.setCell ⟨b, o, none⟩ v).setCells b (o + 1) vs).heap.size = _
    rw [siz_setCells b vs (o + 1)]
    simp [World.setCell]
/-- So many zeros behind. -/
theorem rp_pad {w0 w : World} {g cap : Nat} {l : List UInt8} (h : RP w0 g cap l w) (hl : l.length ≤ 100000) (ty : TypeId) (k : Nat) (hk : 0 < k) (hk2 : k ≤ 1000) :
    ∃ g2 cap2 W2, (Builtin.append_ #[44, 3] ty #[.slice (some ⟨g, 0, none⟩) l.length cap, .int .i64 k]).run Tryz.prog w = .ok (.slice (some ⟨g2, 0, none⟩) (l.length + k) cap2) W2 ∧ l.length + k ≤ cap2 ∧ Below w0.heap.size w0 W2 ∧ g2 < W2.heap.size ∧ w0.heap.size ≤ g2 ∧
      ∀ j, j < l.length + k → W2.cell? ⟨g2, j, none⟩ = some (bv ((l ++ List.replicate k 0).getD j 0)) := by
  obtain ⟨i, hi, hz0, hz1, hz2⟩ := info_parts info5'
  have hget : ∀ j, j < l.length → (l ++ List.replicate k (0 : UInt8)).getD j 0 = l.getD j 0 := fun j hj => by
    rw [List.getD_eq_getElem?_getD, List.getElem?_append_left hj, ← List.getD_eq_getElem?_getD]
  have hget2 : ∀ j, j < k → (l ++ List.replicate k (0 : UInt8)).getD (l.length + j) 0 = 0 := fun j hj => by
    rw [List.getD_eq_getElem?_getD, List.getElem?_append_right (by omega), Nat.add_sub_cancel_left, List.getElem?_replicate, if_pos hj]; rfl
  obtain ⟨Z, hZ⟩ : ∃ Z : List Value, Z = List.replicate k (Value.int .u8 0) := ⟨_, rfl⟩
  have hZl : Z.length = k := by rw [hZ, List.length_replicate]
  have hZa : Builtin.zeroCells (Value.int .u8 0).cells k = Z.toArray := by rw [zero_cells, hZ]
  have hZg : ∀ j, j < k → Z[j]? = some (bv 0) := fun j hj => by rw [hZ, List.getElem?_replicate, if_pos hj]; rfl
  by_cases hr : l.length + k ≤ cap
  · have hth : w.there g l.length Z.length := fun j hj => ⟨(h.free _ (by omega)).2, (h.free _ (by omega)).1⟩
    have hst := run_storeCells_cells (P := Tryz.prog) g l.length Z 0 w (fun j hj => by rw [Nat.add_zero]; exact (hth j hj).1) (fun j hj => by rw [Nat.add_zero]; exact (hth j hj).2) (by
      intro u hu
      rw [hZ] at hu
      rw [List.eq_of_mem_replicate hu]; rfl)
    simp only [Nat.add_zero] at hst
    have ek : IntKind.i64.wrap (k : Int) = k := IntWalk.i64_in _ (by omega)
    have hneg : ¬ ((k : Int) < 0) := by omega
    have h48 : ¬ (281474976710656 < (k : Int)) := by omega
    have hk0 : k ≠ 0 := by omega
    refine ⟨g, cap, w.setCells g l.length Z, ?_, hr, bel_setCells g h.up _ _ h.below, by rw [siz_setCells]; exact h.lt, h.up, ?_⟩
    · simp [Builtin.append_, run_underlying Tryz.underlying44, run_underlying Tryz.underlying3, sizeOf, typeInfo, zeroValue, hi, hz0, hz1, hz2, asInt, asIntOf, ek, hneg, h48, hk0, hr, Addr.add_lit, hZa, hst]
    · intro j hj
      by_cases hjl : j < l.length
      · rw [World.cell?_setCells_out g Z l.length w ⟨g, j, none⟩ (fun _ _ => .inl hjl), h.cell j hjl, hget j hjl]
      · obtain ⟨q, rfl⟩ : ∃ q, j = l.length + q := ⟨j - l.length, by omega⟩
        rw [hget2 q (by omega)]
        exact World.rangeAt_setCells_same w g l.length Z hth q _ (hZg q (by omega))
  · have hold : (Builtin.firstCells i.size l.length (.slice (some ⟨g, 0, none⟩) l.length cap)).run Tryz.prog w.drew = .ok (l.map bv).toArray w.drew := by
      rw [hz1]
      exact run_firstCells_some w.drew 1 l.length ⟨g, 0, none⟩ l.length cap (l.map bv) (by simp) (fun j u hu => by
        rw [List.getElem?_map] at hu
        obtain ⟨x, hx, rfl⟩ := Option.map_eq_some_iff.1 hu
        have hj := (List.getElem?_eq_some_iff.1 hx).1
        have e1 : (⟨g, 0, none⟩ : Addr).add j = ⟨g, j, none⟩ := by unfold Addr.add; split <;> simp_all
        rw [e1]
        have := h.cell j hj
        rw [List.getD_eq_getElem?_getD, hx] at this
        exact this)
    have hfit : Builtin.nextslicecap (l.length + k) cap * i.bytes ≤ 281474976710656 := by
      rw [hz2]
      have := nextslicecap_le (need := l.length + k) (old := cap) (by omega)
      omega
    have hrun := Lib.run_append_grow_zeros (P := Tryz.prog) w 44 3 ty 5 i (.int .u8 0) .i64 .i64 Tryz.underlying44 Tryz.underlying3 hi hz0 (some ⟨g, 0, none⟩) l.length cap (l.map bv) hold k hk (by rw [hz1]; omega) (by omega) (by omega) (by rw [hz2]; omega) hfit
    have hcap := grownCap_ge w (l.length + k) cap 5
    refine ⟨w.heap.size, _, _, hrun, hcap, h.below.drew.alloc (show w0.heap.size ≤ w.drew.heap.size from h.below.size) _, by simp, h.below.size, fun j hj => ?_⟩
    have hnew := heap_alloc_new w.drew (.cells ((l.map bv).toArray ++ Builtin.zeroCells (Value.int .u8 0).cells k ++ Builtin.zeroCells (Value.int .u8 0).cells (grownCap w (l.length + k) cap 5 - (l.length + k))) 5)
    rw [show w.drew.heap.size = w.heap.size from rfl] at hnew
    rw [cellAt hnew, hZa]
    have hsz : ((l.map bv).toArray ++ Z.toArray).size = l.length + k := by simp [hZl]
    rw [Array.getElem?_append_left (by rw [hsz]; exact hj)]
    by_cases hjl : j < l.length
    · rw [Array.getElem?_append_left (by simpa using hjl), hget j hjl]
      simp [List.getD_eq_getElem?_getD, hjl]
    · obtain ⟨q, rfl⟩ : ∃ q, j = l.length + q := ⟨j - l.length, by omega⟩
      rw [hget2 q (by omega), Array.getElem?_append_right (by simp)]
      simp only [List.getElem?_toArray, List.size_toArray, List.length_map, Nat.add_sub_cancel_left]
      exact hZg q (by omega)
end Go.Proofs.YthfnncahmccgkaaGreatDoor
