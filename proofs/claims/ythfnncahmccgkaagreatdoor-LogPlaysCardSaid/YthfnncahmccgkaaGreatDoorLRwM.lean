/-
  '[]byte(s)' with 128 zeros behind.
  Whatever was written ahead: raw.
  Whatever was written ahead: raw's walk.
-/
import Derived.Laws.IdiomStrings
import Derived.Lib.AppendZerosOnto
import Derived.Deep.MidRow
import Derived.Test.YthfnncahmccgkaaGreatDoorLWorks
import Derived.Test.YthfnncahmccgkaaGreatDoorLSteps
import Derived.Test.YthfnncahmccgkaaGreatDoorDWkM
namespace Go.Proofs.YthfnncahmccgkaaGreatDoor
open Go Go.RowKit Go.Maps
set_option maxRecDepth 100000
set_option linter.unusedSimpArgs false
set_option linter.unusedVariables false

/-- In a world behind w0, block g is a row of the call's own that holds l. -/
structure RP (w0 : World) (g cap : Nat) (l : List UInt8) (W : World) : Prop where
  below : Below w0.heap.size w0 W
  up : w0.heap.size ≤ g
  lt : g < W.heap.size
  ok : l.length ≤ cap ∧ cap ≤ maxLen
  cell : ∀ j, j < l.length → W.cell? ⟨g, j, none⟩ = some (bv (l.getD j 0))
  free : ∀ j, j < cap → W.frozen? ⟨g, j, none⟩ = false ∧ (W.cell? ⟨g, j, none⟩).isSome = true
theorem rp_bytes (w0 w : World) (h : Below w0.heap.size w0 w) (s : List UInt8) (hs : s.length ≤ 1000000) : ∃ g cap W, (convert 9 44 (.string (str s))).run Tryz.prog w = .ok (.slice (some ⟨g, 0, none⟩) s.length cap) W ∧ RP w0 g cap s W := by
  have hsz : (str s).size = s.length := by simp [ByteArray.size]
  have hr := run_bytes_of_string (P := Tryz.prog) w 9 44 5 (str s) Tryz.underlying9 Tryz.underlying44 Tryz.underlying5
  rw [hsz] at hr
  obtain ⟨c, hc⟩ : ∃ c, c = grownCap w s.length 0 5 := ⟨_, rfl⟩
  have hcl : s.length ≤ c := by rw [hc]; exact grownCap_ge _ _ _ _
  have hcm : c ≤ maxLen := by rw [hc]; exact grownCap_le_maxLen _ _ _ _ (by unfold maxLen; omega)
  rw [← hc] at hr
  have hbs : (bytesRow (str s) c).size = c := by
    unfold bytesRow
    simp only [Array.size_append, Array.size_map, Array.size_replicate]
    have : (str s).data.size = s.length := by simp
    rw [this, hsz]; omega
  have hcell : ∀ j, (w.drew.alloc (.cells (bytesRow (str s) c) 5 ((bytesRow (str s) c).size, (bytesRow (str s) c).size + 1))).cell? ⟨w.heap.size, j, none⟩ = (bytesRow (str s) c)[j]? := fun j => by
    have e := World.cell?_alloc_mark w.drew (bytesRow (str s) c) 5 ((bytesRow (str s) c).size, (bytesRow (str s) c).size + 1) j
    have e2 : w.drew.heap.size = w.heap.size := rfl
    rwa [e2] at e
  refine ⟨_, _, _, hr, ⟨(h.drew).alloc h.size _, h.size, by rw [World.size_alloc]; exact Nat.lt_succ_self _, ⟨hcl, hcm⟩, fun j hj => ?_, fun j hj => ⟨?_, ?_⟩⟩⟩
  · rw [hcell, bytesRow_at (str s) c j (by simpa using hj), getD_str s j hj]
    simp [bv]
  · have e := World.frozen?_alloc_mark w.drew (bytesRow (str s) c) 5 (bytesRow (str s) c).size ((bytesRow (str s) c).size + 1) j
    have e2 : w.drew.heap.size = w.heap.size := rfl
    rw [e2] at e
    rw [e, decide_eq_false (show ¬ (bytesRow (str s) c).size ≤ j by omega)]; rfl
  · rw [hcell, Array.getElem?_eq_getElem (by rw [hbs]; exact hj)]; rfl
theorem zero_cells (k : Nat) : Builtin.zeroCells (Value.int .u8 0).cells k = (List.replicate k (Value.int .u8 0)).toArray := by
  have hc : (Value.int .u8 0).cells = #[Value.int .u8 0] := rfl
  rw [hc]
  apply Array.ext
  · simp [Builtin.zeroCells]
  · intro j h1 h2
    have hm : ∀ x : Nat, x % 1 = 0 := fun x => by omega
    simp [Builtin.zeroCells, hm]
theorem bel_setCells {B : Nat} {a : World} (b : Nat) (hb : B ≤ b) : ∀ (vs : List Value) (o : Nat) {w : World}, Below B a w → Below B a (w.setCells b o vs)
  | [], _, _, h => h
  | v :: vs, o, _, h => bel_setCells b hb vs (o + 1) (h.setCell (p := ⟨b, o, none⟩) hb v)
theorem siz_setCells (b : Nat) : ∀ (vs : List Value) (o : Nat) (w : World), (w.setCells b o vs).heap.size = w.heap.size
  | [], _, _ => rfl
  | v :: vs, o, w => by
    show ((w.setCell ⟨b, o, none⟩ v).setCells b (o + 1) vs).heap.size = _
    rw [siz_setCells b vs (o + 1)]
    simp [World.setCell]
/-- So many zeros behind. -/
theorem rp_pad {w0 w : World} {g cap : Nat} {l : List UInt8} (h : RP w0 g cap l w) (hl : l.length ≤ 100000) (ty : TypeId) (k : Nat) (hk : 0 < k) (hk2 : k ≤ 1000) :
    ∃ g2 cap2 W2, (Builtin.append_ #[44, 3] ty #[.slice (some ⟨g, 0, none⟩) l.length cap, .int .i64 k]).run Tryz.prog w = .ok (.slice (some ⟨g2, 0, none⟩) (l.length + k) cap2) W2 ∧ l.length + k ≤ cap2 ∧ Below w0.heap.size w0 W2 ∧ g2 < W2.heap.size ∧ w0.heap.size ≤ g2 ∧
      ∀ j, j < l.length + k → W2.cell? ⟨g2, j, none⟩ = some (bv ((l ++ List.replicate k 0).getD j 0)) := by
  obtain ⟨i, hi, hz0, hz1, hz2⟩ := info_parts info5'
  have hget : ∀ j, j < l.length → (l ++ List.replicate k (0 : UInt8)).getD j 0 = l.getD j 0 := fun j hj => by
    rw [List.getD_eq_getElem?_getD, List.getElem?_append_left hj, ← List.getD_eq_getElem?_getD]
  have hget2 : ∀ j, j < k → (l ++ List.replicate k (0 : UInt8)).getD (l.length + j) 0 = 0 := fun j hj => by
    rw [List.getD_eq_getElem?_getD, List.getElem?_append_right (by omega), Nat.add_sub_cancel_left, List.getElem?_replicate, if_pos hj]; rfl
  obtain ⟨Z, hZ⟩ : ∃ Z : List Value, Z = List.replicate k (Value.int .u8 0) := ⟨_, rfl⟩
  have hZl : Z.length = k := by rw [hZ, List.length_replicate]
  have hZa : Builtin.zeroCells (Value.int .u8 0).cells k = Z.toArray := by rw [zero_cells, hZ]
  have hZg : ∀ j, j < k → Z[j]? = some (bv 0) := fun j hj => by rw [hZ, List.getElem?_replicate, if_pos hj]; rfl
  by_cases hr : l.length + k ≤ cap
  · have hth : w.there g l.length Z.length := fun j hj => ⟨(h.free _ (by omega)).2, (h.free _ (by omega)).1⟩
    have hst := run_storeCells_cells (P := Tryz.prog) g l.length Z 0 w (fun j hj => by rw [Nat.add_zero]; exact (hth j hj).1) (fun j hj => by rw [Nat.add_zero]; exact (hth j hj).2) (by
      intro u hu
      rw [hZ] at hu
      rw [List.eq_of_mem_replicate hu]; rfl)
    simp only [Nat.add_zero] at hst
    have ek : IntKind.i64.wrap (k : Int) = k := IntWalk.i64_in _ (by omega)
    have hneg : ¬ ((k : Int) < 0) := by omega
    have h48 : ¬ (281474976710656 < (k : Int)) := by omega
    have hk0 : k ≠ 0 := by omega
    refine ⟨g, cap, w.setCells g l.length Z, ?_, hr, bel_setCells g h.up _ _ h.below, by rw [siz_setCells]; exact h.lt, h.up, ?_⟩
    · simp [Builtin.append_, run_underlying Tryz.underlying44, run_underlying Tryz.underlying3, sizeOf, typeInfo, zeroValue, hi, hz0, hz1, hz2, asInt, asIntOf, ek, hneg, h48, hk0, hr, Addr.add_lit, hZa, hst]
    · intro j hj
      by_cases hjl : j < l.length
      · rw [World.cell?_setCells_out g Z l.length w ⟨g, j, none⟩ (fun _ _ => .inl hjl), h.cell j hjl, hget j hjl]
      · obtain ⟨q, rfl⟩ : ∃ q, j = l.length + q := ⟨j - l.length, by omega⟩
        rw [hget2 q (by omega)]
        exact World.rangeAt_setCells_same w g l.length Z hth q _ (hZg q (by omega))
  · have hold : (Builtin.firstCells i.size l.length (.slice (some ⟨g, 0, none⟩) l.length cap)).run Tryz.prog w.drew = .ok (l.map bv).toArray w.drew := by
      rw [hz1]
      exact run_firstCells_some w.drew 1 l.length ⟨g, 0, none⟩ l.length cap (l.map bv) (by simp) (fun j u hu => by
        rw [List.getElem?_map] at hu
        obtain ⟨x, hx, rfl⟩ := Option.map_eq_some_iff.1 hu
        have hj := (List.getElem?_eq_some_iff.1 hx).1
        have e1 : (⟨g, 0, none⟩ : Addr).add j = ⟨g, j, none⟩ := by unfold Addr.add; split <;> simp_all
        rw [e1]
        have := h.cell j hj
        rw [List.getD_eq_getElem?_getD, hx] at this
        exact this)
    have hfit : Builtin.nextslicecap (l.length + k) cap * i.bytes ≤ 281474976710656 := by
      rw [hz2]
      have := nextslicecap_le (need := l.length + k) (old := cap) (by omega)
      omega
    have hrun := Lib.run_append_grow_zeros (P := Tryz.prog) w 44 3 ty 5 i (.int .u8 0) .i64 .i64 Tryz.underlying44 Tryz.underlying3 hi hz0 (some ⟨g, 0, none⟩) l.length cap (l.map bv) hold k hk (by rw [hz1]; omega) (by omega) (by omega) (by rw [hz2]; omega) hfit
    have hcap := grownCap_ge w (l.length + k) cap 5
    refine ⟨w.heap.size, _, _, hrun, hcap, h.below.drew.alloc (show w0.heap.size ≤ w.drew.heap.size from h.below.size) _, by simp, h.below.size, fun j hj => ?_⟩
    have hnew := heap_alloc_new w.drew (.cells ((l.map bv).toArray ++ Builtin.zeroCells (Value.int .u8 0).cells k ++ Builtin.zeroCells (Value.int .u8 0).cells (grownCap w (l.length + k) cap 5 - (l.length + k))) 5)
    rw [show w.drew.heap.size = w.heap.size from rfl] at hnew
    rw [cellAt hnew, hZa]
    have hsz : ((l.map bv).toArray ++ Z.toArray).size = l.length + k := by simp [hZl]
    rw [Array.getElem?_append_left (by rw [hsz]; exact hj)]
    by_cases hjl : j < l.length
    · rw [Array.getElem?_append_left (by simpa using hjl), hget j hjl]
      simp [List.getD_eq_getElem?_getD, hjl]
    · obtain ⟨q, rfl⟩ : ∃ q, j = l.length + q := ⟨j - l.length, by omega⟩
      rw [hget2 q (by omega), Array.getElem?_append_right (by simp)]
      simp only [List.getElem?_toArray, List.size_toArray, List.length_map, Nat.add_sub_cancel_left]
      exact hZg q (by omega)
end Go.Proofs.YthfnncahmccgkaaGreatDoor

namespace Go.Proofs.YthfnncahmccgkaaGreatDoor
open Go Go.RowKit Go.Maps
set_option maxRecDepth 100000
set_option linter.unusedSimpArgs false
set_option linter.unusedVariables false

section
variable {P : Program} (w : World) {o : Oper} {a : Act}
theorem exec_load_mid {t : TypeId} {x : Operand} (ho : o.op = .load t x) {b i : Nat} (hd : a.eval x = .pointer (some ⟨b, i, none⟩)) {cs : Array Value} (hc : w.rangeAt b i cs.toList) {d : TypeDesc} (hu : P.underlying t = some d) (hn : d.isRow = true)
    (hi : (P.info? t).map (·.size) = some cs.size) : (execOp a.eval o).run P w = .ok (.value (.agg cs)) w := by
  unfold execOp
  have := run_loadVar_mid (P := P) w b i t cs.toList d hc hu hn (by rw [hi, Array.length_toList])
  simp [ho, hd, Instr.loadAt, Instr.sureAddr, this]
theorem exec_slice_hi {t e : TypeId} {x hi : Operand} (hu : P.underlying t = some (.slice e)) (ho : o.op = .slice t x none (some hi) none) {u v q : Value} (hx : a.eval x = u ∧ a.eval hi = q)
    (hr : (Instr.slice t u none (some q) none).run P w = .ok v w) : (execOp a.eval o).run P w = .ok (.value v) w := by
  unfold execOp
  simp [ho, hx.1, hx.2, Instr.sliceAt, run_underlying hu, hr]
theorem exec_conv {t t' : TypeId} {x : Operand} (ho : o.op = .convert t t' x) {u v : Value} (hx : a.eval x = u) (hr : (convert t t' u).run P w = .ok v w) : (execOp a.eval o).run P w = .ok (.value v) w := by
  unfold execOp
  simp [ho, hx, hr]
end
theorem s2C_size {t : S2} : (Tryz.prog.info? 61).map (·.size) = some (s2C t).size := by
  have h : (Tryz.prog.info? 61).map (·.size) = some 6 := by kernel_rfl
  rw [h]; rfl
theorem S2Cells.range {w : World} {b o : Nat} {t : S2} (h : S2Cells w b o t) : w.rangeAt b o (s2C t).toList := fun j v hv => by
  have hj : j < 6 := (List.getElem?_eq_some_iff.1 hv).1
  rw [h j hj, ← Array.getElem?_toList]; exact hv

/-! ### The power stays -/
structure On (n : Nat) (S : DS) : Prop where
  on : S.off = false
  lf : S.left ≤ 0
  len : S.was.length = n
theorem did_on {S : DS} (h : S.off = false) (hl : S.left ≤ 0) : S.did.off = false ∧ S.did.left = S.left := by
  unfold DS.did
  rw [if_neg (by omega), if_neg (by omega)]
  exact ⟨h, rfl⟩
theorem wrs_on : ∀ (xs : List (List UInt8)) (S : DS) (a : Nat), S.off = false → S.left ≤ 0 → (wrs xs S a).1.off = false ∧ (wrs xs S a).1.left = S.left
  | [], S, a, h, hl => ⟨h, rfl⟩
  | x :: xs, S, a, h, hl => by
    rw [show wrs (x :: xs) S a = (if S.off then (S, false) else wrs xs ((S.put a x).did) (a + 1)) from rfl, h]
    obtain ⟨h1, h2⟩ := did_on (S := S.put a x) h hl
    have h3 : (S.put a x).left = S.left := rfl
    obtain ⟨g1, g2⟩ := wrs_on xs ((S.put a x).did) (a + 1) h1 (by omega)
    exact ⟨g1, by rw [show (if false = true then (S, false) else wrs xs ((S.put a x).did) (a + 1)) = wrs xs ((S.put a x).did) (a + 1) from rfl, g2, h2, h3]⟩
theorem On.lwr {n : Nat} {S : DS} (h : On n S) (hS : S.Ok) {l : LS} (hl : l.Ok n) (s : List UInt8) : On n (lwrS S l s) := by
  have hw := (lwrS_ok (s := s) hS (by rw [h.len]; exact hl)).2
  refine ⟨?_, ?_, by rw [hw]; exact h.len⟩
  · unfold lwrS; split
    · exact h.on
    · exact (wrs_on _ _ _ h.on h.lf).1
  · unfold lwrS; split
    · exact h.lf
    · change (wrs (lrow l s) S (lfst S.was.length l.half + l.used)).1.left ≤ 0
      rw [(wrs_on _ _ _ h.on h.lf).2]; exact h.lf
theorem On.beg {n : Nat} {S : DS} (h : On n S) (hS : S.Ok) (half age : Int) (s : List UInt8) : On n (begS S half age s) := by
  unfold begS; split
  · rename_i hm; exact h.lwr hS (newL_ok hm _) s
  · exact h
theorem On.add {n : Nat} {S : DS} (h : On n S) (hS : S.Ok) {l : LS} (hl : l.Ok n) (s : List UInt8) : On n (addS S l s) := by
  unfold addS; split
  · exact h
  · exact h.lwr hS hl s
theorem On.wr {n : Nat} {S : DS} (h : On n S) (a : Int) (s : List UInt8) : On n (S.wr a s) ∧ (S.wr a s).ops ≤ S.ops + 1 := by
  unfold DS.wr
  split
  · obtain ⟨h1, h2⟩ := did_on (S := S.put a.toNat s) h.on h.lf
    exact ⟨⟨h1, by rw [h2]; exact h.lf, h.len⟩, Nat.le_refl _⟩
  · exact ⟨h, by omega⟩
theorem On.sync {n : Nat} {S : DS} (h : On n S) (hS : S.Ok) : On n S.sync ∧ S.sync.ops ≤ S.ops + 1 ∧ S.offE = 0 ∧ Dry S.sync ∧ S.sync.now = S.now := by
  have e := DS.sync_eq hS h.on
  obtain ⟨h1, h2⟩ := did_on (S := { S with was := S.now, now := S.now, wet := List.replicate S.was.length false }) h.on h.lf
  refine ⟨⟨by rw [e]; exact h1, by rw [e, h2]; exact h.lf, by rw [e]; show S.now.length = n; rw [hS.hn, h.len]⟩, by rw [e]; exact Nat.le_refl _, by rw [DS.offE, h.on]; rfl, ⟨by rw [e]; rfl, fun j => ?_⟩, by rw [e]; rfl⟩
  rw [e]
  show (List.replicate S.was.length false).getD j false = false
  rw [List.getD_eq_getElem?_getD, List.getElem?_replicate]
  split <;> rfl
theorem begS_ops {S : DS} {half age : Int} {s : List UInt8} : (begS S half age s).ops ≤ S.ops + S.was.length := by
  unfold begS; split
  · exact lwrS_ops
  · omega
theorem addS_ops {S : DS} {l : LS} {s : List UInt8} : (addS S l s).ops ≤ S.ops + S.was.length := by
  unfold addS; split
  · omega
  · exact lwrS_ops

/-! ### Two logs, or none -/
def pvO : Option (Nat × LS) → Value
  | none => .pointer none
  | some (q, _) => dp q
def olOb (p : Nat) : Option (Nat × LS) → Ob
  | none => ⟨[], fun _ => True⟩
  | some (q, l) => lgOb q p l
def okO (n : Nat) (c : Option (Nat × LS)) : Prop := ∀ q l, c = some (q, l) → l.Ok n
theorem okO_none (n : Nat) : okO n none := fun _ _ h => by cases h
theorem olOb_stays (p : Nat) (c : Option (Nat × LS)) : (olOb p c).Stays := by
  cases c with
  | none => exact fun _ _ _ _ => trivial
  | some x => exact lgOb_stays _ _ _
def rawOs (p bl bd gL : Nat) (S : DS) (a b : Option (Nat × LS)) : List Ob := [pdOb p bl bd S, xOb 22 gL 2 [pvO a, pvO b], olOb p a, olOb p b]
theorem make_logs (W : World) : (Instr.makeSlice 55 (.int .i64 2) (.int .i64 2)).run Tryz.prog W = .ok (.slice (some ⟨W.heap.size, 0, none⟩) 2 2) (W.alloc (.cells #[.pointer none, .pointer none] 22)) := by
  obtain ⟨i, hi, hz0, hz1, hz2⟩ := info_parts (show (Tryz.prog.info? 22).map (fun i => (i.zero, i.size, i.bytes)) = some (some (.pointer none), 1, 8) by kernel_rfl)
  have := run_make W _ 22 i _ Tryz.underlying55 hi hz0 .i64 .i64 2 2 (by omega) (by omega) (by rw [hz2]; omega) (by omega)
  have e : madeCells (Value.pointer none).cells (2 * i.size) = #[.pointer none, .pointer none] := by
    rw [hz1]
    apply Array.ext
    · simp [madeCells]
    · intro j h1 h2
      have hc : (Value.pointer none).cells = #[Value.pointer none] := rfl
      have hm : ∀ x : Nat, x % 1 = 0 := fun x => by omega
      have h3 : j = 0 ∨ j = 1 := by simp at h2; omega
      rcases h3 with rfl | rfl <;> simp [madeCells, hc, hm]
  rw [show Int.toNat 2 = 2 from rfl, e] at this
  exact this
theorem raw_start {w0 w : World} {p bl bd : Nat} {S : DS} (h : Obs w0 w [pdOb p bl bd S]) : Obs w0 (w.alloc (.cells #[.pointer none, .pointer none] 22)) (rawOs p bl bd w.heap.size S none none) := by
  have hx : XR (w.alloc (.cells #[.pointer none, .pointer none] 22)) 22 w.heap.size 2 [.pointer none, .pointer none] := XR.lit (heap_alloc_new w _) (by decide)
  have h1 := h.addX hx (below_alloc w _) (Nat.le_refl _)
  have h2 := (h1.add (olOb p none) trivial (olOb_stays p none) (Below.refl _ _) (fun b hb => by simp [olOb] at hb)).add (olOb p none) trivial (olOb_stays p none) (Below.refl _ _) (fun b hb => by simp [olOb] at hb)
  exact h2
theorem raw_sub {w0 w : World} {A B C D X : Ob} (h : Obs w0 w [A, B, C, D, X]) : Obs w0 w [A, B, X, D] ∧ Obs w0 w [A, B, C, X] := by
  constructor
  · refine h.sub (fun j => if j = 2 then 4 else j) (fun i j hi hj e => ?_) (fun j o hj => ?_)
    · simp only [List.length_cons, List.length_nil] at hi hj
      try simp only at e
      split at e <;> split at e <;> omega
    · match j, hj with
      | 0, hj => exact hj
      | 1, hj => exact hj
      | 2, hj => exact hj
      | 3, hj => exact hj
  · refine h.sub (fun j => if j = 3 then 4 else j) (fun i j hi hj e => ?_) (fun j o hj => ?_)
    · simp only [List.length_cons, List.length_nil] at hi hj
      try simp only at e
      split at e <;> split at e <;> omega
    · match j, hj with
      | 0, hj => exact hj
      | 1, hj => exact hj
      | 2, hj => exact hj
      | 3, hj => exact hj
end Go.Proofs.YthfnncahmccgkaaGreatDoor


namespace Go.Proofs.YthfnncahmccgkaaGreatDoor
open Go Go.RowKit Go.Maps
set_option maxRecDepth 100000
set_option linter.unusedSimpArgs false
set_option linter.unusedVariables false

def selO (k : Nat) (a b : Option (Nat × LS)) : Option (Nat × LS) := if k = 0 then a else b
theorem raw_beg {w0 W : World} {p bl bd gL q : Nat} {S S' : DS} {a b : Option (Nat × LS)} {l1 : LS} {n : Nat} (h : Obs w0 W ((rawOs p bl bd gL S a b).set 0 (pdOb p bl bd S') ++ [lgOb q p l1])) {k : Nat} (hk : k < 2) (ha : okO n a) (hb : okO n b) (hl : l1.Ok n) :
    ∃ a' b', Obs w0 (W.setCell ⟨gL, k, none⟩ (dp q)) (rawOs p bl bd gL S' a' b') ∧ okO n a' ∧ okO n b' := by
  have h1 := Obs.setX (h : Obs w0 W [pdOb p bl bd S', xOb 22 gL 2 [pvO a, pvO b], olOb p a, olOb p b, lgOb q p l1]) 1 (j := k) rfl (by simpa using hk) (dp q)
  have hlO : okO n (some (q, l1)) := fun q' l' e => by cases e; exact hl
  rcases (show k = 0 ∨ k = 1 by omega) with rfl | rfl
  · exact ⟨some (q, l1), b, (raw_sub h1).1, hlO, hb⟩
  · exact ⟨a, some (q, l1), (raw_sub h1).2, ha, hlO⟩
theorem raw_cell {w0 W : World} {p bl bd gL : Nat} {S : DS} {a b : Option (Nat × LS)} (h : Obs w0 W (rawOs p bl bd gL S a b)) {k : Nat} (hk : k < 2) : W.cell? ⟨gL, k, none⟩ = some (pvO (selO k a b)) ∧ W.frozen? ⟨gL, k, none⟩ = false ∧ gL < W.heap.size := by
  have hx : XR W 22 gL 2 [pvO a, pvO b] := h.get (i := 1) rfl
  obtain ⟨h1, h2⟩ := hx.cell (j := k) (by simpa using hk)
  refine ⟨?_, h2, hx.lt⟩
  rw [h1]
  rcases (show k = 0 ∨ k = 1 by omega) with rfl | rfl <;> rfl
theorem raw_add {w0 W : World} {p bl bd gL : Nat} {S : DS} {a b : Option (Nat × LS)} (h : Obs w0 W (rawOs p bl bd gL S a b)) {k : Nat} (hk : k < 2) {n : Nat} (hn : On n S) (ha : okO n a) (hb : okO n b) {q : Nat} {l : LS} (hs : selO k a b = some (q, l)) (hops : S.ops < 4611686018427380000) (s : List UInt8) (hsl : s.length ≤ 140737488351232) :
    Calls Tryz.prog 11 #[dp q, sv s] W fun e w' => ∃ v, e = .returned v ∧ ∃ a' b', Obs w0 w' (rawOs p bl bd gL (addS S l s) a' b') ∧ okO n a' ∧ okO n b' ∧ pvO (selO k a' b') = dp q := by
  have hok : (addL S l s).Ok n → okO n (some (q, addL S l s)) := fun hl q' l' e => by cases e; exact hl
  rcases (show k = 0 ∨ k = 1 by omega) with rfl | rfl
  · obtain rfl : a = some (q, l) := hs
    have hl := ha q l rfl
    rw [← hn.len] at hl
    refine (add_o h 0 rfl 2 (by decide) rfl hl hops s hsl).mono ?_
    rintro e w' ⟨rfl, hO⟩
    exact ⟨_, rfl, some (q, addL S l s), b, hO, hok (by rw [← hn.len]; exact addL_ok hl), hb, rfl⟩
  · obtain rfl : b = some (q, l) := hs
    have hl := hb q l rfl
    rw [← hn.len] at hl
    refine (add_o h 0 rfl 3 (by decide) rfl hl hops s hsl).mono ?_
    rintro e w' ⟨rfl, hO⟩
    exact ⟨_, rfl, a, some (q, addL S l s), hO, ha, hok (by rw [← hn.len]; exact addL_ok hl), rfl⟩
theorem half_mod (z : Int) (hz : -9223372036854775808 ≤ z ∧ z ≤ 9223372036854775807) : ∃ (u : Int) (k : Nat), IntKind.u64.wrap z = u ∧ 0 ≤ u ∧ u < 18446744073709551616 ∧ u % 2 = (k : Int) ∧ k < 2 ∧ (k : Int) = z % 2 := by
  refine ⟨IntKind.u64.wrap z, (z % 2).toNat, rfl, ?_⟩
  have e : IntKind.u64.wrap z = z % 18446744073709551616 := by rw [IntKind.wrap_u64]
  rw [e]
  omega

/-- A row of bytes that is read. -/
def byOb (g : Nat) (L : List UInt8) : Ob := ⟨[g], fun W => ∀ j, j < L.length → W.cell? ⟨g, j, none⟩ = some (bv (L.getD j 0))⟩
theorem byOb_stays (g : Nat) (L : List UInt8) : (byOb g L).Stays := fun W W' h hP j hj => (World.cell?_of_block (h g (by simp [byOb])).2).trans (hP j hj)
theorem slice_128 (W : World) (g n c : Nat) (hn : 128 ≤ n) (hc : n ≤ c) : (Instr.slice 44 (.slice (some ⟨g, 0, none⟩) n c) none (some (.int .i64 128)) none).run Tryz.prog W = .ok (.slice (some ⟨g, 0, none⟩) 128 c) W := by
  obtain ⟨ti, hti, hs1⟩ := Option.map_eq_some_iff.1 one_b
  have h1 : (128 : Int) ≤ (c : Int) := by omega
  have h2 : 128 ≤ c := by omega
  have h3 : c ≠ 0 := by omega
  have e1 : (⟨g, 0, none⟩ : Addr).add 0 = ⟨g, 0, none⟩ := by unfold Addr.add; split <;> simp_all
  simp [Instr.slice, run_underlying Tryz.underlying44, Instr.sliceBounds, run_sliceBound, asIntOf, h1, h2, h3, Result.andThen, sizeOf, typeInfo, hti, hs1, e1]
/-- Between two steps. -/
def RawI (w0 W : World) (p bl bd gL n : Nat) (o : Nat) (k : Nat) : Prop := ∃ (T : DS) (a b : Option (Nat × LS)), Obs w0 W (rawOs p bl bd gL T a b) ∧ okO n a ∧ okO n b ∧ On n T ∧ T.ops ≤ o + k * 1100

set_option maxHeartbeats 16000000 in
theorem raw_any {w0 w : World} {p bl bd : Nat} {S : DS} (h : Obs w0 w [pdOb p bl bd S]) {A : Option Addr} {c : Nat} {l : List S2} (hl : S2At w0 A l) (hs : Short2 l) {n : Nat} (hn : On n S) (hn2 : n ≤ 1024) (hops : S.ops ≤ 1000) :
    Calls Tryz.prog 28 #[dp p, .slice A l.length c] w fun e w' => e = .returned (.tuple #[]) ∧ ∃ S', Obs w0 w' [pdOb p bl bd S'] ∧ On n S' ∧ S'.ops ≤ 200000 := by
  have hst := raw_start h
  have HMK := Lib.hid make_logs
  have HL := Lib.hid hl
  have HSH := Lib.hid hs
  have hl100 := hs.1
  generalize hln : l.length = ln at hl100 ⊢
  have HLN := Lib.hid hln
  have HS0 := Lib.hid (show RawI w0 (w.alloc (.cells #[.pointer none, .pointer none] 22)) p bl bd w.heap.size n S.ops 0 from ⟨S, none, none, hst, okO_none _, okO_none _, hn, by omega⟩)
  clear h hl hs hn hst hln
  go_enter Tryz.func28, Tryz.ntmps28
  go_wp2_with fail
  rw [HMK.out]
  simp only [Result.andThen]
  rw [Oper.upon_value]
  obtain ⟨gL, hgL⟩ : ∃ gL, gL = w.heap.size := ⟨_, rfl⟩
  rw [← hgL] at HS0 ⊢
  generalize w.alloc (.cells #[.pointer none, .pointer none] 22) = w1 at HS0 ⊢
  clear hgL HMK
  go_wp2_with fail
  go_loopw [5] (fun iv wr => ∃ k : Nat, iv = .int .i64 (k : Int) ∧ k ≤ ln ∧ RawI w0 wr p bl bd gL n S.ops k) (fun iv _ => ln - (RowKit.intOf iv).toNat)
  case atStart => exact ⟨0, rfl, Nat.zero_le _, HS0.out⟩
  case round =>
    obtain ⟨k, rfl, hk, hri⟩ := hrel
    have HRI := Lib.hid hri
    clear hri
    by_cases hlt : k < ln
    · have hlt' : (k : Int) < (ln : Int) := by omega
      obtain ⟨T, a, b2, hO, hoa, hob, hon, hto⟩ := HRI.out
      obtain ⟨b, o, rfl, hb, hc, hok⟩ := HL.out k (by rw [HLN.out]; exact hlt)
      obtain ⟨hkl, hsl⟩ := HSH.out.at (k := k) (by rw [HLN.out]; exact hlt)
      obtain ⟨t, ht⟩ : ∃ t, t = l.getD k s20 := ⟨_, rfl⟩
      rw [← ht] at hc hok hkl hsl
      have HCE := Lib.hid (fun W (hW : Below w0.heap.size w0 W) => (hc.of_block (hW.block b hb)).range)
      have HCA := Lib.hid (fun W (hW : Below w0.heap.size w0 W) => show W.cell? ⟨b, o + k * 6 + 2, none⟩ = some (.int .i64 t.age) from (hc.of_block (hW.block b hb)) 2 (by omega))
      have hcw := hc.of_block (hO.bel.block b hb)
      have c0 : wr.cell? ⟨b, o + k * 6, none⟩ = some (.int .u8 (t.wh.toNat : Int)) := hcw 0 (by omega)
      have c1 : wr.cell? ⟨b, o + k * 6 + 1, none⟩ = some (.int .i64 t.half) := hcw 1 (by omega)
      obtain ⟨u, hk2, hu, hu0, hu1, hmod, hk2l, hkz⟩ := half_mod t.half hok.half
      have hwk : IntKind.i64.wrap (hk2 : Int) = (hk2 : Int) := IntWalk.i64_in _ (by omega)
      have hwr : IntKind.i64.wrap ((k : Int) + 1) = (k : Int) + 1 := IntWalk.i64_in _ (by omega)
      have hk20 : (hk2 : Int) < 2 := by omega
      have TX := Lib.hid (fun W => @text_any W t hok.many (by omega))
      have htl := t.txt_len
      have HO := Lib.hid hO
      have HBD := Lib.hid (show Below w0.heap.size w0 wr.drew from hO.bel.drew)
      have HOA := Lib.hid hoa
      have HOB := Lib.hid hob
      have HON := Lib.hid hon
      have hops2 : T.ops < 4611686018427380000 := by omega
      clear ht hc hcw hb hoa hob hkz
      by_cases h0 : t.wh = 0
      · have e0 : (t.wh.toNat : Int) = 0 := by rw [h0]; rfl
        rw [e0] at c0
        have TP := Lib.hid (fun W (hW : Obs w0 W (rawOs p bl bd gL T a b2)) => show Calls Tryz.prog 15 #[dp p] W (fun e w' => e = .returned (.int .i64 (topZ T)) ∧ Obs w0 w' (rawOs p bl bd gL T a b2)) from (top12_any (hW.get (i := 0) rfl)).mono fun e w' hh => ⟨hh.1, hW.step hh.2⟩)
        have hz1 : topZ T = (topL T.now : Int) := by rw [topZ, hon.on, if_neg (by simp)]
        have hz2 : topL T.now < 4294967296 := by rw [topL_eq]; exact topM_lt _
        have hwz : IntKind.i64.wrap (topZ T + 1) = topZ T + 1 := IntWalk.i64_in _ (by omega)
        have BG := Lib.hid (fun W (hW : Obs w0 W (rawOs p bl bd gL T a b2)) => begin_o hW 0 rfl hops2 (hk2 : Int) (topZ T + 1) t.txt (by omega))
        generalize topZ T = tz at TP BG hwz
        have hSo := hO.get (i := 0) rfl
        have HN2 := Lib.hid (hon.beg (PD.ok hSo) (hk2 : Int) (tz + 1) t.txt)
        have HOP := Lib.hid (show (begS T (hk2 : Int) (tz + 1) t.txt).ops ≤ S.ops + (k + 1) * 1100 by have := @begS_ops T (hk2 : Int) (tz + 1) t.txt; have := hon.len; omega)
        have HBO := Lib.hid (fun h => by have := (begL_ok (S := T) (half := (hk2 : Int)) (age := tz + 1) (s := t.txt) h).1; rwa [hon.len] at this)
        clear e0 h0 hz1 hO hon hto hSo hz2
        go_wp2_with fail
        refine wp_region_held_drew (S := fun W => Below w0.heap.size w0 W) (by kernel_rfl) HBD.out (fun hHeld => ?_)
        refine wpAnyH_take (i := 0) (v := ?vv0_1) rfl (by kernel_rfl) (by kernel_rfl) (by kernel_rfl) (fun _ _ _ h => h) (Or.inl ⟨by rfl, ?hy0_1⟩) (by assumption) ?rest0_1
        case hy0_1 => (intro w' hSw; (try dsimp only at hSw); go_simp; try with_reducible rfl)
        try simp only [List.getElem_toArray, List.getElem_cons_zero, List.getElem_cons_succ, Act.put, List.setIfInBounds_toArray, List.set_cons_zero, List.set_cons_succ]
        refine wpAnyH_take (i := 1) (v := ?vv1_1) rfl (by kernel_rfl) (by kernel_rfl) (by kernel_rfl) (fun _ _ _ h => h) (Or.inl ⟨by rfl, ?hy1_1⟩) (by assumption) ?rest1_1
        case hy1_1 => (intro w' hSw; (try dsimp only at hSw); go_simp; try with_reducible rfl)
        try simp only [List.getElem_toArray, List.getElem_cons_zero, List.getElem_cons_succ, Act.put, List.setIfInBounds_toArray, List.set_cons_zero, List.set_cons_succ]
        refine wpAnyH_take (i := 2) (v := ?vv2_1) rfl (by kernel_rfl) (by kernel_rfl) (by kernel_rfl) (fun _ _ _ h => h) (Or.inl ⟨by rfl, ?hy2_1⟩) (by assumption) ?rest2_1
        case hy2_1 => (intro w' hSw; (try dsimp only at hSw); go_simp; try with_reducible rfl)
        try simp only [List.getElem_toArray, List.getElem_cons_zero, List.getElem_cons_succ, Act.put, List.setIfInBounds_toArray, List.set_cons_zero, List.set_cons_succ]
        refine wpAnyH_take (i := 5) (v := ?vv5_1) rfl (by kernel_rfl) (by kernel_rfl) (by kernel_rfl) (fun _ _ _ h => h) (Or.inl ⟨by rfl, ?hy5_1⟩) (by assumption) ?rest5_1
        case hy5_1 => (intro w' hSw; (try dsimp only at hSw); go_simp; try with_reducible rfl)
        try simp only [List.getElem_toArray, List.getElem_cons_zero, List.getElem_cons_succ, Act.put, List.setIfInBounds_toArray, List.set_cons_zero, List.set_cons_succ]
        refine wpAnyH_take (i := 6) (v := ?vv6_1) rfl (by kernel_rfl) (by kernel_rfl) (by kernel_rfl) (fun _ _ _ h => h) (Or.inl ⟨by rfl, ?hy6_1⟩) (by assumption) ?rest6_1
        case hy6_1 => (intro w' hSw; (try dsimp only at hSw); go_simp; try with_reducible rfl)
        try simp only [List.getElem_toArray, List.getElem_cons_zero, List.getElem_cons_succ, Act.put, List.setIfInBounds_toArray, List.set_cons_zero, List.set_cons_succ]
        refine wpAnyH_take (i := 7) (v := ?vv7_1) rfl (by kernel_rfl) (by kernel_rfl) (by kernel_rfl) (fun _ _ _ h => h) (Or.inl ⟨by rfl, ?hy7_1⟩) (by assumption) ?rest7_1
        case hy7_1 => (intro w' hSw; (try dsimp only at hSw); go_simp; try with_reducible rfl)
        try simp only [List.getElem_toArray, List.getElem_cons_zero, List.getElem_cons_succ, Act.put, List.setIfInBounds_toArray, List.set_cons_zero, List.set_cons_succ]
        refine wpAnyH_take (i := 8) (v := t.val) rfl (by kernel_rfl) (by kernel_rfl) (by kernel_rfl) (fun _ _ _ h => h) (Or.inl ⟨by rfl, fun w' hSw => exec_load_mid w' rfl rfl (HCE.out w' hSw) Tryz.underlying61 rfl s2C_size⟩) (by assumption) ?_
        try simp only [List.getElem_toArray, List.getElem_cons_zero, List.getElem_cons_succ, Act.put, List.setIfInBounds_toArray, List.set_cons_zero, List.set_cons_succ]
        refine wpAnyH_ready (rs := [3]) (by kernel_rfl) (by simp) ?_
        refine AllReadyH.cons rfl (fun K hK => ?_) AllReadyH.nil
        go_simp
        go_at_call 15
        refine (TP.out _ (HO.out.drew)).mono ?_
        rintro e1 wa ⟨rfl, hOa⟩
        refine hK.out _ _ hOa.bel (fun hHeld => ?_)
        clear hK K
        try simp only [List.getElem_toArray, List.getElem_cons_zero, List.getElem_cons_succ, Act.put, List.setIfInBounds_toArray, List.set_cons_zero, List.set_cons_succ]
        refine wpAnyH_take (i := 4) (v := ?vv4_1) rfl (by kernel_rfl) (by kernel_rfl) (by kernel_rfl) (fun _ _ _ h => h) (Or.inl ⟨by rfl, ?hy4_1⟩) (by assumption) ?rest4_1
        case hy4_1 => (intro w' hSw; (try dsimp only at hSw); go_simp; try with_reducible rfl)
        try simp only [List.getElem_toArray, List.getElem_cons_zero, List.getElem_cons_succ, Act.put, List.setIfInBounds_toArray, List.set_cons_zero, List.set_cons_succ]
        refine wpAnyH_ready (rs := [9]) (by kernel_rfl) (by simp) ?_
        refine AllReadyH.cons rfl (fun K hK => ?_) AllReadyH.nil
        go_simp
        go_at_call 49
        refine (TX.out _).mono ?_
        rintro e1 wb ⟨rfl, hbb⟩
        have hOb := hOa.step hbb
        refine hK.out _ _ hOb.bel (fun hHeld => ?_)
        clear hK K
        try simp only [List.getElem_toArray, List.getElem_cons_zero, List.getElem_cons_succ, Act.put, List.setIfInBounds_toArray, List.set_cons_zero, List.set_cons_succ]
        refine wpAnyH_ready (rs := [10]) (by kernel_rfl) (by simp) ?_
        refine AllReadyH.cons rfl (fun K hK => ?_) AllReadyH.nil
        go_simp
        go_at_call 7
        refine (BG.out _ hOb).mono ?_
        rintro e1 wc ⟨vc, rfl, hcc⟩
        refine hK.out _ _ (hcc.elim (fun h => by obtain ⟨_, q, _, hq⟩ := h; exact hq.bel) (fun h => h.2.2.bel)) (fun hHeld => ?_)
        clear hK K
        try simp only [List.getElem_toArray, List.getElem_cons_zero, List.getElem_cons_succ, Act.put, List.setIfInBounds_toArray, List.set_cons_zero, List.set_cons_succ]
        refine wpAnyH_take (i := 11) (v := ?vv11_1) rfl (by kernel_rfl) (by kernel_rfl) (by kernel_rfl) (fun _ _ _ h => h) (Or.inl ⟨by rfl, ?hy11_1⟩) (by assumption) ?rest11_1
        case hy11_1 => (intro w' hSw; (try dsimp only at hSw); go_simp; try with_reducible rfl)
        try simp only [List.getElem_toArray, List.getElem_cons_zero, List.getElem_cons_succ, Act.put, List.setIfInBounds_toArray, List.set_cons_zero, List.set_cons_succ]
        refine wpAnyH_take (i := 12) (v := ?vv12_1) rfl (by kernel_rfl) (by kernel_rfl) (by kernel_rfl) (fun _ _ _ h => h) (Or.inl ⟨by rfl, ?hy12_1⟩) (by assumption) ?rest12_1
        case hy12_1 => (intro w' hSw; (try dsimp only at hSw); go_simp; try with_reducible rfl)
        try simp only [List.getElem_toArray, List.getElem_cons_zero, List.getElem_cons_succ, Act.put, List.setIfInBounds_toArray, List.set_cons_zero, List.set_cons_succ]
        refine wpAnyH_take (i := 13) (v := ?vv13_1) rfl (by kernel_rfl) (by kernel_rfl) (by kernel_rfl) (fun _ _ _ h => h) (Or.inl ⟨by rfl, ?hy13_1⟩) (by assumption) ?rest13_1
        case hy13_1 => (intro w' hSw; (try dsimp only at hSw); go_simp; try with_reducible rfl)
        try simp only [List.getElem_toArray, List.getElem_cons_zero, List.getElem_cons_succ, Act.put, List.setIfInBounds_toArray, List.set_cons_zero, List.set_cons_succ]
        refine wpAnyH_take (i := 14) (v := ?vv14_1) rfl (by kernel_rfl) (by kernel_rfl) (by kernel_rfl) (fun _ _ _ h => h) (Or.inl ⟨by rfl, ?hy14_1⟩) (by assumption) ?rest14_1
        case hy14_1 => (intro w' hSw; (try dsimp only at hSw); go_simp; try with_reducible rfl)
        try simp only [List.getElem_toArray, List.getElem_cons_zero, List.getElem_cons_succ, Act.put, List.setIfInBounds_toArray, List.set_cons_zero, List.set_cons_succ]
        refine wpAnyH_take (i := 15) (v := ?vv15_1) rfl (by kernel_rfl) (by kernel_rfl) (by kernel_rfl) (fun _ _ _ h => h) (Or.inl ⟨by rfl, ?hy15_1⟩) (by assumption) ?rest15_1
        case hy15_1 => (intro w' hSw; (try dsimp only at hSw); go_simp; try with_reducible rfl)
        try simp only [List.getElem_toArray, List.getElem_cons_zero, List.getElem_cons_succ, Act.put, List.setIfInBounds_toArray, List.set_cons_zero, List.set_cons_succ]
        refine wpAnyH_done (by kernel_rfl) ?_ _
        rcases hcc with ⟨hz, q, rfl, hOq⟩ | ⟨hz, rfl, hOq⟩
        · have hcell := raw_cell (k := hk2) (show Obs w0 wc (rawOs p bl bd gL (begS T (hk2 : Int) (tz + 1) t.txt) a b2) from hOq.sub (fun j => j) (fun _ _ _ _ h => h) (fun j o hj => by
            match j, hj with
            | 0, hj => exact hj
            | 1, hj => exact hj
            | 2, hj => exact hj
            | 3, hj => exact hj)) hk2l
          obtain ⟨cg, fg, _⟩ := hcell
          have HOQ := Lib.hid (raw_beg hOq hk2l HOA.out HOB.out (HBO.out hz))
          have hz' : begE T (hk2 : Int) (tz + 1) t.txt = 0 := hz
          rw [hz'] 
          clear hOq hz hHeld hOa hOb hbb
          go_wp2_with fail
          go_roundw
          case rel =>
            obtain ⟨a', b', h1, h2, h3⟩ := HOQ.out
            exact ⟨k + 1, by go_num, by omega, _, a', b', h1, h2, h3, HN2.out, HOP.out⟩
          case measure => simp [RowKit.intOf]; omega
        · have hz' : (begE T (hk2 : Int) (tz + 1) t.txt == 0) = false := by rw [beq_eq_false_iff_ne]; exact hz
          have HOQ := Lib.hid (show Obs w0 wc (rawOs p bl bd gL (begS T (hk2 : Int) (tz + 1) t.txt) a b2) from hOq)
          generalize begE T (hk2 : Int) (tz + 1) t.txt = E at hz'
          clear hOq hz hHeld hOa hOb hbb
          go_wp2_with fail
          go_roundw
          case rel => exact ⟨k + 1, by go_num, by omega, _, a, b2, HOQ.out, HOA.out, HOB.out, HN2.out, HOP.out⟩
          case measure => simp [RowKit.intOf]; omega
      · have e0 : ((t.wh.toNat : Int) == 0) = false := u8_ne (y := 0) h0
        by_cases h1 : t.wh = 1
        · have e1 : (t.wh.toNat : Int) = 1 := by rw [h1]; rfl
          rw [e1] at c0 e0
          obtain ⟨hcg, _, hgl⟩ := raw_cell hO hk2l
          obtain ⟨pv, hpv⟩ : ∃ pv, pv = pvO (selO hk2 a b2) := ⟨_, rfl⟩
          rw [← hpv] at hcg
          have HPV := Lib.hid (show wr.drew.cell? ⟨gL, hk2, none⟩ = some pv from hcg)
          have HLB := Lib.hid (fun wb (hb : Below wr.drew.heap.size wr.drew wb) => hb.cell (p := ⟨gL, hk2, none⟩) hgl)
          cases hsel : selO hk2 a b2 with
          | none =>
            have hpn : pv = .pointer none := by rw [hpv, hsel]; rfl
            have HPN := Lib.hid hpn
            have HTO := Lib.hid hto
            clear e1 h0 h1 hO hon hto hpv hcg hsel hpn hgl
            go_wp2_with fail
            refine wp_region_held_drew (S := fun W => Below w0.heap.size w0 W ∧ W.cell? ⟨gL, hk2, none⟩ = some pv) (by kernel_rfl) ⟨HBD.out, HPV.out⟩ (fun hHeld => ?_)
            refine wpAnyH_take (i := 0) (v := ?vv0_2) rfl (by kernel_rfl) (by kernel_rfl) (by kernel_rfl) (fun _ _ _ h => h) (Or.inl ⟨by rfl, ?hy0_2⟩) (by assumption) ?rest0_2
            case hy0_2 => (intro w' hSw; (try dsimp only at hSw); go_simp; try with_reducible rfl)
            try simp only [List.getElem_toArray, List.getElem_cons_zero, List.getElem_cons_succ, Act.put, List.setIfInBounds_toArray, List.set_cons_zero, List.set_cons_succ]
            refine wpAnyH_take (i := 1) (v := ?vv1_2) rfl (by kernel_rfl) (by kernel_rfl) (by kernel_rfl) (fun _ _ _ h => h) (Or.inl ⟨by rfl, ?hy1_2⟩) (by assumption) ?rest1_2
            case hy1_2 => (intro w' hSw; (try dsimp only at hSw); go_simp; try with_reducible rfl)
            try simp only [List.getElem_toArray, List.getElem_cons_zero, List.getElem_cons_succ, Act.put, List.setIfInBounds_toArray, List.set_cons_zero, List.set_cons_succ]
            refine wpAnyH_take (i := 2) (v := ?vv2_2) rfl (by kernel_rfl) (by kernel_rfl) (by kernel_rfl) (fun _ _ _ h => h) (Or.inl ⟨by rfl, ?hy2_2⟩) (by assumption) ?rest2_2
            case hy2_2 => (intro w' hSw; (try dsimp only at hSw); go_simp; try with_reducible rfl)
            try simp only [List.getElem_toArray, List.getElem_cons_zero, List.getElem_cons_succ, Act.put, List.setIfInBounds_toArray, List.set_cons_zero, List.set_cons_succ]
            refine wpAnyH_take (i := 3) (v := pv) rfl (by kernel_rfl) (by kernel_rfl) (by kernel_rfl) (fun _ _ _ h => h) (Or.inl ⟨by rfl, fun w' hSw => exec_load1 w' rfl rfl hSw.2 Tryz.underlying22 rfl⟩) (by assumption) ?_
            try simp only [List.getElem_toArray, List.getElem_cons_zero, List.getElem_cons_succ, Act.put, List.setIfInBounds_toArray, List.set_cons_zero, List.set_cons_succ]
            refine wpAnyH_take (i := 4) (v := ?vv4_2) rfl (by kernel_rfl) (by kernel_rfl) (by kernel_rfl) (fun _ _ _ h => h) (Or.inl ⟨by rfl, ?hy4_2⟩) (by assumption) ?rest4_2
            case hy4_2 => (intro w' hSw; (try dsimp only at hSw); go_simp; try with_reducible rfl)
            try simp only [List.getElem_toArray, List.getElem_cons_zero, List.getElem_cons_succ, Act.put, List.setIfInBounds_toArray, List.set_cons_zero, List.set_cons_succ]
            refine wpAnyH_take (i := 5) (v := ?vv5_2) rfl (by kernel_rfl) (by kernel_rfl) (by kernel_rfl) (fun _ _ _ h => h) (Or.inl ⟨by rfl, ?hy5_2⟩) (by assumption) ?rest5_2
            case hy5_2 => (intro w' hSw; (try dsimp only at hSw); go_simp; try with_reducible rfl)
            try simp only [List.getElem_toArray, List.getElem_cons_zero, List.getElem_cons_succ, Act.put, List.setIfInBounds_toArray, List.set_cons_zero, List.set_cons_succ]
            refine wpAnyH_take (i := 6) (v := ?vv6_2) rfl (by kernel_rfl) (by kernel_rfl) (by kernel_rfl) (fun _ _ _ h => h) (Or.inl ⟨by rfl, ?hy6_2⟩) (by assumption) ?rest6_2
            case hy6_2 => (intro w' hSw; (try dsimp only at hSw); go_simp; try with_reducible rfl)
            try simp only [List.getElem_toArray, List.getElem_cons_zero, List.getElem_cons_succ, Act.put, List.setIfInBounds_toArray, List.set_cons_zero, List.set_cons_succ]
            refine wpAnyH_take (i := 7) (v := t.val) rfl (by kernel_rfl) (by kernel_rfl) (by kernel_rfl) (fun _ _ _ h => h) (Or.inl ⟨by rfl, fun w' hSw => exec_load_mid w' rfl rfl (HCE.out w' hSw.1) Tryz.underlying61 rfl s2C_size⟩) (by assumption) ?_
            try simp only [List.getElem_toArray, List.getElem_cons_zero, List.getElem_cons_succ, Act.put, List.setIfInBounds_toArray, List.set_cons_zero, List.set_cons_succ]
            refine wpAnyH_ready (rs := [8]) (by kernel_rfl) (by simp) ?_
            refine AllReadyH.cons rfl (fun K hK => ?_) AllReadyH.nil
            go_simp
            go_at_call 49
            refine (TX.out _).mono ?_
            rintro e1 wb ⟨rfl, hbb⟩
            have hOb := HO.out.drew.step hbb
            have hcb := (HLB.out _ hbb).trans hHeld.2
            refine hK.out _ _ ⟨hOb.bel, hcb⟩ (fun hHeld => ?_)
            clear hK K
            try simp only [List.getElem_toArray, List.getElem_cons_zero, List.getElem_cons_succ, Act.put, List.setIfInBounds_toArray, List.set_cons_zero, List.set_cons_succ]
            refine wpAnyH_ready (rs := [9]) (by kernel_rfl) (by simp) ?_
            refine AllReadyH.cons rfl (fun K hK => ?_) AllReadyH.nil
            rw [HPN.out]
            go_simp
            go_at_call 11
            refine (add_nil (w := wb) t.txt).mono ?_
            rintro e1 wd ⟨rfl, rfl⟩
            refine hK.out _ _ ⟨hOb.bel, hcb⟩ (fun hHeld => ?_)
            clear hK K
            try simp only [List.getElem_toArray, List.getElem_cons_zero, List.getElem_cons_succ, Act.put, List.setIfInBounds_toArray, List.set_cons_zero, List.set_cons_succ]
            refine wpAnyH_done (by kernel_rfl) ?_ _
            have HOQ := Lib.hid hOb
            clear hOb hHeld hbb hcb
            go_wp2_with fail
            go_roundw
            case rel => exact ⟨k + 1, by go_num, by omega, T, a, b2, HOQ.out, HOA.out, HOB.out, HON.out, by have := HTO.out; omega⟩
            case measure => simp [RowKit.intOf]; omega
          | some x =>
            obtain ⟨q, l1⟩ := x
            have ADD := Lib.hid (fun W (hW : Obs w0 W (rawOs p bl bd gL T a b2)) => raw_add hW hk2l hon HOA.out HOB.out hsel hops2 t.txt (by omega))
            have hpn : pv = dp q := by rw [hpv, hsel]; rfl
            have hlok : l1.Ok n := by
              rcases (show hk2 = 0 ∨ hk2 = 1 by omega) with e | e
              · subst e; exact HOA.out q l1 hsel
              · subst e; exact HOB.out q l1 hsel
            have hSo := hO.get (i := 0) rfl
            have HN2 := Lib.hid (hon.add (PD.ok hSo) hlok t.txt)
            have HOP := Lib.hid (show (addS T l1 t.txt).ops ≤ S.ops + (k + 1) * 1100 by have := @addS_ops T l1 t.txt; have := hon.len; omega)
            have HPN := Lib.hid hpn
            clear e1 h0 h1 hO hon hto hpv hcg hsel hgl hSo hlok hpn
            go_wp2_with fail
            refine wp_region_held_drew (S := fun W => Below w0.heap.size w0 W ∧ W.cell? ⟨gL, hk2, none⟩ = some pv) (by kernel_rfl) ⟨HBD.out, HPV.out⟩ (fun hHeld => ?_)
            refine wpAnyH_take (i := 0) (v := ?vv0_3) rfl (by kernel_rfl) (by kernel_rfl) (by kernel_rfl) (fun _ _ _ h => h) (Or.inl ⟨by rfl, ?hy0_3⟩) (by assumption) ?rest0_3
            case hy0_3 => (intro w' hSw; (try dsimp only at hSw); go_simp; try with_reducible rfl)
            try simp only [List.getElem_toArray, List.getElem_cons_zero, List.getElem_cons_succ, Act.put, List.setIfInBounds_toArray, List.set_cons_zero, List.set_cons_succ]
            refine wpAnyH_take (i := 1) (v := ?vv1_3) rfl (by kernel_rfl) (by kernel_rfl) (by kernel_rfl) (fun _ _ _ h => h) (Or.inl ⟨by rfl, ?hy1_3⟩) (by assumption) ?rest1_3
            case hy1_3 => (intro w' hSw; (try dsimp only at hSw); go_simp; try with_reducible rfl)
            try simp only [List.getElem_toArray, List.getElem_cons_zero, List.getElem_cons_succ, Act.put, List.setIfInBounds_toArray, List.set_cons_zero, List.set_cons_succ]
            refine wpAnyH_take (i := 2) (v := ?vv2_3) rfl (by kernel_rfl) (by kernel_rfl) (by kernel_rfl) (fun _ _ _ h => h) (Or.inl ⟨by rfl, ?hy2_3⟩) (by assumption) ?rest2_3
            case hy2_3 => (intro w' hSw; (try dsimp only at hSw); go_simp; try with_reducible rfl)
            try simp only [List.getElem_toArray, List.getElem_cons_zero, List.getElem_cons_succ, Act.put, List.setIfInBounds_toArray, List.set_cons_zero, List.set_cons_succ]
            refine wpAnyH_take (i := 3) (v := pv) rfl (by kernel_rfl) (by kernel_rfl) (by kernel_rfl) (fun _ _ _ h => h) (Or.inl ⟨by rfl, fun w' hSw => exec_load1 w' rfl rfl hSw.2 Tryz.underlying22 rfl⟩) (by assumption) ?_
            try simp only [List.getElem_toArray, List.getElem_cons_zero, List.getElem_cons_succ, Act.put, List.setIfInBounds_toArray, List.set_cons_zero, List.set_cons_succ]
            refine wpAnyH_take (i := 4) (v := ?vv4_3) rfl (by kernel_rfl) (by kernel_rfl) (by kernel_rfl) (fun _ _ _ h => h) (Or.inl ⟨by rfl, ?hy4_3⟩) (by assumption) ?rest4_3
            case hy4_3 => (intro w' hSw; (try dsimp only at hSw); go_simp; try with_reducible rfl)
            try simp only [List.getElem_toArray, List.getElem_cons_zero, List.getElem_cons_succ, Act.put, List.setIfInBounds_toArray, List.set_cons_zero, List.set_cons_succ]
            refine wpAnyH_take (i := 5) (v := ?vv5_3) rfl (by kernel_rfl) (by kernel_rfl) (by kernel_rfl) (fun _ _ _ h => h) (Or.inl ⟨by rfl, ?hy5_3⟩) (by assumption) ?rest5_3
            case hy5_3 => (intro w' hSw; (try dsimp only at hSw); go_simp; try with_reducible rfl)
            try simp only [List.getElem_toArray, List.getElem_cons_zero, List.getElem_cons_succ, Act.put, List.setIfInBounds_toArray, List.set_cons_zero, List.set_cons_succ]
            refine wpAnyH_take (i := 6) (v := ?vv6_3) rfl (by kernel_rfl) (by kernel_rfl) (by kernel_rfl) (fun _ _ _ h => h) (Or.inl ⟨by rfl, ?hy6_3⟩) (by assumption) ?rest6_3
            case hy6_3 => (intro w' hSw; (try dsimp only at hSw); go_simp; try with_reducible rfl)
            try simp only [List.getElem_toArray, List.getElem_cons_zero, List.getElem_cons_succ, Act.put, List.setIfInBounds_toArray, List.set_cons_zero, List.set_cons_succ]
            refine wpAnyH_take (i := 7) (v := t.val) rfl (by kernel_rfl) (by kernel_rfl) (by kernel_rfl) (fun _ _ _ h => h) (Or.inl ⟨by rfl, fun w' hSw => exec_load_mid w' rfl rfl (HCE.out w' hSw.1) Tryz.underlying61 rfl s2C_size⟩) (by assumption) ?_
            try simp only [List.getElem_toArray, List.getElem_cons_zero, List.getElem_cons_succ, Act.put, List.setIfInBounds_toArray, List.set_cons_zero, List.set_cons_succ]
            refine wpAnyH_ready (rs := [8]) (by kernel_rfl) (by simp) ?_
            refine AllReadyH.cons rfl (fun K hK => ?_) AllReadyH.nil
            go_simp
            go_at_call 49
            refine (TX.out _).mono ?_
            rintro e1 wb ⟨rfl, hbb⟩
            have hOb := HO.out.drew.step hbb
            have hcb := (HLB.out _ hbb).trans hHeld.2
            refine hK.out _ _ ⟨hOb.bel, hcb⟩ (fun hHeld => ?_)
            clear hK K
            try simp only [List.getElem_toArray, List.getElem_cons_zero, List.getElem_cons_succ, Act.put, List.setIfInBounds_toArray, List.set_cons_zero, List.set_cons_succ]
            refine wpAnyH_ready (rs := [9]) (by kernel_rfl) (by simp) ?_
            refine AllReadyH.cons rfl (fun K hK => ?_) AllReadyH.nil
            rw [HPN.out]
            go_simp
            go_at_call 11
            refine (ADD.out _ hOb).mono ?_
            rintro e1 wd ⟨vd, rfl, a', b', hOd, ha', hb', hpd⟩
            refine hK.out _ _ ⟨hOd.bel, by have h9 := (raw_cell hOd hk2l).1; rw [hpd, ← HPN.out] at h9; exact h9⟩ (fun hHeld => ?_)
            clear hK K
            try simp only [List.getElem_toArray, List.getElem_cons_zero, List.getElem_cons_succ, Act.put, List.setIfInBounds_toArray, List.set_cons_zero, List.set_cons_succ]
            refine wpAnyH_done (by kernel_rfl) ?_ _
            have HOQ := Lib.hid hOd
            have HA' := Lib.hid ha'
            have HB' := Lib.hid hb'
            clear hOb hOd hHeld hbb hcb ha' hb' hpd
            go_wp2_with fail
            go_roundw
            case rel => exact ⟨k + 1, by go_num, by omega, _, a', b', HOQ.out, HA'.out, HB'.out, HN2.out, HOP.out⟩
            case measure => simp [RowKit.intOf]; omega
        · have e1 : ((t.wh.toNat : Int) == 1) = false := u8_ne (y := 1) h1
          by_cases h2 : t.wh = 2
          · have e2 : (t.wh.toNat : Int) = 2 := by rw [h2]; rfl
            rw [e2] at c0 e0 e1
            have hSo := hO.get (i := 0) rfl
            obtain ⟨hs1, hs2, _⟩ := hon.sync (PD.ok hSo)
            have HN2 := Lib.hid hs1
            have HOP := Lib.hid (show T.sync.ops ≤ S.ops + (k + 1) * 1100 by omega)
            have SY := Lib.hid (sync_o hO 0 rfl (by omega))
            clear e2 h0 h1 h2 hO hon hto hSo hs1 hs2
            go_wp2_with (go_at_call 32; refine SY.out.mono ?_; rintro e w5 ⟨rfl, hO5⟩; have HO5 := Lib.hid (show Obs w0 w5 (rawOs p bl bd gL T.sync a b2) from hO5); clear hO5)
            go_roundw
            case rel => exact ⟨k + 1, by go_num, by omega, _, a, b2, HO5.out, HOA.out, HOB.out, HN2.out, HOP.out⟩
            case measure => simp [RowKit.intOf]; omega
          · have e2 : ((t.wh.toNat : Int) == 2) = false := u8_ne (y := 2) h2
            by_cases h3 : t.wh = 3
            · have e3 : (t.wh.toNat : Int) = 3 := by rw [h3]; rfl
              rw [e3] at c0 e0 e1 e2
              obtain ⟨X, hX⟩ : ∃ X, X = (t.txt ++ List.replicate 128 0).take 128 := ⟨_, rfl⟩
              have hXl : X.length = 128 := by rw [hX]; simp
              obtain ⟨hw1, hw2⟩ := hon.wr t.age X
              have HN2 := Lib.hid hw1
              have HOP := Lib.hid (show (T.wr t.age X).ops ≤ S.ops + (k + 1) * 1100 by omega)
              have hcl := HCE.out wr hO.bel
              have HCL := Lib.hid (show wr.rangeAt b (o + k * 6) (s2C t).toList from hcl)
              have d0 : wr.cell? ⟨b, o + k * 6, none⟩ = some (.int .u8 (t.wh.toNat : Int)) := hcl 0 _ rfl
              have d2 : wr.cell? ⟨b, o + k * 6 + 2, none⟩ = some (.int .i64 t.age) := hcl 2 _ rfl
              have d3 : wr.cell? ⟨b, o + k * 6 + 3, none⟩ = some (sv t.s) := hcl 3 _ rfl
              have d4 : wr.cell? ⟨b, o + k * 6 + 4, none⟩ = some (.int .i64 t.many) := hcl 4 _ rfl
              have d5 : wr.cell? ⟨b, o + k * 6 + 5, none⟩ = some (.slice t.kA t.keep.length t.kc) := hcl 5 _ rfl
              have d0' := d0
              rw [e3] at d0'
              have hval : t.val = .agg #[.int .u8 3, .int .i64 t.half, .int .i64 t.age, sv t.s, .int .i64 t.many, .slice t.kA t.keep.length t.kc] := by rw [← e3]; rfl
              have TX2 := Lib.hid (fun W => TX.out W)
              rw [hval] at TX2
              have WA := Lib.hid (fun W g2 L (hW : Obs w0 W (rawOs p bl bd gL T a b2 ++ [byOb g2 L])) => show Calls Tryz.prog 57 #[dp p, .int .i64 t.age, sv X] W (fun e w' => e = .returned (.int .i64 (T.wrE t.age X)) ∧ Obs w0 w' (rawOs p bl bd gL (T.wr t.age X) a b2 ++ [byOb g2 L])) from write_o hW 0 rfl (by omega) t.age X (by omega))
              clear e3 h0 h1 h2 h3 hon hto hw1 hw2 hval hcl d0 hO
              go_wp2_with (first
                | (go_at_call 49; with_reducible refine (TX2.out _).mono ?_; rintro e w5 ⟨rfl, hb5⟩; have hO5 := HO.out.step hb5; obtain ⟨g1, cap1, W1, hr1, hrp⟩ := rp_bytes w5 w5 (Below.refl _ _) t.txt (by omega); obtain ⟨g2, cap2, W2, hr2, hcap2, hbW2, hg2l, hg2n, hcl2⟩ := rp_pad hrp (by omega) 44 128 (by omega) (by omega))
                | (at_builtin; refine wpList_builtin2_runF _ rfl .append Builtin.append_ _ _ _ _ rfl (fun _ _ _ => rfl) (.slice (some ⟨g1, 0, none⟩) t.txt.length cap1) (.int .i64 128) rfl rfl hr2 ?_))
              have hOB := hO5.add (byOb g2 (t.txt ++ List.replicate 128 0)) (fun j hj => hcl2 j (by simpa using hj)) (byOb_stays _ _) hbW2 (fun b hb => by simp [byOb] at hb; subst hb; exact ⟨hg2n, hg2l⟩)
              have HO16 := Lib.hid hOB.drew
              have HR16 := Lib.hid (show Below w0.heap.size w0 W2.drew ∧ ∀ j, j < t.txt.length + 128 → W2.drew.cell? ⟨g2, j, none⟩ = some (bv ((t.txt ++ List.replicate 128 0).getD j 0)) from ⟨hOB.bel.drew, fun j hj => (show W2.drew.cell? ⟨g2, j, none⟩ = W2.cell? ⟨g2, j, none⟩ from rfl).trans (hcl2 j hj)⟩)
              have HSL := Lib.hid (fun W => slice_128 W g2 (t.txt.length + 128) cap2 (by omega) hcap2)
              have HCV := Lib.hid (fun W (hc : ∀ j, j < t.txt.length + 128 → W.cell? ⟨g2, j, none⟩ = some (bv ((t.txt ++ List.replicate 128 0).getD j 0))) => show (convert 44 9 (.slice (some ⟨g2, 0, none⟩) 128 cap2)).run Tryz.prog W = .ok (sv X) W from by
                have := run_convert_bytes_back (P := Tryz.prog) W 44 9 5 ⟨g2, 0, none⟩ cap2 X Tryz.underlying44 Tryz.underlying5 Tryz.underlying9 (fun j hj => by
                  rw [show (⟨g2, 0, none⟩ : Addr).add j = ⟨g2, j, none⟩ from by unfold Addr.add; split <;> simp_all, hc j (by omega)]
                  rw [hXl] at hj
                  have hx2 : X[j]? = (t.txt ++ List.replicate 128 (0 : UInt8))[j]? := by rw [hX, List.getElem?_take_of_lt hj]
                  have hx3 : (t.txt ++ List.replicate 128 (0 : UInt8)).getD j 0 = X[j] := by rw [List.getD_eq_getElem?_getD, ← hx2, List.getElem?_eq_getElem (by omega)]; rfl
                  rw [hx3]; rfl)
                rwa [hXl] at this)
              have HC16 := Lib.hid (fun wd (hO : Obs w0 wd (rawOs p bl bd gL (T.wr t.age X) a b2 ++ [byOb g2 (t.txt ++ List.replicate 128 0)])) => show ∀ j, j < t.txt.length + 128 → wd.cell? ⟨g2, j, none⟩ = some (bv ((t.txt ++ List.replicate 128 0).getD j 0)) from fun j hj => hO.get (i := 4) rfl j (by simpa using hj))
              clear hr1 hrp hr2 hcap2 hbW2 hg2l hg2n hcl2 hO5 hb5 hOB d0' d2 d3 d4 d5 hX hXl
              refine wp_region_held_drew (S := fun W => Below w0.heap.size w0 W ∧ ∀ j, j < t.txt.length + 128 → W.cell? ⟨g2, j, none⟩ = some (bv ((t.txt ++ List.replicate 128 0).getD j 0))) (by kernel_rfl) HR16.out (fun hHeld => ?_)
              refine wpAnyH_take (i := 0) (v := ?vv0_4) rfl (by kernel_rfl) (by kernel_rfl) (by kernel_rfl) (fun _ _ _ h => h) (Or.inl ⟨by rfl, ?hy0_4⟩) (by assumption) ?rest0_4
              case hy0_4 => (intro w' hSw; (try dsimp only at hSw); go_simp; try with_reducible rfl)
              try simp only [List.getElem_toArray, List.getElem_cons_zero, List.getElem_cons_succ, Act.put, List.setIfInBounds_toArray, List.set_cons_zero, List.set_cons_succ]
              refine wpAnyH_take (i := 1) (v := ?vv1_4) rfl (by kernel_rfl) (by kernel_rfl) (by kernel_rfl) (fun _ _ _ h => h) (Or.inl ⟨by rfl, ?hy1_4⟩) (by assumption) ?rest1_4
              case hy1_4 => (intro w' hSw; (try dsimp only at hSw); go_simp; try with_reducible rfl)
              try simp only [List.getElem_toArray, List.getElem_cons_zero, List.getElem_cons_succ, Act.put, List.setIfInBounds_toArray, List.set_cons_zero, List.set_cons_succ]
              refine wpAnyH_take (i := 2) (v := ?vv2_4) rfl (by kernel_rfl) (by kernel_rfl) (by kernel_rfl) (fun _ _ _ h => h) (Or.inl ⟨by rfl, ?hy2_4⟩) (by assumption) ?rest2_4
              case hy2_4 => (intro w' hSw; (try dsimp only at hSw); go_simp; try with_reducible rfl)
              try simp only [List.getElem_toArray, List.getElem_cons_zero, List.getElem_cons_succ, Act.put, List.setIfInBounds_toArray, List.set_cons_zero, List.set_cons_succ]
              refine wpAnyH_take (i := 3) (v := ?vv3_4) rfl (by kernel_rfl) (by kernel_rfl) (by kernel_rfl) (fun _ _ _ h => h) (Or.inl ⟨by rfl, ?hy3_4⟩) (by assumption) ?rest3_4
              case hy3_4 => (intro w' hSw; (try dsimp only at hSw); go_simp; try with_reducible rfl)
              try simp only [List.getElem_toArray, List.getElem_cons_zero, List.getElem_cons_succ, Act.put, List.setIfInBounds_toArray, List.set_cons_zero, List.set_cons_succ]
              refine wpAnyH_take (i := 4) (v := ?vv4_4) rfl (by kernel_rfl) (by kernel_rfl) (by kernel_rfl) (fun _ _ _ h => h) (Or.inl ⟨by rfl, ?hy4_4⟩) (by assumption) ?rest4_4
              case hy4_4 => (intro w' hSw; (try dsimp only at hSw); go_simp; try with_reducible rfl)
              try simp only [List.getElem_toArray, List.getElem_cons_zero, List.getElem_cons_succ, Act.put, List.setIfInBounds_toArray, List.set_cons_zero, List.set_cons_succ]
              refine wpAnyH_take (i := 5) (v := .int .i64 t.age) rfl (by kernel_rfl) (by kernel_rfl) (by kernel_rfl) (fun _ _ _ h => h) (Or.inl ⟨by rfl, fun w' hSw => exec_load1 w' rfl rfl (HCA.out w' hSw.1) Tryz.underlying3 rfl⟩) (by assumption) ?_
              try simp only [List.getElem_toArray, List.getElem_cons_zero, List.getElem_cons_succ, Act.put, List.setIfInBounds_toArray, List.set_cons_zero, List.set_cons_succ]
              refine wpAnyH_take (i := 6) (v := ?vv6_4) rfl (by kernel_rfl) (by kernel_rfl) (by kernel_rfl) (fun _ _ _ h => h) (Or.inl ⟨by rfl, ?hy6_4⟩) (by assumption) ?rest6_4
              case hy6_4 => (intro w' hSw; (try dsimp only at hSw); go_simp; try with_reducible rfl)
              try simp only [List.getElem_toArray, List.getElem_cons_zero, List.getElem_cons_succ, Act.put, List.setIfInBounds_toArray, List.set_cons_zero, List.set_cons_succ]
              refine wpAnyH_take (i := 7) (v := .slice (some ⟨g2, 0, none⟩) 128 cap2) rfl (by kernel_rfl) (by kernel_rfl) (by kernel_rfl) (fun _ _ _ h => h) (Or.inl ⟨by rfl, fun w' hSw => exec_slice_hi w' Tryz.underlying44 (x := .tmp 83) (hi := .const (.int .i64 128)) rfl ⟨rfl, rfl⟩ (HSL.out w')⟩) (by assumption) ?_
              try simp only [List.getElem_toArray, List.getElem_cons_zero, List.getElem_cons_succ, Act.put, List.setIfInBounds_toArray, List.set_cons_zero, List.set_cons_succ]
              refine wpAnyH_take (i := 8) (v := sv X) rfl (by kernel_rfl) (by kernel_rfl) (by kernel_rfl) (fun _ _ _ h => h) (Or.inl ⟨by rfl, fun w' hSw => exec_conv w' rfl rfl (HCV.out w' hSw.2)⟩) (by assumption) ?_
              try simp only [List.getElem_toArray, List.getElem_cons_zero, List.getElem_cons_succ, Act.put, List.setIfInBounds_toArray, List.set_cons_zero, List.set_cons_succ]
              refine wpAnyH_ready (rs := [9]) (by kernel_rfl) (by simp) ?_
              refine AllReadyH.cons rfl (fun K hK => ?_) AllReadyH.nil
              go_simp
              go_at_call 57
              refine (WA.out _ _ _ HO16.out).mono ?_
              rintro e1 wd ⟨rfl, hOd⟩
              refine hK.out _ _ ⟨hOd.bel, HC16.out _ hOd⟩ (fun hHeld => ?_)
              clear hK K
              try simp only [List.getElem_toArray, List.getElem_cons_zero, List.getElem_cons_succ, Act.put, List.setIfInBounds_toArray, List.set_cons_zero, List.set_cons_succ]
              refine wpAnyH_done (by kernel_rfl) ?_ _
              have HOQ := Lib.hid (show Obs w0 wd (rawOs p bl bd gL (T.wr t.age X) a b2) from hOd.sub (fun j => j) (fun _ _ _ _ h => h) (fun j o hj => by
                match j, hj with
                | 0, hj => exact hj
                | 1, hj => exact hj
                | 2, hj => exact hj
                | 3, hj => exact hj))
              clear hOd hHeld
              go_wp2_with fail
              go_roundw
              case rel => exact ⟨k + 1, by go_num, by omega, _, a, b2, HOQ.out, HOA.out, HOB.out, HN2.out, HOP.out⟩
              case measure => simp [RowKit.intOf]; omega
            · have e3 : ((t.wh.toNat : Int) == 3) = false := u8_ne (y := 3) h3
              have HTO := Lib.hid hto
              clear h0 h1 h2 h3 hO hon hto
              generalize (t.wh.toNat : Int) = x at c0 e0 e1 e2 e3
              go_wp2_with fail
              go_roundw
              case rel => exact ⟨k + 1, by go_num, by omega, T, a, b2, HO.out, HOA.out, HOB.out, HON.out, by have := HTO.out; omega⟩
              case measure => simp [RowKit.intOf]; omega
    · have HKK := Lib.hid (show k ≤ 100 by omega)
      go_wp2_with fail
      go_end0
      obtain ⟨T, a, b2, hO, _, _, hon, hto⟩ := HRI.out
      refine ⟨rfl, T, hO.sub (fun j => j) (fun _ _ _ _ h => h) (fun j o hj => by
        match j, hj with
        | 0, hj => exact hj), hon, ?_⟩
      have := HKK.out
      omega
end Go.Proofs.YthfnncahmccgkaaGreatDoor

