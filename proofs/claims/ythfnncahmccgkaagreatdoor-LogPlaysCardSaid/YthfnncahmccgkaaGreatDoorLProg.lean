/-
  The program's log as it lies; halves, and places.
-/
import Derived.Test.YthfnncahmccgkaaGreatDoorLPure
import Derived.Test.YthfnncahmccgkaaGreatDoorDObs
import Derived.Test.YthfnncahmccgkaaGreatDoorFApp
namespace Go.Proofs.YthfnncahmccgkaaGreatDoor
open Go Go.RowKit Go.Maps
set_option maxRecDepth 100000
set_option linter.unusedSimpArgs false
set_option linter.unusedVariables false

def lgCells (p : Nat) (l : LS) : Array Value := #[dp p, .int .i64 (l.half : Int), .int .i64 (l.age : Int), .int .i64 (l.used : Int), .bool l.off]
/-- A log lies at block q; its disk at p. -/
def LG (w : World) (q p : Nat) (l : LS) : Prop := w.heap[q]? = some (.cells (lgCells p l) 74 (0, 0))
theorem LG.lt {w : World} {q p : Nat} {l : LS} (h : LG w q p l) : q < w.heap.size := lt_of_blk h
theorem LG.cells {w : World} {q p : Nat} {l : LS} (h : LG w q p l) : w.cell? ⟨q, 0, none⟩ = some (dp p) ∧ w.cell? ⟨q, 1, none⟩ = some (.int .i64 (l.half : Int)) ∧ w.cell? ⟨q, 2, none⟩ = some (.int .i64 (l.age : Int)) ∧
    w.cell? ⟨q, 3, none⟩ = some (.int .i64 (l.used : Int)) ∧ w.cell? ⟨q, 4, none⟩ = some (.bool l.off) :=
  ⟨cellAt h 0, cellAt h 1, cellAt h 2, cellAt h 3, cellAt h 4⟩
theorem LG.free {w : World} {q p : Nat} {l : LS} (h : LG w q p l) (j : Nat) : w.frozen? ⟨q, j, none⟩ = false := freeAt h j
theorem LG.below {w w' : World} {q p : Nat} {l : LS} (h : LG w q p l) (hb : Below w.heap.size w w') : LG w' q p l := (hb.block q h.lt).trans h
theorem LG.kp {T : List Nat} {w w' : World} {q p : Nat} {l : LS} (h : LG w q p l) (hk : Kp T w w') (hq : q ∉ T) : LG w' q p l := (hk.block q h.lt hq).trans h
theorem LG.ne_p {w : World} {q p bl bd : Nat} {l : LS} {S : DS} (h : LG w q p l) (hP : PD w p bl bd S) : q ∉ [p, bl, bd] := by
  obtain ⟨F, hF, _⟩ := hP.las
  obtain ⟨es, c, hb⟩ := hF.isMap
  obtain ⟨es', c', hb'⟩ := hP.dir.isMap
  have hp := hP.blk
  have hq := h
  unfold LG at hq
  intro hm
  simp only [List.mem_cons, List.not_mem_nil, or_false] at hm
  rcases hm with rfl | rfl | rfl
  · rw [hq] at hp
    simp only [Option.some.injEq, Obj.cells.injEq] at hp
    exact absurd hp.2.1 (by decide)
  · rw [hq] at hb; cases hb
  · rw [hq] at hb'; cases hb'

/-! ### Halves -/
def isH (a : Int) : Bool := decide (0 ≤ a ∧ a < 2)
theorem isHalf_any {w : World} (a : Int) : Calls Tryz.prog 34 #[.int .i64 a] w fun e w' => e = .returned (.bool (isH a)) ∧ w = w' := by
  go_enter Tryz.func34, Tryz.ntmps34
  by_cases h0 : (0 : Int) ≤ a
  · go_wp2
    go_ret
    refine ⟨?_, rfl⟩
    simp [isH, h0]
  · go_wp2
    go_ret
    refine ⟨?_, rfl⟩
    simp [isH]
    omega
def halfF (n half : Int) : Int × Int := if 0 ≤ half ∧ half < 2 ∧ 0 ≤ n then (half * (n / 2), n / 2) else (0, 0)
theorem halfF_nat {n half : Nat} (h : half < 2) : halfF n half = (((lfst n half : Nat) : Int), ((n / 2 : Nat) : Int)) := by
  unfold halfF lfst
  rw [if_pos (by omega)]
  push_cast
  rfl
set_option maxHeartbeats 1000000 in
theorem half_any {w : World} (n a : Int) (hn : -9223372036854775808 ≤ n ∧ n ≤ 9223372036854775807) : Calls Tryz.prog 16 #[.int .i64 n, .int .i64 a] w fun e w' => e = .returned (.tuple #[.int .i64 (halfF n a).1, .int .i64 (halfF n a).2]) ∧ w = w' := by
  have IH := fun W => @isHalf_any W a
  cases hh : isH a with
  | false =>
    rw [hh] at IH
    have hf : halfF n a = (0, 0) := by
      unfold halfF
      rw [if_neg]
      simp only [isH, decide_eq_false_iff_not] at hh
      omega
    rw [hf]
    go_enter Tryz.func16, Tryz.ntmps16
    go_wp2_with (go_at_call 34; refine (IH _).mono ?_; rintro e w1 ⟨rfl, rfl⟩)
    go_ret2
    exact ⟨rfl, rfl⟩
  | true =>
    rw [hh] at IH
    simp only [isH, decide_eq_true_eq] at hh
    by_cases h0 : 0 ≤ n
    · have hf : halfF n a = (a * (n / 2), n / 2) := by
        unfold halfF
        rw [if_pos (by omega)]
      have h1 : ¬ n < 0 := by omega
      obtain ⟨m, hm⟩ : ∃ m, m = n / 2 := ⟨_, rfl⟩
      obtain ⟨z, hz⟩ : ∃ z, z = a * m := ⟨_, rfl⟩
      have hzb : 0 ≤ z ∧ z ≤ 9223372036854775807 := by
        rcases (show a = 0 ∨ a = 1 by omega) with rfl | rfl <;> omega
      have hw : IntKind.i64.wrap (a * (n / 2)) = z := by rw [← hm, ← hz]; exact IntWalk.i64_in _ (by omega)
      have hq : n.tdiv 2 = n / 2 := Int.tdiv_eq_ediv_of_nonneg h0
      rw [hf]
      have HZ := Lib.hid (show a * (n / 2) = z by rw [hz, hm])
      clear hf hm hz
      go_enter Tryz.func16, Tryz.ntmps16
      go_wp2_with (go_at_call 34; refine (IH _).mono ?_; rintro e w1 ⟨rfl, rfl⟩)
      go_ret2
      exact ⟨by rw [HZ.out]; rfl, rfl⟩
    · have hf : halfF n a = (0, 0) := by
        unfold halfF
        rw [if_neg (by omega)]
      have h1 : n < 0 := by omega
      rw [hf]
      go_enter Tryz.func16, Tryz.ntmps16
      go_wp2_with (go_at_call 34; refine (IH _).mono ?_; rintro e w1 ⟨rfl, rfl⟩)
      go_ret2
      exact ⟨rfl, rfl⟩

/-! ### Places -/
/-- The first k places, 0s behind. -/
def plc (n k : Nat) : List Value := (List.range k).map (fun i : Nat => Value.int .i64 (i : Int)) ++ List.replicate (n - k) (Value.int .i64 0)
theorem plc_length {n k : Nat} (h : k ≤ n) : (plc n k).length = n := by simp [plc]; omega
theorem plc_next {n k : Nat} (h : k < n) : (plc n k).set k (Value.int .i64 (k : Int)) = plc n (k + 1) := by
  unfold plc
  rw [List.set_append_right _ _ (by simp), List.range_succ, List.map_append, List.append_assoc]
  congr 1
  rw [show k - ((List.range k).map (fun i : Nat => Value.int .i64 (i : Int))).length = 0 by simp, show n - k = (n - (k + 1)) + 1 by omega, List.replicate_succ]
  rfl
def IB (w : World) (g : Nat) (xs : List Value) : Prop := w.heap[g]? = some (.cells xs.toArray 3 (0, 0))
theorem make_ints (n : Nat) (hn : n ≤ 1024) (W : World) : (Instr.makeSlice 46 (.int .i64 n) (.int .i64 n)).run Tryz.prog W = .ok (.slice (some ⟨W.heap.size, 0, none⟩) n n) (W.alloc (.cells (plc n 0).toArray 3)) := by
  obtain ⟨i, hi, hz0, hz1, hz2⟩ := info_parts (show (Tryz.prog.info? 3).map (fun i => (i.zero, i.size, i.bytes)) = some (some (.int .i64 0), 1, 8) by kernel_rfl)
  have := run_make W _ 3 i _ Tryz.underlying46 hi hz0 .i64 .i64 n n (by omega) (by omega) (by rw [hz2]; omega) (by omega)
  have e : madeCells (Value.int .i64 0).cells (n * i.size) = (plc n 0).toArray := by
    apply Array.ext
    · simp [madeCells, hz1, plc]
    · intro j h1 h2
      have hc : (Value.int .i64 0).cells = #[Value.int .i64 0] := rfl
      have hm : ∀ x : Nat, x % 1 = 0 := fun x => by omega
      simp [madeCells, hc, hm, plc]
  simpa [e] using this
/-- These numbers, from one on. -/
def upF (f m : Nat) : List Int := (List.range m).map (fun i : Nat => ((f + i : Nat) : Int))
theorem upF_length (f m : Nat) : (upF f m).length = m := by simp [upF]
theorem upF_get {f m j : Nat} (h : j < m) : (upF f m).getD j 0 = ((f + j : Nat) : Int) := by
  simp [upF, List.getD_eq_getElem?_getD, h]
theorem IB.ir {w : World} {g n : Nat} (h : IB w g (plc n n)) {A : Option Addr} {f m : Nat} (hf : f + m ≤ n) (hA : 0 < m → A = some ⟨g, f, none⟩) : IR w A (upF f m) := fun j hj => by
  rw [upF_length] at hj
  refine ⟨g, f, hA (by omega), lt_of_blk h, ?_⟩
  rw [cellAt h, upF_get hj]
  simp only [plc, List.getElem?_toArray]
  rw [List.getElem?_append_left (by simp; omega)]
  simp [show f + j < n by omega]
set_option maxHeartbeats 2000000 in
theorem places_any {w : World} {p bl bd : Nat} {S : DS} (h : PD w p bl bd S) : Calls Tryz.prog 40 #[dp p] w fun e w' => ∃ g, e = .returned (.slice (some ⟨g, 0, none⟩) S.was.length S.was.length) ∧ IB w' g (plc S.was.length S.was.length) ∧ Below w.heap.size w w' ∧ w.heap.size ≤ g := by
  have SC := sectors_any h
  have hn2 := h.ok.n2
  generalize S.was.length = n at SC hn2
  have HMK := Lib.hid (make_ints n hn2)
  clear h
  go_enter Tryz.func40, Tryz.ntmps40
  go_wp2_with (go_at_call 58; refine SC.mono ?_; rintro e w1 ⟨rfl, hb1⟩)
  rw [HMK.out]
  simp only [Result.andThen]
  rw [Oper.upon_value]
  have hb2 := hb1.alloc hb1.size (.cells (plc n 0).toArray 3)
  have t2 : IB (w1.alloc (.cells (plc n 0).toArray 3)) w1.heap.size (plc n 0) := heap_alloc_new w1 _
  have hgs := hb1.size
  obtain ⟨g, hg⟩ : ∃ g, g = w1.heap.size := ⟨_, rfl⟩
  rw [← hg] at t2 hgs ⊢
  generalize w1.alloc (.cells (plc n 0).toArray 3) = w2 at hb2 t2 ⊢
  have T2 := Lib.hid t2
  have HB2 := Lib.hid hb2
  have HGS := Lib.hid hgs
  clear hg hb1 hb2 t2 hgs HMK SC
  go_wp2_with fail
  go_loopw [10] (fun i wr => ∃ k : Nat, k ≤ n ∧ i = .int .i64 k ∧ IB wr g (plc n k) ∧ Below w.heap.size w wr) (fun i _ => n - (intOf i).toNat)
  case atStart => exact ⟨0, Nat.zero_le _, rfl, T2.out, HB2.out⟩
  case round =>
    obtain ⟨k, hk, rfl, ht, hB⟩ := hrel
    have HT := Lib.hid ht
    have HB := Lib.hid hB
    clear hB
    by_cases hlt : k < n
    · have hlt' : (k : Int) < (n : Int) := by omega
      have c1 : wr.cell? ⟨g, k, none⟩ = some ((plc n k).getD k undef) := by
        rw [cellAt ht, List.getElem?_toArray, List.getD_eq_getElem?_getD, List.getElem?_eq_getElem (by rw [plc_length (by omega)]; exact hlt)]; rfl
      generalize (plc n k).getD k undef = old at c1
      have f1 : wr.frozen? ⟨g, k, none⟩ = false := freeAt ht k
      clear ht
      have HN := Lib.hid (plc_next hlt)
      go_wp2_with fail
      go_roundw
      case rel => exact ⟨k + 1, by omega, by go_num, by have := blk_set HT.out k (.int .i64 (k : Int)); rw [List.setIfInBounds_toArray, HN.out] at this; exact this, HB.out.setCell (p := ⟨g, k, none⟩) HGS.out _⟩
      case measure => simp [intOf]; omega
    · obtain rfl : k = n := by omega
      clear ht
      go_wp2_with fail
      go_ret
      exact ⟨g, rfl, HT.out, HB.out, HGS.out⟩

theorem info3s : (Tryz.prog.info? 3).map (·.size) = some 1 := by kernel_rfl
/-- The start of a part of a row. -/
def fromB (a : Addr) (i c : Nat) : Option Addr := some (if c = i then a else a.add i)
theorem slice3 (W : World) (g n f m : Nat) (h : f + m ≤ n) : (Instr.slice 46 (.slice (some ⟨g, 0, none⟩) n n) (some (.int .i64 (f : Int))) (some (.int .i64 ((f : Int) + (m : Int)))) (some (.int .i64 ((f : Int) + (m : Int))))).run Tryz.prog W = .ok (.slice (fromB ⟨g, 0, none⟩ f (f + m)) m m) W := by
  obtain ⟨ti, hti, hs1⟩ := Option.map_eq_some_iff.1 info3s
  have e1 : ((f : Int) + (m : Int)).toNat = f + m := by omega
  have e2 : (0 : Int) ≤ (f : Int) + m := by omega
  have e3 : (f : Int) + m ≤ n := by omega
  have e4 : (f : Int) ≤ (f : Int) + m := by omega
  have e5 : f + m ≤ n := h
  simp [Instr.slice, run_underlying Tryz.underlying46, Instr.sliceBounds, run_sliceBound, asIntOf, e1, e2, e3, e4, e5, Int.toNat_natCast, Result.andThen, sizeOf, typeInfo, hti, hs1, fromB]
  split <;> rfl
theorem slice_tail (W : World) (A : Addr) (n c i : Nat) (h : i ≤ n) : (Instr.slice 46 (.slice (some A) n c) (some (.int .i64 (i : Int))) none none).run Tryz.prog W = .ok (.slice (fromB A i c) (n - i) (c - i)) W := by
  obtain ⟨ti, hti, hs1⟩ := Option.map_eq_some_iff.1 info3s
  have h1 : (i : Int) ≤ (n : Int) := by omega
  simp [Instr.slice, run_underlying Tryz.underlying46, Instr.sliceBounds, run_sliceBound, asIntOf, h1, h, Int.toNat_natCast, Result.andThen, sizeOf, typeInfo, hti, hs1, fromB]
  split <;> rfl
/-- A half's places. -/
theorem placesOf_any {w : World} {p bl bd : Nat} {S : DS} (h : PD w p bl bd S) {half : Nat} (hh : half < 2) : Calls Tryz.prog 37 #[dp p, .int .i64 (half : Int)] w fun e w' =>
    ∃ g, e = .returned (.slice (fromB ⟨g, 0, none⟩ (lfst S.was.length half) (lfst S.was.length half + S.was.length / 2)) (S.was.length / 2) (S.was.length / 2)) ∧ IB w' g (plc S.was.length S.was.length) ∧ Below w.heap.size w w' ∧ w.heap.size ≤ g := by
  have SC := sectors_any h
  have PA := fun W (hW : PD W p bl bd S) => places_any hW
  have HP := Lib.hid (fun W (hb : Below w.heap.size w W) => h.below hb)
  have hn2 := h.ok.n2
  have HA := fun W => @half_any W (S.was.length : Int) (half : Int) (by omega)
  rw [halfF_nat hh] at HA
  have hle := lfst_le (n := S.was.length) hh
  obtain ⟨f, hf⟩ : ∃ f, f = lfst S.was.length half := ⟨_, rfl⟩
  obtain ⟨m, hm⟩ : ∃ m, m = S.was.length / 2 := ⟨_, rfl⟩
  rw [← hf, ← hm] at HA hle
  have SL := fun W g => slice3 W g S.was.length f m hle
  rw [← hf, ← hm]
  clear hf hm h
  generalize S.was.length = n at SC PA HA hn2 hle SL ⊢
  have hw : IntKind.i64.wrap ((f : Int) + (m : Int)) = (f : Int) + (m : Int) := IntWalk.i64_in _ (by omega)
  go_enter Tryz.func37, Tryz.ntmps37
  go_wp2_with (first
    | (go_at_call 58; refine SC.mono ?_; rintro e w1 ⟨rfl, hb1⟩)
    | (go_at_call 16; refine (HA _).mono ?_; rintro e w2 ⟨rfl, rfl⟩)
    | (go_at_call 40; refine (PA _ (HP.out _ hb1)).mono ?_; rintro e w3 ⟨g, rfl, hg, hb3, hgn⟩; have SLG := SL w3 g))
  go_ret
  exact ⟨g, rfl, hg, hb1.trans (hb3.mono hb1.size), Nat.le_trans hb1.size hgn⟩
end Go.Proofs.YthfnncahmccgkaaGreatDoor
