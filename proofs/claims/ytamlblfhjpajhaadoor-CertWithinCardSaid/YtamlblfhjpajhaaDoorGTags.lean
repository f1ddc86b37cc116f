/-
  The contract of tagsOf; two arrays of tags, held against each other.
-/
import Derived.ChangeKeysEq
import Derived.Test.YtamlblfhjpajhaaDoorGRd1
namespace Go.Proofs.YtamlblfhjpajhaaDoor
set_option linter.unusedSimpArgs false
set_option linter.unusedVariables false
open Go Go.RowKit
set_option maxRecDepth 100000

theorem keyU8 : Tryd.prog.plainKey 5 = true := by kernel_rfl
theorem cellsU8 : Tryd.prog.cellsOf 5 = 1 := by kernel_rfl
abbrev arrV (l : List UInt8) : Value := .agg (cellsOf l).toArray
theorem eq_byte (d : Nat) (a b : UInt8) (w : World) : (Op.equalIn (d + 1) 5 (bv a) (bv b)).run Tryd.prog w = .ok (a == b) w := by
  simp only [Op.equalIn, Sem.run_bind, run_underlying Tryd.underlying5, Result.andThen_ok, bv]
  simp
  rw [Bool.eq_iff_iff, beq_iff_eq, beq_iff_eq, ← UInt8.toNat_inj]
  omega
theorem eqItems_byte (d : Nat) (A B : List UInt8) (w : World) : ∀ is : List Nat, (∀ i ∈ is, i < A.length ∧ i < B.length) →
    (Op.eqItems (d + 1) 5 1 (cellsOf A).toArray (cellsOf B).toArray is).run Tryd.prog w = .ok (is.all fun i => A.getD i 0 == B.getD i 0) w
  | [], _ => by simp [Op.eqItems]
  | i :: is, h => by
    obtain ⟨h1, h2⟩ := h i (by simp)
    have e1 : (part 5 (cellsOf A).toArray (i * 1)).run Tryd.prog w = .ok (bv (A.getD i 0)) w := run_part_plain w keyU8 (by simp [cellsOf, List.getD_eq_getElem?_getD, h1])
    have e2 : (part 5 (cellsOf B).toArray (i * 1)).run Tryd.prog w = .ok (bv (B.getD i 0)) w := run_part_plain w keyU8 (by simp [cellsOf, List.getD_eq_getElem?_getD, h2])
    have ih := eqItems_byte d A B w is (fun j hj => h j (by simp [hj]))
    simp only [Op.eqItems, Sem.run_bind, e1, e2, eq_byte, Result.andThen_ok]
    cases hc : A.getD i 0 == B.getD i 0 with
    | true => simp only [Bool.not_true, Bool.false_eq_true, if_false, ih, List.all_cons, hc, Bool.true_and]
    | false => simp only [Bool.not_false, if_true, Sem.run_pure, List.all_cons, hc, Bool.false_and]
theorem eq_tags {A B : List UInt8} (hA : A.length = 6) (hB : B.length = 6) (w : World) : (Op.equal 51 (arrV A) (arrV B)).run Tryd.prog w = .ok (A == B) w := by
  obtain ⟨i, hi⟩ := info_of_underlying (P := Tryd.prog) Tryd.underlying5
  have h := run_equalIn_array (P := Tryd.prog) w 9999 (cellsOf A).toArray (cellsOf B).toArray Tryd.underlying51 hi
  rw [cellsU8] at h
  have h2 := eqItems_byte 9998 A B w (List.range 6) (fun i hi => by simp at hi; omega)
  have h3 : (List.range 6).all (fun i => A.getD i 0 == B.getD i 0) = (A == B) := by
    rw [Bool.eq_iff_iff, List.all_eq_true, beq_iff_eq]
    constructor
    · intro h
      refine List.ext_getElem (by omega) fun j h1 h2 => ?_
      have := h j (by simp; omega)
      rw [beq_iff_eq, getD_str _ _ h1, getD_str _ _ h2] at this
      exact this
    · rintro rfl; simp
  rw [h3] at h2
  exact h.trans h2
theorem neq_tags {A B : List UInt8} (hA : A.length = 6) (hB : B.length = 6) (w : World) : (Go.binOp .neq 51 (arrV A) (arrV B)).run Tryd.prog w = .ok (.bool (A != B)) w := by
  have h := eq_tags hA hB w
  simp only [Go.binOp, Sem.run_bind, h, Result.andThen_ok, Sem.run_pure]
  rfl

/-- The first k tags, and 0s. -/
def mixT (l : List Tv) (k : Nat) : List UInt8 := (l.take k).map (·.1) ++ List.replicate (6 - k) 0
theorem mixT_length (l : List Tv) (k : Nat) (hl : l.length = 6) (hk : k ≤ 6) : (mixT l k).length = 6 := by simp [mixT, hl]; omega
theorem mixT_set (l : List Tv) (k : Nat) (hl : l.length = 6) (hk : k < 6) : (mixT l k).set k (l.getD k pm0).1 = mixT l (k + 1) := by
  have h1 : ((l.take k).map (·.1)).length = k := by simp [hl]; omega
  unfold mixT
  rw [List.set_append_right _ _ (by omega), h1, Nat.sub_self, show 6 - k = (6 - (k + 1)) + 1 by omega, List.replicate_succ, List.set_cons_zero, List.take_succ_eq_append_getElem (by omega), List.map_append, List.append_assoc, List.getD_eq_getElem?_getD, List.getElem?_eq_getElem (by omega)]
  rfl
theorem mixT_all (l : List Tv) (hl : l.length = 6) : mixT l 6 = l.map (·.1) := by
  unfold mixT
  rw [List.take_of_length_le (by omega)]; simp
/-- What tagsOf tells. -/
def tagsOfL (l : List Tv) : List UInt8 := if l.length = 6 then l.map (·.1) else List.replicate 6 0
theorem tagsOf_length (l : List Tv) : (tagsOfL l).length = 6 := by
  unfold tagsOfL
  split
  · next h => simpa using h
  · simp
theorem tagsOf_iff (l : List Tv) : (tagsOfL l != tagsC) = !decide (l.map (·.1) = tagsC) := by
  unfold tagsOfL
  split
  · rw [Bool.eq_iff_iff]; simp
  · next h =>
    have h2 : ¬ l.map (·.1) = tagsC := fun e => h (by have := congrArg List.length e; simpa [tagsC] using this)
    simp only [h2, decide_false, Bool.not_false]
    decide
theorem cells_all1 (l : List UInt8) : (cellsOf l).toArray.all (·.oneCell') = true := by simp [cellsOf, bv, Value.oneCell']
theorem cells_size (l : List UInt8) : (cellsOf l).toArray.size = l.length := by simp [cellsOf]
theorem below_setRowT {n g : Nat} {w w' : World} (h : Below n w w') (hg : n ≤ g) (A : Array Value) : Below n w (w'.setRow g A) := by
  refine ⟨h.os, h.tape, h.output, by simpa using h.size, fun k hk => ?_⟩
  rw [← h.block k hk]
  simp only [World.setRow, Array.getElem?_modify]
  rw [if_neg (by omega)]
theorem zeros6 : ∀ (T : TypeId), (.cells #[.int .u8 0, .int .u8 0, .int .u8 0, .int .u8 0, .int .u8 0, .int .u8 0] T : Obj) = .cells (cellsOf (List.replicate 6 0)).toArray T := fun T => rfl
set_option maxHeartbeats 8000000 in
theorem tagsOf_any {w : World} (l : List Tv) (A : Option Addr) (c : Nat) (hR : TR w (.slice A l.length c) l) (hl : l.length ≤ 1000000) :
    Calls Tryd.prog 31 #[.slice A l.length c] w fun e w' => e = .returned (arrV (tagsOfL l)) ∧ Below w.heap.size w w' := by
  have HR := Lib.hid hR
  clear hR
  obtain ⟨wa, hwa⟩ : ∃ wa, wa = (w.alloc (.cells #[.int .u8 0, .int .u8 0, .int .u8 0, .int .u8 0, .int .u8 0, .int .u8 0] 51)).alloc (.cells #[.int .u8 0, .int .u8 0, .int .u8 0, .int .u8 0, .int .u8 0, .int .u8 0] 51) := ⟨_, rfl⟩
  have HBA := Lib.hid (show Below w.heap.size w wa by rw [hwa]; exact (below_alloc _ _).trans ((below_alloc _ _).mono (by simp)))
  have HA0 := Lib.hid (show AB wa w.heap.size 51 (List.replicate 6 0) by rw [hwa]; exact heap_alloc2_old w _ _)
  have HA1 := Lib.hid (show AB wa (w.heap.size + 1) 51 (List.replicate 6 0) by rw [hwa]; exact heap_alloc2_new w _ _)
  have HWA := Lib.hid hwa
  clear hwa
  have fin : ∀ (W : World) (T : List UInt8), T.length = 6 → AB W (w.heap.size + 1) 51 T → AB W w.heap.size 51 (List.replicate 6 0) → Below w.heap.size w W → T = tagsOfL l →
      ∀ (t0 : Value) (tm : Array Value), tm.getD 2 undef = .pointer (some ⟨w.heap.size, 0, none⟩) → bodyPost Tryd.prog Tryd.f31 (fun e w' => e = .returned (arrV (tagsOfL l)) ∧ Below w.heap.size w w') .ret { tmps := tm, defers := [] } (W.setRow w.heap.size (cellsOf T).toArray) := by
    intro W T hT h1 h0 hb he t0 tm htm
    refine bodyPost_ret (results_cell_row (p := 2) (by kernel_rfl) _ _ w.heap.size 51 (cellsOf T).toArray (0, 0) _ htm (setRow_heap W w.heap.size _ _ 51 (0, 0) h0) Tryd.underlying51 rfl (by rw [cells_size, hT]; kernel_rfl)) rfl ⟨by rw [← he], below_setRowT hb (Nat.le_refl _) _⟩
  have FIN := Lib.hid fin
  clear fin
  by_cases h6 : l.length = 6
  · have HL6 := Lib.hid h6
    have HIN := Lib.hid (show l.length = 6 → tagsOfL l = l.map (·.1) from fun h => by unfold tagsOfL; rw [if_pos h])
    rw [h6]
    have HR6 := Lib.hid (show TR w (.slice A 6 c) l by rw [← h6]; exact HR.out)
    clear h6 HR hl
    go_enter Tryd.func31, Tryd.ntmps31
    go_wp2_with fail
    rw [← HWA.out]
    go_loopw [12] (fun i wr => ∃ k : Nat, k ≤ 6 ∧ i = .int .i64 k ∧ AB wr (w.heap.size + 1) 51 (mixT l k) ∧ AB wr w.heap.size 51 (List.replicate 6 0) ∧ Below w.heap.size w wr) (fun i _ => 6 - (intOf i).toNat)
    case atStart => exact ⟨0, Nat.zero_le _, rfl, HA1.out, HA0.out, HBA.out⟩
    case round =>
      obtain ⟨k, hk, rfl, h1, h0, hb⟩ := hrel
      by_cases hlt : k < 6
      · obtain ⟨g, off, rfl, hgl, c0, c1⟩ := (HR6.out.step hb).at (show k < l.length by rw [HL6.out]; exact hlt)
        have HS := Lib.hid (mixT_set l k HL6.out hlt)
        have hml := mixT_length l k HL6.out (by omega)
        obtain ⟨x, hx⟩ : ∃ x, x = l.getD k pm0 := ⟨_, rfl⟩
        rw [← hx] at c0 c1 HS
        obtain ⟨t, v⟩ := x
        simp only at c0 c1 HS
        have hlt' : (k : Int) < 6 := by omega
        -- the box of the thing, and the array's cell behind it
        have hbx := below_alloc wr (.cells #[.int .u8 (t.toNat : Int), sv v] 58)
        have g1 : AB (wr.alloc (.cells #[.int .u8 (t.toNat : Int), sv v] 58)) (w.heap.size + 1) 51 (mixT l k) := h1.below hbx h1.lt
        have d0 := g1.cell (j := k) (by omega)
        have f0 := g1.free k
        have HG1 := Lib.hid (g1.set k t)
        have HG0 := Lib.hid (show AB ((wr.alloc (.cells #[.int .u8 (t.toNat : Int), sv v] 58)).setCell ⟨w.heap.size + 1, k, none⟩ (bv t)) w.heap.size 51 (List.replicate 6 0) from
          (heap_setCell_other _ ⟨w.heap.size + 1, k, none⟩ w.heap.size _ (by simp)).trans (h0.below hbx h0.lt))
        have HB := Lib.hid (show Below w.heap.size w ((wr.alloc (.cells #[.int .u8 (t.toNat : Int), sv v] 58)).setCell ⟨w.heap.size + 1, k, none⟩ (bv t)) from
          (hb.trans (hbx.mono hb.size)).setCell (p := ⟨w.heap.size + 1, k, none⟩) (by simp) _)
        clear hbx g1 h1 h0 hb hx hml
        go_wp2_with fail
        go_roundw
        case rel => exact ⟨k + 1, by omega, by go_num, by rw [← HS.out]; exact HG1.out, HG0.out, HB.out⟩
        case measure => simp [intOf]; omega
      · obtain rfl : k = 6 := by omega
        have hml := mixT_length l 6 HL6.out (Nat.le_refl _)
        rw [mixT_all l HL6.out] at h1 hml
        have HT := Lib.hid (HIN.out HL6.out).symm
        obtain ⟨T, hT⟩ : ∃ T, T = l.map (·.1) := ⟨_, rfl⟩
        rw [← hT] at h1 hml HT
        have H1 := Lib.hid h1
        have H0 := Lib.hid h0
        have HB := Lib.hid hb
        have HML := Lib.hid hml
        have HI := Lib.hid (show (Tryd.prog.info? 51).map (·.size) = some (cellsOf T).toArray.size by rw [cells_size, hml]; kernel_rfl)
        have HSZ := Lib.hid (show (cellsOf (List.replicate 6 0)).toArray.size = (cellsOf T).toArray.size by rw [cells_size, cells_size, hml]; rfl)
        rw [show ((6 : Nat) : Int) = 6 from rfl]
        clear h1 h0 hb hml hT
        go_wp2_with (first | (refine wpList_load_row rfl 51 (.tmp 3) rfl (w.heap.size + 1) rfl 51 (cellsOf T).toArray (0, 0) _ H1.out Tryd.underlying51 rfl HI.out ?_; refine wpList_store_row rfl 51 (.tmp 2) (.tmp 22) rfl w.heap.size (cellsOf T).toArray rfl rfl 51 _ H0.out HI.out HSZ.out (cells_all1 T) ?_))
        exact FIN.out _ T HML.out H1.out H0.out HB.out HT.out undef _ rfl
  · have HT := Lib.hid (show List.replicate 6 0 = tagsOfL l by unfold tagsOfL; rw [if_neg h6])
    have h6' : ¬ (l.length : Int) = 6 := by omega
    clear h6 HR
    go_enter Tryd.func31, Tryd.ntmps31
    go_wp2_with fail
    rw [← HWA.out]
    exact bodyPost_ret (results_cell_row (p := 2) (by kernel_rfl) _ _ w.heap.size 51 (cellsOf (List.replicate 6 0)).toArray (0, 0) _ rfl HA0.out Tryd.underlying51 rfl (by rw [cells_size]; kernel_rfl)) rfl ⟨by rw [← HT.out], HBA.out⟩
end Go.Proofs.YtamlblfhjpajhaaDoor
