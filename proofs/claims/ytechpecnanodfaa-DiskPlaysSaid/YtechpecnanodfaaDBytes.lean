/-
  What the laws use: bytes, full, is, ints.
-/
import Derived.Laws.MakeOwn
import Derived.Test.YtechpecnanodfaaDBoot
namespace Go.Proofs.Ytechpecnanodfaa
open Go Go.RowKit Go.Maps
set_option maxRecDepth 100000
set_option linter.unusedSimpArgs false
set_option linter.unusedVariables false

def oddN (odd : Int) : Nat := if -100 < odd ∧ odd < 100 then (128 + odd).toNat else 128
theorem oddN_le (odd : Int) : oddN odd ≤ 228 := by unfold oddN; split <;> omega
def stB (odd : Int) (y : UInt8) : List UInt8 := List.replicate (oddN odd) y
theorem stB_le (odd : Int) (y : UInt8) : (stB odd y).length ≤ 228 := by unfold stB; rw [List.length_replicate]; exact oddN_le odd
def fullL (y : UInt8) : List UInt8 := List.replicate 128 y
theorem fullL_length (y : UInt8) : (fullL y).length = 128 := by simp [fullL]
theorem stB_zero (y : UInt8) : stB 0 y = fullL y := rfl
def stepV (wh : UInt8) (at_ : Int) (y : UInt8) (odd : Int) (kv : Value) : Value := .agg #[.int .u8 (wh.toNat : Int), .int .i64 at_, .int .u8 (y.toNat : Int), .int .i64 odd, kv]

/-- Block g: k bytes y, and the others 0. -/
def fillC (n k : Nat) (y : UInt8) : Array Value := (List.replicate k (b8 y) ++ List.replicate (n - k) (Value.int .u8 0)).toArray
theorem fillC_start (n : Nat) (y : UInt8) : Array.replicate n (Value.int .u8 0) = fillC n 0 y := by
  apply Array.ext'
  simp [fillC]
theorem fillC_size (n k : Nat) (y : UInt8) (h : k ≤ n) : (fillC n k y).size = n := by simp [fillC]; omega
theorem fillC_step {n k : Nat} (y : UInt8) (h : k < n) : (fillC n k y).setIfInBounds k (b8 y) = fillC n (k + 1) y := by
  apply Array.ext'
  simp only [fillC, Array.toList_setIfInBounds]
  refine List.ext_getElem? fun j => ?_
  rw [List.getElem?_set]
  by_cases e : k = j
  · subst e
    rw [if_pos rfl, if_pos (by simp; omega), List.getElem?_append_left (by simp), List.getElem?_replicate, if_pos (by omega)]
  · rw [if_neg e]
    by_cases hj : j < k
    · rw [List.getElem?_append_left (by simpa using hj), List.getElem?_append_left (by simp; omega), List.getElem?_replicate, List.getElem?_replicate, if_pos hj, if_pos (by omega)]
    · rw [List.getElem?_append_right (by simp; omega), List.getElem?_append_right (by simp; omega), List.getElem?_replicate, List.getElem?_replicate]
      simp only [List.length_replicate]
      by_cases hn : j < n
      · rw [if_pos (by omega), if_pos (by omega)]
      · rw [if_neg (by omega), if_neg (by omega)]

set_option maxHeartbeats 2000000 in
theorem bytes_any {w : World} (wh : UInt8) (at_ : Int) (y : UInt8) {odd : Int} (kv : Value) (hkv : kv.oneCell' = true) (ho : (-9223372036854775808 : Int) ≤ odd ∧ odd ≤ 9223372036854775807) :
    Calls Try.prog 28 #[stepV wh at_ y odd kv] w fun e w' => e = .returned (sv (stB odd y)) ∧ Below w.heap.size w w' := by
  have hle := oddN_le odd
  obtain ⟨n, hn⟩ : ∃ n, n = oddN odd := ⟨_, rfl⟩
  rw [← hn] at hle
  have HN := Lib.hid hn
  clear hn
  unfold stepV
  go_enter Try.func28, Try.ntmps28
  have hcase : (∃ h1 : -100 < odd, odd < 100 ∧ IntKind.i64.wrap (128 + odd) = (n : Int)) ∨ (-100 < odd ∧ ¬ odd < 100 ∧ n = 128) ∨ (¬ -100 < odd ∧ n = 128) := by
    have h := HN.out
    unfold oddN at h
    split at h
    · rename_i hc
      exact .inl ⟨hc.1, hc.2, by rw [IntWalk.i64_in _ (by omega)]; omega⟩
    · rename_i hc
      by_cases h1 : -100 < odd
      · exact .inr (.inl ⟨h1, fun h2 => hc ⟨h1, h2⟩, h⟩)
      · exact .inr (.inr ⟨h1, h⟩)
  have hfs := fillC_start n y
  have hmk : ∀ W : World, (Instr.makeSlice 68 (.int .i64 (n : Int)) (.int .i64 (n : Int))).run Try.prog W = .ok (.slice (some ⟨W.heap.size, 0, none⟩) n n) (W.alloc (.cells (fillC n 0 y) 5)) := by
    intro W
    obtain ⟨i, hi, hz0, hz1, hz2⟩ := info_parts (show (Try.prog.info? 5).map (fun i => (i.zero, i.size, i.bytes)) = some (some (.int .u8 0), 1, 1) by kernel_rfl)
    rw [run_make W _ 5 i _ Try.underlying68 hi hz0 .i64 .i64 n n (by omega) (by omega) (by rw [hz2]; omega) (by omega)]
    rw [← fillC_start]
    congr 3
    apply Array.ext
    · simp [madeCells, hz1]
    · intro j h1 h2
      have hc : (Value.int IntKind.u8 0).cells = #[Value.int IntKind.u8 0] := rfl
      have hm : ∀ x : Nat, x % 1 = 0 := fun x => by omega
      simp [madeCells, hc, hm]
  have HMK := Lib.hid hmk
  have HKV := Lib.hid hkv
  clear hmk hfs hkv
  rcases hcase with ⟨h1, h2, h3⟩ | ⟨h1, h2, h3⟩ | ⟨h1, h3⟩
  case' inl => go_wp2_with fail
  case' inr.inl => have H3 := Lib.hid h3; clear h3; go_wp2_with fail; have h3' : (128 : Int) = (n : Int) := by (have := H3.out; omega)
  case' inr.inl => rw [h3']; clear h3'
  case' inr.inr => have H3 := Lib.hid h3; clear h3; go_wp2_with fail; have h3' : (128 : Int) = (n : Int) := by (have := H3.out; omega)
  case' inr.inr => rw [h3']; clear h3'
  all_goals rw [HMK.out]
  all_goals simp only [Result.andThen]
  all_goals rw [Oper.upon_value]
  all_goals (
    have hbk := heap_alloc_new (w.alloc (.cells #[.int .u8 (wh.toNat : Int), .int .i64 at_, .int .u8 (y.toNat : Int), .int .i64 odd, kv] 48)) (.cells (fillC n 0 y) 5)
    have hb0 := heap_alloc2_old w (.cells #[.int .u8 (wh.toNat : Int), .int .i64 at_, .int .u8 (y.toNat : Int), .int .i64 odd, kv] 48) (.cells (fillC n 0 y) 5)
    have hbl : Below w.heap.size w ((w.alloc (.cells #[.int .u8 (wh.toNat : Int), .int .i64 at_, .int .u8 (y.toNat : Int), .int .i64 odd, kv] 48)).alloc (.cells (fillC n 0 y) 5)) := ((Below.refl _ _).alloc (Nat.le_refl _) _).alloc (by simp) _
    generalize hw2 : (w.alloc (.cells #[.int .u8 (wh.toNat : Int), .int .i64 at_, .int .u8 (y.toNat : Int), .int .i64 odd, kv] 48)).alloc (.cells (fillC n 0 y) 5) = w2 at hbk hb0 hbl ⊢
    clear hw2
    have hgn : (w.alloc (.cells #[.int .u8 (wh.toNat : Int), .int .i64 at_, .int .u8 (y.toNat : Int), .int .i64 odd, kv] 48)).heap.size = w.heap.size + 1 := by simp
    rw [hgn] at hbk ⊢
    have HBK := Lib.hid hbk
    have HB0 := Lib.hid hb0
    have HBL := Lib.hid hbl
    clear hgn hbk hb0 hbl
    go_wp2_with fail
    go_loopw [5] (fun kx wr => ∃ k : Nat, kx = .int .i64 (k : Int) ∧ k ≤ n ∧ wr.heap[w.heap.size + 1]? = some (.cells (fillC n k y) 5 (0, 0)) ∧ wr.heap[w.heap.size]? = some (.cells #[.int .u8 (wh.toNat : Int), .int .i64 at_, .int .u8 (y.toNat : Int), .int .i64 odd, kv] 48 (0, 0)) ∧ Below w.heap.size w wr) (fun kx _ => n - (RowKit.intOf kx).toNat)
    case atStart => exact ⟨0, rfl, by omega, HBK.out, HB0.out, HBL.out⟩
    case round =>
      obtain ⟨k, rfl, hkn, hg, hb, hB⟩ := hrel
      have c2 : wr.cell? ⟨w.heap.size, 2, none⟩ = some (.int .u8 (y.toNat : Int)) := cellAt hb 2
      have HG := Lib.hid hg
      have HB := Lib.hid hB
      have HBX := Lib.hid hb
      by_cases hk : k < n
      · have hki : (k : Int) < (n : Int) := by omega
        have hk0 : (0 : Int) ≤ (k : Int) := by omega
        have hwr : IntKind.i64.wrap ((k : Int) + 1) = (k : Int) + 1 := IntWalk.i64_in _ (by omega)
        have hfc : wr.cell? ⟨w.heap.size + 1, k, none⟩ = some ((fillC n k y)[k]'(by rw [fillC_size n k y (by omega)]; exact hk)) := by
          rw [cellAt hg, Array.getElem?_eq_getElem]
        have hff := freeAt hg k
        clear hg hB hb
        go_wp2_with fail
        go_roundw
        case rel =>
          refine ⟨k + 1, by go_num, by omega, ?_, (heap_set_ne _ (by omega)).trans HBX.out, HB.out.setCell (by show w.heap.size ≤ w.heap.size + 1; omega) _⟩
          rw [blk_set HG.out k, ← fillC_step y hk]
        case measure => simp [RowKit.intOf]; omega
      · have hk2 : ¬ (k : Int) < (n : Int) := by omega
        have hlen : (List.replicate n y).length = n := by simp
        have hcv : (convert 68 9 (.slice (some ⟨w.heap.size + 1, 0, none⟩) n n)).run Try.prog wr = .ok (sv (List.replicate n y)) wr := by
          have := run_convert_bytes_back (P := Try.prog) wr 68 9 5 ⟨w.heap.size + 1, 0, none⟩ n (List.replicate n y) Try.underlying68 Try.underlying5 Try.underlying9 (fun j hj => by
            rw [show (⟨w.heap.size + 1, 0, none⟩ : Addr).add j = ⟨w.heap.size + 1, j, none⟩ from by unfold Addr.add; split <;> simp_all, cellAt hg]
            have hj' : j < n := by simpa using hj
            obtain rfl : k = n := by omega
            simp [fillC, List.getElem?_append_left, hj'])
          rwa [hlen] at this
        clear hg hB hb hlen
        go_wp2_with fail
        go_ret
        exact ⟨by simp only [stB]; rw [← HN.out]; rfl, HB.out⟩)
end Go.Proofs.Ytechpecnanodfaa
