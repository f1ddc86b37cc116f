/-
  Contracts of the framer's small methods and of the functions that lines are cut by: New, Left, Dead, Reset, keep, Copy, cuts, strings.Clone.
  A framer is a block of three cells (most, have, dead); what it has is nil or a row of bytes of its own. Each contract holds in whatever world such a block lies.
-/
import Derived.WalkKit
import Derived.Laws.BytesString
import Derived.Laws.IdiomStrings
import Derived.Lib.BufferWrite
import Derived.Lib.UnsafeStr
import Derived.Lib.Hide
import Derived.Laws.MakeOwn
import Derived.Laws.Rows
import Derived.Test.YtgjngldkeiblbaaShelf
namespace Go.Proofs.Ytgjngldkeiblbaa
open Go Go.RowKit

/-- A string of these bytes. -/
abbrev str (l : List UInt8) : ByteArray := ⟨l.toArray⟩

/-- What a framer has of a line: nil, or a row of bytes. -/
def HV (w : World) (v : Value) (l : List UInt8) : Prop :=
  (v = .slice none 0 0 ∧ l = []) ∨ ∃ g, v = .slice (some ⟨g, 0, none⟩) l.length l.length ∧ w.heap[g]? = some (.cells (Lib.byteCells l).toArray 5 (0, 0))

/-- Block b is a framer: lines of m bytes at most, l has come of a line, d: is it dead? -/
def Fr (w : World) (b m : Nat) (l : List UInt8) (d : Bool) : Prop :=
  ∃ v, w.heap[b]? = some (.cells #[.int .i64 m, v, .bool d] 55 (0, 0)) ∧ HV w v l

theorem HV.kept {w w' : World} {v : Value} {l : List UInt8} {b : Nat} {cs : Array Value} (h : HV w v l) (hb : w.heap[b]? = some (.cells cs 55 (0, 0))) (hg : w.grownBy w' (some b)) : HV w' v l := by
  rcases h with h | ⟨g, rfl, hc⟩
  · exact .inl h
  · refine .inr ⟨g, rfl, (hg.block g (lt_of_block hc) ?_).trans hc⟩
    rintro e
    obtain rfl : g = b := by simpa using e
    rw [hc] at hb; simp at hb

theorem HV.keptNone {w w' : World} {v : Value} {l : List UInt8} (h : HV w v l) (hg : w.grownBy w' none) : HV w' v l := by
  rcases h with h | ⟨g, rfl, hc⟩
  · exact .inl h
  · exact .inr ⟨g, rfl, (hg.block g (lt_of_block hc) (by simp)).trans hc⟩

theorem cellAt {w : World} {b : Nat} {cs : Array Value} {t : TypeId} (h : w.heap[b]? = some (.cells cs t (0, 0))) (j : Nat) : w.cell? ⟨b, j, none⟩ = cs[j]? := cell_of_row w b j cs t (0, 0) h
theorem freeAt {w : World} {b : Nat} {cs : Array Value} {t : TypeId} (h : w.heap[b]? = some (.cells cs t (0, 0))) (j : Nat) : w.frozen? ⟨b, j, none⟩ = false := frozen_of_row w b j cs t h

theorem Try.info5 : (Try.prog.info? 5).map (fun i => (i.zero, i.size, i.bytes)) = some (some (.int .u8 0), 1, 1) := by kernel_rfl

/-- 'string(f.have)'. -/
theorem run_have {w : World} {v : Value} {l : List UInt8} (h : HV w v l) : (convert 34 9 v).run Try.prog w = .ok (.string (str l)) w := by
  rcases h with ⟨rfl, rfl⟩ | ⟨g, rfl, hc⟩
  · rw [run_convert_bytes_string w 34 9 5 none 0 0 Try.underlying34 Try.underlying5 Try.underlying9]
    simp [Conv.bytesToString, Sem.run_pure]
    rfl
  · exact run_convert_bytes_back w 34 9 5 ⟨g, 0, none⟩ _ l Try.underlying34 Try.underlying5 Try.underlying9 (fun j hj => by
      have : (⟨g, 0, none⟩ : Addr).add j = ⟨g, j, none⟩ := by unfold Addr.add; split <;> simp_all
      rw [this, cellAt hc]
      simp [Lib.byteCells, hj])

theorem new_yes (m : Nat) (w : World) (h2 : 2 ≤ m) (h5 : m ≤ 512) :
    Calls Try.prog 16 #[.int .i64 m] w fun e w' => e = .returned (.tuple #[.pointer (some ⟨w.heap.size, 0, none⟩), .int .i64 0]) ∧ w' = w.alloc (.cells #[.int .i64 m, .slice none 0 0, .bool false] 55) := by
  go_enter Try.func16, Try.ntmps16
  go_wp2
  go_ret2
  exact ⟨rfl, rfl⟩

theorem new_low (m : Int) (w : World) (h2 : m < 2) :
    Calls Try.prog 16 #[.int .i64 m] w fun e w' => e = .returned (.tuple #[.pointer none, .int .i64 1]) ∧ w = w' := by
  go_enter Try.func16, Try.ntmps16
  go_wp2
  go_ret2
  exact ⟨rfl, rfl⟩

theorem new_high (m : Int) (w : World) (h2 : 512 < m) :
    Calls Try.prog 16 #[.int .i64 m] w fun e w' => e = .returned (.tuple #[.pointer none, .int .i64 1]) ∧ w = w' := by
  have h3 : 2 ≤ m := by omega
  go_enter Try.func16, Try.ntmps16
  go_wp2
  go_ret2
  exact ⟨rfl, rfl⟩

theorem left_nil (w : World) : Calls Try.prog 13 #[.pointer none] w fun e w' => e = .returned (.string (str [])) ∧ w = w' := by
  go_enter Try.func13, Try.ntmps13
  go_wp2
  go_ret
  exact ⟨rfl, rfl⟩

theorem left_any (w : World) {b m : Nat} {l : List UInt8} {d : Bool} (h : Fr w b m l d) :
    Calls Try.prog 13 #[.pointer (some ⟨b, 0, none⟩)] w fun e w' => e = .returned (.string (str l)) ∧ w = w' := by
  obtain ⟨v, hb, hv⟩ := h
  have h1 : w.cell? ⟨b, 1, none⟩ = some v := by rw [cellAt hb]; rfl
  have hr := run_have hv
  rcases hv with ⟨rfl, rfl⟩ | ⟨g, rfl, hc⟩
  all_goals
    clear hb
    go_enter Try.func13, Try.ntmps13
    go_wp2
    go_ret
    exact ⟨rfl, rfl⟩

theorem dead_nil (w : World) : Calls Try.prog 14 #[.pointer none] w fun e w' => e = .returned (.bool false) ∧ w = w' := by
  go_enter Try.func14, Try.ntmps14
  go_wp2
  go_ret
  exact ⟨rfl, rfl⟩

theorem dead_any (w : World) {b m : Nat} {l : List UInt8} {d : Bool} (h : Fr w b m l d) :
    Calls Try.prog 14 #[.pointer (some ⟨b, 0, none⟩)] w fun e w' => e = .returned (.bool d) ∧ w = w' := by
  obtain ⟨v, hb, hv⟩ := h
  have h1 : w.cell? ⟨b, 2, none⟩ = some (.bool d) := by rw [cellAt hb]; rfl
  clear hb hv
  go_enter Try.func14, Try.ntmps14
  go_wp2
  go_ret
  exact ⟨rfl, rfl⟩

theorem reset_nil (w : World) : Calls Try.prog 10 #[.pointer none] w fun e w' => e = .returned (.tuple #[]) ∧ w = w' := by
  go_enter Try.func10, Try.ntmps10
  go_wp2
  go_end0
  exact ⟨rfl, rfl⟩

theorem reset_any (w : World) {b m : Nat} {l : List UInt8} {d : Bool} (h : Fr w b m l d) :
    Calls Try.prog 10 #[.pointer (some ⟨b, 0, none⟩)] w fun e w' => e = .returned (.tuple #[]) ∧ w.grownBy w' (some b) ∧ Fr w' b m [] false := by
  obtain ⟨v, hb, hv⟩ := h
  have h1 : w.cell? ⟨b, 1, none⟩ = some v := by rw [cellAt hb]; rfl
  have h2 : w.cell? ⟨b, 2, none⟩ = some (.bool d) := by rw [cellAt hb]; rfl
  have f1 := freeAt hb 1
  have f2 := freeAt hb 2
  have HB := Lib.hid hb
  clear hb hv
  go_enter Try.func10, Try.ntmps10
  go_wp2
  go_end0
  have hb := HB.out
  refine ⟨rfl, ?_, ?_⟩
  · exact ⟨rfl, rfl, rfl, by simp [World.setCell], fun k _ hk => by
      have hk' : k ≠ b := fun e => hk (by rw [e])
      rw [heap_setCell_other _ _ _ _ (by exact hk'), heap_setCell_other _ _ _ _ (by exact hk')]⟩
  · refine ⟨.slice none 0 0, ?_, .inl ⟨rfl, rfl⟩⟩
    rw [heap_setCell_same _ _ _ _ _ _ (heap_setCell_same _ _ _ _ _ _ hb)]
    rfl

theorem copy_nil (w : World) : Calls Try.prog 15 #[.pointer none] w fun e w' => e = .returned (.pointer none) ∧ w = w' := by
  go_enter Try.func15, Try.ntmps15
  go_wp2
  go_ret
  exact ⟨rfl, rfl⟩

theorem clone_any (s : ByteArray) (w : World) (hlim : s.size ≤ 281474976710656) :
    Calls Try.prog 28 #[.string s] w fun e w' => e = .returned (.string s) ∧ Below w.heap.size w w' := by
  go_enter Try.func28, Try.ntmps28
  go_wp2_with (go_at_call 35; refine (Try.stringslite_Clone _ _ hlim).mono ?_; rintro e w' ⟨rfl, hb⟩)
  go_ret
  exact ⟨rfl, hb⟩

theorem cuts_any (s : ByteArray) (m : Nat) (w : World) :
    Calls Try.prog 27 #[.string s, .int .i64 m] w fun e w' => e = .returned (.func (.func 33) #[] #[.pointer (some ⟨w.heap.size, 0, none⟩), .pointer (some ⟨w.heap.size + 1, 0, none⟩)]) ∧ w' = (w.alloc (.cells #[.string s] 9)).alloc (.cells #[.int .i64 m] 3) := by
  go_enter Try.func27, Try.ntmps27
  go_wp2
  go_ret
  exact ⟨rfl, rfl⟩

/-- keep: what it is handed stands in a row of its own. -/
theorem keep_any (w : World) {b m : Nat} {l : List UInt8} {d : Bool} (s : List UInt8) (h : Fr w b m l d) (hs : s.length ≤ 100000) :
    Calls Try.prog 29 #[.pointer (some ⟨b, 0, none⟩), .string (str s)] w fun e w' => e = .returned (.tuple #[]) ∧ w.grownBy w' (some b) ∧ Fr w' b m s d := by
  obtain ⟨v, hb, hv⟩ := h
  have hlt := lt_of_block hb
  obtain ⟨i0, hi, hz0, hz1, hz2⟩ := info_parts Try.info5
  have hinfo : (Try.prog.info? 5).map (·.size) = some 1 := by rw [hi]; simp [hz1]
  obtain ⟨M, hM⟩ : ∃ M, M = madeCells (Value.int .u8 0).cells (((s.length : Nat) : Int).toNat * i0.size) := ⟨_, rfl⟩
  have hMs : M.size = s.length := by rw [hM, size_madeCells, hz1]; simp
  have hmk : ∀ W : World, (Instr.makeSlice 34 (.int .i64 (s.length : Int)) (.int .i64 (s.length : Int))).run Try.prog W = .ok (.slice (some ⟨W.heap.size, 0, none⟩) s.length s.length) (W.alloc (.cells M 5)) := fun W => by
    have h := run_make (P := Try.prog) W 34 5 i0 (.int .u8 0) Try.underlying34 hi hz0 .i64 .i64 (s.length : Int) (s.length : Int) (by omega) (by omega) (by rw [hz2]; omega) (by omega)
    rw [← hM] at h
    simpa using h
  have h1 : w.cell? ⟨b, 1, none⟩ = some v := by rw [cellAt hb]; rfl
  have f1 := freeAt hb 1
  obtain ⟨W1, hW1⟩ : ∃ W1, W1 = (w.setCell ⟨b, 1, none⟩ (.slice (some ⟨w.heap.size, 0, none⟩) s.length s.length)).alloc (.cells M 5) := ⟨_, rfl⟩
  have hs1 : (w.setCell ⟨b, 1, none⟩ (.slice (some ⟨w.heap.size, 0, none⟩) s.length s.length)).heap.size = w.heap.size := by simp [World.setCell]
  have hn1 : W1.heap[w.heap.size]? = some (.cells M 5 (0, 0)) := by
    rw [hW1]; have := heap_alloc_new (w.setCell ⟨b, 1, none⟩ (.slice (some ⟨w.heap.size, 0, none⟩) s.length s.length)) (.cells M 5); rwa [hs1] at this
  have hcp := Lib.run_copy_row_string (P := Try.prog) W1 34 9 3 5 w.heap.size 0 s.length s.length (str s) M 5 Try.underlying34 hinfo hn1 (by simp [ByteArray.size]) (by simp [ByteArray.size]; omega)
  obtain ⟨Y, hY⟩ : ∃ Y, Y = (M.toList.take 0 ++ Lib.byteCells (str s).data.toList ++ M.toList.drop (0 + (str s).size)).toArray := ⟨_, rfl⟩
  rw [← hY] at hcp
  have hYl : Y = (Lib.byteCells s).toArray := by
    rw [hY, List.take_zero, List.nil_append, List.drop_of_length_le (by rw [Array.length_toList]; simp [ByteArray.size]; omega), List.append_nil]
  have hsz : (str s).size = s.length := by simp [ByteArray.size]
  rw [hsz] at hcp
  have hbW : W1.heap[b]? = some (.cells #[.int .i64 m, .slice (some ⟨w.heap.size, 0, none⟩) s.length s.length, .bool d] 55 (0, 0)) := by
    rw [hW1, Below.heap_alloc _ _ _ (by omega), heap_setCell_same _ _ _ _ _ _ hb]
    rfl
  have HW := Lib.hid hW1
  have HY := Lib.hid hYl
  have HB := Lib.hid hb
  have HN := Lib.hid hn1
  have HM := Lib.hid hMs
  have HBW := Lib.hid hbW
  rw [hW1] at hcp
  clear hW1 hYl hb hn1 hMs hbW hY hM hv hi hz0 hz1 hz2 hinfo hsz hs1
  go_enter Try.func29, Try.ntmps29
  go_wp2
  go_end0
  have hW1 := HW.out
  rw [← hW1]
  have hr : (W1.setRow w.heap.size Y).heap[w.heap.size]? = some (.cells Y 5 (0, 0)) := setRow_heap _ _ M _ 5 (0, 0) HN.out
  have ho : ∀ k, k ≠ w.heap.size → (W1.setRow w.heap.size Y).heap[k]? = W1.heap[k]? := fun k hk => setRow_other _ _ _ _ hk
  refine ⟨rfl, ⟨?_, ?_, ?_, ?_, fun k hk hne => ?_⟩, .slice (some ⟨w.heap.size, 0, none⟩) s.length s.length, ?_, .inr ⟨w.heap.size, rfl, by rw [hr, HY.out]⟩⟩
  · rw [hW1]; rfl
  · rw [hW1]; rfl
  · rw [hW1]; rfl
  · rw [size_setRow, hW1]; simp [World.setCell]
  · have hk' : k ≠ b := fun e => hne (by rw [e])
    rw [ho k (by omega), hW1, Below.heap_alloc _ _ _ (by simpa [World.setCell] using hk), heap_setCell_other _ _ _ _ (by exact hk')]
  · rw [ho b (by omega)]; exact HBW.out

theorem copy_any (w : World) {b m : Nat} {l : List UInt8} {d : Bool} (h : Fr w b m l d) (hl : l.length ≤ 100000) :
    Calls Try.prog 15 #[.pointer (some ⟨b, 0, none⟩)] w fun e w' => e = .returned (.pointer (some ⟨w.heap.size, 0, none⟩)) ∧ w.grownBy w' none ∧ Fr w' w.heap.size m l d := by
  obtain ⟨v, hb, hv⟩ := h
  have h0 : w.cell? ⟨b, 0, none⟩ = some (.int .i64 m) := by rw [cellAt hb]; rfl
  have h1 : w.cell? ⟨b, 1, none⟩ = some v := by rw [cellAt hb]; rfl
  have h2 : w.cell? ⟨b, 2, none⟩ = some (.bool d) := by rw [cellAt hb]; rfl
  have hlt := lt_of_block hb
  have h1' : ∀ o, (w.alloc o).cell? ⟨b, 1, none⟩ = some v := fun o => by rw [World.cell?_alloc_lt w o _ (by exact hlt)]; exact h1
  have hr : ∀ o, (convert 34 9 v).run Try.prog (w.alloc o).drew = .ok (.string (str l)) (w.alloc o).drew := fun o =>
    run_have (w := (w.alloc o).drew) (HV.keptNone (w := w) (w' := (w.alloc o).drew) hv ⟨rfl, rfl, rfl, by simp [World.drew], fun k hk _ => Below.heap_alloc _ _ _ hk⟩)
  have hfr : ∀ o : Obj, o = .cells #[.int .i64 m, .slice none 0 0, .bool d] 55 → Fr (w.alloc o).drew w.heap.size m [] d := fun o e => ⟨.slice none 0 0, by rw [e]; exact heap_alloc_new w _, .inl ⟨rfl, rfl⟩⟩
  have HB := Lib.hid hb
  clear hb hv
  go_enter Try.func15, Try.ntmps15
  go_wp2
  go_region
  all_goals (go_wp2_with fail)
  all_goals
    refine (keep_any _ l (hfr _ rfl) hl).mono ?_
    rintro e w1 ⟨rfl, hg, hf⟩
    go_wp2
    go_ret
    refine ⟨rfl, ⟨hg.os, hg.tape, hg.output, Nat.le_trans (by simp [World.drew]) hg.size, fun k hk _ => ?_⟩, hf⟩
    rw [hg.block k (by simp [World.drew]; omega) (by simp; omega)]
    exact Below.heap_alloc _ _ _ hk

end Go.Proofs.Ytgjngldkeiblbaa
