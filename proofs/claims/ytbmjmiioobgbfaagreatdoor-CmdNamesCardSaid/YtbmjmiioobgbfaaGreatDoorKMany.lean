/-
  The laws' helper many: so many equal bytes.
-/
import Derived.Laws.MakeOwn
import Derived.Test.YtbmjmiioobgbfaaGreatDoorKLaw1
namespace Go.Proofs.YtbmjmiioobgbfaaGreatDoor
open Go Go.RowKit Go.Shelf
set_option maxRecDepth 100000
set_option linter.unusedSimpArgs false
set_option linter.unusedVariables false

theorem info_byte : (Tryz.prog.info? 5).map (fun i => (i.zero, i.size, i.bytes)) = some (some (.int .u8 0), 1, 1) := by kernel_rfl

/-- A slice of bytes just made. -/
theorem run_made (n : Nat) (hn : n ≤ 1000000) (W : World) : ∃ W1, (Instr.makeSlice 87 (.int .i64 (n : Int)) (.int .i64 (n : Int))).run Tryz.prog W = .ok (.slice (some ⟨W.heap.size, 0, none⟩) n n) W1 ∧ BufAt W1 W.heap.size (List.replicate n 0) ∧ Below W.heap.size W W1 := by
  obtain ⟨i0, hi, hz0, hz1, hz2⟩ := info_parts info_byte
  have h := run_make (P := Tryz.prog) W 87 5 i0 (.int .u8 0) Tryz.underlying87 hi hz0 .i64 .i64 (n : Int) (n : Int) (by omega) (by omega) (by rw [hz2]; omega) (by omega)
  obtain ⟨M, hM⟩ : ∃ M, M = madeCells (Value.int .u8 0).cells (((n : Nat) : Int).toNat * i0.size) := ⟨_, rfl⟩
  have hMs : M.size = n := by rw [hM, size_madeCells, hz1]; simp
  have hMc : ∀ j, j < n → M[j]? = some (.int .u8 0) := fun j hj => by
    rw [hM]
    unfold madeCells
    rw [Array.getElem?_map, Array.getElem?_range, if_pos (by rw [hz1]; simpa using hj)]
    show some ((#[Value.int .u8 0] : Array Value)[j % 1]!) = _
    rw [Nat.mod_one]; rfl
  rw [← hM] at h
  refine ⟨_, by simpa using h, ⟨by rw [World.size_alloc]; exact Nat.lt_succ_self _, fun j hj => ?_, fun j hj => ?_⟩, (Below.refl _ _).alloc (Nat.le_refl _) _⟩
  · rw [List.length_replicate] at hj
    rw [cellAt (heap_alloc_new W _), hMc j hj, List.getD_eq_getElem?_getD, List.getElem?_replicate, if_pos hj]; rfl
  · exact freeAt (heap_alloc_new W _) j

/-- So many bytes, from byte k on 0. -/
theorem many_next (b : UInt8) {n k : Nat} (hk : k < n) : (List.replicate k b ++ List.replicate (n - k) 0).set k b = List.replicate (k + 1) b ++ List.replicate (n - (k + 1)) 0 := by
  obtain ⟨m, rfl⟩ : ∃ m, n = k + 1 + m := ⟨n - (k + 1), by omega⟩
  rw [List.set_append_right _ _ (by simp), show k + 1 + m - k = m + 1 by omega, show k + 1 + m - (k + 1) = m by omega, List.replicate_succ, List.length_replicate, Nat.sub_self]
  show List.replicate k b ++ (b :: List.replicate m 0) = _
  rw [List.replicate_succ', List.append_assoc]; rfl

set_option maxHeartbeats 1000000 in
theorem many_any (b : UInt8) (x : Int) (hx : x = (b.toNat : Int)) (n : Nat) (w : World) (hn : n ≤ 1000000) : Calls Tryz.prog 18 #[.int .u8 x, .int .i64 (n : Int)] w fun e w' => e = .returned (sv (List.replicate n b)) ∧ Below w.heap.size w w' := by
  obtain ⟨W1, hrun, hbuf, hbel⟩ := run_made n hn w
  have HB := Lib.hid hbuf
  have HL := Lib.hid hbel
  have HX := Lib.hid hx
  obtain ⟨R, hR⟩ : ∃ R, R = List.replicate n b := ⟨_, rfl⟩
  rw [← hR]
  have HR := Lib.hid hR
  clear hbuf hbel hx hR
  go_enter Tryz.func18, Tryz.ntmps18
  go_wp2_with fail
  go_loopw [6] (fun i wr => ∃ k : Nat, k ≤ n ∧ i = .int .i64 k ∧ BufAt wr w.heap.size (List.replicate k b ++ List.replicate (n - k) 0) ∧ Below w.heap.size w wr) (fun i _ => n - (intOf i).toNat)
  case atStart => exact ⟨0, Nat.zero_le _, rfl, by simpa using HB.out, HL.out⟩
  case round =>
    obtain ⟨k, hk, rfl, hb, hl⟩ := hrel
    have hlen : (List.replicate k b ++ List.replicate (n - k) (0 : UInt8)).length = n := by simp; omega
    by_cases hlt : k < n
    · have hc := hb.cell (j := k) (by omega)
      have hf : wr.frozen? ⟨w.heap.size, k, none⟩ = false := hb.free (by omega)
      have HS := Lib.hid (hb.set (k := k) (by omega) b HX.out)
      have HM := Lib.hid (many_next b hlt)
      have HL2 := Lib.hid (hl.setCell (p := ⟨w.heap.size, k, none⟩) (Nat.le_refl _) (.int .u8 x))
      clear hb hl hlen
      go_wp2_with fail
      go_roundw
      case rel => exact ⟨k + 1, by omega, by go_num, by rw [← HM.out]; exact HS.out, HL2.out⟩
      case measure => simp [intOf]; omega
    · obtain rfl : k = n := by omega
      rw [Nat.sub_self, List.replicate_zero, List.append_nil, ← HR.out] at hb
      have hback := run_text hb k k (by rw [HR.out]; simp)
      have HL2 := Lib.hid hl
      clear hb hl hlen
      go_wp2_with fail
      go_ret
      exact ⟨rfl, HL2.out⟩
end Go.Proofs.YtbmjmiioobgbfaaGreatDoor
