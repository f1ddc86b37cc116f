/-
  The laws' own many: so many bytes that are the same.
-/
import Derived.Laws.MakeOwn
import Derived.Test.YtablllincjoabaaENum
namespace Go.Proofs.Ytablllincjoabaa
set_option linter.unusedSimpArgs false
set_option linter.unusedVariables false
open Go Go.RowKit
set_option maxRecDepth 100000

theorem make_bytes (n : Nat) (hn : n ≤ 100000) (W : World) : (Instr.makeSlice 54 (.int .i64 n) (.int .i64 n)).run Try.prog W = .ok (.slice (some ⟨W.heap.size, 0, none⟩) n n) (W.alloc (.cells (cellsOf (List.replicate n 0)).toArray 5)) := by
  obtain ⟨i, hi, hz0, hz1, hz2⟩ := info_parts (show (Try.prog.info? 5).map (fun i => (i.zero, i.size, i.bytes)) = some (some (.int .u8 0), 1, 1) by kernel_rfl)
  have := run_make W _ 5 i _ Try.underlying54 hi hz0 .i64 .i64 n n (by omega) (by omega) (by rw [hz2]; omega) (by omega)
  have e : madeCells (Value.int IntKind.u8 0).cells (n * i.size) = (cellsOf (List.replicate n 0)).toArray := by
    apply Array.ext
    · simp [madeCells, hz1, cellsOf]
    · intro j h1 h2
      have hc : (Value.int IntKind.u8 0).cells = #[Value.int IntKind.u8 0] := rfl
      have hm : ∀ x : Nat, x % 1 = 0 := fun x => by omega
      simp [madeCells, hc, hm, cellsOf, bv]
  simpa [e] using this
theorem fill_next (y : UInt8) (n k : Nat) (h : k < n) : (List.replicate k y ++ List.replicate (n - k) 0).set k y = List.replicate (k + 1) y ++ List.replicate (n - (k + 1)) 0 := by
  rw [List.set_append_right _ _ (by simp), List.length_replicate, Nat.sub_self, show n - k = (n - (k + 1)) + 1 by omega, List.replicate_succ, List.set_cons_zero, List.replicate_succ']
  simp

set_option maxHeartbeats 2000000 in
theorem many_any {w : World} (y : UInt8) (n : Nat) (hn : n ≤ 70000) : Calls Try.prog 11 #[.int .u8 (y.toNat : Int), .int .i64 n] w fun e w' => e = .returned (sv (List.replicate n y)) ∧ Below w.heap.size w w' := by
  have HMK := Lib.hid (make_bytes n (by omega))
  have hb2 := below_alloc w (.cells (cellsOf (List.replicate n 0)).toArray 5)
  have t2 := AB.new w 5 (List.replicate n 0)
  obtain ⟨g, hg⟩ : ∃ g, g = w.heap.size := ⟨_, rfl⟩
  obtain ⟨w2, hw2⟩ : ∃ w2, w2 = w.alloc (.cells (cellsOf (List.replicate n 0)).toArray 5) := ⟨_, rfl⟩
  rw [← hw2, ← hg] at t2
  rw [← hw2] at hb2
  have T2 := Lib.hid t2
  have HB2 := Lib.hid hb2
  have HG := Lib.hid hg
  have HW := Lib.hid hw2
  clear t2 hb2 hw2
  go_enter Try.func11, Try.ntmps11
  go_wp2_with fail
  rw [HMK.out]
  simp only [Result.andThen]
  rw [Oper.upon_value]
  rw [← HW.out, ← HG.out]
  clear hg HMK
  go_wp2_with fail
  go_loopw [6] (fun i wr => ∃ k : Nat, k ≤ n ∧ i = .int .i64 k ∧ AB wr g 5 (List.replicate k y ++ List.replicate (n - k) 0) ∧ Below w.heap.size w wr) (fun i _ => n - (intOf i).toNat)
  case atStart => exact ⟨0, Nat.zero_le _, rfl, by simpa using T2.out, HB2.out⟩
  case round =>
    obtain ⟨k, hk, rfl, ht, hB⟩ := hrel
    have HT := Lib.hid ht
    have HB := Lib.hid hB
    clear hB
    by_cases hlt : k < n
    · have hlt' : (k : Int) < (n : Int) := by omega
      have c1 := ht.cell (j := k) (by simp; omega)
      have f1 := ht.free k
      clear ht
      have HN := Lib.hid (fill_next y n k hlt)
      go_wp2_with fail
      go_roundw
      case rel => exact ⟨k + 1, by omega, by go_num, HN.out ▸ HT.out.set k y, HB.out.setCell (p := ⟨g, k, none⟩) (by rw [← HG.out]; exact Nat.le_refl _) _⟩
      case measure => simp [intOf]; omega
    · obtain rfl : k = n := by omega
      have hl : (List.replicate k y).length = k := by simp
      have ht2 : AB wr g 5 (List.replicate k y) := by simpa using ht
      have hcv : (convert 54 9 (.slice (some ⟨g, 0, none⟩) k k)).run Try.prog wr = .ok (sv (List.replicate k y)) wr := by
        have := run_convert_bytes_back (P := Try.prog) wr 54 9 5 ⟨g, 0, none⟩ k (List.replicate k y) Try.underlying54 Try.underlying5 Try.underlying9 (fun j hj => by
          rw [show (⟨g, 0, none⟩ : Addr).add j = ⟨g, j, none⟩ from by unfold Addr.add; split <;> simp_all, ht2.cell hj, getD_str _ _ hj]; rfl)
        rwa [hl] at this
      clear ht ht2 hl
      obtain ⟨Y, hY⟩ : ∃ Y, Y = List.replicate k y := ⟨_, rfl⟩
      rw [← hY] at hcv
      have HY := Lib.hid hY
      clear hY
      go_wp2_with fail
      go_ret
      exact ⟨by rw [← HY.out]; rfl, HB.out⟩

end Go.Proofs.Ytablllincjoabaa
