/-
  The laws' own many; the reference's comparison of rows of texts.
-/
import Derived.Laws.IdiomStrings
import Derived.Test.YteplndmgfaceiaaDoorFRow
namespace Go.Proofs.YteplndmgfaceiaaDoor
set_option linter.unusedSimpArgs false
set_option linter.unusedVariables false
open Go Go.RowKit
set_option maxRecDepth 100000

theorem make_bytes (n : Nat) (hn : n ≤ 100000) (W : World) : (Instr.makeSlice 49 (.int .i64 n) (.int .i64 n)).run Tryd.prog W = .ok (.slice (some ⟨W.heap.size, 0, none⟩) n n) (W.alloc (.cells (cellsOf (List.replicate n 0)).toArray 5)) := by
  obtain ⟨i, hi, hz0, hz1, hz2⟩ := info_parts (show (Tryd.prog.info? 5).map (fun i => (i.zero, i.size, i.bytes)) = some (some (.int .u8 0), 1, 1) by kernel_rfl)
  have := run_make W _ 5 i _ Tryd.underlying49 hi hz0 .i64 .i64 n n (by omega) (by omega) (by rw [hz2]; omega) (by omega)
  have e : madeCells (Value.int IntKind.u8 0).cells (n * i.size) = (cellsOf (List.replicate n 0)).toArray := by
    apply Array.ext
    · simp [madeCells, hz1, cellsOf]
    · intro j h1 h2
      have hc : (Value.int IntKind.u8 0).cells = #[Value.int IntKind.u8 0] := rfl
      have hm : ∀ x : Nat, x % 1 = 0 := fun x => by omega
      simp [madeCells, hc, hm, cellsOf, bv]
  simpa [e] using this
theorem fill_next (y : UInt8) (n k : Nat) (h : k < n) : (List.replicate k y ++ List.replicate (n - k) 0).set k y = List.replicate (k + 1) y ++ List.replicate (n - (k + 1)) 0 := by
  rw [List.set_append_right _ _ (by simp), List.length_replicate, Nat.sub_self, show n - k = (n - (k + 1)) + 1 by omega, List.replicate_succ, List.set_cons_zero, List.replicate_succ']
  simp

set_option maxHeartbeats 2000000 in
theorem many_any {w : World} (y : UInt8) (n : Nat) (hn : n ≤ 1000) : Calls Tryd.prog 23 #[.int .u8 (y.toNat : Int), .int .i64 n] w fun e w' => e = .returned (sv (List.replicate n y)) ∧ Below w.heap.size w w' := by
  have HMK := Lib.hid (make_bytes n (by omega))
  have hb2 := below_alloc w (.cells (cellsOf (List.replicate n 0)).toArray 5)
  have t2 := AB.new w 5 (List.replicate n 0)
  obtain ⟨g, hg⟩ : ∃ g, g = w.heap.size := ⟨_, rfl⟩
  obtain ⟨w2, hw2⟩ : ∃ w2, w2 = w.alloc (.cells (cellsOf (List.replicate n 0)).toArray 5) := ⟨_, rfl⟩
  rw [← hw2, ← hg] at t2
  rw [← hw2] at hb2
  have T2 := Lib.hid t2
  have HB2 := Lib.hid hb2
  have HG := Lib.hid hg
  have HW := Lib.hid hw2
  clear t2 hb2 hw2
  go_enter Tryd.func23, Tryd.ntmps23
  go_wp2_with fail
  rw [HMK.out]
  simp only [Result.andThen]
  rw [Oper.upon_value]
  rw [← HW.out, ← HG.out]
  clear hg HMK
  go_wp2_with fail
  go_loopw [6] (fun i wr => ∃ k : Nat, k ≤ n ∧ i = .int .i64 k ∧ AB wr g 5 (List.replicate k y ++ List.replicate (n - k) 0) ∧ Below w.heap.size w wr) (fun i _ => n - (intOf i).toNat)
  case atStart => exact ⟨0, Nat.zero_le _, rfl, by simpa using T2.out, HB2.out⟩
  case round =>
    obtain ⟨k, hk, rfl, ht, hB⟩ := hrel
    have HT := Lib.hid ht
    have HB := Lib.hid hB
    clear hB
    by_cases hlt : k < n
    · have hlt' : (k : Int) < (n : Int) := by omega
      have c1 := ht.cell (j := k) (by simp; omega)
      have f1 := ht.free k
      clear ht
      have HN := Lib.hid (fill_next y n k hlt)
      go_wp2_with fail
      go_roundw
      case rel => exact ⟨k + 1, by omega, by go_num, HN.out ▸ HT.out.set k y, HB.out.setCell (p := ⟨g, k, none⟩) (by rw [← HG.out]; exact Nat.le_refl _) _⟩
      case measure => simp [intOf]; omega
    · obtain rfl : k = n := by omega
      have hl : (List.replicate k y).length = k := by simp
      have ht2 : AB wr g 5 (List.replicate k y) := by simpa using ht
      have hcv : (convert 49 9 (.slice (some ⟨g, 0, none⟩) k k)).run Tryd.prog wr = .ok (sv (List.replicate k y)) wr := by
        have := run_convert_bytes_back (P := Tryd.prog) wr 49 9 5 ⟨g, 0, none⟩ k (List.replicate k y) Tryd.underlying49 Tryd.underlying5 Tryd.underlying9 (fun j hj => by
          rw [show (⟨g, 0, none⟩ : Addr).add j = ⟨g, j, none⟩ from by unfold Addr.add; split <;> simp_all, ht2.cell hj, getD_str _ _ hj]; rfl)
        rwa [hl] at this
      clear ht ht2 hl
      obtain ⟨Y, hY⟩ : ∃ Y, Y = List.replicate k y := ⟨_, rfl⟩
      rw [← hY] at hcv
      have HY := Lib.hid hY
      clear hY
      go_wp2_with fail
      go_ret
      exact ⟨by rw [← HY.out]; rfl, HB.out⟩

theorem rows_next {xs ys : List (List UInt8)} {k : Nat} (ha : ∀ j, j < k → xs.getD j [] = ys.getD j []) (h : xs.getD k [] = ys.getD k []) : ∀ j, j < k + 1 → xs.getD j [] = ys.getD j [] := by
  intro j hj
  by_cases e : j = k
  · rw [e]; exact h
  · exact ha j (by omega)
theorem rows_eq {xs ys : List (List UInt8)} (hl : xs.length = ys.length) (ha : ∀ j, j < xs.length → xs.getD j [] = ys.getD j []) : xs = ys := by
  refine List.ext_getElem hl fun j h1 h2 => ?_
  have := ha j h1
  rwa [List.getD_eq_getElem?_getD, List.getD_eq_getElem?_getD, List.getElem?_eq_getElem h1, List.getElem?_eq_getElem h2] at this

set_option maxHeartbeats 4000000 in
theorem same_any {w : World} (xs ys : List (List UInt8)) (A B : Option Addr) (c d : Nat) (hx : Tx w A xs) (hy : Tx w B ys) (hxl : xs.length ≤ 1000000) (hyl : ys.length ≤ 1000000) :
    Calls Tryd.prog 18 #[.slice A xs.length c, .slice B ys.length d] w fun e w' => e = .returned (.bool (xs == ys)) ∧ Below w.heap.size w w' := by
  by_cases hl : xs.length = ys.length
  · have hne : ((xs.length : Int) != (ys.length : Int)) = false := by rw [hl]; simp
    have HX := Lib.hid hx
    have HY := Lib.hid hy
    have HLL := Lib.hid hl
    have HB := Lib.hid (Below.refl w.heap.size w)
    clear hx hy hl
    go_enter Tryd.func18, Tryd.ntmps18
    go_wp2_with fail
    go_loopw [5] (fun i wr => ∃ k : Nat, k ≤ xs.length ∧ i = .int .i64 k ∧ (∀ j, j < k → xs.getD j [] = ys.getD j []) ∧ Below w.heap.size w wr) (fun i _ => xs.length - (intOf i).toNat)
    case atStart => exact ⟨0, Nat.zero_le _, rfl, fun j hj => absurd hj (by omega), HB.out⟩
    case round =>
      obtain ⟨k, hk, rfl, ha, hbl⟩ := hrel
      have HA := Lib.hid ha
      have HL := Lib.hid hbl
      clear ha hbl
      by_cases hlt : k < xs.length
      · have hlt2 : k < ys.length := by have := HLL.out; omega
        obtain ⟨g, o, rfl, c1⟩ := (HX.out.below HL.out).cell hlt
        obtain ⟨g2, o2, rfl, c2⟩ := (HY.out.below HL.out).cell hlt2
        obtain ⟨x, hxe⟩ : ∃ x, x = xs.getD k [] := ⟨_, rfl⟩
        obtain ⟨y, hye⟩ : ∃ y, y = ys.getD k [] := ⟨_, rfl⟩
        rw [← hxe] at c1
        rw [← hye] at c2
        have HXE := Lib.hid hxe
        have HYE := Lib.hid hye
        clear hxe hye
        by_cases hxy : x = y
        · have HN := Lib.hid (rows_next HA.out (by rw [← HXE.out, ← HYE.out, hxy]))
          subst hxy
          go_wp2_with fail
          go_quiet (fail)
          go_wp2_with fail
          go_roundw
          case rel => exact ⟨k + 1, by omega, by go_num, HN.out, below_drewN HL.out _⟩
          case measure => simp [intOf]; omega
        · have HF := Lib.hid (show (xs == ys) = false by
            rw [beq_eq_false_iff_ne]; intro e; exact hxy (by rw [HXE.out, HYE.out, e]))
          have e1 : (x == y) = false := by simpa using hxy
          have e2 : (x != y) = true := by simpa using hxy
          have HXY := Lib.hid hxy
          clear hxy
          go_wp2_with fail
          go_quiet (fail)
          go_wp2_with fail
          go_ret
          rw [HF.out]
          exact ⟨rfl, below_drewN HL.out _⟩
      · obtain rfl : k = xs.length := by omega
        have HE := Lib.hid (show (xs == ys) = true by rw [beq_iff_eq]; exact rows_eq HLL.out HA.out)
        go_wp2_with fail
        go_ret
        rw [HE.out]
        exact ⟨rfl, HL.out⟩
  · have hne : ((xs.length : Int) != (ys.length : Int)) = true := by rw [bne_iff_ne]; omega
    have HF := Lib.hid (show (xs == ys) = false by rw [beq_eq_false_iff_ne]; intro e; exact hl (by rw [e]))
    clear hx hy hl
    go_enter Tryd.func18, Tryd.ntmps18
    go_wp2_with fail
    go_ret
    rw [HF.out]
    exact ⟨rfl, Below.refl _ _⟩
end Go.Proofs.YteplndmgfaceiaaDoor
