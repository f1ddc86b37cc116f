/-
  Contracts of package cmd's isParam, find, areParams; and slices.IndexFunc at parameters.
-/
import Derived.Test.YtbmjmiioobgbfaaGreatDoorKLeaf
namespace Go.Proofs.YtbmjmiioobgbfaaGreatDoor
open Go Go.RowKit Go.Shelf
set_option maxRecDepth 100000
set_option linter.unusedSimpArgs false
set_option linter.unusedVariables false

theorem pL_cons (c : UInt8) (t v : List UInt8) : pL (c :: t, v) = (decide ((c :: t).length ≤ 32) && (upC c && ((c :: t).all pnC && vlL v))) := by
  unfold pL pnL
  simp only [List.length_cons, List.headD_cons, Nat.zero_lt_succ, decide_true, Bool.true_and, Bool.and_assoc]
theorem one_extract (c : UInt8) (t : List UInt8) : (str (c :: t)).extract 0 1 = str [c] := by rw [str_extract]; rfl

set_option maxHeartbeats 1000000 in
theorem isParam_any (p : PM) (w : World) (hn : p.1.length ≤ 1000000) (hv : p.2.length ≤ 1000000) : Calls Tryz.prog 96 #[pmV p] w fun e w' => e = .returned (.bool (pL p)) ∧ Below w.heap.size w w' := by
  obtain ⟨n, v⟩ := p
  dsimp only at hn hv
  have HB0 := Lib.hid (below_alloc w (.cells #[sv n, sv v] 38))
  cases n with
  | nil =>
    have HF := Lib.hid (show pL ([], v) = false by unfold pL pnL; rfl)
    go_enter Tryz.func96, Tryz.ntmps96
    go_wp2_with fail
    go_ret
    rw [HF.out]
    exact ⟨rfl, HB0.out⟩
  | cons c t =>
    have HF := Lib.hid (pL_cons c t v)
    have HX := one_extract c t
    obtain ⟨n, hn'⟩ : ∃ n, n = c :: t := ⟨_, rfl⟩
    have h0 : n.isEmpty = false := by rw [hn']; rfl
    have h1 : 1 ≤ n.length := by rw [hn']; simp
    rw [← hn'] at HF HX hn HB0 ⊢
    clear hn'
    by_cases h : n.length ≤ 32
    · rw [decide_eq_true h, Bool.true_and] at HF
      obtain ⟨a, ha⟩ : ∃ a, a = upC c := ⟨_, rfl⟩
      obtain ⟨b, hb⟩ : ∃ b, b = n.all pnC := ⟨_, rfl⟩
      obtain ⟨d, hd⟩ : ∃ d, d = vlL v := ⟨_, rfl⟩
      have HA := Lib.hid (show [c].all upC = a by rw [ha]; simp)
      rw [← ha, ← hb, ← hd] at HF
      have HB := Lib.hid hb.symm
      have HD := Lib.hid hd.symm
      clear ha hb hd
      cases a with
      | false =>
        go_enter Tryz.func96, Tryz.ntmps96
        go_wp2_with fail
        refine (isUp_any [c] _ (by simp)).mono ?_
        rintro e w1 ⟨rfl, hb1⟩
        rw [HA.out]
        have HB1 := Lib.hid (HB0.out.trans (hb1.mono HB0.out.size))
        clear hb1
        go_wp2_with fail
        go_ret
        rw [HF.out]
        exact ⟨rfl, HB1.out⟩
      | true =>
        cases b with
        | false =>
          go_enter Tryz.func96, Tryz.ntmps96
          go_wp2_with fail
          refine (isUp_any [c] _ (by simp)).mono ?_
          rintro e w1 ⟨rfl, hb1⟩
          rw [HA.out]
          have k0 : w1.cell? ⟨w.heap.size, 0, none⟩ = some (sv n) := (hb1.cell (p := ⟨w.heap.size, 0, none⟩) (by simp)).trans (by rw [cellAt (heap_alloc_new w _)]; rfl)
          have HB1 := Lib.hid (HB0.out.trans (hb1.mono HB0.out.size))
          clear hb1
          go_wp2_with fail
          refine (isPn_any n _ hn).mono ?_
          rintro e w2 ⟨rfl, hb1⟩
          rw [HB.out]
          have HB2 := Lib.hid (HB1.out.trans (hb1.mono HB1.out.size))
          clear hb1
          go_wp2_with fail
          go_ret
          rw [HF.out]
          exact ⟨rfl, HB2.out⟩
        | true =>
          go_enter Tryz.func96, Tryz.ntmps96
          go_wp2_with fail
          refine (isUp_any [c] _ (by simp)).mono ?_
          rintro e w1 ⟨rfl, hb1⟩
          rw [HA.out]
          have hk : w1.heap[w.heap.size]? = some (.cells #[sv n, sv v] 38 (0, 0)) := (hb1.block _ (by simp)).trans (heap_alloc_new w _)
          have k0 : w1.cell? ⟨w.heap.size, 0, none⟩ = some (sv n) := by rw [cellAt hk]; rfl
          have HB1 := Lib.hid (HB0.out.trans (hb1.mono HB0.out.size))
          have HK := Lib.hid hk
          clear hb1 hk
          go_wp2_with fail
          refine (isPn_any n _ hn).mono ?_
          rintro e w2 ⟨rfl, hb1⟩
          rw [HB.out]
          have hk := blk_below HK.out hb1
          have k1 : w2.cell? ⟨w.heap.size, 1, none⟩ = some (sv v) := by rw [cellAt hk]; rfl
          have HB2 := Lib.hid (HB1.out.trans (hb1.mono HB1.out.size))
          clear hb1 hk
          go_wp2_with fail
          refine (isValue_any v _ hv).mono ?_
          rintro e w3 ⟨rfl, rfl⟩
          rw [HD.out]
          go_wp2_with fail
          go_ret
          rw [HF.out]
          exact ⟨rfl, HB2.out⟩
    · rw [decide_eq_false h, Bool.false_and] at HF
      have h' : 32 < n.length := by omega
      clear h
      go_enter Tryz.func96, Tryz.ntmps96
      go_wp2_with fail
      go_ret
      rw [HF.out]
      exact ⟨rfl, HB0.out⟩

theorem str_beq (a b : List UInt8) : ((str a : ByteArray) == str b) = (a == b) := by
  rw [Bool.eq_iff_iff, MapKept.bytes_beq, beq_iff_eq]
  constructor
  · intro h
    have := congrArg (fun x : ByteArray => x.data.toList) h
    simpa using this
  · rintro rfl; rfl

/-- The closure of find. -/
theorem find1_any (p : PM) (n : List UInt8) (k : Nat) (w : World) (hk : w.cell? ⟨k, 0, none⟩ = some (sv n)) :
    Calls Tryz.prog 102 #[pmV p, .pointer (some ⟨k, 0, none⟩)] w fun e w' => e = .returned (.bool (p.1 == n)) ∧ Below w.heap.size w w' := by
  obtain ⟨m, v⟩ := p
  have hlt : k < w.heap.size := block_lt_of_cell (a := ⟨k, 0, none⟩) hk
  have HB0 := Lib.hid (below_alloc w (.cells #[sv m, sv v] 38))
  have k0 : (w.alloc (.cells #[sv m, sv v] 38)).cell? ⟨k, 0, none⟩ = some (sv n) := (HB0.out.cell (p := ⟨k, 0, none⟩) hlt).trans hk
  have hs : ((str m : ByteArray) == str n) = (m == n) := str_beq m n
  go_enter Tryz.func102, Tryz.ntmps102
  go_wp2_with fail
  go_ret
  exact ⟨by first | rfl | (simp [hs]; done) | (rw [← hs]; rfl), HB0.out⟩

set_option maxHeartbeats 1000000 in
theorem index_any (ps : List PM) (u : Value) (n : List UInt8) (k : Nat) (w : World) (hu : PR w u ps) (hk : w.cell? ⟨k, 0, none⟩ = some (sv n)) (hl : ps.length ≤ 1000000) :
    Calls Tryz.prog 101 #[u, .func (.func 102) #[] #[.pointer (some ⟨k, 0, none⟩)]] w fun e w' => e = .returned (.int .i64 (findP ps n)) ∧ Below w.heap.size w w' := by
  have HU := Lib.hid hu
  obtain ⟨A, c, rfl⟩ := hu.form
  have hlt : k < w.heap.size := block_lt_of_cell (a := ⟨k, 0, none⟩) hk
  have HK := Lib.hid hk
  obtain ⟨r, hr⟩ : ∃ r, r = findP ps n := ⟨_, rfl⟩
  rw [← hr]
  have HR := Lib.hid hr
  have he := enters_of (P := Tryz.prog) Tryz.func102 (by kernel_rfl) rfl
  clear hr hu hk
  go_enter Tryz.func101, Tryz.ntmps101
  go_wp2_with fail
  go_loopw [5, 8] (fun _ i wr => ∃ j : Nat, j ≤ ps.length ∧ i = .int .i64 j ∧ findF j (ps.drop j) n = r ∧ Below w.heap.size w wr) (fun _ i _ => ps.length - (intOf i).toNat)
  case atStart => exact ⟨0, Nat.zero_le _, rfl, HR.out.symm, Below.refl _ _⟩
  case round =>
    obtain ⟨j, hj, rfl, hf, hb⟩ := hrel
    have HB := Lib.hid hb
    clear hb
    by_cases hjl : j < ps.length
    · rw [findF_drop hjl] at hf
      obtain ⟨g, off, rfl, hgl, q0, q1⟩ := PR.at (HU.out.step HB.out) hjl
      obtain ⟨p, hp⟩ : ∃ p, p = ps.getD j pm0 := ⟨_, rfl⟩
      rw [← hp] at hf q0 q1
      have hkr := (HB.out.cell (p := ⟨k, 0, none⟩) hlt).trans HK.out
      have HF1 := Lib.hid (find1_any p n k wr hkr)
      clear hp hkr
      by_cases hpn : p.1 = n
      · rw [if_pos hpn] at hf
        have HE := Lib.hid (show (p.1 == n) = true by rw [beq_iff_eq]; exact hpn)
        have HF := Lib.hid hf
        clear hf hpn
        go_wp2_with fail
        refine (HF1.out).mono ?_
        rintro e w1 ⟨rfl, hb1⟩
        rw [HE.out]
        have HB1 := Lib.hid (HB.out.trans (hb1.mono HB.out.size))
        clear hb1
        go_wp2_with fail
        go_ret
        rw [← HF.out]
        exact ⟨rfl, HB1.out⟩
      · rw [if_neg hpn] at hf
        have HE := Lib.hid (show (p.1 == n) = false by rw [beq_eq_false_iff_ne]; exact hpn)
        have HF := Lib.hid hf
        clear hf hpn
        go_wp2_with fail
        refine (HF1.out).mono ?_
        rintro e w1 ⟨rfl, hb1⟩
        rw [HE.out]
        have HB1 := Lib.hid (HB.out.trans (hb1.mono HB.out.size))
        clear hb1
        go_wp2
        go_roundw
        case rel => exact ⟨j + 1, by omega, by go_num, HF.out, HB1.out⟩
        case measure => simp [intOf]; omega
    · obtain rfl : j = ps.length := by omega
      rw [List.drop_length] at hf
      have HF := Lib.hid (show r = -1 from hf.symm)
      clear hf
      go_wp2
      go_ret
      rw [HF.out]
      exact ⟨rfl, HB.out⟩

theorem find_any (ps : List PM) (u : Value) (n : List UInt8) (w : World) (hu : PR w u ps) (hl : ps.length ≤ 1000000) :
    Calls Tryz.prog 61 #[u, sv n] w fun e w' => e = .returned (.int .i64 (findP ps n)) ∧ Below w.heap.size w w' := by
  have HB0 := Lib.hid (below_alloc w (.cells #[sv n] 9))
  have HC := Lib.hid (index_any ps u n w.heap.size (w.alloc (.cells #[sv n] 9)) (hu.step HB0.out) (by rw [cellAt (heap_alloc_new w _)]; rfl) hl)
  obtain ⟨A, c, rfl⟩ := hu.form
  clear hu
  go_enter Tryz.func61, Tryz.ntmps61
  go_wp2_with fail
  refine (HC.out).mono ?_
  rintro e w1 ⟨rfl, hb1⟩
  have HB1 := Lib.hid (HB0.out.trans (hb1.mono HB0.out.size))
  clear hb1
  go_wp2_with fail
  go_ret
  exact ⟨rfl, HB1.out⟩
end Go.Proofs.YtbmjmiioobgbfaaGreatDoor
