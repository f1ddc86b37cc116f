/-
  The walk of HeadSays.
-/
import Derived.Test.YtkffdhdhjfbhjaaDoorHRShow
namespace Go.Proofs.YtkffdhdhjfbhjaaDoor
set_option linter.unusedSimpArgs false
set_option linter.unusedVariables false
open Go Go.RowKit Go.Shelf
set_option maxRecDepth 100000

theorem rplainB {w0 w : World} (h : BL w0 w) (s : List UInt8) (hs : s.length ≤ 50000) {r : Bool} (hn : plainL s = r) : Calls Tryd.prog 26 #[sv s] w fun e w' => e = .returned (.bool r) ∧ BL w0 w' := by
  subst hn
  exact (rplain_any s w hs).mono fun e w' ⟨h1, h2⟩ => ⟨h1, h.step h2⟩
theorem rhopsB {w0 w : World} (h : BL w0 w) (s : List UInt8) (hs : s.length ≤ 50000) {n : Nat} (hn : hopsL s = n) : Calls Tryd.prog 27 #[sv s] w fun e w' => e = .returned (.int .i64 (n : Int)) ∧ BL w0 w' := by
  subst hn
  exact (rhops_any s w hs).mono fun e w' ⟨h1, h2⟩ => ⟨h1, h.step h2⟩
theorem rshowB {w0 w : World} (h : BL w0 w) (a b : List UInt8) (ha : a.length + 1 ≤ 1000000) (hb : b.length ≤ 1000000) {r : List UInt8} {e0 : Int} (hn : showL (a, b) = (r, e0)) : Calls Tryd.prog 25 #[.agg #[sv a, sv b]] w fun e w' => e = .returned (.tuple #[sv r, .int .i64 e0]) ∧ BL w0 w' := by
  have := rshow_any (a, b) w (by show a.length ≤ 1000000; omega) hb ha
  rw [hn] at this
  exact this.mono fun e w' ⟨h1, h2⟩ => ⟨h1, h.step h2⟩

set_option maxHeartbeats 8000000 in
theorem headSays_walk (s : List UInt8) (f : FP) (hs : s.length ≤ 140737488351232) (hf : f.1.length ≤ 140737488351232 ∧ f.2.length ≤ 140737488351232) (w : World) (hM : ML w) :
    Calls Tryd.prog 5 #[sv s, fv f] w fun e w' => e = .returned (.bool true) ∧ Below w.heap.size w w' := by
  obtain ⟨n, v⟩ := f
  dsimp only at hf ⊢
  obtain ⟨hn, hv⟩ := hf
  obtain ⟨W, hW⟩ : ∃ W, W = w.alloc (.cells #[sv n, sv v] 29) := ⟨_, rfl⟩
  have hbox : W.heap[w.heap.size]? = some (.cells #[sv n, sv v] 29 (0, 0)) := by rw [hW]; exact heap_alloc_new w _
  have HBW := Lib.hid (show BL w W by rw [hW]; exact (BL.start hM).alloc _)
  have d0 : W.cell? ⟨w.heap.size, 0, none⟩ = some (sv n) := by rw [cellAt hbox]; rfl
  have d1 : W.cell? ⟨w.heap.size, 1, none⟩ = some (sv v) := by rw [cellAt hbox]; rfl
  have HC := Lib.hid (show ∀ X, Below W.heap.size W X → X.cell? ⟨w.heap.size, 0, none⟩ = some (sv n) ∧ X.cell? ⟨w.heap.size, 1, none⟩ = some (sv v) from fun X hX =>
    ⟨(hX.cell (p := ⟨w.heap.size, 0, none⟩) (lt_of_blk hbox)).trans d0, (hX.cell (p := ⟨w.heap.size, 1, none⟩) (lt_of_blk hbox)).trans d1⟩)
  have HW := Lib.hid hW
  clear hbox hM hW
  have hadd : ¬ 9223372036854775807 < n.length + v.length := by omega
  by_cases h1 : 5000 < s.length
  · have i1 : (5000 : Int) < (s.length : Int) := by omega
    go_enter Tryd.func5, Tryd.ntmps5
    go_wp2_with fail
    rw [← HW.out]
    go_wp2_with fail
    refine (awake_any HBW.out).mono ?_
    rintro e w1 ⟨rfl, hb1⟩
    go_wp2_with fail
    go_ret
    exact ⟨rfl, hb1.1⟩
  · have i1 : ¬ (5000 : Int) < (s.length : Int) := by omega
    by_cases h2 : 5000 < n.length + v.length
    · have i2 : (5000 : Int) < (n.length : Int) + (v.length : Int) := by omega
      go_enter Tryd.func5, Tryd.ntmps5
      go_wp2_with fail
      rw [← HW.out]
      go_wp2_with fail
      refine (awake_any HBW.out).mono ?_
      rintro e w1 ⟨rfl, hb1⟩
      go_wp2_with fail
      go_ret
      exact ⟨rfl, hb1.1⟩
    · have i2 : ¬ (5000 : Int) < (n.length : Int) + (v.length : Int) := by omega
      obtain ⟨r, e0, hr⟩ : ∃ r e0, showL (n, v) = (r, e0) := ⟨_, _, rfl⟩
      have HS := Lib.hid (show_any (n, v) W (by show n.length ≤ 1000000; omega) (by show v.length ≤ 1000000; omega))
      rw [hr] at HS
      have HR := Lib.hid hr
      obtain ⟨pl, hpl⟩ : ∃ pl, plainL s = pl := ⟨_, rfl⟩
      obtain ⟨hp, hhp⟩ : ∃ hp, hopsL s = hp := ⟨_, rfl⟩
      have HPL := Lib.hid hpl
      have HHP := Lib.hid hhp
      clear hr hpl hhp
      go_enter Tryd.func5, Tryd.ntmps5
      go_wp2_with fail
      rw [← HW.out]
      go_wp2_with fail
      refine HS.out.mono ?_
      rintro e w1 ⟨rfl, hb1⟩
      obtain ⟨z0, z1⟩ := HC.out _ hb1
      have H1 := Lib.hid (HBW.out.step hb1)
      clear hb1
      dsimp only
      go_wp2_with fail
      refine (rshowB H1.out n v (by omega) (by omega) HR.out).mono ?_
      rintro e w2 ⟨rfl, h2⟩
      have H2 := Lib.hid h2
      clear h2
      go_wp2_with fail
      refine (plainB H2.out s (by omega) HPL.out).mono ?_
      rintro e w3 ⟨rfl, h3⟩
      have H3 := Lib.hid h3
      clear h3
      go_wp2_with fail
      refine (rplainB H3.out s (by omega) HPL.out).mono ?_
      rintro e w4 ⟨rfl, h4⟩
      have H4 := Lib.hid h4
      clear h4
      go_wp2_with fail
      refine (hopsB H4.out s (by omega) HHP.out).mono ?_
      rintro e w5 ⟨rfl, h5⟩
      have H5 := Lib.hid h5
      clear h5
      go_wp2_with fail
      refine (rhopsB H5.out s (by omega) HHP.out).mono ?_
      rintro e w6 ⟨rfl, h6⟩
      have H6 := Lib.hid h6
      clear h6
      go_wp2_with fail
      refine (awake_any H6.out).mono ?_
      rintro e w7 ⟨rfl, h7⟩
      go_wp2_with fail
      go_ret
      exact ⟨rfl, h7.1⟩
end Go.Proofs.YtkffdhdhjfbhjaaDoor
