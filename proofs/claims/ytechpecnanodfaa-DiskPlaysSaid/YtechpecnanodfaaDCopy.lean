/-
  Copy of the program's disk.
-/
import Derived.Test.YtechpecnanodfaaDSettle
namespace Go.Proofs.Ytechpecnanodfaa
open Go Go.RowKit Go.Maps
set_option maxRecDepth 100000
set_option linter.unusedSimpArgs false
set_option linter.unusedVariables false

theorem clone_any {w : World} {b : Nat} {F : Int → Option (List UInt8)} (h : MP w b F) :
    Calls Try.prog 38 #[.map (some b)] w fun e w' => e = .returned (.map (some w.heap.size)) ∧ MP w' w.heap.size F ∧ Below w.heap.size w w' := by
  obtain ⟨D, hD, hF, hK⟩ := h
  refine (AnyW.maps_Clone_owns Try.cloneA 3 secR b 1024 D w hD).mono fun e w' ⟨h1, h2, h3, h4⟩ => ?_
  exact ⟨h1, ⟨D, h2, hF, hK⟩, h4⟩

set_option maxHeartbeats 4000000 in
theorem copy_any {w : World} {p bl bd : Nat} {S : DS} (h : PD w p bl bd S) :
    Calls Try.prog 19 #[dp p] w fun e w' => ∃ q cl cd, e = .returned (dp q) ∧ PD w' q cl cd S ∧ Below w.heap.size w w' ∧ w.heap.size ≤ q ∧ w.heap.size ≤ cl ∧ w.heap.size ≤ cd := by
  obtain ⟨c0, c1, c2, c3, c4, c5⟩ := h.cells
  have HH := Lib.hid h
  clear h
  go_enter Try.func19, Try.ntmps19
  go_wp2_with fail
  have hbk := heap_alloc_new w (.cells (dCells S bl bd) 63)
  have hb1 : Below w.heap.size w (w.alloc (.cells (dCells S bl bd) 63)) := (Below.refl _ _).alloc (Nat.le_refl _) _
  have hg1 : w.heap.size < (w.alloc (.cells (dCells S bl bd) 63)).heap.size := by simp
  generalize hw1 : w.alloc (.cells (dCells S bl bd) 63) = w1 at hbk hb1 hg1
  have hw1' := hw1
  unfold dCells at hw1'
  rw [hw1']
  obtain ⟨g, hg⟩ : ∃ g, g = w.heap.size := ⟨_, rfl⟩
  rw [← hg] at hbk hg1 ⊢
  have HGN := Lib.hid (show w.heap.size ≤ g by omega)
  have HBK := Lib.hid hbk
  have HB1 := Lib.hid hb1
  have HG1 := Lib.hid hg1
  clear hw1' hw1 hbk hb1 hg1 hg c0 c1 c2 c3 c4 c5
  refine wp_region_held_drew (S := fun W => Below w.heap.size w W ∧ g < W.heap.size) (by kernel_rfl) ⟨HB1.out.drew, HG1.out⟩ (fun hHeld => ?_)
  have hR : ∀ W, Below w.heap.size w W → W.cell? ⟨p, 1, none⟩ = some (.map (some bl)) ∧ W.cell? ⟨p, 2, none⟩ = some (.map (some bd)) := fun W hW => by obtain ⟨d0, d1, d2, _⟩ := (HH.out.below hW).cells; exact ⟨d1, d2⟩
  refine wpAnyH_take (i := 0) (v := ?vv0_1) rfl (by kernel_rfl) (by kernel_rfl) (by kernel_rfl) (fun _ _ _ h => h) (Or.inl ⟨by rfl, ?hy0_1⟩) (by assumption) ?rest0_1
  case hy0_1 => (intro w' hSw; (try dsimp only at hSw); go_simp; try with_reducible rfl)
  try simp only [List.getElem_toArray, List.getElem_cons_zero, List.getElem_cons_succ, Act.put, List.setIfInBounds_toArray, List.set_cons_zero, List.set_cons_succ]
  refine wpAnyH_take (i := 1) (v := ?vv1_1) rfl (by kernel_rfl) (by kernel_rfl) (by kernel_rfl) (fun _ _ _ h => h) (Or.inl ⟨by rfl, ?hy1_1⟩) (by assumption) ?rest1_1
  case hy1_1 => (intro w' hSw; (try dsimp only at hSw); go_simp; try with_reducible rfl)
  try simp only [List.getElem_toArray, List.getElem_cons_zero, List.getElem_cons_succ, Act.put, List.setIfInBounds_toArray, List.set_cons_zero, List.set_cons_succ]
  refine wpAnyH_take (i := 2) (v := ?vv2_1) rfl (by kernel_rfl) (by kernel_rfl) (by kernel_rfl) (fun _ _ _ h => h) (Or.inl ⟨by rfl, ?hy2_1⟩) (by assumption) ?rest2_1
  case hy2_1 => (intro w' hSw; (try dsimp only at hSw); go_simp; try with_reducible rfl)
  try simp only [List.getElem_toArray, List.getElem_cons_zero, List.getElem_cons_succ, Act.put, List.setIfInBounds_toArray, List.set_cons_zero, List.set_cons_succ]
  refine wpAnyH_take (i := 3) (v := .map (some bl)) rfl (by kernel_rfl) (by kernel_rfl) (by kernel_rfl) (fun _ _ _ h => h) (Or.inl ⟨by rfl, fun w' hSw => exec_load_cell w' rfl rfl (hR w' hSw.1).1 Try.underlying61⟩) (by assumption) ?_
  try simp only [List.getElem_toArray, List.getElem_cons_zero, List.getElem_cons_succ, Act.put, List.setIfInBounds_toArray, List.set_cons_zero, List.set_cons_succ]
  refine wpAnyH_take (i := 5) (v := ?vv5_1) rfl (by kernel_rfl) (by kernel_rfl) (by kernel_rfl) (fun _ _ _ h => h) (Or.inl ⟨by rfl, ?hy5_1⟩) (by assumption) ?rest5_1
  case hy5_1 => (intro w' hSw; (try dsimp only at hSw); go_simp; try with_reducible rfl)
  try simp only [List.getElem_toArray, List.getElem_cons_zero, List.getElem_cons_succ, Act.put, List.setIfInBounds_toArray, List.set_cons_zero, List.set_cons_succ]
  refine wpAnyH_take (i := 6) (v := ?vv6_1) rfl (by kernel_rfl) (by kernel_rfl) (by kernel_rfl) (fun _ _ _ h => h) (Or.inl ⟨by rfl, ?hy6_1⟩) (by assumption) ?rest6_1
  case hy6_1 => (intro w' hSw; (try dsimp only at hSw); go_simp; try with_reducible rfl)
  try simp only [List.getElem_toArray, List.getElem_cons_zero, List.getElem_cons_succ, Act.put, List.setIfInBounds_toArray, List.set_cons_zero, List.set_cons_succ]
  refine wpAnyH_take (i := 7) (v := ?vv7_1) rfl (by kernel_rfl) (by kernel_rfl) (by kernel_rfl) (fun _ _ _ h => h) (Or.inl ⟨by rfl, ?hy7_1⟩) (by assumption) ?rest7_1
  case hy7_1 => (intro w' hSw; (try dsimp only at hSw); go_simp; try with_reducible rfl)
  try simp only [List.getElem_toArray, List.getElem_cons_zero, List.getElem_cons_succ, Act.put, List.setIfInBounds_toArray, List.set_cons_zero, List.set_cons_succ]
  refine wpAnyH_take (i := 8) (v := .map (some bd)) rfl (by kernel_rfl) (by kernel_rfl) (by kernel_rfl) (fun _ _ _ h => h) (Or.inl ⟨by rfl, fun w' hSw => exec_load_cell w' rfl rfl (hR w' hSw.1).2 Try.underlying61⟩) (by assumption) ?_
  try simp only [List.getElem_toArray, List.getElem_cons_zero, List.getElem_cons_succ, Act.put, List.setIfInBounds_toArray, List.set_cons_zero, List.set_cons_succ]
  refine wpAnyH_ready (rs := [4]) (by kernel_rfl) (by simp) ?_
  refine AllReadyH.cons rfl (fun K hK => ?_) AllReadyH.nil
  rw [if_pos (by rfl)]
  obtain ⟨F, hF, hlF⟩ := (HH.out.below hHeld.1).las
  go_simp
  refine (clone_any hF).mono ?_
  rintro e1 wA ⟨rfl, hFA, hbA⟩
  (try go_wp2_with fail)
  refine hK.out _ _ ⟨hHeld.1.trans (hbA.mono hHeld.1.size), Nat.lt_of_lt_of_le hHeld.2 hbA.size⟩ (fun hHeld => ?_)
  clear hK K
  try simp only [List.getElem_toArray, List.getElem_cons_zero, List.getElem_cons_succ, Act.put, List.setIfInBounds_toArray, List.set_cons_zero, List.set_cons_succ]
  have hA1 : w1.heap.size ≤ w1.drew.heap.size := Nat.le_refl _
  refine wpAnyH_ready (rs := [9]) (by kernel_rfl) (by simp) ?_
  refine AllReadyH.cons rfl (fun K hK => ?_) AllReadyH.nil
  rw [if_pos (by rfl)]
  go_simp
  refine (clone_any (HH.out.below hHeld.1).dir).mono ?_
  rintro e1 wB ⟨rfl, hFB, hbB⟩
  (try go_wp2_with fail)
  refine hK.out _ _ ⟨hHeld.1.trans (hbB.mono hHeld.1.size), Nat.lt_of_lt_of_le hHeld.2 hbB.size⟩ (fun hHeld => ?_)
  clear hK K
  try simp only [List.getElem_toArray, List.getElem_cons_zero, List.getElem_cons_succ, Act.put, List.setIfInBounds_toArray, List.set_cons_zero, List.set_cons_succ]
  have hgB : wB.heap[g]? = some (.cells (dCells S bl bd) 63 (0, 0)) := (hbB.block g (Nat.lt_of_lt_of_le HG1.out hbA.size)).trans ((hbA.block g HG1.out).trans HBK.out)
  have c1 := cellAt hgB 1
  have f1 := freeAt hgB 1
  have c2 := cellAt hgB 2
  have f2 := freeAt hgB 2
  refine wpAnyH_take (i := 10) (v := ?vv10_1) rfl (by kernel_rfl) (by kernel_rfl) (by kernel_rfl) (fun _ _ _ h => h) (Or.inl ⟨by rfl, ?hy10_1⟩) (by assumption) ?rest10_1
  case hy10_1 => (intro w' hSw; (try dsimp only at hSw); go_simp; try with_reducible rfl)
  try simp only [List.getElem_toArray, List.getElem_cons_zero, List.getElem_cons_succ, Act.put, List.setIfInBounds_toArray, List.set_cons_zero, List.set_cons_succ]
  refine wpAnyH_ready (rs := [11]) (by kernel_rfl) (by simp) ?_
  refine AllReadyH.cons rfl (fun K hK => ?_) AllReadyH.nil
  go_simp
  refine hK.out _ _ ⟨hHeld.1.setCell HGN.out _, by simpa [World.setCell] using hHeld.2⟩ (fun hHeld => ?_)
  clear hK K
  try simp only [List.getElem_toArray, List.getElem_cons_zero, List.getElem_cons_succ, Act.put, List.setIfInBounds_toArray, List.set_cons_zero, List.set_cons_succ]
  refine wpAnyH_take (i := 12) (v := ?vv12_1) rfl (by kernel_rfl) (by kernel_rfl) (by kernel_rfl) (fun _ _ _ h => h) (Or.inl ⟨by rfl, ?hy12_1⟩) (by assumption) ?rest12_1
  case hy12_1 => (intro w' hSw; (try dsimp only at hSw); go_simp; try with_reducible rfl)
  try simp only [List.getElem_toArray, List.getElem_cons_zero, List.getElem_cons_succ, Act.put, List.setIfInBounds_toArray, List.set_cons_zero, List.set_cons_succ]
  refine wpAnyH_ready (rs := [13]) (by kernel_rfl) (by simp) ?_
  refine AllReadyH.cons rfl (fun K hK => ?_) AllReadyH.nil
  go_simp
  refine hK.out _ _ ⟨hHeld.1.setCell HGN.out _, by simpa [World.setCell] using hHeld.2⟩ (fun hHeld => ?_)
  clear hK K
  try simp only [List.getElem_toArray, List.getElem_cons_zero, List.getElem_cons_succ, Act.put, List.setIfInBounds_toArray, List.set_cons_zero, List.set_cons_succ]
  refine wpAnyH_done (by kernel_rfl) ?_ _
  go_wp2_with fail
  go_ret
  have hgF := blk_set (blk_set hgB 1 (.map (some w1.heap.size))) 2 (.map (some wA.heap.size))
  have hne : w1.heap.size ≠ wA.heap.size := by have := hFA.lt; have h2 : w1.drew.heap.size = w1.heap.size := rfl; omega
  have hBl := hHeld.1
  have hk2 : Kp [g] wB ((wB.setCell ⟨g, 1, none⟩ (.map (some w1.heap.size))).setCell ⟨g, 2, none⟩ (.map (some wA.heap.size))) := ((Kp.refl _ _).setCell (by simp) _).setCell (by simp) _
  have hnl : w.heap.size ≤ w1.heap.size := HB1.out.size
  refine ⟨g, w1.heap.size, wA.heap.size, rfl, ⟨HH.out.ok, ?_, ⟨F, ?_, hlF⟩, ?_, hne⟩, hBl, HGN.out, hnl, Nat.le_trans hnl hbA.size⟩
  · rw [hgF]; simp [dCells]
  · exact (hFA.kp (Kp.of_below hbB []) (by simp)).kp hk2 (by simp; have := HG1.out; show w1.heap.size ≠ g; omega)
  · exact hFB.kp hk2 (by simp; have := HG1.out; have := hbA.size; have h2 : w1.drew.heap.size = w1.heap.size := rfl; omega)
end Go.Proofs.Ytechpecnanodfaa

