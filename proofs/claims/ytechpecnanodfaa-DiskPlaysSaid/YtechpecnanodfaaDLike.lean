/-
  The laws' like.
-/
import Derived.Test.YtechpecnanodfaaDRef7
namespace Go.Proofs.Ytechpecnanodfaa
open Go Go.RowKit Go.Maps
set_option maxRecDepth 100000
set_option linter.unusedSimpArgs false
set_option linter.unusedVariables false

set_option maxHeartbeats 4000000 in
theorem like_o {w0 w : World} {os : List Ob} (h : Obs w0 w os) {p bl bd q g1 g2 g3 : Nat} {S : DS} (i j : Nat) (hi : os[i]? = some (pdOb p bl bd S)) (hj : os[j]? = some (rdOb q g1 g2 g3 S)) (full : Bool) :
    Calls Try.prog 27 #[dp p, dp q, .bool full] w fun e w' => e = .returned (.bool true) ∧ Obs w0 w' os := by
  have H0 := Lib.hid h
  have HI := Lib.hid hi
  have HJ := Lib.hid hj
  obtain ⟨c1, c2, c3, left, fails, hq, h1, h2, h3, hr⟩ := (h.get hj : RD w q g1 g2 g3 S).box
  have HQ := Lib.hid hq
  have hok := (h.get hj : RD w q g1 g2 g3 S).ok
  have hn2 := hok.n2
  have hdl := dirtyL_le hok
  have hff : ((!S.off) == S.off) = false := by cases S.off <;> rfl
  have CDI := Lib.hid (dirty_any (h.get hi : PD w p bl bd S))
  generalize hn : S.was.length = n at HQ hn2
  have HN := Lib.hid hn
  have hmx : (dL S.wet).length ≤ 1024 := by rw [dL_length]; exact hdl
  generalize hm : (dL S.wet).length = m at hmx CDI
  have HM := Lib.hid hm
  clear h hi hj hq h1 h2 h3 hr hok hdl hn hm
  go_enter Try.func27, Try.ntmps27
  go_wp2_with (go_at_call 17; refine CDI.out.mono ?_; rintro e wa ⟨v, rfl, hrow, hb⟩; have HRW := Lib.hid hrow; obtain ⟨A, c, rfl, hI, hA⟩ := (row_form (by rw [HM.out]; exact hrow) : ∃ A c, v = .slice A (dL S.wet).length c ∧ IR wa A (dL S.wet) ∧ (∀ a, A = some a → w.heap.size ≤ a.block)); rw [HM.out] at HRW ⊢; have HIA := Lib.hid hI; have HBA := Lib.hid hb; have H1 := Lib.hid (H0.out.step hb); have HQ1 := Lib.hid ((hb.block q (lt_of_blk HQ.out)).trans HQ.out); clear hI hA hb hrow)
  refine wp_region_held_drew (S := fun W => W.heap[q]? = some (.cells (rCells n g1 c1 g2 c2 g3 c3 S.ops left fails S.off) 78 (0, 0))) (by kernel_rfl) HQ1.out (fun hHeld => ?_)
  refine wpAnyH_take (i := 0) (v := ?vv0_1) rfl (by kernel_rfl) (by kernel_rfl) (by kernel_rfl) (fun _ _ _ h => h) (Or.inl ⟨by rfl, ?hy0_1⟩) (by assumption) ?rest0_1
  case hy0_1 => (intro w' hSw; (try dsimp only at hSw); go_simp; try with_reducible rfl)
  try simp only [List.getElem_toArray, List.getElem_cons_zero, List.getElem_cons_succ, Act.put, List.setIfInBounds_toArray, List.set_cons_zero, List.set_cons_succ]
  refine wpAnyH_take (i := 2) (v := ?vv2_1) rfl (by kernel_rfl) (by kernel_rfl) (by kernel_rfl) (fun _ _ _ h => h) (Or.inl ⟨by rfl, ?hy2_1⟩) (by assumption) ?rest2_1
  case hy2_1 => (intro w' hSw; (try dsimp only at hSw); go_simp; try with_reducible rfl)
  try simp only [List.getElem_toArray, List.getElem_cons_zero, List.getElem_cons_succ, Act.put, List.setIfInBounds_toArray, List.set_cons_zero, List.set_cons_succ]
  refine wpAnyH_take (i := 3) (v := ?vv3_1) rfl (by kernel_rfl) (by kernel_rfl) (by kernel_rfl) (fun _ _ _ h => h) (Or.inl ⟨by rfl, ?hy3_1⟩) (by assumption) ?rest3_1
  case hy3_1 => (intro w' hSw; (try dsimp only at hSw); go_simp; try with_reducible rfl)
  try simp only [List.getElem_toArray, List.getElem_cons_zero, List.getElem_cons_succ, Act.put, List.setIfInBounds_toArray, List.set_cons_zero, List.set_cons_succ]
  refine wpAnyH_take (i := 4) (v := ?vv4_1) rfl (by kernel_rfl) (by kernel_rfl) (by kernel_rfl) (fun _ _ _ h => h) (Or.inl ⟨by rfl, ?hy4_1⟩) (by assumption) ?rest4_1
  case hy4_1 => (intro w' hSw; (try dsimp only at hSw); go_simp; try with_reducible rfl)
  try simp only [List.getElem_toArray, List.getElem_cons_zero, List.getElem_cons_succ, Act.put, List.setIfInBounds_toArray, List.set_cons_zero, List.set_cons_succ]
  refine wpAnyH_take (i := 5) (v := .bool S.off) rfl (by kernel_rfl) (by kernel_rfl) (by kernel_rfl) (fun _ _ _ h => h) (Or.inl ⟨by rfl, fun w' hSw => exec_load1 w' rfl rfl (cellAt hSw 6) Try.underlying4 rfl⟩) (by assumption) ?_
  try simp only [List.getElem_toArray, List.getElem_cons_zero, List.getElem_cons_succ, Act.put, List.setIfInBounds_toArray, List.set_cons_zero, List.set_cons_succ]
  refine wpAnyH_ready (rs := [1]) (by kernel_rfl) (by simp) ?_
  refine AllReadyH.cons rfl (fun K hK => ?_) AllReadyH.nil
  go_simp
  refine (on_any (H1.out.drew.get HI.out)).mono ?_
  rintro e w3 ⟨rfl, hb⟩
  (try go_wp2_with fail)
  refine hK.out _ _ ((hb.block q (lt_of_blk hHeld)).trans hHeld) (fun hHeld => ?_)
  clear hK K
  try simp only [List.getElem_toArray, List.getElem_cons_zero, List.getElem_cons_succ, Act.put, List.setIfInBounds_toArray, List.set_cons_zero, List.set_cons_succ]
  have HB3 := Lib.hid hb
  have H3 := Lib.hid (H1.out.drew.step hb)
  clear hb
  refine wpAnyH_take (i := 6) (v := ?vv6_1) rfl (by kernel_rfl) (by kernel_rfl) (by kernel_rfl) (fun _ _ _ h => h) (Or.inl ⟨by rfl, ?hy6_1⟩) (by assumption) ?rest6_1
  case hy6_1 => (intro w' hSw; (try dsimp only at hSw); go_simp; try with_reducible rfl)
  try simp only [List.getElem_toArray, List.getElem_cons_zero, List.getElem_cons_succ, Act.put, List.setIfInBounds_toArray, List.set_cons_zero, List.set_cons_succ]
  refine wpAnyH_take (i := 7) (v := ?vv7_1) rfl (by kernel_rfl) (by kernel_rfl) (by kernel_rfl) (fun _ _ _ h => h) (Or.inl ⟨by rfl, ?hy7_1⟩) (by assumption) ?rest7_1
  case hy7_1 => (intro w' hSw; (try dsimp only at hSw); go_simp; try with_reducible rfl)
  try simp only [List.getElem_toArray, List.getElem_cons_zero, List.getElem_cons_succ, Act.put, List.setIfInBounds_toArray, List.set_cons_zero, List.set_cons_succ]
  refine wpAnyH_take (i := 8) (v := ?vv8_1) rfl (by kernel_rfl) (by kernel_rfl) (by kernel_rfl) (fun _ _ _ h => h) (Or.inl ⟨by rfl, ?hy8_1⟩) (by assumption) ?rest8_1
  case hy8_1 => (intro w' hSw; (try dsimp only at hSw); go_simp; try with_reducible rfl)
  try simp only [List.getElem_toArray, List.getElem_cons_zero, List.getElem_cons_succ, Act.put, List.setIfInBounds_toArray, List.set_cons_zero, List.set_cons_succ]
  refine wpAnyH_take (i := 10) (v := ?vv10_1) rfl (by kernel_rfl) (by kernel_rfl) (by kernel_rfl) (fun _ _ _ h => h) (Or.inl ⟨by rfl, ?hy10_1⟩) (by assumption) ?rest10_1
  case hy10_1 => (intro w' hSw; (try dsimp only at hSw); go_simp; try with_reducible rfl)
  try simp only [List.getElem_toArray, List.getElem_cons_zero, List.getElem_cons_succ, Act.put, List.setIfInBounds_toArray, List.set_cons_zero, List.set_cons_succ]
  refine wpAnyH_take (i := 11) (v := ?vv11_1) rfl (by kernel_rfl) (by kernel_rfl) (by kernel_rfl) (fun _ _ _ h => h) (Or.inl ⟨by rfl, ?hy11_1⟩) (by assumption) ?rest11_1
  case hy11_1 => (intro w' hSw; (try dsimp only at hSw); go_simp; try with_reducible rfl)
  try simp only [List.getElem_toArray, List.getElem_cons_zero, List.getElem_cons_succ, Act.put, List.setIfInBounds_toArray, List.set_cons_zero, List.set_cons_succ]
  refine wpAnyH_take (i := 12) (v := ?vv12_1) rfl (by kernel_rfl) (by kernel_rfl) (by kernel_rfl) (fun _ _ _ h => h) (Or.inl ⟨by rfl, ?hy12_1⟩) (by assumption) ?rest12_1
  case hy12_1 => (intro w' hSw; (try dsimp only at hSw); go_simp; try with_reducible rfl)
  try simp only [List.getElem_toArray, List.getElem_cons_zero, List.getElem_cons_succ, Act.put, List.setIfInBounds_toArray, List.set_cons_zero, List.set_cons_succ]
  refine wpAnyH_take (i := 13) (v := .slice (some ⟨g2, 0, none⟩) n c2) rfl (by kernel_rfl) (by kernel_rfl) (by kernel_rfl) (fun _ _ _ h => h) (Or.inl ⟨by rfl, fun w' hSw => exec_load1 w' rfl rfl (cellAt hSw 1) Try.underlying51 rfl⟩) (by assumption) ?_
  try simp only [List.getElem_toArray, List.getElem_cons_zero, List.getElem_cons_succ, Act.put, List.setIfInBounds_toArray, List.set_cons_zero, List.set_cons_succ]
  refine wpAnyH_take (i := 14) (v := ?vv14_1) rfl (by kernel_rfl) (by kernel_rfl) (by kernel_rfl) (fun _ _ _ h => h) (Or.inl ⟨by rfl, ?hy14_1⟩) (by assumption) ?rest14_1
  case hy14_1 => (intro w' hSw; (try dsimp only at hSw); go_simp; try with_reducible rfl)
  try simp only [List.getElem_toArray, List.getElem_cons_zero, List.getElem_cons_succ, Act.put, List.setIfInBounds_toArray, List.set_cons_zero, List.set_cons_succ]
  refine wpAnyH_ready (rs := [9]) (by kernel_rfl) (by simp) ?_
  refine AllReadyH.cons rfl (fun K hK => ?_) AllReadyH.nil
  go_simp
  refine (sectors_any (H3.out.get HI.out)).mono ?_
  rintro e w4 ⟨he, hb⟩
  rw [HN.out] at he
  subst he
  (try go_wp2_with fail)
  refine hK.out _ _ ((hb.block q (lt_of_blk hHeld)).trans hHeld) (fun hHeld => ?_)
  clear hK K
  try simp only [List.getElem_toArray, List.getElem_cons_zero, List.getElem_cons_succ, Act.put, List.setIfInBounds_toArray, List.set_cons_zero, List.set_cons_succ]
  have HB4 := Lib.hid (HB3.out.trans (hb.mono HB3.out.size))
  have H4 := Lib.hid (H3.out.step hb)
  clear hb
  refine wpAnyH_take (i := 15) (v := ?vv15_1) rfl (by kernel_rfl) (by kernel_rfl) (by kernel_rfl) (fun _ _ _ h => h) (Or.inl ⟨by rfl, ?hy15_1⟩) (by assumption) ?rest15_1
  case hy15_1 => (intro w' hSw; (try dsimp only at hSw); go_simp; try with_reducible rfl)
  try simp only [List.getElem_toArray, List.getElem_cons_zero, List.getElem_cons_succ, Act.put, List.setIfInBounds_toArray, List.set_cons_zero, List.set_cons_succ]
  refine wpAnyH_take (i := 16) (v := ?vv16_1) rfl (by kernel_rfl) (by kernel_rfl) (by kernel_rfl) (fun _ _ _ h => h) (Or.inl ⟨by rfl, ?hy16_1⟩) (by assumption) ?rest16_1
  case hy16_1 => (intro w' hSw; (try dsimp only at hSw); go_simp; try with_reducible rfl)
  try simp only [List.getElem_toArray, List.getElem_cons_zero, List.getElem_cons_succ, Act.put, List.setIfInBounds_toArray, List.set_cons_zero, List.set_cons_succ]
  refine wpAnyH_take (i := 17) (v := ?vv17_1) rfl (by kernel_rfl) (by kernel_rfl) (by kernel_rfl) (fun _ _ _ h => h) (Or.inl ⟨by rfl, ?hy17_1⟩) (by assumption) ?rest17_1
  case hy17_1 => (intro w' hSw; (try dsimp only at hSw); go_simp; try with_reducible rfl)
  try simp only [List.getElem_toArray, List.getElem_cons_zero, List.getElem_cons_succ, Act.put, List.setIfInBounds_toArray, List.set_cons_zero, List.set_cons_succ]
  refine wpAnyH_take (i := 18) (v := ?vv18_1) rfl (by kernel_rfl) (by kernel_rfl) (by kernel_rfl) (fun _ _ _ h => h) (Or.inl ⟨by rfl, ?hy18_1⟩) (by assumption) ?rest18_1
  case hy18_1 => (intro w' hSw; (try dsimp only at hSw); go_simp; try with_reducible rfl)
  try simp only [List.getElem_toArray, List.getElem_cons_zero, List.getElem_cons_succ, Act.put, List.setIfInBounds_toArray, List.set_cons_zero, List.set_cons_succ]
  refine wpAnyH_take (i := 20) (v := ?vv20_1) rfl (by kernel_rfl) (by kernel_rfl) (by kernel_rfl) (fun _ _ _ h => h) (Or.inl ⟨by rfl, ?hy20_1⟩) (by assumption) ?rest20_1
  case hy20_1 => (intro w' hSw; (try dsimp only at hSw); go_simp; try with_reducible rfl)
  try simp only [List.getElem_toArray, List.getElem_cons_zero, List.getElem_cons_succ, Act.put, List.setIfInBounds_toArray, List.set_cons_zero, List.set_cons_succ]
  refine wpAnyH_take (i := 21) (v := ?vv21_1) rfl (by kernel_rfl) (by kernel_rfl) (by kernel_rfl) (fun _ _ _ h => h) (Or.inl ⟨by rfl, ?hy21_1⟩) (by assumption) ?rest21_1
  case hy21_1 => (intro w' hSw; (try dsimp only at hSw); go_simp; try with_reducible rfl)
  try simp only [List.getElem_toArray, List.getElem_cons_zero, List.getElem_cons_succ, Act.put, List.setIfInBounds_toArray, List.set_cons_zero, List.set_cons_succ]
  refine wpAnyH_take (i := 22) (v := ?vv22_1) rfl (by kernel_rfl) (by kernel_rfl) (by kernel_rfl) (fun _ _ _ h => h) (Or.inl ⟨by rfl, ?hy22_1⟩) (by assumption) ?rest22_1
  case hy22_1 => (intro w' hSw; (try dsimp only at hSw); go_simp; try with_reducible rfl)
  try simp only [List.getElem_toArray, List.getElem_cons_zero, List.getElem_cons_succ, Act.put, List.setIfInBounds_toArray, List.set_cons_zero, List.set_cons_succ]
  refine wpAnyH_take (i := 23) (v := .int .i64 (S.ops : Int)) rfl (by kernel_rfl) (by kernel_rfl) (by kernel_rfl) (fun _ _ _ h => h) (Or.inl ⟨by rfl, fun w' hSw => exec_load1 w' rfl rfl (cellAt hSw 3) Try.underlying3 rfl⟩) (by assumption) ?_
  try simp only [List.getElem_toArray, List.getElem_cons_zero, List.getElem_cons_succ, Act.put, List.setIfInBounds_toArray, List.set_cons_zero, List.set_cons_succ]
  refine wpAnyH_ready (rs := [19]) (by kernel_rfl) (by simp) ?_
  refine AllReadyH.cons rfl (fun K hK => ?_) AllReadyH.nil
  go_simp
  refine (ops_any (H4.out.get HI.out)).mono ?_
  rintro e w5 ⟨rfl, hb⟩
  (try go_wp2_with fail)
  refine hK.out _ _ ((hb.block q (lt_of_blk hHeld)).trans hHeld) (fun hHeld => ?_)
  clear hK K
  try simp only [List.getElem_toArray, List.getElem_cons_zero, List.getElem_cons_succ, Act.put, List.setIfInBounds_toArray, List.set_cons_zero, List.set_cons_succ]
  have HB5 := Lib.hid (HB4.out.trans (hb.mono HB4.out.size))
  have H5 := Lib.hid (H4.out.step hb)
  clear hb
  refine wpAnyH_take (i := 24) (v := ?vv24_1) rfl (by kernel_rfl) (by kernel_rfl) (by kernel_rfl) (fun _ _ _ h => h) (Or.inl ⟨by rfl, ?hy24_1⟩) (by assumption) ?rest24_1
  case hy24_1 => (intro w' hSw; (try dsimp only at hSw); go_simp; try with_reducible rfl)
  try simp only [List.getElem_toArray, List.getElem_cons_zero, List.getElem_cons_succ, Act.put, List.setIfInBounds_toArray, List.set_cons_zero, List.set_cons_succ]
  refine wpAnyH_take (i := 25) (v := ?vv25_1) rfl (by kernel_rfl) (by kernel_rfl) (by kernel_rfl) (fun _ _ _ h => h) (Or.inl ⟨by rfl, ?hy25_1⟩) (by assumption) ?rest25_1
  case hy25_1 => (intro w' hSw; (try dsimp only at hSw); go_simp; try with_reducible rfl)
  try simp only [List.getElem_toArray, List.getElem_cons_zero, List.getElem_cons_succ, Act.put, List.setIfInBounds_toArray, List.set_cons_zero, List.set_cons_succ]
  refine wpAnyH_take (i := 26) (v := ?vv26_1) rfl (by kernel_rfl) (by kernel_rfl) (by kernel_rfl) (fun _ _ _ h => h) (Or.inl ⟨by rfl, ?hy26_1⟩) (by assumption) ?rest26_1
  case hy26_1 => (intro w' hSw; (try dsimp only at hSw); go_simp; try with_reducible rfl)
  try simp only [List.getElem_toArray, List.getElem_cons_zero, List.getElem_cons_succ, Act.put, List.setIfInBounds_toArray, List.set_cons_zero, List.set_cons_succ]
  refine wpAnyH_take (i := 27) (v := ?vv27_1) rfl (by kernel_rfl) (by kernel_rfl) (by kernel_rfl) (fun _ _ _ h => h) (Or.inl ⟨by rfl, ?hy27_1⟩) (by assumption) ?rest27_1
  case hy27_1 => (intro w' hSw; (try dsimp only at hSw); go_simp; try with_reducible rfl)
  try simp only [List.getElem_toArray, List.getElem_cons_zero, List.getElem_cons_succ, Act.put, List.setIfInBounds_toArray, List.set_cons_zero, List.set_cons_succ]
  refine wpAnyH_take (i := 28) (v := ?vv28_1) rfl (by kernel_rfl) (by kernel_rfl) (by kernel_rfl) (fun _ _ _ h => h) (Or.inl ⟨by rfl, ?hy28_1⟩) (by assumption) ?rest28_1
  case hy28_1 => (intro w' hSw; (try dsimp only at hSw); go_simp; try with_reducible rfl)
  try simp only [List.getElem_toArray, List.getElem_cons_zero, List.getElem_cons_succ, Act.put, List.setIfInBounds_toArray, List.set_cons_zero, List.set_cons_succ]
  refine wpAnyH_ready (rs := [29]) (by kernel_rfl) (by simp) ?_
  refine AllReadyH.cons rfl (fun K hK => ?_) AllReadyH.nil
  go_simp
  refine (dirtyR_o H5.out j HJ.out).mono ?_
  rintro e w6 ⟨B, d, he, hIB, hBB, hb⟩
  rw [HM.out] at he
  subst he
  (try go_wp2_with fail)
  refine hK.out _ _ ((hb.block q (lt_of_blk hHeld)).trans hHeld) (fun hHeld => ?_)
  clear hK K
  try simp only [List.getElem_toArray, List.getElem_cons_zero, List.getElem_cons_succ, Act.put, List.setIfInBounds_toArray, List.set_cons_zero, List.set_cons_succ]
  have HB6 := Lib.hid (HB5.out.trans (hb.mono HB5.out.size))
  have H6 := Lib.hid (H5.out.step hb)
  have HIB := Lib.hid hIB
  have HIA6 := Lib.hid ((HIA.out.below ((Below.refl _ _).drew)).below HB6.out)
  clear hb hIB hBB
  have CIN := Lib.hid (ints_any (c := c) (d := d) HIA6.out HIB.out (by rw [HM.out]; omega) (by rw [HM.out]; omega))
  rw [HM.out] at CIN
  refine wpAnyH_ready (rs := [30]) (by kernel_rfl) (by simp) ?_
  refine AllReadyH.cons rfl (fun K hK => ?_) AllReadyH.nil
  go_simp
  refine CIN.out.mono ?_
  rintro e w7 ⟨he, hb⟩
  simp at he
  subst he
  (try go_wp2_with fail)
  refine hK.out _ _ ((hb.block q (lt_of_blk hHeld)).trans hHeld) (fun hHeld => ?_)
  clear hK K
  try simp only [List.getElem_toArray, List.getElem_cons_zero, List.getElem_cons_succ, Act.put, List.setIfInBounds_toArray, List.set_cons_zero, List.set_cons_succ]
  have H7 := Lib.hid (H6.out.step hb)
  have HB7 := Lib.hid hb
  clear hb
  refine wpAnyH_take (i := 31) (v := ?vv31_1) rfl (by kernel_rfl) (by kernel_rfl) (by kernel_rfl) (fun _ _ _ h => h) (Or.inl ⟨by rfl, ?hy31_1⟩) (by assumption) ?rest31_1
  case hy31_1 => (intro w' hSw; (try dsimp only at hSw); go_simp; try with_reducible rfl)
  try simp only [List.getElem_toArray, List.getElem_cons_zero, List.getElem_cons_succ, Act.put, List.setIfInBounds_toArray, List.set_cons_zero, List.set_cons_succ]
  refine wpAnyH_take (i := 32) (v := ?vv32_1) rfl (by kernel_rfl) (by kernel_rfl) (by kernel_rfl) (fun _ _ _ h => h) (Or.inl ⟨by rfl, ?hy32_1⟩) (by assumption) ?rest32_1
  case hy32_1 => (intro w' hSw; (try dsimp only at hSw); go_simp; try with_reducible rfl)
  try simp only [List.getElem_toArray, List.getElem_cons_zero, List.getElem_cons_succ, Act.put, List.setIfInBounds_toArray, List.set_cons_zero, List.set_cons_succ]
  refine wpAnyH_done (by kernel_rfl) ?_ _
  go_wp2_with fail
  have HRW7 := Lib.hid (ownsRow_kp HRW.out.drew (Kp.of_below (HB6.out.trans (HB7.out.mono HB6.out.size)) []) (by simp))
  go_loopw [8] (fun kx W => ∃ (k : Nat) (xs : List Value), kx = .int .i64 (k : Int) ∧ k ≤ m ∧ W.ownsRow w.heap.size 3 1 (.slice A m c) m xs ∧ Obs w0 W os) (fun kx _ => m - (RowKit.intOf kx).toNat)
  case atStart => exact ⟨0, _, rfl, by omega, HRW7.out, H7.out⟩
  case round =>
    obtain ⟨k, xs, rfl, hkm, hown, hO⟩ := hrel
    have HO := Lib.hid hO
    by_cases hk : k < m
    · have hki : (k : Int) < (m : Int) := by omega
      have hk0 : (0 : Int) ≤ (k : Int) := by omega
      have hkw : IntKind.i64.wrap ((k : Int) + 1) = (k : Int) + 1 := IntWalk.i64_in _ (by omega)
      rcases hown.2 with ⟨_, h0⟩ | ⟨g, cap, cur, e, hgB, hgg, hr1, hr2, hr3, hr4⟩
      · omega
      simp only [Value.slice.injEq, true_and] at e
      obtain ⟨rfl, rfl⟩ := e
      obtain ⟨hx, hxl, _⟩ := XR.of_owns hown
      obtain ⟨hc, hf⟩ := hx.cell (j := k) (by omega)
      obtain ⟨x, hxe⟩ : ∃ x, x = xs.getD k undef := ⟨_, rfl⟩
      rw [← hxe] at hc
      have HX := Lib.hid hx
      have HXL := Lib.hid hxl
      have HGB := Lib.hid hgB
      have HCM := Lib.hid hr2
      clear hown hO hx hxl hxe hgB hgg hr1 hr2 hr3 hr4
      go_wp2_with fail
      go_roundw
      case rel => exact ⟨k + 1, _, by go_num, by omega, (HX.out.set (j := k) (by rw [HXL.out]; exact hk) (.int .i64 (-7))).owns HGB.out (by rw [List.length_set]; exact HXL.out.symm) HCM.out, HO.out.out ((Kp.refl [g] _).setCell (by simp) _) (fun b hb => by
        simp at hb
        subst hb
        exact ⟨Nat.le_trans H0.out.size HGB.out, fun j o hj hbo => by have := ((H0.out.this j o hj).2.1 _ hbo).2; have := HGB.out; omega⟩)⟩
      case measure => simp [RowKit.intOf]; omega
    · have hki : ¬ (k : Int) < (m : Int) := by omega
      clear hown hO
      go_wp2_with fail
      go_loopw [9] (fun tx W => ∃ t : Int, tx = .int .i64 t ∧ -1 ≤ t ∧ t ≤ (n : Int) + 1 ∧ Obs w0 W os) (fun tx _ => ((n : Int) + 2 - RowKit.intOf tx).toNat)
      case atStart => exact ⟨-1, rfl, by omega, by omega, HO.out⟩
      case round =>
        obtain ⟨t, rfl, ht0, ht1, hO2⟩ := hrel
        have HO2 := Lib.hid hO2
        obtain ⟨C1, C2, C3, lf, fl, hq2, _⟩ := (hO2.get HJ.out : RD wr q g1 g2 g3 S).box
        rw [HN.out] at hq2
        have k1 : wr.cell? ⟨q, 1, none⟩ = some (.slice (some ⟨g2, 0, none⟩) n C2) := cellAt hq2 1
        have CR := Lib.hid (read_o hO2 i HI.out t)
        have CRR := Lib.hid (fun W (h : Obs w0 W os) => readR_o h j HJ.out t)
        clear hO2 hq2
        by_cases ht : t ≤ (n : Int)
        · cases full with
          | false =>
            clear CR CRR
            go_wp2_with fail
            go_ret
            exact ⟨rfl, HO2.out⟩
          | true =>
            have htw : IntKind.i64.wrap (t + 1) = t + 1 := IntWalk.i64_in _ (by omega)
            generalize S.rdV t = rv at CR CRR
            generalize S.rdE t = re at CR CRR
            go_wp2_with (first
              | (go_at_call 9; refine CR.out.mono ?_; rintro e z1 ⟨rfl, h1⟩; have HO3 := Lib.hid h1; clear h1)
              | (go_at_call 43; refine (CRR.out _ HO3.out).mono ?_; rintro e z2 ⟨rfl, h1⟩; have HO4 := Lib.hid h1; clear h1))
            go_roundw
            case rel => exact ⟨t + 1, by go_num, by omega, by omega, HO4.out⟩
            case measure => simp [RowKit.intOf]; omega
        · clear CR CRR
          go_wp2_with fail
          go_ret
          exact ⟨rfl, HO2.out⟩
end Go.Proofs.Ytechpecnanodfaa

