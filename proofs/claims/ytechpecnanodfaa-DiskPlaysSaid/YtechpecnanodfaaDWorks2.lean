/-
  The laws' works.
-/
import Derived.Test.YtechpecnanodfaaDWorks
namespace Go.Proofs.Ytechpecnanodfaa
open Go Go.RowKit Go.Maps
set_option maxRecDepth 100000
set_option linter.unusedSimpArgs false
set_option linter.unusedVariables false

theorem dirty_o {w0 w : World} {os : List Ob} (h : Obs w0 w os) {p bl bd : Nat} {S : DS} (i : Nat) (hi : os[i]? = some (pdOb p bl bd S)) :
    Calls Try.prog 17 #[dp p] w fun e w' => ∃ A c, e = .returned (.slice A (dL S.wet).length c) ∧ IR w' A (dL S.wet) ∧ (∀ a, A = some a → w.heap.size ≤ a.block) ∧ Below w.heap.size w w' :=
  (dirty_any (h.get hi)).mono fun e w' ⟨v, he, hr, hb⟩ => by
    obtain ⟨A, c, rfl, hI, hA⟩ := row_form hr
    exact ⟨A, c, he, hI, hA, hb⟩
theorem IR.lit (w : World) (L : List Int) : IR (w.alloc (.cells (L.map encZ).toArray 3)) (some ⟨w.heap.size, 0, none⟩) L := fun j hj =>
  ⟨w.heap.size, 0, rfl, by simp, by rw [cellAt (heap_alloc_new w _)]; simp [List.getElem?_map, List.getD_eq_getElem?_getD, List.getElem?_eq_getElem hj]⟩

def wD1 : DS := twoS.fail 1
def wD2 : DS := wD1.sync
def wC2 : DS := wD1.wr 0 (fullL 99)
def wC3 : DS := wC2.sync
def wC4 : DS := wC3.boot [5]
def wD4 : DS := wD2.boot []
theorem works_facts : twoS.ops = 4 ∧ dL twoS.wet = [0, 1] ∧ wD1.offE = 0 ∧ wD2.off = true ∧ wD2.wrE 0 (fullL 99) = 42 ∧ wD1.wrE 0 (fullL 99) = 0 ∧ wC2.off = true ∧ wC2.offE = 42 ∧ wC3.bootE = 0 ∧
    isD wC4 0 ((fullL 99).take 5 ++ (fullL 97).drop 5) = true ∧ isD wC4 1 (fullL 0) = true ∧ wD2.bootE = 0 ∧ isD wD4 0 (fullL 98) = true ∧ isD wD4 1 (fullL 98) = true ∧ wD2.wr 0 (fullL 99) = wD2 := by
  refine ⟨by decide +kernel, by decide +kernel, by decide +kernel, by decide +kernel, by decide +kernel, by decide +kernel, by decide +kernel, by decide +kernel, by decide +kernel, by decide +kernel, by decide +kernel, by decide +kernel, by decide +kernel, by decide +kernel, ?_⟩
  unfold DS.wr
  rw [if_neg (by decide +kernel)]
theorem works_ops : wD1.ops < 4611686018427387904 ∧ wD2.ops < 4611686018427387904 ∧ wC2.ops < 4611686018427387904 := by decide +kernel

set_option maxHeartbeats 4000000 in
theorem works_any {w : World} : Calls Try.prog 10 #[] w fun e w' => e = .returned (.bool true) ∧ Below w.heap.size w w' := by
  have H0 := Lib.hid (Obs.start w)
  have HF := Lib.hid works_facts
  have HO := Lib.hid works_ops
  have FU99 := Lib.hid (show ∀ W os', Obs w W os' → Calls Try.prog 12 #[.int .u8 99] W fun e w' => e = .returned (sv (fullL 99)) ∧ Obs w w' os' from fun W os' h => full_o h 99)
  have FU97 := Lib.hid (show ∀ W os', Obs w W os' → Calls Try.prog 12 #[.int .u8 97] W fun e w' => e = .returned (sv (fullL 97)) ∧ Obs w w' os' from fun W os' h => full_o h 97)
  have FU98 := Lib.hid (show ∀ W os', Obs w W os' → Calls Try.prog 12 #[.int .u8 98] W fun e w' => e = .returned (sv (fullL 98)) ∧ Obs w w' os' from fun W os' h => full_o h 98)
  have FU0 := Lib.hid (show ∀ W os', Obs w W os' → Calls Try.prog 12 #[.int .u8 0] W fun e w' => e = .returned (sv (fullL 0)) ∧ Obs w w' os' from fun W os' h => full_o h 0)
  have FL := Lib.hid (fun y => show (fullL y).length ≤ 140737488355328 by rw [fullL_length]; omega)
  go_enter Try.func10, Try.ntmps10
  go_wp2_with (first
    | (go_at_call 32; refine (two_any H0.out).mono ?_; rintro e w1 ⟨p, bl, bd, rfl, h1⟩; have H1 := Lib.hid (show Obs w w1 [pdOb p bl bd twoS] from h1); clear h1 H0)
    | (go_at_call 18; refine (ops_o H1.out 0 rfl).mono ?_; rintro e w2 ⟨rfl, h1⟩; have H2 := Lib.hid h1; clear h1 H1; simp only [HF.out.1])
    | (go_at_call 17; refine (dirty_o H2.out 0 rfl).mono ?_; rintro e w3 ⟨A, c, rfl, hI, hA, hb⟩; have H3 := Lib.hid (H2.out.step hb); have HI := Lib.hid hI; clear hI hA hb H2; simp only [HF.out.2.1])
    | (go_at_call 22; refine (ints_any (L := [0, 1]) (M := [0, 1]) ((HF.out.2.1 ▸ HI.out : IR w3 A [0, 1]).below ((Below.refl _ w3).alloc (Nat.le_refl _) _)) (IR.lit w3 [0, 1]) (by decide) (by decide)).mono ?_; rintro e w4 ⟨rfl, hb⟩; have H4 := Lib.hid ((H3.out.alloc _).step hb); clear hb H3 HI))
  go_wp2_with (go_at_call 19; refine (copy_o H4.out 0 rfl).mono ?_; rintro e w5 ⟨q, cl, cd, rfl, h1⟩; have H5 := Lib.hid (show Obs w w5 [pdOb p bl bd twoS, pdOb q cl cd twoS] from h1); clear h1 H4)
  go_wp2_with (go_at_call 8; refine (fail_o H5.out 0 rfl (a := 1) (by omega)).mono ?_; rintro e w6 ⟨rfl, h1⟩; have H6 := Lib.hid (show Obs w w6 [pdOb p bl bd wD1, pdOb q cl cd twoS] from h1); clear h1 H5)
  go_wp2_with (go_at_call 8; refine (fail_o H6.out 1 rfl (a := 1) (by omega)).mono ?_; rintro e w7 ⟨rfl, h1⟩; have H7 := Lib.hid (show Obs w w7 [pdOb p bl bd wD1, pdOb q cl cd wD1] from h1); clear h1 H6)
  go_wp2_with (first
    | (go_at_call 13; refine (sync_o H7.out 0 rfl HO.out.1).mono ?_; rintro e w8 ⟨rfl, h1⟩; have H8 := Lib.hid (show Obs w w8 [pdOb p bl bd wD2, pdOb q cl cd wD1] from h1); clear h1 H7; simp only [HF.out.2.2.1])
    | (go_at_call 15; refine (on_o H8.out 0 rfl).mono ?_; rintro e w9 ⟨rfl, h1⟩; have H9 := Lib.hid h1; clear h1 H8; simp only [HF.out.2.2.2.1])
    | (go_at_call 12; refine (FU99.out _ _ H9.out).mono ?_; rintro e w10 ⟨rfl, h1⟩; have H10 := Lib.hid h1; clear h1 H9)
    | (go_at_call 11; refine (write_o H10.out 0 rfl HO.out.2.1 0 (fullL 99) (FL.out _)).mono ?_; rintro e w11 ⟨rfl, h1⟩; have H11 := Lib.hid (show Obs w w11 [pdOb p bl bd wD2, pdOb q cl cd wD1] by (have h2 : Obs w w11 [pdOb p bl bd (wD2.wr 0 (fullL 99)), pdOb q cl cd wD1] := h1); rw [HF.out.2.2.2.2.2.2.2.2.2.2.2.2.2.2] at h2; exact h2); clear h1 H10; simp only [HF.out.2.2.2.2.1])
    | (go_at_call 12; refine (FU99.out _ _ H11.out).mono ?_; rintro e w12 ⟨rfl, h1⟩; have H12 := Lib.hid h1; clear h1 H11)
    | (go_at_call 11; refine (write_o H12.out 1 rfl HO.out.1 0 (fullL 99) (FL.out _)).mono ?_; rintro e w13 ⟨rfl, h1⟩; have H13 := Lib.hid (show Obs w w13 [pdOb p bl bd wD2, pdOb q cl cd wC2] from h1); clear h1 H12; simp only [HF.out.2.2.2.2.2.1])
    | (go_at_call 15; refine (on_o H13.out 1 rfl).mono ?_; rintro e w14 ⟨rfl, h1⟩; have H14 := Lib.hid h1; clear h1 H13; simp only [HF.out.2.2.2.2.2.2.1])
    | (go_at_call 13; refine (sync_o H14.out 1 rfl HO.out.2.2).mono ?_; rintro e w15 ⟨rfl, h1⟩; have K0 := Lib.hid (show Obs w w15 [pdOb p bl bd wD2, pdOb q cl cd wC3] from h1); clear h1 H14; simp only [HF.out.2.2.2.2.2.2.2.1]))
  have KN1 := Lib.hid (show w15.heap.size ∉ [q, cl, cd] from fun hm => by have := (K0.out.get (i := 1) rfl : PD w15 q cl cd wC3).lts _ hm; omega)
  have hl99 : (fullL 99).length = 128 := fullL_length 99
  have hl97 : (fullL 97).length = 128 := fullL_length 97
  have HSTR := Lib.hid (show (str (fullL 99)).extract 0 5 ++ (str (fullL 97)).extract 5 128 = str ((fullL 99).take 5 ++ (fullL 97).drop 5) by decide +kernel)
  refine wp_region_held_drew (S := fun _ => True) (by kernel_rfl) trivial (fun hHeld => ?_)
  refine wpAnyH_take (i := 0) (v := ?vv0_1) rfl (by kernel_rfl) (by kernel_rfl) (by kernel_rfl) (fun _ _ _ h => h) (Or.inl ⟨by rfl, ?hy0_1⟩) (by assumption) ?rest0_1
  case hy0_1 => (intro w' hSw; (try dsimp only at hSw); go_simp; try with_reducible rfl)
  try simp only [List.getElem_toArray, List.getElem_cons_zero, List.getElem_cons_succ, Act.put, List.setIfInBounds_toArray, List.set_cons_zero, List.set_cons_succ]
  refine wpAnyH_ready (rs := [1]) (by kernel_rfl) (by simp) ?_
  refine AllReadyH.cons rfl (fun K hK => ?_) AllReadyH.nil
  go_simp
  refine hK.out _ _ trivial (fun hHeld => ?_)
  clear hK K
  try simp only [List.getElem_toArray, List.getElem_cons_zero, List.getElem_cons_succ, Act.put, List.setIfInBounds_toArray, List.set_cons_zero, List.set_cons_succ]
  have K1 := Lib.hid ((K0.out.drew).alloc (.cells #[.int .i64 5] 3))
  have KI := Lib.hid (IR.lit w15.drew [5])
  refine wpAnyH_ready (rs := [2]) (by kernel_rfl) (by simp) ?_
  refine AllReadyH.cons rfl (fun K hK => ?_) AllReadyH.nil
  go_simp
  refine (boot_o (ck := 1) (L := [5]) K1.out 1 rfl KI.out (fun a ha _ => by cases ha; exact KN1.out) (by decide)).mono ?_
  rintro e wa ⟨rfl, h1⟩
  (try go_wp2_with fail)
  refine hK.out _ _ trivial (fun hHeld => ?_)
  clear hK K
  try simp only [List.getElem_toArray, List.getElem_cons_zero, List.getElem_cons_succ, Act.put, List.setIfInBounds_toArray, List.set_cons_zero, List.set_cons_succ]
  have K2 := Lib.hid h1
  clear h1 K1 KI
  simp only [HF.out.2.2.2.2.2.2.2.2.1]
  refine wpAnyH_take (i := 3) (v := ?vv3_1) rfl (by kernel_rfl) (by kernel_rfl) (by kernel_rfl) (fun _ _ _ h => h) (Or.inl ⟨by rfl, ?hy3_1⟩) (by assumption) ?rest3_1
  case hy3_1 => (intro w' hSw; (try dsimp only at hSw); go_simp; try with_reducible rfl)
  try simp only [List.getElem_toArray, List.getElem_cons_zero, List.getElem_cons_succ, Act.put, List.setIfInBounds_toArray, List.set_cons_zero, List.set_cons_succ]
  refine wpAnyH_take (i := 4) (v := ?vv4_1) rfl (by kernel_rfl) (by kernel_rfl) (by kernel_rfl) (fun _ _ _ h => h) (Or.inl ⟨by rfl, ?hy4_1⟩) (by assumption) ?rest4_1
  case hy4_1 => (intro w' hSw; (try dsimp only at hSw); go_simp; try with_reducible rfl)
  try simp only [List.getElem_toArray, List.getElem_cons_zero, List.getElem_cons_succ, Act.put, List.setIfInBounds_toArray, List.set_cons_zero, List.set_cons_succ]
  refine wpAnyH_take (i := 5) (v := ?vv5_1) rfl (by kernel_rfl) (by kernel_rfl) (by kernel_rfl) (fun _ _ _ h => h) (Or.inl ⟨by rfl, ?hy5_1⟩) (by assumption) ?rest5_1
  case hy5_1 => (intro w' hSw; (try dsimp only at hSw); go_simp; try with_reducible rfl)
  try simp only [List.getElem_toArray, List.getElem_cons_zero, List.getElem_cons_succ, Act.put, List.setIfInBounds_toArray, List.set_cons_zero, List.set_cons_succ]
  refine wpAnyH_ready (rs := [6]) (by kernel_rfl) (by simp) ?_
  refine AllReadyH.cons rfl (fun K hK => ?_) AllReadyH.nil
  go_simp
  refine (FU99.out _ _ K2.out).mono ?_
  rintro e wb ⟨rfl, h1⟩
  (try go_wp2_with fail)
  refine hK.out _ _ trivial (fun hHeld => ?_)
  clear hK K
  try simp only [List.getElem_toArray, List.getElem_cons_zero, List.getElem_cons_succ, Act.put, List.setIfInBounds_toArray, List.set_cons_zero, List.set_cons_succ]
  have K3 := Lib.hid h1
  clear h1 K2
  refine wpAnyH_take (i := 7) (v := ?vv7_1) rfl (by kernel_rfl) (by kernel_rfl) (by kernel_rfl) (fun _ _ _ h => h) (Or.inl ⟨by rfl, ?hy7_1⟩) (by assumption) ?rest7_1
  case hy7_1 => (intro w' hSw; (try dsimp only at hSw); go_simp; try with_reducible rfl)
  try simp only [List.getElem_toArray, List.getElem_cons_zero, List.getElem_cons_succ, Act.put, List.setIfInBounds_toArray, List.set_cons_zero, List.set_cons_succ]
  refine wpAnyH_ready (rs := [8]) (by kernel_rfl) (by simp) ?_
  refine AllReadyH.cons rfl (fun K hK => ?_) AllReadyH.nil
  go_simp
  refine (FU97.out _ _ K3.out).mono ?_
  rintro e wc ⟨rfl, h1⟩
  (try go_wp2_with fail)
  refine hK.out _ _ trivial (fun hHeld => ?_)
  clear hK K
  try simp only [List.getElem_toArray, List.getElem_cons_zero, List.getElem_cons_succ, Act.put, List.setIfInBounds_toArray, List.set_cons_zero, List.set_cons_succ]
  have K4 := Lib.hid h1
  clear h1 K3
  refine wpAnyH_take (i := 9) (v := ?vv9_1) rfl (by kernel_rfl) (by kernel_rfl) (by kernel_rfl) (fun _ _ _ h => h) (Or.inl ⟨by rfl, ?hy9_1⟩) (by assumption) ?rest9_1
  case hy9_1 => (intro w' hSw; (try dsimp only at hSw); go_simp; try with_reducible rfl)
  try simp only [List.getElem_toArray, List.getElem_cons_zero, List.getElem_cons_succ, Act.put, List.setIfInBounds_toArray, List.set_cons_zero, List.set_cons_succ]
  refine wpAnyH_take (i := 10) (v := ?vv10_1) rfl (by kernel_rfl) (by kernel_rfl) (by kernel_rfl) (fun _ _ _ h => h) (Or.inl ⟨by rfl, ?hy10_1⟩) (by assumption) ?rest10_1
  case hy10_1 => (intro w' hSw; (try dsimp only at hSw); go_simp; try with_reducible rfl)
  try simp only [List.getElem_toArray, List.getElem_cons_zero, List.getElem_cons_succ, Act.put, List.setIfInBounds_toArray, List.set_cons_zero, List.set_cons_succ]
  rw [HSTR.out]
  refine wpAnyH_ready (rs := [11]) (by kernel_rfl) (by simp) ?_
  refine AllReadyH.cons rfl (fun K hK => ?_) AllReadyH.nil
  go_simp
  refine (is_o K4.out 1 rfl 0 ((fullL 99).take 5 ++ (fullL 97).drop 5)).mono ?_
  rintro e wd ⟨rfl, h1⟩
  (try go_wp2_with fail)
  refine hK.out _ _ trivial (fun hHeld => ?_)
  clear hK K
  try simp only [List.getElem_toArray, List.getElem_cons_zero, List.getElem_cons_succ, Act.put, List.setIfInBounds_toArray, List.set_cons_zero, List.set_cons_succ]
  have K5 := Lib.hid h1
  clear h1 K4
  rw [show isD (wC3.boot [5]) 0 (List.take 5 (fullL 99) ++ List.drop 5 (fullL 97)) = true from HF.out.2.2.2.2.2.2.2.2.2.1]
  refine wpAnyH_take (i := 12) (v := ?vv12_1) rfl (by kernel_rfl) (by kernel_rfl) (by kernel_rfl) (fun _ _ _ h => h) (Or.inl ⟨by rfl, ?hy12_1⟩) (by assumption) ?rest12_1
  case hy12_1 => (intro w' hSw; (try dsimp only at hSw); go_simp; try with_reducible rfl)
  try simp only [List.getElem_toArray, List.getElem_cons_zero, List.getElem_cons_succ, Act.put, List.setIfInBounds_toArray, List.set_cons_zero, List.set_cons_succ]
  refine wpAnyH_take (i := 13) (v := ?vv13_1) rfl (by kernel_rfl) (by kernel_rfl) (by kernel_rfl) (fun _ _ _ h => h) (Or.inl ⟨by rfl, ?hy13_1⟩) (by assumption) ?rest13_1
  case hy13_1 => (intro w' hSw; (try dsimp only at hSw); go_simp; try with_reducible rfl)
  try simp only [List.getElem_toArray, List.getElem_cons_zero, List.getElem_cons_succ, Act.put, List.setIfInBounds_toArray, List.set_cons_zero, List.set_cons_succ]
  refine wpAnyH_take (i := 14) (v := ?vv14_1) rfl (by kernel_rfl) (by kernel_rfl) (by kernel_rfl) (fun _ _ _ h => h) (Or.inl ⟨by rfl, ?hy14_1⟩) (by assumption) ?rest14_1
  case hy14_1 => (intro w' hSw; (try dsimp only at hSw); go_simp; try with_reducible rfl)
  try simp only [List.getElem_toArray, List.getElem_cons_zero, List.getElem_cons_succ, Act.put, List.setIfInBounds_toArray, List.set_cons_zero, List.set_cons_succ]
  refine wpAnyH_ready (rs := [15]) (by kernel_rfl) (by simp) ?_
  refine AllReadyH.cons rfl (fun K hK => ?_) AllReadyH.nil
  go_simp
  refine (FU0.out _ _ K5.out).mono ?_
  rintro e we ⟨rfl, h1⟩
  (try go_wp2_with fail)
  refine hK.out _ _ trivial (fun hHeld => ?_)
  clear hK K
  try simp only [List.getElem_toArray, List.getElem_cons_zero, List.getElem_cons_succ, Act.put, List.setIfInBounds_toArray, List.set_cons_zero, List.set_cons_succ]
  have K6 := Lib.hid h1
  clear h1 K5
  refine wpAnyH_ready (rs := [16]) (by kernel_rfl) (by simp) ?_
  refine AllReadyH.cons rfl (fun K hK => ?_) AllReadyH.nil
  go_simp
  refine (is_o K6.out 1 rfl 1 (fullL 0)).mono ?_
  rintro e wf ⟨rfl, h1⟩
  (try go_wp2_with fail)
  refine hK.out _ _ trivial (fun hHeld => ?_)
  clear hK K
  try simp only [List.getElem_toArray, List.getElem_cons_zero, List.getElem_cons_succ, Act.put, List.setIfInBounds_toArray, List.set_cons_zero, List.set_cons_succ]
  have K7 := Lib.hid h1
  clear h1 K6
  rw [show isD (wC3.boot [5]) 1 (fullL 0) = true from HF.out.2.2.2.2.2.2.2.2.2.2.1]
  refine wpAnyH_take (i := 17) (v := ?vv17_1) rfl (by kernel_rfl) (by kernel_rfl) (by kernel_rfl) (fun _ _ _ h => h) (Or.inl ⟨by rfl, ?hy17_1⟩) (by assumption) ?rest17_1
  case hy17_1 => (intro w' hSw; (try dsimp only at hSw); go_simp; try with_reducible rfl)
  try simp only [List.getElem_toArray, List.getElem_cons_zero, List.getElem_cons_succ, Act.put, List.setIfInBounds_toArray, List.set_cons_zero, List.set_cons_succ]
  refine wpAnyH_take (i := 18) (v := ?vv18_1) rfl (by kernel_rfl) (by kernel_rfl) (by kernel_rfl) (fun _ _ _ h => h) (Or.inl ⟨by rfl, ?hy18_1⟩) (by assumption) ?rest18_1
  case hy18_1 => (intro w' hSw; (try dsimp only at hSw); go_simp; try with_reducible rfl)
  try simp only [List.getElem_toArray, List.getElem_cons_zero, List.getElem_cons_succ, Act.put, List.setIfInBounds_toArray, List.set_cons_zero, List.set_cons_succ]
  refine wpAnyH_take (i := 19) (v := ?vv19_1) rfl (by kernel_rfl) (by kernel_rfl) (by kernel_rfl) (fun _ _ _ h => h) (Or.inl ⟨by rfl, ?hy19_1⟩) (by assumption) ?rest19_1
  case hy19_1 => (intro w' hSw; (try dsimp only at hSw); go_simp; try with_reducible rfl)
  try simp only [List.getElem_toArray, List.getElem_cons_zero, List.getElem_cons_succ, Act.put, List.setIfInBounds_toArray, List.set_cons_zero, List.set_cons_succ]
  refine wpAnyH_ready (rs := [20]) (by kernel_rfl) (by simp) ?_
  refine AllReadyH.cons rfl (fun K hK => ?_) AllReadyH.nil
  go_simp
  refine (boot_o (ck := 0) (L := []) K7.out 0 rfl (fun j hj => by cases hj) (by simp) (by decide)).mono ?_
  rintro e wg ⟨rfl, h1⟩
  (try go_wp2_with fail)
  refine hK.out _ _ trivial (fun hHeld => ?_)
  clear hK K
  try simp only [List.getElem_toArray, List.getElem_cons_zero, List.getElem_cons_succ, Act.put, List.setIfInBounds_toArray, List.set_cons_zero, List.set_cons_succ]
  have K8 := Lib.hid h1
  clear h1 K7
  rw [show wD2.bootE = 0 from HF.out.2.2.2.2.2.2.2.2.2.2.2.1]
  refine wpAnyH_take (i := 21) (v := ?vv21_1) rfl (by kernel_rfl) (by kernel_rfl) (by kernel_rfl) (fun _ _ _ h => h) (Or.inl ⟨by rfl, ?hy21_1⟩) (by assumption) ?rest21_1
  case hy21_1 => (intro w' hSw; (try dsimp only at hSw); go_simp; try with_reducible rfl)
  try simp only [List.getElem_toArray, List.getElem_cons_zero, List.getElem_cons_succ, Act.put, List.setIfInBounds_toArray, List.set_cons_zero, List.set_cons_succ]
  refine wpAnyH_take (i := 22) (v := ?vv22_1) rfl (by kernel_rfl) (by kernel_rfl) (by kernel_rfl) (fun _ _ _ h => h) (Or.inl ⟨by rfl, ?hy22_1⟩) (by assumption) ?rest22_1
  case hy22_1 => (intro w' hSw; (try dsimp only at hSw); go_simp; try with_reducible rfl)
  try simp only [List.getElem_toArray, List.getElem_cons_zero, List.getElem_cons_succ, Act.put, List.setIfInBounds_toArray, List.set_cons_zero, List.set_cons_succ]
  refine wpAnyH_take (i := 23) (v := ?vv23_1) rfl (by kernel_rfl) (by kernel_rfl) (by kernel_rfl) (fun _ _ _ h => h) (Or.inl ⟨by rfl, ?hy23_1⟩) (by assumption) ?rest23_1
  case hy23_1 => (intro w' hSw; (try dsimp only at hSw); go_simp; try with_reducible rfl)
  try simp only [List.getElem_toArray, List.getElem_cons_zero, List.getElem_cons_succ, Act.put, List.setIfInBounds_toArray, List.set_cons_zero, List.set_cons_succ]
  refine wpAnyH_take (i := 24) (v := ?vv24_1) rfl (by kernel_rfl) (by kernel_rfl) (by kernel_rfl) (fun _ _ _ h => h) (Or.inl ⟨by rfl, ?hy24_1⟩) (by assumption) ?rest24_1
  case hy24_1 => (intro w' hSw; (try dsimp only at hSw); go_simp; try with_reducible rfl)
  try simp only [List.getElem_toArray, List.getElem_cons_zero, List.getElem_cons_succ, Act.put, List.setIfInBounds_toArray, List.set_cons_zero, List.set_cons_succ]
  refine wpAnyH_ready (rs := [25]) (by kernel_rfl) (by simp) ?_
  refine AllReadyH.cons rfl (fun K hK => ?_) AllReadyH.nil
  go_simp
  refine (FU98.out _ _ K8.out).mono ?_
  rintro e wh ⟨rfl, h1⟩
  (try go_wp2_with fail)
  refine hK.out _ _ trivial (fun hHeld => ?_)
  clear hK K
  try simp only [List.getElem_toArray, List.getElem_cons_zero, List.getElem_cons_succ, Act.put, List.setIfInBounds_toArray, List.set_cons_zero, List.set_cons_succ]
  have K9 := Lib.hid h1
  clear h1 K8
  refine wpAnyH_ready (rs := [26]) (by kernel_rfl) (by simp) ?_
  refine AllReadyH.cons rfl (fun K hK => ?_) AllReadyH.nil
  go_simp
  refine (is_o K9.out 0 rfl 0 (fullL 98)).mono ?_
  rintro e wi ⟨rfl, h1⟩
  (try go_wp2_with fail)
  refine hK.out _ _ trivial (fun hHeld => ?_)
  clear hK K
  try simp only [List.getElem_toArray, List.getElem_cons_zero, List.getElem_cons_succ, Act.put, List.setIfInBounds_toArray, List.set_cons_zero, List.set_cons_succ]
  have K10 := Lib.hid h1
  clear h1 K9
  rw [show isD (wD2.boot []) 0 (fullL 98) = true from HF.out.2.2.2.2.2.2.2.2.2.2.2.2.1]
  refine wpAnyH_take (i := 27) (v := ?vv27_1) rfl (by kernel_rfl) (by kernel_rfl) (by kernel_rfl) (fun _ _ _ h => h) (Or.inl ⟨by rfl, ?hy27_1⟩) (by assumption) ?rest27_1
  case hy27_1 => (intro w' hSw; (try dsimp only at hSw); go_simp; try with_reducible rfl)
  try simp only [List.getElem_toArray, List.getElem_cons_zero, List.getElem_cons_succ, Act.put, List.setIfInBounds_toArray, List.set_cons_zero, List.set_cons_succ]
  refine wpAnyH_take (i := 28) (v := ?vv28_1) rfl (by kernel_rfl) (by kernel_rfl) (by kernel_rfl) (fun _ _ _ h => h) (Or.inl ⟨by rfl, ?hy28_1⟩) (by assumption) ?rest28_1
  case hy28_1 => (intro w' hSw; (try dsimp only at hSw); go_simp; try with_reducible rfl)
  try simp only [List.getElem_toArray, List.getElem_cons_zero, List.getElem_cons_succ, Act.put, List.setIfInBounds_toArray, List.set_cons_zero, List.set_cons_succ]
  refine wpAnyH_take (i := 29) (v := ?vv29_1) rfl (by kernel_rfl) (by kernel_rfl) (by kernel_rfl) (fun _ _ _ h => h) (Or.inl ⟨by rfl, ?hy29_1⟩) (by assumption) ?rest29_1
  case hy29_1 => (intro w' hSw; (try dsimp only at hSw); go_simp; try with_reducible rfl)
  try simp only [List.getElem_toArray, List.getElem_cons_zero, List.getElem_cons_succ, Act.put, List.setIfInBounds_toArray, List.set_cons_zero, List.set_cons_succ]
  refine wpAnyH_ready (rs := [30]) (by kernel_rfl) (by simp) ?_
  refine AllReadyH.cons rfl (fun K hK => ?_) AllReadyH.nil
  go_simp
  refine (FU98.out _ _ K10.out).mono ?_
  rintro e wj ⟨rfl, h1⟩
  (try go_wp2_with fail)
  refine hK.out _ _ trivial (fun hHeld => ?_)
  clear hK K
  try simp only [List.getElem_toArray, List.getElem_cons_zero, List.getElem_cons_succ, Act.put, List.setIfInBounds_toArray, List.set_cons_zero, List.set_cons_succ]
  have K11 := Lib.hid h1
  clear h1 K10
  refine wpAnyH_ready (rs := [31]) (by kernel_rfl) (by simp) ?_
  refine AllReadyH.cons rfl (fun K hK => ?_) AllReadyH.nil
  go_simp
  refine (is_o K11.out 0 rfl 1 (fullL 98)).mono ?_
  rintro e wk ⟨rfl, h1⟩
  (try go_wp2_with fail)
  refine hK.out _ _ trivial (fun hHeld => ?_)
  clear hK K
  try simp only [List.getElem_toArray, List.getElem_cons_zero, List.getElem_cons_succ, Act.put, List.setIfInBounds_toArray, List.set_cons_zero, List.set_cons_succ]
  have K12 := Lib.hid h1
  clear h1 K11
  rw [show isD (wD2.boot []) 1 (fullL 98) = true from HF.out.2.2.2.2.2.2.2.2.2.2.2.2.2.1]
  refine wpAnyH_take (i := 32) (v := ?vv32_1) rfl (by kernel_rfl) (by kernel_rfl) (by kernel_rfl) (fun _ _ _ h => h) (Or.inl ⟨by rfl, ?hy32_1⟩) (by assumption) ?rest32_1
  case hy32_1 => (intro w' hSw; (try dsimp only at hSw); go_simp; try with_reducible rfl)
  try simp only [List.getElem_toArray, List.getElem_cons_zero, List.getElem_cons_succ, Act.put, List.setIfInBounds_toArray, List.set_cons_zero, List.set_cons_succ]
  refine wpAnyH_take (i := 33) (v := ?vv33_1) rfl (by kernel_rfl) (by kernel_rfl) (by kernel_rfl) (fun _ _ _ h => h) (Or.inl ⟨by rfl, ?hy33_1⟩) (by assumption) ?rest33_1
  case hy33_1 => (intro w' hSw; (try dsimp only at hSw); go_simp; try with_reducible rfl)
  try simp only [List.getElem_toArray, List.getElem_cons_zero, List.getElem_cons_succ, Act.put, List.setIfInBounds_toArray, List.set_cons_zero, List.set_cons_succ]
  refine wpAnyH_done (by kernel_rfl) ?_ _
  go_wp2_with fail
  go_ret
  exact ⟨rfl, K12.out.bel⟩
end Go.Proofs.Ytechpecnanodfaa

