/-
  Package frame's Get, Age.
  Package frame's Get.
-/
import Derived.Deep.RegionHeld3
import Derived.Laws.IdiomArrays
import Derived.Test.YthfnncahmccgkaaGreatDoorFEnM
import Derived.Test.YthfnncahmccgkaaGreatDoorShelf
namespace Go.Proofs.YthfnncahmccgkaaGreatDoor
set_option linter.unusedSimpArgs false
set_option linter.unusedVariables false
open Go Go.RowKit
set_option maxRecDepth 100000

section
variable {P : Program} (w : World) {o : Oper} {a : Act}
theorem exec_load_rowF {t : TypeId} {x : Operand} (ho : o.op = .load t x) {b : Nat} (hd : a.eval x = .pointer (some ⟨b, 0, none⟩)) {cs : Array Value} {ty : TypeId} {fr : Nat × Nat} (hc : w.heap[b]? = some (.cells cs ty fr)) {d : TypeDesc} (hu : P.underlying t = some d) (hn : (match d with | .struct _ | .array _ _ => true | _ => false) = true)
    (hi : (P.info? t).map (·.size) = some cs.size) : (execOp a.eval o).run P w = .ok (.value (.agg cs)) w := by
  unfold execOp
  simp [ho, hd, Instr.loadAt, Instr.sureAddr, run_loadVar_row w b ty t cs fr d hc hu hn hi]
end
theorem eight {l : List UInt8} (h : l.length = 8) : ∃ a b c d e f g i, l = [a, b, c, d, e, f, g, i] := by
  match l, h with
  | [a, b, c, d, e, f, g, i], _ => exact ⟨a, b, c, d, e, f, g, i, rfl⟩
set_option maxHeartbeats 1000000 in
theorem clone_anyF {w : World} (s : List UInt8) (h : s.length ≤ 1000000) : Calls Tryz.prog 82 #[sv s] w fun e w' => e = .returned (sv s) ∧ Below w.heap.size w w' := by
  go_enter Tryz.func82, Tryz.ntmps82
  go_wp2_with (go_at_call 100; refine (Tryz.stringslite_Clone (str s) _ (by show s.toArray.size ≤ _; simp; omega)).mono ?_; rintro e w1 ⟨rfl, hb⟩)
  go_ret
  exact ⟨rfl, hb⟩

/-- Two stamps lie at k, k + 1. -/
def P2 (w : World) (k : Nat) (A B : List UInt8) (W : World) : Prop := AB W k 115 A ∧ AB W (k + 1) 115 B ∧ Below w.heap.size w W
theorem P2.drew {w W : World} {k : Nat} {A B : List UInt8} (h : P2 w k A B W) : P2 w k A B W.drew := ⟨h.1, h.2.1, h.2.2.drew⟩
theorem P2.step {w W W' : World} {k : Nat} {A B : List UInt8} (h : P2 w k A B W) (hb : Below W.heap.size W W') : P2 w k A B W' := ⟨h.1.below hb h.1.lt, h.2.1.below hb h.2.1.lt, h.2.2.trans (hb.mono h.2.2.size)⟩

/-- The two stamps that ends gave are stored. -/
def W2 (w1 : World) (A B : List UInt8) : World := (((w1.alloc (.cells (cellsOfF z8).toArray 115)).alloc (.cells (cellsOfF z8).toArray 115)).setRow w1.heap.size (cellsOfF A).toArray).setRow (w1.heap.size + 1) (cellsOfF B).toArray
theorem W2.facts (w1 : World) {A B : List UInt8} (lA : A.length = 8) (lB : B.length = 8) :
    (Instr.storeAt 115 (.pointer (some ⟨w1.heap.size, 0, none⟩)) (arv A)).run Tryz.prog ((w1.alloc (.cells (cellsOfF z8).toArray 115)).alloc (.cells (cellsOfF z8).toArray 115)) = .ok () (((w1.alloc (.cells (cellsOfF z8).toArray 115)).alloc (.cells (cellsOfF z8).toArray 115)).setRow w1.heap.size (cellsOfF A).toArray) ∧
    (Instr.storeAt 115 (.pointer (some ⟨w1.heap.size + 1, 0, none⟩)) (arv B)).run Tryz.prog (((w1.alloc (.cells (cellsOfF z8).toArray 115)).alloc (.cells (cellsOfF z8).toArray 115)).setRow w1.heap.size (cellsOfF A).toArray) = .ok () (W2 w1 A B) ∧
    P2 w1 w1.heap.size A B (W2 w1 A B) := by
  obtain ⟨e1, e2, h3⟩ := two_zero w1
  have f1 := e1.setRow A
  have f2 := e2.setOther (show w1.heap.size + 1 ≠ w1.heap.size by omega) (cellsOfF A).toArray
  have k3 : Kp [w1.heap.size, w1.heap.size + 1] w1 (W2 w1 A B) := ((Kp.of_below h3 _).setRow (.inl (by simp)) _).setRow (.inl (by simp)) _
  exact ⟨e1.storeAt z8_length lA, f2.storeAt z8_length lB, f1.setOther (by omega) _, f2.setRow B, k3.to_below (fun j hj => by simp at hj; omega) (Nat.le_refl _)⟩

/-- The cells of eight bytes. -/
def C8 (W : World) (k : Nat) (l : List UInt8) : Prop := ∀ j, j < 8 → W.cell? ⟨k, j, none⟩ = some (bv (l.getD j 0))
theorem P2.c8 {w W : World} {k : Nat} {A B : List UInt8} (h : P2 w k A B W) (lA : A.length = 8) : C8 W k A := fun j hj => h.1.cell (by omega)
theorem P2.c8' {w W : World} {k : Nat} {A B : List UInt8} (h : P2 w k A B W) (lB : B.length = 8) : C8 W (k + 1) B := fun j hj => h.2.1.cell (by omega)

set_option maxHeartbeats 4000000 in
theorem age_top {w : World} (x : List UInt8) (hx : x.length ≤ 9223372036854775807) : Calls Tryz.prog 41 #[sv x] w fun e w' => e = .returned (.int .i64 (oldL x)) ∧ Below w.heap.size w w' := by
  have hz := hz8
  have lA := fstL_length x
  have lB := lstL_length x
  have EN := fun W => @ends_any W x hx
  have HO := Lib.hid (show oldL x = max (ageN (fstL x)) (ageN (lstL x)) from rfl)
  generalize hA : fstL x = A at lA EN HO
  generalize hB : lstL x = B at lB EN HO
  clear hA hB
  have hcl : (cellsOfF A).length = 8 := by rw [cellsOf_lengthF, lA]
  have hcm : (cellsOfF B).length = 8 := by rw [cellsOf_lengthF, lB]
  go_enter Tryz.func41, Tryz.ntmps41
  go_upto_region 2 with (first
    | (go_at_call 65; refine (EN _).mono ?_; rintro e w1 ⟨rfl, hb1⟩; have st1 := Lib.hid (W2.facts w1 lA lB))
    | (refine wpList_store_run _ rfl _ _ _ rfl _ _ rfl rfl st1.out.1 ?_)
    | (refine wpList_store_run _ rfl _ _ _ rfl _ _ rfl rfl st1.out.2.1 ?_))
  have HP := Lib.hid st1.out.2.2
  have HB1 := Lib.hid hb1
  clear st1 hb1 EN hz
  generalize W2 w1 A B = w3 at HP ⊢
  obtain ⟨k, hk⟩ : ∃ k, k = w1.heap.size := ⟨_, rfl⟩
  rw [← hk] at HP ⊢
  clear hk
  refine wp_region_held_drew (S := P2 w1 k A B) (by kernel_rfl) HP.out.drew (fun hHeld => ?_)
  refine wpAnyH_take (i := 0) (v := arv A) rfl (by kernel_rfl) (by kernel_rfl) (by kernel_rfl) (fun _ _ _ h => h) (Or.inl ⟨by rfl, fun w' hSw => exec_load_rowF w' rfl rfl hSw.1 Tryz.underlying115 rfl (by rw [s8]; simp [cellsOf_lengthF, lA])⟩) (by assumption) ?_
  try simp only [List.getElem_toArray, List.getElem_cons_zero, List.getElem_cons_succ, Act.put, List.setIfInBounds_toArray, List.set_cons_zero, List.set_cons_succ]
  refine wpAnyH_take (i := 2) (v := arv B) rfl (by kernel_rfl) (by kernel_rfl) (by kernel_rfl) (fun _ _ _ h => h) (Or.inl ⟨by rfl, fun w' hSw => exec_load_rowF w' rfl rfl hSw.2.1 Tryz.underlying115 rfl (by rw [s8]; simp [cellsOf_lengthF, lB])⟩) (by assumption) ?_
  try simp only [List.getElem_toArray, List.getElem_cons_zero, List.getElem_cons_succ, Act.put, List.setIfInBounds_toArray, List.set_cons_zero, List.set_cons_succ]
  refine wpAnyH_ready (rs := [1]) (by kernel_rfl) (by simp) ?_
  refine AllReadyH.cons rfl (fun K hK => ?_) AllReadyH.nil
  go_simp
  go_at_call 66
  refine (age_any lA).mono ?_
  rintro e1 w8 ⟨rfl, hR⟩
  refine hK.out _ _ (hHeld.step hR) (fun hHeld => ?_)
  clear hK K
  try simp only [List.getElem_toArray, List.getElem_cons_zero, List.getElem_cons_succ, Act.put, List.setIfInBounds_toArray, List.set_cons_zero, List.set_cons_succ]
  refine wpAnyH_ready (rs := [3]) (by kernel_rfl) (by simp) ?_
  refine AllReadyH.cons rfl (fun K hK => ?_) AllReadyH.nil
  go_simp
  go_at_call 66
  refine (age_any lB).mono ?_
  rintro e1 w8 ⟨rfl, hR⟩
  refine hK.out _ _ (hHeld.step hR) (fun hHeld => ?_)
  clear hK K
  try simp only [List.getElem_toArray, List.getElem_cons_zero, List.getElem_cons_succ, Act.put, List.setIfInBounds_toArray, List.set_cons_zero, List.set_cons_succ]
  refine wpAnyH_take (i := 4) (v := ?vv4_1) rfl (by kernel_rfl) (by kernel_rfl) (by kernel_rfl) (fun _ _ _ h => h) (Or.inl ⟨by rfl, ?hy4_1⟩) (by assumption) ?rest4_1
  case hy4_1 => (intro w' hSw; (try dsimp only at hSw); go_simp; try with_reducible rfl)
  try simp only [List.getElem_toArray, List.getElem_cons_zero, List.getElem_cons_succ, Act.put, List.setIfInBounds_toArray, List.set_cons_zero, List.set_cons_succ]
  refine wpAnyH_take (i := 5) (v := ?vv5_1) rfl (by kernel_rfl) (by kernel_rfl) (by kernel_rfl) (fun _ _ _ h => h) (Or.inl ⟨by rfl, ?hy5_1⟩) (by assumption) ?rest5_1
  case hy5_1 => (intro w' hSw; (try dsimp only at hSw); go_simp; try with_reducible rfl)
  try simp only [List.getElem_toArray, List.getElem_cons_zero, List.getElem_cons_succ, Act.put, List.setIfInBounds_toArray, List.set_cons_zero, List.set_cons_succ]
  refine wpAnyH_done (by kernel_rfl) ?_ _
  go_wp2_with fail
  go_ret
  refine ⟨?_, HB1.out.trans (hHeld.2.2.mono HB1.out.size)⟩
  rw [HO.out]
  show Ending.returned (Value.int .i64 (max (ageN A : Int) (ageN B))) = _
  congr 2
  omega

end Go.Proofs.YthfnncahmccgkaaGreatDoor

namespace Go.Proofs.YthfnncahmccgkaaGreatDoor
set_option linter.unusedSimpArgs false
set_option linter.unusedVariables false
open Go Go.RowKit
set_option maxRecDepth 100000

theorem results_tmp4 {fn : Func} {t u v x : Tmp} (h : fn.results = #[.tmp t, .tmp u, .tmp v, .tmp x]) (tmps : Array Value) (P : Program) (w : World) :
    (results fn tmps).run P w = .ok (.tuple #[tmps.getD t undef, tmps.getD u undef, tmps.getD v undef, tmps.getD x undef]) w := by
  simp [results, h]
set_option maxHeartbeats 4000000 in
theorem get_any {w : World} (x : List UInt8) (hx : x.length ≤ 9223372036854775807) : Calls Tryz.prog 62 #[sv x] w fun e w' => e = .returned (.tuple #[.int .i64 (agL x), .int .i64 (plL x), sv (bodL x), .bool (isB x)]) ∧ Below w.heap.size w w' := by
  have hz := hz8
  have lA := fstL_length x
  have lB := lstL_length x
  have EN := fun W => @ends_any W x hx
  have HL := Lib.hid (@isB_len x)
  have HB0 := Lib.hid (show bodL x = (if isB x then (x.drop 8).take 112 else []) from rfl)
  have HP0 := Lib.hid (show plL x = (if isB x then plN (fstL x) else 0) from rfl)
  have HA0 := Lib.hid (show agL x = (if isB x then ageN (fstL x) else 0) from rfl)
  have HI := Lib.hid (show isB x = ((fstL x == lstL x) && mayB (ageN (fstL x)) (plN (fstL x))) from rfl)
  generalize hA : fstL x = A at lA EN HP0 HA0 HI
  generalize hB : lstL x = B at lB EN HI
  clear hA hB
  have hcl : (cellsOfF A).length = 8 := by rw [cellsOf_lengthF, lA]
  have hcm : (cellsOfF B).length = 8 := by rw [cellsOf_lengthF, lB]
  go_enter Tryz.func62, Tryz.ntmps62
  go_upto_region 2 with (first
    | (go_at_call 65; refine (EN _).mono ?_; rintro e w1 ⟨rfl, hb1⟩; have st1 := Lib.hid (W2.facts w1 lA lB))
    | (refine wpList_store_run _ rfl _ _ _ rfl _ _ rfl rfl st1.out.1 ?_)
    | (refine wpList_store_run _ rfl _ _ _ rfl _ _ rfl rfl st1.out.2.1 ?_))
  have HP := Lib.hid st1.out.2.2
  have HB1 := Lib.hid hb1
  clear st1 hb1 EN hz
  generalize W2 w1 A B = w3 at HP ⊢
  obtain ⟨k, hk⟩ : ∃ k, k = w1.heap.size := ⟨_, rfl⟩
  rw [← hk] at HP ⊢
  clear hk
  refine wp_region_held_drew (S := P2 w1 k A B) (by kernel_rfl) HP.out.drew (fun hHeld => ?_)
  refine wpAnyH_take (i := 0) (v := arv A) rfl (by kernel_rfl) (by kernel_rfl) (by kernel_rfl) (fun _ _ _ h => h) (Or.inl ⟨by rfl, fun w' hSw => exec_load_rowF w' rfl rfl hSw.1 Tryz.underlying115 rfl (by rw [s8]; simp [cellsOf_lengthF, lA])⟩) (by assumption) ?_
  try simp only [List.getElem_toArray, List.getElem_cons_zero, List.getElem_cons_succ, Act.put, List.setIfInBounds_toArray, List.set_cons_zero, List.set_cons_succ]
  refine wpAnyH_take (i := 2) (v := arv A) rfl (by kernel_rfl) (by kernel_rfl) (by kernel_rfl) (fun _ _ _ h => h) (Or.inl ⟨by rfl, fun w' hSw => exec_load_rowF w' rfl rfl hSw.1 Tryz.underlying115 rfl (by rw [s8]; simp [cellsOf_lengthF, lA])⟩) (by assumption) ?_
  try simp only [List.getElem_toArray, List.getElem_cons_zero, List.getElem_cons_succ, Act.put, List.setIfInBounds_toArray, List.set_cons_zero, List.set_cons_succ]
  refine wpAnyH_ready (rs := [1]) (by kernel_rfl) (by simp) ?_
  refine AllReadyH.cons rfl (fun K hK => ?_) AllReadyH.nil
  go_simp
  go_at_call 66
  refine (age_any lA).mono ?_
  rintro e1 w8 ⟨rfl, hR⟩
  refine hK.out _ _ (hHeld.step hR) (fun hHeld => ?_)
  clear hK K
  try simp only [List.getElem_toArray, List.getElem_cons_zero, List.getElem_cons_succ, Act.put, List.setIfInBounds_toArray, List.set_cons_zero, List.set_cons_succ]
  refine wpAnyH_ready (rs := [3]) (by kernel_rfl) (by simp) ?_
  refine AllReadyH.cons rfl (fun K hK => ?_) AllReadyH.nil
  go_simp
  go_at_call 81
  refine (place_any lA).mono ?_
  rintro e1 w8 ⟨rfl, hR⟩
  refine hK.out _ _ (hHeld.step hR) (fun hHeld => ?_)
  clear hK K
  try simp only [List.getElem_toArray, List.getElem_cons_zero, List.getElem_cons_succ, Act.put, List.setIfInBounds_toArray, List.set_cons_zero, List.set_cons_succ]
  refine wpAnyH_take (i := 4) (v := ?vv4_2) rfl (by kernel_rfl) (by kernel_rfl) (by kernel_rfl) (fun _ _ _ h => h) (Or.inl ⟨by rfl, ?hy4_2⟩) (by assumption) ?rest4_2
  case hy4_2 => (intro w' hSw; (try dsimp only at hSw); go_simp; try with_reducible rfl)
  try simp only [List.getElem_toArray, List.getElem_cons_zero, List.getElem_cons_succ, Act.put, List.setIfInBounds_toArray, List.set_cons_zero, List.set_cons_succ]
  refine wpAnyH_take (i := 5) (v := ?vv5_2) rfl (by kernel_rfl) (by kernel_rfl) (by kernel_rfl) (fun _ _ _ h => h) (Or.inl ⟨by rfl, ?hy5_2⟩) (by assumption) ?rest5_2
  case hy5_2 => (intro w' hSw; (try dsimp only at hSw); go_simp; try with_reducible rfl)
  try simp only [List.getElem_toArray, List.getElem_cons_zero, List.getElem_cons_succ, Act.put, List.setIfInBounds_toArray, List.set_cons_zero, List.set_cons_succ]
  refine wpAnyH_done (by kernel_rfl) ?_ _
  go_upto_region 3 with fail
  have hA := hHeld.1
  have hB := hHeld.2.1
  have HBL := Lib.hid (HB1.out.trans (hHeld.2.2.mono HB1.out.size))
  have ld1 := Lib.hid (hA.loadAt lA)
  have ld2 := Lib.hid (hB.loadAt lB)
  have NE := Lib.hid (show (Op.equalIn 10000 115 (.agg (cellsOfF A).toArray) (.agg (cellsOfF B).toArray)).run Tryz.prog w8 = .ok (!(A != B)) w8 by have := eq_stamps lA lB w8; rw [show (!(A != B)) = (A == B) by simp [bne]]; exact this)
  clear hA hB HP HB1 hHeld hR
  cases hne : A != B with
  | true =>
    rw [hne] at NE
    have hi : isB x = false := by rw [HI.out, show (A == B) = false by simpa [bne] using hne]; rfl
    have HI2 := Lib.hid hi
    clear hi hne
    go_wp2_with (first | (refine wpList_load_run _ rfl _ _ rfl _ rfl ld1.out ?_) | (refine wpList_load_run _ rfl _ _ rfl _ rfl ld2.out ?_))
    rw [NE.out]
    simp only [Result.andThen]
    rw [Oper.upon_value]
    go_wp2_with fail
    (try simp only [Exit.inBlock, Exit.then])
    refine bodyPost_ret (results_tmp4 rfl _ _ _) rfl ?_
    exact ⟨by rw [HA0.out, HP0.out, HB0.out, HI2.out]; rfl, HBL.out⟩
  | false =>
    rw [hne] at NE
    have hi : isB x = mayB (ageN A) (plN A) := by rw [HI.out, show (A == B) = true by simpa [bne] using hne]; rfl
    have HI2 := Lib.hid hi
    clear hi hne
    cases hm : mayB (ageN A) (plN A) with
    | false =>
      rw [hm] at HI2
      have MA := fun W => may_any (ageN A) (plN A) W
      rw [hm] at MA
      clear hm
      go_wp2_with (first | (refine wpList_load_run _ rfl _ _ rfl _ rfl ld1.out ?_) | (refine wpList_load_run _ rfl _ _ rfl _ rfl ld2.out ?_))
      rw [NE.out]
      simp only [Result.andThen]
      rw [Oper.upon_value]
      go_wp2_with (first | (go_at_call 78; refine (MA _).mono ?_; rintro e w9 ⟨rfl, rfl⟩))
      (try simp only [Exit.inBlock, Exit.then])
      refine bodyPost_ret (results_tmp4 rfl _ _ _) rfl ?_
      exact ⟨by rw [HA0.out, HP0.out, HB0.out, HI2.out]; rfl, HBL.out⟩
    | true =>
      rw [hm] at HI2
      have MA := fun W => may_any (ageN A) (plN A) W
      rw [hm] at MA
      clear hm
      have h128 := HL.out HI2.out
      have hxe : (str x).size = 128 := by show x.toArray.size = 128; simpa using h128
      have hsl : (str x).extract 8 120 = str ((x.drop 8).take 112) := by
        rw [str_extract, List.drop_take]
      have hln : ((x.drop 8).take 112).length = 112 := by simp; omega
      have CL := fun W => @clone_anyF W ((x.drop 8).take 112) (by omega)
      have HB9 := Lib.hid (show bodL x = (x.drop 8).take 112 by rw [HB0.out, HI2.out]; rfl)
      have HA9 := Lib.hid (show agL x = ageN A by rw [HA0.out, HI2.out]; rfl)
      have HP9 := Lib.hid (show plL x = plN A by rw [HP0.out, HI2.out]; rfl)
      go_wp2_with (first | (refine wpList_load_run _ rfl _ _ rfl _ rfl ld1.out ?_) | (refine wpList_load_run _ rfl _ _ rfl _ rfl ld2.out ?_))
      rw [NE.out]
      simp only [Result.andThen]
      rw [Oper.upon_value]
      go_wp2_with (first | (go_at_call 78; refine (MA _).mono ?_; rintro e w9 ⟨rfl, rfl⟩) | (go_at_call 82; refine (CL _).mono ?_; rintro e w9 ⟨rfl, hb9⟩))
      (try simp only [Exit.inBlock, Exit.then])
      refine bodyPost_ret (results_tmp4 rfl _ _ _) rfl ?_
      exact ⟨by rw [HA9.out, HP9.out, HB9.out, HI2.out]; rfl, HBL.out.trans (hb9.mono HBL.out.size)⟩
end Go.Proofs.YthfnncahmccgkaaGreatDoor

