/-
  Package frame's Get, Age.
-/
import Derived.Deep.RegionHeld3
import Derived.Laws.IdiomArrays
import Derived.Test.YteplndmgfaceiaaDoorFEnds
import Derived.Test.YteplndmgfaceiaaDoorFEq
import Derived.Test.YteplndmgfaceiaaDoorShelf
namespace Go.Proofs.YteplndmgfaceiaaDoor
set_option linter.unusedSimpArgs false
set_option linter.unusedVariables false
open Go Go.RowKit
set_option maxRecDepth 100000

section
variable {P : Program} (w : World) {o : Oper} {a : Act}
theorem exec_load_row {t : TypeId} {x : Operand} (ho : o.op = .load t x) {b : Nat} (hd : a.eval x = .pointer (some ⟨b, 0, none⟩)) {cs : Array Value} {ty : TypeId} {fr : Nat × Nat} (hc : w.heap[b]? = some (.cells cs ty fr)) {d : TypeDesc} (hu : P.underlying t = some d) (hn : (match d with | .struct _ | .array _ _ => true | _ => false) = true)
    (hi : (P.info? t).map (·.size) = some cs.size) : (execOp a.eval o).run P w = .ok (.value (.agg cs)) w := by
  unfold execOp
  simp [ho, hd, Instr.loadAt, Instr.sureAddr, run_loadVar_row w b ty t cs fr d hc hu hn hi]
end
theorem eight {l : List UInt8} (h : l.length = 8) : ∃ a b c d e f g i, l = [a, b, c, d, e, f, g, i] := by
  match l, h with
  | [a, b, c, d, e, f, g, i], _ => exact ⟨a, b, c, d, e, f, g, i, rfl⟩
set_option maxHeartbeats 1000000 in
theorem clone_any {w : World} (s : List UInt8) (h : s.length ≤ 1000000) : Calls Tryd.prog 31 #[sv s] w fun e w' => e = .returned (sv s) ∧ Below w.heap.size w w' := by
  go_enter Tryd.func31, Tryd.ntmps31
  go_wp2_with (go_at_call 41; refine (Tryd.stringslite_Clone (str s) _ (by show s.toArray.size ≤ _; simp; omega)).mono ?_; rintro e w1 ⟨rfl, hb⟩)
  go_ret
  exact ⟨rfl, hb⟩

/-- Two stamps lie at k, k + 1. -/
def P2 (w : World) (k : Nat) (A B : List UInt8) (W : World) : Prop := AB W k 51 A ∧ AB W (k + 1) 51 B ∧ Below w.heap.size w W
theorem P2.drew {w W : World} {k : Nat} {A B : List UInt8} (h : P2 w k A B W) : P2 w k A B W.drew := ⟨h.1, h.2.1, h.2.2.drew⟩
theorem P2.step {w W W' : World} {k : Nat} {A B : List UInt8} (h : P2 w k A B W) (hb : Below W.heap.size W W') : P2 w k A B W' := ⟨h.1.below hb h.1.lt, h.2.1.below hb h.2.1.lt, h.2.2.trans (hb.mono h.2.2.size)⟩

/-- The two stamps that ends gave are stored. -/
def W2 (w1 : World) (A B : List UInt8) : World := (((w1.alloc (.cells (cellsOf z8).toArray 51)).alloc (.cells (cellsOf z8).toArray 51)).setRow w1.heap.size (cellsOf A).toArray).setRow (w1.heap.size + 1) (cellsOf B).toArray
theorem W2.facts (w1 : World) {A B : List UInt8} (lA : A.length = 8) (lB : B.length = 8) :
    (Instr.storeAt 51 (.pointer (some ⟨w1.heap.size, 0, none⟩)) (arv A)).run Tryd.prog ((w1.alloc (.cells (cellsOf z8).toArray 51)).alloc (.cells (cellsOf z8).toArray 51)) = .ok () (((w1.alloc (.cells (cellsOf z8).toArray 51)).alloc (.cells (cellsOf z8).toArray 51)).setRow w1.heap.size (cellsOf A).toArray) ∧
    (Instr.storeAt 51 (.pointer (some ⟨w1.heap.size + 1, 0, none⟩)) (arv B)).run Tryd.prog (((w1.alloc (.cells (cellsOf z8).toArray 51)).alloc (.cells (cellsOf z8).toArray 51)).setRow w1.heap.size (cellsOf A).toArray) = .ok () (W2 w1 A B) ∧
    P2 w1 w1.heap.size A B (W2 w1 A B) := by
  obtain ⟨e1, e2, h3⟩ := two_zero w1
  have f1 := e1.setRow A
  have f2 := e2.setOther (show w1.heap.size + 1 ≠ w1.heap.size by omega) (cellsOf A).toArray
  have k3 : Kp [w1.heap.size, w1.heap.size + 1] w1 (W2 w1 A B) := ((Kp.of_below h3 _).setRow (.inl (by simp)) _).setRow (.inl (by simp)) _
  exact ⟨e1.storeAt z8_length lA, f2.storeAt z8_length lB, f1.setOther (by omega) _, f2.setRow B, k3.to_below (fun j hj => by simp at hj; omega) (Nat.le_refl _)⟩

/-- The cells of eight bytes. -/
def C8 (W : World) (k : Nat) (l : List UInt8) : Prop := ∀ j, j < 8 → W.cell? ⟨k, j, none⟩ = some (bv (l.getD j 0))
theorem P2.c8 {w W : World} {k : Nat} {A B : List UInt8} (h : P2 w k A B W) (lA : A.length = 8) : C8 W k A := fun j hj => h.1.cell (by omega)
theorem P2.c8' {w W : World} {k : Nat} {A B : List UInt8} (h : P2 w k A B W) (lB : B.length = 8) : C8 W (k + 1) B := fun j hj => h.2.1.cell (by omega)

set_option maxHeartbeats 4000000 in
theorem age_top {w : World} (x : List UInt8) (hx : x.length ≤ 9223372036854775807) : Calls Tryd.prog 14 #[sv x] w fun e w' => e = .returned (.int .i64 (oldL x)) ∧ Below w.heap.size w w' := by
  have hz := hz8
  have lA := fstL_length x
  have lB := lstL_length x
  have EN := fun W => @ends_any W x hx
  have HO := Lib.hid (show oldL x = max (ageN (fstL x)) (ageN (lstL x)) from rfl)
  generalize hA : fstL x = A at lA EN HO
  generalize hB : lstL x = B at lB EN HO
  clear hA hB
  have hcl : (cellsOf A).length = 8 := by rw [cellsOf_length, lA]
  have hcm : (cellsOf B).length = 8 := by rw [cellsOf_length, lB]
  go_enter Tryd.func14, Tryd.ntmps14
  go_upto_region 2 with (first
    | (go_at_call 28; refine (EN _).mono ?_; rintro e w1 ⟨rfl, hb1⟩; have st1 := Lib.hid (W2.facts w1 lA lB))
    | (refine wpList_store_run _ rfl _ _ _ rfl _ _ rfl rfl st1.out.1 ?_)
    | (refine wpList_store_run _ rfl _ _ _ rfl _ _ rfl rfl st1.out.2.1 ?_))
  have HP := Lib.hid st1.out.2.2
  have HB1 := Lib.hid hb1
  clear st1 hb1 EN hz
  generalize W2 w1 A B = w3 at HP ⊢
  obtain ⟨k, hk⟩ : ∃ k, k = w1.heap.size := ⟨_, rfl⟩
  rw [← hk] at HP ⊢
  clear hk
  refine wp_region_held_drew (S := P2 w1 k A B) (by kernel_rfl) HP.out.drew (fun hHeld => ?_)
  refine wpAnyH_take (i := 0) (v := arv A) rfl (by kernel_rfl) (by kernel_rfl) (by kernel_rfl) (fun _ _ _ h => h) (Or.inl ⟨by rfl, fun w' hSw => exec_load_row w' rfl rfl hSw.1 Tryd.underlying51 rfl (by rw [s8]; simp [cellsOf_length, lA])⟩) (by assumption) ?_
  try simp only [List.getElem_toArray, List.getElem_cons_zero, List.getElem_cons_succ, Act.put, List.setIfInBounds_toArray, List.set_cons_zero, List.set_cons_succ]
  refine wpAnyH_take (i := 2) (v := arv B) rfl (by kernel_rfl) (by kernel_rfl) (by kernel_rfl) (fun _ _ _ h => h) (Or.inl ⟨by rfl, fun w' hSw => exec_load_row w' rfl rfl hSw.2.1 Tryd.underlying51 rfl (by rw [s8]; simp [cellsOf_length, lB])⟩) (by assumption) ?_
  try simp only [List.getElem_toArray, List.getElem_cons_zero, List.getElem_cons_succ, Act.put, List.setIfInBounds_toArray, List.set_cons_zero, List.set_cons_succ]
  refine wpAnyH_ready (rs := [1]) (by kernel_rfl) (by simp) ?_
  refine AllReadyH.cons rfl (fun K hK => ?_) AllReadyH.nil
  go_simp
  go_at_call 29
  refine (age_any lA).mono ?_
  rintro e1 w8 ⟨rfl, hR⟩
  refine hK.out _ _ (hHeld.step hR) (fun hHeld => ?_)
  clear hK K
  try simp only [List.getElem_toArray, List.getElem_cons_zero, List.getElem_cons_succ, Act.put, List.setIfInBounds_toArray, List.set_cons_zero, List.set_cons_succ]
  refine wpAnyH_ready (rs := [3]) (by kernel_rfl) (by simp) ?_
  refine AllReadyH.cons rfl (fun K hK => ?_) AllReadyH.nil
  go_simp
  go_at_call 29
  refine (age_any lB).mono ?_
  rintro e1 w8 ⟨rfl, hR⟩
  refine hK.out _ _ (hHeld.step hR) (fun hHeld => ?_)
  clear hK K
  try simp only [List.getElem_toArray, List.getElem_cons_zero, List.getElem_cons_succ, Act.put, List.setIfInBounds_toArray, List.set_cons_zero, List.set_cons_succ]
  refine wpAnyH_take (i := 4) (v := ?vv4_1) rfl (by kernel_rfl) (by kernel_rfl) (by kernel_rfl) (fun _ _ _ h => h) (Or.inl ⟨by rfl, ?hy4_1⟩) (by assumption) ?rest4_1
  case hy4_1 => (intro w' hSw; (try dsimp only at hSw); go_simp; try with_reducible rfl)
  try simp only [List.getElem_toArray, List.getElem_cons_zero, List.getElem_cons_succ, Act.put, List.setIfInBounds_toArray, List.set_cons_zero, List.set_cons_succ]
  refine wpAnyH_take (i := 5) (v := ?vv5_1) rfl (by kernel_rfl) (by kernel_rfl) (by kernel_rfl) (fun _ _ _ h => h) (Or.inl ⟨by rfl, ?hy5_1⟩) (by assumption) ?rest5_1
  case hy5_1 => (intro w' hSw; (try dsimp only at hSw); go_simp; try with_reducible rfl)
  try simp only [List.getElem_toArray, List.getElem_cons_zero, List.getElem_cons_succ, Act.put, List.setIfInBounds_toArray, List.set_cons_zero, List.set_cons_succ]
  refine wpAnyH_done (by kernel_rfl) ?_ _
  go_wp2_with fail
  go_ret
  refine ⟨?_, HB1.out.trans (hHeld.2.2.mono HB1.out.size)⟩
  rw [HO.out]
  show Ending.returned (Value.int .i64 (max (ageN A : Int) (ageN B))) = _
  congr 2
  omega

end Go.Proofs.YteplndmgfaceiaaDoor
