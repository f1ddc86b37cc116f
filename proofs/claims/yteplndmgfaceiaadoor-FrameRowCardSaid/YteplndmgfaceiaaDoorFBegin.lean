/-
  Package frame's begin, begun.
-/
import Derived.Deep.RegionHeld3
import Derived.Test.YteplndmgfaceiaaDoorFEnds
namespace Go.Proofs.YteplndmgfaceiaaDoor
set_option linter.unusedSimpArgs false
set_option linter.unusedVariables false
open Go Go.RowKit
set_option maxRecDepth 100000

theorem beg_mid (a p : Nat) : midL (midL z6 0 (bytesL a 2)) 2 (bytesL p 4) = bytesL a 2 ++ bytesL p 4 := by
  simp only [midL, bytesL_length, List.take_zero, List.nil_append, z6]
  rw [List.take_left' (bytesL_length _ _)]
  rw [List.drop_append, bytesL_length]
  simp [bytesL_length]

set_option maxHeartbeats 2000000 in
theorem begin_any {w : World} {a p : Nat} (ha : a < 4294967296) (hp : p < 4294967296) : Calls Tryd.prog 33 #[.int .i64 a, .int .i64 p] w fun e w' => e = .returned (sv (bytesL a 2 ++ bytesL p 4)) ∧ Below w.heap.size w w' := by
  have hz := hz6
  obtain ⟨k, hk⟩ : ∃ k, k = w.heap.size := ⟨_, rfl⟩
  obtain ⟨w2, hw2⟩ : ∃ w2, w2 = w.alloc (.cells (cellsOf z6).toArray 72) := ⟨_, rfl⟩
  have hA : AB w2 k 72 z6 := by rw [hw2, hk]; exact AB.new w _ z6
  have hL : Below w.heap.size w w2 := by rw [hw2]; exact below_alloc w _
  have H := Lib.hid (And.intro hA hL)
  have HW := Lib.hid hw2
  have HK := Lib.hid hk
  clear hA hL hw2
  go_enter Tryd.func33, Tryd.ntmps33
  go_wp2_with fail
  rw [← HW.out, ← HK.out]
  clear hk
  go_at_call 42
  refine (put_any (o := 0) a 2 ha (by omega) H.out.1 (by rw [z6_length]; omega)).mono ?_
  rintro e w3 ⟨rfl, b3, k3⟩
  go_wp2_with fail
  go_at_call 42
  refine (put_any (o := 2) p 4 hp (by omega) b3 (by rw [midL_length (by rw [bytesL_length, z6_length]; omega), z6_length]; omega)).mono ?_
  rintro e w4 ⟨rfl, b4, k4⟩
  rw [beg_mid] at b4
  have hl6 : (bytesL a 2 ++ bytesL p 4).length = 6 := by simp [bytesL_length]
  have hkk := k3.trans k4 (fun _ h _ => h)
  obtain ⟨S, hS⟩ : ∃ S, S = bytesL a 2 ++ bytesL p 4 := ⟨_, rfl⟩
  rw [← hS] at b4 hl6
  have HS := Lib.hid hS
  have hcv : (convert 49 9 (.slice (some ⟨k, 0, none⟩) 6 6)).run Tryd.prog w4 = .ok (sv S) w4 := by
    have := run_convert_bytes_back (P := Tryd.prog) w4 49 9 5 ⟨k, 0, none⟩ 6 S Tryd.underlying49 Tryd.underlying5 Tryd.underlying9 (fun j hj => by
      rw [show (⟨k, 0, none⟩ : Addr).add j = ⟨k, j, none⟩ from by unfold Addr.add; split <;> simp_all, b4.cell hj, getD_str _ _ hj]; rfl)
    rwa [hl6] at this
  have hbl : Below w.heap.size w w4 := ((show Kp [k] w w2 from Kp.of_below H.out.2 _).trans hkk (fun _ h _ => h)).to_below (fun j hj => by have := HK.out; simp at hj; omega) (Nat.le_refl _)
  have HB := Lib.hid hbl
  clear b3 k3 b4 k4 hkk hl6 hbl hS
  go_wp2_with fail
  go_ret
  exact ⟨by rw [← HS.out]; rfl, HB.out⟩

set_option maxHeartbeats 2000000 in
theorem begun_any {w : World} (x : List UInt8) (hx : x.length = 112) : Calls Tryd.prog 35 #[sv x] w fun e w' => e = .returned (.tuple #[.int .i64 (numL (x.take 2)), .int .i64 (numL ((x.drop 2).take 4))]) ∧ Below w.heap.size w w' := by
  have hz := hz6
  obtain ⟨k, hk⟩ : ∃ k, k = w.heap.size := ⟨_, rfl⟩
  obtain ⟨w2, hw2⟩ : ∃ w2, w2 = w.alloc (.cells (cellsOf z6).toArray 72) := ⟨_, rfl⟩
  have hA : AB w2 k 72 z6 := by rw [hw2, hk]; exact AB.new w _ z6
  have hL : Below w.heap.size w w2 := by rw [hw2]; exact below_alloc w _
  have cp1 := fun ty => copy_str (cap := 6) (n := 6) (s := x) hA (o := 0) (by simp [z6_length, hx]) ty
  rw [midL_all (by simp [z6_length, hx])] at cp1
  have hB := hA.setRow (x.take 6)
  have hL2 := ((show Kp [k] w w2 from Kp.of_below hL _).setRow (g := k) (.inl (by simp)) (cellsOf (x.take 6)).toArray).to_below (fun j hj => by simp at hj; omega) (Nat.le_refl w.heap.size)
  have HB := Lib.hid (And.intro hB hL2)
  have HW := Lib.hid hw2
  have HK := Lib.hid hk
  clear hA hL hw2 hB hL2
  go_enter Tryd.func35, Tryd.ntmps35
  go_upto_region 2 with fail
  rw [← HW.out, ← HK.out]
  clear hk
  go_upto_region 3 with (at_builtin; refine wpList_builtin2_run _ rfl .copy Builtin.copy_ _ _ _ _ rfl (fun _ _ _ => rfl) _ _ rfl rfl (cp1 _) ?_)
  obtain ⟨hB, hL2⟩ := HB.out
  generalize w2.setRow k (cellsOf (x.take 6)).toArray = w3 at hB hL2 ⊢
  have h2 : ((x.take 6).take 2).length = 2 := by simp; omega
  have h4 : (((x.take 6).drop 2).take 4).length = 4 := by simp; omega
  have N1 := Lib.hid (fun W (hW : AB W k 72 (x.take 6)) => h2 ▸ @number_any W ((x.take 6).take 2) (by omega) k 0 2 (fun j hj => by rw [getD_take' (by omega), Nat.zero_add]; exact hW.cell (by simp; omega)))
  have N2 := Lib.hid (fun W (hW : AB W k 72 (x.take 6)) => h4 ▸ @number_any W (((x.take 6).drop 2).take 4) (by omega) k 2 4 (fun j hj => by rw [getD_take' (by omega), getD_drop']; exact hW.cell (by simp; omega)))
  have e2 : (x.take 6).take 2 = x.take 2 := by rw [List.take_take]; rfl
  have e4 : ((x.take 6).drop 2).take 4 = (x.drop 2).take 4 := by rw [List.drop_take, List.take_take]; rfl
  rw [e2] at N1
  rw [e4] at N2
  clear e2 e4 h2 h4 cp1 HB
  refine wp_region_held_drew (S := fun W => AB W k 72 (x.take 6) ∧ Below w.heap.size w W) (by kernel_rfl) ⟨hB, hL2.drew⟩ (fun hHeld => ?_)
  refine wpAnyH_take (i := 0) (v := ?vv0_1) rfl (by kernel_rfl) (by kernel_rfl) (by kernel_rfl) (fun _ _ _ h => h) (Or.inl ⟨by rfl, ?hy0_1⟩) (by assumption) ?rest0_1
  case hy0_1 => (intro w' hSw; (try dsimp only at hSw); go_simp; try with_reducible rfl)
  try simp only [List.getElem_toArray, List.getElem_cons_zero, List.getElem_cons_succ, Act.put, List.setIfInBounds_toArray, List.set_cons_zero, List.set_cons_succ]
  refine wpAnyH_take (i := 2) (v := ?vv2_1) rfl (by kernel_rfl) (by kernel_rfl) (by kernel_rfl) (fun _ _ _ h => h) (Or.inl ⟨by rfl, ?hy2_1⟩) (by assumption) ?rest2_1
  case hy2_1 => (intro w' hSw; (try dsimp only at hSw); go_simp; try with_reducible rfl)
  try simp only [List.getElem_toArray, List.getElem_cons_zero, List.getElem_cons_succ, Act.put, List.setIfInBounds_toArray, List.set_cons_zero, List.set_cons_succ]
  refine wpAnyH_ready (rs := [1]) (by kernel_rfl) (by simp) ?_
  refine AllReadyH.cons rfl (fun K hK => ?_) AllReadyH.nil
  go_simp
  go_at_call 40
  refine (N1.out _ hHeld.1).mono ?_
  rintro e1 w8 ⟨rfl, rfl⟩
  refine hK.out _ _ hHeld (fun hHeld => ?_)
  clear hK K
  try simp only [List.getElem_toArray, List.getElem_cons_zero, List.getElem_cons_succ, Act.put, List.setIfInBounds_toArray, List.set_cons_zero, List.set_cons_succ]
  refine wpAnyH_ready (rs := [3]) (by kernel_rfl) (by simp) ?_
  refine AllReadyH.cons rfl (fun K hK => ?_) AllReadyH.nil
  go_simp
  go_at_call 40
  refine (N2.out _ hHeld.1).mono ?_
  rintro e1 w8 ⟨rfl, rfl⟩
  refine hK.out _ _ hHeld (fun hHeld => ?_)
  clear hK K
  try simp only [List.getElem_toArray, List.getElem_cons_zero, List.getElem_cons_succ, Act.put, List.setIfInBounds_toArray, List.set_cons_zero, List.set_cons_succ]
  refine wpAnyH_take (i := 4) (v := ?vv4_1) rfl (by kernel_rfl) (by kernel_rfl) (by kernel_rfl) (fun _ _ _ h => h) (Or.inl ⟨by rfl, ?hy4_1⟩) (by assumption) ?rest4_1
  case hy4_1 => (intro w' hSw; (try dsimp only at hSw); go_simp; try with_reducible rfl)
  try simp only [List.getElem_toArray, List.getElem_cons_zero, List.getElem_cons_succ, Act.put, List.setIfInBounds_toArray, List.set_cons_zero, List.set_cons_succ]
  refine wpAnyH_take (i := 5) (v := ?vv5_1) rfl (by kernel_rfl) (by kernel_rfl) (by kernel_rfl) (fun _ _ _ h => h) (Or.inl ⟨by rfl, ?hy5_1⟩) (by assumption) ?rest5_1
  case hy5_1 => (intro w' hSw; (try dsimp only at hSw); go_simp; try with_reducible rfl)
  try simp only [List.getElem_toArray, List.getElem_cons_zero, List.getElem_cons_succ, Act.put, List.setIfInBounds_toArray, List.set_cons_zero, List.set_cons_succ]
  refine wpAnyH_done (by kernel_rfl) ?_ _
  go_wp2_with fail
  go_ret2
  exact ⟨rfl, hHeld.2⟩
end Go.Proofs.YteplndmgfaceiaaDoor

