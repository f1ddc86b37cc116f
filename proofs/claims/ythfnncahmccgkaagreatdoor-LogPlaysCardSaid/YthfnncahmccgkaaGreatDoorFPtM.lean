/-
  Package frame's framed.
  Package frame's Put, Many.
  Package frame's begin, begun.
-/
import Derived.Test.YthfnncahmccgkaaGreatDoorFEnM
import Derived.Deep.RegionHeld3
namespace Go.Proofs.YthfnncahmccgkaaGreatDoor
set_option linter.unusedSimpArgs false
set_option linter.unusedVariables false
open Go Go.RowKit
set_option maxRecDepth 100000

theorem frL_mid {s : List UInt8} {a p : Nat} (h : s.length ≤ 112) : midL (midL (midL z128 0 (stL a p)) 8 (s.take 120)) 120 (stL a p) = frL a p s := by
  have h8 := stL_length a p
  rw [List.take_of_length_le (by omega)]
  unfold midL frL padL z128
  simp only [List.take_zero, List.nil_append, h8, Nat.zero_add]
  have e1 : List.drop 8 (List.replicate 128 (0 : UInt8)) = List.replicate 120 0 := by simp
  rw [e1, List.take_left' h8]
  have e2 : List.drop (8 + s.length) (stL a p ++ List.replicate 120 (0 : UInt8)) = List.replicate (120 - s.length) 0 := by
    rw [List.drop_append, h8, List.drop_of_length_le (by omega), show 8 + s.length - 8 = s.length by omega, List.drop_replicate, List.nil_append]
  rw [e2]
  have e3 : List.take 120 (stL a p ++ (s ++ List.replicate (120 - s.length) (0 : UInt8))) = stL a p ++ (s ++ List.replicate (112 - s.length) 0) := by
    rw [List.take_append, h8, List.take_of_length_le (by omega), List.take_append, List.take_of_length_le (by omega)]
    simp
    omega
  rw [e3, List.drop_of_length_le (by simp [h8]; omega)]
  simp

set_option maxHeartbeats 2000000 in
theorem framed_any {w : World} {a p : Nat} {s : List UInt8} (ha : a < 4294967296) (hp : p < 4294967296) (hs : s.length ≤ 112) : Calls Tryz.prog 80 #[.int .i64 a, .int .i64 p, sv s] w fun e w' => e = .returned (sv (frL a p s)) ∧ Below w.heap.size w w' := by
  have hz := hz8
  have hz2 := hz128
  obtain ⟨k, hk⟩ : ∃ k, k = w.heap.size := ⟨_, rfl⟩
  obtain ⟨w1, hw1⟩ : ∃ w1, w1 = w.alloc (.cells (cellsOfF z128).toArray 91) := ⟨_, rfl⟩
  have hA : AB w1 k 91 z128 := by rw [hw1, hk]; exact AB.new w _ z128
  have hL : Below w.heap.size w w1 := by rw [hw1]; exact below_alloc w _
  have HA := Lib.hid hA
  have HL := Lib.hid hL
  have HW := Lib.hid hw1
  have HK := Lib.hid hk
  clear hA hL hw1
  obtain ⟨S, hS⟩ : ∃ S, S = stL a p := ⟨_, rfl⟩
  have hS8 : S.length = 8 := by rw [hS, stL_length]
  have HS := Lib.hid hS
  have hcl : (cellsOfF S).length = 8 := by rw [cellsOf_lengthF, hS8]
  have STO := fun ha hp => @stampOf_any w1 a p ha hp
  rw [← hS] at STO
  clear hS
  have hst := fun W => store_new8 W hS8 z8_length
  go_enter Tryz.func80, Tryz.ntmps80
  go_upto_region 2 with fail
  rw [← HW.out, ← HK.out]
  clear hk
  go_wp2_with (go_at_call 99; refine (STO ha hp).mono ?_; rintro e w2 ⟨rfl, hb2⟩)
  have hb3 := HL.out.trans (hb2.mono HL.out.size)
  have a3 := ((HA.out.below hb2 HA.out.lt).alloc (.cells (cellsOfF S).toArray 115))
  have s3 := AB.new w2 115 S
  have hlt := (HA.out.below hb2 HA.out.lt).lt
  have k3 : Kp [k] w (w2.alloc (.cells (cellsOfF S).toArray 115)) := (Kp.of_below hb3 _).alloc _
  obtain ⟨g, hg⟩ : ∃ g, g = w2.heap.size := ⟨_, rfl⟩
  rw [← hg] at s3 hlt ⊢
  generalize w2.alloc (.cells (cellsOfF S).toArray 115) = w3 at a3 s3 k3 ⊢
  have HN := Lib.hid (show g ≠ k by omega)
  clear hb2 hb3 hg hlt hst
  have cp1 := fun ty => copy_arr (w := w3.drew) (cap := 128) (cap' := 8) (n := 128) (o := 0) (k := 8) a3.drew s3.drew hS8.symm (by omega) (by rw [z128_length]; omega) ty
  have a4 := a3.drew.setRow (midL z128 0 S)
  have s4 := s3.drew.setOther HN.out (cellsOfF (midL z128 0 S)).toArray
  have k4 := k3.drew.setRow (g := k) (.inl (by simp)) (cellsOfF (midL z128 0 S)).toArray
  go_still_tail 2, (by kernel_rfl)
  change wpList _ _ _ _ _ w3.drew
  refine wpList_builtin2_runF _ rfl .copy Builtin.copy_ _ _ _ _ rfl (fun _ _ _ => rfl) _ _ rfl rfl (cp1 _) ?_
  generalize w3.drew.setRow k (cellsOfF (midL z128 0 S)).toArray = w4 at a4 s4 k4 ⊢
  clear cp1 a3 s3 k3
  have m4 : (midL z128 0 S).length = 128 := by rw [midL_length (by rw [z128_length]; omega), z128_length]
  obtain ⟨M4, hM4⟩ : ∃ M, M = midL z128 0 S := ⟨_, rfl⟩
  rw [← hM4] at m4 a4
  have HM4 := Lib.hid hM4
  clear hM4
  have cp2 := fun ty => copy_str (s := s) (cap := 120) (n := 120) (o := 8) a4 (by omega) ty
  have a5 := a4.setRow (midL M4 8 (s.take 120))
  have s5 := s4.setOther HN.out (cellsOfF (midL M4 8 (s.take 120))).toArray
  have k5 := k4.setRow (g := k) (.inl (by simp)) (cellsOfF (midL M4 8 (s.take 120))).toArray
  go_wp2_with (at_builtin; refine wpList_builtin2_runF _ rfl .copy Builtin.copy_ _ _ _ _ rfl (fun _ _ _ => rfl) _ _ rfl rfl (cp2 _) ?_)
  generalize w4.setRow k (cellsOfF (midL M4 8 (s.take 120))).toArray = w5 at a5 s5 k5 ⊢
  clear cp2 a4 s4 k4
  have m5 : (midL M4 8 (s.take 120)).length = 128 := by rw [midL_length (by rw [m4, List.length_take]; omega), m4]
  obtain ⟨M5, hM5⟩ : ∃ M, M = midL M4 8 (s.take 120) := ⟨_, rfl⟩
  rw [← hM5] at m5 a5
  have HM5 := Lib.hid hM5
  clear hM5
  have cp3 := fun ty => copy_arr (w := w5.drew) (cap := 8) (cap' := 8) (n := 8) (o := 120) (k := 8) a5.drew s5.drew hS8.symm (by omega) (by omega) ty
  have a6 := a5.drew.setRow (midL M5 120 S)
  have k6 := k5.drew.setRow (g := k) (.inl (by simp)) (cellsOfF (midL M5 120 S)).toArray
  go_still_tail 2, (by kernel_rfl)
  change wpList _ _ _ _ _ w5.drew
  refine wpList_builtin2_runF _ rfl .copy Builtin.copy_ _ _ _ _ rfl (fun _ _ _ => rfl) _ _ rfl rfl (cp3 _) ?_
  generalize w5.drew.setRow k (cellsOfF (midL M5 120 S)).toArray = w6 at a6 k6 ⊢
  clear cp3 a5 s5 k5
  have HF := Lib.hid (show midL M5 120 S = frL a p s by rw [HM5.out, HM4.out, HS.out]; exact frL_mid hs)
  have m6 : (midL M5 120 S).length = 128 := by rw [midL_length (by omega), m5]
  obtain ⟨M6, hM6⟩ : ∃ M, M = midL M5 120 S := ⟨_, rfl⟩
  rw [← hM6] at m6 a6 HF
  clear hM6
  have hcv : (convert 44 9 (.slice (some ⟨k, 0, none⟩) 128 128)).run Tryz.prog w6 = .ok (sv M6) w6 := by
    have := run_convert_bytes_back (P := Tryz.prog) w6 44 9 5 ⟨k, 0, none⟩ 128 M6 Tryz.underlying44 Tryz.underlying5 Tryz.underlying9 (fun j hj => by
      rw [show (⟨k, 0, none⟩ : Addr).add j = ⟨k, j, none⟩ from by unfold Addr.add; split <;> simp_all, a6.cell hj, getD_str _ _ hj]; rfl)
    rwa [m6] at this
  have HB := Lib.hid (k6.to_below (fun j hj => by have := HK.out; simp at hj; omega) (Nat.le_refl _))
  clear a6 k6 m6 m5 m4
  go_wp2_with fail
  go_ret
  exact ⟨by rw [HF.out]; rfl, HB.out⟩
end Go.Proofs.YthfnncahmccgkaaGreatDoor

namespace Go.Proofs.YthfnncahmccgkaaGreatDoor
set_option linter.unusedSimpArgs false
set_option linter.unusedVariables false
open Go Go.RowKit
set_option maxRecDepth 100000

theorem many_eq {n : Nat} (h : n ≤ 9223372036854775807) : (n : Int) / 112 + ((n : Int) % 112 + 6 + 112 - 1) / 112 = (manyN n : Nat) := by unfold manyN; omega
set_option maxHeartbeats 2000000 in
theorem many_top {w : World} (z : Int) (h0 : -9223372036854775808 ≤ z) (h1 : z ≤ 9223372036854775807) : Calls Tryz.prog 30 #[.int .i64 z] w fun e w' => e = .returned (.int .i64 (manyI z)) ∧ w = w' := by
  by_cases h : z < 0
  · have HE := Lib.hid (show manyI z = 0 by simp [manyI, h])
    go_enter Tryz.func30, Tryz.ntmps30
    go_wp2_with fail
    go_ret
    exact ⟨by rw [HE.out]; rfl, rfl⟩
  · obtain ⟨n, rfl⟩ : ∃ n : Nat, z = n := ⟨z.toNat, by omega⟩
    have HE := Lib.hid (show manyI (n : Int) = manyN n by unfold manyI; rw [if_neg (by omega)]; simp)
    have HM := Lib.hid (many_eq (n := n) (by omega))
    go_enter Tryz.func30, Tryz.ntmps30
    go_wp2_with fail
    go_ret
    refine ⟨?_, rfl⟩
    rw [HE.out, ← HM.out]
    rfl
end Go.Proofs.YthfnncahmccgkaaGreatDoor

namespace Go.Proofs.YthfnncahmccgkaaGreatDoor
set_option linter.unusedSimpArgs false
set_option linter.unusedVariables false
open Go Go.RowKit
set_option maxRecDepth 100000

theorem beg_mid (a p : Nat) : midL (midL z6 0 (bytesL a 2)) 2 (bytesL p 4) = bytesL a 2 ++ bytesL p 4 := by
  simp only [midL, bytesL_length, List.take_zero, List.nil_append, z6]
  rw [List.take_left' (bytesL_length _ _)]
  rw [List.drop_append, bytesL_length]
  simp [bytesL_length]

set_option maxHeartbeats 2000000 in
theorem begin_any {w : World} {a p : Nat} (ha : a < 4294967296) (hp : p < 4294967296) : Calls Tryz.prog 79 #[.int .i64 a, .int .i64 p] w fun e w' => e = .returned (sv (bytesL a 2 ++ bytesL p 4)) ∧ Below w.heap.size w w' := by
  have hz := hz6
  obtain ⟨k, hk⟩ : ∃ k, k = w.heap.size := ⟨_, rfl⟩
  obtain ⟨w2, hw2⟩ : ∃ w2, w2 = w.alloc (.cells (cellsOfF z6).toArray 143) := ⟨_, rfl⟩
  have hA : AB w2 k 143 z6 := by rw [hw2, hk]; exact AB.new w _ z6
  have hL : Below w.heap.size w w2 := by rw [hw2]; exact below_alloc w _
  have H := Lib.hid (And.intro hA hL)
  have HW := Lib.hid hw2
  have HK := Lib.hid hk
  clear hA hL hw2
  go_enter Tryz.func79, Tryz.ntmps79
  go_wp2_with fail
  rw [← HW.out, ← HK.out]
  clear hk
  go_at_call 98
  refine (put_any (o := 0) a 2 ha (by omega) H.out.1 (by rw [z6_length]; omega)).mono ?_
  rintro e w3 ⟨rfl, b3, k3⟩
  go_wp2_with fail
  go_at_call 98
  refine (put_any (o := 2) p 4 hp (by omega) b3 (by rw [midL_length (by rw [bytesL_length, z6_length]; omega), z6_length]; omega)).mono ?_
  rintro e w4 ⟨rfl, b4, k4⟩
  rw [beg_mid] at b4
  have hl6 : (bytesL a 2 ++ bytesL p 4).length = 6 := by simp [bytesL_length]
  have hkk := k3.trans k4 (fun _ h _ => h)
  obtain ⟨S, hS⟩ : ∃ S, S = bytesL a 2 ++ bytesL p 4 := ⟨_, rfl⟩
  rw [← hS] at b4 hl6
  have HS := Lib.hid hS
  have hcv : (convert 44 9 (.slice (some ⟨k, 0, none⟩) 6 6)).run Tryz.prog w4 = .ok (sv S) w4 := by
    have := run_convert_bytes_back (P := Tryz.prog) w4 44 9 5 ⟨k, 0, none⟩ 6 S Tryz.underlying44 Tryz.underlying5 Tryz.underlying9 (fun j hj => by
      rw [show (⟨k, 0, none⟩ : Addr).add j = ⟨k, j, none⟩ from by unfold Addr.add; split <;> simp_all, b4.cell hj, getD_str _ _ hj]; rfl)
    rwa [hl6] at this
  have hbl : Below w.heap.size w w4 := ((show Kp [k] w w2 from Kp.of_below H.out.2 _).trans hkk (fun _ h _ => h)).to_below (fun j hj => by have := HK.out; simp at hj; omega) (Nat.le_refl _)
  have HB := Lib.hid hbl
  clear b3 k3 b4 k4 hkk hl6 hbl hS
  go_wp2_with fail
  go_ret
  exact ⟨by rw [← HS.out]; rfl, HB.out⟩

set_option maxHeartbeats 2000000 in
theorem begun_any {w : World} (x : List UInt8) (hx : x.length = 112) : Calls Tryz.prog 84 #[sv x] w fun e w' => e = .returned (.tuple #[.int .i64 (numL (x.take 2)), .int .i64 (numL ((x.drop 2).take 4))]) ∧ Below w.heap.size w w' := by
  have hz := hz6
  obtain ⟨k, hk⟩ : ∃ k, k = w.heap.size := ⟨_, rfl⟩
  obtain ⟨w2, hw2⟩ : ∃ w2, w2 = w.alloc (.cells (cellsOfF z6).toArray 143) := ⟨_, rfl⟩
  have hA : AB w2 k 143 z6 := by rw [hw2, hk]; exact AB.new w _ z6
  have hL : Below w.heap.size w w2 := by rw [hw2]; exact below_alloc w _
  have cp1 := fun ty => copy_str (cap := 6) (n := 6) (s := x) hA (o := 0) (by simp [z6_length, hx]) ty
  rw [midL_all (by simp [z6_length, hx])] at cp1
  have hB := hA.setRow (x.take 6)
  have hL2 := ((show Kp [k] w w2 from Kp.of_below hL _).setRow (g := k) (.inl (by simp)) (cellsOfF (x.take 6)).toArray).to_below (fun j hj => by simp at hj; omega) (Nat.le_refl w.heap.size)
  have HB := Lib.hid (And.intro hB hL2)
  have HW := Lib.hid hw2
  have HK := Lib.hid hk
  clear hA hL hw2 hB hL2
  go_enter Tryz.func84, Tryz.ntmps84
  go_upto_region 2 with fail
  rw [← HW.out, ← HK.out]
  clear hk
  go_upto_region 3 with (at_builtin; refine wpList_builtin2_runF _ rfl .copy Builtin.copy_ _ _ _ _ rfl (fun _ _ _ => rfl) _ _ rfl rfl (cp1 _) ?_)
  obtain ⟨hB, hL2⟩ := HB.out
  generalize w2.setRow k (cellsOfF (x.take 6)).toArray = w3 at hB hL2 ⊢
  have h2 : ((x.take 6).take 2).length = 2 := by simp; omega
  have h4 : (((x.take 6).drop 2).take 4).length = 4 := by simp; omega
  have N1 := Lib.hid (fun W (hW : AB W k 143 (x.take 6)) => h2 ▸ @number_any W ((x.take 6).take 2) (by omega) k 0 2 (fun j hj => by rw [getD_take' (by omega), Nat.zero_add]; exact hW.cell (by simp; omega)))
  have N2 := Lib.hid (fun W (hW : AB W k 143 (x.take 6)) => h4 ▸ @number_any W (((x.take 6).drop 2).take 4) (by omega) k 2 4 (fun j hj => by rw [getD_take' (by omega), getD_drop']; exact hW.cell (by simp; omega)))
  have e2 : (x.take 6).take 2 = x.take 2 := by rw [List.take_take]; rfl
  have e4 : ((x.take 6).drop 2).take 4 = (x.drop 2).take 4 := by rw [List.drop_take, List.take_take]; rfl
  rw [e2] at N1
  rw [e4] at N2
  clear e2 e4 h2 h4 cp1 HB
  refine wp_region_held_drew (S := fun W => AB W k 143 (x.take 6) ∧ Below w.heap.size w W) (by kernel_rfl) ⟨hB, hL2.drew⟩ (fun hHeld => ?_)
  refine wpAnyH_take (i := 0) (v := ?vv0_1) rfl (by kernel_rfl) (by kernel_rfl) (by kernel_rfl) (fun _ _ _ h => h) (Or.inl ⟨by rfl, ?hy0_1⟩) (by assumption) ?rest0_1
  case hy0_1 => (intro w' hSw; (try dsimp only at hSw); go_simp; try with_reducible rfl)
  try simp only [List.getElem_toArray, List.getElem_cons_zero, List.getElem_cons_succ, Act.put, List.setIfInBounds_toArray, List.set_cons_zero, List.set_cons_succ]
  refine wpAnyH_take (i := 2) (v := ?vv2_1) rfl (by kernel_rfl) (by kernel_rfl) (by kernel_rfl) (fun _ _ _ h => h) (Or.inl ⟨by rfl, ?hy2_1⟩) (by assumption) ?rest2_1
  case hy2_1 => (intro w' hSw; (try dsimp only at hSw); go_simp; try with_reducible rfl)
  try simp only [List.getElem_toArray, List.getElem_cons_zero, List.getElem_cons_succ, Act.put, List.setIfInBounds_toArray, List.set_cons_zero, List.set_cons_succ]
  refine wpAnyH_ready (rs := [1]) (by kernel_rfl) (by simp) ?_
  refine AllReadyH.cons rfl (fun K hK => ?_) AllReadyH.nil
  go_simp
  go_at_call 88
  refine (N1.out _ hHeld.1).mono ?_
  rintro e1 w8 ⟨rfl, rfl⟩
  refine hK.out _ _ hHeld (fun hHeld => ?_)
  clear hK K
  try simp only [List.getElem_toArray, List.getElem_cons_zero, List.getElem_cons_succ, Act.put, List.setIfInBounds_toArray, List.set_cons_zero, List.set_cons_succ]
  refine wpAnyH_ready (rs := [3]) (by kernel_rfl) (by simp) ?_
  refine AllReadyH.cons rfl (fun K hK => ?_) AllReadyH.nil
  go_simp
  go_at_call 88
  refine (N2.out _ hHeld.1).mono ?_
  rintro e1 w8 ⟨rfl, rfl⟩
  refine hK.out _ _ hHeld (fun hHeld => ?_)
  clear hK K
  try simp only [List.getElem_toArray, List.getElem_cons_zero, List.getElem_cons_succ, Act.put, List.setIfInBounds_toArray, List.set_cons_zero, List.set_cons_succ]
  refine wpAnyH_take (i := 4) (v := ?vv4_1) rfl (by kernel_rfl) (by kernel_rfl) (by kernel_rfl) (fun _ _ _ h => h) (Or.inl ⟨by rfl, ?hy4_1⟩) (by assumption) ?rest4_1
  case hy4_1 => (intro w' hSw; (try dsimp only at hSw); go_simp; try with_reducible rfl)
  try simp only [List.getElem_toArray, List.getElem_cons_zero, List.getElem_cons_succ, Act.put, List.setIfInBounds_toArray, List.set_cons_zero, List.set_cons_succ]
  refine wpAnyH_take (i := 5) (v := ?vv5_1) rfl (by kernel_rfl) (by kernel_rfl) (by kernel_rfl) (fun _ _ _ h => h) (Or.inl ⟨by rfl, ?hy5_1⟩) (by assumption) ?rest5_1
  case hy5_1 => (intro w' hSw; (try dsimp only at hSw); go_simp; try with_reducible rfl)
  try simp only [List.getElem_toArray, List.getElem_cons_zero, List.getElem_cons_succ, Act.put, List.setIfInBounds_toArray, List.set_cons_zero, List.set_cons_succ]
  refine wpAnyH_done (by kernel_rfl) ?_ _
  go_wp2_with fail
  go_ret2
  exact ⟨rfl, hHeld.2⟩
end Go.Proofs.YthfnncahmccgkaaGreatDoor

