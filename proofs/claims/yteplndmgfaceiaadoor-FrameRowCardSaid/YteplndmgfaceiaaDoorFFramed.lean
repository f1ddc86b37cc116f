/-
  Package frame's framed.
-/
import Derived.Test.YteplndmgfaceiaaDoorFEnds
namespace Go.Proofs.YteplndmgfaceiaaDoor
set_option linter.unusedSimpArgs false
set_option linter.unusedVariables false
open Go Go.RowKit
set_option maxRecDepth 100000

theorem frL_mid {s : List UInt8} {a p : Nat} (h : s.length ≤ 112) : midL (midL (midL z128 0 (stL a p)) 8 (s.take 120)) 120 (stL a p) = frL a p s := by
  have h8 := stL_length a p
  rw [List.take_of_length_le (by omega)]
  unfold midL frL padL z128
  simp only [List.take_zero, List.nil_append, h8, Nat.zero_add]
  have e1 : List.drop 8 (List.replicate 128 (0 : UInt8)) = List.replicate 120 0 := by simp
  rw [e1, List.take_left' h8]
  have e2 : List.drop (8 + s.length) (stL a p ++ List.replicate 120 (0 : UInt8)) = List.replicate (120 - s.length) 0 := by
    rw [List.drop_append, h8, List.drop_of_length_le (by omega), show 8 + s.length - 8 = s.length by omega, List.drop_replicate, List.nil_append]
  rw [e2]
  have e3 : List.take 120 (stL a p ++ (s ++ List.replicate (120 - s.length) (0 : UInt8))) = stL a p ++ (s ++ List.replicate (112 - s.length) 0) := by
    rw [List.take_append, h8, List.take_of_length_le (by omega), List.take_append, List.take_of_length_le (by omega)]
    simp
    omega
  rw [e3, List.drop_of_length_le (by simp [h8]; omega)]
  simp

set_option maxHeartbeats 2000000 in
theorem framed_any {w : World} {a p : Nat} {s : List UInt8} (ha : a < 4294967296) (hp : p < 4294967296) (hs : s.length ≤ 112) : Calls Tryd.prog 25 #[.int .i64 a, .int .i64 p, sv s] w fun e w' => e = .returned (sv (frL a p s)) ∧ Below w.heap.size w w' := by
  have hz := hz8
  have hz2 := hz128
  obtain ⟨k, hk⟩ : ∃ k, k = w.heap.size := ⟨_, rfl⟩
  obtain ⟨w1, hw1⟩ : ∃ w1, w1 = w.alloc (.cells (cellsOf z128).toArray 69) := ⟨_, rfl⟩
  have hA : AB w1 k 69 z128 := by rw [hw1, hk]; exact AB.new w _ z128
  have hL : Below w.heap.size w w1 := by rw [hw1]; exact below_alloc w _
  have HA := Lib.hid hA
  have HL := Lib.hid hL
  have HW := Lib.hid hw1
  have HK := Lib.hid hk
  clear hA hL hw1
  obtain ⟨S, hS⟩ : ∃ S, S = stL a p := ⟨_, rfl⟩
  have hS8 : S.length = 8 := by rw [hS, stL_length]
  have HS := Lib.hid hS
  have hcl : (cellsOf S).length = 8 := by rw [cellsOf_length, hS8]
  have STO := fun ha hp => @stampOf_any w1 a p ha hp
  rw [← hS] at STO
  clear hS
  have hst := fun W => store_new8 W hS8 z8_length
  go_enter Tryd.func25, Tryd.ntmps25
  go_upto_region 2 with fail
  rw [← HW.out, ← HK.out]
  clear hk
  go_wp2_with (go_at_call 39; refine (STO ha hp).mono ?_; rintro e w2 ⟨rfl, hb2⟩)
  have hb3 := HL.out.trans (hb2.mono HL.out.size)
  have a3 := ((HA.out.below hb2 HA.out.lt).alloc (.cells (cellsOf S).toArray 51))
  have s3 := AB.new w2 51 S
  have hlt := (HA.out.below hb2 HA.out.lt).lt
  have k3 : Kp [k] w (w2.alloc (.cells (cellsOf S).toArray 51)) := (Kp.of_below hb3 _).alloc _
  obtain ⟨g, hg⟩ : ∃ g, g = w2.heap.size := ⟨_, rfl⟩
  rw [← hg] at s3 hlt ⊢
  generalize w2.alloc (.cells (cellsOf S).toArray 51) = w3 at a3 s3 k3 ⊢
  have HN := Lib.hid (show g ≠ k by omega)
  clear hb2 hb3 hg hlt hst
  have cp1 := fun ty => copy_arr (w := w3.drew) (cap := 128) (cap' := 8) (n := 128) (o := 0) (k := 8) a3.drew s3.drew hS8.symm (by omega) (by rw [z128_length]; omega) ty
  have a4 := a3.drew.setRow (midL z128 0 S)
  have s4 := s3.drew.setOther HN.out (cellsOf (midL z128 0 S)).toArray
  have k4 := k3.drew.setRow (g := k) (.inl (by simp)) (cellsOf (midL z128 0 S)).toArray
  go_still_tail 2, (by kernel_rfl)
  change wpList _ _ _ _ _ w3.drew
  refine wpList_builtin2_run _ rfl .copy Builtin.copy_ _ _ _ _ rfl (fun _ _ _ => rfl) _ _ rfl rfl (cp1 _) ?_
  generalize w3.drew.setRow k (cellsOf (midL z128 0 S)).toArray = w4 at a4 s4 k4 ⊢
  clear cp1 a3 s3 k3
  have m4 : (midL z128 0 S).length = 128 := by rw [midL_length (by rw [z128_length]; omega), z128_length]
  obtain ⟨M4, hM4⟩ : ∃ M, M = midL z128 0 S := ⟨_, rfl⟩
  rw [← hM4] at m4 a4
  have HM4 := Lib.hid hM4
  clear hM4
  have cp2 := fun ty => copy_str (s := s) (cap := 120) (n := 120) (o := 8) a4 (by omega) ty
  have a5 := a4.setRow (midL M4 8 (s.take 120))
  have s5 := s4.setOther HN.out (cellsOf (midL M4 8 (s.take 120))).toArray
  have k5 := k4.setRow (g := k) (.inl (by simp)) (cellsOf (midL M4 8 (s.take 120))).toArray
  go_wp2_with (at_builtin; refine wpList_builtin2_run _ rfl .copy Builtin.copy_ _ _ _ _ rfl (fun _ _ _ => rfl) _ _ rfl rfl (cp2 _) ?_)
  generalize w4.setRow k (cellsOf (midL M4 8 (s.take 120))).toArray = w5 at a5 s5 k5 ⊢
  clear cp2 a4 s4 k4
  have m5 : (midL M4 8 (s.take 120)).length = 128 := by rw [midL_length (by rw [m4, List.length_take]; omega), m4]
  obtain ⟨M5, hM5⟩ : ∃ M, M = midL M4 8 (s.take 120) := ⟨_, rfl⟩
  rw [← hM5] at m5 a5
  have HM5 := Lib.hid hM5
  clear hM5
  have cp3 := fun ty => copy_arr (w := w5.drew) (cap := 8) (cap' := 8) (n := 8) (o := 120) (k := 8) a5.drew s5.drew hS8.symm (by omega) (by omega) ty
  have a6 := a5.drew.setRow (midL M5 120 S)
  have k6 := k5.drew.setRow (g := k) (.inl (by simp)) (cellsOf (midL M5 120 S)).toArray
  go_still_tail 2, (by kernel_rfl)
  change wpList _ _ _ _ _ w5.drew
  refine wpList_builtin2_run _ rfl .copy Builtin.copy_ _ _ _ _ rfl (fun _ _ _ => rfl) _ _ rfl rfl (cp3 _) ?_
  generalize w5.drew.setRow k (cellsOf (midL M5 120 S)).toArray = w6 at a6 k6 ⊢
  clear cp3 a5 s5 k5
  have HF := Lib.hid (show midL M5 120 S = frL a p s by rw [HM5.out, HM4.out, HS.out]; exact frL_mid hs)
  have m6 : (midL M5 120 S).length = 128 := by rw [midL_length (by omega), m5]
  obtain ⟨M6, hM6⟩ : ∃ M, M = midL M5 120 S := ⟨_, rfl⟩
  rw [← hM6] at m6 a6 HF
  clear hM6
  have hcv : (convert 49 9 (.slice (some ⟨k, 0, none⟩) 128 128)).run Tryd.prog w6 = .ok (sv M6) w6 := by
    have := run_convert_bytes_back (P := Tryd.prog) w6 49 9 5 ⟨k, 0, none⟩ 128 M6 Tryd.underlying49 Tryd.underlying5 Tryd.underlying9 (fun j hj => by
      rw [show (⟨k, 0, none⟩ : Addr).add j = ⟨k, j, none⟩ from by unfold Addr.add; split <;> simp_all, a6.cell hj, getD_str _ _ hj]; rfl)
    rwa [m6] at this
  have HB := Lib.hid (k6.to_below (fun j hj => by have := HK.out; simp at hj; omega) (Nat.le_refl _))
  clear a6 k6 m6 m5 m4
  go_wp2_with fail
  go_ret
  exact ⟨by rw [HF.out]; rfl, HB.out⟩
end Go.Proofs.YteplndmgfaceiaaDoor
