/-
  Package frame's ends.
-/
import Derived.StillTailTactics
import Derived.Deep.CutRange
import Derived.Test.YteplndmgfaceiaaDoorFStampB
namespace Go.Proofs.YteplndmgfaceiaaDoor
set_option linter.unusedSimpArgs false
set_option linter.unusedVariables false
open Go Go.RowKit
set_option maxRecDepth 100000

theorem two_zero (w : World) : AB ((w.alloc (.cells (cellsOf z8).toArray 51)).alloc (.cells (cellsOf z8).toArray 51)) w.heap.size 51 z8 ∧
    AB ((w.alloc (.cells (cellsOf z8).toArray 51)).alloc (.cells (cellsOf z8).toArray 51)) (w.heap.size + 1) 51 z8 ∧
    Below w.heap.size w ((w.alloc (.cells (cellsOf z8).toArray 51)).alloc (.cells (cellsOf z8).toArray 51)) := by
  refine ⟨(AB.new w _ z8).alloc _, ?_, (below_alloc w _).alloc (by simp) _⟩
  have := AB.new (w.alloc (.cells (cellsOf z8).toArray 51)) 51 z8
  simpa using this

theorem midL_all {m x : List UInt8} (h : x.length = m.length) : midL m 0 x = x := by
  simp [midL, h]

/-- Two stamps' blocks, k and k + 1. -/
def EB (w : World) (k : Nat) (a b : List UInt8) : Prop := AB w k 51 a ∧ AB w (k + 1) 51 b ∧ a.length = 8 ∧ b.length = 8

set_option maxHeartbeats 2000000 in
theorem ends_any {w : World} (x : List UInt8) (hx : x.length ≤ 9223372036854775807) : Calls Tryd.prog 28 #[sv x] w fun e w' => e = .returned (.tuple #[arv (fstL x), arv (lstL x)]) ∧ Below w.heap.size w w' := by
  have hz := hz8
  obtain ⟨k, hk⟩ : ∃ k, k = w.heap.size := ⟨_, rfl⟩
  obtain ⟨w2, hw2⟩ : ∃ w2, w2 = (w.alloc (.cells (cellsOf z8).toArray 51)).alloc (.cells (cellsOf z8).toArray 51) := ⟨_, rfl⟩
  have h2 := two_zero w
  rw [← hw2, ← hk] at h2
  have H := Lib.hid h2
  have HW := Lib.hid hw2
  have HK := Lib.hid hk
  clear h2 hw2
  have hxe : (str x).size = x.length := by show x.toArray.size = x.length; simp
  by_cases h128 : x.length = 128
  · have hci : ((x.length : Int) == 128) = true := by rw [h128]; rfl
    have hc1 : AB (w2.setRow k (cellsOf (x.take 8)).toArray) k 51 (x.take 8) := H.out.1.setRow _
    have hc2 : AB (w2.setRow k (cellsOf (x.take 8)).toArray) (k + 1) 51 z8 := H.out.2.1.setOther (by omega) _
    have cp1 := fun ty => copy_str (cap := 8) (n := 8) (s := x) H.out.1 (o := 0) (by simp [z8_length, h128]) ty
    rw [midL_all (by simp [z8_length, h128])] at cp1
    have cp2 := fun ty => copy_str (w := (w2.setRow k (cellsOf (x.take 8)).toArray).drew) (cap := 8) (n := 8) (s := x.drop 120) hc2.drew (o := 0) (by simp [z8_length, h128]) ty
    rw [midL_all (by simp [z8_length, h128])] at cp2
    have hsl : (str x).extract 120 128 = str (x.drop 120) := by rw [str_extract, List.take_of_length_le (by omega)]
    go_enter Tryd.func28, Tryd.ntmps28
    go_upto_region 2 with fail
    rw [← HW.out, ← HK.out]
    clear hk
    go_wp2_with (at_builtin; refine wpList_builtin2_run _ rfl .copy Builtin.copy_ _ _ _ _ rfl (fun _ _ _ => rfl) _ _ rfl rfl (cp1 _) ?_)
    go_still_tail 3, (by kernel_rfl)
    change wpList _ _ _ _ _ (w2.setRow k (cellsOf (x.take 8)).toArray).drew
    refine wpList_builtin2_run _ rfl .copy Builtin.copy_ _ _ _ _ rfl (fun _ _ _ => rfl) _ _ rfl rfl (cp2 _) ?_
    have e1 : AB ((w2.setRow k (cellsOf (x.take 8)).toArray).drew.setRow (k + 1) (cellsOf ((x.drop 120).take 8)).toArray) k 51 (x.take 8) := hc1.drew.setOther (by omega) _
    have e2 : AB ((w2.setRow k (cellsOf (x.take 8)).toArray).drew.setRow (k + 1) (cellsOf ((x.drop 120).take 8)).toArray) (k + 1) 51 ((x.drop 120).take 8) := hc2.drew.setRow _
    have h3 : Kp [k, k + 1] w ((w2.setRow k (cellsOf (x.take 8)).toArray).drew.setRow (k + 1) (cellsOf ((x.drop 120).take 8)).toArray) :=
      (((show Kp [k, k + 1] w w2 from Kp.of_below (HK.out ▸ H.out.2.2) _).setRow (.inl (by simp)) _).drew).setRow (.inl (by simp)) _
    have HF := Lib.hid (show fstL x = x.take 8 by rw [fstL, if_pos h128])
    have HG := Lib.hid (show lstL x = (x.drop 120).take 8 by rw [lstL, if_pos h128, List.take_of_length_le (by simp [h128])])
    generalize (w2.setRow k (cellsOf (x.take 8)).toArray).drew.setRow (k + 1) (cellsOf ((x.drop 120).take 8)).toArray = w3 at e1 e2 h3 ⊢
    have l1 : (x.take 8).length = 8 := by simp; omega
    have l2 : ((x.drop 120).take 8).length = 8 := by simp; omega
    obtain ⟨A, hA⟩ : ∃ A, A = x.take 8 := ⟨_, rfl⟩
    obtain ⟨B, hB⟩ : ∃ B, B = (x.drop 120).take 8 := ⟨_, rfl⟩
    rw [← hA] at e1 l1 HF
    rw [← hB] at e2 l2 HG
    clear hA hB cp1 cp2 hc1 hc2 hsl
    have ld1 := Lib.hid (e1.loadAt l1)
    have ld2 := Lib.hid (e2.loadAt l2)
    have f1 : AB (w3.setRow k (cellsOf A).toArray) k 51 A := e1.setRow _
    have f2 : AB (w3.setRow k (cellsOf A).toArray) (k + 1) 51 B := e2.setOther (by omega) _
    have st1 := Lib.hid (e1.storeAt l1 l1)
    have st2 := Lib.hid (f2.storeAt l2 l2)
    have r1 := Lib.hid ((f1.setOther (by omega) (cellsOf B).toArray : AB ((w3.setRow k (cellsOf A).toArray).setRow (k + 1) (cellsOf B).toArray) k 51 A).loadS l1)
    have r2 := Lib.hid ((f2.setRow B).loadS l2)
    have h4 := (h3.setRow (g := k) (.inl (by simp)) (cellsOf A).toArray).setRow (g := k + 1) (.inl (by simp)) (cellsOf B).toArray
    have HB := Lib.hid (h4.to_below (fun j hj => by have := HK.out; simp at hj; omega) (Nat.le_refl _))
    clear e1 e2 f1 f2 h3 h4 l1 l2
    go_wp2_with (first | (refine wpList_load_run _ rfl _ _ rfl _ rfl ld1.out ?_) | (refine wpList_load_run _ rfl _ _ rfl _ rfl ld2.out ?_) | (refine wpList_store_run _ rfl _ _ _ rfl _ _ rfl rfl st1.out ?_) | (refine wpList_store_run _ rfl _ _ _ rfl _ _ rfl rfl st2.out ?_))
    (try simp only [Exit.inBlock, Exit.then])
    refine bodyPost_ret (results_cell2 _ rfl _ rfl rfl r1.out r2.out) rfl ?_
    exact ⟨by rw [HF.out, HG.out], HB.out⟩
  · have hci : ((x.length : Int) == 128) = false := by rw [beq_eq_false_iff_ne]; omega
    have HF := Lib.hid (show fstL x = z8 by rw [fstL, if_neg h128]; rfl)
    have HG := Lib.hid (show lstL x = z8 by rw [lstL, if_neg h128]; rfl)
    go_enter Tryd.func28, Tryd.ntmps28
    go_upto_region 4 with fail
    rw [← HW.out, ← HK.out]
    obtain ⟨e1, e2, h3⟩ := H.out
    have ld1 := Lib.hid (e1.loadAt z8_length)
    have ld2 := Lib.hid (e2.loadAt z8_length)
    have f1 : AB (w2.setRow k (cellsOf z8).toArray) k 51 z8 := e1.setRow _
    have f2 : AB (w2.setRow k (cellsOf z8).toArray) (k + 1) 51 z8 := e2.setOther (by omega) _
    have st1 := Lib.hid (e1.storeAt z8_length z8_length)
    have st2 := Lib.hid (f2.storeAt z8_length z8_length)
    have r1 := Lib.hid ((f1.setOther (by omega) (cellsOf z8).toArray : AB ((w2.setRow k (cellsOf z8).toArray).setRow (k + 1) (cellsOf z8).toArray) k 51 z8).loadS z8_length)
    have r2 := Lib.hid ((f2.setRow z8).loadS z8_length)
    have h4 := ((show Kp [k, k + 1] w w2 from Kp.of_below (HK.out ▸ h3) _).setRow (g := k) (.inl (by simp)) (cellsOf z8).toArray).setRow (g := k + 1) (.inl (by simp)) (cellsOf z8).toArray
    have HB := Lib.hid (h4.to_below (fun j hj => by have := HK.out; simp at hj; omega) (Nat.le_refl _))
    clear e1 e2 f1 f2 h3 h4 hk
    go_wp2_with (first | (refine wpList_load_run _ rfl _ _ rfl _ rfl ld1.out ?_) | (refine wpList_load_run _ rfl _ _ rfl _ rfl ld2.out ?_) | (refine wpList_store_run _ rfl _ _ _ rfl _ _ rfl rfl st1.out ?_) | (refine wpList_store_run _ rfl _ _ _ rfl _ _ rfl rfl st2.out ?_))
    (try simp only [Exit.inBlock, Exit.then])
    refine bodyPost_ret (results_cell2 _ rfl _ rfl rfl r1.out r2.out) rfl ?_
    exact ⟨by rw [HF.out, HG.out], HB.out⟩
end Go.Proofs.YteplndmgfaceiaaDoor
