/-
  The reference's Many, Get, Age.
-/
import Derived.Test.YteplndmgfaceiaaDoorFRef
import Derived.Test.YteplndmgfaceiaaDoorFPut
namespace Go.Proofs.YteplndmgfaceiaaDoor
set_option linter.unusedSimpArgs false
set_option linter.unusedVariables false
open Go Go.RowKit
set_option maxRecDepth 100000

theorem results_tmp4' {fn : Func} {t u v x : Tmp} (h : fn.results = #[.tmp t, .tmp u, .tmp v, .tmp x]) (tmps : Array Value) (P : Program) (w : World) :
    (results fn tmps).run P w = .ok (.tuple #[tmps.getD t undef, tmps.getD u undef, tmps.getD v undef, tmps.getD x undef]) w := by
  simp [results, h]
set_option maxHeartbeats 2000000 in
theorem rmany_any {w : World} (z : Int) (h0 : -9223372036854775808 ≤ z) (h1 : z ≤ 9223372036854775807) : Calls Tryd.prog 20 #[.int .i64 z] w fun e w' => e = .returned (.int .i64 (manyI z)) ∧ w = w' := by
  by_cases h : z < 0
  · have HE := Lib.hid (show manyI z = 0 by simp [manyI, h])
    go_enter Tryd.func20, Tryd.ntmps20
    go_wp2_with fail
    go_ret
    exact ⟨by rw [HE.out]; rfl, rfl⟩
  · obtain ⟨n, rfl⟩ : ∃ n : Nat, z = n := ⟨z.toNat, by omega⟩
    have HE := Lib.hid (show manyI (n : Int) = manyN n by unfold manyI; rw [if_neg (by omega)]; simp)
    by_cases h2 : (112 : Int) < (n : Int) % 112 + 6
    · have HM := Lib.hid (show (n : Int) / 112 + 2 = (manyN n : Nat) by unfold manyN; omega)
      go_enter Tryd.func20, Tryd.ntmps20
      go_wp2_with fail
      go_ret
      refine ⟨?_, rfl⟩
      rw [HE.out, ← HM.out]
      rfl
    · have HM := Lib.hid (show (n : Int) / 112 + 1 = (manyN n : Nat) by unfold manyN; omega)
      go_enter Tryd.func20, Tryd.ntmps20
      go_wp2_with fail
      go_ret
      refine ⟨?_, rfl⟩
      rw [HE.out, ← HM.out]
      rfl
theorem isB_ref (x : List UInt8) (h : x.length = 128) : isB x = ((x.take 8 == x.drop 120) && mayB (numL (x.take 4)) (numL ((x.take 8).drop 4))) := by
  unfold isB fstL lstL
  rw [if_pos h, if_pos h]
  congr 2
  · unfold ageN
    rw [List.take_take]
    rfl
  · unfold plN
    rw [List.take_of_length_le (l := List.drop 4 _) (by simp; omega)]

set_option maxHeartbeats 4000000 in
theorem rget_any {w : World} (x : List UInt8) (hx : x.length ≤ 9223372036854775807) : Calls Tryd.prog 13 #[sv x] w fun e w' => e = .returned (.tuple #[.int .i64 (agL x), .int .i64 (plL x), sv (bodL x), .bool (isB x)]) ∧ Below w.heap.size w w' := by
  have zx : (str x).size = x.length := by show x.toArray.size = _; simp
  by_cases h128 : x.length = 128
  · rw [h128] at zx
    have n1 : ((128 : Int) != 128) = false := rfl
    have C1 : ∀ W, Calls Tryd.prog 32 #[sv (x.take 4)] W fun e w' => e = .returned (.int .i64 (numL (x.take 4))) ∧ w' = W := fun W => (rnumber_any _ (by simp; omega)).mono fun e w' h => ⟨h.1, h.2.symm⟩
    have C2 : ∀ W, Calls Tryd.prog 32 #[sv ((x.take 8).drop 4)] W fun e w' => e = .returned (.int .i64 (numL ((x.take 8).drop 4))) ∧ w' = W := fun W => (rnumber_any _ (by simp; omega)).mono fun e w' h => ⟨h.1, h.2.symm⟩
    have x1 : (str x).extract 0 8 = str (x.take 8) := by rw [str_extract]; rfl
    have x2 : (str x).extract 120 128 = str (x.drop 120) := by rw [str_extract, List.take_of_length_le (by omega)]
    have x3 : (str x).extract 0 4 = str (x.take 4) := by rw [str_extract]; rfl
    have x4 : (str x).extract 4 8 = str ((x.take 8).drop 4) := by rw [str_extract]
    have x5 : (str x).extract 8 120 = str ((x.drop 8).take 112) := by rw [str_extract, List.drop_take]
    have HI := Lib.hid (isB_ref x h128)
    have HA := Lib.hid (show isB x = true → agL x = numL (x.take 4) from fun h => by rw [agL, if_pos h, fstL, if_pos h128, ageN, List.take_take]; rfl)
    have HP := Lib.hid (show isB x = true → plL x = numL ((x.take 8).drop 4) from fun h => by rw [plL, if_pos h, fstL, if_pos h128, plN, List.take_of_length_le (l := List.drop 4 _) (by simp; omega)])
    have HD := Lib.hid (show isB x = true → bodL x = (x.drop 8).take 112 from fun h => by rw [bodL, if_pos h])
    have HN := Lib.hid (show isB x = false → agL x = 0 ∧ plL x = 0 ∧ bodL x = [] from fun h => by simp [agL, plL, bodL, h])
    obtain ⟨N1, hN1⟩ : ∃ N, N = numL (x.take 4) := ⟨_, rfl⟩
    obtain ⟨N2, hN2⟩ : ∃ N, N = numL ((x.take 8).drop 4) := ⟨_, rfl⟩
    rw [← hN1] at C1 HA HI
    rw [← hN2] at C2 HP HI
    have MA : ∀ W, Calls Tryd.prog 26 #[.int .i64 N1, .int .i64 N2] W fun e w' => e = .returned (.bool (mayB N1 N2)) ∧ w' = W := fun W => (rmay_any (N1 : Int) (N2 : Int) W).mono fun e w' h => ⟨h.1, h.2.symm⟩
    clear hN1 hN2
    obtain ⟨A, hA⟩ : ∃ A, A = x.take 8 := ⟨_, rfl⟩
    obtain ⟨B, hB⟩ : ∃ A, A = x.drop 120 := ⟨_, rfl⟩
    obtain ⟨D, hD⟩ : ∃ A, A = x.take 4 := ⟨_, rfl⟩
    obtain ⟨E, hE⟩ : ∃ A, A = (x.take 8).drop 4 := ⟨_, rfl⟩
    obtain ⟨F, hF⟩ : ∃ A, A = (x.drop 8).take 112 := ⟨_, rfl⟩
    rw [← hA, ← hB] at HI
    rw [← hE] at x4 C2
    rw [← hA] at x1
    rw [← hB] at x2
    rw [← hD] at x3 C1
    rw [← hF] at x5 HD
    clear hA hB hD hE hF
    cases hab : A == B with
    | false =>
      have m1 : (A != B) = true := by simp only [bne, hab]; rfl
      have HI2 := Lib.hid (show isB x = false by rw [HI.out, hab]; rfl)
      go_enter Tryd.func13, Tryd.ntmps13
      go_wp2_with fail
      go_quiet (fail)
      go_wp2_with fail
      (try simp only [Exit.inBlock, Exit.then])
      refine bodyPost_ret (results_tmp4' rfl _ _ _) rfl ?_
      obtain ⟨q1, q2, q3⟩ := HN.out HI2.out
      exact ⟨by rw [q1, q2, q3, HI2.out]; rfl, below_drewN (Below.refl _ _) _⟩
    | true =>
      obtain rfl : A = B := by simpa using hab
      cases hm : mayB N1 N2 with
      | false =>
        rw [hm] at MA
        have HI2 := Lib.hid (show isB x = false by rw [HI.out, hm]; simp)
        clear hab hm
        go_enter Tryd.func13, Tryd.ntmps13
        go_wp2_with fail
        go_quiet ((first | (go_at_call 32; with_reducible exact Calls.quiet_of_same (C1 _)) | (go_at_call 32; with_reducible exact Calls.quiet_of_same (C2 _)) | (go_at_call 26; with_reducible exact Calls.quiet_of_same (MA _))))
        go_wp2_with fail
        (try simp only [Exit.inBlock, Exit.then])
        refine bodyPost_ret (results_tmp4' rfl _ _ _) rfl ?_
        obtain ⟨q1, q2, q3⟩ := HN.out HI2.out
        exact ⟨by rw [q1, q2, q3, HI2.out]; rfl, below_drewN (Below.refl _ _) _⟩
      | true =>
        rw [hm] at MA
        have HI2 := Lib.hid (show isB x = true by rw [HI.out, hm, hab]; rfl)
        clear hab hm
        go_enter Tryd.func13, Tryd.ntmps13
        go_wp2_with fail
        go_quiet ((first | (go_at_call 32; with_reducible exact Calls.quiet_of_same (C1 _)) | (go_at_call 32; with_reducible exact Calls.quiet_of_same (C2 _)) | (go_at_call 26; with_reducible exact Calls.quiet_of_same (MA _))))
        go_wp2_with fail
        rename_i nq K2 a2
        have HBq := Lib.hid (below_drewN (Below.refl w.heap.size w) nq)
        generalize w.drewN nq = wq at HBq ⊢
        go_quiet ((first | (go_at_call 32; with_reducible exact Calls.quiet_of_same (C1 _)) | (go_at_call 32; with_reducible exact Calls.quiet_of_same (C2 _))))
        go_wp2_with fail
        (try simp only [Exit.inBlock, Exit.then])
        refine bodyPost_ret (results_tmp4' rfl _ _ _) rfl ?_
        exact ⟨by rw [HA.out HI2.out, HP.out HI2.out, HD.out HI2.out, HI2.out]; rfl, below_drewN HBq.out _⟩
  · have n1 : ((x.length : Int) != 128) = true := by rw [bne_iff_ne]; omega
    have HI2 := Lib.hid (show isB x = false from by
      cases h : isB x with
      | false => rfl
      | true => exact absurd (isB_len h) h128)
    have HN := Lib.hid (show isB x = false → agL x = 0 ∧ plL x = 0 ∧ bodL x = [] from fun h => by simp [agL, plL, bodL, h])
    go_enter Tryd.func13, Tryd.ntmps13
    go_wp2_with fail
    go_quiet (fail)
    go_wp2_with fail
    (try simp only [Exit.inBlock, Exit.then])
    refine bodyPost_ret (results_tmp4' rfl _ _ _) rfl ?_
    obtain ⟨q1, q2, q3⟩ := HN.out HI2.out
    exact ⟨by rw [q1, q2, q3, HI2.out]; rfl, below_drewN (Below.refl _ _) _⟩

set_option maxHeartbeats 4000000 in
theorem rage_any {w : World} (x : List UInt8) (hx : x.length ≤ 9223372036854775807) : Calls Tryd.prog 15 #[sv x] w fun e w' => e = .returned (.int .i64 (oldL x)) ∧ Below w.heap.size w w' := by
  have zx : (str x).size = x.length := by show x.toArray.size = _; simp
  by_cases h128 : x.length = 128
  · rw [h128] at zx
    have n1 : ((128 : Int) != 128) = false := rfl
    have C1 : ∀ W, Calls Tryd.prog 32 #[sv (x.take 4)] W fun e w' => e = .returned (.int .i64 (numL (x.take 4))) ∧ w' = W := fun W => (rnumber_any _ (by simp; omega)).mono fun e w' h => ⟨h.1, h.2.symm⟩
    have C2 : ∀ W, Calls Tryd.prog 32 #[sv ((x.drop 120).take 4)] W fun e w' => e = .returned (.int .i64 (numL ((x.drop 120).take 4))) ∧ w' = W := fun W => (rnumber_any _ (by simp; omega)).mono fun e w' h => ⟨h.1, h.2.symm⟩
    have x3 : (str x).extract 0 4 = str (x.take 4) := by rw [str_extract]; rfl
    have x4 : (str x).extract 120 124 = str ((x.drop 120).take 4) := by rw [str_extract, List.drop_take]
    have HO := Lib.hid (show oldL x = max (numL (x.take 4)) (numL ((x.drop 120).take 4)) by
      rw [oldL, fstL, if_pos h128, lstL, if_pos h128, ageN, ageN, List.take_take]; rfl)
    obtain ⟨N1, hN1⟩ : ∃ N, N = numL (x.take 4) := ⟨_, rfl⟩
    obtain ⟨N2, hN2⟩ : ∃ N, N = numL ((x.drop 120).take 4) := ⟨_, rfl⟩
    rw [← hN1] at C1 HO
    rw [← hN2] at C2 HO
    clear hN1 hN2
    obtain ⟨D, hD⟩ : ∃ A, A = x.take 4 := ⟨_, rfl⟩
    obtain ⟨E, hE⟩ : ∃ A, A = (x.drop 120).take 4 := ⟨_, rfl⟩
    rw [← hE] at x4 C2
    rw [← hD] at x3 C1
    clear hD hE
    go_enter Tryd.func15, Tryd.ntmps15
    go_wp2_with fail
    go_quiet ((first | (go_at_call 32; with_reducible exact Calls.quiet_of_same (C1 _)) | (go_at_call 32; with_reducible exact Calls.quiet_of_same (C2 _))))
    go_wp2_with fail
    all_goals go_ret
    all_goals refine ⟨?_, below_drewN (Below.refl _ _) _⟩
    all_goals rw [HO.out]
    all_goals first
      | (show Ending.returned (Value.int .i64 (max (N1 : Int) N2)) = _; congr 2; omega)
      | (show Ending.returned (Value.int .i64 (N1 : Int)) = _; congr 2; omega)
      | (show Ending.returned (Value.int .i64 (N2 : Int)) = _; congr 2; omega)
  · have n1 : ((x.length : Int) != 128) = true := by rw [bne_iff_ne]; omega
    have HO := Lib.hid (show oldL x = 0 by rw [oldL, fstL, if_neg h128, lstL, if_neg h128, ageN_zero]; rfl)
    go_enter Tryd.func15, Tryd.ntmps15
    go_wp2_with fail
    go_ret
    exact ⟨by rw [HO.out]; rfl, Below.refl _ _⟩
end Go.Proofs.YteplndmgfaceiaaDoor
