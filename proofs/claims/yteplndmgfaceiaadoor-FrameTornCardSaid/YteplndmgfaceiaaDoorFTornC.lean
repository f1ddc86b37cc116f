/-
  FrameTorn: the walk.
-/
import Derived.Deep.CutRange
import Derived.Test.YteplndmgfaceiaaDoorFLaw
import Derived.Test.YteplndmgfaceiaaDoorFTornP
import Derived.Test.YteplndmgfaceiaaDoorFPut
import Derived.Test.YteplndmgfaceiaaDoorFGetB
namespace Go.Proofs.YteplndmgfaceiaaDoor
set_option linter.unusedSimpArgs false
set_option linter.unusedVariables false
open Go Go.RowKit
set_option maxRecDepth 100000

set_option maxHeartbeats 4000000 in
theorem frameTorn_walk (a b p q : Int) (s t : List UInt8) (z : Int) (wa : (Lit.int .i64 a).wf = true) (wb : (Lit.int .i64 b).wf = true) (wp : (Lit.int .i64 p).wf = true) (wq : (Lit.int .i64 q).wf = true)
    (hs : s.length ≤ 140737488351232) (ht : t.length ≤ 140737488351232) (wz : (Lit.int .i64 z).wf = true) {w : World} (hM : ML w) :
    Calls Tryd.prog 6 #[.int .i64 a, .int .i64 b, .int .i64 p, .int .i64 q, sv s, sv t, .int .i64 z] w fun e w' => e = .returned (.bool true) ∧ Below w.heap.size w w' := by
  obtain ⟨z0, z1⟩ := wf_bounds wz
  have AW := fun W => awake_any W
  clear wa wb wp wq wz
  by_cases h1 : (300 : Int) < (s.length : Int)
  · go_enter Tryd.func6, Tryd.ntmps6
    go_wp2_with (go_at_call 9; with_reducible refine (AW _).mono ?_; rintro e w1 ⟨rfl, hb1⟩)
    go_ret
    exact ⟨rfl, hb1⟩
  · by_cases h2 : (300 : Int) < (t.length : Int)
    · go_enter Tryd.func6, Tryd.ntmps6
      go_wp2_with (go_at_call 9; with_reducible refine (AW _).mono ?_; rintro e w1 ⟨rfl, hb1⟩)
      go_ret
      exact ⟨rfl, hb1⟩
    · have P1 := fun W => @put_top W a p s (by omega)
      have P2 := fun W => @put_top W b q t (by omega)
      obtain ⟨E1, hE1⟩ : ∃ e, e = putE a p s.length := ⟨_, rfl⟩
      obtain ⟨E2, hE2⟩ : ∃ e, e = putE b q t.length := ⟨_, rfl⟩
      obtain ⟨X, hX⟩ : ∃ e, e = putL a p s := ⟨_, rfl⟩
      obtain ⟨Y, hY⟩ : ∃ e, e = putL b q t := ⟨_, rfl⟩
      rw [← hE1, ← hX] at P1
      rw [← hE2, ← hY] at P2
      have HE1 := Lib.hid hE1
      have HE2 := Lib.hid hE2
      have HX := Lib.hid hX
      have HY := Lib.hid hY
      clear hE1 hE2 hX hY
      by_cases e1 : E1 = 0
      · by_cases e2 : E2 = 0
        · subst e1 e2
          by_cases hab : a = b ∧ p = q
          · obtain ⟨rfl, rfl⟩ := hab
            go_enter Tryd.func6, Tryd.ntmps6
            go_wp2_with (first | (go_at_call 9; with_reducible refine (AW _).mono ?_; rintro e w1 ⟨rfl, hb1⟩) | (go_at_call 10; with_reducible refine (P1 _).mono ?_; rintro e w2 ⟨rfl, hb2⟩) | (go_at_call 10; with_reducible refine (P2 _).mono ?_; rintro e w3 ⟨rfl, hb3⟩))
            go_ret
            have q2 := hb1.trans (hb2.mono hb1.size)
            exact ⟨rfl, q2.trans (hb3.mono q2.size)⟩
          · have hm1 := (putE_ok.1 HE1.out.symm).1
            have hm2 := (putE_ok.1 HE2.out.symm).1
            have hsl := (putE_ok.1 HE1.out.symm).2
            have htl := (putE_ok.1 HE2.out.symm).2
            obtain ⟨n, m, rfl, rfl, n1, n2, n3⟩ := mayB_nat hm1
            obtain ⟨n', m', rfl, rfl, m1, m2, m3⟩ := mayB_nat hm2
            have hXe : X = frL n m s := by rw [HX.out, putL, if_pos HE1.out.symm]; rfl
            have hYe : Y = frL n' m' t := by rw [HY.out, putL, if_pos HE2.out.symm]; rfl
            have HXI := Lib.hid (show isB X = true ∧ agL X = n ∧ plL X = m ∧ bodL X = (X.drop 8).take 112 from ⟨by rw [hXe]; exact is_frL ⟨n1, n2⟩ n3 hsl, by rw [hXe]; exact ag_frL ⟨n1, n2⟩ n3 hsl, by rw [hXe]; exact pl_frL ⟨n1, n2⟩ n3 hsl, by rw [bodL, if_pos (by rw [hXe]; exact is_frL ⟨n1, n2⟩ n3 hsl)]⟩)
            have HYI := Lib.hid (show isB Y = true ∧ agL Y = n' ∧ plL Y = m' ∧ bodL Y = (Y.drop 8).take 112 from ⟨by rw [hYe]; exact is_frL ⟨m1, m2⟩ m3 htl, by rw [hYe]; exact ag_frL ⟨m1, m2⟩ m3 htl, by rw [hYe]; exact pl_frL ⟨m1, m2⟩ m3 htl, by rw [bodL, if_pos (by rw [hYe]; exact is_frL ⟨m1, m2⟩ m3 htl)]⟩)
            have lX : X.length = 128 := by rw [hXe, frL_length hsl]
            have lY : Y.length = 128 := by rw [hYe, frL_length htl]
            obtain ⟨k, hk⟩ : ∃ k : Nat, (k : Int) = (z % 18446744073709551616) % 129 := ⟨((z % 18446744073709551616) % 129).toNat, by omega⟩
            have hK : wrap64 ((IntKind.u64.wrap z).tmod 129) = (k : Int) := by
              have hu : IntKind.u64.wrap z = z % 18446744073709551616 := by simp [IntKind.wrap, IntKind.bits, IntKind.signed]
              rw [hu, Int.tmod_eq_emod_of_nonneg (by omega), ← hk]
              exact wrap64_small (by omega) (by omega)
            have HK := Lib.hid hK
            have k0 : (0 : Int) ≤ (k : Int) := by omega
            have k1 : (k : Int) ≤ 128 := by omega
            have kn : k ≤ 128 := by omega
            have HTI := Lib.hid (fun hi => torn_is (k := k) hsl htl kn n2 m2 n3 m3 (fun h => hab ⟨by rw [h.1], by rw [h.2]⟩) hi)
            have HTA := Lib.hid (fun h => @torn_age n m n' m' k s t hsl htl kn h)
            rw [← hXe, ← hYe] at HTI HTA
            obtain ⟨A, hA⟩ : ∃ A, A = X.take k := ⟨_, rfl⟩
            obtain ⟨B, hB⟩ : ∃ B, B = Y.drop k := ⟨_, rfl⟩
            obtain ⟨Z, hZ⟩ : ∃ Z, Z = mixL k X Y := ⟨_, rfl⟩
            rw [← hZ] at HTI HTA
            have lA : A.length = k := by rw [hA, List.length_take, lX]; omega
            have lB : B.length = 128 - k := by rw [hB, List.length_drop, lY]
            have lZ : Z.length = 128 := by rw [hZ, mixL_length (by omega) (by omega), lX]
            have zX : (str X).size = 128 := by rw [sizeL, lX]
            have zY : (str Y).size = 128 := by rw [sizeL, lY]
            have zA : (str A).size = k := by rw [sizeL, lA]
            have zB : (str B).size = 128 - k := by rw [sizeL, lB]
            have eX : (str X).extract 0 k = str A := by rw [str_extract, hA]; rfl
            have eY : (str Y).extract k 128 = str B := by rw [str_extract, hB, List.take_of_length_le (by omega)]
            have eZ : str A ++ str B = str Z := by rw [str_append, hA, hB, hZ]; rfl
            have nb : ¬ 9223372036854775807 < k + (128 - k) := by omega
            have nb2 : ¬ (9223372036854775807 : Int) < (k : Int) + ((128 - k : Nat) : Int) := by omega
            obtain ⟨BX, hBX⟩ : ∃ B, B = (X.drop 8).take 112 := ⟨_, rfl⟩
            obtain ⟨BY, hBY⟩ : ∃ B, B = (Y.drop 8).take 112 := ⟨_, rfl⟩
            rw [← hBX] at HXI
            rw [← hBY] at HYI
            have xX : (str X).extract 8 120 = str BX := by rw [str_extract, hBX, List.drop_take]
            have xY : (str Y).extract 8 120 = str BY := by rw [str_extract, hBY, List.drop_take]
            have GE := fun W => @get_any W Z (by omega)
            clear hXe hYe hK hk lX lY hA hB hZ lA lB hBX hBY hm1 hm2
            have lZ' : Z.length ≤ 9223372036854775807 := by omega
            by_cases hne : (n : Int) = (n' : Int)
            · have d1 : ((n : Int) == (n' : Int)) = true := by rw [beq_iff_eq]; exact hne
              have d2 : ((m : Int) == (m' : Int)) = false := by rw [beq_eq_false_iff_ne]; intro e; exact hab ⟨hne, e⟩
              have d3 : ¬ (n' : Int) < (n : Int) := by omega
              clear hab hne
              cases hi : isB Z with
              | false =>
                rw [hi] at GE
                have x1 : (Z != X) = true := by rw [bne_iff_ne]; intro e; rw [e, HXI.out.1] at hi; cases hi
                have x2 : (Z != Y) = true := by rw [bne_iff_ne]; intro e; rw [e, HYI.out.1] at hi; cases hi
                have x3 : (Z == X) = false := by simpa [bne] using x1
                have x4 : (Z == Y) = false := by simpa [bne] using x2
                clear hi
                go_enter Tryd.func6, Tryd.ntmps6
                go_upto_region 8 with (first | (go_at_call 9; with_reducible refine (AW _).mono ?_; rintro e w1 ⟨rfl, hb1⟩) | (go_at_call 10; with_reducible refine (P1 _).mono ?_; rintro e w2 ⟨rfl, hb2⟩) | (go_at_call 10; with_reducible refine (P2 _).mono ?_; rintro e w3 ⟨rfl, hb3⟩))
                rw [HK.out]
                have q2 := hb1.trans (hb2.mono hb1.size)
                have HB := Lib.hid (q2.trans (hb3.mono q2.size))
                clear q2 hb1 hb2 hb3
                go_quiet (fail)
                go_wp2_with (first | (go_at_call 12; with_reducible refine (GE _).mono ?_; rintro e w4 ⟨rfl, hb4⟩))
                go_ret
                have q4 := (below_drewN HB.out _).trans (hb4.mono (below_drewN HB.out _).size)
                exact ⟨rfl, q4⟩
              | true =>
                rw [hi] at GE
                by_cases hx : Z = X
                · have x1 : (Z == X) = true := by rw [beq_iff_eq]; exact hx
                  have x2 : (Z != X) = false := by simp only [bne, x1]; rfl
                  obtain ⟨_, i1, i2, i3⟩ := HXI.out
                  rw [show agL Z = n from by rw [hx]; exact i1, show plL Z = m from by rw [hx]; exact i2, show bodL Z = BX from by rw [hx]; exact i3] at GE
                  clear hx hi i1 i2 i3
                  go_enter Tryd.func6, Tryd.ntmps6
                  go_upto_region 8 with (first | (go_at_call 9; with_reducible refine (AW _).mono ?_; rintro e w1 ⟨rfl, hb1⟩) | (go_at_call 10; with_reducible refine (P1 _).mono ?_; rintro e w2 ⟨rfl, hb2⟩) | (go_at_call 10; with_reducible refine (P2 _).mono ?_; rintro e w3 ⟨rfl, hb3⟩))
                  rw [HK.out]
                  have q2 := hb1.trans (hb2.mono hb1.size)
                  have HB := Lib.hid (q2.trans (hb3.mono q2.size))
                  clear q2 hb1 hb2 hb3
                  go_quiet (fail)
                  go_wp2_with (first | (go_at_call 12; with_reducible refine (GE _).mono ?_; rintro e w4 ⟨rfl, hb4⟩))
                  go_ret
                  have q4 := (below_drewN HB.out _).trans (hb4.mono (below_drewN HB.out _).size)
                  exact ⟨rfl, q4⟩
                · have x1 : (Z == X) = false := by rw [beq_eq_false_iff_ne]; exact hx
                  have x2 : (Z != X) = true := by simp only [bne, x1]; rfl
                  have hy : Z = Y := (HTI.out hi).resolve_left hx
                  have x3 : (Z == Y) = true := by rw [beq_iff_eq]; exact hy
                  have x4 : (Z != Y) = false := by simp only [bne, x3]; rfl
                  obtain ⟨_, i1, i2, i3⟩ := HYI.out
                  rw [show agL Z = n' from by rw [hy]; exact i1, show plL Z = m' from by rw [hy]; exact i2, show bodL Z = BY from by rw [hy]; exact i3] at GE
                  clear hx hy hi i1 i2 i3
                  go_enter Tryd.func6, Tryd.ntmps6
                  go_upto_region 8 with (first | (go_at_call 9; with_reducible refine (AW _).mono ?_; rintro e w1 ⟨rfl, hb1⟩) | (go_at_call 10; with_reducible refine (P1 _).mono ?_; rintro e w2 ⟨rfl, hb2⟩) | (go_at_call 10; with_reducible refine (P2 _).mono ?_; rintro e w3 ⟨rfl, hb3⟩))
                  rw [HK.out]
                  have q2 := hb1.trans (hb2.mono hb1.size)
                  have HB := Lib.hid (q2.trans (hb3.mono q2.size))
                  clear q2 hb1 hb2 hb3
                  go_quiet (fail)
                  go_wp2_with (first | (go_at_call 12; with_reducible refine (GE _).mono ?_; rintro e w4 ⟨rfl, hb4⟩))
                  go_ret
                  have q4 := (below_drewN HB.out _).trans (hb4.mono (below_drewN HB.out _).size)
                  exact ⟨rfl, q4⟩
            · have d1 : ((n : Int) == (n' : Int)) = false := by rw [beq_eq_false_iff_ne]; exact hne
              clear hab hne
              by_cases hgt : (n' : Int) < (n : Int)
              · have AG := fun W => @age_top W Z lZ'
                have d4 : ¬ (n : Int) < ((oldL Z : Nat) : Int) := by have := HTA.out (by omega); omega
                obtain ⟨O, hO⟩ : ∃ O, O = oldL Z := ⟨_, rfl⟩
                rw [← hO] at AG d4
                clear hO
                cases hi : isB Z with
                | false =>
                  rw [hi] at GE
                  have x1 : (Z != X) = true := by rw [bne_iff_ne]; intro e; rw [e, HXI.out.1] at hi; cases hi
                  have x2 : (Z != Y) = true := by rw [bne_iff_ne]; intro e; rw [e, HYI.out.1] at hi; cases hi
                  have x3 : (Z == X) = false := by simpa [bne] using x1
                  have x4 : (Z == Y) = false := by simpa [bne] using x2
                  clear hi
                  go_enter Tryd.func6, Tryd.ntmps6
                  go_upto_region 8 with (first | (go_at_call 9; with_reducible refine (AW _).mono ?_; rintro e w1 ⟨rfl, hb1⟩) | (go_at_call 10; with_reducible refine (P1 _).mono ?_; rintro e w2 ⟨rfl, hb2⟩) | (go_at_call 10; with_reducible refine (P2 _).mono ?_; rintro e w3 ⟨rfl, hb3⟩))
                  rw [HK.out]
                  have q2 := hb1.trans (hb2.mono hb1.size)
                  have HB := Lib.hid (q2.trans (hb3.mono q2.size))
                  clear q2 hb1 hb2 hb3
                  go_quiet (fail)
                  go_wp2_with (first | (go_at_call 12; with_reducible refine (GE _).mono ?_; rintro e w4 ⟨rfl, hb4⟩) | (go_at_call 14; with_reducible refine (AG _).mono ?_; rintro e w5 ⟨rfl, hb5⟩))
                  go_ret
                  have q4 := (below_drewN HB.out _).trans (hb4.mono (below_drewN HB.out _).size)
                  exact ⟨rfl, q4.trans (hb5.mono q4.size)⟩
                | true =>
                  rw [hi] at GE
                  by_cases hx : Z = X
                  · have x1 : (Z == X) = true := by rw [beq_iff_eq]; exact hx
                    have x2 : (Z != X) = false := by simp only [bne, x1]; rfl
                    obtain ⟨_, i1, i2, i3⟩ := HXI.out
                    rw [show agL Z = n from by rw [hx]; exact i1, show plL Z = m from by rw [hx]; exact i2, show bodL Z = BX from by rw [hx]; exact i3] at GE
                    clear hx hi i1 i2 i3
                    go_enter Tryd.func6, Tryd.ntmps6
                    go_upto_region 8 with (first | (go_at_call 9; with_reducible refine (AW _).mono ?_; rintro e w1 ⟨rfl, hb1⟩) | (go_at_call 10; with_reducible refine (P1 _).mono ?_; rintro e w2 ⟨rfl, hb2⟩) | (go_at_call 10; with_reducible refine (P2 _).mono ?_; rintro e w3 ⟨rfl, hb3⟩))
                    rw [HK.out]
                    have q2 := hb1.trans (hb2.mono hb1.size)
                    have HB := Lib.hid (q2.trans (hb3.mono q2.size))
                    clear q2 hb1 hb2 hb3
                    go_quiet (fail)
                    go_wp2_with (first | (go_at_call 12; with_reducible refine (GE _).mono ?_; rintro e w4 ⟨rfl, hb4⟩) | (go_at_call 14; with_reducible refine (AG _).mono ?_; rintro e w5 ⟨rfl, hb5⟩))
                    go_ret
                    have q4 := (below_drewN HB.out _).trans (hb4.mono (below_drewN HB.out _).size)
                    exact ⟨rfl, q4.trans (hb5.mono q4.size)⟩
                  · have x1 : (Z == X) = false := by rw [beq_eq_false_iff_ne]; exact hx
                    have x2 : (Z != X) = true := by simp only [bne, x1]; rfl
                    have hy : Z = Y := (HTI.out hi).resolve_left hx
                    have x3 : (Z == Y) = true := by rw [beq_iff_eq]; exact hy
                    have x4 : (Z != Y) = false := by simp only [bne, x3]; rfl
                    obtain ⟨_, i1, i2, i3⟩ := HYI.out
                    rw [show agL Z = n' from by rw [hy]; exact i1, show plL Z = m' from by rw [hy]; exact i2, show bodL Z = BY from by rw [hy]; exact i3] at GE
                    clear hx hy hi i1 i2 i3
                    go_enter Tryd.func6, Tryd.ntmps6
                    go_upto_region 8 with (first | (go_at_call 9; with_reducible refine (AW _).mono ?_; rintro e w1 ⟨rfl, hb1⟩) | (go_at_call 10; with_reducible refine (P1 _).mono ?_; rintro e w2 ⟨rfl, hb2⟩) | (go_at_call 10; with_reducible refine (P2 _).mono ?_; rintro e w3 ⟨rfl, hb3⟩))
                    rw [HK.out]
                    have q2 := hb1.trans (hb2.mono hb1.size)
                    have HB := Lib.hid (q2.trans (hb3.mono q2.size))
                    clear q2 hb1 hb2 hb3
                    go_quiet (fail)
                    go_wp2_with (first | (go_at_call 12; with_reducible refine (GE _).mono ?_; rintro e w4 ⟨rfl, hb4⟩) | (go_at_call 14; with_reducible refine (AG _).mono ?_; rintro e w5 ⟨rfl, hb5⟩))
                    go_ret
                    have q4 := (below_drewN HB.out _).trans (hb4.mono (below_drewN HB.out _).size)
                    exact ⟨rfl, q4.trans (hb5.mono q4.size)⟩
              · skip
                cases hi : isB Z with
                | false =>
                  rw [hi] at GE
                  have x1 : (Z != X) = true := by rw [bne_iff_ne]; intro e; rw [e, HXI.out.1] at hi; cases hi
                  have x2 : (Z != Y) = true := by rw [bne_iff_ne]; intro e; rw [e, HYI.out.1] at hi; cases hi
                  have x3 : (Z == X) = false := by simpa [bne] using x1
                  have x4 : (Z == Y) = false := by simpa [bne] using x2
                  clear hi
                  go_enter Tryd.func6, Tryd.ntmps6
                  go_upto_region 8 with (first | (go_at_call 9; with_reducible refine (AW _).mono ?_; rintro e w1 ⟨rfl, hb1⟩) | (go_at_call 10; with_reducible refine (P1 _).mono ?_; rintro e w2 ⟨rfl, hb2⟩) | (go_at_call 10; with_reducible refine (P2 _).mono ?_; rintro e w3 ⟨rfl, hb3⟩))
                  rw [HK.out]
                  have q2 := hb1.trans (hb2.mono hb1.size)
                  have HB := Lib.hid (q2.trans (hb3.mono q2.size))
                  clear q2 hb1 hb2 hb3
                  go_quiet (fail)
                  go_wp2_with (first | (go_at_call 12; with_reducible refine (GE _).mono ?_; rintro e w4 ⟨rfl, hb4⟩))
                  go_ret
                  have q4 := (below_drewN HB.out _).trans (hb4.mono (below_drewN HB.out _).size)
                  exact ⟨rfl, q4⟩
                | true =>
                  rw [hi] at GE
                  by_cases hx : Z = X
                  · have x1 : (Z == X) = true := by rw [beq_iff_eq]; exact hx
                    have x2 : (Z != X) = false := by simp only [bne, x1]; rfl
                    obtain ⟨_, i1, i2, i3⟩ := HXI.out
                    rw [show agL Z = n from by rw [hx]; exact i1, show plL Z = m from by rw [hx]; exact i2, show bodL Z = BX from by rw [hx]; exact i3] at GE
                    clear hx hi i1 i2 i3
                    go_enter Tryd.func6, Tryd.ntmps6
                    go_upto_region 8 with (first | (go_at_call 9; with_reducible refine (AW _).mono ?_; rintro e w1 ⟨rfl, hb1⟩) | (go_at_call 10; with_reducible refine (P1 _).mono ?_; rintro e w2 ⟨rfl, hb2⟩) | (go_at_call 10; with_reducible refine (P2 _).mono ?_; rintro e w3 ⟨rfl, hb3⟩))
                    rw [HK.out]
                    have q2 := hb1.trans (hb2.mono hb1.size)
                    have HB := Lib.hid (q2.trans (hb3.mono q2.size))
                    clear q2 hb1 hb2 hb3
                    go_quiet (fail)
                    go_wp2_with (first | (go_at_call 12; with_reducible refine (GE _).mono ?_; rintro e w4 ⟨rfl, hb4⟩))
                    go_ret
                    have q4 := (below_drewN HB.out _).trans (hb4.mono (below_drewN HB.out _).size)
                    exact ⟨rfl, q4⟩
                  · have x1 : (Z == X) = false := by rw [beq_eq_false_iff_ne]; exact hx
                    have x2 : (Z != X) = true := by simp only [bne, x1]; rfl
                    have hy : Z = Y := (HTI.out hi).resolve_left hx
                    have x3 : (Z == Y) = true := by rw [beq_iff_eq]; exact hy
                    have x4 : (Z != Y) = false := by simp only [bne, x3]; rfl
                    obtain ⟨_, i1, i2, i3⟩ := HYI.out
                    rw [show agL Z = n' from by rw [hy]; exact i1, show plL Z = m' from by rw [hy]; exact i2, show bodL Z = BY from by rw [hy]; exact i3] at GE
                    clear hx hy hi i1 i2 i3
                    go_enter Tryd.func6, Tryd.ntmps6
                    go_upto_region 8 with (first | (go_at_call 9; with_reducible refine (AW _).mono ?_; rintro e w1 ⟨rfl, hb1⟩) | (go_at_call 10; with_reducible refine (P1 _).mono ?_; rintro e w2 ⟨rfl, hb2⟩) | (go_at_call 10; with_reducible refine (P2 _).mono ?_; rintro e w3 ⟨rfl, hb3⟩))
                    rw [HK.out]
                    have q2 := hb1.trans (hb2.mono hb1.size)
                    have HB := Lib.hid (q2.trans (hb3.mono q2.size))
                    clear q2 hb1 hb2 hb3
                    go_quiet (fail)
                    go_wp2_with (first | (go_at_call 12; with_reducible refine (GE _).mono ?_; rintro e w4 ⟨rfl, hb4⟩))
                    go_ret
                    have q4 := (below_drewN HB.out _).trans (hb4.mono (below_drewN HB.out _).size)
                    exact ⟨rfl, q4⟩
        · have e2' : (E2 != 0) = true := by rw [bne_iff_ne]; exact e2
          subst e1
          go_enter Tryd.func6, Tryd.ntmps6
          go_wp2_with (first | (go_at_call 9; with_reducible refine (AW _).mono ?_; rintro e w1 ⟨rfl, hb1⟩) | (go_at_call 10; with_reducible refine (P1 _).mono ?_; rintro e w2 ⟨rfl, hb2⟩) | (go_at_call 10; with_reducible refine (P2 _).mono ?_; rintro e w3 ⟨rfl, hb3⟩))
          go_ret
          have q2 := hb1.trans (hb2.mono hb1.size)
          exact ⟨rfl, q2.trans (hb3.mono q2.size)⟩
      · have e1' : (E1 != 0) = true := by rw [bne_iff_ne]; exact e1
        go_enter Tryd.func6, Tryd.ntmps6
        go_wp2_with (first | (go_at_call 9; with_reducible refine (AW _).mono ?_; rintro e w1 ⟨rfl, hb1⟩) | (go_at_call 10; with_reducible refine (P1 _).mono ?_; rintro e w2 ⟨rfl, hb2⟩) | (go_at_call 10; with_reducible refine (P2 _).mono ?_; rintro e w3 ⟨rfl, hb3⟩))
        go_ret
        have q2 := hb1.trans (hb2.mono hb1.size)
        exact ⟨rfl, q2.trans (hb3.mono q2.size)⟩
end Go.Proofs.YteplndmgfaceiaaDoor

