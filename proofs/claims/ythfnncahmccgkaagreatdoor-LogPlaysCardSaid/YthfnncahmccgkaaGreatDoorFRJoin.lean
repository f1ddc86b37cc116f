/-
  The reference's Join.
-/
import Derived.Deep.CutRange
import Derived.Test.YthfnncahmccgkaaGreatDoorFRsM
import Derived.Test.YthfnncahmccgkaaGreatDoorFJnM
import Derived.Test.YthfnncahmccgkaaGreatDoorFBack
namespace Go.Proofs.YthfnncahmccgkaaGreatDoor
set_option linter.unusedSimpArgs false
set_option linter.unusedVariables false
open Go Go.RowKit
set_option maxRecDepth 100000

theorem zeros_drop {L : List UInt8} {j : Nat} (h : ∀ i, j ≤ i → i < L.length → L.getD i 0 = 0) : zerosB (L.drop j) = true := by
  unfold zerosB
  rw [List.all_eq_true]
  intro x hx
  obtain ⟨i, hi, rfl⟩ := List.getElem_of_mem hx
  rw [List.length_drop] at hi
  rw [List.getElem_drop]
  have := h (j + i) (by omega) (by omega)
  rw [getD_str _ _ (by omega)] at this
  rw [this]
  rfl
theorem zeros_not {L : List UInt8} {j i : Nat} (hj : j ≤ i) (hi : i < L.length) (h : L.getD i 0 ≠ 0) : zerosB (L.drop j) = false := by
  cases hz : zerosB (L.drop j) with
  | false => rfl
  | true =>
    exfalso
    unfold zerosB at hz
    rw [List.all_eq_true] at hz
    have hm : L.getD i 0 ∈ L.drop j := by
      rw [getD_str _ _ hi]
      have e : L[i] = (L.drop j)[i - j]'(by rw [List.length_drop]; omega) := by rw [List.getElem_drop]; congr 1; omega
      rw [e]
      exact List.getElem_mem _
    have := hz _ hm
    simp at this
    exact h (by simpa using this)

set_option maxHeartbeats 8000000 in
theorem rjoin_any {w : World} (l : List (List UInt8)) (A : Option Addr) (c : Nat) (a p : Int) (ht : Tx w A l) (hx : ∀ x ∈ l, x.length ≤ 9223372036854775807) (hl : l.length ≤ 140737488351232)
    (hp0 : -9223372036854775808 ≤ p) (hp1 : p ≤ 9223372036854775807) :
    Calls Tryz.prog 76 #[.slice A l.length c, .int .i64 a, .int .i64 p] w (JoPost w l a p) := by
  have HT := Lib.hid ht
  have GA := Lib.hid (fun W i (hi : i < l.length) => @rget_any W (l.getD i []) (by
    rw [List.getD_eq_getElem?_getD, List.getElem?_eq_getElem hi]
    exact hx _ (List.getElem_mem hi)))
  clear ht hx
  by_cases hl0 : l.length = 0
  · have hci : ((l.length : Int) == 0) = true := by rw [hl0]; rfl
    have HN := Lib.hid (show ¬ JoinIs l a p from not_first (l := l) (a := a) (p := p) (partB_out (by omega)))
    clear hl0
    go_enter Tryz.func76, Tryz.ntmps76
    go_wp2_with fail
    go_ret3
    exact JoPost.no HN.out (Below.refl _ _)
  · have hci : ((l.length : Int) == 0) = false := by rw [beq_eq_false_iff_ne]; omega
    have hl1 : 0 < l.length := by omega
    have hl1' : (0 : Int) < (l.length : Int) := by omega
    obtain ⟨b0, o0, rfl, c0⟩ := HT.out.cell hl1
    rw [Nat.add_zero] at c0
    have GE := fun W => GA.out W 0 hl1
    have HP0 := Lib.hid (partB_at (l := l) (a := a) (p := p) hl1)
    obtain ⟨x0, hx0⟩ : ∃ x, x = l.getD 0 [] := ⟨_, rfl⟩
    rw [← hx0] at c0 GE HP0
    cases his : isB x0 with
    | false =>
      rw [his] at GE
      have HN := Lib.hid (show ¬ JoinIs l a p from not_first (by rw [HP0.out, his]; rfl))
      have HBL := Lib.hid (Below.refl w.heap.size w)
      generalize agL x0 = ag at GE
      generalize plL x0 = pl at GE
      generalize bodL x0 = bo at GE
      clear his hx0 hl0
      go_enter Tryz.func76, Tryz.ntmps76
      go_wp2_with (go_at_call 75; with_reducible refine (GE _).mono ?_; rintro e w5 ⟨rfl, hb5⟩)
      go_ret3
      exact JoPost.no HN.out (HBL.out.trans (hb5.mono HBL.out.size))
    | true =>
      rw [his] at GE
      have hlen : (bodL x0).length = 112 := bodL_length his
      have hn2 : numL ((bodL x0).take 2) = fstN l := by rw [fstN, ← hx0]
      have hl2 : numL (((bodL x0).drop 2).take 4) = fstLong l := by rw [fstLong, ← hx0]
      have hnlt : fstN l < 65536 := by have := numL_lt ((bodL x0).take 2); rw [hn2, List.length_take, hlen] at this; exact this
      have hllt : fstLong l < 4294967296 := by have := numL_lt (((bodL x0).drop 2).take 4); rw [hl2, List.length_take, List.length_drop, hlen] at this; exact this
      obtain ⟨n, hne⟩ : ∃ n, n = fstN l := ⟨_, rfl⟩
      obtain ⟨g, hge⟩ : ∃ g, g = fstLong l := ⟨_, rfl⟩
      have C1 : ∀ W, Calls Tryz.prog 92 #[sv ((bodL x0).take 2)] W fun e w' => e = .returned (.int .i64 n) ∧ w' = W := fun W => (rnumber_any _ (by simp; omega)).mono fun e w' h => ⟨by rw [h.1, hn2, hne], h.2.symm⟩
      have C2 : ∀ W, Calls Tryz.prog 92 #[sv (((bodL x0).drop 2).take 4)] W fun e w' => e = .returned (.int .i64 g) ∧ w' = W := fun W => (rnumber_any _ (by simp; omega)).mono fun e w' h => ⟨by rw [h.1, hl2, hge], h.2.symm⟩
      have MN := fun W => @rmany_any W (g : Int) (by omega) (by omega)
      rw [manyI_nat] at MN
      rw [← hne] at hnlt
      rw [← hge] at hllt
      have HNE := Lib.hid hne
      have HGE := Lib.hid hge
      generalize agL x0 = ag at GE
      generalize plL x0 = pl at GE
      obtain ⟨bo, hbo⟩ : ∃ b, b = bodL x0 := ⟨_, rfl⟩
      rw [← hbo] at GE C1 C2 hlen
      have zb : (str bo).size = 112 := by show bo.toArray.size = _; simpa using hlen
      have y1 : (str bo).extract 0 2 = str (bo.take 2) := by rw [str_extract]; rfl
      have y2 : (str bo).extract 2 6 = str ((bo.drop 2).take 4) := by rw [str_extract, List.drop_take]
      obtain ⟨D1, hD1⟩ : ∃ b, b = bo.take 2 := ⟨_, rfl⟩
      obtain ⟨D2, hD2⟩ : ∃ b, b = (bo.drop 2).take 4 := ⟨_, rfl⟩
      rw [← hD1] at C1 y1
      rw [← hD2] at C2 y2
      clear hn2 hl2 hne hge hbo his hx0 hD1 hD2 hl0 hlen
      obtain ⟨m, hmm⟩ : ∃ m, m = manyN g := ⟨_, rfl⟩
      rw [← hmm] at MN
      by_cases hm : m = n
      · by_cases hln : l.length < n
        · have hm' : ((m : Int) != (n : Int)) = false := by rw [hm]; simp
          have hln' : (l.length : Int) < (n : Int) := by omega
          have HN := Lib.hid (show ¬ JoinIs l a p from fun h => by
            have := h.2.1 l.length (by rw [← HNE.out]; exact hln)
            rw [partB_out (by omega)] at this; cases this)
          clear hm hmm
          go_enter Tryz.func76, Tryz.ntmps76
          go_wp2_with (go_at_call 75; with_reducible refine (GE _).mono ?_; rintro e w5 ⟨rfl, hb5⟩)
          go_quiet ((first | (go_at_call 92; with_reducible exact Calls.quiet_of_same (C1 _)) | (go_at_call 92; with_reducible exact Calls.quiet_of_same (C2 _))))
          go_wp2_with (go_at_call 93; with_reducible refine (MN _).mono ?_; rintro e w6 ⟨rfl, rfl⟩)
          go_ret3
          exact JoPost.no HN.out (below_drewN hb5 _)
        · have hroom : 6 + g ≤ 112 * n := by rw [← hm, hmm]; exact manyN_ge g
          have HM := Lib.hid (show n = manyN g by rw [← hm, hmm])
          have hm' : ((m : Int) != (n : Int)) = false := by rw [hm]; simp
          have hln' : ¬ (l.length : Int) < (n : Int) := by omega
          clear hm hmm
          go_enter Tryz.func76, Tryz.ntmps76
          go_wp2_with (go_at_call 75; with_reducible refine (GE _).mono ?_; rintro e w5 ⟨rfl, hb5⟩)
          go_quiet ((first | (go_at_call 92; with_reducible exact Calls.quiet_of_same (C1 _)) | (go_at_call 92; with_reducible exact Calls.quiet_of_same (C2 _))))
          go_wp2_with (go_at_call 93; with_reducible refine (MN _).mono ?_; rintro e w6 ⟨rfl, rfl⟩)
          have HB5 := Lib.hid (below_drewN hb5 nq)
          clear hb5 GE C1 C2 MN y1 y2 zb hm' c0
          go_loopw [15, 16] (fun t i wr => ∃ k : Nat, k ≤ n ∧ t = sv (bodies l k) ∧ i = .int .i64 k ∧ allP l k a p ∧ Below w.heap.size w wr) (fun _ i _ => n - (intOf i).toNat)
          case atStart => exact ⟨0, by omega, by rw [bodies_zero], rfl, fun i hi => by omega, HB5.out⟩
          case round =>
            obtain ⟨k, hk, rfl, rfl, hall, hbl⟩ := hrel
            have HALL := Lib.hid hall
            have HBL := Lib.hid hbl
            have hbL := bodies_length hall
            clear hall hbl
            by_cases hlt : k < n
            · have hlt' : (k : Int) < (n : Int) := by omega
              have hkl : k < l.length := by omega
              have hkl' : (k : Int) < (l.length : Int) := by omega
              obtain ⟨b1, o1, e1, c1⟩ := (HT.out.below HBL.out).cell hkl
              simp only [Option.some.injEq, Addr.mk.injEq, and_true] at e1
              obtain ⟨rfl, rfl⟩ := e1
              have GE := fun W => GA.out W k hkl
              have hB := partB_at (a := a) (p := p) hkl
              have HBS := Lib.hid (@bodies_succ l k (l.getD k []) (by rw [List.getD_eq_getElem?_getD, List.getElem?_eq_getElem hkl]; rfl))
              obtain ⟨x, hxe⟩ : ∃ x, x = l.getD k [] := ⟨_, rfl⟩
              rw [← hxe] at c1 hB GE HBS
              have HXL := Lib.hid (@bodL_length x)
              obtain ⟨ag, hag⟩ : ∃ n, n = agL x := ⟨_, rfl⟩
              obtain ⟨pl, hpl⟩ : ∃ n, n = plL x := ⟨_, rfl⟩
              obtain ⟨bd, hbd⟩ : ∃ n, n = bodL x := ⟨_, rfl⟩
              rw [← hag, ← hpl] at hB GE
              rw [← hbd] at GE HBS HXL
              have hplt : pl < 4294967296 := by rw [hpl]; unfold plL; split; exact plN_lt _; omega
              clear hag hpl hbd hxe
              obtain ⟨BL, hBL⟩ : ∃ t, t = bodies l k := ⟨_, rfl⟩
              rw [← hBL] at hbL HBS ⊢
              clear hBL
              cases his : isB x with
              | false =>
                rw [his] at GE hB
                have HN := Lib.hid (show ¬ JoinIs l a p from fun h => by have := h.2.1 k (by rw [← HNE.out]; exact hlt); rw [hB] at this; simp at this)
                clear hB his
                go_wp2_with (go_at_call 75; with_reducible refine (GE _).mono ?_; rintro e w5 ⟨rfl, hb5⟩)
                go_ret3
                exact JoPost.no HN.out (HBL.out.trans (hb5.mono HBL.out.size))
              | true =>
                rw [his] at GE hB
                by_cases q1 : (ag : Int) = a
                · have q1' : ((ag : Int) != a) = false := by rw [q1]; simp
                  by_cases q2 : (pl : Int) = p + k
                  · have q2' : ((pl : Int) != p + k) = false := by rw [q2]; simp
                    have hov : p + k ≤ 9223372036854775807 := by omega
                    have hov2 : -9223372036854775808 ≤ p + k := by omega
                    have HAN := Lib.hid (show allP l (k + 1) a p from fun i hi => by
                      by_cases e : i = k
                      · rw [e, hB]; simp [q1, q2]
                      · exact HALL.out i (by omega))
                    have hbd := HXL.out his
                    have zB : (str BL).size = 112 * k := by show BL.toArray.size = _; simpa using hbL
                    have zD : (str bd).size = 112 := by show bd.toArray.size = _; simpa using hbd
                    have hadd : str BL ++ str bd = str (BL ++ bd) := str_append _ _
                    have nb : ¬ 9223372036854775807 < 112 * k + 112 := by omega
                    have nb2 : ¬ (9223372036854775807 : Int) < 112 * (k : Int) + 112 := by omega
                    clear hB his hbL hbd q1 q2
                    go_wp2_with (go_at_call 75; with_reducible refine (GE _).mono ?_; rintro e w5 ⟨rfl, hb5⟩)
                    go_roundw
                    case rel => exact ⟨k + 1, by omega, by rw [HBS.out], by go_num, HAN.out, HBL.out.trans (hb5.mono HBL.out.size)⟩
                    case measure => simp [intOf]; omega
                  · have HN := Lib.hid (show ¬ JoinIs l a p from fun h => by have := h.2.1 k (by rw [← HNE.out]; exact hlt); rw [hB] at this; simp [q2] at this)
                    clear hB his
                    by_cases hov : p + k ≤ 9223372036854775807
                    · have q2' : ((pl : Int) != p + k) = true := by rw [bne_iff_ne]; exact q2
                      have hov2 : -9223372036854775808 ≤ p + k := by omega
                      clear q2
                      go_wp2_with (go_at_call 75; with_reducible refine (GE _).mono ?_; rintro e w5 ⟨rfl, hb5⟩)
                      go_ret3
                      exact JoPost.no HN.out (HBL.out.trans (hb5.mono HBL.out.size))
                    · have hw := wrap64_high (z := p + k) (by omega) (by omega)
                      have q2' : ((pl : Int) != wrap64 (p + k)) = true := by rw [bne_iff_ne]; omega
                      clear q2
                      go_wp2_with (go_at_call 75; with_reducible refine (GE _).mono ?_; rintro e w5 ⟨rfl, hb5⟩)
                      go_ret3
                      exact JoPost.no HN.out (HBL.out.trans (hb5.mono HBL.out.size))
                · have q1' : ((ag : Int) != a) = true := by rw [bne_iff_ne]; exact q1
                  have HN := Lib.hid (show ¬ JoinIs l a p from fun h => by have := h.2.1 k (by rw [← HNE.out]; exact hlt); rw [hB] at this; simp [q1] at this)
                  clear hB his q1
                  go_wp2_with (go_at_call 75; with_reducible refine (GE _).mono ?_; rintro e w5 ⟨rfl, hb5⟩)
                  go_ret3
                  exact JoPost.no HN.out (HBL.out.trans (hb5.mono HBL.out.size))
            · obtain rfl : k = n := by omega
              obtain ⟨L, hL⟩ : ∃ t, t = bodies l k := ⟨_, rfl⟩
              have HL := Lib.hid hL
              rw [← hL] at hbL ⊢
              have zL : (str L).size = L.length := by show L.toArray.size = _; simp
              have q3 : (6 : Int) + (g : Int) ≤ 9223372036854775807 := by omega
              clear hL hlt hk
              go_wp2_with fail
              go_loopw [21] (fun i wr => ∃ j : Nat, 6 + g ≤ j ∧ j ≤ L.length ∧ i = .int .i64 j ∧ (∀ u, 6 + g ≤ u → u < j → L.getD u 0 = 0) ∧ Below w.heap.size w wr) (fun i _ => L.length - (intOf i).toNat)
              case atStart => exact ⟨6 + g, Nat.le_refl _, by omega, by push_cast; rfl, fun u h1 h2 => by omega, HBL.out⟩
              case round =>
                obtain ⟨j, hj1, hj2, rfl, hz, hbl⟩ := hrel
                have HZ := Lib.hid hz
                have HBL2 := Lib.hid hbl
                clear hz hbl
                by_cases hlt : j < L.length
                · have hlt' : (j : Int) < (L.length : Int) := by omega
                  have hg := str_getD L j hlt (by rw [zL]; exact hlt)
                  obtain ⟨x, hx⟩ : ∃ x, x = L.getD j 0 := ⟨_, rfl⟩
                  rw [← hx] at hg
                  by_cases hx0 : x = 0
                  · have HN2 := Lib.hid (show ∀ u, 6 + g ≤ u → u < j + 1 → L.getD u 0 = 0 from fun u h1 h2 => by
                      by_cases e : u = j
                      · rw [e, ← hx, hx0]
                      · exact HZ.out u h1 (by omega))
                    subst hx0
                    clear hx
                    go_wp2_with fail
                    go_roundw
                    case rel => exact ⟨j + 1, by omega, by omega, by go_num, HN2.out, HBL2.out⟩
                    case measure => simp [intOf]; omega
                  · have HN := Lib.hid (show ¬ JoinIs l a p from fun h => by
                      have h3 := h.2.2
                      rw [← HNE.out, ← HGE.out, ← HL.out, zeros_not hj1 hlt (by rw [← hx]; exact hx0)] at h3
                      cases h3)
                    have hxn : ((x.toNat : Int) != 0) = true := by rw [bne_iff_ne]; intro e; exact hx0 (by rw [← UInt8.toNat_inj]; simpa using e)
                    clear hx hx0
                    go_wp2_with fail
                    go_ret3
                    exact JoPost.no HN.out HBL2.out
                · obtain rfl : j = L.length := by omega
                  have HJ := Lib.hid (show JoinIs l a p from ⟨by rw [← HNE.out, ← HGE.out]; exact HM.out, by rw [← HNE.out]; exact HALL.out, by rw [← HNE.out, ← HGE.out, ← HL.out]; exact zeros_drop (fun i h1 h2 => HZ.out i h1 h2)⟩)
                  obtain ⟨X, hX⟩ : ∃ X, X = (L.take (6 + g)).drop 6 := ⟨_, rfl⟩
                  have HXX := Lib.hid (show (L.drop 6).take g = X by rw [hX, List.drop_take, show 6 + g - 6 = g by omega])
                  have x1 : (str L).extract 6 (6 + g) = str X := by rw [str_extract, hX]
                  have q1 : (6 : Int) ≤ 6 + (g : Int) := by omega
                  have q2 : (6 : Int) + (g : Int) ≤ (L.length : Int) := by omega
                  have HSL : (Instr.slice 9 (sv L) (some (.int .i64 6)) (some (.int .i64 (6 + (g : Int)))) none).run Tryz.prog wr = .ok (sv X) wr := slice_str (w := wr) L 6 (6 + g) X (by omega) (by omega) hX.symm
                  clear hX hlt
                  go_wp2_with fail
                  go_ret3
                  exact JoPost.yes HJ.out (by rw [← HNE.out, ← HGE.out, ← HL.out]; exact HXX.out) HNE.out.symm HBL2.out
      · have hm' : ((m : Int) != (n : Int)) = true := by rw [bne_iff_ne]; omega
        have HN := Lib.hid (show ¬ JoinIs l a p from fun h => hm (by rw [hmm, HNE.out, HGE.out]; exact h.1.symm))
        clear hm hmm
        go_enter Tryz.func76, Tryz.ntmps76
        go_wp2_with (go_at_call 75; with_reducible refine (GE _).mono ?_; rintro e w5 ⟨rfl, hb5⟩)
        go_quiet ((first | (go_at_call 92; with_reducible exact Calls.quiet_of_same (C1 _)) | (go_at_call 92; with_reducible exact Calls.quiet_of_same (C2 _))))
        go_wp2_with (go_at_call 93; with_reducible refine (MN _).mono ?_; rintro e w6 ⟨rfl, rfl⟩)
        go_ret3
        exact JoPost.no HN.out (below_drewN hb5 _)
end Go.Proofs.YthfnncahmccgkaaGreatDoor

