/-
  The contract of package reply's statusOf.
-/
import Derived.Test.YtanfonpbnamjmaaDoorYStat
namespace Go.Proofs.YtanfonpbnamjmaaDoor
open Go Go.RowKit Go.Shelf
set_option maxRecDepth 100000

theorem statOk_no {code : Nat} {t : List UInt8} (h : statOk code t = false) : statR code t = [] := by unfold statR; rw [h]; rfl
theorem statOk_yes {code : Nat} {t : List UInt8} (h : statOk code t = true) : statR code t = t.take (cutE t) := by unfold statR; rw [h]; rfl
theorem end_prefix {t : List UInt8} {n : Nat} (h : n < t.length) : Lib.hasPrefix (t.drop n) [32] = (t.getD n 0 == 32) := by
  rw [List.drop_eq_getElem_cons h, getD_str t n h]
  generalize t[n] = b
  generalize t.drop (n + 1) = l
  show (32 == b && true) = (b == 32)
  rw [Bool.and_true, Bool.eq_iff_iff, beq_iff_eq, beq_iff_eq]
  exact eq_comm

set_option maxHeartbeats 16000000 in
theorem stat_any (code : Nat) (t : List UInt8) (w : World) (h0 : 200 ≤ code) (h1 : code ≤ 599) (ht : t.length ≤ 1000000) (hw : LW w) :
    Calls Tryd.prog 55 #[.int .i64 (code : Int), sv t] w fun e w' => e = .returned (sv (statR code t)) ∧ Below w.heap.size w w' := by
  obtain ⟨H1, H2, H3, H4, H5⟩ := cut_le t
  obtain ⟨k, hk⟩ : ∃ k, k = w.heap.size := ⟨_, rfl⟩
  obtain ⟨W, hW⟩ : ∃ W, W = (w.alloc (.cells #[sv t] 9)).alloc (.cells #[.int .i64 0] 3) := ⟨_, rfl⟩
  have b0 : Bx ((w.alloc (.cells #[sv t] 9)).alloc (.cells #[.int .i64 0] 3)) (k + 1) (.int .i64 0) 3 := by
    have := Bx.new (w.alloc (.cells #[sv t] 9)) (.int .i64 0) 3
    rwa [World.size_alloc, ← hk] at this
  have b1 : Bx ((w.alloc (.cells #[sv t] 9)).alloc (.cells #[.int .i64 0] 3)) k (sv t) 9 := by rw [hk]; exact (Bx.new w (sv t) 9).alloc _
  have x0 : Bx W (k + 1) (.int .i64 ((0 : Nat) : Int)) 3 := by rw [hW]; exact b0
  have y0 : Bx W k (sv t) 9 := by rw [hW]; exact b1
  have hbel : Below k w W := by
    rw [hW, hk]
    exact ((Below.refl _ w).alloc (Nat.le_refl _) _).alloc (by simp) _
  have hwW : LW W := by rw [hk] at hbel; exact hw.below hbel
  have H3K := Lib.hid (show 4 + 1 ≤ k by rw [hk]; exact hw.pos)
  have HBEL := Lib.hid hbel
  have HK := Lib.hid hk
  have X0 := Lib.hid x0
  have Y0 := Lib.hid y0
  have HWW := Lib.hid hwW
  have f0 := b0.free
  have f1 := b0.cell
  have HH1 := Lib.hid H1; have HH2 := Lib.hid H2; have HH3 := Lib.hid H3; have HH4 := Lib.hid H4; have HH5 := Lib.hid H5
  have H00 := Lib.hid h0; have H01 := Lib.hid h1; have HT := Lib.hid ht
  rw [hk] at f0 f1
  clear hk hbel x0 y0 hw hwW b0 b1 H1 H2 H3 H4 H5 h0 h1 ht
  go_enter Tryd.func55, Tryd.ntmps55

  go_wp2_with fail
  rw [← HK.out, ← hW]
  have HWE := Lib.hid hW
  clear hW f0 f1
  refine (on_any [48, 49, 50, 51, 52, 53, 54, 55, 56, 57] t (0) (k + 1) k W (Nat.zero_le _) HT.out X0.out Y0.out (by omega)).mono ?_
  rintro e W1 ⟨rfl, hx, hkp⟩
  have hc : 0 + runC (fun b => ([48, 49, 50, 51, 52, 53, 54, 55, 56, 57] : List UInt8).contains b) (t.drop (0)) = cutA t := by rw [Nat.zero_add, List.drop_zero]; rfl
  rw [hc] at hx ⊢
  have X1 := Lib.hid hx
  have Y1 := Lib.hid (bx_kp Y0.out hkp (by simp))
  have K1 := Lib.hid hkp
  clear hx hkp hc
  go_wp2_with fail
  refine (on_any [46] t (cutA t) (k + 1) k W1 (by have := HH1.out; have := HH2.out; have := HH3.out; have := HH4.out; have := HH5.out; omega) HT.out X1.out Y1.out (by omega)).mono ?_
  rintro e W2 ⟨rfl, hx, hkp⟩
  have hc : cutA t + runC (fun b => ([46] : List UInt8).contains b) (t.drop (cutA t)) = cutB t := rfl
  rw [hc] at hx ⊢
  have X2 := Lib.hid hx
  have Y2 := Lib.hid (bx_kp Y1.out hkp (by simp))
  have K2 := Lib.hid ((K1.out).trans hkp (fun _ h _ => h))
  clear hx hkp hc
  go_wp2_with fail
  refine (on_any [48, 49, 50, 51, 52, 53, 54, 55, 56, 57] t (cutB t) (k + 1) k W2 (by have := HH1.out; have := HH2.out; have := HH3.out; have := HH4.out; have := HH5.out; omega) HT.out X2.out Y2.out (by omega)).mono ?_
  rintro e W3 ⟨rfl, hx, hkp⟩
  have hc : cutB t + runC (fun b => ([48, 49, 50, 51, 52, 53, 54, 55, 56, 57] : List UInt8).contains b) (t.drop (cutB t)) = cutC t := rfl
  rw [hc] at hx ⊢
  have X3 := Lib.hid hx
  have Y3 := Lib.hid (bx_kp Y2.out hkp (by simp))
  have K3 := Lib.hid ((K2.out).trans hkp (fun _ h _ => h))
  clear hx hkp hc
  go_wp2_with fail
  refine (on_any [46] t (cutC t) (k + 1) k W3 (by have := HH1.out; have := HH2.out; have := HH3.out; have := HH4.out; have := HH5.out; omega) HT.out X3.out Y3.out (by omega)).mono ?_
  rintro e W4 ⟨rfl, hx, hkp⟩
  have hc : cutC t + runC (fun b => ([46] : List UInt8).contains b) (t.drop (cutC t)) = cutD t := rfl
  rw [hc] at hx ⊢
  have X4 := Lib.hid hx
  have Y4 := Lib.hid (bx_kp Y3.out hkp (by simp))
  have K4 := Lib.hid ((K3.out).trans hkp (fun _ h _ => h))
  clear hx hkp hc
  go_wp2_with fail
  refine (on_any [48, 49, 50, 51, 52, 53, 54, 55, 56, 57] t (cutD t) (k + 1) k W4 (by have := HH1.out; have := HH2.out; have := HH3.out; have := HH4.out; have := HH5.out; omega) HT.out X4.out Y4.out (by omega)).mono ?_
  rintro e W5 ⟨rfl, hx, hkp⟩
  have hc : cutD t + runC (fun b => ([48, 49, 50, 51, 52, 53, 54, 55, 56, 57] : List UInt8).contains b) (t.drop (cutD t)) = cutE t := rfl
  rw [hc] at hx ⊢
  have X5 := Lib.hid hx
  have Y5 := Lib.hid (bx_kp Y4.out hkp (by simp))
  have K5 := Lib.hid ((K4.out).trans hkp (fun _ h _ => h))
  clear hx hkp hc
  have HWL := Lib.hid (show LW W5 from (HWW.out).kp K5.out (fun x hx => by have := H3K.out; simp only [List.mem_singleton] at hx; omega))
  have c1 := (X5.out).cell
  have c2 := (Y5.out).cell
  have HTL := Lib.hid (show t.length ≤ 1000000 from HT.out)
  have hE5 := HH5.out
  have p0 : ∀ i j : Nat, (piece t i j).length ≤ 1000000 := fun i j => by
    unfold piece
    rw [List.length_drop, List.length_take]
    have := HT.out
    omega
  have PP := Lib.hid p0
  clear p0
  obtain ⟨n, hn⟩ : ∃ n, n = cutE t := ⟨_, rfl⟩
  obtain ⟨q1, hq1⟩ : ∃ q, q = piece t 0 (cutA t) := ⟨_, rfl⟩
  obtain ⟨q2, hq2⟩ : ∃ q, q = piece t (cutA t) (cutB t) := ⟨_, rfl⟩
  obtain ⟨q3, hq3⟩ : ∃ q, q = piece t (cutB t) (cutC t) := ⟨_, rfl⟩
  obtain ⟨q4, hq4⟩ : ∃ q, q = piece t (cutC t) (cutD t) := ⟨_, rfl⟩
  obtain ⟨q5, hq5⟩ : ∃ q, q = piece t (cutD t) (cutE t) := ⟨_, rfl⟩
  have HST := Lib.hid (show statOk code t = (classC q1 code && q2 == [46] && partC q3 && q4 == [46] && partC q5 && endC t) by rw [hq1, hq2, hq3, hq4, hq5]; rfl)
  have I1 := Lib.hid (isClass_any q1 code W5 H00.out H01.out HWL.out)
  have I3 := Lib.hid (fun w => isPart_any q3 w (by rw [hq3]; exact PP.out _ _))
  have I5 := Lib.hid (fun w => isPart_any q5 w (by rw [hq5]; exact PP.out _ _))
  have HNE := Lib.hid (show endC t = (decide (t.length ≤ n) || t.getD n 0 == 32) by rw [hn]; rfl)
  have HYES := Lib.hid (fun h => show statR code t = t.take n by rw [hn]; exact statOk_yes h)
  have HXN := Lib.hid (show Bx W5 (k + 1) (.int .i64 (n : Int)) 3 by rw [hn]; exact X5.out)
  rw [← hn] at c1 hE5
  rw [← hq1, ← hq2, ← hq3, ← hq4, ← hq5]
  clear hn hq1 hq2 hq3 hq4 hq5
  have HB5 := Lib.hid (show Below w.heap.size w W5 by
    rw [← HK.out]
    exact (HBEL.out).trans (K5.out.to_below (fun x hx => by simp only [List.mem_singleton] at hx; omega) (HBEL.out.size |> Nat.le_trans (by rw [HK.out]; exact Nat.le_refl _))))
  have HS5 := Lib.hid (show w.heap.size ≤ W5.heap.size from HB5.out.size)
  have HCL := Lib.hid (fun w => clone_call (t.take n) w (by rw [List.length_take]; have := HT.out; omega))
  have htk : (str t).extract 0 n = str (t.take n) := by rw [str_extract]; rfl
  have HP := Lib.hid (fun w => (prefix_call (t.drop n) [32] w))
  have hsl : (str t).extract n t.length = str (t.drop n) := by rw [str_extract, List.take_length]
  by_cases hE : n = t.length
  · have HG := Lib.hid (show endC t = true by rw [HNE.out, decide_eq_true (by omega)]; rfl)
    have e1 : ((n : Int) == t.length) = true := by rw [beq_iff_eq]; omega
    clear hE
    cases hA : classC q1 code
    · have HA := Lib.hid hA
      clear hA
      have HFIN := Lib.hid (show statR code t = [] from statOk_no (by rw [HST.out, HA.out]; simp))
      go_wp2_with first
        | (go_at_call 83; refine (HP.out W5).mono ?_; rintro e w1 ⟨rfl, rfl⟩)
        | (go_at_call 85; refine (I1.out).mono ?_; rintro e w6 ⟨rfl, hb⟩; rw [HA.out]; have n1 := ((HXN.out).below hb (HXN.out).lt).cell; have n2 := ((Y5.out).below hb (Y5.out).lt).cell; have HW6 := Lib.hid hb; clear hb)
        | (go_at_call 86; with_reducible refine (I3.out _).mono ?_; rintro e w1 ⟨rfl, rfl⟩; rw [HC.out])
        | (go_at_call 86; with_reducible refine (I5.out _).mono ?_; rintro e w1 ⟨rfl, rfl⟩; rw [HE.out])
        | (go_at_call 62; refine (HCL.out _).mono ?_; rintro e w7 ⟨rfl, hb⟩; have HW7 := Lib.hid hb; clear hb)
      go_ret
      rw [HFIN.out]
      exact ⟨rfl, (HB5.out).trans ((HW6.out).mono HS5.out)⟩
    · have HA := Lib.hid hA
      clear hA
      cases hB : q2 == [46]
      · have hB2 : (q2 != [46]) = true := by simp only [bne, hB]; rfl
        have HFIN := Lib.hid (show statR code t = [] from statOk_no (by rw [HST.out, hB]; simp))
        go_wp2_with first
          | (go_at_call 83; refine (HP.out W5).mono ?_; rintro e w1 ⟨rfl, rfl⟩)
          | (go_at_call 85; refine (I1.out).mono ?_; rintro e w6 ⟨rfl, hb⟩; rw [HA.out]; have n1 := ((HXN.out).below hb (HXN.out).lt).cell; have n2 := ((Y5.out).below hb (Y5.out).lt).cell; have HW6 := Lib.hid hb; clear hb)
          | (go_at_call 86; with_reducible refine (I3.out _).mono ?_; rintro e w1 ⟨rfl, rfl⟩; rw [HC.out])
          | (go_at_call 86; with_reducible refine (I5.out _).mono ?_; rintro e w1 ⟨rfl, rfl⟩; rw [HE.out])
          | (go_at_call 62; refine (HCL.out _).mono ?_; rintro e w7 ⟨rfl, hb⟩; have HW7 := Lib.hid hb; clear hb)
        go_ret
        rw [HFIN.out]
        exact ⟨rfl, (HB5.out).trans ((HW6.out).mono HS5.out)⟩
      · have hB2 : (q2 != [46]) = false := by simp only [bne, hB]; rfl
        cases hC : partC q3
        · have HC := Lib.hid hC
          clear hC
          have HFIN := Lib.hid (show statR code t = [] from statOk_no (by rw [HST.out, HC.out]; simp))
          go_wp2_with first
            | (go_at_call 83; refine (HP.out W5).mono ?_; rintro e w1 ⟨rfl, rfl⟩)
            | (go_at_call 85; refine (I1.out).mono ?_; rintro e w6 ⟨rfl, hb⟩; rw [HA.out]; have n1 := ((HXN.out).below hb (HXN.out).lt).cell; have n2 := ((Y5.out).below hb (Y5.out).lt).cell; have HW6 := Lib.hid hb; clear hb)
            | (go_at_call 86; with_reducible refine (I3.out _).mono ?_; rintro e w1 ⟨rfl, rfl⟩; rw [HC.out])
            | (go_at_call 86; with_reducible refine (I5.out _).mono ?_; rintro e w1 ⟨rfl, rfl⟩; rw [HE.out])
            | (go_at_call 62; refine (HCL.out _).mono ?_; rintro e w7 ⟨rfl, hb⟩; have HW7 := Lib.hid hb; clear hb)
          go_ret
          rw [HFIN.out]
          exact ⟨rfl, (HB5.out).trans ((HW6.out).mono HS5.out)⟩
        · have HC := Lib.hid hC
          clear hC
          cases hD : q4 == [46]
          · have hD2 : (q4 != [46]) = true := by simp only [bne, hD]; rfl
            have HFIN := Lib.hid (show statR code t = [] from statOk_no (by rw [HST.out, hD]; simp))
            go_wp2_with first
              | (go_at_call 83; refine (HP.out W5).mono ?_; rintro e w1 ⟨rfl, rfl⟩)
              | (go_at_call 85; refine (I1.out).mono ?_; rintro e w6 ⟨rfl, hb⟩; rw [HA.out]; have n1 := ((HXN.out).below hb (HXN.out).lt).cell; have n2 := ((Y5.out).below hb (Y5.out).lt).cell; have HW6 := Lib.hid hb; clear hb)
              | (go_at_call 86; with_reducible refine (I3.out _).mono ?_; rintro e w1 ⟨rfl, rfl⟩; rw [HC.out])
              | (go_at_call 86; with_reducible refine (I5.out _).mono ?_; rintro e w1 ⟨rfl, rfl⟩; rw [HE.out])
              | (go_at_call 62; refine (HCL.out _).mono ?_; rintro e w7 ⟨rfl, hb⟩; have HW7 := Lib.hid hb; clear hb)
            go_ret
            rw [HFIN.out]
            exact ⟨rfl, (HB5.out).trans ((HW6.out).mono HS5.out)⟩
          · have hD2 : (q4 != [46]) = false := by simp only [bne, hD]; rfl
            cases hE : partC q5
            · have HE := Lib.hid hE
              clear hE
              have HFIN := Lib.hid (show statR code t = [] from statOk_no (by rw [HST.out, HE.out]; simp))
              go_wp2_with first
                | (go_at_call 83; refine (HP.out W5).mono ?_; rintro e w1 ⟨rfl, rfl⟩)
                | (go_at_call 85; refine (I1.out).mono ?_; rintro e w6 ⟨rfl, hb⟩; rw [HA.out]; have n1 := ((HXN.out).below hb (HXN.out).lt).cell; have n2 := ((Y5.out).below hb (Y5.out).lt).cell; have HW6 := Lib.hid hb; clear hb)
                | (go_at_call 86; with_reducible refine (I3.out _).mono ?_; rintro e w1 ⟨rfl, rfl⟩; rw [HC.out])
                | (go_at_call 86; with_reducible refine (I5.out _).mono ?_; rintro e w1 ⟨rfl, rfl⟩; rw [HE.out])
                | (go_at_call 62; refine (HCL.out _).mono ?_; rintro e w7 ⟨rfl, hb⟩; have HW7 := Lib.hid hb; clear hb)
              go_ret
              rw [HFIN.out]
              exact ⟨rfl, (HB5.out).trans ((HW6.out).mono HS5.out)⟩
            · have HE := Lib.hid hE
              clear hE
              have HFIN := Lib.hid (show statR code t = t.take n from HYES.out (by rw [HST.out, HA.out, hB, HC.out, hD, HE.out, HG.out]; rfl))
              go_wp2_with first
                | (go_at_call 83; refine (HP.out W5).mono ?_; rintro e w1 ⟨rfl, rfl⟩)
                | (go_at_call 85; refine (I1.out).mono ?_; rintro e w6 ⟨rfl, hb⟩; rw [HA.out]; have n1 := ((HXN.out).below hb (HXN.out).lt).cell; have n2 := ((Y5.out).below hb (Y5.out).lt).cell; have HW6 := Lib.hid hb; clear hb)
                | (go_at_call 86; with_reducible refine (I3.out _).mono ?_; rintro e w1 ⟨rfl, rfl⟩; rw [HC.out])
                | (go_at_call 86; with_reducible refine (I5.out _).mono ?_; rintro e w1 ⟨rfl, rfl⟩; rw [HE.out])
                | (go_at_call 62; refine (HCL.out _).mono ?_; rintro e w7 ⟨rfl, hb⟩; have HW7 := Lib.hid hb; clear hb)
              go_ret
              rw [HFIN.out]
              exact ⟨rfl, (HB5.out).trans ((HW6.out).mono HS5.out |>.trans ((HW7.out).mono (by have := HS5.out; have := (HW6.out).size; omega)))⟩
  · have hlt : n < t.length := by omega
    have e1 : ((n : Int) == t.length) = false := by rw [beq_eq_false_iff_ne]; omega
    rw [end_prefix hlt] at HP
    cases hg : (t.getD n 0 == 32)
    · have HG := Lib.hid (show endC t = false by rw [HNE.out, decide_eq_false (by omega), hg]; rfl)
      rw [hg] at HP
      clear hg hE
      cases hA : classC q1 code
      · have HA := Lib.hid hA
        clear hA
        have HFIN := Lib.hid (show statR code t = [] from statOk_no (by rw [HST.out, HA.out]; simp))
        go_wp2_with first
          | (go_at_call 83; refine (HP.out W5).mono ?_; rintro e w1 ⟨rfl, rfl⟩)
          | (go_at_call 85; refine (I1.out).mono ?_; rintro e w6 ⟨rfl, hb⟩; rw [HA.out]; have n1 := ((HXN.out).below hb (HXN.out).lt).cell; have n2 := ((Y5.out).below hb (Y5.out).lt).cell; have HW6 := Lib.hid hb; clear hb)
          | (go_at_call 86; with_reducible refine (I3.out _).mono ?_; rintro e w1 ⟨rfl, rfl⟩; rw [HC.out])
          | (go_at_call 86; with_reducible refine (I5.out _).mono ?_; rintro e w1 ⟨rfl, rfl⟩; rw [HE.out])
          | (go_at_call 62; refine (HCL.out _).mono ?_; rintro e w7 ⟨rfl, hb⟩; have HW7 := Lib.hid hb; clear hb)
        go_ret
        rw [HFIN.out]
        exact ⟨rfl, (HB5.out).trans ((HW6.out).mono HS5.out)⟩
      · have HA := Lib.hid hA
        clear hA
        cases hB : q2 == [46]
        · have hB2 : (q2 != [46]) = true := by simp only [bne, hB]; rfl
          have HFIN := Lib.hid (show statR code t = [] from statOk_no (by rw [HST.out, hB]; simp))
          go_wp2_with first
            | (go_at_call 83; refine (HP.out W5).mono ?_; rintro e w1 ⟨rfl, rfl⟩)
            | (go_at_call 85; refine (I1.out).mono ?_; rintro e w6 ⟨rfl, hb⟩; rw [HA.out]; have n1 := ((HXN.out).below hb (HXN.out).lt).cell; have n2 := ((Y5.out).below hb (Y5.out).lt).cell; have HW6 := Lib.hid hb; clear hb)
            | (go_at_call 86; with_reducible refine (I3.out _).mono ?_; rintro e w1 ⟨rfl, rfl⟩; rw [HC.out])
            | (go_at_call 86; with_reducible refine (I5.out _).mono ?_; rintro e w1 ⟨rfl, rfl⟩; rw [HE.out])
            | (go_at_call 62; refine (HCL.out _).mono ?_; rintro e w7 ⟨rfl, hb⟩; have HW7 := Lib.hid hb; clear hb)
          go_ret
          rw [HFIN.out]
          exact ⟨rfl, (HB5.out).trans ((HW6.out).mono HS5.out)⟩
        · have hB2 : (q2 != [46]) = false := by simp only [bne, hB]; rfl
          cases hC : partC q3
          · have HC := Lib.hid hC
            clear hC
            have HFIN := Lib.hid (show statR code t = [] from statOk_no (by rw [HST.out, HC.out]; simp))
            go_wp2_with first
              | (go_at_call 83; refine (HP.out W5).mono ?_; rintro e w1 ⟨rfl, rfl⟩)
              | (go_at_call 85; refine (I1.out).mono ?_; rintro e w6 ⟨rfl, hb⟩; rw [HA.out]; have n1 := ((HXN.out).below hb (HXN.out).lt).cell; have n2 := ((Y5.out).below hb (Y5.out).lt).cell; have HW6 := Lib.hid hb; clear hb)
              | (go_at_call 86; with_reducible refine (I3.out _).mono ?_; rintro e w1 ⟨rfl, rfl⟩; rw [HC.out])
              | (go_at_call 86; with_reducible refine (I5.out _).mono ?_; rintro e w1 ⟨rfl, rfl⟩; rw [HE.out])
              | (go_at_call 62; refine (HCL.out _).mono ?_; rintro e w7 ⟨rfl, hb⟩; have HW7 := Lib.hid hb; clear hb)
            go_ret
            rw [HFIN.out]
            exact ⟨rfl, (HB5.out).trans ((HW6.out).mono HS5.out)⟩
          · have HC := Lib.hid hC
            clear hC
            cases hD : q4 == [46]
            · have hD2 : (q4 != [46]) = true := by simp only [bne, hD]; rfl
              have HFIN := Lib.hid (show statR code t = [] from statOk_no (by rw [HST.out, hD]; simp))
              go_wp2_with first
                | (go_at_call 83; refine (HP.out W5).mono ?_; rintro e w1 ⟨rfl, rfl⟩)
                | (go_at_call 85; refine (I1.out).mono ?_; rintro e w6 ⟨rfl, hb⟩; rw [HA.out]; have n1 := ((HXN.out).below hb (HXN.out).lt).cell; have n2 := ((Y5.out).below hb (Y5.out).lt).cell; have HW6 := Lib.hid hb; clear hb)
                | (go_at_call 86; with_reducible refine (I3.out _).mono ?_; rintro e w1 ⟨rfl, rfl⟩; rw [HC.out])
                | (go_at_call 86; with_reducible refine (I5.out _).mono ?_; rintro e w1 ⟨rfl, rfl⟩; rw [HE.out])
                | (go_at_call 62; refine (HCL.out _).mono ?_; rintro e w7 ⟨rfl, hb⟩; have HW7 := Lib.hid hb; clear hb)
              go_ret
              rw [HFIN.out]
              exact ⟨rfl, (HB5.out).trans ((HW6.out).mono HS5.out)⟩
            · have hD2 : (q4 != [46]) = false := by simp only [bne, hD]; rfl
              cases hE : partC q5
              · have HE := Lib.hid hE
                clear hE
                have HFIN := Lib.hid (show statR code t = [] from statOk_no (by rw [HST.out, HE.out]; simp))
                go_wp2_with first
                  | (go_at_call 83; refine (HP.out W5).mono ?_; rintro e w1 ⟨rfl, rfl⟩)
                  | (go_at_call 85; refine (I1.out).mono ?_; rintro e w6 ⟨rfl, hb⟩; rw [HA.out]; have n1 := ((HXN.out).below hb (HXN.out).lt).cell; have n2 := ((Y5.out).below hb (Y5.out).lt).cell; have HW6 := Lib.hid hb; clear hb)
                  | (go_at_call 86; with_reducible refine (I3.out _).mono ?_; rintro e w1 ⟨rfl, rfl⟩; rw [HC.out])
                  | (go_at_call 86; with_reducible refine (I5.out _).mono ?_; rintro e w1 ⟨rfl, rfl⟩; rw [HE.out])
                  | (go_at_call 62; refine (HCL.out _).mono ?_; rintro e w7 ⟨rfl, hb⟩; have HW7 := Lib.hid hb; clear hb)
                go_ret
                rw [HFIN.out]
                exact ⟨rfl, (HB5.out).trans ((HW6.out).mono HS5.out)⟩
              · have HE := Lib.hid hE
                clear hE
                have HFIN := Lib.hid (show statR code t = [] from statOk_no (by rw [HST.out, HG.out, Bool.and_false]))
                go_wp2_with first
                  | (go_at_call 83; refine (HP.out W5).mono ?_; rintro e w1 ⟨rfl, rfl⟩)
                  | (go_at_call 85; refine (I1.out).mono ?_; rintro e w6 ⟨rfl, hb⟩; rw [HA.out]; have n1 := ((HXN.out).below hb (HXN.out).lt).cell; have n2 := ((Y5.out).below hb (Y5.out).lt).cell; have HW6 := Lib.hid hb; clear hb)
                  | (go_at_call 86; with_reducible refine (I3.out _).mono ?_; rintro e w1 ⟨rfl, rfl⟩; rw [HC.out])
                  | (go_at_call 86; with_reducible refine (I5.out _).mono ?_; rintro e w1 ⟨rfl, rfl⟩; rw [HE.out])
                  | (go_at_call 62; refine (HCL.out _).mono ?_; rintro e w7 ⟨rfl, hb⟩; have HW7 := Lib.hid hb; clear hb)
                go_ret
                rw [HFIN.out]
                exact ⟨rfl, (HB5.out).trans ((HW6.out).mono HS5.out)⟩
    · have HG := Lib.hid (show endC t = true by rw [HNE.out, hg]; simp)
      rw [hg] at HP
      clear hg hE
      cases hA : classC q1 code
      · have HA := Lib.hid hA
        clear hA
        have HFIN := Lib.hid (show statR code t = [] from statOk_no (by rw [HST.out, HA.out]; simp))
        go_wp2_with first
          | (go_at_call 83; refine (HP.out W5).mono ?_; rintro e w1 ⟨rfl, rfl⟩)
          | (go_at_call 85; refine (I1.out).mono ?_; rintro e w6 ⟨rfl, hb⟩; rw [HA.out]; have n1 := ((HXN.out).below hb (HXN.out).lt).cell; have n2 := ((Y5.out).below hb (Y5.out).lt).cell; have HW6 := Lib.hid hb; clear hb)
          | (go_at_call 86; with_reducible refine (I3.out _).mono ?_; rintro e w1 ⟨rfl, rfl⟩; rw [HC.out])
          | (go_at_call 86; with_reducible refine (I5.out _).mono ?_; rintro e w1 ⟨rfl, rfl⟩; rw [HE.out])
          | (go_at_call 62; refine (HCL.out _).mono ?_; rintro e w7 ⟨rfl, hb⟩; have HW7 := Lib.hid hb; clear hb)
        go_ret
        rw [HFIN.out]
        exact ⟨rfl, (HB5.out).trans ((HW6.out).mono HS5.out)⟩
      · have HA := Lib.hid hA
        clear hA
        cases hB : q2 == [46]
        · have hB2 : (q2 != [46]) = true := by simp only [bne, hB]; rfl
          have HFIN := Lib.hid (show statR code t = [] from statOk_no (by rw [HST.out, hB]; simp))
          go_wp2_with first
            | (go_at_call 83; refine (HP.out W5).mono ?_; rintro e w1 ⟨rfl, rfl⟩)
            | (go_at_call 85; refine (I1.out).mono ?_; rintro e w6 ⟨rfl, hb⟩; rw [HA.out]; have n1 := ((HXN.out).below hb (HXN.out).lt).cell; have n2 := ((Y5.out).below hb (Y5.out).lt).cell; have HW6 := Lib.hid hb; clear hb)
            | (go_at_call 86; with_reducible refine (I3.out _).mono ?_; rintro e w1 ⟨rfl, rfl⟩; rw [HC.out])
            | (go_at_call 86; with_reducible refine (I5.out _).mono ?_; rintro e w1 ⟨rfl, rfl⟩; rw [HE.out])
            | (go_at_call 62; refine (HCL.out _).mono ?_; rintro e w7 ⟨rfl, hb⟩; have HW7 := Lib.hid hb; clear hb)
          go_ret
          rw [HFIN.out]
          exact ⟨rfl, (HB5.out).trans ((HW6.out).mono HS5.out)⟩
        · have hB2 : (q2 != [46]) = false := by simp only [bne, hB]; rfl
          cases hC : partC q3
          · have HC := Lib.hid hC
            clear hC
            have HFIN := Lib.hid (show statR code t = [] from statOk_no (by rw [HST.out, HC.out]; simp))
            go_wp2_with first
              | (go_at_call 83; refine (HP.out W5).mono ?_; rintro e w1 ⟨rfl, rfl⟩)
              | (go_at_call 85; refine (I1.out).mono ?_; rintro e w6 ⟨rfl, hb⟩; rw [HA.out]; have n1 := ((HXN.out).below hb (HXN.out).lt).cell; have n2 := ((Y5.out).below hb (Y5.out).lt).cell; have HW6 := Lib.hid hb; clear hb)
              | (go_at_call 86; with_reducible refine (I3.out _).mono ?_; rintro e w1 ⟨rfl, rfl⟩; rw [HC.out])
              | (go_at_call 86; with_reducible refine (I5.out _).mono ?_; rintro e w1 ⟨rfl, rfl⟩; rw [HE.out])
              | (go_at_call 62; refine (HCL.out _).mono ?_; rintro e w7 ⟨rfl, hb⟩; have HW7 := Lib.hid hb; clear hb)
            go_ret
            rw [HFIN.out]
            exact ⟨rfl, (HB5.out).trans ((HW6.out).mono HS5.out)⟩
          · have HC := Lib.hid hC
            clear hC
            cases hD : q4 == [46]
            · have hD2 : (q4 != [46]) = true := by simp only [bne, hD]; rfl
              have HFIN := Lib.hid (show statR code t = [] from statOk_no (by rw [HST.out, hD]; simp))
              go_wp2_with first
                | (go_at_call 83; refine (HP.out W5).mono ?_; rintro e w1 ⟨rfl, rfl⟩)
                | (go_at_call 85; refine (I1.out).mono ?_; rintro e w6 ⟨rfl, hb⟩; rw [HA.out]; have n1 := ((HXN.out).below hb (HXN.out).lt).cell; have n2 := ((Y5.out).below hb (Y5.out).lt).cell; have HW6 := Lib.hid hb; clear hb)
                | (go_at_call 86; with_reducible refine (I3.out _).mono ?_; rintro e w1 ⟨rfl, rfl⟩; rw [HC.out])
                | (go_at_call 86; with_reducible refine (I5.out _).mono ?_; rintro e w1 ⟨rfl, rfl⟩; rw [HE.out])
                | (go_at_call 62; refine (HCL.out _).mono ?_; rintro e w7 ⟨rfl, hb⟩; have HW7 := Lib.hid hb; clear hb)
              go_ret
              rw [HFIN.out]
              exact ⟨rfl, (HB5.out).trans ((HW6.out).mono HS5.out)⟩
            · have hD2 : (q4 != [46]) = false := by simp only [bne, hD]; rfl
              cases hE : partC q5
              · have HE := Lib.hid hE
                clear hE
                have HFIN := Lib.hid (show statR code t = [] from statOk_no (by rw [HST.out, HE.out]; simp))
                go_wp2_with first
                  | (go_at_call 83; refine (HP.out W5).mono ?_; rintro e w1 ⟨rfl, rfl⟩)
                  | (go_at_call 85; refine (I1.out).mono ?_; rintro e w6 ⟨rfl, hb⟩; rw [HA.out]; have n1 := ((HXN.out).below hb (HXN.out).lt).cell; have n2 := ((Y5.out).below hb (Y5.out).lt).cell; have HW6 := Lib.hid hb; clear hb)
                  | (go_at_call 86; with_reducible refine (I3.out _).mono ?_; rintro e w1 ⟨rfl, rfl⟩; rw [HC.out])
                  | (go_at_call 86; with_reducible refine (I5.out _).mono ?_; rintro e w1 ⟨rfl, rfl⟩; rw [HE.out])
                  | (go_at_call 62; refine (HCL.out _).mono ?_; rintro e w7 ⟨rfl, hb⟩; have HW7 := Lib.hid hb; clear hb)
                go_ret
                rw [HFIN.out]
                exact ⟨rfl, (HB5.out).trans ((HW6.out).mono HS5.out)⟩
              · have HE := Lib.hid hE
                clear hE
                have HFIN := Lib.hid (show statR code t = t.take n from HYES.out (by rw [HST.out, HA.out, hB, HC.out, hD, HE.out, HG.out]; rfl))
                go_wp2_with first
                  | (go_at_call 83; refine (HP.out W5).mono ?_; rintro e w1 ⟨rfl, rfl⟩)
                  | (go_at_call 85; refine (I1.out).mono ?_; rintro e w6 ⟨rfl, hb⟩; rw [HA.out]; have n1 := ((HXN.out).below hb (HXN.out).lt).cell; have n2 := ((Y5.out).below hb (Y5.out).lt).cell; have HW6 := Lib.hid hb; clear hb)
                  | (go_at_call 86; with_reducible refine (I3.out _).mono ?_; rintro e w1 ⟨rfl, rfl⟩; rw [HC.out])
                  | (go_at_call 86; with_reducible refine (I5.out _).mono ?_; rintro e w1 ⟨rfl, rfl⟩; rw [HE.out])
                  | (go_at_call 62; refine (HCL.out _).mono ?_; rintro e w7 ⟨rfl, hb⟩; have HW7 := Lib.hid hb; clear hb)
                go_ret
                rw [HFIN.out]
                exact ⟨rfl, (HB5.out).trans ((HW6.out).mono HS5.out |>.trans ((HW7.out).mono (by have := HS5.out; have := (HW6.out).size; omega)))⟩
end Go.Proofs.YtanfonpbnamjmaaDoor
