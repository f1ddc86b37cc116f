/-
  The walk of HeadBody.
-/
import Derived.Test.YtkffdhdhjfbhjaaDoorHPureB
import Derived.Test.YtkffdhdhjfbhjaaDoorHRRest
namespace Go.Proofs.YtkffdhdhjfbhjaaDoor
set_option linter.unusedSimpArgs false
set_option linter.unusedVariables false
open Go Go.RowKit Go.Shelf
set_option maxRecDepth 100000

/-- What the search for the head's end says of a text. -/
def Clear (s : List UInt8) (i : Nat) : Prop := s.take 2 ≠ [13, 10] ∧ ∀ j, j < i → ¬ Two s j

theorem fieldsB {w0 w : World} (h : BL w0 w) (s : List UInt8) (hs : s.length ≤ 1000000) {fs : List FP} (hn : fieldsL s = fs) : Calls Tryd.prog 16 #[sv s] w fun e w' => ∃ A c, e = .returned (.slice A fs.length c) ∧ BL w0 w' ∧ PR w' (.slice A fs.length c) fs := by
  subst hn
  refine (fields_any s w hs h.2).mono ?_
  rintro e w' ⟨v, h1, h2, h3⟩
  obtain ⟨A, c, rfl⟩ := h3.form
  exact ⟨A, c, h1, h.step h2, h3.pr⟩
theorem toldB {w0 w : World} (h : BL w0 w) {A : Option Addr} {c : Nat} {fs : List FP} (hp : PR w (.slice A fs.length c) fs) (hl : fs.length ≤ 1000000) : Calls Tryd.prog 19 #[.slice A fs.length c] w fun e w' => ∃ B d, e = .returned (.slice B fs.length d) ∧ BL w0 w' ∧ PR w' (.slice B fs.length d) fs := by
  refine (told_any fs _ w hp hl).mono ?_
  rintro e w' ⟨v, h1, h2, h3⟩
  obtain ⟨B, d, rfl⟩ := h3.form
  exact ⟨B, d, h1, h.step h2, h3.pr⟩
theorem PR.bl {w0 w w' : World} {v : Value} {ps : List FP} (h : PR w v ps) (hb : Below w.heap.size w w') : PR w' v ps := h.step hb

set_option maxHeartbeats 16000000 in
theorem headBody_walk (s q : List UInt8) (hs : s.length ≤ 140737488351232) (hq : q.length ≤ 140737488351232) (w : World) (hM : ML w) :
    Calls Tryd.prog 7 #[sv s, sv q] w fun e w' => e = .returned (.bool true) ∧ Below w.heap.size w w' := by
  have HBW := Lib.hid (BL.start hM)
  clear hM
  by_cases h1 : 5000 < s.length
  · have i1 : (5000 : Int) < (s.length : Int) := by omega
    go_enter Tryd.func7, Tryd.ntmps7
    go_wp2_with fail
    refine (awake_any HBW.out).mono ?_
    rintro e w1 ⟨rfl, hb1⟩
    go_wp2_with fail
    go_ret
    exact ⟨rfl, hb1.1⟩
  · have i1 : ¬ (5000 : Int) < (s.length : Int) := by omega
    by_cases h2 : 5000 < q.length
    · have i2 : (5000 : Int) < (q.length : Int) := by omega
      go_enter Tryd.func7, Tryd.ntmps7
      go_wp2_with fail
      refine (awake_any HBW.out).mono ?_
      rintro e w1 ⟨rfl, hb1⟩
      go_wp2_with fail
      go_ret
      exact ⟨rfl, hb1.1⟩
    · have i2 : ¬ (5000 : Int) < (q.length : Int) := by omega
      obtain ⟨b, hb⟩ : ∃ b, bodyL s = b := ⟨_, rfl⟩
      obtain ⟨hbl, hbd⟩ := body_suffix s
      rw [hb] at hbl hbd
      have hfl := fields_len s
      obtain ⟨fs, hfs⟩ : ∃ fs, fieldsL s = fs := ⟨_, rfl⟩
      obtain ⟨pl, hpl⟩ : ∃ pl, plainL s = pl := ⟨_, rfl⟩
      obtain ⟨hp, hhp⟩ : ∃ hp, hopsL s = hp := ⟨_, rfl⟩
      rw [hfs] at hfl
      have HB := Lib.hid hb
      have HFS := Lib.hid hfs
      have HPL := Lib.hid hpl
      have HHP := Lib.hid hhp
      obtain ⟨n, hn⟩ : ∃ n, n = s.length - b.length := ⟨_, rfl⟩
      rw [← hn] at hbd
      have e1 : (str s).extract n s.length = str b := by rw [str_extract, List.take_of_length_le (Nat.le_refl _), hbd]
      have hxn : ((str s).extract n s.length).toList = b := by rw [e1, Lib.toList_data]
      have hx2 : ((str s).extract 0 2).toList = s.take 2 := by rw [str_extract, Lib.toList_data]; simp
      have hbb2 : (b == b) = true := by simp
      have hni : (s.length : Int) - (b.length : Int) = (n : Int) := by omega
      have hnl : n ≤ s.length := by omega
      have HN := Lib.hid hn
      clear hb hfs hpl hhp hbd e1 hn
      go_enter Tryd.func7, Tryd.ntmps7
      go_wp2_with fail
      refine (awake_any HBW.out).mono ?_
      rintro e w1 ⟨rfl, hb1⟩
      have H1 := Lib.hid hb1
      clear hb1
      go_wp2_with fail
      refine (bodyB H1.out s (by omega) HB.out).mono ?_
      rintro e w2 ⟨rfl, hb2⟩
      have H2 := Lib.hid hb2
      clear hb2
      by_cases htwo : s.take 2 = [13, 10]
      · have hl2 : 2 ≤ s.length := by
          have := congrArg List.length htwo
          simp only [List.length_take, List.length_cons, List.length_nil] at this
          omega
        have hl1 : (1 : Int) < (s.length : Int) := by omega
        have ht2 : (s.take 2 == [13, 10]) = true := by rw [htwo]; rfl
        have HE2 := Lib.hid (ends_two htwo)
        clear htwo
        go_wp2_with fail
        go_loopw [7, 8] (fun a i wr => ∃ k : Nat, k ≤ s.length ∧ i = .int .i64 k ∧ ((a = .int .i64 (-1) ∧ s.take 2 ≠ [13, 10] ∧ ∀ j, j < k → ¬ Two s j) ∨ ∃ m : Nat, a = .int .i64 m ∧ Ends s m) ∧ wr = w2) (fun _ i _ => s.length - (intOf i).toNat)
        case atStart => exact ⟨0, Nat.zero_le _, rfl, .inr ⟨2, rfl, HE2.out⟩, by first | rfl | trivial⟩
        case round =>
          obtain ⟨k, hk, rfl, hor, rfl⟩ := hrel
          rcases hor with ⟨rfl, hn2, hmin⟩ | ⟨m, rfl, hE⟩
          · have HMIN := Lib.hid hmin
            have HN2 := Lib.hid hn2
            clear hmin hn2
            by_cases hk4 : k + 4 ≤ s.length
            · have j1 : (k : Int) + 4 ≤ (s.length : Int) := by omega
              have hsl := run_part wr s k (k + 4) ((k : Int) + 4) (by omega) hk4 (by omega)
              by_cases htw : Two s k
              · have HE := Lib.hid (ends_first htw HN2.out HMIN.out)
                have hb4 : ((s.take (k + 4)).drop k == [13, 10, 13, 10]) = true := by rw [show (s.take (k + 4)).drop k = [13, 10, 13, 10] from htw]; rfl
                clear htw
                go_wp2_with fail
                go_roundw
                case rel => exact ⟨k + 1, by omega, by go_num, .inr ⟨k + 4, by go_num, HE.out⟩, by first | rfl | trivial⟩
                case measure => simp [intOf]; omega
              · have hb4 : ((s.take (k + 4)).drop k == [13, 10, 13, 10]) = false := by rw [beq_eq_false_iff_ne]; exact htw
                have HM2 := Lib.hid (show ∀ j, j < k + 1 → ¬ Two s j from fun j hj => by
                  by_cases e : j = k
                  · rw [e]; exact htw
                  · exact HMIN.out j (by omega))
                clear htw
                go_wp2_with fail
                go_roundw
                case rel => exact ⟨k + 1, by omega, by go_num, .inl ⟨by first | rfl | trivial, HN2.out, HM2.out⟩, by first | rfl | trivial⟩
                case measure => simp [intOf]; omega
            · have j1 : ¬ (k : Int) + 4 ≤ (s.length : Int) := by omega
              have hb0 : b = [] := by rw [← HB.out]; exact no_ends HN2.out (fun j hj => HMIN.out j (by omega))
              have hbb : (b == []) = true := by rw [hb0]; rfl
              have hbe : b.isEmpty = true := by rw [hb0]; rfl
              go_wp2_with fail
              go_ret
              exact ⟨by first | rfl | (congr 2; done) | (congr 2; rw [hb0]), H2.out.1⟩
          · have hml : m ≤ s.length := hE.1
            have hbm : b = s.drop m := by rw [← HB.out]; exact hE.self
            have hnm : n = m := by
              have := HN.out
              have h3 := congrArg List.length hbm
              rw [List.length_drop] at h3
              omega
            subst hnm
            obtain ⟨t, ht⟩ : ∃ t, t = s.take n ++ q := ⟨_, rfl⟩
            have e3 : (str s).extract 0 n ++ str q = str t := by
              rw [str_extract, List.drop_zero, ht]
              apply ByteArray.ext; simp
            have htl : t.length ≤ 10000 := by rw [ht, List.length_append, List.length_take]; omega
            have hadd : ¬ 9223372036854775807 < n + q.length := by omega
            have hadd2 : ¬ 9223372036854775807 < min n s.length + q.length := by omega
            have hsz : ((str s).extract 0 n).size = n := by rw [str_extract]; simp [ByteArray.size]; omega
            have E3 := Lib.hid e3
            have TB := Lib.hid (show bodyL t = q by rw [ht]; exact hE.body q)
            have hTF : fieldsL t = fieldsL s := by rw [ht]; exact hE.fields q
            have TF := Lib.hid (hTF.trans HFS.out)
            have TP := Lib.hid ((plainL_fields hTF).trans HPL.out)
            have TH := Lib.hid ((hopsL_fields hTF).trans HHP.out)
            clear hE hbm e3 ht hTF
            have hn0 : ¬ (n : Int) < 0 := by omega
            by_cases hk4 : k + 4 ≤ s.length
            · have j1 : (k : Int) + 4 ≤ (s.length : Int) := by omega
              go_wp2_with fail
              rw [E3.out]
              refine (bodyB H2.out t (by omega) TB.out).mono ?_
              rintro e w3 ⟨rfl, hb3⟩
              have H3 := Lib.hid hb3
              clear hb3
              go_wp2_with fail
              refine (fieldsB H3.out t (by omega) TF.out).mono ?_
              rintro e w4 ⟨A4, c4, rfl, hb4, hp4⟩
              have H4 := Lib.hid hb4
              have P4 := Lib.hid hp4
              clear hb4 hp4
              go_wp2_with fail
              refine (toldB H4.out P4.out (by omega)).mono ?_
              rintro e w5 ⟨A5, c5, rfl, hb5, hp5⟩
              have H5 := Lib.hid hb5
              have P5 := Lib.hid hp5
              clear hb5 hp5
              go_wp2_with fail
              refine (fields_any s w5 (by omega) H5.out.2).mono ?_
              rintro e w6 ⟨v6, rfl, hb6, ho6⟩
              rw [HFS.out] at ho6
              obtain ⟨A6, c6, rfl⟩ := ho6.form
              have H6 := Lib.hid (H5.out.step hb6)
              have P56 := Lib.hid (P5.out.step hb6)
              have P6 := Lib.hid ho6.pr
              clear hb6 ho6
              go_wp2_with fail
              refine (told_any fs _ w6 P6.out (by omega)).mono ?_
              rintro e w7 ⟨v7, rfl, hb7, ho7⟩
              obtain ⟨A7, c7, rfl⟩ := ho7.form
              have H7 := Lib.hid (H6.out.step hb7)
              have P57 := Lib.hid (P56.out.step hb7)
              have P7 := Lib.hid ho7.pr
              clear hb7 ho7
              go_wp2_with fail
              refine (rsame_any fs fs _ _ w7 P57.out P7.out (by omega) (by omega)).mono ?_
              rintro e w8 ⟨rfl, hb8⟩
              have H8 := Lib.hid (H7.out.step hb8)
              clear hb8
              rw [show (fs == fs) = true by simp]
              go_wp2_with fail
              refine (plainB H8.out t (by omega) TP.out).mono ?_
              rintro e w9 ⟨rfl, hb9⟩
              have H9 := Lib.hid hb9
              clear hb9
              go_wp2_with fail
              refine (plainB H9.out s (by omega) HPL.out).mono ?_
              rintro e w10 ⟨rfl, hb10⟩
              have H10 := Lib.hid hb10
              clear hb10
              go_wp2_with fail
              refine (hopsB H10.out t (by omega) TH.out).mono ?_
              rintro e w11 ⟨rfl, hb11⟩
              have H11 := Lib.hid hb11
              clear hb11
              go_wp2_with fail
              refine (hopsB H11.out s (by omega) HHP.out).mono ?_
              rintro e w12 ⟨rfl, hb12⟩
              go_wp2_with fail
              go_ret
              exact ⟨rfl, hb12.1⟩
            · have j1 : ¬ (k : Int) + 4 ≤ (s.length : Int) := by omega
              go_wp2_with fail
              rw [E3.out]
              refine (bodyB H2.out t (by omega) TB.out).mono ?_
              rintro e w3 ⟨rfl, hb3⟩
              have H3 := Lib.hid hb3
              clear hb3
              go_wp2_with fail
              refine (fieldsB H3.out t (by omega) TF.out).mono ?_
              rintro e w4 ⟨A4, c4, rfl, hb4, hp4⟩
              have H4 := Lib.hid hb4
              have P4 := Lib.hid hp4
              clear hb4 hp4
              go_wp2_with fail
              refine (toldB H4.out P4.out (by omega)).mono ?_
              rintro e w5 ⟨A5, c5, rfl, hb5, hp5⟩
              have H5 := Lib.hid hb5
              have P5 := Lib.hid hp5
              clear hb5 hp5
              go_wp2_with fail
              refine (fields_any s w5 (by omega) H5.out.2).mono ?_
              rintro e w6 ⟨v6, rfl, hb6, ho6⟩
              rw [HFS.out] at ho6
              obtain ⟨A6, c6, rfl⟩ := ho6.form
              have H6 := Lib.hid (H5.out.step hb6)
              have P56 := Lib.hid (P5.out.step hb6)
              have P6 := Lib.hid ho6.pr
              clear hb6 ho6
              go_wp2_with fail
              refine (told_any fs _ w6 P6.out (by omega)).mono ?_
              rintro e w7 ⟨v7, rfl, hb7, ho7⟩
              obtain ⟨A7, c7, rfl⟩ := ho7.form
              have H7 := Lib.hid (H6.out.step hb7)
              have P57 := Lib.hid (P56.out.step hb7)
              have P7 := Lib.hid ho7.pr
              clear hb7 ho7
              go_wp2_with fail
              refine (rsame_any fs fs _ _ w7 P57.out P7.out (by omega) (by omega)).mono ?_
              rintro e w8 ⟨rfl, hb8⟩
              have H8 := Lib.hid (H7.out.step hb8)
              clear hb8
              rw [show (fs == fs) = true by simp]
              go_wp2_with fail
              refine (plainB H8.out t (by omega) TP.out).mono ?_
              rintro e w9 ⟨rfl, hb9⟩
              have H9 := Lib.hid hb9
              clear hb9
              go_wp2_with fail
              refine (plainB H9.out s (by omega) HPL.out).mono ?_
              rintro e w10 ⟨rfl, hb10⟩
              have H10 := Lib.hid hb10
              clear hb10
              go_wp2_with fail
              refine (hopsB H10.out t (by omega) TH.out).mono ?_
              rintro e w11 ⟨rfl, hb11⟩
              have H11 := Lib.hid hb11
              clear hb11
              go_wp2_with fail
              refine (hopsB H11.out s (by omega) HHP.out).mono ?_
              rintro e w12 ⟨rfl, hb12⟩
              go_wp2_with fail
              go_ret
              exact ⟨rfl, hb12.1⟩
      · have ht2 : (s.take 2 == [13, 10]) = false := by rw [beq_eq_false_iff_ne]; exact htwo
        have HT2 := Lib.hid htwo
        clear htwo
        by_cases hl2 : 1 < s.length
        · have hl1 : (1 : Int) < (s.length : Int) := by omega
          go_wp2_with fail
          go_loopw [7, 8] (fun a i wr => ∃ k : Nat, k ≤ s.length ∧ i = .int .i64 k ∧ ((a = .int .i64 (-1) ∧ s.take 2 ≠ [13, 10] ∧ ∀ j, j < k → ¬ Two s j) ∨ ∃ m : Nat, a = .int .i64 m ∧ Ends s m) ∧ wr = w2) (fun _ i _ => s.length - (intOf i).toNat)
          case atStart => exact ⟨0, Nat.zero_le _, rfl, .inl ⟨rfl, HT2.out, fun j hj => absurd hj (by omega)⟩, by first | rfl | trivial⟩
          case round =>
            obtain ⟨k, hk, rfl, hor, rfl⟩ := hrel
            rcases hor with ⟨rfl, hn2, hmin⟩ | ⟨m, rfl, hE⟩
            · have HMIN := Lib.hid hmin
              have HN2 := Lib.hid hn2
              clear hmin hn2
              by_cases hk4 : k + 4 ≤ s.length
              · have j1 : (k : Int) + 4 ≤ (s.length : Int) := by omega
                have hsl := run_part wr s k (k + 4) ((k : Int) + 4) (by omega) hk4 (by omega)
                by_cases htw : Two s k
                · have HE := Lib.hid (ends_first htw HN2.out HMIN.out)
                  have hb4 : ((s.take (k + 4)).drop k == [13, 10, 13, 10]) = true := by rw [show (s.take (k + 4)).drop k = [13, 10, 13, 10] from htw]; rfl
                  clear htw
                  go_wp2_with fail
                  go_roundw
                  case rel => exact ⟨k + 1, by omega, by go_num, .inr ⟨k + 4, by go_num, HE.out⟩, by first | rfl | trivial⟩
                  case measure => simp [intOf]; omega
                · have hb4 : ((s.take (k + 4)).drop k == [13, 10, 13, 10]) = false := by rw [beq_eq_false_iff_ne]; exact htw
                  have HM2 := Lib.hid (show ∀ j, j < k + 1 → ¬ Two s j from fun j hj => by
                    by_cases e : j = k
                    · rw [e]; exact htw
                    · exact HMIN.out j (by omega))
                  clear htw
                  go_wp2_with fail
                  go_roundw
                  case rel => exact ⟨k + 1, by omega, by go_num, .inl ⟨by first | rfl | trivial, HN2.out, HM2.out⟩, by first | rfl | trivial⟩
                  case measure => simp [intOf]; omega
              · have j1 : ¬ (k : Int) + 4 ≤ (s.length : Int) := by omega
                have hb0 : b = [] := by rw [← HB.out]; exact no_ends HN2.out (fun j hj => HMIN.out j (by omega))
                have hbb : (b == []) = true := by rw [hb0]; rfl
                have hbe : b.isEmpty = true := by rw [hb0]; rfl
                go_wp2_with fail
                go_ret
                exact ⟨by first | rfl | (congr 2; done) | (congr 2; rw [hb0]), H2.out.1⟩
            · have hml : m ≤ s.length := hE.1
              have hbm : b = s.drop m := by rw [← HB.out]; exact hE.self
              have hnm : n = m := by
                have := HN.out
                have h3 := congrArg List.length hbm
                rw [List.length_drop] at h3
                omega
              subst hnm
              obtain ⟨t, ht⟩ : ∃ t, t = s.take n ++ q := ⟨_, rfl⟩
              have e3 : (str s).extract 0 n ++ str q = str t := by
                rw [str_extract, List.drop_zero, ht]
                apply ByteArray.ext; simp
              have htl : t.length ≤ 10000 := by rw [ht, List.length_append, List.length_take]; omega
              have hadd : ¬ 9223372036854775807 < n + q.length := by omega
              have hadd2 : ¬ 9223372036854775807 < min n s.length + q.length := by omega
              have hsz : ((str s).extract 0 n).size = n := by rw [str_extract]; simp [ByteArray.size]; omega
              have E3 := Lib.hid e3
              have TB := Lib.hid (show bodyL t = q by rw [ht]; exact hE.body q)
              have hTF : fieldsL t = fieldsL s := by rw [ht]; exact hE.fields q
              have TF := Lib.hid (hTF.trans HFS.out)
              have TP := Lib.hid ((plainL_fields hTF).trans HPL.out)
              have TH := Lib.hid ((hopsL_fields hTF).trans HHP.out)
              clear hE hbm e3 ht hTF
              have hn0 : ¬ (n : Int) < 0 := by omega
              by_cases hk4 : k + 4 ≤ s.length
              · have j1 : (k : Int) + 4 ≤ (s.length : Int) := by omega
                go_wp2_with fail
                rw [E3.out]
                refine (bodyB H2.out t (by omega) TB.out).mono ?_
                rintro e w3 ⟨rfl, hb3⟩
                have H3 := Lib.hid hb3
                clear hb3
                go_wp2_with fail
                refine (fieldsB H3.out t (by omega) TF.out).mono ?_
                rintro e w4 ⟨A4, c4, rfl, hb4, hp4⟩
                have H4 := Lib.hid hb4
                have P4 := Lib.hid hp4
                clear hb4 hp4
                go_wp2_with fail
                refine (toldB H4.out P4.out (by omega)).mono ?_
                rintro e w5 ⟨A5, c5, rfl, hb5, hp5⟩
                have H5 := Lib.hid hb5
                have P5 := Lib.hid hp5
                clear hb5 hp5
                go_wp2_with fail
                refine (fields_any s w5 (by omega) H5.out.2).mono ?_
                rintro e w6 ⟨v6, rfl, hb6, ho6⟩
                rw [HFS.out] at ho6
                obtain ⟨A6, c6, rfl⟩ := ho6.form
                have H6 := Lib.hid (H5.out.step hb6)
                have P56 := Lib.hid (P5.out.step hb6)
                have P6 := Lib.hid ho6.pr
                clear hb6 ho6
                go_wp2_with fail
                refine (told_any fs _ w6 P6.out (by omega)).mono ?_
                rintro e w7 ⟨v7, rfl, hb7, ho7⟩
                obtain ⟨A7, c7, rfl⟩ := ho7.form
                have H7 := Lib.hid (H6.out.step hb7)
                have P57 := Lib.hid (P56.out.step hb7)
                have P7 := Lib.hid ho7.pr
                clear hb7 ho7
                go_wp2_with fail
                refine (rsame_any fs fs _ _ w7 P57.out P7.out (by omega) (by omega)).mono ?_
                rintro e w8 ⟨rfl, hb8⟩
                have H8 := Lib.hid (H7.out.step hb8)
                clear hb8
                rw [show (fs == fs) = true by simp]
                go_wp2_with fail
                refine (plainB H8.out t (by omega) TP.out).mono ?_
                rintro e w9 ⟨rfl, hb9⟩
                have H9 := Lib.hid hb9
                clear hb9
                go_wp2_with fail
                refine (plainB H9.out s (by omega) HPL.out).mono ?_
                rintro e w10 ⟨rfl, hb10⟩
                have H10 := Lib.hid hb10
                clear hb10
                go_wp2_with fail
                refine (hopsB H10.out t (by omega) TH.out).mono ?_
                rintro e w11 ⟨rfl, hb11⟩
                have H11 := Lib.hid hb11
                clear hb11
                go_wp2_with fail
                refine (hopsB H11.out s (by omega) HHP.out).mono ?_
                rintro e w12 ⟨rfl, hb12⟩
                go_wp2_with fail
                go_ret
                exact ⟨rfl, hb12.1⟩
              · have j1 : ¬ (k : Int) + 4 ≤ (s.length : Int) := by omega
                go_wp2_with fail
                rw [E3.out]
                refine (bodyB H2.out t (by omega) TB.out).mono ?_
                rintro e w3 ⟨rfl, hb3⟩
                have H3 := Lib.hid hb3
                clear hb3
                go_wp2_with fail
                refine (fieldsB H3.out t (by omega) TF.out).mono ?_
                rintro e w4 ⟨A4, c4, rfl, hb4, hp4⟩
                have H4 := Lib.hid hb4
                have P4 := Lib.hid hp4
                clear hb4 hp4
                go_wp2_with fail
                refine (toldB H4.out P4.out (by omega)).mono ?_
                rintro e w5 ⟨A5, c5, rfl, hb5, hp5⟩
                have H5 := Lib.hid hb5
                have P5 := Lib.hid hp5
                clear hb5 hp5
                go_wp2_with fail
                refine (fields_any s w5 (by omega) H5.out.2).mono ?_
                rintro e w6 ⟨v6, rfl, hb6, ho6⟩
                rw [HFS.out] at ho6
                obtain ⟨A6, c6, rfl⟩ := ho6.form
                have H6 := Lib.hid (H5.out.step hb6)
                have P56 := Lib.hid (P5.out.step hb6)
                have P6 := Lib.hid ho6.pr
                clear hb6 ho6
                go_wp2_with fail
                refine (told_any fs _ w6 P6.out (by omega)).mono ?_
                rintro e w7 ⟨v7, rfl, hb7, ho7⟩
                obtain ⟨A7, c7, rfl⟩ := ho7.form
                have H7 := Lib.hid (H6.out.step hb7)
                have P57 := Lib.hid (P56.out.step hb7)
                have P7 := Lib.hid ho7.pr
                clear hb7 ho7
                go_wp2_with fail
                refine (rsame_any fs fs _ _ w7 P57.out P7.out (by omega) (by omega)).mono ?_
                rintro e w8 ⟨rfl, hb8⟩
                have H8 := Lib.hid (H7.out.step hb8)
                clear hb8
                rw [show (fs == fs) = true by simp]
                go_wp2_with fail
                refine (plainB H8.out t (by omega) TP.out).mono ?_
                rintro e w9 ⟨rfl, hb9⟩
                have H9 := Lib.hid hb9
                clear hb9
                go_wp2_with fail
                refine (plainB H9.out s (by omega) HPL.out).mono ?_
                rintro e w10 ⟨rfl, hb10⟩
                have H10 := Lib.hid hb10
                clear hb10
                go_wp2_with fail
                refine (hopsB H10.out t (by omega) TH.out).mono ?_
                rintro e w11 ⟨rfl, hb11⟩
                have H11 := Lib.hid hb11
                clear hb11
                go_wp2_with fail
                refine (hopsB H11.out s (by omega) HHP.out).mono ?_
                rintro e w12 ⟨rfl, hb12⟩
                go_wp2_with fail
                go_ret
                exact ⟨rfl, hb12.1⟩
        · have hl1 : ¬ (1 : Int) < (s.length : Int) := by omega
          go_wp2_with fail
          go_loopw [7, 8] (fun a i wr => ∃ k : Nat, k ≤ s.length ∧ i = .int .i64 k ∧ ((a = .int .i64 (-1) ∧ s.take 2 ≠ [13, 10] ∧ ∀ j, j < k → ¬ Two s j) ∨ ∃ m : Nat, a = .int .i64 m ∧ Ends s m) ∧ wr = w2) (fun _ i _ => s.length - (intOf i).toNat)
          case atStart => exact ⟨0, Nat.zero_le _, rfl, .inl ⟨rfl, HT2.out, fun j hj => absurd hj (by omega)⟩, by first | rfl | trivial⟩
          case round =>
            obtain ⟨k, hk, rfl, hor, rfl⟩ := hrel
            rcases hor with ⟨rfl, hn2, hmin⟩ | ⟨m, rfl, hE⟩
            · have HMIN := Lib.hid hmin
              have HN2 := Lib.hid hn2
              clear hmin hn2
              by_cases hk4 : k + 4 ≤ s.length
              · have j1 : (k : Int) + 4 ≤ (s.length : Int) := by omega
                have hsl := run_part wr s k (k + 4) ((k : Int) + 4) (by omega) hk4 (by omega)
                by_cases htw : Two s k
                · have HE := Lib.hid (ends_first htw HN2.out HMIN.out)
                  have hb4 : ((s.take (k + 4)).drop k == [13, 10, 13, 10]) = true := by rw [show (s.take (k + 4)).drop k = [13, 10, 13, 10] from htw]; rfl
                  clear htw
                  go_wp2_with fail
                  go_roundw
                  case rel => exact ⟨k + 1, by omega, by go_num, .inr ⟨k + 4, by go_num, HE.out⟩, by first | rfl | trivial⟩
                  case measure => simp [intOf]; omega
                · have hb4 : ((s.take (k + 4)).drop k == [13, 10, 13, 10]) = false := by rw [beq_eq_false_iff_ne]; exact htw
                  have HM2 := Lib.hid (show ∀ j, j < k + 1 → ¬ Two s j from fun j hj => by
                    by_cases e : j = k
                    · rw [e]; exact htw
                    · exact HMIN.out j (by omega))
                  clear htw
                  go_wp2_with fail
                  go_roundw
                  case rel => exact ⟨k + 1, by omega, by go_num, .inl ⟨by first | rfl | trivial, HN2.out, HM2.out⟩, by first | rfl | trivial⟩
                  case measure => simp [intOf]; omega
              · have j1 : ¬ (k : Int) + 4 ≤ (s.length : Int) := by omega
                have hb0 : b = [] := by rw [← HB.out]; exact no_ends HN2.out (fun j hj => HMIN.out j (by omega))
                have hbb : (b == []) = true := by rw [hb0]; rfl
                have hbe : b.isEmpty = true := by rw [hb0]; rfl
                go_wp2_with fail
                go_ret
                exact ⟨by first | rfl | (congr 2; done) | (congr 2; rw [hb0]), H2.out.1⟩
            · have hml : m ≤ s.length := hE.1
              have hbm : b = s.drop m := by rw [← HB.out]; exact hE.self
              have hnm : n = m := by
                have := HN.out
                have h3 := congrArg List.length hbm
                rw [List.length_drop] at h3
                omega
              subst hnm
              obtain ⟨t, ht⟩ : ∃ t, t = s.take n ++ q := ⟨_, rfl⟩
              have e3 : (str s).extract 0 n ++ str q = str t := by
                rw [str_extract, List.drop_zero, ht]
                apply ByteArray.ext; simp
              have htl : t.length ≤ 10000 := by rw [ht, List.length_append, List.length_take]; omega
              have hadd : ¬ 9223372036854775807 < n + q.length := by omega
              have hadd2 : ¬ 9223372036854775807 < min n s.length + q.length := by omega
              have hsz : ((str s).extract 0 n).size = n := by rw [str_extract]; simp [ByteArray.size]; omega
              have E3 := Lib.hid e3
              have TB := Lib.hid (show bodyL t = q by rw [ht]; exact hE.body q)
              have hTF : fieldsL t = fieldsL s := by rw [ht]; exact hE.fields q
              have TF := Lib.hid (hTF.trans HFS.out)
              have TP := Lib.hid ((plainL_fields hTF).trans HPL.out)
              have TH := Lib.hid ((hopsL_fields hTF).trans HHP.out)
              clear hE hbm e3 ht hTF
              have hn0 : ¬ (n : Int) < 0 := by omega
              by_cases hk4 : k + 4 ≤ s.length
              · have j1 : (k : Int) + 4 ≤ (s.length : Int) := by omega
                go_wp2_with fail
                rw [E3.out]
                refine (bodyB H2.out t (by omega) TB.out).mono ?_
                rintro e w3 ⟨rfl, hb3⟩
                have H3 := Lib.hid hb3
                clear hb3
                go_wp2_with fail
                refine (fieldsB H3.out t (by omega) TF.out).mono ?_
                rintro e w4 ⟨A4, c4, rfl, hb4, hp4⟩
                have H4 := Lib.hid hb4
                have P4 := Lib.hid hp4
                clear hb4 hp4
                go_wp2_with fail
                refine (toldB H4.out P4.out (by omega)).mono ?_
                rintro e w5 ⟨A5, c5, rfl, hb5, hp5⟩
                have H5 := Lib.hid hb5
                have P5 := Lib.hid hp5
                clear hb5 hp5
                go_wp2_with fail
                refine (fields_any s w5 (by omega) H5.out.2).mono ?_
                rintro e w6 ⟨v6, rfl, hb6, ho6⟩
                rw [HFS.out] at ho6
                obtain ⟨A6, c6, rfl⟩ := ho6.form
                have H6 := Lib.hid (H5.out.step hb6)
                have P56 := Lib.hid (P5.out.step hb6)
                have P6 := Lib.hid ho6.pr
                clear hb6 ho6
                go_wp2_with fail
                refine (told_any fs _ w6 P6.out (by omega)).mono ?_
                rintro e w7 ⟨v7, rfl, hb7, ho7⟩
                obtain ⟨A7, c7, rfl⟩ := ho7.form
                have H7 := Lib.hid (H6.out.step hb7)
                have P57 := Lib.hid (P56.out.step hb7)
                have P7 := Lib.hid ho7.pr
                clear hb7 ho7
                go_wp2_with fail
                refine (rsame_any fs fs _ _ w7 P57.out P7.out (by omega) (by omega)).mono ?_
                rintro e w8 ⟨rfl, hb8⟩
                have H8 := Lib.hid (H7.out.step hb8)
                clear hb8
                rw [show (fs == fs) = true by simp]
                go_wp2_with fail
                refine (plainB H8.out t (by omega) TP.out).mono ?_
                rintro e w9 ⟨rfl, hb9⟩
                have H9 := Lib.hid hb9
                clear hb9
                go_wp2_with fail
                refine (plainB H9.out s (by omega) HPL.out).mono ?_
                rintro e w10 ⟨rfl, hb10⟩
                have H10 := Lib.hid hb10
                clear hb10
                go_wp2_with fail
                refine (hopsB H10.out t (by omega) TH.out).mono ?_
                rintro e w11 ⟨rfl, hb11⟩
                have H11 := Lib.hid hb11
                clear hb11
                go_wp2_with fail
                refine (hopsB H11.out s (by omega) HHP.out).mono ?_
                rintro e w12 ⟨rfl, hb12⟩
                go_wp2_with fail
                go_ret
                exact ⟨rfl, hb12.1⟩
              · have j1 : ¬ (k : Int) + 4 ≤ (s.length : Int) := by omega
                go_wp2_with fail
                rw [E3.out]
                refine (bodyB H2.out t (by omega) TB.out).mono ?_
                rintro e w3 ⟨rfl, hb3⟩
                have H3 := Lib.hid hb3
                clear hb3
                go_wp2_with fail
                refine (fieldsB H3.out t (by omega) TF.out).mono ?_
                rintro e w4 ⟨A4, c4, rfl, hb4, hp4⟩
                have H4 := Lib.hid hb4
                have P4 := Lib.hid hp4
                clear hb4 hp4
                go_wp2_with fail
                refine (toldB H4.out P4.out (by omega)).mono ?_
                rintro e w5 ⟨A5, c5, rfl, hb5, hp5⟩
                have H5 := Lib.hid hb5
                have P5 := Lib.hid hp5
                clear hb5 hp5
                go_wp2_with fail
                refine (fields_any s w5 (by omega) H5.out.2).mono ?_
                rintro e w6 ⟨v6, rfl, hb6, ho6⟩
                rw [HFS.out] at ho6
                obtain ⟨A6, c6, rfl⟩ := ho6.form
                have H6 := Lib.hid (H5.out.step hb6)
                have P56 := Lib.hid (P5.out.step hb6)
                have P6 := Lib.hid ho6.pr
                clear hb6 ho6
                go_wp2_with fail
                refine (told_any fs _ w6 P6.out (by omega)).mono ?_
                rintro e w7 ⟨v7, rfl, hb7, ho7⟩
                obtain ⟨A7, c7, rfl⟩ := ho7.form
                have H7 := Lib.hid (H6.out.step hb7)
                have P57 := Lib.hid (P56.out.step hb7)
                have P7 := Lib.hid ho7.pr
                clear hb7 ho7
                go_wp2_with fail
                refine (rsame_any fs fs _ _ w7 P57.out P7.out (by omega) (by omega)).mono ?_
                rintro e w8 ⟨rfl, hb8⟩
                have H8 := Lib.hid (H7.out.step hb8)
                clear hb8
                rw [show (fs == fs) = true by simp]
                go_wp2_with fail
                refine (plainB H8.out t (by omega) TP.out).mono ?_
                rintro e w9 ⟨rfl, hb9⟩
                have H9 := Lib.hid hb9
                clear hb9
                go_wp2_with fail
                refine (plainB H9.out s (by omega) HPL.out).mono ?_
                rintro e w10 ⟨rfl, hb10⟩
                have H10 := Lib.hid hb10
                clear hb10
                go_wp2_with fail
                refine (hopsB H10.out t (by omega) TH.out).mono ?_
                rintro e w11 ⟨rfl, hb11⟩
                have H11 := Lib.hid hb11
                clear hb11
                go_wp2_with fail
                refine (hopsB H11.out s (by omega) HHP.out).mono ?_
                rintro e w12 ⟨rfl, hb12⟩
                go_wp2_with fail
                go_ret
                exact ⟨rfl, hb12.1⟩
end Go.Proofs.YtkffdhdhjfbhjaaDoor
