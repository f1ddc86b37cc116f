/-
  The walk of HeadBack.
-/
import Derived.Test.YtkffdhdhjfbhjaaDoorHPureK
import Derived.Test.YtkffdhdhjfbhjaaDoorHBodyC
namespace Go.Proofs.YtkffdhdhjfbhjaaDoor
set_option linter.unusedSimpArgs false
set_option linter.unusedVariables false
open Go Go.RowKit Go.Shelf
set_option maxRecDepth 100000

theorem fieldsK {w : World} (h : ML w) (s : List UInt8) (hs : s.length ≤ 1000000) {fs : List FP} (hn : fieldsL s = fs) : Calls Tryd.prog 16 #[sv s] w fun e w' => ∃ A c, e = .returned (.slice A fs.length c) ∧ Below w.heap.size w w' ∧ PR w' (.slice A fs.length c) fs := by
  subst hn
  refine (fields_any s w hs h).mono ?_
  rintro e w' ⟨v, h1, h2, h3⟩
  obtain ⟨A, c, rfl⟩ := h3.form
  exact ⟨A, c, h1, h2, h3.pr⟩
theorem toldK {w : World} {A : Option Addr} {c : Nat} {fs : List FP} (hp : PR w (.slice A fs.length c) fs) (hl : fs.length ≤ 1000000) : Calls Tryd.prog 19 #[.slice A fs.length c] w fun e w' => ∃ B d, e = .returned (.slice B fs.length d) ∧ Below w.heap.size w w' ∧ PR w' (.slice B fs.length d) fs := by
  refine (told_any fs _ w hp hl).mono ?_
  rintro e w' ⟨v, h1, h2, h3⟩
  obtain ⟨B, d, rfl⟩ := h3.form
  exact ⟨B, d, h1, h2, h3.pr⟩
theorem bounds_u64 {a : Int} (h : (Lit.int .u64 a).wf = true) : 0 ≤ a ∧ a < 18446744073709551616 := by
  simp [Lit.wf, IntKind.min, IntKind.max, IntKind.signed, IntKind.bits] at h
  omega

/-- The lines so far: plain, folded. -/
structure BI (w : World) (fs : List FP) (k : Nat) (P F : List (List UInt8)) (W : World) : Prop where
  bl : BL w W
  cp : Cl (fs.take k) P
  cf : Cl (fs.take k) F
  lp : (joinL P).length ≤ sizeP (fs.take k)
  lf : (joinL F).length ≤ 3 * sizeP (fs.take k)
theorem take_at {fs : List FP} {k : Nat} (h : k < fs.length) : fs.take (k + 1) = fs.take k ++ [fs.getD k pm0] := by
  rw [List.take_succ_eq_append_getElem h, List.getD_eq_getElem?_getD, List.getElem?_eq_getElem h]; rfl

set_option maxHeartbeats 32000000 in
theorem headBack_walk (u : Option Addr) (g : Nat) (fs : List FP) (a : Int) (q : List UInt8) (w : World) (hR : PR w (.slice u fs.length g) fs) (hI : fs.length ≤ 140737488351232 ∧ ∀ r ∈ fs, r.1.length ≤ 140737488351232 ∧ r.2.length ≤ 140737488351232) (ha : (Lit.int .u64 a).wf = true) (hq : q.length ≤ 140737488351232) (hM : ML w) :
    Calls Tryd.prog 6 #[.slice u fs.length g, .int .u64 a, sv q] w fun e w' => e = .returned (.bool true) ∧ Below w.heap.size w w' := by
  have hab := bounds_u64 ha
  have HBW := Lib.hid (BL.start hM)
  have HX := Lib.hid hR
  have HLG := Lib.hid (long_any fs _ w hR hI.1 hI.2)
  obtain ⟨hI1, hI2⟩ := hI
  have HI2 := Lib.hid hI2
  clear hM hR ha hI2
  go_enter Tryd.func6, Tryd.ntmps6
  go_wp2_with fail
  refine HLG.out.mono ?_
  rintro e w1 ⟨b, rfl, hb1, hsz⟩
  have H1 := Lib.hid (HBW.out.step hb1)
  have X1 := Lib.hid (HX.out.step hb1)
  clear hb1
  cases b with
  | true =>
    clear hsz
    go_wp2_with fail
    refine (awake_any H1.out).mono ?_
    rintro e w2 ⟨rfl, hb2⟩
    go_wp2_with fail
    go_ret
    exact ⟨rfl, hb2.1⟩
  | false =>
    have hsz := hsz rfl
    by_cases h2 : 5000 < q.length
    · have i2 : (5000 : Int) < (q.length : Int) := by omega
      go_wp2_with fail
      refine (awake_any H1.out).mono ?_
      rintro e w2 ⟨rfl, hb2⟩
      go_wp2_with fail
      go_ret
      exact ⟨rfl, hb2.1⟩
    · have i2 : ¬ (5000 : Int) < (q.length : Int) := by omega
      go_wp2_with fail
      refine (awake_any H1.out).mono ?_
      rintro e w2 ⟨rfl, hb2⟩
      have H2 := Lib.hid hb2
      have X2 := Lib.hid (HX.out.step hb2.1)
      clear hb2
      go_wp2_with fail
      go_loopw [7, 8, 9, 10, 11] (fun p f i _ _ wr => ∃ (k : Nat) (P F : List (List UInt8)), k ≤ fs.length ∧ i = .int .i64 k ∧ p = sv (joinL P) ∧ f = sv (joinL F) ∧ BI w fs k P F wr) (fun _ _ i _ _ _ => fs.length - (intOf i).toNat)
      case atStart => exact ⟨0, [], [], Nat.zero_le _, rfl, rfl, rfl, ⟨H2.out, rfl, rfl, by simp [joinL], by simp [joinL]⟩⟩
      case round =>
        obtain ⟨k, P, F, hk, rfl, rfl, rfl, hbi⟩ := hrel
        have hsk := sizeP_take_le fs k
        have hlp := hbi.lp
        have hlf := hbi.lf
        have HBI := Lib.hid hbi
        clear hbi
        by_cases hlt : k < fs.length
        · have hk1 : (0 : Int) ≤ (k : Int) := by omega
          have hk2 : (k : Int) < (fs.length : Int) := by omega
          have HT := Lib.hid (take_at hlt)
          obtain ⟨g1, o1, rfl, hg1, a0, a1⟩ := PR.at (HX.out.step HBI.out.bl.1) hlt
          have hst := sizeP_take hlt
          have hs2 := sizeP_take_le fs (k + 1)
          obtain ⟨f, hf⟩ : ∃ f, f = fs.getD k pm0 := ⟨_, rfl⟩
          rw [← hf] at a0 a1 hst HT
          have HF := Lib.hid hf
          clear hf
          have hf1 : f.1.length ≤ 5000 := by omega
          have hf2 : f.2.length ≤ 5000 := by omega
          have HS := Lib.hid (fun W => show_any f W (by omega) (by omega))
          cases hgd : goodB f with
          | false =>
            rw [showL_bad hgd] at HS
            clear hgd
            go_wp2_with fail
            refine (HS.out _).mono ?_
            rintro e w3 ⟨rfl, hb3⟩
            have H3 := Lib.hid (HBI.out.bl.step hb3)
            clear hb3
            dsimp only
            go_wp2_with fail
            go_ret
            exact ⟨rfl, H3.out.1⟩
          | true =>
            rw [showL_good hgd] at HS
            have HFD := Lib.hid (fun W => folded_any (f.1.length + 2) (lineOf f) a W (by unfold lineOf; simp; omega) hab (line_place f hgd))
            have hll : (lineOf f).length = f.1.length + f.2.length + 2 := by unfold lineOf; simp; omega
            have HG := Lib.hid hgd
            obtain ⟨l, hl⟩ : ∃ l, l = lineOf f := ⟨_, rfl⟩
            rw [← hl] at HS HFD hll
            have HL := Lib.hid hl
            have E1 := Lib.hid (show (str (joinL P) ++ str l) ++ { data := #[13, 10] } = str (joinL (P ++ [l])) by rw [joinL_snoc]; apply ByteArray.ext; simp)
            clear hl hgd
            go_wp2_with fail
            refine (HS.out _).mono ?_
            rintro e w3 ⟨rfl, hb3⟩
            have H3 := Lib.hid (HBI.out.bl.step hb3)
            clear hb3
            dsimp only
            go_wp2_with fail
            rw [E1.out]
            refine (HFD.out _).mono ?_
            rintro e w4 ⟨t, rfl, hft, hb4⟩
            have H4 := Lib.hid (H3.out.step hb4)
            have htl : t.length ≤ 3 * l.length := by have := hft.len; omega
            have hft' : FT (f.1.length + 2) (lineOf f) t := by rw [← HL.out]; exact hft
            obtain ⟨L, hL1, hL2⟩ := Ln.of HG.out hft'
            have E2 := Lib.hid (show (str (joinL F) ++ str t) ++ { data := #[13, 10] } = str (joinL (F ++ L)) by rw [joinL_append, ← hL2]; apply ByteArray.ext; simp)
            have HN := Lib.hid (show BI w fs (k + 1) (P ++ [l]) (F ++ L) w4 from ⟨H4.out, by rw [HT.out]; exact HBI.out.cp.snoc (by rw [HL.out]; exact Ln.plain HG.out), by rw [HT.out]; exact HBI.out.cf.snoc hL1, by rw [joinL_snoc]; simp only [List.length_append, List.length_cons, List.length_nil]; omega, by rw [joinL_append, ← hL2]; simp only [List.length_append, List.length_cons, List.length_nil]; omega⟩)
            clear hft hft' hL1 hL2 hb4
            go_wp2_with fail
            go_roundw
            case rel => exact ⟨k + 1, P ++ [l], F ++ L, by omega, by go_num, rfl, by rw [E2.out], HN.out⟩
            case measure => simp [intOf]; omega
        · obtain rfl : k = fs.length := by omega
          have hcp := HBI.out.cp
          have hcf := HBI.out.cf
          rw [List.take_length] at hcp hcf hsk hlp hlf
          have hnl : fs.length ≤ 5000 := by
            have : ∀ l : List FP, 5 * l.length ≤ sizeP l := by
              intro l; induction l with
              | nil => simp
              | cons r l ih => simp only [List.length_cons, sizeP]; omega
            have := this fs
            omega
          obtain ⟨p, hp⟩ : ∃ p, p = joinL P := ⟨_, rfl⟩
          obtain ⟨f, hf⟩ : ∃ f, f = joinL F := ⟨_, rfl⟩
          have P1 := Lib.hid hcp.text
          have P2 := Lib.hid (hcp.textB q)
          have F1 := Lib.hid hcf.text
          have F2 := Lib.hid (hcf.textB q)
          rw [← hp] at P1 P2 hlp
          rw [← hf] at F1 F2 hlf
          rw [← hp, ← hf]
          have EP := Lib.hid (show (str p ++ { data := #[13, 10] }) ++ str q = str (p ++ 13 :: 10 :: q) by apply ByteArray.ext; simp)
          have EF := Lib.hid (show (str f ++ { data := #[13, 10] }) ++ str q = str (f ++ 13 :: 10 :: q) by apply ByteArray.ext; simp)
          have hpq : (p ++ 13 :: 10 :: q).length ≤ 100000 := by simp only [List.length_append, List.length_cons]; omega
          have hfq : (f ++ 13 :: 10 :: q).length ≤ 100000 := by simp only [List.length_append, List.length_cons]; omega
          have hqq : (q == q) = true := by simp
          have H5 := Lib.hid HBI.out.bl
          have X5 := Lib.hid (HX.out.step HBI.out.bl.1)
          clear hcp hcf hp hf
          go_wp2_with fail
          refine (toldK X5.out (by omega)).mono ?_
          rintro e w6 ⟨A, c, rfl, hb6, hw6⟩
          have H6 := Lib.hid (H5.out.step hb6)
          have W6 := Lib.hid hw6
          clear hb6 hw6
          go_wp2_with fail
          refine (fieldsK H6.out.2 p (by omega) P1.out.1).mono ?_
          rintro e w7 ⟨A6, c6, rfl, hb, hp⟩
          have H7 := Lib.hid (H6.out.step hb)
          have W7 := Lib.hid (W6.out.step hb)
          have V7 := Lib.hid hp
          clear hb hp
          go_wp2_with fail
          refine (toldK V7.out (by omega)).mono ?_
          rintro e w8 ⟨A7, c7, rfl, hb, hp⟩
          have H8 := Lib.hid (H7.out.step hb)
          have W8 := Lib.hid (W7.out.step hb)
          have V8 := Lib.hid hp
          clear hb hp
          go_wp2_with fail
          refine (rsame_any fs fs _ _ w8 V8.out W8.out (by omega) (by omega)).mono ?_
          rintro e w9 ⟨rfl, hb⟩
          have H9 := Lib.hid (H8.out.step hb)
          have W9 := Lib.hid (W8.out.step hb)
          clear hb
          rw [show (fs == fs) = true by simp]
          go_wp2_with fail
          refine (fieldsK H9.out.2 f (by omega) F1.out.1).mono ?_
          rintro e w10 ⟨A9, c9, rfl, hb, hp⟩
          have H10 := Lib.hid (H9.out.step hb)
          have W10 := Lib.hid (W9.out.step hb)
          have V10 := Lib.hid hp
          clear hb hp
          go_wp2_with fail
          refine (toldK V10.out (by omega)).mono ?_
          rintro e w11 ⟨A10, c10, rfl, hb, hp⟩
          have H11 := Lib.hid (H10.out.step hb)
          have W11 := Lib.hid (W10.out.step hb)
          have V11 := Lib.hid hp
          clear hb hp
          go_wp2_with fail
          refine (rsame_any fs fs _ _ w11 V11.out W11.out (by omega) (by omega)).mono ?_
          rintro e w12 ⟨rfl, hb⟩
          have H12 := Lib.hid (H11.out.step hb)
          have W12 := Lib.hid (W11.out.step hb)
          clear hb
          rw [show (fs == fs) = true by simp]
          go_wp2_with fail
          rw [EP.out]
          refine (fieldsK H12.out.2 (p ++ 13 :: 10 :: q) (by omega) P2.out.1).mono ?_
          rintro e w13 ⟨A12, c12, rfl, hb, hp⟩
          have H13 := Lib.hid (H12.out.step hb)
          have W13 := Lib.hid (W12.out.step hb)
          have V13 := Lib.hid hp
          clear hb hp
          go_wp2_with fail
          refine (toldK V13.out (by omega)).mono ?_
          rintro e w14 ⟨A13, c13, rfl, hb, hp⟩
          have H14 := Lib.hid (H13.out.step hb)
          have W14 := Lib.hid (W13.out.step hb)
          have V14 := Lib.hid hp
          clear hb hp
          go_wp2_with fail
          refine (rsame_any fs fs _ _ w14 V14.out W14.out (by omega) (by omega)).mono ?_
          rintro e w15 ⟨rfl, hb⟩
          have H15 := Lib.hid (H14.out.step hb)
          have W15 := Lib.hid (W14.out.step hb)
          clear hb
          rw [show (fs == fs) = true by simp]
          go_wp2_with fail
          rw [EF.out]
          refine (fieldsK H15.out.2 (f ++ 13 :: 10 :: q) (by omega) F2.out.1).mono ?_
          rintro e w16 ⟨A15, c15, rfl, hb, hp⟩
          have H16 := Lib.hid (H15.out.step hb)
          have W16 := Lib.hid (W15.out.step hb)
          have V16 := Lib.hid hp
          clear hb hp
          go_wp2_with fail
          refine (toldK V16.out (by omega)).mono ?_
          rintro e w17 ⟨A16, c16, rfl, hb, hp⟩
          have H17 := Lib.hid (H16.out.step hb)
          have W17 := Lib.hid (W16.out.step hb)
          have V17 := Lib.hid hp
          clear hb hp
          go_wp2_with fail
          refine (rsame_any fs fs _ _ w17 V17.out W17.out (by omega) (by omega)).mono ?_
          rintro e w18 ⟨rfl, hb⟩
          have H18 := Lib.hid (H17.out.step hb)
          have W18 := Lib.hid (W17.out.step hb)
          clear hb
          rw [show (fs == fs) = true by simp]
          go_wp2_with fail
          rw [EP.out]
          refine (bodyB H18.out (p ++ 13 :: 10 :: q) (by omega) P2.out.2).mono ?_
          rintro e w19 ⟨rfl, hb⟩
          have H19 := Lib.hid hb
          clear hb
          go_wp2_with fail
          refine (bodyB H19.out p (by omega) P1.out.2).mono ?_
          rintro e w20 ⟨rfl, hb⟩
          have H20 := Lib.hid hb
          clear hb
          go_wp2_with fail
          go_ret
          exact ⟨rfl, H20.out.1⟩
end Go.Proofs.YtkffdhdhjfbhjaaDoor
