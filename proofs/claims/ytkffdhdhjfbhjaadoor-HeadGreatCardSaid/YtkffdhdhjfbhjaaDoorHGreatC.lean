/-
  The walk of HeadGreat.
-/
import Derived.Deep.RegionHeld3
import Derived.Deep.RegionLaw
import Derived.Test.YtkffdhdhjfbhjaaDoorHPureG
import Derived.Test.YtkffdhdhjfbhjaaDoorHBackC
namespace Go.Proofs.YtkffdhdhjfbhjaaDoor
set_option linter.unusedSimpArgs false
set_option linter.unusedVariables false
open Go Go.RowKit Go.Shelf
set_option maxRecDepth 100000

theorem RowIs.stepH {w w' : World} {v : Value} {xs : List (List UInt8)} (h : RowIs w v xs) (hb : Below w.heap.size w w') : RowIs w' v xs := by
  obtain ⟨A, c, rfl, h⟩ := h
  refine ⟨A, c, rfl, fun hp => ?_⟩
  obtain ⟨g, e, hl, hc, hf⟩ := h hp
  exact ⟨g, e, Nat.lt_of_lt_of_le hl hb.size, fun j hj => (hb.cell (p := ⟨g, j, none⟩) hl).trans (hc j hj), fun j hj => (hb.frozen (p := ⟨g, j, none⟩) hl).trans (hf j hj)⟩
theorem getK {w0 w : World} (h : BL w0 w) (s n : List UInt8) (hs : s.length ≤ 1000000) (hn : n.length ≤ 1000000) {xs : List (List UInt8)} (hx : getL s n = xs) : Calls Tryd.prog 17 #[sv s, sv n] w fun e w' => ∃ A c, e = .returned (.slice A xs.length c) ∧ Below w.heap.size w w' ∧ BL w0 w' ∧ RowIs w' (.slice A xs.length c) xs := by
  subst hx
  refine (get_any s n w hs hn h.2).mono ?_
  rintro e w' ⟨v, h1, h2, h3⟩
  obtain ⟨A, c, rfl⟩ := h3.form
  exact ⟨A, c, h1, h2, h.step h2, h3.row⟩
theorem same01K {w0 w : World} (h : BL w0 w) {v u : Value} {xs : List (List UInt8)} (hv : RowIs w v xs) (hu : RowIs w u xs) (hl : xs.length ≤ 1000000) : Calls Tryd.prog 21 #[v, u] w fun e w' => e = .returned (.bool true) ∧ BL w0 w' := by
  refine (same01_any xs xs v u w hv hu hl hl).mono ?_
  rintro e w' ⟨h1, h2⟩
  rw [h1]
  exact ⟨by simp, h.step h2⟩
theorem otherK {w0 w : World} (h : BL w0 w) (s : List UInt8) (a : Int) (hs : s.length ≤ 100000) (ha : 0 ≤ a ∧ a < 18446744073709551616) : Calls Tryd.prog 30 #[sv s, .int .u64 a] w fun e w' => ∃ t, e = .returned (sv t) ∧ t.map smallB = s.map smallB ∧ BL w0 w' := by
  refine (other_any s a w hs ha).mono ?_
  rintro e w' ⟨t, h1, h2, h3⟩
  exact ⟨t, h1, h2, h.step h3⟩

/-- The lines so far: of the fields, of those with other letters. -/
structure GI (w : World) (fs : List FP) (k : Nat) (gs : List FP) (P F : List (List UInt8)) (W : World) : Prop where
  bl : BL w W
  cp : Cl (fs.take k) P
  cf : Cl gs F
  sm : gs.map smF = (fs.take k).map smF
  lp : (joinL P).length ≤ sizeP (fs.take k)
  lf : (joinL F).length ≤ sizeP (fs.take k)

set_option maxHeartbeats 64000000 in
theorem headGreat_walk (u : Option Addr) (g : Nat) (fs : List FP) (a : Int) (f : FP) (w : World) (hR : PR w (.slice u fs.length g) fs) (hI : fs.length ≤ 140737488351232 ∧ ∀ r ∈ fs, r.1.length ≤ 140737488351232 ∧ r.2.length ≤ 140737488351232) (ha : (Lit.int .u64 a).wf = true) (hf : f.1.length ≤ 140737488351232 ∧ f.2.length ≤ 140737488351232) (hM : ML w) :
    Calls Tryd.prog 8 #[.slice u fs.length g, .int .u64 a, fv f] w fun e w' => e = .returned (.bool true) ∧ Below w.heap.size w w' := by
  obtain ⟨fn, fx⟩ := f
  dsimp only at hf ⊢
  obtain ⟨hfn, hfx⟩ := hf
  have hab := bounds_u64 ha
  obtain ⟨W, hW⟩ : ∃ W, W = w.alloc (.cells #[sv fn, sv fx] 29) := ⟨_, rfl⟩
  have hbox : W.heap[w.heap.size]? = some (.cells #[sv fn, sv fx] 29 (0, 0)) := by rw [hW]; exact heap_alloc_new w _
  have hbel : BL w W := by rw [hW]; exact (BL.start hM).alloc _
  have HBW := Lib.hid hbel
  have d0 : W.cell? ⟨w.heap.size, 0, none⟩ = some (sv fn) := by rw [cellAt hbox]; rfl
  have d1 : W.cell? ⟨w.heap.size, 1, none⟩ = some (sv fx) := by rw [cellAt hbox]; rfl
  obtain ⟨kz, hkz⟩ : ∃ kz, kz = w.heap.size := ⟨_, rfl⟩
  rw [← hkz] at hbox d0 d1
  have HC := Lib.hid (show ∀ X, BL W X → X.cell? ⟨kz, 0, none⟩ = some (sv fn) ∧ X.cell? ⟨kz, 1, none⟩ = some (sv fx) from fun X hX =>
    ⟨(hX.1.cell (p := ⟨kz, 0, none⟩) (lt_of_blk hbox)).trans d0, (hX.1.cell (p := ⟨kz, 1, none⟩) (lt_of_blk hbox)).trans d1⟩)
  have HFIN := Lib.hid (show ∀ X, BL W X → Below w.heap.size w X from fun X hX => (hbel.step hX.1).1)
  have HW := Lib.hid hW
  have HX := Lib.hid (hR.step hbel.1)
  have HLG := Lib.hid (long_any fs _ W HX.out hI.1 hI.2)
  have HST := Lib.hid (BL.start hbel.2)
  have HKZ := Lib.hid hkz
  obtain ⟨hI1, hI2⟩ := hI
  clear hM hR ha hI2 hbox hW hbel hkz
  have hadd : ¬ 9223372036854775807 < fn.length + fx.length := by omega
  go_enter Tryd.func8, Tryd.ntmps8
  go_wp2_with fail
  rw [← HW.out, ← HKZ.out]
  go_wp2_with fail
  refine HLG.out.mono ?_
  rintro e w1 ⟨b, rfl, hb1, hsz⟩
  have H1 := Lib.hid (HST.out.step hb1)
  obtain ⟨z0, z1⟩ := HC.out _ H1.out
  clear hb1
  cases b with
  | true =>
    clear hsz
    go_wp2_with fail
    refine (awake_any H1.out).mono ?_
    rintro e w2 ⟨rfl, hb2⟩
    go_wp2_with fail
    go_ret
    exact ⟨rfl, HFIN.out _ hb2⟩
  | false =>
    have hsz := hsz rfl
    by_cases h2 : 5000 < fn.length + fx.length
    · have i2 : (5000 : Int) < (fn.length : Int) + (fx.length : Int) := by omega
      go_wp2_with fail
      refine (awake_any H1.out).mono ?_
      rintro e w2 ⟨rfl, hb2⟩
      go_wp2_with fail
      go_ret
      exact ⟨rfl, HFIN.out _ hb2⟩
    · have i2 : ¬ (5000 : Int) < (fn.length : Int) + (fx.length : Int) := by omega
      have hnl : fs.length ≤ 5000 := by
        have : ∀ l : List FP, 5 * l.length ≤ sizeP l := by
          intro l; induction l with
          | nil => simp
          | cons r l ih => simp only [List.length_cons, sizeP]; omega
        have := this fs
        omega
      obtain ⟨r, e0, hr⟩ : ∃ r e0, showL (fn, fx) = (r, e0) := ⟨_, _, rfl⟩
      have HSF := Lib.hid (fun X (h : BL W X) => showB h fn fx (by omega) (by omega) hr)
      have HR := Lib.hid hr
      clear hr
      go_wp2_with fail
      refine (awake_any H1.out).mono ?_
      rintro e w2 ⟨rfl, hb2⟩
      have H2 := Lib.hid hb2
      clear hb2 z0 z1
      obtain ⟨z0, z1⟩ := HC.out _ H2.out
      go_wp2_with fail
      refine (HSF.out _ H2.out).mono ?_
      rintro e w3 ⟨rfl, hb3⟩
      have H3 := Lib.hid hb3
      clear hb3 z0 z1
      go_wp2_with fail
      go_loopw [9, 10, 11, 12, 13, 14, 15] (fun p f i _ _ _ _ wr => ∃ (k : Nat) (gs : List FP) (P F : List (List UInt8)), k ≤ fs.length ∧ i = .int .i64 k ∧ p = sv (joinL P) ∧ f = sv (joinL F) ∧ GI W fs k gs P F wr) (fun _ _ i _ _ _ _ _ => fs.length - (intOf i).toNat)
      case atStart => exact ⟨0, [], [], [], Nat.zero_le _, rfl, rfl, rfl, ⟨H3.out, rfl, rfl, rfl, by simp [joinL], by simp [joinL]⟩⟩
      case round =>
        obtain ⟨k, gs, P, F, hk, rfl, rfl, rfl, hbi⟩ := hrel
        have hsk := sizeP_take_le fs k
        have hlp := hbi.lp
        have hlf := hbi.lf
        have HBI := Lib.hid hbi
        clear hbi
        by_cases hlt : k < fs.length
        · have hk1 : (0 : Int) ≤ (k : Int) := by omega
          have hk2 : (k : Int) < (fs.length : Int) := by omega
          have HT := Lib.hid (take_at hlt)
          obtain ⟨g1, o1, rfl, hg1, c0, c1⟩ := PR.at HX.out hlt
          have hst := sizeP_take hlt
          have hs2 := sizeP_take_le fs (k + 1)
          obtain ⟨f, hf⟩ : ∃ f, f = fs.getD k pm0 := ⟨_, rfl⟩
          rw [← hf] at c0 c1 hst HT
          clear hf
          obtain ⟨n, x⟩ := f
          dsimp only at c0 c1 hst
          have HCE := Lib.hid (show ∀ X, BL W X → X.cell? ⟨g1, o1 + k * 2, none⟩ = some (sv n) ∧ X.cell? ⟨g1, o1 + k * 2 + 1, none⟩ = some (sv x) from fun X hX => ⟨(hX.1.cell (p := ⟨g1, o1 + k * 2, none⟩) hg1).trans c0, (hX.1.cell (p := ⟨g1, o1 + k * 2 + 1, none⟩) hg1).trans c1⟩)
          have hf1 : n.length ≤ 5000 := by omega
          have hf2 : x.length ≤ 5000 := by omega
          have HOT := Lib.hid (fun X (h : BL W X) => otherK h n a (by omega) hab)
          obtain ⟨a0, a1⟩ := HCE.out _ HBI.out.bl
          clear c0 c1
          cases hgd : goodB (n, x) with
          | false =>
            have HS := Lib.hid (fun X (h : BL W X) => showB h n x (by omega) (by omega) (showL_bad hgd))
            have HSH := Lib.hid (fun (t : List UInt8) X (ht : t.map smallB = n.map smallB) (h : BL W X) => showB h t x (by rw [len_sm ht]; omega) (by omega) (showL_bad (by rw [goodB_sm x ht]; exact hgd)))
            clear hgd
            go_wp2_with fail
            refine (HS.out _ HBI.out.bl).mono ?_
            rintro e w4 ⟨rfl, h4⟩
            clear a0 a1
            obtain ⟨a0, a1⟩ := HCE.out _ h4
            go_wp2_with fail
            go_region_held3 (fun X => BL W X ∧ X.cell? ⟨g1, o1 + k * 2, none⟩ = some (sv n) ∧ X.cell? ⟨g1, o1 + k * 2 + 1, none⟩ = some (sv x)) (first | exact ⟨by assumption, HCE.out _ (by assumption)⟩ | exact ⟨BL.drew (by assumption), HCE.out _ (BL.drew (by assumption))⟩)
              (first
                | (go_at_call 30; with_reducible refine (HOT.out _ (by first | assumption | exact BL.drew (by assumption))).mono ?_; rintro e1 w8 ⟨t, rfl, htm, hR1⟩)
                | (go_at_call 13; with_reducible refine (HSH.out _ _ htm (by first | assumption | exact BL.drew (by assumption))).mono ?_; rintro e1 w9 ⟨rfl, hR2⟩))
            all_goals
              have H9 := Lib.hid hR2
              clear hR1 hR2 h4
              go_wp2_with fail
              go_ret
              exact ⟨rfl, HFIN.out _ H9.out⟩
          | true =>
            have HS := Lib.hid (fun X (h : BL W X) => showB h n x (by omega) (by omega) (showL_good hgd))
            have HSH := Lib.hid (fun (t : List UInt8) X (ht : t.map smallB = n.map smallB) (h : BL W X) => showB h t x (by rw [len_sm ht]; omega) (by omega) (showL_good (by rw [goodB_sm x ht]; exact hgd)))
            have HG := Lib.hid hgd
            have hll : (lineOf (n, x)).length = n.length + x.length + 2 := by unfold lineOf; simp; omega
            obtain ⟨l, hl⟩ : ∃ l, l = lineOf (n, x) := ⟨_, rfl⟩
            rw [← hl] at HS hll
            have HL := Lib.hid hl
            have E1 := Lib.hid (show (str (joinL P) ++ str l) ++ { data := #[13, 10] } = str (joinL (P ++ [l])) by rw [joinL_snoc]; apply ByteArray.ext; simp)
            clear hgd hl
            go_wp2_with fail
            refine (HS.out _ HBI.out.bl).mono ?_
            rintro e w4 ⟨rfl, h4⟩
            clear a0 a1
            obtain ⟨a0, a1⟩ := HCE.out _ h4
            go_wp2_with fail
            go_region_held3 (fun X => BL W X ∧ X.cell? ⟨g1, o1 + k * 2, none⟩ = some (sv n) ∧ X.cell? ⟨g1, o1 + k * 2 + 1, none⟩ = some (sv x)) (first | exact ⟨by assumption, HCE.out _ (by assumption)⟩ | exact ⟨BL.drew (by assumption), HCE.out _ (BL.drew (by assumption))⟩)
              (first
                | (go_at_call 30; with_reducible refine (HOT.out _ (by first | assumption | exact BL.drew (by assumption))).mono ?_; rintro e1 w8 ⟨t, rfl, htm, hR1⟩)
                | (go_at_call 13; with_reducible refine (HSH.out _ _ htm (by first | assumption | exact BL.drew (by assumption))).mono ?_; rintro e1 w9 ⟨rfl, hR2⟩))
            all_goals
              have H9 := Lib.hid hR2
              have htl := len_sm htm
              have hl2 : (lineOf (t, x)).length = t.length + x.length + 2 := by unfold lineOf; simp; omega
              have HG2 := Lib.hid ((goodB_sm x htm).trans HG.out)
              have HTM := Lib.hid htm
              obtain ⟨l2, hl2e⟩ : ∃ l2, l2 = lineOf (t, x) := ⟨_, rfl⟩
              rw [← hl2e] at hl2
              rw [← hl2e]
              have E2 := Lib.hid (show (str (joinL F) ++ str l2) ++ { data := #[13, 10] } = str (joinL (F ++ [l2])) by rw [joinL_snoc]; apply ByteArray.ext; simp)
              have HN := Lib.hid (show ∀ X, BL W X → GI W fs (k + 1) (gs ++ [(t, x)]) (P ++ [l]) (F ++ [l2]) X from fun X hX => ⟨hX, by rw [HT.out, HL.out]; exact HBI.out.cp.snoc (Ln.plain HG.out), by rw [hl2e]; exact HBI.out.cf.snoc (Ln.plain HG2.out), by rw [HT.out, List.map_append, List.map_append, HBI.out.sm, List.map_cons, List.map_cons, List.map_nil]; unfold smF; rw [HTM.out], by rw [joinL_snoc]; simp only [List.length_append, List.length_cons, List.length_nil]; omega, by rw [joinL_snoc]; simp only [List.length_append, List.length_cons, List.length_nil]; omega⟩)
              clear hR1 hR2 h4 htm hl2e
              go_wp2_with fail
              go_roundw
              case rel => exact ⟨k + 1, gs ++ [(t, x)], P ++ [l], F ++ [l2], by omega, by go_num, by rw [E1.out], by rw [E2.out], HN.out _ H9.out⟩
              case measure => simp [intOf]; omega
        · obtain rfl : k = fs.length := by omega
          have hcp := HBI.out.cp
          have hcf := HBI.out.cf
          have hsm := HBI.out.sm
          rw [List.take_length] at hcp hsm hsk hlp hlf
          obtain ⟨p, hp⟩ : ∃ p, p = joinL P := ⟨_, rfl⟩
          obtain ⟨q, hq⟩ : ∃ q, q = joinL F := ⟨_, rfl⟩
          have p1 := hcp.text.1
          have q1 := hcf.text.1
          rw [← hp] at p1 hlp
          rw [← hq] at q1 hlf
          rw [← hp, ← hq]
          have HGA := Lib.hid (fun (n : List UInt8) X (hn : n.length ≤ 5000) (h : BL W X) => getK h p n (by omega) (by omega) (xs := getF fs n) (getL_F p1 n))
          have HGB := Lib.hid (fun (n : List UInt8) X (hn : n.length ≤ 5000) (h : BL W X) => getK h q n (by omega) (by omega) (xs := getF fs n) ((getL_F q1 n).trans (getF_sm hsm n)))
          have HGO := Lib.hid (fun (n t : List UInt8) X (hn : n.length ≤ 5000) (ht : t.map smallB = n.map smallB) (h : BL W X) => getK h p t (by omega) (by rw [len_sm ht]; omega) (xs := getF fs n) ((getL_F p1 t).trans (getF_name fs ht)))
          obtain ⟨pl, hpl⟩ : ∃ pl, pl = plainF (getF fs reqL) := ⟨_, rfl⟩
          obtain ⟨hn, hhn⟩ : ∃ hn, hn = (getF fs recL).length := ⟨_, rfl⟩
          have HPA := Lib.hid (fun X (h : BL W X) => plainB h p (by omega) (r := pl) ((plainL_F p1).trans hpl.symm))
          have HPB := Lib.hid (fun X (h : BL W X) => plainB h q (by omega) (r := pl) ((plainL_F q1).trans (by rw [getF_sm hsm]; exact hpl.symm)))
          have HHA := Lib.hid (fun X (h : BL W X) => hopsB h p (by omega) (n := hn) ((hopsL_F p1).trans hhn.symm))
          have HHB := Lib.hid (fun X (h : BL W X) => hopsB h q (by omega) (n := hn) ((hopsL_F q1).trans (by rw [getF_sm hsm]; exact hhn.symm)))
          have HCP := Lib.hid hcp
          have HP := Lib.hid hp
          have HPL := Lib.hid hpl
          have HHN := Lib.hid hhn
          have HSZ := Lib.hid hsz
          have H5 := Lib.hid HBI.out.bl
          have hpp : (pl != pl) = false := by simp
          have hpe : (pl == pl) = true := by simp
          clear hcp hcf hsm p1 q1 hp hq hpl hhn hk
          go_wp2_with fail
          go_loopw [16] (fun i wr => ∃ k : Nat, k ≤ fs.length ∧ i = .int .i64 k ∧ BL W wr) (fun i _ => fs.length - (intOf i).toNat)
          case atStart => exact ⟨0, Nat.zero_le _, rfl, H5.out⟩
          case round =>
            obtain ⟨k, hk, rfl, hbr⟩ := hrel
            by_cases hlt2 : k < fs.length
            · have hk1 : (0 : Int) ≤ (k : Int) := by omega
              have hk2 : (k : Int) < (fs.length : Int) := by omega
              obtain ⟨g1, o1, rfl, hg1, c0, c1⟩ := PR.at HX.out hlt2
              have hst := sizeP_take hlt2
              have hs2 := sizeP_take_le fs (k + 1)
              obtain ⟨f, hf⟩ : ∃ f, f = fs.getD k pm0 := ⟨_, rfl⟩
              rw [← hf] at c0 c1 hst
              clear hf
              obtain ⟨n, x⟩ := f
              dsimp only at c0 c1 hst
              have hf1 : n.length ≤ 5000 := by have := HSZ.out; omega
              have HCE := Lib.hid (show ∀ X, BL W X → X.cell? ⟨g1, o1 + k * 2, none⟩ = some (sv n) from fun X hX => (hX.1.cell (p := ⟨g1, o1 + k * 2, none⟩) hg1).trans c0)
              obtain ⟨xs, hxs⟩ : ∃ xs, xs = getF fs n := ⟨_, rfl⟩
              have hxl : xs.length ≤ 1000000 := by rw [hxs]; have := getF_len fs n; omega
              have HA2 := Lib.hid (fun X (h : BL W X) => HGA.out n X hf1 h)
              have HB2 := Lib.hid (fun X (h : BL W X) => HGB.out n X hf1 h)
              have HO2 := Lib.hid (fun t X (ht : t.map smallB = n.map smallB) (h : BL W X) => HGO.out n t X hf1 ht h)
              rw [← hxs] at HA2 HB2 HO2
              have HOT := Lib.hid (fun X (h : BL W X) => otherK h n a (by omega) hab)
              have a0 := HCE.out _ hbr
              clear c0 c1 hxs
              go_wp2_with fail
              go_region_held3 (fun X => BL W X ∧ X.cell? ⟨g1, o1 + k * 2, none⟩ = some (sv n)) (first | exact ⟨by assumption, HCE.out _ (by assumption)⟩ | exact ⟨BL.drew (by assumption), HCE.out _ (BL.drew (by assumption))⟩)
                (first
                  | (go_at_call 30; with_reducible refine (HOT.out _ (by first | assumption | exact BL.drew (by assumption))).mono ?_; rintro e1 w8 ⟨t, rfl, htm, hR1⟩)
                  | (go_at_call 17; with_reducible refine (HA2.out _ (by first | assumption | exact BL.drew (by assumption))).mono ?_; rintro e1 wA ⟨A1, c1, rfl, hbA, hSA, hrA⟩)
                  | (go_at_call 17; with_reducible refine (HB2.out _ (by first | assumption | exact BL.drew (by assumption))).mono ?_; rintro e1 wB ⟨A2, c2, rfl, hbB, hSB, hrB⟩)
                  | (go_at_call 17; with_reducible refine (HO2.out _ _ htm (by first | assumption | exact BL.drew (by assumption))).mono ?_; rintro e1 wO ⟨A3, c3, rfl, hbO, hSO, hrO⟩)
                  | (go_at_call 21; refine (same01K (w0 := W) (by first | assumption | exact BL.drew (by assumption)) (hrA.stepH hbB) hrB hxl).mono ?_; rintro e1 wS ⟨rfl, hSS⟩)
                  | (go_at_call 21; refine (same01K (w0 := W) (by first | assumption | exact BL.drew (by assumption)) (hrO.stepH hbA) hrA hxl).mono ?_; rintro e1 wS ⟨rfl, hS2⟩))
              all_goals
                have H9 := Lib.hid hS2
                clear hR1 hSA hSB hSO hSS hS2 hrA hrB hrO hbA hbB hbO htm
                go_wp2_with fail
                go_roundw
                case rel => exact ⟨k + 1, by omega, by go_num, H9.out⟩
                case measure => simp [intOf]; omega
            · have H6 := Lib.hid hbr
              clear hbr
              have hkn : ¬ (k : Int) < (fs.length : Int) := by omega
              cases hgf : goodB (fn, fx) with
              | false =>
                have hr2 := HR.out
                rw [showL_bad hgf] at hr2
                simp only [Prod.mk.injEq] at hr2
                obtain ⟨rfl, rfl⟩ := hr2
                clear hgf
                go_wp2_with fail
                refine (HPA.out _ H6.out).mono ?_
                rintro e v1 ⟨rfl, hz⟩
                have V1 := Lib.hid hz
                clear hz
                go_wp2_with fail
                refine (HPB.out _ V1.out).mono ?_
                rintro e v2 ⟨rfl, hz⟩
                have V2 := Lib.hid hz
                clear hz
                go_wp2_with fail
                refine (HHA.out _ V2.out).mono ?_
                rintro e v3 ⟨rfl, hz⟩
                have V3 := Lib.hid hz
                clear hz
                go_wp2_with fail
                refine (HHB.out _ V3.out).mono ?_
                rintro e v4 ⟨rfl, hz⟩
                have V4 := Lib.hid hz
                clear hz
                go_wp2_with fail
                refine (HPA.out _ V4.out).mono ?_
                rintro e v5 ⟨rfl, hz⟩
                have V5 := Lib.hid hz
                clear hz
                go_wp2_with fail
                refine (HPB.out _ V5.out).mono ?_
                rintro e v6 ⟨rfl, hz⟩
                have V6 := Lib.hid hz
                clear hz
                go_wp2_with fail
                go_ret
                exact ⟨rfl, HFIN.out _ V6.out⟩
              | true =>
                have hr2 := HR.out
                rw [showL_good hgf] at hr2
                simp only [Prod.mk.injEq] at hr2
                obtain ⟨hr3, rfl⟩ := hr2
                obtain ⟨lk, hlk⟩ : ∃ lk, lk = likeB fn reqL := ⟨_, rfl⟩
                have HLK := Lib.hid (fun X (h : BL W X) => (likeBB h fn reqL (by omega) (by simp [reqL]) hlk.symm))
                have hml : r.length = fn.length + fx.length + 2 := by rw [← hr3]; unfold lineOf; simp; omega
                have hP := HP.out
                have ET : (str p ++ str r) ++ { data := #[13, 10] } = str (joinL (P ++ [r])) := by rw [joinL_snoc, ← hP]; apply ByteArray.ext; simp
                have EM : str r ++ { data := #[13, 10] } = str (joinL [r]) := by apply ByteArray.ext; simp [joinL]
                have EZ : (str r ++ { data := #[13, 10] }) ++ str p = str (joinL ([r] ++ P)) := by rw [joinL_append, ← hP]; apply ByteArray.ext; simp [joinL]
                have lT : (joinL (P ++ [r])).length ≤ 100000 := by rw [joinL_snoc, ← hP]; simp only [List.length_append, List.length_cons, List.length_nil]; have := HSZ.out; omega
                have lM : (joinL [r]).length ≤ 100000 := by simp [joinL]; omega
                have lZ : (joinL ([r] ++ P)).length ≤ 100000 := by rw [joinL_append, ← hP]; have := HSZ.out; simp [joinL]; omega
                have lp : Ln (fn, fx) [r] := by rw [← hr3]; exact Ln.plain hgf
                have fT := (HCP.out.snoc lp).text.1
                have fM : fieldsL (joinL [r]) = [(fn, fx)] := (show Cl [(fn, fx)] [r] from ⟨[r], [], rfl, lp, rfl⟩).text.1
                have fZ : fieldsL (joinL ([r] ++ P)) = (fn, fx) :: fs := (show Cl ((fn, fx) :: fs) ([r] ++ P) from ⟨[r], P, rfl, lp, HCP.out⟩).text.1
                have HSZ2 := HSZ.out
                clear hgf hr3 hP lp
                cases lk with
                | false =>
                  have g1 : getF [(fn, fx)] reqL = [] := by rw [getF_one (f := (fn, fx)) hlk.symm]; rfl
                  have HPT := Lib.hid (fun X (h : BL W X) => plainB h (joinL (P ++ [r])) (by omega) (r := pl) ((plainL_F fT).trans (by rw [getF_app, g1, List.append_nil]; exact HPL.out.symm)))
                  have HPZ := Lib.hid (fun X (h : BL W X) => plainB h (joinL ([r] ++ P)) (by omega) (r := pl) ((plainL_F fZ).trans (by rw [show (fn, fx) :: fs = [(fn, fx)] ++ fs from rfl, getF_app, g1, List.nil_append]; exact HPL.out.symm)))
                  unfold sv at HPT HPZ
                  rw [← ET] at HPT
                  rw [← EZ] at HPZ
                  clear ET EM EZ lT lM lZ fT fM fZ g1 hlk
                  go_wp2_with fail
                  refine (HPA.out _ H6.out).mono ?_
                  rintro e v1 ⟨rfl, hz⟩
                  have V1 := Lib.hid hz
                  clear hz
                  go_wp2_with fail
                  refine (HPB.out _ V1.out).mono ?_
                  rintro e v2 ⟨rfl, hz⟩
                  have V2 := Lib.hid hz
                  clear hz
                  go_wp2_with fail
                  refine (HHA.out _ V2.out).mono ?_
                  rintro e v3 ⟨rfl, hz⟩
                  have V3 := Lib.hid hz
                  clear hz
                  go_wp2_with fail
                  refine (HHB.out _ V3.out).mono ?_
                  rintro e v4 ⟨rfl, hz⟩
                  have V4 := Lib.hid hz
                  clear hz
                  obtain ⟨z0, z1⟩ := HC.out _ V4.out
                  go_wp2_with fail
                  refine (HLK.out _ V4.out).mono ?_
                  rintro e v5 ⟨rfl, hz⟩
                  have V5 := Lib.hid hz
                  clear hz
                  go_wp2_with fail
                  refine (HPT.out _ V5.out).mono ?_
                  rintro e v6 ⟨rfl, hz⟩
                  have V6 := Lib.hid hz
                  clear hz
                  go_wp2_with fail
                  refine (HPA.out _ V6.out).mono ?_
                  rintro e v7 ⟨rfl, hz⟩
                  have V7 := Lib.hid hz
                  clear hz
                  go_wp2_with fail
                  refine (HPZ.out _ V7.out).mono ?_
                  rintro e v8 ⟨rfl, hz⟩
                  have V8 := Lib.hid hz
                  clear hz
                  go_wp2_with fail
                  refine (HPA.out _ V8.out).mono ?_
                  rintro e v9 ⟨rfl, hz⟩
                  have V9 := Lib.hid hz
                  clear hz
                  go_wp2_with fail
                  go_ret
                  exact ⟨rfl, HFIN.out _ V9.out⟩
                | true =>
                  have g1 : getF [(fn, fx)] reqL = [fx] := by rw [getF_one (f := (fn, fx)) hlk.symm]; rfl
                  have g2 : getF [(fn, fx)] recL = [] := by rw [getF_one (f := (fn, fx)) (like_req_rec hlk.symm)]; rfl
                  obtain ⟨lv, hlv⟩ : ∃ lv, lv = likeB fx [78, 111] := ⟨_, rfl⟩
                  have HHT := Lib.hid (fun X (h : BL W X) => hopsB h (joinL (P ++ [r])) (by omega) (n := hn) ((hopsL_F fT).trans (by rw [getF_app, g2, List.append_nil]; exact HHN.out.symm)))
                  have HPM := Lib.hid (fun X (h : BL W X) => plainB h (joinL [r]) (by omega) (r := lv) ((plainL_F fM).trans (by rw [g1]; exact hlv.symm)))
                  have HLV := Lib.hid (fun X (h : BL W X) => likeBB h fx [78, 111] (by omega) (by simp) hlv.symm)
                  have HPT := Lib.hid (fun X (h : BL W X) (hpt : pl = true) => plainB h (joinL (P ++ [r])) (by omega) (r := false) ((plainL_F fT).trans (by rw [getF_app, g1]; exact plainF_two fx (HPL.out.symm.trans hpt))))
                  have hne : pl = true → fs.length ≠ 0 := fun h e => by
                    have := HPL.out
                    rw [List.eq_nil_of_length_eq_zero e, h] at this
                    revert this; decide
                  have hve : (lv == lv) = true := by simp
                  have hrl : r.length ≤ 10002 := by omega
                  clear hml
                  have ho1 : ¬ 9223372036854775807 < p.length + r.length := by omega
                  have ho2 : ¬ 9223372036854775807 < p.length + r.length + 2 := by omega
                  have ho3 : ¬ 9223372036854775807 < r.length + 2 := by omega
                  unfold sv at HPT HPM HHT
                  rw [← ET] at HPT HHT
                  rw [← EM] at HPM
                  clear ET EM EZ lT lM lZ fT fM fZ g1 g2 hlk hlv
                  go_wp2_with fail
                  refine (HPA.out _ H6.out).mono ?_
                  rintro e v1 ⟨rfl, hz⟩
                  have V1 := Lib.hid hz
                  clear hz
                  go_wp2_with fail
                  refine (HPB.out _ V1.out).mono ?_
                  rintro e v2 ⟨rfl, hz⟩
                  have V2 := Lib.hid hz
                  clear hz
                  go_wp2_with fail
                  refine (HHA.out _ V2.out).mono ?_
                  rintro e v3 ⟨rfl, hz⟩
                  have V3 := Lib.hid hz
                  clear hz
                  go_wp2_with fail
                  refine (HHB.out _ V3.out).mono ?_
                  rintro e v4 ⟨rfl, hz⟩
                  have V4 := Lib.hid hz
                  clear hz
                  obtain ⟨z0, z1⟩ := HC.out _ V4.out
                  go_wp2_with fail
                  refine (HLK.out _ V4.out).mono ?_
                  rintro e v5 ⟨rfl, hz⟩
                  clear z0 z1
                  obtain ⟨z0, z1⟩ := HC.out _ hz
                  cases pl with
                  | true =>
                    have hq0 : fs.length ≠ 0 := hne rfl
                    have hp0 : decide ((fs.length : Int) > 0) = true := decide_eq_true (by omega)
                    have hp1 : decide ((0 : Int) < (fs.length : Int)) = true := decide_eq_true (by omega)
                    have hp2 : (0 : Int) < (fs.length : Int) := by omega
                    have hp3 : 0 < fs.length := by omega
                    clear hne
                    have HPT2 := Lib.hid (fun X (h : BL W X) => HPT.out X h rfl)
                    go_wp2_with fail
                    refine wp_region_held_drew (S := fun X => BL W X ∧ X.cell? ⟨kz, 1, none⟩ = some (sv fx)) (by kernel_rfl) ?_ (fun hHeld => ?_)
                    · exact ⟨BL.drew (by assumption), (HC.out _ (BL.drew (by assumption))).2⟩
                    first
                      | (refine wpAnyH_take (i := 0) (v := ?vv0_1) rfl (by kernel_rfl) (by kernel_rfl) (by kernel_rfl) (fun _ _ _ h => h) (Or.inl ⟨by rfl, ?hy0_1⟩) (by assumption) ?rest0_1; case hy0_1 => (intro w' hSw; (try dsimp only at hSw); go_simp; try with_reducible rfl))
                      | (refine wpAnyH_take (i := 0) (v := undef) rfl (by kernel_rfl) (by kernel_rfl) (by kernel_rfl) (fun _ _ _ h => h) (Or.inr ⟨by rfl, rfl⟩) (by assumption) ?_)
                      | (refine wpAnyH_ready (rs := [0]) (by kernel_rfl) (by simp) ?_; refine AllReadyH.cons rfl (fun K hK => ?_) AllReadyH.nil; go_simp; refine hK.out _ _ hHeld (fun hHeld => ?_); clear hK K)
                    try simp only [List.getElem_toArray, List.getElem_cons_zero, List.getElem_cons_succ, Act.put, List.setIfInBounds_toArray, List.set_cons_zero, List.set_cons_succ]
                    first
                      | (refine wpAnyH_take (i := 1) (v := undef) rfl (by kernel_rfl) (by kernel_rfl) (by kernel_rfl) (fun _ _ _ h => h) (Or.inr ⟨by rfl, rfl⟩) (by assumption) ?_)
                      | (refine wpAnyH_ready (rs := [1]) (by kernel_rfl) (by simp) ?_; refine AllReadyH.cons rfl (fun K hK => ?_) AllReadyH.nil; go_simp; refine (HPA.out _ hHeld.1).mono ?_; rintro e1 w8 ⟨rfl, hR⟩; (try go_wp2_with fail); refine hK.out _ _ ⟨hR, (HC.out _ hR).2⟩ (fun hHeld => ?_); clear hK K)
                    try simp only [List.getElem_toArray, List.getElem_cons_zero, List.getElem_cons_succ, Act.put, List.setIfInBounds_toArray, List.set_cons_zero, List.set_cons_succ]
                    first
                      | (refine wpAnyH_take (i := 2) (v := ?vv2_1) rfl (by kernel_rfl) (by kernel_rfl) (by kernel_rfl) (fun _ _ _ h => h) (Or.inl ⟨by rfl, ?hy2_1⟩) (by assumption) ?rest2_1; case hy2_1 => (intro w' hSw; (try dsimp only at hSw); go_simp; try with_reducible rfl))
                      | (refine wpAnyH_take (i := 2) (v := undef) rfl (by kernel_rfl) (by kernel_rfl) (by kernel_rfl) (fun _ _ _ h => h) (Or.inr ⟨by rfl, rfl⟩) (by assumption) ?_)
                      | (refine wpAnyH_ready (rs := [2]) (by kernel_rfl) (by simp) ?_; refine AllReadyH.cons rfl (fun K hK => ?_) AllReadyH.nil; go_simp; refine hK.out _ _ hHeld (fun hHeld => ?_); clear hK K)
                    try simp only [List.getElem_toArray, List.getElem_cons_zero, List.getElem_cons_succ, Act.put, List.setIfInBounds_toArray, List.set_cons_zero, List.set_cons_succ]
                    first
                      | (refine wpAnyH_take (i := 3) (v := ?vv3_1) rfl (by kernel_rfl) (by kernel_rfl) (by kernel_rfl) (fun _ _ _ h => h) (Or.inl ⟨by rfl, ?hy3_1⟩) (by assumption) ?rest3_1; case hy3_1 => (intro w' hSw; (try dsimp only at hSw); go_simp; try with_reducible rfl))
                      | (refine wpAnyH_take (i := 3) (v := undef) rfl (by kernel_rfl) (by kernel_rfl) (by kernel_rfl) (fun _ _ _ h => h) (Or.inr ⟨by rfl, rfl⟩) (by assumption) ?_)
                      | (refine wpAnyH_ready (rs := [3]) (by kernel_rfl) (by simp) ?_; refine AllReadyH.cons rfl (fun K hK => ?_) AllReadyH.nil; go_simp; refine hK.out _ _ hHeld (fun hHeld => ?_); clear hK K)
                    try simp only [List.getElem_toArray, List.getElem_cons_zero, List.getElem_cons_succ, Act.put, List.setIfInBounds_toArray, List.set_cons_zero, List.set_cons_succ]
                    first
                      | (refine wpAnyH_take (i := 4) (v := ?vv4_1) rfl (by kernel_rfl) (by kernel_rfl) (by kernel_rfl) (fun _ _ _ h => h) (Or.inl ⟨by rfl, ?hy4_1⟩) (by assumption) ?rest4_1; case hy4_1 => (intro w' hSw; (try dsimp only at hSw); go_simp; try with_reducible rfl))
                      | (refine wpAnyH_take (i := 4) (v := undef) rfl (by kernel_rfl) (by kernel_rfl) (by kernel_rfl) (fun _ _ _ h => h) (Or.inr ⟨by rfl, rfl⟩) (by assumption) ?_)
                      | (refine wpAnyH_ready (rs := [4]) (by kernel_rfl) (by simp) ?_; refine AllReadyH.cons rfl (fun K hK => ?_) AllReadyH.nil; go_simp; refine hK.out _ _ hHeld (fun hHeld => ?_); clear hK K)
                    try simp only [List.getElem_toArray, List.getElem_cons_zero, List.getElem_cons_succ, Act.put, List.setIfInBounds_toArray, List.set_cons_zero, List.set_cons_succ]
                    first
                      | (refine wpAnyH_take (i := 5) (v := ?vv5_1) rfl (by kernel_rfl) (by kernel_rfl) (by kernel_rfl) (fun _ _ _ h => h) (Or.inl ⟨by rfl, ?hy5_1⟩) (by assumption) ?rest5_1; case hy5_1 => (intro w' hSw; (try dsimp only at hSw); go_simp; try with_reducible rfl))
                      | (refine wpAnyH_take (i := 5) (v := undef) rfl (by kernel_rfl) (by kernel_rfl) (by kernel_rfl) (fun _ _ _ h => h) (Or.inr ⟨by rfl, rfl⟩) (by assumption) ?_)
                      | (refine wpAnyH_ready (rs := [5]) (by kernel_rfl) (by simp) ?_; refine AllReadyH.cons rfl (fun K hK => ?_) AllReadyH.nil; go_simp; refine hK.out _ _ hHeld (fun hHeld => ?_); clear hK K)
                    try simp only [List.getElem_toArray, List.getElem_cons_zero, List.getElem_cons_succ, Act.put, List.setIfInBounds_toArray, List.set_cons_zero, List.set_cons_succ]
                    first
                      | (refine wpAnyH_take (i := 6) (v := ?vv6_1) rfl (by kernel_rfl) (by kernel_rfl) (by kernel_rfl) (fun _ _ _ h => h) (Or.inl ⟨by rfl, ?hy6_1⟩) (by assumption) ?rest6_1; case hy6_1 => (intro w' hSw; (try dsimp only at hSw); go_simp; try with_reducible rfl))
                      | (refine wpAnyH_take (i := 6) (v := undef) rfl (by kernel_rfl) (by kernel_rfl) (by kernel_rfl) (fun _ _ _ h => h) (Or.inr ⟨by rfl, rfl⟩) (by assumption) ?_)
                      | (refine wpAnyH_ready (rs := [6]) (by kernel_rfl) (by simp) ?_; refine AllReadyH.cons rfl (fun K hK => ?_) AllReadyH.nil; go_simp; refine hK.out _ _ hHeld (fun hHeld => ?_); clear hK K)
                    try simp only [List.getElem_toArray, List.getElem_cons_zero, List.getElem_cons_succ, Act.put, List.setIfInBounds_toArray, List.set_cons_zero, List.set_cons_succ]
                    first
                      | (refine wpAnyH_take (i := 7) (v := undef) rfl (by kernel_rfl) (by kernel_rfl) (by kernel_rfl) (fun _ _ _ h => h) (Or.inr ⟨by rfl, rfl⟩) (by assumption) ?_)
                      | (refine wpAnyH_ready (rs := [7]) (by kernel_rfl) (by simp) ?_; refine AllReadyH.cons rfl (fun K hK => ?_) AllReadyH.nil; go_simp; refine (HPT2.out _ hHeld.1).mono ?_; rintro e1 w8 ⟨rfl, hR⟩; (try go_wp2_with fail); refine hK.out _ _ ⟨hR, (HC.out _ hR).2⟩ (fun hHeld => ?_); clear hK K)
                    try simp only [List.getElem_toArray, List.getElem_cons_zero, List.getElem_cons_succ, Act.put, List.setIfInBounds_toArray, List.set_cons_zero, List.set_cons_succ]
                    first
                      | (refine wpAnyH_take (i := 8) (v := ?vv8_1) rfl (by kernel_rfl) (by kernel_rfl) (by kernel_rfl) (fun _ _ _ h => h) (Or.inl ⟨by rfl, ?hy8_1⟩) (by assumption) ?rest8_1; case hy8_1 => (intro w' hSw; (try dsimp only at hSw); go_simp; try with_reducible rfl))
                      | (refine wpAnyH_take (i := 8) (v := undef) rfl (by kernel_rfl) (by kernel_rfl) (by kernel_rfl) (fun _ _ _ h => h) (Or.inr ⟨by rfl, rfl⟩) (by assumption) ?_)
                      | (refine wpAnyH_ready (rs := [8]) (by kernel_rfl) (by simp) ?_; refine AllReadyH.cons rfl (fun K hK => ?_) AllReadyH.nil; go_simp; refine hK.out _ _ hHeld (fun hHeld => ?_); clear hK K)
                    try simp only [List.getElem_toArray, List.getElem_cons_zero, List.getElem_cons_succ, Act.put, List.setIfInBounds_toArray, List.set_cons_zero, List.set_cons_succ]
                    first
                      | (refine wpAnyH_take (i := 9) (v := ?vv9_1) rfl (by kernel_rfl) (by kernel_rfl) (by kernel_rfl) (fun _ _ _ h => h) (Or.inl ⟨by rfl, ?hy9_1⟩) (by assumption) ?rest9_1; case hy9_1 => (intro w' hSw; (try dsimp only at hSw); go_simp; try with_reducible rfl))
                      | (refine wpAnyH_take (i := 9) (v := undef) rfl (by kernel_rfl) (by kernel_rfl) (by kernel_rfl) (fun _ _ _ h => h) (Or.inr ⟨by rfl, rfl⟩) (by assumption) ?_)
                      | (refine wpAnyH_ready (rs := [9]) (by kernel_rfl) (by simp) ?_; refine AllReadyH.cons rfl (fun K hK => ?_) AllReadyH.nil; go_simp; refine hK.out _ _ hHeld (fun hHeld => ?_); clear hK K)
                    try simp only [List.getElem_toArray, List.getElem_cons_zero, List.getElem_cons_succ, Act.put, List.setIfInBounds_toArray, List.set_cons_zero, List.set_cons_succ]
                    first
                      | (refine wpAnyH_take (i := 10) (v := ?vv10_1) rfl (by kernel_rfl) (by kernel_rfl) (by kernel_rfl) (fun _ _ _ h => h) (Or.inl ⟨by rfl, ?hy10_1⟩) (by assumption) ?rest10_1; case hy10_1 => (intro w' hSw; (try dsimp only at hSw); go_simp; try with_reducible rfl))
                      | (refine wpAnyH_take (i := 10) (v := undef) rfl (by kernel_rfl) (by kernel_rfl) (by kernel_rfl) (fun _ _ _ h => h) (Or.inr ⟨by rfl, rfl⟩) (by assumption) ?_)
                      | (refine wpAnyH_ready (rs := [10]) (by kernel_rfl) (by simp) ?_; refine AllReadyH.cons rfl (fun K hK => ?_) AllReadyH.nil; go_simp; refine hK.out _ _ hHeld (fun hHeld => ?_); clear hK K)
                    try simp only [List.getElem_toArray, List.getElem_cons_zero, List.getElem_cons_succ, Act.put, List.setIfInBounds_toArray, List.set_cons_zero, List.set_cons_succ]
                    first
                      | (refine wpAnyH_take (i := 11) (v := ?vv11_1) rfl (by kernel_rfl) (by kernel_rfl) (by kernel_rfl) (fun _ _ _ h => h) (Or.inl ⟨by rfl, ?hy11_1⟩) (by assumption) ?rest11_1; case hy11_1 => (intro w' hSw; (try dsimp only at hSw); go_simp; try with_reducible rfl))
                      | (refine wpAnyH_take (i := 11) (v := undef) rfl (by kernel_rfl) (by kernel_rfl) (by kernel_rfl) (fun _ _ _ h => h) (Or.inr ⟨by rfl, rfl⟩) (by assumption) ?_)
                      | (refine wpAnyH_ready (rs := [11]) (by kernel_rfl) (by simp) ?_; refine AllReadyH.cons rfl (fun K hK => ?_) AllReadyH.nil; go_simp; refine hK.out _ _ hHeld (fun hHeld => ?_); clear hK K)
                    try simp only [List.getElem_toArray, List.getElem_cons_zero, List.getElem_cons_succ, Act.put, List.setIfInBounds_toArray, List.set_cons_zero, List.set_cons_succ]
                    first
                      | (refine wpAnyH_take (i := 12) (v := ?vv12_1) rfl (by kernel_rfl) (by kernel_rfl) (by kernel_rfl) (fun _ _ _ h => h) (Or.inl ⟨by rfl, ?hy12_1⟩) (by assumption) ?rest12_1; case hy12_1 => (intro w' hSw; (try dsimp only at hSw); go_simp; try with_reducible rfl))
                      | (refine wpAnyH_take (i := 12) (v := undef) rfl (by kernel_rfl) (by kernel_rfl) (by kernel_rfl) (fun _ _ _ h => h) (Or.inr ⟨by rfl, rfl⟩) (by assumption) ?_)
                      | (refine wpAnyH_ready (rs := [12]) (by kernel_rfl) (by simp) ?_; refine AllReadyH.cons rfl (fun K hK => ?_) AllReadyH.nil; go_simp; refine hK.out _ _ hHeld (fun hHeld => ?_); clear hK K)
                    try simp only [List.getElem_toArray, List.getElem_cons_zero, List.getElem_cons_succ, Act.put, List.setIfInBounds_toArray, List.set_cons_zero, List.set_cons_succ]
                    first
                      | (refine wpAnyH_take (i := 13) (v := ?vv13_1) rfl (by kernel_rfl) (by kernel_rfl) (by kernel_rfl) (fun _ _ _ h => h) (Or.inl ⟨by rfl, ?hy13_1⟩) (by assumption) ?rest13_1; case hy13_1 => (intro w' hSw; (try dsimp only at hSw); go_simp; try with_reducible rfl))
                      | (refine wpAnyH_take (i := 13) (v := undef) rfl (by kernel_rfl) (by kernel_rfl) (by kernel_rfl) (fun _ _ _ h => h) (Or.inr ⟨by rfl, rfl⟩) (by assumption) ?_)
                      | (refine wpAnyH_ready (rs := [13]) (by kernel_rfl) (by simp) ?_; refine AllReadyH.cons rfl (fun K hK => ?_) AllReadyH.nil; go_simp; refine hK.out _ _ hHeld (fun hHeld => ?_); clear hK K)
                    try simp only [List.getElem_toArray, List.getElem_cons_zero, List.getElem_cons_succ, Act.put, List.setIfInBounds_toArray, List.set_cons_zero, List.set_cons_succ]
                    first
                      | (refine wpAnyH_take (i := 14) (v := ?vv14_1) rfl (by kernel_rfl) (by kernel_rfl) (by kernel_rfl) (fun _ _ _ h => h) (Or.inl ⟨by rfl, ?hy14_1⟩) (by assumption) ?rest14_1; case hy14_1 => (intro w' hSw; (try dsimp only at hSw); go_simp; try with_reducible rfl))
                      | (refine wpAnyH_take (i := 14) (v := undef) rfl (by kernel_rfl) (by kernel_rfl) (by kernel_rfl) (fun _ _ _ h => h) (Or.inr ⟨by rfl, rfl⟩) (by assumption) ?_)
                      | (refine wpAnyH_ready (rs := [14]) (by kernel_rfl) (by simp) ?_; refine AllReadyH.cons rfl (fun K hK => ?_) AllReadyH.nil; go_simp; refine hK.out _ _ hHeld (fun hHeld => ?_); clear hK K)
                    try simp only [List.getElem_toArray, List.getElem_cons_zero, List.getElem_cons_succ, Act.put, List.setIfInBounds_toArray, List.set_cons_zero, List.set_cons_succ]
                    first
                      | (refine wpAnyH_take (i := 16) (v := ?vv16_1) rfl (by kernel_rfl) (by kernel_rfl) (by kernel_rfl) (fun _ _ _ h => h) (Or.inl ⟨by rfl, ?hy16_1⟩) (by assumption) ?rest16_1; case hy16_1 => (intro w' hSw; (try dsimp only at hSw); go_simp; try with_reducible rfl))
                      | (refine wpAnyH_take (i := 16) (v := undef) rfl (by kernel_rfl) (by kernel_rfl) (by kernel_rfl) (fun _ _ _ h => h) (Or.inr ⟨by rfl, rfl⟩) (by assumption) ?_)
                      | (refine wpAnyH_ready (rs := [16]) (by kernel_rfl) (by simp) ?_; refine AllReadyH.cons rfl (fun K hK => ?_) AllReadyH.nil; go_simp; refine hK.out _ _ hHeld (fun hHeld => ?_); clear hK K)
                    try simp only [List.getElem_toArray, List.getElem_cons_zero, List.getElem_cons_succ, Act.put, List.setIfInBounds_toArray, List.set_cons_zero, List.set_cons_succ]
                    first
                      | (refine wpAnyH_take (i := 15) (v := undef) rfl (by kernel_rfl) (by kernel_rfl) (by kernel_rfl) (fun _ _ _ h => h) (Or.inr ⟨by rfl, rfl⟩) (by assumption) ?_)
                      | (refine wpAnyH_ready (rs := [15]) (by kernel_rfl) (by simp) ?_; refine AllReadyH.cons rfl (fun K hK => ?_) AllReadyH.nil; go_simp; refine (HHT.out _ hHeld.1).mono ?_; rintro e1 w8 ⟨rfl, hR⟩; (try go_wp2_with fail); refine hK.out _ _ ⟨hR, (HC.out _ hR).2⟩ (fun hHeld => ?_); clear hK K)
                    try simp only [List.getElem_toArray, List.getElem_cons_zero, List.getElem_cons_succ, Act.put, List.setIfInBounds_toArray, List.set_cons_zero, List.set_cons_succ]
                    first
                      | (refine wpAnyH_take (i := 17) (v := undef) rfl (by kernel_rfl) (by kernel_rfl) (by kernel_rfl) (fun _ _ _ h => h) (Or.inr ⟨by rfl, rfl⟩) (by assumption) ?_)
                      | (refine wpAnyH_ready (rs := [17]) (by kernel_rfl) (by simp) ?_; refine AllReadyH.cons rfl (fun K hK => ?_) AllReadyH.nil; go_simp; refine (HHA.out _ hHeld.1).mono ?_; rintro e1 w8 ⟨rfl, hR⟩; (try go_wp2_with fail); refine hK.out _ _ ⟨hR, (HC.out _ hR).2⟩ (fun hHeld => ?_); clear hK K)
                    try simp only [List.getElem_toArray, List.getElem_cons_zero, List.getElem_cons_succ, Act.put, List.setIfInBounds_toArray, List.set_cons_zero, List.set_cons_succ]
                    first
                      | (refine wpAnyH_take (i := 18) (v := ?vv18_1) rfl (by kernel_rfl) (by kernel_rfl) (by kernel_rfl) (fun _ _ _ h => h) (Or.inl ⟨by rfl, ?hy18_1⟩) (by assumption) ?rest18_1; case hy18_1 => (intro w' hSw; (try dsimp only at hSw); go_simp; try with_reducible rfl))
                      | (refine wpAnyH_take (i := 18) (v := undef) rfl (by kernel_rfl) (by kernel_rfl) (by kernel_rfl) (fun _ _ _ h => h) (Or.inr ⟨by rfl, rfl⟩) (by assumption) ?_)
                      | (refine wpAnyH_ready (rs := [18]) (by kernel_rfl) (by simp) ?_; refine AllReadyH.cons rfl (fun K hK => ?_) AllReadyH.nil; go_simp; refine hK.out _ _ hHeld (fun hHeld => ?_); clear hK K)
                    try simp only [List.getElem_toArray, List.getElem_cons_zero, List.getElem_cons_succ, Act.put, List.setIfInBounds_toArray, List.set_cons_zero, List.set_cons_succ]
                    first
                      | (refine wpAnyH_take (i := 19) (v := ?vv19_1) rfl (by kernel_rfl) (by kernel_rfl) (by kernel_rfl) (fun _ _ _ h => h) (Or.inl ⟨by rfl, ?hy19_1⟩) (by assumption) ?rest19_1; case hy19_1 => (intro w' hSw; (try dsimp only at hSw); go_simp; try with_reducible rfl))
                      | (refine wpAnyH_take (i := 19) (v := undef) rfl (by kernel_rfl) (by kernel_rfl) (by kernel_rfl) (fun _ _ _ h => h) (Or.inr ⟨by rfl, rfl⟩) (by assumption) ?_)
                      | (refine wpAnyH_ready (rs := [19]) (by kernel_rfl) (by simp) ?_; refine AllReadyH.cons rfl (fun K hK => ?_) AllReadyH.nil; go_simp; refine hK.out _ _ hHeld (fun hHeld => ?_); clear hK K)
                    try simp only [List.getElem_toArray, List.getElem_cons_zero, List.getElem_cons_succ, Act.put, List.setIfInBounds_toArray, List.set_cons_zero, List.set_cons_succ]
                    first
                      | (refine wpAnyH_take (i := 20) (v := ?vv20_1) rfl (by kernel_rfl) (by kernel_rfl) (by kernel_rfl) (fun _ _ _ h => h) (Or.inl ⟨by rfl, ?hy20_1⟩) (by assumption) ?rest20_1; case hy20_1 => (intro w' hSw; (try dsimp only at hSw); go_simp; try with_reducible rfl))
                      | (refine wpAnyH_take (i := 20) (v := undef) rfl (by kernel_rfl) (by kernel_rfl) (by kernel_rfl) (fun _ _ _ h => h) (Or.inr ⟨by rfl, rfl⟩) (by assumption) ?_)
                      | (refine wpAnyH_ready (rs := [20]) (by kernel_rfl) (by simp) ?_; refine AllReadyH.cons rfl (fun K hK => ?_) AllReadyH.nil; go_simp; refine hK.out _ _ hHeld (fun hHeld => ?_); clear hK K)
                    try simp only [List.getElem_toArray, List.getElem_cons_zero, List.getElem_cons_succ, Act.put, List.setIfInBounds_toArray, List.set_cons_zero, List.set_cons_succ]
                    first
                      | (refine wpAnyH_take (i := 21) (v := ?vv21_1) rfl (by kernel_rfl) (by kernel_rfl) (by kernel_rfl) (fun _ _ _ h => h) (Or.inl ⟨by rfl, ?hy21_1⟩) (by assumption) ?rest21_1; case hy21_1 => (intro w' hSw; (try dsimp only at hSw); go_simp; try with_reducible rfl))
                      | (refine wpAnyH_take (i := 21) (v := undef) rfl (by kernel_rfl) (by kernel_rfl) (by kernel_rfl) (fun _ _ _ h => h) (Or.inr ⟨by rfl, rfl⟩) (by assumption) ?_)
                      | (refine wpAnyH_ready (rs := [21]) (by kernel_rfl) (by simp) ?_; refine AllReadyH.cons rfl (fun K hK => ?_) AllReadyH.nil; go_simp; refine hK.out _ _ hHeld (fun hHeld => ?_); clear hK K)
                    try simp only [List.getElem_toArray, List.getElem_cons_zero, List.getElem_cons_succ, Act.put, List.setIfInBounds_toArray, List.set_cons_zero, List.set_cons_succ]
                    first
                      | (refine wpAnyH_take (i := 22) (v := ?vv22_1) rfl (by kernel_rfl) (by kernel_rfl) (by kernel_rfl) (fun _ _ _ h => h) (Or.inl ⟨by rfl, ?hy22_1⟩) (by assumption) ?rest22_1; case hy22_1 => (intro w' hSw; (try dsimp only at hSw); go_simp; try with_reducible rfl))
                      | (refine wpAnyH_take (i := 22) (v := undef) rfl (by kernel_rfl) (by kernel_rfl) (by kernel_rfl) (fun _ _ _ h => h) (Or.inr ⟨by rfl, rfl⟩) (by assumption) ?_)
                      | (refine wpAnyH_ready (rs := [22]) (by kernel_rfl) (by simp) ?_; refine AllReadyH.cons rfl (fun K hK => ?_) AllReadyH.nil; go_simp; refine hK.out _ _ hHeld (fun hHeld => ?_); clear hK K)
                    try simp only [List.getElem_toArray, List.getElem_cons_zero, List.getElem_cons_succ, Act.put, List.setIfInBounds_toArray, List.set_cons_zero, List.set_cons_succ]
                    first
                      | (refine wpAnyH_take (i := 23) (v := ?vv23_1) rfl (by kernel_rfl) (by kernel_rfl) (by kernel_rfl) (fun _ _ _ h => h) (Or.inl ⟨by rfl, ?hy23_1⟩) (by assumption) ?rest23_1; case hy23_1 => (intro w' hSw; (try dsimp only at hSw); go_simp; try with_reducible rfl))
                      | (refine wpAnyH_take (i := 23) (v := undef) rfl (by kernel_rfl) (by kernel_rfl) (by kernel_rfl) (fun _ _ _ h => h) (Or.inr ⟨by rfl, rfl⟩) (by assumption) ?_)
                      | (refine wpAnyH_ready (rs := [23]) (by kernel_rfl) (by simp) ?_; refine AllReadyH.cons rfl (fun K hK => ?_) AllReadyH.nil; go_simp; refine hK.out _ _ hHeld (fun hHeld => ?_); clear hK K)
                    try simp only [List.getElem_toArray, List.getElem_cons_zero, List.getElem_cons_succ, Act.put, List.setIfInBounds_toArray, List.set_cons_zero, List.set_cons_succ]
                    first
                      | (refine wpAnyH_take (i := 24) (v := ?vv24_1) rfl (by kernel_rfl) (by kernel_rfl) (by kernel_rfl) (fun _ _ _ h => h) (Or.inl ⟨by rfl, ?hy24_1⟩) (by assumption) ?rest24_1; case hy24_1 => (intro w' hSw; (try dsimp only at hSw); go_simp; try with_reducible rfl))
                      | (refine wpAnyH_take (i := 24) (v := undef) rfl (by kernel_rfl) (by kernel_rfl) (by kernel_rfl) (fun _ _ _ h => h) (Or.inr ⟨by rfl, rfl⟩) (by assumption) ?_)
                      | (refine wpAnyH_ready (rs := [24]) (by kernel_rfl) (by simp) ?_; refine AllReadyH.cons rfl (fun K hK => ?_) AllReadyH.nil; go_simp; refine hK.out _ _ hHeld (fun hHeld => ?_); clear hK K)
                    try simp only [List.getElem_toArray, List.getElem_cons_zero, List.getElem_cons_succ, Act.put, List.setIfInBounds_toArray, List.set_cons_zero, List.set_cons_succ]
                    first
                      | (refine wpAnyH_take (i := 25) (v := ?vv25_1) rfl (by kernel_rfl) (by kernel_rfl) (by kernel_rfl) (fun _ _ _ h => h) (Or.inl ⟨by rfl, ?hy25_1⟩) (by assumption) ?rest25_1; case hy25_1 => (intro w' hSw; (try dsimp only at hSw); go_simp; try with_reducible rfl))
                      | (refine wpAnyH_take (i := 25) (v := undef) rfl (by kernel_rfl) (by kernel_rfl) (by kernel_rfl) (fun _ _ _ h => h) (Or.inr ⟨by rfl, rfl⟩) (by assumption) ?_)
                      | (refine wpAnyH_ready (rs := [25]) (by kernel_rfl) (by simp) ?_; refine AllReadyH.cons rfl (fun K hK => ?_) AllReadyH.nil; go_simp; refine hK.out _ _ hHeld (fun hHeld => ?_); clear hK K)
                    try simp only [List.getElem_toArray, List.getElem_cons_zero, List.getElem_cons_succ, Act.put, List.setIfInBounds_toArray, List.set_cons_zero, List.set_cons_succ]
                    first
                      | (refine wpAnyH_take (i := 26) (v := ?vv26_1) rfl (by kernel_rfl) (by kernel_rfl) (by kernel_rfl) (fun _ _ _ h => h) (Or.inl ⟨by rfl, ?hy26_1⟩) (by assumption) ?rest26_1; case hy26_1 => (intro w' hSw; (try dsimp only at hSw); go_simp; try with_reducible rfl))
                      | (refine wpAnyH_take (i := 26) (v := undef) rfl (by kernel_rfl) (by kernel_rfl) (by kernel_rfl) (fun _ _ _ h => h) (Or.inr ⟨by rfl, rfl⟩) (by assumption) ?_)
                      | (refine wpAnyH_ready (rs := [26]) (by kernel_rfl) (by simp) ?_; refine AllReadyH.cons rfl (fun K hK => ?_) AllReadyH.nil; go_simp; refine hK.out _ _ hHeld (fun hHeld => ?_); clear hK K)
                    try simp only [List.getElem_toArray, List.getElem_cons_zero, List.getElem_cons_succ, Act.put, List.setIfInBounds_toArray, List.set_cons_zero, List.set_cons_succ]
                    first
                      | (refine wpAnyH_take (i := 28) (v := ?vv28_1) rfl (by kernel_rfl) (by kernel_rfl) (by kernel_rfl) (fun _ _ _ h => h) (Or.inl ⟨by rfl, ?hy28_1⟩) (by assumption) ?rest28_1; case hy28_1 => (intro w' hSw; (try dsimp only at hSw); go_simp; try with_reducible rfl))
                      | (refine wpAnyH_take (i := 28) (v := undef) rfl (by kernel_rfl) (by kernel_rfl) (by kernel_rfl) (fun _ _ _ h => h) (Or.inr ⟨by rfl, rfl⟩) (by assumption) ?_)
                      | (refine wpAnyH_ready (rs := [28]) (by kernel_rfl) (by simp) ?_; refine AllReadyH.cons rfl (fun K hK => ?_) AllReadyH.nil; go_simp; refine hK.out _ _ hHeld (fun hHeld => ?_); clear hK K)
                    try simp only [List.getElem_toArray, List.getElem_cons_zero, List.getElem_cons_succ, Act.put, List.setIfInBounds_toArray, List.set_cons_zero, List.set_cons_succ]
                    first
                      | (refine wpAnyH_take (i := 29) (v := ?vv29_1) rfl (by kernel_rfl) (by kernel_rfl) (by kernel_rfl) (fun _ _ _ h => h) (Or.inl ⟨by rfl, ?hy29_1⟩) (by assumption) ?rest29_1; case hy29_1 => (intro w' hSw; (try dsimp only at hSw); go_simp; try with_reducible rfl))
                      | (refine wpAnyH_take (i := 29) (v := undef) rfl (by kernel_rfl) (by kernel_rfl) (by kernel_rfl) (fun _ _ _ h => h) (Or.inr ⟨by rfl, rfl⟩) (by assumption) ?_)
                      | (refine wpAnyH_ready (rs := [29]) (by kernel_rfl) (by simp) ?_; refine AllReadyH.cons rfl (fun K hK => ?_) AllReadyH.nil; go_simp; refine hK.out _ _ hHeld (fun hHeld => ?_); clear hK K)
                    try simp only [List.getElem_toArray, List.getElem_cons_zero, List.getElem_cons_succ, Act.put, List.setIfInBounds_toArray, List.set_cons_zero, List.set_cons_succ]
                    first
                      | (refine wpAnyH_take (i := 27) (v := undef) rfl (by kernel_rfl) (by kernel_rfl) (by kernel_rfl) (fun _ _ _ h => h) (Or.inr ⟨by rfl, rfl⟩) (by assumption) ?_)
                      | (refine wpAnyH_ready (rs := [27]) (by kernel_rfl) (by simp) ?_; refine AllReadyH.cons rfl (fun K hK => ?_) AllReadyH.nil; go_simp; refine (HPM.out _ hHeld.1).mono ?_; rintro e1 w8 ⟨rfl, hR⟩; (try go_wp2_with fail); refine hK.out _ _ ⟨hR, (HC.out _ hR).2⟩ (fun hHeld => ?_); clear hK K)
                    try simp only [List.getElem_toArray, List.getElem_cons_zero, List.getElem_cons_succ, Act.put, List.setIfInBounds_toArray, List.set_cons_zero, List.set_cons_succ]
                    first
                      | (refine wpAnyH_take (i := 30) (v := undef) rfl (by kernel_rfl) (by kernel_rfl) (by kernel_rfl) (fun _ _ _ h => h) (Or.inr ⟨by rfl, rfl⟩) (by assumption) ?_)
                      | (refine wpAnyH_ready (rs := [30]) (by kernel_rfl) (by simp) ?_; refine AllReadyH.cons rfl (fun K hK => ?_) AllReadyH.nil; go_simp; refine (HLV.out _ hHeld.1).mono ?_; rintro e1 w8 ⟨rfl, hR⟩; (try go_wp2_with fail); refine hK.out _ _ ⟨hR, (HC.out _ hR).2⟩ (fun hHeld => ?_); clear hK K)
                    try simp only [List.getElem_toArray, List.getElem_cons_zero, List.getElem_cons_succ, Act.put, List.setIfInBounds_toArray, List.set_cons_zero, List.set_cons_succ]
                    first
                      | (refine wpAnyH_take (i := 31) (v := ?vv31_1) rfl (by kernel_rfl) (by kernel_rfl) (by kernel_rfl) (fun _ _ _ h => h) (Or.inl ⟨by rfl, ?hy31_1⟩) (by assumption) ?rest31_1; case hy31_1 => (intro w' hSw; (try dsimp only at hSw); go_simp; try with_reducible rfl))
                      | (refine wpAnyH_take (i := 31) (v := undef) rfl (by kernel_rfl) (by kernel_rfl) (by kernel_rfl) (fun _ _ _ h => h) (Or.inr ⟨by rfl, rfl⟩) (by assumption) ?_)
                      | (refine wpAnyH_ready (rs := [31]) (by kernel_rfl) (by simp) ?_; refine AllReadyH.cons rfl (fun K hK => ?_) AllReadyH.nil; go_simp; refine hK.out _ _ hHeld (fun hHeld => ?_); clear hK K)
                    try simp only [List.getElem_toArray, List.getElem_cons_zero, List.getElem_cons_succ, Act.put, List.setIfInBounds_toArray, List.set_cons_zero, List.set_cons_succ]
                    first
                      | (refine wpAnyH_take (i := 32) (v := ?vv32_1) rfl (by kernel_rfl) (by kernel_rfl) (by kernel_rfl) (fun _ _ _ h => h) (Or.inl ⟨by rfl, ?hy32_1⟩) (by assumption) ?rest32_1; case hy32_1 => (intro w' hSw; (try dsimp only at hSw); go_simp; try with_reducible rfl))
                      | (refine wpAnyH_take (i := 32) (v := undef) rfl (by kernel_rfl) (by kernel_rfl) (by kernel_rfl) (fun _ _ _ h => h) (Or.inr ⟨by rfl, rfl⟩) (by assumption) ?_)
                      | (refine wpAnyH_ready (rs := [32]) (by kernel_rfl) (by simp) ?_; refine AllReadyH.cons rfl (fun K hK => ?_) AllReadyH.nil; go_simp; refine hK.out _ _ hHeld (fun hHeld => ?_); clear hK K)
                    try simp only [List.getElem_toArray, List.getElem_cons_zero, List.getElem_cons_succ, Act.put, List.setIfInBounds_toArray, List.set_cons_zero, List.set_cons_succ]
                    first
                      | (refine wpAnyH_take (i := 33) (v := ?vv33_1) rfl (by kernel_rfl) (by kernel_rfl) (by kernel_rfl) (fun _ _ _ h => h) (Or.inl ⟨by rfl, ?hy33_1⟩) (by assumption) ?rest33_1; case hy33_1 => (intro w' hSw; (try dsimp only at hSw); go_simp; try with_reducible rfl))
                      | (refine wpAnyH_take (i := 33) (v := undef) rfl (by kernel_rfl) (by kernel_rfl) (by kernel_rfl) (fun _ _ _ h => h) (Or.inr ⟨by rfl, rfl⟩) (by assumption) ?_)
                      | (refine wpAnyH_ready (rs := [33]) (by kernel_rfl) (by simp) ?_; refine AllReadyH.cons rfl (fun K hK => ?_) AllReadyH.nil; go_simp; refine hK.out _ _ hHeld (fun hHeld => ?_); clear hK K)
                    try simp only [List.getElem_toArray, List.getElem_cons_zero, List.getElem_cons_succ, Act.put, List.setIfInBounds_toArray, List.set_cons_zero, List.set_cons_succ]
                    first
                      | (refine wpAnyH_take (i := 34) (v := ?vv34_1) rfl (by kernel_rfl) (by kernel_rfl) (by kernel_rfl) (fun _ _ _ h => h) (Or.inl ⟨by rfl, ?hy34_1⟩) (by assumption) ?rest34_1; case hy34_1 => (intro w' hSw; (try dsimp only at hSw); go_simp; try with_reducible rfl))
                      | (refine wpAnyH_take (i := 34) (v := undef) rfl (by kernel_rfl) (by kernel_rfl) (by kernel_rfl) (fun _ _ _ h => h) (Or.inr ⟨by rfl, rfl⟩) (by assumption) ?_)
                      | (refine wpAnyH_ready (rs := [34]) (by kernel_rfl) (by simp) ?_; refine AllReadyH.cons rfl (fun K hK => ?_) AllReadyH.nil; go_simp; refine hK.out _ _ hHeld (fun hHeld => ?_); clear hK K)
                    try simp only [List.getElem_toArray, List.getElem_cons_zero, List.getElem_cons_succ, Act.put, List.setIfInBounds_toArray, List.set_cons_zero, List.set_cons_succ]
                    refine wpAnyH_done (by kernel_rfl) ?_ _
                    go_wp2_with fail
                    go_ret
                    exact ⟨rfl, HFIN.out _ hHeld.1⟩
                  | false =>
                    have HPT2 := Lib.hid True.intro
                    by_cases h0 : fs.length = 0
                    · have hp0 : decide ((fs.length : Int) > 0) = false := decide_eq_false (by omega)
                      have hp1 : decide ((0 : Int) < (fs.length : Int)) = false := decide_eq_false (by omega)
                      have hp2 : ¬ (0 : Int) < (fs.length : Int) := by omega
                      have hp3 : ¬ 0 < fs.length := by omega
                      clear hne h0
                      go_wp2_with fail
                      refine wp_region_held_drew (S := fun X => BL W X ∧ X.cell? ⟨kz, 1, none⟩ = some (sv fx)) (by kernel_rfl) ?_ (fun hHeld => ?_)
                      · exact ⟨BL.drew (by assumption), (HC.out _ (BL.drew (by assumption))).2⟩
                      first
                        | (refine wpAnyH_take (i := 0) (v := ?vv0_2) rfl (by kernel_rfl) (by kernel_rfl) (by kernel_rfl) (fun _ _ _ h => h) (Or.inl ⟨by rfl, ?hy0_2⟩) (by assumption) ?rest0_2; case hy0_2 => (intro w' hSw; (try dsimp only at hSw); go_simp; try with_reducible rfl))
                        | (refine wpAnyH_take (i := 0) (v := undef) rfl (by kernel_rfl) (by kernel_rfl) (by kernel_rfl) (fun _ _ _ h => h) (Or.inr ⟨by rfl, rfl⟩) (by assumption) ?_)
                        | (refine wpAnyH_ready (rs := [0]) (by kernel_rfl) (by simp) ?_; refine AllReadyH.cons rfl (fun K hK => ?_) AllReadyH.nil; go_simp; refine hK.out _ _ hHeld (fun hHeld => ?_); clear hK K)
                      try simp only [List.getElem_toArray, List.getElem_cons_zero, List.getElem_cons_succ, Act.put, List.setIfInBounds_toArray, List.set_cons_zero, List.set_cons_succ]
                      first
                        | (refine wpAnyH_take (i := 1) (v := undef) rfl (by kernel_rfl) (by kernel_rfl) (by kernel_rfl) (fun _ _ _ h => h) (Or.inr ⟨by rfl, rfl⟩) (by assumption) ?_)
                        | (refine wpAnyH_ready (rs := [1]) (by kernel_rfl) (by simp) ?_; refine AllReadyH.cons rfl (fun K hK => ?_) AllReadyH.nil; go_simp; refine (HPA.out _ hHeld.1).mono ?_; rintro e1 w8 ⟨rfl, hR⟩; (try go_wp2_with fail); refine hK.out _ _ ⟨hR, (HC.out _ hR).2⟩ (fun hHeld => ?_); clear hK K)
                      try simp only [List.getElem_toArray, List.getElem_cons_zero, List.getElem_cons_succ, Act.put, List.setIfInBounds_toArray, List.set_cons_zero, List.set_cons_succ]
                      first
                        | (refine wpAnyH_take (i := 2) (v := ?vv2_2) rfl (by kernel_rfl) (by kernel_rfl) (by kernel_rfl) (fun _ _ _ h => h) (Or.inl ⟨by rfl, ?hy2_2⟩) (by assumption) ?rest2_2; case hy2_2 => (intro w' hSw; (try dsimp only at hSw); go_simp; try with_reducible rfl))
                        | (refine wpAnyH_take (i := 2) (v := undef) rfl (by kernel_rfl) (by kernel_rfl) (by kernel_rfl) (fun _ _ _ h => h) (Or.inr ⟨by rfl, rfl⟩) (by assumption) ?_)
                        | (refine wpAnyH_ready (rs := [2]) (by kernel_rfl) (by simp) ?_; refine AllReadyH.cons rfl (fun K hK => ?_) AllReadyH.nil; go_simp; refine hK.out _ _ hHeld (fun hHeld => ?_); clear hK K)
                      try simp only [List.getElem_toArray, List.getElem_cons_zero, List.getElem_cons_succ, Act.put, List.setIfInBounds_toArray, List.set_cons_zero, List.set_cons_succ]
                      first
                        | (refine wpAnyH_take (i := 3) (v := ?vv3_2) rfl (by kernel_rfl) (by kernel_rfl) (by kernel_rfl) (fun _ _ _ h => h) (Or.inl ⟨by rfl, ?hy3_2⟩) (by assumption) ?rest3_2; case hy3_2 => (intro w' hSw; (try dsimp only at hSw); go_simp; try with_reducible rfl))
                        | (refine wpAnyH_take (i := 3) (v := undef) rfl (by kernel_rfl) (by kernel_rfl) (by kernel_rfl) (fun _ _ _ h => h) (Or.inr ⟨by rfl, rfl⟩) (by assumption) ?_)
                        | (refine wpAnyH_ready (rs := [3]) (by kernel_rfl) (by simp) ?_; refine AllReadyH.cons rfl (fun K hK => ?_) AllReadyH.nil; go_simp; refine hK.out _ _ hHeld (fun hHeld => ?_); clear hK K)
                      try simp only [List.getElem_toArray, List.getElem_cons_zero, List.getElem_cons_succ, Act.put, List.setIfInBounds_toArray, List.set_cons_zero, List.set_cons_succ]
                      first
                        | (refine wpAnyH_take (i := 4) (v := ?vv4_2) rfl (by kernel_rfl) (by kernel_rfl) (by kernel_rfl) (fun _ _ _ h => h) (Or.inl ⟨by rfl, ?hy4_2⟩) (by assumption) ?rest4_2; case hy4_2 => (intro w' hSw; (try dsimp only at hSw); go_simp; try with_reducible rfl))
                        | (refine wpAnyH_take (i := 4) (v := undef) rfl (by kernel_rfl) (by kernel_rfl) (by kernel_rfl) (fun _ _ _ h => h) (Or.inr ⟨by rfl, rfl⟩) (by assumption) ?_)
                        | (refine wpAnyH_ready (rs := [4]) (by kernel_rfl) (by simp) ?_; refine AllReadyH.cons rfl (fun K hK => ?_) AllReadyH.nil; go_simp; refine hK.out _ _ hHeld (fun hHeld => ?_); clear hK K)
                      try simp only [List.getElem_toArray, List.getElem_cons_zero, List.getElem_cons_succ, Act.put, List.setIfInBounds_toArray, List.set_cons_zero, List.set_cons_succ]
                      first
                        | (refine wpAnyH_take (i := 5) (v := ?vv5_2) rfl (by kernel_rfl) (by kernel_rfl) (by kernel_rfl) (fun _ _ _ h => h) (Or.inl ⟨by rfl, ?hy5_2⟩) (by assumption) ?rest5_2; case hy5_2 => (intro w' hSw; (try dsimp only at hSw); go_simp; try with_reducible rfl))
                        | (refine wpAnyH_take (i := 5) (v := undef) rfl (by kernel_rfl) (by kernel_rfl) (by kernel_rfl) (fun _ _ _ h => h) (Or.inr ⟨by rfl, rfl⟩) (by assumption) ?_)
                        | (refine wpAnyH_ready (rs := [5]) (by kernel_rfl) (by simp) ?_; refine AllReadyH.cons rfl (fun K hK => ?_) AllReadyH.nil; go_simp; refine hK.out _ _ hHeld (fun hHeld => ?_); clear hK K)
                      try simp only [List.getElem_toArray, List.getElem_cons_zero, List.getElem_cons_succ, Act.put, List.setIfInBounds_toArray, List.set_cons_zero, List.set_cons_succ]
                      first
                        | (refine wpAnyH_take (i := 6) (v := ?vv6_2) rfl (by kernel_rfl) (by kernel_rfl) (by kernel_rfl) (fun _ _ _ h => h) (Or.inl ⟨by rfl, ?hy6_2⟩) (by assumption) ?rest6_2; case hy6_2 => (intro w' hSw; (try dsimp only at hSw); go_simp; try with_reducible rfl))
                        | (refine wpAnyH_take (i := 6) (v := undef) rfl (by kernel_rfl) (by kernel_rfl) (by kernel_rfl) (fun _ _ _ h => h) (Or.inr ⟨by rfl, rfl⟩) (by assumption) ?_)
                        | (refine wpAnyH_ready (rs := [6]) (by kernel_rfl) (by simp) ?_; refine AllReadyH.cons rfl (fun K hK => ?_) AllReadyH.nil; go_simp; refine hK.out _ _ hHeld (fun hHeld => ?_); clear hK K)
                      try simp only [List.getElem_toArray, List.getElem_cons_zero, List.getElem_cons_succ, Act.put, List.setIfInBounds_toArray, List.set_cons_zero, List.set_cons_succ]
                      first
                        | (refine wpAnyH_take (i := 7) (v := undef) rfl (by kernel_rfl) (by kernel_rfl) (by kernel_rfl) (fun _ _ _ h => h) (Or.inr ⟨by rfl, rfl⟩) (by assumption) ?_)
                        | (refine wpAnyH_ready (rs := [7]) (by kernel_rfl) (by simp) ?_; refine AllReadyH.cons rfl (fun K hK => ?_) AllReadyH.nil; go_simp; refine (HPT2.out _ hHeld.1).mono ?_; rintro e1 w8 ⟨rfl, hR⟩; (try go_wp2_with fail); refine hK.out _ _ ⟨hR, (HC.out _ hR).2⟩ (fun hHeld => ?_); clear hK K)
                      try simp only [List.getElem_toArray, List.getElem_cons_zero, List.getElem_cons_succ, Act.put, List.setIfInBounds_toArray, List.set_cons_zero, List.set_cons_succ]
                      first
                        | (refine wpAnyH_take (i := 8) (v := ?vv8_2) rfl (by kernel_rfl) (by kernel_rfl) (by kernel_rfl) (fun _ _ _ h => h) (Or.inl ⟨by rfl, ?hy8_2⟩) (by assumption) ?rest8_2; case hy8_2 => (intro w' hSw; (try dsimp only at hSw); go_simp; try with_reducible rfl))
                        | (refine wpAnyH_take (i := 8) (v := undef) rfl (by kernel_rfl) (by kernel_rfl) (by kernel_rfl) (fun _ _ _ h => h) (Or.inr ⟨by rfl, rfl⟩) (by assumption) ?_)
                        | (refine wpAnyH_ready (rs := [8]) (by kernel_rfl) (by simp) ?_; refine AllReadyH.cons rfl (fun K hK => ?_) AllReadyH.nil; go_simp; refine hK.out _ _ hHeld (fun hHeld => ?_); clear hK K)
                      try simp only [List.getElem_toArray, List.getElem_cons_zero, List.getElem_cons_succ, Act.put, List.setIfInBounds_toArray, List.set_cons_zero, List.set_cons_succ]
                      first
                        | (refine wpAnyH_take (i := 9) (v := ?vv9_2) rfl (by kernel_rfl) (by kernel_rfl) (by kernel_rfl) (fun _ _ _ h => h) (Or.inl ⟨by rfl, ?hy9_2⟩) (by assumption) ?rest9_2; case hy9_2 => (intro w' hSw; (try dsimp only at hSw); go_simp; try with_reducible rfl))
                        | (refine wpAnyH_take (i := 9) (v := undef) rfl (by kernel_rfl) (by kernel_rfl) (by kernel_rfl) (fun _ _ _ h => h) (Or.inr ⟨by rfl, rfl⟩) (by assumption) ?_)
                        | (refine wpAnyH_ready (rs := [9]) (by kernel_rfl) (by simp) ?_; refine AllReadyH.cons rfl (fun K hK => ?_) AllReadyH.nil; go_simp; refine hK.out _ _ hHeld (fun hHeld => ?_); clear hK K)
                      try simp only [List.getElem_toArray, List.getElem_cons_zero, List.getElem_cons_succ, Act.put, List.setIfInBounds_toArray, List.set_cons_zero, List.set_cons_succ]
                      first
                        | (refine wpAnyH_take (i := 10) (v := ?vv10_2) rfl (by kernel_rfl) (by kernel_rfl) (by kernel_rfl) (fun _ _ _ h => h) (Or.inl ⟨by rfl, ?hy10_2⟩) (by assumption) ?rest10_2; case hy10_2 => (intro w' hSw; (try dsimp only at hSw); go_simp; try with_reducible rfl))
                        | (refine wpAnyH_take (i := 10) (v := undef) rfl (by kernel_rfl) (by kernel_rfl) (by kernel_rfl) (fun _ _ _ h => h) (Or.inr ⟨by rfl, rfl⟩) (by assumption) ?_)
                        | (refine wpAnyH_ready (rs := [10]) (by kernel_rfl) (by simp) ?_; refine AllReadyH.cons rfl (fun K hK => ?_) AllReadyH.nil; go_simp; refine hK.out _ _ hHeld (fun hHeld => ?_); clear hK K)
                      try simp only [List.getElem_toArray, List.getElem_cons_zero, List.getElem_cons_succ, Act.put, List.setIfInBounds_toArray, List.set_cons_zero, List.set_cons_succ]
                      first
                        | (refine wpAnyH_take (i := 11) (v := ?vv11_2) rfl (by kernel_rfl) (by kernel_rfl) (by kernel_rfl) (fun _ _ _ h => h) (Or.inl ⟨by rfl, ?hy11_2⟩) (by assumption) ?rest11_2; case hy11_2 => (intro w' hSw; (try dsimp only at hSw); go_simp; try with_reducible rfl))
                        | (refine wpAnyH_take (i := 11) (v := undef) rfl (by kernel_rfl) (by kernel_rfl) (by kernel_rfl) (fun _ _ _ h => h) (Or.inr ⟨by rfl, rfl⟩) (by assumption) ?_)
                        | (refine wpAnyH_ready (rs := [11]) (by kernel_rfl) (by simp) ?_; refine AllReadyH.cons rfl (fun K hK => ?_) AllReadyH.nil; go_simp; refine hK.out _ _ hHeld (fun hHeld => ?_); clear hK K)
                      try simp only [List.getElem_toArray, List.getElem_cons_zero, List.getElem_cons_succ, Act.put, List.setIfInBounds_toArray, List.set_cons_zero, List.set_cons_succ]
                      first
                        | (refine wpAnyH_take (i := 12) (v := ?vv12_2) rfl (by kernel_rfl) (by kernel_rfl) (by kernel_rfl) (fun _ _ _ h => h) (Or.inl ⟨by rfl, ?hy12_2⟩) (by assumption) ?rest12_2; case hy12_2 => (intro w' hSw; (try dsimp only at hSw); go_simp; try with_reducible rfl))
                        | (refine wpAnyH_take (i := 12) (v := undef) rfl (by kernel_rfl) (by kernel_rfl) (by kernel_rfl) (fun _ _ _ h => h) (Or.inr ⟨by rfl, rfl⟩) (by assumption) ?_)
                        | (refine wpAnyH_ready (rs := [12]) (by kernel_rfl) (by simp) ?_; refine AllReadyH.cons rfl (fun K hK => ?_) AllReadyH.nil; go_simp; refine hK.out _ _ hHeld (fun hHeld => ?_); clear hK K)
                      try simp only [List.getElem_toArray, List.getElem_cons_zero, List.getElem_cons_succ, Act.put, List.setIfInBounds_toArray, List.set_cons_zero, List.set_cons_succ]
                      first
                        | (refine wpAnyH_take (i := 13) (v := ?vv13_2) rfl (by kernel_rfl) (by kernel_rfl) (by kernel_rfl) (fun _ _ _ h => h) (Or.inl ⟨by rfl, ?hy13_2⟩) (by assumption) ?rest13_2; case hy13_2 => (intro w' hSw; (try dsimp only at hSw); go_simp; try with_reducible rfl))
                        | (refine wpAnyH_take (i := 13) (v := undef) rfl (by kernel_rfl) (by kernel_rfl) (by kernel_rfl) (fun _ _ _ h => h) (Or.inr ⟨by rfl, rfl⟩) (by assumption) ?_)
                        | (refine wpAnyH_ready (rs := [13]) (by kernel_rfl) (by simp) ?_; refine AllReadyH.cons rfl (fun K hK => ?_) AllReadyH.nil; go_simp; refine hK.out _ _ hHeld (fun hHeld => ?_); clear hK K)
                      try simp only [List.getElem_toArray, List.getElem_cons_zero, List.getElem_cons_succ, Act.put, List.setIfInBounds_toArray, List.set_cons_zero, List.set_cons_succ]
                      first
                        | (refine wpAnyH_take (i := 14) (v := ?vv14_2) rfl (by kernel_rfl) (by kernel_rfl) (by kernel_rfl) (fun _ _ _ h => h) (Or.inl ⟨by rfl, ?hy14_2⟩) (by assumption) ?rest14_2; case hy14_2 => (intro w' hSw; (try dsimp only at hSw); go_simp; try with_reducible rfl))
                        | (refine wpAnyH_take (i := 14) (v := undef) rfl (by kernel_rfl) (by kernel_rfl) (by kernel_rfl) (fun _ _ _ h => h) (Or.inr ⟨by rfl, rfl⟩) (by assumption) ?_)
                        | (refine wpAnyH_ready (rs := [14]) (by kernel_rfl) (by simp) ?_; refine AllReadyH.cons rfl (fun K hK => ?_) AllReadyH.nil; go_simp; refine hK.out _ _ hHeld (fun hHeld => ?_); clear hK K)
                      try simp only [List.getElem_toArray, List.getElem_cons_zero, List.getElem_cons_succ, Act.put, List.setIfInBounds_toArray, List.set_cons_zero, List.set_cons_succ]
                      first
                        | (refine wpAnyH_take (i := 16) (v := ?vv16_2) rfl (by kernel_rfl) (by kernel_rfl) (by kernel_rfl) (fun _ _ _ h => h) (Or.inl ⟨by rfl, ?hy16_2⟩) (by assumption) ?rest16_2; case hy16_2 => (intro w' hSw; (try dsimp only at hSw); go_simp; try with_reducible rfl))
                        | (refine wpAnyH_take (i := 16) (v := undef) rfl (by kernel_rfl) (by kernel_rfl) (by kernel_rfl) (fun _ _ _ h => h) (Or.inr ⟨by rfl, rfl⟩) (by assumption) ?_)
                        | (refine wpAnyH_ready (rs := [16]) (by kernel_rfl) (by simp) ?_; refine AllReadyH.cons rfl (fun K hK => ?_) AllReadyH.nil; go_simp; refine hK.out _ _ hHeld (fun hHeld => ?_); clear hK K)
                      try simp only [List.getElem_toArray, List.getElem_cons_zero, List.getElem_cons_succ, Act.put, List.setIfInBounds_toArray, List.set_cons_zero, List.set_cons_succ]
                      first
                        | (refine wpAnyH_take (i := 15) (v := undef) rfl (by kernel_rfl) (by kernel_rfl) (by kernel_rfl) (fun _ _ _ h => h) (Or.inr ⟨by rfl, rfl⟩) (by assumption) ?_)
                        | (refine wpAnyH_ready (rs := [15]) (by kernel_rfl) (by simp) ?_; refine AllReadyH.cons rfl (fun K hK => ?_) AllReadyH.nil; go_simp; refine (HHT.out _ hHeld.1).mono ?_; rintro e1 w8 ⟨rfl, hR⟩; (try go_wp2_with fail); refine hK.out _ _ ⟨hR, (HC.out _ hR).2⟩ (fun hHeld => ?_); clear hK K)
                      try simp only [List.getElem_toArray, List.getElem_cons_zero, List.getElem_cons_succ, Act.put, List.setIfInBounds_toArray, List.set_cons_zero, List.set_cons_succ]
                      first
                        | (refine wpAnyH_take (i := 17) (v := undef) rfl (by kernel_rfl) (by kernel_rfl) (by kernel_rfl) (fun _ _ _ h => h) (Or.inr ⟨by rfl, rfl⟩) (by assumption) ?_)
                        | (refine wpAnyH_ready (rs := [17]) (by kernel_rfl) (by simp) ?_; refine AllReadyH.cons rfl (fun K hK => ?_) AllReadyH.nil; go_simp; refine (HHA.out _ hHeld.1).mono ?_; rintro e1 w8 ⟨rfl, hR⟩; (try go_wp2_with fail); refine hK.out _ _ ⟨hR, (HC.out _ hR).2⟩ (fun hHeld => ?_); clear hK K)
                      try simp only [List.getElem_toArray, List.getElem_cons_zero, List.getElem_cons_succ, Act.put, List.setIfInBounds_toArray, List.set_cons_zero, List.set_cons_succ]
                      first
                        | (refine wpAnyH_take (i := 18) (v := ?vv18_2) rfl (by kernel_rfl) (by kernel_rfl) (by kernel_rfl) (fun _ _ _ h => h) (Or.inl ⟨by rfl, ?hy18_2⟩) (by assumption) ?rest18_2; case hy18_2 => (intro w' hSw; (try dsimp only at hSw); go_simp; try with_reducible rfl))
                        | (refine wpAnyH_take (i := 18) (v := undef) rfl (by kernel_rfl) (by kernel_rfl) (by kernel_rfl) (fun _ _ _ h => h) (Or.inr ⟨by rfl, rfl⟩) (by assumption) ?_)
                        | (refine wpAnyH_ready (rs := [18]) (by kernel_rfl) (by simp) ?_; refine AllReadyH.cons rfl (fun K hK => ?_) AllReadyH.nil; go_simp; refine hK.out _ _ hHeld (fun hHeld => ?_); clear hK K)
                      try simp only [List.getElem_toArray, List.getElem_cons_zero, List.getElem_cons_succ, Act.put, List.setIfInBounds_toArray, List.set_cons_zero, List.set_cons_succ]
                      first
                        | (refine wpAnyH_take (i := 19) (v := ?vv19_2) rfl (by kernel_rfl) (by kernel_rfl) (by kernel_rfl) (fun _ _ _ h => h) (Or.inl ⟨by rfl, ?hy19_2⟩) (by assumption) ?rest19_2; case hy19_2 => (intro w' hSw; (try dsimp only at hSw); go_simp; try with_reducible rfl))
                        | (refine wpAnyH_take (i := 19) (v := undef) rfl (by kernel_rfl) (by kernel_rfl) (by kernel_rfl) (fun _ _ _ h => h) (Or.inr ⟨by rfl, rfl⟩) (by assumption) ?_)
                        | (refine wpAnyH_ready (rs := [19]) (by kernel_rfl) (by simp) ?_; refine AllReadyH.cons rfl (fun K hK => ?_) AllReadyH.nil; go_simp; refine hK.out _ _ hHeld (fun hHeld => ?_); clear hK K)
                      try simp only [List.getElem_toArray, List.getElem_cons_zero, List.getElem_cons_succ, Act.put, List.setIfInBounds_toArray, List.set_cons_zero, List.set_cons_succ]
                      first
                        | (refine wpAnyH_take (i := 20) (v := ?vv20_2) rfl (by kernel_rfl) (by kernel_rfl) (by kernel_rfl) (fun _ _ _ h => h) (Or.inl ⟨by rfl, ?hy20_2⟩) (by assumption) ?rest20_2; case hy20_2 => (intro w' hSw; (try dsimp only at hSw); go_simp; try with_reducible rfl))
                        | (refine wpAnyH_take (i := 20) (v := undef) rfl (by kernel_rfl) (by kernel_rfl) (by kernel_rfl) (fun _ _ _ h => h) (Or.inr ⟨by rfl, rfl⟩) (by assumption) ?_)
                        | (refine wpAnyH_ready (rs := [20]) (by kernel_rfl) (by simp) ?_; refine AllReadyH.cons rfl (fun K hK => ?_) AllReadyH.nil; go_simp; refine hK.out _ _ hHeld (fun hHeld => ?_); clear hK K)
                      try simp only [List.getElem_toArray, List.getElem_cons_zero, List.getElem_cons_succ, Act.put, List.setIfInBounds_toArray, List.set_cons_zero, List.set_cons_succ]
                      first
                        | (refine wpAnyH_take (i := 21) (v := ?vv21_2) rfl (by kernel_rfl) (by kernel_rfl) (by kernel_rfl) (fun _ _ _ h => h) (Or.inl ⟨by rfl, ?hy21_2⟩) (by assumption) ?rest21_2; case hy21_2 => (intro w' hSw; (try dsimp only at hSw); go_simp; try with_reducible rfl))
                        | (refine wpAnyH_take (i := 21) (v := undef) rfl (by kernel_rfl) (by kernel_rfl) (by kernel_rfl) (fun _ _ _ h => h) (Or.inr ⟨by rfl, rfl⟩) (by assumption) ?_)
                        | (refine wpAnyH_ready (rs := [21]) (by kernel_rfl) (by simp) ?_; refine AllReadyH.cons rfl (fun K hK => ?_) AllReadyH.nil; go_simp; refine hK.out _ _ hHeld (fun hHeld => ?_); clear hK K)
                      try simp only [List.getElem_toArray, List.getElem_cons_zero, List.getElem_cons_succ, Act.put, List.setIfInBounds_toArray, List.set_cons_zero, List.set_cons_succ]
                      first
                        | (refine wpAnyH_take (i := 22) (v := ?vv22_2) rfl (by kernel_rfl) (by kernel_rfl) (by kernel_rfl) (fun _ _ _ h => h) (Or.inl ⟨by rfl, ?hy22_2⟩) (by assumption) ?rest22_2; case hy22_2 => (intro w' hSw; (try dsimp only at hSw); go_simp; try with_reducible rfl))
                        | (refine wpAnyH_take (i := 22) (v := undef) rfl (by kernel_rfl) (by kernel_rfl) (by kernel_rfl) (fun _ _ _ h => h) (Or.inr ⟨by rfl, rfl⟩) (by assumption) ?_)
                        | (refine wpAnyH_ready (rs := [22]) (by kernel_rfl) (by simp) ?_; refine AllReadyH.cons rfl (fun K hK => ?_) AllReadyH.nil; go_simp; refine hK.out _ _ hHeld (fun hHeld => ?_); clear hK K)
                      try simp only [List.getElem_toArray, List.getElem_cons_zero, List.getElem_cons_succ, Act.put, List.setIfInBounds_toArray, List.set_cons_zero, List.set_cons_succ]
                      first
                        | (refine wpAnyH_take (i := 23) (v := ?vv23_2) rfl (by kernel_rfl) (by kernel_rfl) (by kernel_rfl) (fun _ _ _ h => h) (Or.inl ⟨by rfl, ?hy23_2⟩) (by assumption) ?rest23_2; case hy23_2 => (intro w' hSw; (try dsimp only at hSw); go_simp; try with_reducible rfl))
                        | (refine wpAnyH_take (i := 23) (v := undef) rfl (by kernel_rfl) (by kernel_rfl) (by kernel_rfl) (fun _ _ _ h => h) (Or.inr ⟨by rfl, rfl⟩) (by assumption) ?_)
                        | (refine wpAnyH_ready (rs := [23]) (by kernel_rfl) (by simp) ?_; refine AllReadyH.cons rfl (fun K hK => ?_) AllReadyH.nil; go_simp; refine hK.out _ _ hHeld (fun hHeld => ?_); clear hK K)
                      try simp only [List.getElem_toArray, List.getElem_cons_zero, List.getElem_cons_succ, Act.put, List.setIfInBounds_toArray, List.set_cons_zero, List.set_cons_succ]
                      first
                        | (refine wpAnyH_take (i := 24) (v := ?vv24_2) rfl (by kernel_rfl) (by kernel_rfl) (by kernel_rfl) (fun _ _ _ h => h) (Or.inl ⟨by rfl, ?hy24_2⟩) (by assumption) ?rest24_2; case hy24_2 => (intro w' hSw; (try dsimp only at hSw); go_simp; try with_reducible rfl))
                        | (refine wpAnyH_take (i := 24) (v := undef) rfl (by kernel_rfl) (by kernel_rfl) (by kernel_rfl) (fun _ _ _ h => h) (Or.inr ⟨by rfl, rfl⟩) (by assumption) ?_)
                        | (refine wpAnyH_ready (rs := [24]) (by kernel_rfl) (by simp) ?_; refine AllReadyH.cons rfl (fun K hK => ?_) AllReadyH.nil; go_simp; refine hK.out _ _ hHeld (fun hHeld => ?_); clear hK K)
                      try simp only [List.getElem_toArray, List.getElem_cons_zero, List.getElem_cons_succ, Act.put, List.setIfInBounds_toArray, List.set_cons_zero, List.set_cons_succ]
                      first
                        | (refine wpAnyH_take (i := 25) (v := ?vv25_2) rfl (by kernel_rfl) (by kernel_rfl) (by kernel_rfl) (fun _ _ _ h => h) (Or.inl ⟨by rfl, ?hy25_2⟩) (by assumption) ?rest25_2; case hy25_2 => (intro w' hSw; (try dsimp only at hSw); go_simp; try with_reducible rfl))
                        | (refine wpAnyH_take (i := 25) (v := undef) rfl (by kernel_rfl) (by kernel_rfl) (by kernel_rfl) (fun _ _ _ h => h) (Or.inr ⟨by rfl, rfl⟩) (by assumption) ?_)
                        | (refine wpAnyH_ready (rs := [25]) (by kernel_rfl) (by simp) ?_; refine AllReadyH.cons rfl (fun K hK => ?_) AllReadyH.nil; go_simp; refine hK.out _ _ hHeld (fun hHeld => ?_); clear hK K)
                      try simp only [List.getElem_toArray, List.getElem_cons_zero, List.getElem_cons_succ, Act.put, List.setIfInBounds_toArray, List.set_cons_zero, List.set_cons_succ]
                      first
                        | (refine wpAnyH_take (i := 26) (v := ?vv26_2) rfl (by kernel_rfl) (by kernel_rfl) (by kernel_rfl) (fun _ _ _ h => h) (Or.inl ⟨by rfl, ?hy26_2⟩) (by assumption) ?rest26_2; case hy26_2 => (intro w' hSw; (try dsimp only at hSw); go_simp; try with_reducible rfl))
                        | (refine wpAnyH_take (i := 26) (v := undef) rfl (by kernel_rfl) (by kernel_rfl) (by kernel_rfl) (fun _ _ _ h => h) (Or.inr ⟨by rfl, rfl⟩) (by assumption) ?_)
                        | (refine wpAnyH_ready (rs := [26]) (by kernel_rfl) (by simp) ?_; refine AllReadyH.cons rfl (fun K hK => ?_) AllReadyH.nil; go_simp; refine hK.out _ _ hHeld (fun hHeld => ?_); clear hK K)
                      try simp only [List.getElem_toArray, List.getElem_cons_zero, List.getElem_cons_succ, Act.put, List.setIfInBounds_toArray, List.set_cons_zero, List.set_cons_succ]
                      first
                        | (refine wpAnyH_take (i := 28) (v := ?vv28_2) rfl (by kernel_rfl) (by kernel_rfl) (by kernel_rfl) (fun _ _ _ h => h) (Or.inl ⟨by rfl, ?hy28_2⟩) (by assumption) ?rest28_2; case hy28_2 => (intro w' hSw; (try dsimp only at hSw); go_simp; try with_reducible rfl))
                        | (refine wpAnyH_take (i := 28) (v := undef) rfl (by kernel_rfl) (by kernel_rfl) (by kernel_rfl) (fun _ _ _ h => h) (Or.inr ⟨by rfl, rfl⟩) (by assumption) ?_)
                        | (refine wpAnyH_ready (rs := [28]) (by kernel_rfl) (by simp) ?_; refine AllReadyH.cons rfl (fun K hK => ?_) AllReadyH.nil; go_simp; refine hK.out _ _ hHeld (fun hHeld => ?_); clear hK K)
                      try simp only [List.getElem_toArray, List.getElem_cons_zero, List.getElem_cons_succ, Act.put, List.setIfInBounds_toArray, List.set_cons_zero, List.set_cons_succ]
                      first
                        | (refine wpAnyH_take (i := 29) (v := ?vv29_2) rfl (by kernel_rfl) (by kernel_rfl) (by kernel_rfl) (fun _ _ _ h => h) (Or.inl ⟨by rfl, ?hy29_2⟩) (by assumption) ?rest29_2; case hy29_2 => (intro w' hSw; (try dsimp only at hSw); go_simp; try with_reducible rfl))
                        | (refine wpAnyH_take (i := 29) (v := undef) rfl (by kernel_rfl) (by kernel_rfl) (by kernel_rfl) (fun _ _ _ h => h) (Or.inr ⟨by rfl, rfl⟩) (by assumption) ?_)
                        | (refine wpAnyH_ready (rs := [29]) (by kernel_rfl) (by simp) ?_; refine AllReadyH.cons rfl (fun K hK => ?_) AllReadyH.nil; go_simp; refine hK.out _ _ hHeld (fun hHeld => ?_); clear hK K)
                      try simp only [List.getElem_toArray, List.getElem_cons_zero, List.getElem_cons_succ, Act.put, List.setIfInBounds_toArray, List.set_cons_zero, List.set_cons_succ]
                      first
                        | (refine wpAnyH_take (i := 27) (v := undef) rfl (by kernel_rfl) (by kernel_rfl) (by kernel_rfl) (fun _ _ _ h => h) (Or.inr ⟨by rfl, rfl⟩) (by assumption) ?_)
                        | (refine wpAnyH_ready (rs := [27]) (by kernel_rfl) (by simp) ?_; refine AllReadyH.cons rfl (fun K hK => ?_) AllReadyH.nil; go_simp; refine (HPM.out _ hHeld.1).mono ?_; rintro e1 w8 ⟨rfl, hR⟩; (try go_wp2_with fail); refine hK.out _ _ ⟨hR, (HC.out _ hR).2⟩ (fun hHeld => ?_); clear hK K)
                      try simp only [List.getElem_toArray, List.getElem_cons_zero, List.getElem_cons_succ, Act.put, List.setIfInBounds_toArray, List.set_cons_zero, List.set_cons_succ]
                      first
                        | (refine wpAnyH_take (i := 30) (v := undef) rfl (by kernel_rfl) (by kernel_rfl) (by kernel_rfl) (fun _ _ _ h => h) (Or.inr ⟨by rfl, rfl⟩) (by assumption) ?_)
                        | (refine wpAnyH_ready (rs := [30]) (by kernel_rfl) (by simp) ?_; refine AllReadyH.cons rfl (fun K hK => ?_) AllReadyH.nil; go_simp; refine (HLV.out _ hHeld.1).mono ?_; rintro e1 w8 ⟨rfl, hR⟩; (try go_wp2_with fail); refine hK.out _ _ ⟨hR, (HC.out _ hR).2⟩ (fun hHeld => ?_); clear hK K)
                      try simp only [List.getElem_toArray, List.getElem_cons_zero, List.getElem_cons_succ, Act.put, List.setIfInBounds_toArray, List.set_cons_zero, List.set_cons_succ]
                      first
                        | (refine wpAnyH_take (i := 31) (v := ?vv31_2) rfl (by kernel_rfl) (by kernel_rfl) (by kernel_rfl) (fun _ _ _ h => h) (Or.inl ⟨by rfl, ?hy31_2⟩) (by assumption) ?rest31_2; case hy31_2 => (intro w' hSw; (try dsimp only at hSw); go_simp; try with_reducible rfl))
                        | (refine wpAnyH_take (i := 31) (v := undef) rfl (by kernel_rfl) (by kernel_rfl) (by kernel_rfl) (fun _ _ _ h => h) (Or.inr ⟨by rfl, rfl⟩) (by assumption) ?_)
                        | (refine wpAnyH_ready (rs := [31]) (by kernel_rfl) (by simp) ?_; refine AllReadyH.cons rfl (fun K hK => ?_) AllReadyH.nil; go_simp; refine hK.out _ _ hHeld (fun hHeld => ?_); clear hK K)
                      try simp only [List.getElem_toArray, List.getElem_cons_zero, List.getElem_cons_succ, Act.put, List.setIfInBounds_toArray, List.set_cons_zero, List.set_cons_succ]
                      first
                        | (refine wpAnyH_take (i := 32) (v := ?vv32_2) rfl (by kernel_rfl) (by kernel_rfl) (by kernel_rfl) (fun _ _ _ h => h) (Or.inl ⟨by rfl, ?hy32_2⟩) (by assumption) ?rest32_2; case hy32_2 => (intro w' hSw; (try dsimp only at hSw); go_simp; try with_reducible rfl))
                        | (refine wpAnyH_take (i := 32) (v := undef) rfl (by kernel_rfl) (by kernel_rfl) (by kernel_rfl) (fun _ _ _ h => h) (Or.inr ⟨by rfl, rfl⟩) (by assumption) ?_)
                        | (refine wpAnyH_ready (rs := [32]) (by kernel_rfl) (by simp) ?_; refine AllReadyH.cons rfl (fun K hK => ?_) AllReadyH.nil; go_simp; refine hK.out _ _ hHeld (fun hHeld => ?_); clear hK K)
                      try simp only [List.getElem_toArray, List.getElem_cons_zero, List.getElem_cons_succ, Act.put, List.setIfInBounds_toArray, List.set_cons_zero, List.set_cons_succ]
                      first
                        | (refine wpAnyH_take (i := 33) (v := ?vv33_2) rfl (by kernel_rfl) (by kernel_rfl) (by kernel_rfl) (fun _ _ _ h => h) (Or.inl ⟨by rfl, ?hy33_2⟩) (by assumption) ?rest33_2; case hy33_2 => (intro w' hSw; (try dsimp only at hSw); go_simp; try with_reducible rfl))
                        | (refine wpAnyH_take (i := 33) (v := undef) rfl (by kernel_rfl) (by kernel_rfl) (by kernel_rfl) (fun _ _ _ h => h) (Or.inr ⟨by rfl, rfl⟩) (by assumption) ?_)
                        | (refine wpAnyH_ready (rs := [33]) (by kernel_rfl) (by simp) ?_; refine AllReadyH.cons rfl (fun K hK => ?_) AllReadyH.nil; go_simp; refine hK.out _ _ hHeld (fun hHeld => ?_); clear hK K)
                      try simp only [List.getElem_toArray, List.getElem_cons_zero, List.getElem_cons_succ, Act.put, List.setIfInBounds_toArray, List.set_cons_zero, List.set_cons_succ]
                      first
                        | (refine wpAnyH_take (i := 34) (v := ?vv34_2) rfl (by kernel_rfl) (by kernel_rfl) (by kernel_rfl) (fun _ _ _ h => h) (Or.inl ⟨by rfl, ?hy34_2⟩) (by assumption) ?rest34_2; case hy34_2 => (intro w' hSw; (try dsimp only at hSw); go_simp; try with_reducible rfl))
                        | (refine wpAnyH_take (i := 34) (v := undef) rfl (by kernel_rfl) (by kernel_rfl) (by kernel_rfl) (fun _ _ _ h => h) (Or.inr ⟨by rfl, rfl⟩) (by assumption) ?_)
                        | (refine wpAnyH_ready (rs := [34]) (by kernel_rfl) (by simp) ?_; refine AllReadyH.cons rfl (fun K hK => ?_) AllReadyH.nil; go_simp; refine hK.out _ _ hHeld (fun hHeld => ?_); clear hK K)
                      try simp only [List.getElem_toArray, List.getElem_cons_zero, List.getElem_cons_succ, Act.put, List.setIfInBounds_toArray, List.set_cons_zero, List.set_cons_succ]
                      refine wpAnyH_done (by kernel_rfl) ?_ _
                      go_wp2_with fail
                      go_ret
                      exact ⟨rfl, HFIN.out _ hHeld.1⟩
                    · have hp0 : decide ((fs.length : Int) > 0) = true := decide_eq_true (by omega)
                      have hp1 : decide ((0 : Int) < (fs.length : Int)) = true := decide_eq_true (by omega)
                      have hp2 : (0 : Int) < (fs.length : Int) := by omega
                      have hp3 : 0 < fs.length := by omega
                      clear hne h0
                      go_wp2_with fail
                      refine wp_region_held_drew (S := fun X => BL W X ∧ X.cell? ⟨kz, 1, none⟩ = some (sv fx)) (by kernel_rfl) ?_ (fun hHeld => ?_)
                      · exact ⟨BL.drew (by assumption), (HC.out _ (BL.drew (by assumption))).2⟩
                      first
                        | (refine wpAnyH_take (i := 0) (v := ?vv0_3) rfl (by kernel_rfl) (by kernel_rfl) (by kernel_rfl) (fun _ _ _ h => h) (Or.inl ⟨by rfl, ?hy0_3⟩) (by assumption) ?rest0_3; case hy0_3 => (intro w' hSw; (try dsimp only at hSw); go_simp; try with_reducible rfl))
                        | (refine wpAnyH_take (i := 0) (v := undef) rfl (by kernel_rfl) (by kernel_rfl) (by kernel_rfl) (fun _ _ _ h => h) (Or.inr ⟨by rfl, rfl⟩) (by assumption) ?_)
                        | (refine wpAnyH_ready (rs := [0]) (by kernel_rfl) (by simp) ?_; refine AllReadyH.cons rfl (fun K hK => ?_) AllReadyH.nil; go_simp; refine hK.out _ _ hHeld (fun hHeld => ?_); clear hK K)
                      try simp only [List.getElem_toArray, List.getElem_cons_zero, List.getElem_cons_succ, Act.put, List.setIfInBounds_toArray, List.set_cons_zero, List.set_cons_succ]
                      first
                        | (refine wpAnyH_take (i := 1) (v := undef) rfl (by kernel_rfl) (by kernel_rfl) (by kernel_rfl) (fun _ _ _ h => h) (Or.inr ⟨by rfl, rfl⟩) (by assumption) ?_)
                        | (refine wpAnyH_ready (rs := [1]) (by kernel_rfl) (by simp) ?_; refine AllReadyH.cons rfl (fun K hK => ?_) AllReadyH.nil; go_simp; refine (HPA.out _ hHeld.1).mono ?_; rintro e1 w8 ⟨rfl, hR⟩; (try go_wp2_with fail); refine hK.out _ _ ⟨hR, (HC.out _ hR).2⟩ (fun hHeld => ?_); clear hK K)
                      try simp only [List.getElem_toArray, List.getElem_cons_zero, List.getElem_cons_succ, Act.put, List.setIfInBounds_toArray, List.set_cons_zero, List.set_cons_succ]
                      first
                        | (refine wpAnyH_take (i := 2) (v := ?vv2_3) rfl (by kernel_rfl) (by kernel_rfl) (by kernel_rfl) (fun _ _ _ h => h) (Or.inl ⟨by rfl, ?hy2_3⟩) (by assumption) ?rest2_3; case hy2_3 => (intro w' hSw; (try dsimp only at hSw); go_simp; try with_reducible rfl))
                        | (refine wpAnyH_take (i := 2) (v := undef) rfl (by kernel_rfl) (by kernel_rfl) (by kernel_rfl) (fun _ _ _ h => h) (Or.inr ⟨by rfl, rfl⟩) (by assumption) ?_)
                        | (refine wpAnyH_ready (rs := [2]) (by kernel_rfl) (by simp) ?_; refine AllReadyH.cons rfl (fun K hK => ?_) AllReadyH.nil; go_simp; refine hK.out _ _ hHeld (fun hHeld => ?_); clear hK K)
                      try simp only [List.getElem_toArray, List.getElem_cons_zero, List.getElem_cons_succ, Act.put, List.setIfInBounds_toArray, List.set_cons_zero, List.set_cons_succ]
                      first
                        | (refine wpAnyH_take (i := 3) (v := ?vv3_3) rfl (by kernel_rfl) (by kernel_rfl) (by kernel_rfl) (fun _ _ _ h => h) (Or.inl ⟨by rfl, ?hy3_3⟩) (by assumption) ?rest3_3; case hy3_3 => (intro w' hSw; (try dsimp only at hSw); go_simp; try with_reducible rfl))
                        | (refine wpAnyH_take (i := 3) (v := undef) rfl (by kernel_rfl) (by kernel_rfl) (by kernel_rfl) (fun _ _ _ h => h) (Or.inr ⟨by rfl, rfl⟩) (by assumption) ?_)
                        | (refine wpAnyH_ready (rs := [3]) (by kernel_rfl) (by simp) ?_; refine AllReadyH.cons rfl (fun K hK => ?_) AllReadyH.nil; go_simp; refine hK.out _ _ hHeld (fun hHeld => ?_); clear hK K)
                      try simp only [List.getElem_toArray, List.getElem_cons_zero, List.getElem_cons_succ, Act.put, List.setIfInBounds_toArray, List.set_cons_zero, List.set_cons_succ]
                      first
                        | (refine wpAnyH_take (i := 4) (v := ?vv4_3) rfl (by kernel_rfl) (by kernel_rfl) (by kernel_rfl) (fun _ _ _ h => h) (Or.inl ⟨by rfl, ?hy4_3⟩) (by assumption) ?rest4_3; case hy4_3 => (intro w' hSw; (try dsimp only at hSw); go_simp; try with_reducible rfl))
                        | (refine wpAnyH_take (i := 4) (v := undef) rfl (by kernel_rfl) (by kernel_rfl) (by kernel_rfl) (fun _ _ _ h => h) (Or.inr ⟨by rfl, rfl⟩) (by assumption) ?_)
                        | (refine wpAnyH_ready (rs := [4]) (by kernel_rfl) (by simp) ?_; refine AllReadyH.cons rfl (fun K hK => ?_) AllReadyH.nil; go_simp; refine hK.out _ _ hHeld (fun hHeld => ?_); clear hK K)
                      try simp only [List.getElem_toArray, List.getElem_cons_zero, List.getElem_cons_succ, Act.put, List.setIfInBounds_toArray, List.set_cons_zero, List.set_cons_succ]
                      first
                        | (refine wpAnyH_take (i := 5) (v := ?vv5_3) rfl (by kernel_rfl) (by kernel_rfl) (by kernel_rfl) (fun _ _ _ h => h) (Or.inl ⟨by rfl, ?hy5_3⟩) (by assumption) ?rest5_3; case hy5_3 => (intro w' hSw; (try dsimp only at hSw); go_simp; try with_reducible rfl))
                        | (refine wpAnyH_take (i := 5) (v := undef) rfl (by kernel_rfl) (by kernel_rfl) (by kernel_rfl) (fun _ _ _ h => h) (Or.inr ⟨by rfl, rfl⟩) (by assumption) ?_)
                        | (refine wpAnyH_ready (rs := [5]) (by kernel_rfl) (by simp) ?_; refine AllReadyH.cons rfl (fun K hK => ?_) AllReadyH.nil; go_simp; refine hK.out _ _ hHeld (fun hHeld => ?_); clear hK K)
                      try simp only [List.getElem_toArray, List.getElem_cons_zero, List.getElem_cons_succ, Act.put, List.setIfInBounds_toArray, List.set_cons_zero, List.set_cons_succ]
                      first
                        | (refine wpAnyH_take (i := 6) (v := ?vv6_3) rfl (by kernel_rfl) (by kernel_rfl) (by kernel_rfl) (fun _ _ _ h => h) (Or.inl ⟨by rfl, ?hy6_3⟩) (by assumption) ?rest6_3; case hy6_3 => (intro w' hSw; (try dsimp only at hSw); go_simp; try with_reducible rfl))
                        | (refine wpAnyH_take (i := 6) (v := undef) rfl (by kernel_rfl) (by kernel_rfl) (by kernel_rfl) (fun _ _ _ h => h) (Or.inr ⟨by rfl, rfl⟩) (by assumption) ?_)
                        | (refine wpAnyH_ready (rs := [6]) (by kernel_rfl) (by simp) ?_; refine AllReadyH.cons rfl (fun K hK => ?_) AllReadyH.nil; go_simp; refine hK.out _ _ hHeld (fun hHeld => ?_); clear hK K)
                      try simp only [List.getElem_toArray, List.getElem_cons_zero, List.getElem_cons_succ, Act.put, List.setIfInBounds_toArray, List.set_cons_zero, List.set_cons_succ]
                      first
                        | (refine wpAnyH_take (i := 7) (v := undef) rfl (by kernel_rfl) (by kernel_rfl) (by kernel_rfl) (fun _ _ _ h => h) (Or.inr ⟨by rfl, rfl⟩) (by assumption) ?_)
                        | (refine wpAnyH_ready (rs := [7]) (by kernel_rfl) (by simp) ?_; refine AllReadyH.cons rfl (fun K hK => ?_) AllReadyH.nil; go_simp; refine (HPT2.out _ hHeld.1).mono ?_; rintro e1 w8 ⟨rfl, hR⟩; (try go_wp2_with fail); refine hK.out _ _ ⟨hR, (HC.out _ hR).2⟩ (fun hHeld => ?_); clear hK K)
                      try simp only [List.getElem_toArray, List.getElem_cons_zero, List.getElem_cons_succ, Act.put, List.setIfInBounds_toArray, List.set_cons_zero, List.set_cons_succ]
                      first
                        | (refine wpAnyH_take (i := 8) (v := ?vv8_3) rfl (by kernel_rfl) (by kernel_rfl) (by kernel_rfl) (fun _ _ _ h => h) (Or.inl ⟨by rfl, ?hy8_3⟩) (by assumption) ?rest8_3; case hy8_3 => (intro w' hSw; (try dsimp only at hSw); go_simp; try with_reducible rfl))
                        | (refine wpAnyH_take (i := 8) (v := undef) rfl (by kernel_rfl) (by kernel_rfl) (by kernel_rfl) (fun _ _ _ h => h) (Or.inr ⟨by rfl, rfl⟩) (by assumption) ?_)
                        | (refine wpAnyH_ready (rs := [8]) (by kernel_rfl) (by simp) ?_; refine AllReadyH.cons rfl (fun K hK => ?_) AllReadyH.nil; go_simp; refine hK.out _ _ hHeld (fun hHeld => ?_); clear hK K)
                      try simp only [List.getElem_toArray, List.getElem_cons_zero, List.getElem_cons_succ, Act.put, List.setIfInBounds_toArray, List.set_cons_zero, List.set_cons_succ]
                      first
                        | (refine wpAnyH_take (i := 9) (v := ?vv9_3) rfl (by kernel_rfl) (by kernel_rfl) (by kernel_rfl) (fun _ _ _ h => h) (Or.inl ⟨by rfl, ?hy9_3⟩) (by assumption) ?rest9_3; case hy9_3 => (intro w' hSw; (try dsimp only at hSw); go_simp; try with_reducible rfl))
                        | (refine wpAnyH_take (i := 9) (v := undef) rfl (by kernel_rfl) (by kernel_rfl) (by kernel_rfl) (fun _ _ _ h => h) (Or.inr ⟨by rfl, rfl⟩) (by assumption) ?_)
                        | (refine wpAnyH_ready (rs := [9]) (by kernel_rfl) (by simp) ?_; refine AllReadyH.cons rfl (fun K hK => ?_) AllReadyH.nil; go_simp; refine hK.out _ _ hHeld (fun hHeld => ?_); clear hK K)
                      try simp only [List.getElem_toArray, List.getElem_cons_zero, List.getElem_cons_succ, Act.put, List.setIfInBounds_toArray, List.set_cons_zero, List.set_cons_succ]
                      first
                        | (refine wpAnyH_take (i := 10) (v := ?vv10_3) rfl (by kernel_rfl) (by kernel_rfl) (by kernel_rfl) (fun _ _ _ h => h) (Or.inl ⟨by rfl, ?hy10_3⟩) (by assumption) ?rest10_3; case hy10_3 => (intro w' hSw; (try dsimp only at hSw); go_simp; try with_reducible rfl))
                        | (refine wpAnyH_take (i := 10) (v := undef) rfl (by kernel_rfl) (by kernel_rfl) (by kernel_rfl) (fun _ _ _ h => h) (Or.inr ⟨by rfl, rfl⟩) (by assumption) ?_)
                        | (refine wpAnyH_ready (rs := [10]) (by kernel_rfl) (by simp) ?_; refine AllReadyH.cons rfl (fun K hK => ?_) AllReadyH.nil; go_simp; refine hK.out _ _ hHeld (fun hHeld => ?_); clear hK K)
                      try simp only [List.getElem_toArray, List.getElem_cons_zero, List.getElem_cons_succ, Act.put, List.setIfInBounds_toArray, List.set_cons_zero, List.set_cons_succ]
                      first
                        | (refine wpAnyH_take (i := 11) (v := ?vv11_3) rfl (by kernel_rfl) (by kernel_rfl) (by kernel_rfl) (fun _ _ _ h => h) (Or.inl ⟨by rfl, ?hy11_3⟩) (by assumption) ?rest11_3; case hy11_3 => (intro w' hSw; (try dsimp only at hSw); go_simp; try with_reducible rfl))
                        | (refine wpAnyH_take (i := 11) (v := undef) rfl (by kernel_rfl) (by kernel_rfl) (by kernel_rfl) (fun _ _ _ h => h) (Or.inr ⟨by rfl, rfl⟩) (by assumption) ?_)
                        | (refine wpAnyH_ready (rs := [11]) (by kernel_rfl) (by simp) ?_; refine AllReadyH.cons rfl (fun K hK => ?_) AllReadyH.nil; go_simp; refine hK.out _ _ hHeld (fun hHeld => ?_); clear hK K)
                      try simp only [List.getElem_toArray, List.getElem_cons_zero, List.getElem_cons_succ, Act.put, List.setIfInBounds_toArray, List.set_cons_zero, List.set_cons_succ]
                      first
                        | (refine wpAnyH_take (i := 12) (v := ?vv12_3) rfl (by kernel_rfl) (by kernel_rfl) (by kernel_rfl) (fun _ _ _ h => h) (Or.inl ⟨by rfl, ?hy12_3⟩) (by assumption) ?rest12_3; case hy12_3 => (intro w' hSw; (try dsimp only at hSw); go_simp; try with_reducible rfl))
                        | (refine wpAnyH_take (i := 12) (v := undef) rfl (by kernel_rfl) (by kernel_rfl) (by kernel_rfl) (fun _ _ _ h => h) (Or.inr ⟨by rfl, rfl⟩) (by assumption) ?_)
                        | (refine wpAnyH_ready (rs := [12]) (by kernel_rfl) (by simp) ?_; refine AllReadyH.cons rfl (fun K hK => ?_) AllReadyH.nil; go_simp; refine hK.out _ _ hHeld (fun hHeld => ?_); clear hK K)
                      try simp only [List.getElem_toArray, List.getElem_cons_zero, List.getElem_cons_succ, Act.put, List.setIfInBounds_toArray, List.set_cons_zero, List.set_cons_succ]
                      first
                        | (refine wpAnyH_take (i := 13) (v := ?vv13_3) rfl (by kernel_rfl) (by kernel_rfl) (by kernel_rfl) (fun _ _ _ h => h) (Or.inl ⟨by rfl, ?hy13_3⟩) (by assumption) ?rest13_3; case hy13_3 => (intro w' hSw; (try dsimp only at hSw); go_simp; try with_reducible rfl))
                        | (refine wpAnyH_take (i := 13) (v := undef) rfl (by kernel_rfl) (by kernel_rfl) (by kernel_rfl) (fun _ _ _ h => h) (Or.inr ⟨by rfl, rfl⟩) (by assumption) ?_)
                        | (refine wpAnyH_ready (rs := [13]) (by kernel_rfl) (by simp) ?_; refine AllReadyH.cons rfl (fun K hK => ?_) AllReadyH.nil; go_simp; refine hK.out _ _ hHeld (fun hHeld => ?_); clear hK K)
                      try simp only [List.getElem_toArray, List.getElem_cons_zero, List.getElem_cons_succ, Act.put, List.setIfInBounds_toArray, List.set_cons_zero, List.set_cons_succ]
                      first
                        | (refine wpAnyH_take (i := 14) (v := ?vv14_3) rfl (by kernel_rfl) (by kernel_rfl) (by kernel_rfl) (fun _ _ _ h => h) (Or.inl ⟨by rfl, ?hy14_3⟩) (by assumption) ?rest14_3; case hy14_3 => (intro w' hSw; (try dsimp only at hSw); go_simp; try with_reducible rfl))
                        | (refine wpAnyH_take (i := 14) (v := undef) rfl (by kernel_rfl) (by kernel_rfl) (by kernel_rfl) (fun _ _ _ h => h) (Or.inr ⟨by rfl, rfl⟩) (by assumption) ?_)
                        | (refine wpAnyH_ready (rs := [14]) (by kernel_rfl) (by simp) ?_; refine AllReadyH.cons rfl (fun K hK => ?_) AllReadyH.nil; go_simp; refine hK.out _ _ hHeld (fun hHeld => ?_); clear hK K)
                      try simp only [List.getElem_toArray, List.getElem_cons_zero, List.getElem_cons_succ, Act.put, List.setIfInBounds_toArray, List.set_cons_zero, List.set_cons_succ]
                      first
                        | (refine wpAnyH_take (i := 16) (v := ?vv16_3) rfl (by kernel_rfl) (by kernel_rfl) (by kernel_rfl) (fun _ _ _ h => h) (Or.inl ⟨by rfl, ?hy16_3⟩) (by assumption) ?rest16_3; case hy16_3 => (intro w' hSw; (try dsimp only at hSw); go_simp; try with_reducible rfl))
                        | (refine wpAnyH_take (i := 16) (v := undef) rfl (by kernel_rfl) (by kernel_rfl) (by kernel_rfl) (fun _ _ _ h => h) (Or.inr ⟨by rfl, rfl⟩) (by assumption) ?_)
                        | (refine wpAnyH_ready (rs := [16]) (by kernel_rfl) (by simp) ?_; refine AllReadyH.cons rfl (fun K hK => ?_) AllReadyH.nil; go_simp; refine hK.out _ _ hHeld (fun hHeld => ?_); clear hK K)
                      try simp only [List.getElem_toArray, List.getElem_cons_zero, List.getElem_cons_succ, Act.put, List.setIfInBounds_toArray, List.set_cons_zero, List.set_cons_succ]
                      first
                        | (refine wpAnyH_take (i := 15) (v := undef) rfl (by kernel_rfl) (by kernel_rfl) (by kernel_rfl) (fun _ _ _ h => h) (Or.inr ⟨by rfl, rfl⟩) (by assumption) ?_)
                        | (refine wpAnyH_ready (rs := [15]) (by kernel_rfl) (by simp) ?_; refine AllReadyH.cons rfl (fun K hK => ?_) AllReadyH.nil; go_simp; refine (HHT.out _ hHeld.1).mono ?_; rintro e1 w8 ⟨rfl, hR⟩; (try go_wp2_with fail); refine hK.out _ _ ⟨hR, (HC.out _ hR).2⟩ (fun hHeld => ?_); clear hK K)
                      try simp only [List.getElem_toArray, List.getElem_cons_zero, List.getElem_cons_succ, Act.put, List.setIfInBounds_toArray, List.set_cons_zero, List.set_cons_succ]
                      first
                        | (refine wpAnyH_take (i := 17) (v := undef) rfl (by kernel_rfl) (by kernel_rfl) (by kernel_rfl) (fun _ _ _ h => h) (Or.inr ⟨by rfl, rfl⟩) (by assumption) ?_)
                        | (refine wpAnyH_ready (rs := [17]) (by kernel_rfl) (by simp) ?_; refine AllReadyH.cons rfl (fun K hK => ?_) AllReadyH.nil; go_simp; refine (HHA.out _ hHeld.1).mono ?_; rintro e1 w8 ⟨rfl, hR⟩; (try go_wp2_with fail); refine hK.out _ _ ⟨hR, (HC.out _ hR).2⟩ (fun hHeld => ?_); clear hK K)
                      try simp only [List.getElem_toArray, List.getElem_cons_zero, List.getElem_cons_succ, Act.put, List.setIfInBounds_toArray, List.set_cons_zero, List.set_cons_succ]
                      first
                        | (refine wpAnyH_take (i := 18) (v := ?vv18_3) rfl (by kernel_rfl) (by kernel_rfl) (by kernel_rfl) (fun _ _ _ h => h) (Or.inl ⟨by rfl, ?hy18_3⟩) (by assumption) ?rest18_3; case hy18_3 => (intro w' hSw; (try dsimp only at hSw); go_simp; try with_reducible rfl))
                        | (refine wpAnyH_take (i := 18) (v := undef) rfl (by kernel_rfl) (by kernel_rfl) (by kernel_rfl) (fun _ _ _ h => h) (Or.inr ⟨by rfl, rfl⟩) (by assumption) ?_)
                        | (refine wpAnyH_ready (rs := [18]) (by kernel_rfl) (by simp) ?_; refine AllReadyH.cons rfl (fun K hK => ?_) AllReadyH.nil; go_simp; refine hK.out _ _ hHeld (fun hHeld => ?_); clear hK K)
                      try simp only [List.getElem_toArray, List.getElem_cons_zero, List.getElem_cons_succ, Act.put, List.setIfInBounds_toArray, List.set_cons_zero, List.set_cons_succ]
                      first
                        | (refine wpAnyH_take (i := 19) (v := ?vv19_3) rfl (by kernel_rfl) (by kernel_rfl) (by kernel_rfl) (fun _ _ _ h => h) (Or.inl ⟨by rfl, ?hy19_3⟩) (by assumption) ?rest19_3; case hy19_3 => (intro w' hSw; (try dsimp only at hSw); go_simp; try with_reducible rfl))
                        | (refine wpAnyH_take (i := 19) (v := undef) rfl (by kernel_rfl) (by kernel_rfl) (by kernel_rfl) (fun _ _ _ h => h) (Or.inr ⟨by rfl, rfl⟩) (by assumption) ?_)
                        | (refine wpAnyH_ready (rs := [19]) (by kernel_rfl) (by simp) ?_; refine AllReadyH.cons rfl (fun K hK => ?_) AllReadyH.nil; go_simp; refine hK.out _ _ hHeld (fun hHeld => ?_); clear hK K)
                      try simp only [List.getElem_toArray, List.getElem_cons_zero, List.getElem_cons_succ, Act.put, List.setIfInBounds_toArray, List.set_cons_zero, List.set_cons_succ]
                      first
                        | (refine wpAnyH_take (i := 20) (v := ?vv20_3) rfl (by kernel_rfl) (by kernel_rfl) (by kernel_rfl) (fun _ _ _ h => h) (Or.inl ⟨by rfl, ?hy20_3⟩) (by assumption) ?rest20_3; case hy20_3 => (intro w' hSw; (try dsimp only at hSw); go_simp; try with_reducible rfl))
                        | (refine wpAnyH_take (i := 20) (v := undef) rfl (by kernel_rfl) (by kernel_rfl) (by kernel_rfl) (fun _ _ _ h => h) (Or.inr ⟨by rfl, rfl⟩) (by assumption) ?_)
                        | (refine wpAnyH_ready (rs := [20]) (by kernel_rfl) (by simp) ?_; refine AllReadyH.cons rfl (fun K hK => ?_) AllReadyH.nil; go_simp; refine hK.out _ _ hHeld (fun hHeld => ?_); clear hK K)
                      try simp only [List.getElem_toArray, List.getElem_cons_zero, List.getElem_cons_succ, Act.put, List.setIfInBounds_toArray, List.set_cons_zero, List.set_cons_succ]
                      first
                        | (refine wpAnyH_take (i := 21) (v := ?vv21_3) rfl (by kernel_rfl) (by kernel_rfl) (by kernel_rfl) (fun _ _ _ h => h) (Or.inl ⟨by rfl, ?hy21_3⟩) (by assumption) ?rest21_3; case hy21_3 => (intro w' hSw; (try dsimp only at hSw); go_simp; try with_reducible rfl))
                        | (refine wpAnyH_take (i := 21) (v := undef) rfl (by kernel_rfl) (by kernel_rfl) (by kernel_rfl) (fun _ _ _ h => h) (Or.inr ⟨by rfl, rfl⟩) (by assumption) ?_)
                        | (refine wpAnyH_ready (rs := [21]) (by kernel_rfl) (by simp) ?_; refine AllReadyH.cons rfl (fun K hK => ?_) AllReadyH.nil; go_simp; refine hK.out _ _ hHeld (fun hHeld => ?_); clear hK K)
                      try simp only [List.getElem_toArray, List.getElem_cons_zero, List.getElem_cons_succ, Act.put, List.setIfInBounds_toArray, List.set_cons_zero, List.set_cons_succ]
                      first
                        | (refine wpAnyH_take (i := 22) (v := ?vv22_3) rfl (by kernel_rfl) (by kernel_rfl) (by kernel_rfl) (fun _ _ _ h => h) (Or.inl ⟨by rfl, ?hy22_3⟩) (by assumption) ?rest22_3; case hy22_3 => (intro w' hSw; (try dsimp only at hSw); go_simp; try with_reducible rfl))
                        | (refine wpAnyH_take (i := 22) (v := undef) rfl (by kernel_rfl) (by kernel_rfl) (by kernel_rfl) (fun _ _ _ h => h) (Or.inr ⟨by rfl, rfl⟩) (by assumption) ?_)
                        | (refine wpAnyH_ready (rs := [22]) (by kernel_rfl) (by simp) ?_; refine AllReadyH.cons rfl (fun K hK => ?_) AllReadyH.nil; go_simp; refine hK.out _ _ hHeld (fun hHeld => ?_); clear hK K)
                      try simp only [List.getElem_toArray, List.getElem_cons_zero, List.getElem_cons_succ, Act.put, List.setIfInBounds_toArray, List.set_cons_zero, List.set_cons_succ]
                      first
                        | (refine wpAnyH_take (i := 23) (v := ?vv23_3) rfl (by kernel_rfl) (by kernel_rfl) (by kernel_rfl) (fun _ _ _ h => h) (Or.inl ⟨by rfl, ?hy23_3⟩) (by assumption) ?rest23_3; case hy23_3 => (intro w' hSw; (try dsimp only at hSw); go_simp; try with_reducible rfl))
                        | (refine wpAnyH_take (i := 23) (v := undef) rfl (by kernel_rfl) (by kernel_rfl) (by kernel_rfl) (fun _ _ _ h => h) (Or.inr ⟨by rfl, rfl⟩) (by assumption) ?_)
                        | (refine wpAnyH_ready (rs := [23]) (by kernel_rfl) (by simp) ?_; refine AllReadyH.cons rfl (fun K hK => ?_) AllReadyH.nil; go_simp; refine hK.out _ _ hHeld (fun hHeld => ?_); clear hK K)
                      try simp only [List.getElem_toArray, List.getElem_cons_zero, List.getElem_cons_succ, Act.put, List.setIfInBounds_toArray, List.set_cons_zero, List.set_cons_succ]
                      first
                        | (refine wpAnyH_take (i := 24) (v := ?vv24_3) rfl (by kernel_rfl) (by kernel_rfl) (by kernel_rfl) (fun _ _ _ h => h) (Or.inl ⟨by rfl, ?hy24_3⟩) (by assumption) ?rest24_3; case hy24_3 => (intro w' hSw; (try dsimp only at hSw); go_simp; try with_reducible rfl))
                        | (refine wpAnyH_take (i := 24) (v := undef) rfl (by kernel_rfl) (by kernel_rfl) (by kernel_rfl) (fun _ _ _ h => h) (Or.inr ⟨by rfl, rfl⟩) (by assumption) ?_)
                        | (refine wpAnyH_ready (rs := [24]) (by kernel_rfl) (by simp) ?_; refine AllReadyH.cons rfl (fun K hK => ?_) AllReadyH.nil; go_simp; refine hK.out _ _ hHeld (fun hHeld => ?_); clear hK K)
                      try simp only [List.getElem_toArray, List.getElem_cons_zero, List.getElem_cons_succ, Act.put, List.setIfInBounds_toArray, List.set_cons_zero, List.set_cons_succ]
                      first
                        | (refine wpAnyH_take (i := 25) (v := ?vv25_3) rfl (by kernel_rfl) (by kernel_rfl) (by kernel_rfl) (fun _ _ _ h => h) (Or.inl ⟨by rfl, ?hy25_3⟩) (by assumption) ?rest25_3; case hy25_3 => (intro w' hSw; (try dsimp only at hSw); go_simp; try with_reducible rfl))
                        | (refine wpAnyH_take (i := 25) (v := undef) rfl (by kernel_rfl) (by kernel_rfl) (by kernel_rfl) (fun _ _ _ h => h) (Or.inr ⟨by rfl, rfl⟩) (by assumption) ?_)
                        | (refine wpAnyH_ready (rs := [25]) (by kernel_rfl) (by simp) ?_; refine AllReadyH.cons rfl (fun K hK => ?_) AllReadyH.nil; go_simp; refine hK.out _ _ hHeld (fun hHeld => ?_); clear hK K)
                      try simp only [List.getElem_toArray, List.getElem_cons_zero, List.getElem_cons_succ, Act.put, List.setIfInBounds_toArray, List.set_cons_zero, List.set_cons_succ]
                      first
                        | (refine wpAnyH_take (i := 26) (v := ?vv26_3) rfl (by kernel_rfl) (by kernel_rfl) (by kernel_rfl) (fun _ _ _ h => h) (Or.inl ⟨by rfl, ?hy26_3⟩) (by assumption) ?rest26_3; case hy26_3 => (intro w' hSw; (try dsimp only at hSw); go_simp; try with_reducible rfl))
                        | (refine wpAnyH_take (i := 26) (v := undef) rfl (by kernel_rfl) (by kernel_rfl) (by kernel_rfl) (fun _ _ _ h => h) (Or.inr ⟨by rfl, rfl⟩) (by assumption) ?_)
                        | (refine wpAnyH_ready (rs := [26]) (by kernel_rfl) (by simp) ?_; refine AllReadyH.cons rfl (fun K hK => ?_) AllReadyH.nil; go_simp; refine hK.out _ _ hHeld (fun hHeld => ?_); clear hK K)
                      try simp only [List.getElem_toArray, List.getElem_cons_zero, List.getElem_cons_succ, Act.put, List.setIfInBounds_toArray, List.set_cons_zero, List.set_cons_succ]
                      first
                        | (refine wpAnyH_take (i := 28) (v := ?vv28_3) rfl (by kernel_rfl) (by kernel_rfl) (by kernel_rfl) (fun _ _ _ h => h) (Or.inl ⟨by rfl, ?hy28_3⟩) (by assumption) ?rest28_3; case hy28_3 => (intro w' hSw; (try dsimp only at hSw); go_simp; try with_reducible rfl))
                        | (refine wpAnyH_take (i := 28) (v := undef) rfl (by kernel_rfl) (by kernel_rfl) (by kernel_rfl) (fun _ _ _ h => h) (Or.inr ⟨by rfl, rfl⟩) (by assumption) ?_)
                        | (refine wpAnyH_ready (rs := [28]) (by kernel_rfl) (by simp) ?_; refine AllReadyH.cons rfl (fun K hK => ?_) AllReadyH.nil; go_simp; refine hK.out _ _ hHeld (fun hHeld => ?_); clear hK K)
                      try simp only [List.getElem_toArray, List.getElem_cons_zero, List.getElem_cons_succ, Act.put, List.setIfInBounds_toArray, List.set_cons_zero, List.set_cons_succ]
                      first
                        | (refine wpAnyH_take (i := 29) (v := ?vv29_3) rfl (by kernel_rfl) (by kernel_rfl) (by kernel_rfl) (fun _ _ _ h => h) (Or.inl ⟨by rfl, ?hy29_3⟩) (by assumption) ?rest29_3; case hy29_3 => (intro w' hSw; (try dsimp only at hSw); go_simp; try with_reducible rfl))
                        | (refine wpAnyH_take (i := 29) (v := undef) rfl (by kernel_rfl) (by kernel_rfl) (by kernel_rfl) (fun _ _ _ h => h) (Or.inr ⟨by rfl, rfl⟩) (by assumption) ?_)
                        | (refine wpAnyH_ready (rs := [29]) (by kernel_rfl) (by simp) ?_; refine AllReadyH.cons rfl (fun K hK => ?_) AllReadyH.nil; go_simp; refine hK.out _ _ hHeld (fun hHeld => ?_); clear hK K)
                      try simp only [List.getElem_toArray, List.getElem_cons_zero, List.getElem_cons_succ, Act.put, List.setIfInBounds_toArray, List.set_cons_zero, List.set_cons_succ]
                      first
                        | (refine wpAnyH_take (i := 27) (v := undef) rfl (by kernel_rfl) (by kernel_rfl) (by kernel_rfl) (fun _ _ _ h => h) (Or.inr ⟨by rfl, rfl⟩) (by assumption) ?_)
                        | (refine wpAnyH_ready (rs := [27]) (by kernel_rfl) (by simp) ?_; refine AllReadyH.cons rfl (fun K hK => ?_) AllReadyH.nil; go_simp; refine (HPM.out _ hHeld.1).mono ?_; rintro e1 w8 ⟨rfl, hR⟩; (try go_wp2_with fail); refine hK.out _ _ ⟨hR, (HC.out _ hR).2⟩ (fun hHeld => ?_); clear hK K)
                      try simp only [List.getElem_toArray, List.getElem_cons_zero, List.getElem_cons_succ, Act.put, List.setIfInBounds_toArray, List.set_cons_zero, List.set_cons_succ]
                      first
                        | (refine wpAnyH_take (i := 30) (v := undef) rfl (by kernel_rfl) (by kernel_rfl) (by kernel_rfl) (fun _ _ _ h => h) (Or.inr ⟨by rfl, rfl⟩) (by assumption) ?_)
                        | (refine wpAnyH_ready (rs := [30]) (by kernel_rfl) (by simp) ?_; refine AllReadyH.cons rfl (fun K hK => ?_) AllReadyH.nil; go_simp; refine (HLV.out _ hHeld.1).mono ?_; rintro e1 w8 ⟨rfl, hR⟩; (try go_wp2_with fail); refine hK.out _ _ ⟨hR, (HC.out _ hR).2⟩ (fun hHeld => ?_); clear hK K)
                      try simp only [List.getElem_toArray, List.getElem_cons_zero, List.getElem_cons_succ, Act.put, List.setIfInBounds_toArray, List.set_cons_zero, List.set_cons_succ]
                      first
                        | (refine wpAnyH_take (i := 31) (v := ?vv31_3) rfl (by kernel_rfl) (by kernel_rfl) (by kernel_rfl) (fun _ _ _ h => h) (Or.inl ⟨by rfl, ?hy31_3⟩) (by assumption) ?rest31_3; case hy31_3 => (intro w' hSw; (try dsimp only at hSw); go_simp; try with_reducible rfl))
                        | (refine wpAnyH_take (i := 31) (v := undef) rfl (by kernel_rfl) (by kernel_rfl) (by kernel_rfl) (fun _ _ _ h => h) (Or.inr ⟨by rfl, rfl⟩) (by assumption) ?_)
                        | (refine wpAnyH_ready (rs := [31]) (by kernel_rfl) (by simp) ?_; refine AllReadyH.cons rfl (fun K hK => ?_) AllReadyH.nil; go_simp; refine hK.out _ _ hHeld (fun hHeld => ?_); clear hK K)
                      try simp only [List.getElem_toArray, List.getElem_cons_zero, List.getElem_cons_succ, Act.put, List.setIfInBounds_toArray, List.set_cons_zero, List.set_cons_succ]
                      first
                        | (refine wpAnyH_take (i := 32) (v := ?vv32_3) rfl (by kernel_rfl) (by kernel_rfl) (by kernel_rfl) (fun _ _ _ h => h) (Or.inl ⟨by rfl, ?hy32_3⟩) (by assumption) ?rest32_3; case hy32_3 => (intro w' hSw; (try dsimp only at hSw); go_simp; try with_reducible rfl))
                        | (refine wpAnyH_take (i := 32) (v := undef) rfl (by kernel_rfl) (by kernel_rfl) (by kernel_rfl) (fun _ _ _ h => h) (Or.inr ⟨by rfl, rfl⟩) (by assumption) ?_)
                        | (refine wpAnyH_ready (rs := [32]) (by kernel_rfl) (by simp) ?_; refine AllReadyH.cons rfl (fun K hK => ?_) AllReadyH.nil; go_simp; refine hK.out _ _ hHeld (fun hHeld => ?_); clear hK K)
                      try simp only [List.getElem_toArray, List.getElem_cons_zero, List.getElem_cons_succ, Act.put, List.setIfInBounds_toArray, List.set_cons_zero, List.set_cons_succ]
                      first
                        | (refine wpAnyH_take (i := 33) (v := ?vv33_3) rfl (by kernel_rfl) (by kernel_rfl) (by kernel_rfl) (fun _ _ _ h => h) (Or.inl ⟨by rfl, ?hy33_3⟩) (by assumption) ?rest33_3; case hy33_3 => (intro w' hSw; (try dsimp only at hSw); go_simp; try with_reducible rfl))
                        | (refine wpAnyH_take (i := 33) (v := undef) rfl (by kernel_rfl) (by kernel_rfl) (by kernel_rfl) (fun _ _ _ h => h) (Or.inr ⟨by rfl, rfl⟩) (by assumption) ?_)
                        | (refine wpAnyH_ready (rs := [33]) (by kernel_rfl) (by simp) ?_; refine AllReadyH.cons rfl (fun K hK => ?_) AllReadyH.nil; go_simp; refine hK.out _ _ hHeld (fun hHeld => ?_); clear hK K)
                      try simp only [List.getElem_toArray, List.getElem_cons_zero, List.getElem_cons_succ, Act.put, List.setIfInBounds_toArray, List.set_cons_zero, List.set_cons_succ]
                      first
                        | (refine wpAnyH_take (i := 34) (v := ?vv34_3) rfl (by kernel_rfl) (by kernel_rfl) (by kernel_rfl) (fun _ _ _ h => h) (Or.inl ⟨by rfl, ?hy34_3⟩) (by assumption) ?rest34_3; case hy34_3 => (intro w' hSw; (try dsimp only at hSw); go_simp; try with_reducible rfl))
                        | (refine wpAnyH_take (i := 34) (v := undef) rfl (by kernel_rfl) (by kernel_rfl) (by kernel_rfl) (fun _ _ _ h => h) (Or.inr ⟨by rfl, rfl⟩) (by assumption) ?_)
                        | (refine wpAnyH_ready (rs := [34]) (by kernel_rfl) (by simp) ?_; refine AllReadyH.cons rfl (fun K hK => ?_) AllReadyH.nil; go_simp; refine hK.out _ _ hHeld (fun hHeld => ?_); clear hK K)
                      try simp only [List.getElem_toArray, List.getElem_cons_zero, List.getElem_cons_succ, Act.put, List.setIfInBounds_toArray, List.set_cons_zero, List.set_cons_succ]
                      refine wpAnyH_done (by kernel_rfl) ?_ _
                      go_wp2_with fail
                      go_ret
                      exact ⟨rfl, HFIN.out _ hHeld.1⟩
end Go.Proofs.YtkffdhdhjfbhjaaDoor
