/-
  The walk of HeadTells.
-/
import Derived.Test.YtkffdhdhjfbhjaaDoorHRShow
namespace Go.Proofs.YtkffdhdhjfbhjaaDoor
set_option linter.unusedSimpArgs false
set_option linter.unusedVariables false
open Go Go.RowKit Go.Shelf
set_option maxRecDepth 100000

theorem flatp_setn : ∀ (ps : List FP) (k : Nat) (y : List UInt8), k < ps.length → (flatP ps).set (k * 2) (sv y) = flatP (ps.set k (y, (ps.getD k pm0).2))
  | r :: rs, 0, y, _ => rfl
  | r :: rs, k + 1, y, h => by
    have := flatp_setn rs k y (by simpa using h)
    rw [show (k + 1) * 2 = (k * 2) + 1 + 1 by omega]
    simp only [flatP, List.set_cons_succ, List.getD_cons_succ]
    rw [this]
theorem PO.setn {e : TypeId} {base : Nat} {W : World} {g n c k : Nat} {ps : List FP} (h : PO e base W (.slice (some ⟨g, 0, none⟩) n c) ps) (hk : k < ps.length) (y : List UInt8) : PO e base (W.setCell ⟨g, k * 2, none⟩ (sv y)) (.slice (some ⟨g, 0, none⟩) n c) (ps.set k (y, (ps.getD k pm0).2)) := by
  unfold PO at h ⊢
  rw [List.length_set]
  refine ⟨by rw [← flatp_setn ps k y hk, List.length_set]; exact h.1, ?_⟩
  rcases h.2 with ⟨e, h0⟩ | ⟨g', cap, cur, e, hb, hg, h1, h2, h3, h4⟩
  · omega
  · obtain ⟨rfl, rfl, rfl⟩ : g = g' ∧ n = ps.length ∧ c = cap := by simpa using e
    refine .inr ⟨g, c, cur.setIfInBounds (k * 2) (sv y), rfl, hb, heap_setCell_same _ _ _ _ _ _ hg, h1, h2, by simpa using h3, ?_⟩
    rw [← flatp_setn ps k y hk, ← h4]
    simp [List.take_set]
theorem PO.cellsn {e : TypeId} {base : Nat} {W : World} {A : Option Addr} {n c k : Nat} {ps : List FP} (h : PO e base W (.slice A n c) ps) (hk : k < ps.length) : ∃ g, A = some ⟨g, 0, none⟩ ∧ base ≤ g ∧ g < W.heap.size ∧ W.cell? ⟨g, k * 2, none⟩ = some (sv (ps.getD k pm0).1) ∧ W.frozen? ⟨g, k * 2, none⟩ = false := by
  obtain ⟨g, rfl, hb, c0, _⟩ := PO.cells h hk
  refine ⟨g, rfl, hb, block_lt_of_cell c0, c0, ?_⟩
  rcases h.2 with ⟨e, h0⟩ | ⟨g', cap, cur, e, hb, hg, h1, h2, h3, h4⟩
  · omega
  · obtain ⟨rfl, _⟩ : g = g' ∧ n = ps.length ∧ c = cap := by simpa using e
    exact freeAt hg _
theorem Ows.setx {base : Nat} {W : World} {g n c k : Nat} {xs : List (List UInt8)} (h : Ows W base (.slice (some ⟨g, 0, none⟩) n c) xs) (hk : k < xs.length) (y : List UInt8) : Ows (W.setCell ⟨g, k, none⟩ (sv y)) base (.slice (some ⟨g, 0, none⟩) n c) (xs.set k y) := by
  unfold Ows at h ⊢
  rw [List.length_set]
  refine ⟨by simp, ?_⟩
  rcases h.2 with ⟨e, h0⟩ | ⟨g', cap, cur, e, hb, hg, h1, h2, h3, h4⟩
  · omega
  · obtain ⟨rfl, rfl, rfl⟩ : g = g' ∧ n = xs.length ∧ c = cap := by simpa using e
    refine .inr ⟨g, c, cur.setIfInBounds k (sv y), rfl, hb, heap_setCell_same _ _ _ _ _ _ hg, h1, h2, by simpa using h3, ?_⟩
    rw [List.map_set, ← h4]
    simp [List.take_set]
theorem Ows.cellx {base : Nat} {W : World} {A : Option Addr} {n c k : Nat} {xs : List (List UInt8)} (h : Ows W base (.slice A n c) xs) (hk : k < xs.length) : ∃ g, A = some ⟨g, 0, none⟩ ∧ base ≤ g ∧ W.cell? ⟨g, k, none⟩ = some (sv (xs.getD k [])) ∧ W.frozen? ⟨g, k, none⟩ = false := by
  rcases h.2 with ⟨e, h0⟩ | ⟨g, cap, cur, e, hb, hg, h1, h2, h3, h4⟩
  · omega
  · obtain ⟨rfl, rfl, rfl⟩ : A = some ⟨g, 0, none⟩ ∧ n = xs.length ∧ c = cap := by simpa using e
    obtain ⟨g', e', c0⟩ := Ows.cell0 h k hk
    obtain rfl : g = g' := by simpa using e'
    exact ⟨g, rfl, hb, by rw [c0, List.getD_eq_getElem?_getD, List.getElem?_eq_getElem hk]; rfl, freeAt hg _⟩

def spoiltL : List UInt8 := [115, 112, 111, 105, 108, 116]

theorem rbodyB {w0 w : World} (h : BL w0 w) (s : List UInt8) (hs : s.length ≤ 50000) {r : List UInt8} (hn : bodyL s = r) : Calls Tryd.prog 23 #[sv s] w fun e w' => e = .returned (sv r) ∧ BL w0 w' := by
  subst hn
  exact (rbody_any s w hs).mono fun e w' ⟨h1, h2⟩ => ⟨h1, h.step h2⟩
theorem rlikeBB {w0 w : World} (h : BL w0 w) (a b : List UInt8) (ha : a.length ≤ 1000000) (hb : b.length ≤ 1000000) {r : Bool} (hn : likeB a b = r) : Calls Tryd.prog 24 #[sv a, sv b] w fun e w' => e = .returned (.bool r) ∧ BL w0 w' := by
  subst hn
  exact (rlike_any a b w ha hb).mono fun e w' ⟨h1, h2⟩ => ⟨h1, h.step h2⟩

set_option maxHeartbeats 16000000 in
theorem headTells_walk (s a b : List UInt8) (hs : s.length ≤ 140737488351232) (ha : a.length ≤ 140737488351232) (hb : b.length ≤ 140737488351232) (w : World) (hM : ML w) :
    Calls Tryd.prog 4 #[sv s, sv a, sv b] w fun e w' => e = .returned (.bool true) ∧ Below w.heap.size w w' := by
  have HBW := Lib.hid (BL.start hM)
  have HM := Lib.hid hM
  clear hM
  have hadd : ¬ 9223372036854775807 < a.length + b.length := by omega
  by_cases h1 : 5000 < s.length
  · have i1 : (5000 : Int) < (s.length : Int) := by omega
    go_enter Tryd.func4, Tryd.ntmps4
    go_wp2_with fail
    refine (awake_any HBW.out).mono ?_
    rintro e w1 ⟨rfl, hb1⟩
    go_wp2_with fail
    go_ret
    exact ⟨rfl, hb1.1⟩
  · have i1 : ¬ (5000 : Int) < (s.length : Int) := by omega
    by_cases h2 : 5000 < a.length + b.length
    · have i2 : (5000 : Int) < (a.length : Int) + (b.length : Int) := by omega
      go_enter Tryd.func4, Tryd.ntmps4
      go_wp2_with fail
      refine (awake_any HBW.out).mono ?_
      rintro e w1 ⟨rfl, hb1⟩
      go_wp2_with fail
      go_ret
      exact ⟨rfl, hb1.1⟩
    · have i2 : ¬ (5000 : Int) < (a.length : Int) + (b.length : Int) := by omega
      have hfl := fields_len s
      obtain ⟨fs, hfs⟩ : ∃ fs, fs = fieldsL s := ⟨_, rfl⟩
      obtain ⟨gs, hgs⟩ : ∃ gs, gs = getL s a := ⟨_, rfl⟩
      have hgl : gs.length ≤ s.length := by rw [hgs, get_cF, List.length_map]; exact cF_len s a
      obtain ⟨bd, hbd⟩ : ∃ bd, bodyL s = bd := ⟨_, rfl⟩
      obtain ⟨lk, hlk⟩ : ∃ lk, likeB a b = lk := ⟨_, rfl⟩
      have HBD := Lib.hid hbd
      have HLK := Lib.hid hlk
      have HF := Lib.hid (fun W (h : ML W) => fields_any s W (by omega) h)
      have HRF := Lib.hid (fun W => rfields_any s W (by omega))
      have HG := Lib.hid (fun W (h : ML W) => get_any s a W (by omega) (by omega) h)
      have HRG := Lib.hid (fun W => rget_any s a W (by omega) (by omega))
      rw [← hfs] at hfl HF HRF
      rw [← hgs] at HG HRG
      have H0 := Lib.hid HM.out.lt
      clear hfs hgs hbd hlk
      go_enter Tryd.func4, Tryd.ntmps4
      go_wp2_with fail
      go_loopw [7, 8, 9, 10, 11] (fun i _ _ _ _ wr => ∃ r : Nat, r ≤ 2 ∧ i = .int .i64 r ∧ Below w.heap.size w wr) (fun i _ _ _ _ _ => 2 - (intOf i).toNat)
      case atStart => exact ⟨0, by omega, rfl, Below.refl _ _⟩
      case round =>
        obtain ⟨r, hr, rfl, hbl⟩ := hrel
        have HL := Lib.hid hbl
        clear hbl
        by_cases hlt : r < 2
        · have hr2 : (r : Int) < 2 := by omega
          go_wp2_with fail
          refine (HF.out _ (HM.out.below HL.out H0.out)).mono ?_
          rintro e w1 ⟨v1, rfl, hb1, ho1⟩
          obtain ⟨A1, c1, rfl⟩ := ho1.form
          have L1 := Lib.hid (HL.out.trans (hb1.mono HL.out.size))
          have O1 := Lib.hid (ho1.lower HL.out.size)
          clear hb1 ho1
          go_wp2_with fail
          refine (HG.out _ (HM.out.below L1.out H0.out)).mono ?_
          rintro e w2 ⟨v2, rfl, hb2, ho2⟩
          obtain ⟨A2, c2, rfl⟩ := ho2.form
          have L2 := Lib.hid (L1.out.trans (hb2.mono L1.out.size))
          have O12 := Lib.hid (O1.out.below hb2)
          have O2 := Lib.hid ho2
          clear hb2 ho2
          go_wp2_with fail
          refine (told_any fs _ _ O12.out.pr (by omega)).mono ?_
          rintro e w3 ⟨v3, rfl, hb3, ho3⟩
          obtain ⟨A3, c3, rfl⟩ := ho3.form
          have L3 := Lib.hid (L2.out.trans (hb3.mono L2.out.size))
          have O13 := Lib.hid (O12.out.below hb3)
          have O23 := Lib.hid (O2.out.below hb3)
          have O3 := Lib.hid ho3.pr
          clear hb3 ho3
          go_wp2_with fail
          refine (HRF.out _).mono ?_
          rintro e w4 ⟨v4, rfl, hb4, ho4⟩
          obtain ⟨A4, c4, rfl⟩ := ho4.form
          have L4 := Lib.hid (L3.out.trans (hb4.mono L3.out.size))
          have O14 := Lib.hid (O13.out.below hb4)
          have O24 := Lib.hid (O23.out.below hb4)
          have O34 := Lib.hid (O3.out.step hb4)
          have O4 := Lib.hid ho4.pr
          clear hb4 ho4
          go_wp2_with fail
          refine (rsame_any fs fs _ _ _ O34.out O4.out (by omega) (by omega)).mono ?_
          rintro e w5 ⟨rfl, hb5⟩
          have L5 := Lib.hid (L4.out.trans (hb5.mono L4.out.size))
          have O15 := Lib.hid (O14.out.below hb5)
          have O25 := Lib.hid (O24.out.below hb5)
          clear hb5
          rw [show (fs == fs) = true by simp]
          go_wp2_with fail
          refine (HRG.out _).mono ?_
          rintro e w6 ⟨v6, rfl, hb6, ho6⟩
          obtain ⟨A6, c6, rfl⟩ := ho6.form
          have L6 := Lib.hid (L5.out.trans (hb6.mono L5.out.size))
          have O16 := Lib.hid (O15.out.below hb6)
          have O26 := Lib.hid (O25.out.below hb6)
          have O6 := Lib.hid ho6
          clear hb6 ho6
          go_wp2_with fail
          refine (same01_any gs gs _ _ _ O26.out.row O6.out.row (by omega) (by omega)).mono ?_
          rintro e w7 ⟨rfl, hb7⟩
          have L7 := Lib.hid (L6.out.trans (hb7.mono L6.out.size))
          have O17 := Lib.hid (O16.out.below hb7)
          have O27 := Lib.hid (O26.out.below hb7)
          have HLT := Lib.hid (show ∀ j, (Value.slice A1 fs.length c1).ownBlock = some j → j < w1.heap.size from fun j e => (O1.out.lt e).2)
          clear hb7
          rw [show (gs == gs) = true by simp]
          go_wp2_with fail
          go_loopw [10] (fun i wr => ∃ (k : Nat) (ps : List FP), k ≤ fs.length ∧ i = .int .i64 k ∧ ps.length = fs.length ∧ PO 29 w.heap.size wr (.slice A1 fs.length c1) ps ∧ Ows wr w1.heap.size (.slice A2 gs.length c2) gs ∧ Below w.heap.size w wr) (fun i _ => fs.length - (intOf i).toNat)
          case atStart => exact ⟨0, fs, Nat.zero_le _, rfl, rfl, O17.out, O27.out, L7.out⟩
          case round =>
            obtain ⟨k, ps, hk, rfl, hpl, hpo, how, hbl⟩ := hrel
            have HP := Lib.hid hpo
            have HO := Lib.hid how
            have HB := Lib.hid hbl
            clear hpo how hbl
            by_cases hlk : k < fs.length
            · obtain ⟨g, rfl, hbg, hgw, z0, z1⟩ := PO.cellsn (k := k) HP.out (by omega)
              have hk1 : (0 : Int) ≤ (k : Int) := by omega
              have hk2 : (k : Int) < (fs.length : Int) := by omega
              have P1 := Lib.hid (HP.out.setn (k := k) (by omega) spoiltL)
              have hgl1 : g < w1.heap.size := HLT.out g rfl
              have P2 := Lib.hid (show Ows (wr.setCell ⟨g, k * 2, none⟩ (sv spoiltL)) w1.heap.size (.slice A2 gs.length c2) gs from HO.out.kept (grownBy_cellF wr g (k * 2) _) (fun r e => by cases e; exact .inl hgl1))
              have P3 := Lib.hid (HB.out.setCell (p := ⟨g, k * 2, none⟩) hbg (sv spoiltL))
              go_wp2_with fail
              go_roundw
              case rel => exact ⟨k + 1, _, by omega, by go_num, by rw [List.length_set]; exact hpl, P1.out, P2.out, P3.out⟩
              case measure => simp [intOf]; omega
            · have hke : (k : Int) = (fs.length : Int) := by omega
              have HB9 := Lib.hid HB.out
              go_wp2_with fail
              go_loopw [11] (fun i wr => ∃ (k : Nat) (xs : List (List UInt8)), k ≤ gs.length ∧ i = .int .i64 k ∧ xs.length = gs.length ∧ Ows wr w1.heap.size (.slice A2 gs.length c2) xs ∧ Below w.heap.size w wr) (fun i _ => gs.length - (intOf i).toNat)
              case atStart => exact ⟨0, gs, Nat.zero_le _, rfl, rfl, HO.out, HB9.out⟩
              case round =>
                obtain ⟨k, xs, hk, rfl, hxl, how, hbl⟩ := hrel
                have HX := Lib.hid how
                have HY := Lib.hid hbl
                clear how hbl
                by_cases hlk : k < gs.length
                · obtain ⟨g, rfl, hbg, z0, z1⟩ := Ows.cellx (k := k) HX.out (by omega)
                  have hk1 : (0 : Int) ≤ (k : Int) := by omega
                  have hk2 : (k : Int) < (gs.length : Int) := by omega
                  have P1 := Lib.hid (HX.out.setx (k := k) (by omega) spoiltL)
                  have P3 := Lib.hid (HY.out.setCell (p := ⟨g, k, none⟩) (Nat.le_trans L1.out.size hbg) (sv spoiltL))
                  go_wp2_with fail
                  go_roundw
                  case rel => exact ⟨k + 1, _, by omega, by go_num, by rw [List.length_set]; exact hxl, P1.out, P3.out⟩
                  case measure => simp [intOf]; omega
                · go_wp2_with fail
                  go_roundw
                  case rel => exact ⟨r + 1, by omega, by go_num, HY.out⟩
                  case measure => simp [intOf]; omega
        · have hr2 : ¬ (r : Int) < 2 := by omega
          have B0 := Lib.hid (show BL w wr from ⟨HL.out, HM.out.below HL.out H0.out⟩)
          go_wp2_with fail
          refine (bodyB B0.out s (by omega) HBD.out).mono ?_
          rintro e w1 ⟨rfl, h1⟩
          have B1 := Lib.hid h1
          clear h1
          go_wp2_with fail
          refine (rbodyB B1.out s (by omega) HBD.out).mono ?_
          rintro e w2 ⟨rfl, h2⟩
          have B2 := Lib.hid h2
          clear h2
          go_wp2_with fail
          refine (likeBB B2.out a b (by omega) (by omega) HLK.out).mono ?_
          rintro e w3 ⟨rfl, h3⟩
          have B3 := Lib.hid h3
          clear h3
          go_wp2_with fail
          refine (rlikeBB B3.out a b (by omega) (by omega) HLK.out).mono ?_
          rintro e w4 ⟨rfl, h4⟩
          have B4 := Lib.hid h4
          clear h4
          go_wp2_with fail
          refine (awake_any B4.out).mono ?_
          rintro e w5 ⟨rfl, h5⟩
          go_wp2_with fail
          go_ret
          exact ⟨rfl, h5.1⟩
end Go.Proofs.YtkffdhdhjfbhjaaDoor
