/-
  Readers of the program's: Line, where a reply is whole by it; Line of any reader.
-/
import Derived.Test.YtanfonpbnamjmaaDoorYLineB
namespace Go.Proofs.YtanfonpbnamjmaaDoor
open Go Go.RowKit Go.Shelf
set_option maxRecDepth 100000

/-- Behind X, with new memory alone. -/
def SB (X W : World) : Prop := Below X.heap.size X W
theorem SB.drew {X W : World} (h : SB X W) : SB X W.drew := Below.drew h

/-- What the reader is when the reply is told. -/
theorem Rd.wholed {n : Nat} {X W : World} {b : Nat} {F : List Nat} {st : RS} (h : Rd n X b F st) (q : Nat) (z : List UInt8) (h0 : 0 < st.ls.length) {v u : Value} (hb : Blk X b st.c v st.lc st.lst u st.d) (hs : SB X W) :
    Rd n ((((W.setCell ⟨b, 2, none⟩ (.int .i64 (q : Int))).setCell ⟨b, 3, none⟩ (sv z)).setCell ⟨b, 4, none⟩ v).setCell ⟨b, 1, none⟩ (.slice none 0 0)) b F { st with ls := [], lc := q, lst := z, lls := st.ls } ∧
    Kp F X ((((W.setCell ⟨b, 2, none⟩ (.int .i64 (q : Int))).setCell ⟨b, 3, none⟩ (sv z)).setCell ⟨b, 4, none⟩ v).setCell ⟨b, 1, none⟩ (.slice none 0 0)) := by
  have hW := h.below hs
  have hbW := hb.below hs
  obtain ⟨hm, hu, hl2, he, v', u', hb', hv, hu', h1, h2, h3, h4, h5⟩ := hW
  have hb0 : Blk W b st.c v' st.lc st.lst u' st.d := hb'
  have ev : v' = v := by have := hb0.c1.symm.trans hbW.c1; simpa using this
  subst ev
  have hk : Kp [b] W ((((W.setCell ⟨b, 2, none⟩ (.int .i64 (q : Int))).setCell ⟨b, 3, none⟩ (sv z)).setCell ⟨b, 4, none⟩ v').setCell ⟨b, 1, none⟩ (.slice none 0 0)) := ((((Kp.refl [b] W).setCell (p := ⟨b, 2, none⟩) (by simp) _).setCell (p := ⟨b, 3, none⟩) (by simp) _).setCell (p := ⟨b, 4, none⟩) (by simp) _).setCell (p := ⟨b, 1, none⟩) (by simp) _
  refine ⟨Rd.make (st := { st with ls := [], lc := q, lst := z, lls := st.ls }) ((((hb0.set2 q).set3 z).set4 v').set1 (.slice none 0 0)) hm (fun k e => ?_) ⟨by simp, hl2.1⟩ (fun e => by have e' : st.ls = [] := e; rw [e'] at h0; simp at h0) (World.ownsRow_nil _ _ _ _) (ownsRow_kp hv hk (fun g e hg => hb0.ne hv (by rw [e]; simp at hg; rw [hg])))
    (fun g e => by simp [Value.ownBlock] at e) h1 (fun g e => by simp [Value.ownBlock] at e) (fun _ => rfl) h4, (Kp.of_below hs F).trans hk (fun k e _ => by simp at e; subst e; exact hm)⟩
  have := hu k e
  simpa [World.setCell] using this

set_option maxHeartbeats 16000000 in
theorem line_whole {n : Nat} {w : World} {b : Nat} {F : List Nat} {st : RS} (h : Rd n w b F st) (hw : LW w) (s : List UInt8) (hs : s.length ≤ 1000000) (hd : st.d = false) (hbad : badL st s = false) (h32 : st.ls.length < 32) (hmore : moreR s = false) :
    Calls Tryd.prog 20 #[.pointer (some ⟨b, 0, none⟩), sv s] w (LinePost n w b F st s) := by
  have HP := Lib.hid (parse_any s w hs hw)
  have H32 : ¬ st.ls.length = 32 := by omega
  have e1 : doneR st s = true := by unfold doneR; rw [hd, hbad, hmore, decide_eq_false H32]; rfl
  have e2 : errR st s = 0 := by unfold errR; rw [hd, hbad, if_neg H32]; rfl
  have e3 : stepR st s = { st with ls := [], c := codeR s, lc := codeR s, lst := statR (codeR s) (textR s), lls := st.ls ++ [textR s] } := by unfold stepR; rw [hd, hbad, if_neg H32, hmore]; rfl
  have hf : okForm s = true := by
    unfold badL at hbad
    cases e : okForm s with
    | true => rfl
    | false => rw [e] at hbad; simp at hbad
  have hv : parseV s = .tuple #[.int .i64 (codeR s : Int), .bool (moreR s), sv (textR s), .int .i64 0] := by unfold parseV; rw [if_pos hf]
  rw [hv, hmore] at HP
  unfold badL at hbad
  rw [hf] at hbad
  have hb2 : 0 < st.ls.length → codeR s = st.c := by simpa using hbad
  have HFIN := Lib.hid (show ∀ w1 w2 F', Below w.heap.size w w1 → Rd n w2 b F' { st with ls := [], c := codeR s, lc := codeR s, lst := statR (codeR s) (textR s), lls := st.ls ++ [textR s] } → Kp F w1 w2 → (∀ k ∈ F', k ∈ F ∨ w1.heap.size ≤ k) → LinePost n w b F st s (.returned (.tuple #[.bool true, .int .i64 0])) w2 from
    fun w1 w2 F' hb r1 r2 r3 => ⟨F', by rw [e1, e2], by rw [e3]; exact r1, (Kp.of_below hb F).trans r2 (fun k hk _ => hk), fun k hk => (r3 k hk).imp id (fun e => Nat.le_trans hb.size e)⟩)
  have hcb := codeR_bounds hf
  have htl : (textR s).length ≤ 1000000 := by unfold textR; rw [List.length_drop]; omega
  have HLW := Lib.hid (fun w1 (hb : Below w.heap.size w w1) => hw.below hb)
  obtain ⟨q, hq⟩ : ∃ q, q = codeR s := ⟨_, rfl⟩
  obtain ⟨t, ht⟩ : ∃ t, t = textR s := ⟨_, rfl⟩
  rw [← hq] at HP hb2 HFIN hcb
  rw [← ht] at HP HFIN htl
  have HST := Lib.hid (fun W (h : LW W) => stat_any q t W hcb.1 hcb.2.1 htl h)
  obtain ⟨z, hz⟩ : ∃ z, z = statR q t := ⟨_, rfl⟩
  rw [← hz] at HST HFIN
  clear hz hcb htl
  have HR := Lib.hid h
  have hn : n ≤ w.heap.size := by have := h.up b h.mem; omega
  have HNN := Lib.hid hn
  obtain ⟨_, _, _, _, v, u, hb, hvv, _⟩ := h
  obtain ⟨Av, cv, rfl⟩ := owns_form hvv
  have hb0 : Blk w b st.c (.slice Av st.ls.length cv) st.lc st.lst u st.d := hb
  have c5 := hb0.c5
  rw [hd] at c5
  have HB := Lib.hid hb0
  have HOV := Lib.hid hvv
  have HL := Lib.hid h32
  have h32i : ((st.ls.length : Int) == 32) = false := by rw [beq_eq_false_iff_ne]; omega
  clear hb hb0 hd hvv e1 e2 e3 hw hf hv hbad hq ht hn h32 H32 hmore
  have HCC := Lib.hid (fun w1 (hb : Below w.heap.size w w1) => (HB.out.below hb).c0)
  have HCV := Lib.hid (fun w1 (hb : Below w.heap.size w w1) => (HB.out.below hb).c1)
  have HC2 : ((decide ((0 : Int) < st.ls.length)) = false) ∨ ((0 : Int) < st.ls.length ∧ ((q : Int) != (st.c : Int)) = false) := by
    by_cases h0 : 0 < st.ls.length
    · exact .inr ⟨by omega, by rw [hb2 h0]; simp⟩
    · exact .inl (by rw [decide_eq_false_iff_not]; omega)
  clear hb2
  rcases HC2 with hz | ⟨hz, hz2⟩
  · have hz' : ¬ (0 : Int) < st.ls.length := by simpa using hz
    clear hz
    go_enter Tryd.func20, Tryd.ntmps20
    go_wp2_with first
      | (go_at_call 52; refine (HP.out).mono ?_; rintro e w1 ⟨rfl, hb1⟩; have hc1 := HCC.out _ hb1; have hc2 := HCV.out _ hb1; have HO1 := Lib.hid (ownsRow_kp HOV.out (Kp.of_below hb1 []) (fun g _ => by simp)); have HB1 := Lib.hid hb1; clear hb1)
      | (at_builtin; refine row_append (n := n) (ls := st.ls) HO1.out (Nat.le_trans HNN.out HB1.out.size) (by have := HL.out; omega) t _ ?hC (.tmp 58) (.tmp 60) rfl rfl rfl _ rfl ?_; rotate_left; intro g cap w2 hown hgr hor hlt; have hA := (HR.out.below HB1.out).appended q t _ HL.out (HB.out.below HB1.out) hown hgr hor hlt; have d0 := hA.1.c0; have g0 := hA.1.fr 0; have d1 := hA.1.c1; have g1 := hA.1.fr 1; have HB2 := Lib.hid hA.1; have HA := Lib.hid hA.2; clear hA hown hgr hor hlt)
    case hC => rfl
    obtain ⟨X, hX⟩ : ∃ X, X = (w2.setCell ⟨b, 0, none⟩ (.int .i64 (q : Int))).setCell ⟨b, 1, none⟩ (.slice (some ⟨g, 0, none⟩) (st.ls.length + 1) cap) := ⟨_, rfl⟩
    have hBX : Blk X b q (.slice (some ⟨g, 0, none⟩) (st.ls.length + 1) cap) st.lc st.lst u st.d := by rw [hX]; exact (HB2.out.set0 q).set1 _
    rw [← hX] at HA ⊢
    have HLX := Lib.hid (show LW X from (HLW.out _ HB1.out).kp HA.out.2.1 (fun k hk => (HR.out.up k hk).2.1))
    have HS2 := Lib.hid (show ∀ W, SB X W → Calls Tryd.prog 55 #[.int .i64 (q : Int), sv t] W fun e w' => e = .returned (sv z) ∧ SB X w' from fun W hs => (HST.out W (HLX.out.below hs)).mono fun e w' ⟨h1, h2⟩ => ⟨h1, Below.trans hs (h2.mono hs.size)⟩)
    have HC := Lib.hid (show ∀ W, SB X W → W.cell? ⟨b, 1, none⟩ = some (.slice (some ⟨g, 0, none⟩) (st.ls.length + 1) cap) ∧ W.cell? ⟨b, 2, none⟩ = some (.int .i64 (st.lc : Int)) ∧ W.cell? ⟨b, 3, none⟩ = some (sv st.lst) ∧ W.cell? ⟨b, 4, none⟩ = some u ∧ W.frozen? ⟨b, 1, none⟩ = false ∧ W.frozen? ⟨b, 2, none⟩ = false ∧ W.frozen? ⟨b, 3, none⟩ = false ∧ W.frozen? ⟨b, 4, none⟩ = false from
      fun W hs => have h := hBX.below hs; ⟨h.c1, h.c2, h.c3, h.c4, h.fr 1, h.fr 2, h.fr 3, h.fr 4⟩)
    have HEND := Lib.hid (fun W (hs : SB X W) => HA.out.1.wholed q z (by simp) hBX hs)
    have h0X : SB X X := Below.refl _ _
    have hc0 := HC.out _ h0X
    clear hBX hX d0 g0 d1 g1 hc1 hc2
    obtain ⟨k1, k2, k3, k4, f1, f2, f3, f4⟩ := hc0
    go_region_with (first
      | (go_at_call 55; with_reducible refine (HS2.out _ (by first | exact h0X | exact SB.drew h0X)).mono ?_; rintro e1 w8 ⟨rfl, hR⟩; obtain ⟨m1, m2, m3, m4, l1, l2, l3, l4⟩ := HC.out _ hR))
    all_goals
      go_wp2_with fail
      go_ret2
      exact HFIN.out _ _ _ HB1.out (HEND.out w8 hR).1 (HA.out.2.1.trans (HEND.out w8 hR).2 (fun k hk hlt => (HA.out.2.2 k hk).elim id (fun e => absurd hlt (by omega)))) HA.out.2.2
  · skip
    go_enter Tryd.func20, Tryd.ntmps20
    go_wp2_with first
      | (go_at_call 52; refine (HP.out).mono ?_; rintro e w1 ⟨rfl, hb1⟩; have hc1 := HCC.out _ hb1; have hc2 := HCV.out _ hb1; have HO1 := Lib.hid (ownsRow_kp HOV.out (Kp.of_below hb1 []) (fun g _ => by simp)); have HB1 := Lib.hid hb1; clear hb1)
      | (at_builtin; refine row_append (n := n) (ls := st.ls) HO1.out (Nat.le_trans HNN.out HB1.out.size) (by have := HL.out; omega) t _ ?hC (.tmp 58) (.tmp 60) rfl rfl rfl _ rfl ?_; rotate_left; intro g cap w2 hown hgr hor hlt; have hA := (HR.out.below HB1.out).appended q t _ HL.out (HB.out.below HB1.out) hown hgr hor hlt; have d0 := hA.1.c0; have g0 := hA.1.fr 0; have d1 := hA.1.c1; have g1 := hA.1.fr 1; have HB2 := Lib.hid hA.1; have HA := Lib.hid hA.2; clear hA hown hgr hor hlt)
    case hC => rfl
    obtain ⟨X, hX⟩ : ∃ X, X = (w2.setCell ⟨b, 0, none⟩ (.int .i64 (q : Int))).setCell ⟨b, 1, none⟩ (.slice (some ⟨g, 0, none⟩) (st.ls.length + 1) cap) := ⟨_, rfl⟩
    have hBX : Blk X b q (.slice (some ⟨g, 0, none⟩) (st.ls.length + 1) cap) st.lc st.lst u st.d := by rw [hX]; exact (HB2.out.set0 q).set1 _
    rw [← hX] at HA ⊢
    have HLX := Lib.hid (show LW X from (HLW.out _ HB1.out).kp HA.out.2.1 (fun k hk => (HR.out.up k hk).2.1))
    have HS2 := Lib.hid (show ∀ W, SB X W → Calls Tryd.prog 55 #[.int .i64 (q : Int), sv t] W fun e w' => e = .returned (sv z) ∧ SB X w' from fun W hs => (HST.out W (HLX.out.below hs)).mono fun e w' ⟨h1, h2⟩ => ⟨h1, Below.trans hs (h2.mono hs.size)⟩)
    have HC := Lib.hid (show ∀ W, SB X W → W.cell? ⟨b, 1, none⟩ = some (.slice (some ⟨g, 0, none⟩) (st.ls.length + 1) cap) ∧ W.cell? ⟨b, 2, none⟩ = some (.int .i64 (st.lc : Int)) ∧ W.cell? ⟨b, 3, none⟩ = some (sv st.lst) ∧ W.cell? ⟨b, 4, none⟩ = some u ∧ W.frozen? ⟨b, 1, none⟩ = false ∧ W.frozen? ⟨b, 2, none⟩ = false ∧ W.frozen? ⟨b, 3, none⟩ = false ∧ W.frozen? ⟨b, 4, none⟩ = false from
      fun W hs => have h := hBX.below hs; ⟨h.c1, h.c2, h.c3, h.c4, h.fr 1, h.fr 2, h.fr 3, h.fr 4⟩)
    have HEND := Lib.hid (fun W (hs : SB X W) => HA.out.1.wholed q z (by simp) hBX hs)
    have h0X : SB X X := Below.refl _ _
    have hc0 := HC.out _ h0X
    clear hBX hX d0 g0 d1 g1 hc1 hc2
    obtain ⟨k1, k2, k3, k4, f1, f2, f3, f4⟩ := hc0
    go_region_with (first
      | (go_at_call 55; with_reducible refine (HS2.out _ (by first | exact h0X | exact SB.drew h0X)).mono ?_; rintro e1 w8 ⟨rfl, hR⟩; obtain ⟨m1, m2, m3, m4, l1, l2, l3, l4⟩ := HC.out _ hR))
    all_goals
      go_wp2_with fail
      go_ret2
      exact HFIN.out _ _ _ HB1.out (HEND.out w8 hR).1 (HA.out.2.1.trans (HEND.out w8 hR).2 (fun k hk hlt => (HA.out.2.2 k hk).elim id (fun e => absurd hlt (by omega)))) HA.out.2.2

theorem line_any {n : Nat} {w : World} {b : Nat} {F : List Nat} {st : RS} (h : Rd n w b F st) (hw : LW w) (s : List UInt8) (hs : s.length ≤ 1000000) :
    Calls Tryd.prog 20 #[.pointer (some ⟨b, 0, none⟩), sv s] w (LinePost n w b F st s) := by
  cases hd : st.d with
  | true => exact line_dead h s hd
  | false =>
    cases hb : badL st s with
    | true => exact line_bad h hw s hs hd hb
    | false =>
      by_cases h32 : st.ls.length = 32
      · exact line_full h hw s hs hd hb h32
      · have hl : st.ls.length < 32 := by have := h.len.1; omega
        cases hm : moreR s with
        | true => exact line_more h hw s hs hd hb hl hm
        | false => exact line_whole h hw s hs hd hb hl hm
end Go.Proofs.YtanfonpbnamjmaaDoor
