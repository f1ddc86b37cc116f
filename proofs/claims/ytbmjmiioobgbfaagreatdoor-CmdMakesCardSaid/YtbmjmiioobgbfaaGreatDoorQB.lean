/-
  A command, as the reference's ('told'); the reference's Same.
  The reference's Mail and Rcpt (layer 7): they are the plain functions.
  The reference's Mail (layer 7): it is the plain function.
-/
import Derived.Deep.RegionLaw
import Derived.Deep.RegionHeld3
import Derived.Test.YtbmjmiioobgbfaaGreatDoorQA
import Derived.Test.YtbmjmiioobgbfaaGreatDoorKAdd
import Derived.Test.YtbmjmiioobgbfaaGreatDoorKMailM
import Derived.Test.YtbmjmiioobgbfaaGreatDoorKSame
import Derived.Test.YtbmjmiioobgbfaaGreatDoorKShow
import Derived.Deep.CutRange
import Derived.WalkLawsBesides
namespace Go.Proofs.YtbmjmiioobgbfaaGreatDoor
open Go Go.RowKit Go.Shelf
set_option maxRecDepth 100000
set_option linter.unusedSimpArgs false
set_option linter.unusedVariables false

/-- Behind W0, all blocks below m as they lay: in block m a command of the reference's, whose row is made from block B on. -/
structure XD (W0 : World) (B m : Nat) (vb a u : Value) (ps : List PM) (W : World) : Prop where
  bel : Below m W0 W
  up : m < B ∧ B ≤ W.heap.size
  mm : W.heap[m]? = some (.cells #[vb, a, u] 61 (0, 0))
  own : PO 95 B W u ps
theorem XD.step {W0 W W' : World} {B m : Nat} {vb a u : Value} {ps : List PM} (h : XD W0 B m vb a u ps W) (hb : Below W.heap.size W W') : XD W0 B m vb a u ps W' :=
  ⟨h.bel.trans (hb.mono (Nat.le_of_lt (lt_of_blk h.mm))), ⟨h.up.1, Nat.le_trans h.up.2 hb.size⟩, blk_below h.mm hb, h.own.below hb⟩
theorem XD.drew {W0 W : World} {B m : Nat} {vb a u : Value} {ps : List PM} (h : XD W0 B m vb a u ps W) : XD W0 B m vb a u ps W.drew := h.step (Below.refl _ _).drew
theorem XD.m3 {W0 W : World} {B m : Nat} {vb a u : Value} {ps : List PM} (h : XD W0 B m vb a u ps W) : W.cell? ⟨m, 0, none⟩ = some vb ∧ W.cell? ⟨m, 1, none⟩ = some a ∧ W.cell? ⟨m, 2, none⟩ = some u ∧ W.frozen? ⟨m, 2, none⟩ = false :=
  ⟨by rw [cellAt h.mm]; rfl, by rw [cellAt h.mm]; rfl, by rw [cellAt h.mm]; rfl, freeAt h.mm 2⟩
theorem XD.app {W0 W : World} {B m : Nat} {vb a u : Value} {ps : List PM} (h : XD W0 B m vb a u ps W) (n x : List UInt8) (hl : ps.length ≤ 1000000) :
    ∃ g cap w2, (Builtin.append_ #[59, 59] 59 #[u, .slice (some ⟨W.heap.size, 0, none⟩) 1 1]).run Tryz.prog (W.alloc (.cells #[sv n, sv x] 95)) = .ok (.slice (some ⟨g, 0, none⟩) (ps.length + 1) cap) w2 ∧
      w2.cell? ⟨m, 2, none⟩ = some u ∧ w2.frozen? ⟨m, 2, none⟩ = false ∧ m < w2.heap.size ∧
      XD W0 B m vb a (.slice (some ⟨g, 0, none⟩) (ps.length + 1) cap) (ps ++ [(n, x)]) (w2.setCell ⟨m, 2, none⟩ (.slice (some ⟨g, 0, none⟩) (ps.length + 1) cap)) := by
  obtain ⟨h1, h3⟩ := h.up
  obtain ⟨g, cap, w2, hrun, hown, hgr, hor⟩ := po_append Tryz.underlying59 info_rparam (by decide) h.own h3 (by omega) n x
  have ha := h.step (below_alloc W (.cells #[sv n, sv x] 95))
  have hrow : ∀ j, u.ownBlock = some j → B ≤ j := fun j e => (h.own.lt e).1
  have mm2 : w2.heap[m]? = some (.cells #[vb, a, u] 61 (0, 0)) := (hgr.block _ (lt_of_blk ha.mm) (fun e => by have := hrow _ e.symm; omega)).trans ha.mm
  have hb2 : Below m W0 w2 := ha.bel.grown hgr (Nat.le_of_lt (lt_of_blk ha.mm)) fun j e => by have := hrow j e; omega
  have hb3 := hb2.setCell (p := ⟨m, 2, none⟩) (Nat.le_refl _) (.slice (some ⟨g, 0, none⟩) (ps.length + 1) cap)
  refine ⟨g, cap, w2, hrun, by rw [cellAt mm2]; rfl, freeAt mm2 2, lt_of_blk mm2, hb3, ⟨h1, ?_⟩, ?_, ?_⟩
  · have := hgr.size
    simp [World.setCell] at this ⊢
    omega
  · simp [World.setCell, Array.getElem?_modify, mm2]
  · exact hown.set (b := m) (i := 2) (fun j e => by have := (hown.lt e).1; omega) (.slice (some ⟨g, 0, none⟩) (ps.length + 1) cap)

/-- What a command of the reference's leaves. -/
def RcPost (w : World) (c : Cm) (e : Ending) (w' : World) : Prop := ∃ u, e = .returned (cmV c u) ∧ Below w.heap.size w w' ∧ PR w' u c.ps

theorem z3R {W : World} {g : Nat} (h : W.heap[g]? = some (.cells zC 61 (0, 0))) :
    W.cell? ⟨g, 0, none⟩ = some (.int .u8 0) ∧ W.cell? ⟨g, 1, none⟩ = some (sv []) ∧ W.cell? ⟨g, 2, none⟩ = some (.slice none 0 0) ∧ W.frozen? ⟨g, 0, none⟩ = false ∧ W.frozen? ⟨g, 1, none⟩ = false ∧ W.frozen? ⟨g, 2, none⟩ = false :=
  ⟨by rw [cellAt h]; rfl, by rw [cellAt h]; rfl, by rw [cellAt h]; rfl, freeAt h 0, freeAt h 1, freeAt h 2⟩
theorem take_next {l : List PM} {k : Nat} (h : k < l.length) : l.take k ++ [l.getD k pm0] = l.take (k + 1) := by
  rw [List.take_succ_eq_append_getElem h, pm_getD h]

set_option maxHeartbeats 8000000 in
theorem told_any (c : Cm) (u : Value) (w : World) (hu : PR w u c.ps) (hl : c.ps.length ≤ 100000) : Calls Tryz.prog 28 #[cmV c u] w (RcPost w c) := by
  obtain ⟨v, a, ps⟩ := c
  obtain ⟨A, cc, rfl⟩ := hu.form
  dsimp only at hu hl
  have HV := Lib.hid hu
  clear hu
  obtain ⟨W0, hW0⟩ : ∃ W0, W0 = ((w.alloc (.cells #[.int .u8 (v : Int), sv a, .slice A ps.length cc] 41)).alloc (.cells zC 61)).alloc (.cells #[.int .u8 (v : Int), sv a, .slice none 0 0] 61) := ⟨_, rfl⟩
  have HX0 := Lib.hid (show XD W0 (w.heap.size + 3) (w.heap.size + 2) (.int .u8 (v : Int)) (sv a) (.slice none 0 0) [] W0 from
    ⟨Below.refl _ _, ⟨by omega, by rw [hW0]; simp⟩, by rw [hW0]; have := heap_alloc_new ((w.alloc (.cells #[.int .u8 (v : Int), sv a, .slice A ps.length cc] 41)).alloc (.cells zC 61)) (.cells #[.int .u8 (v : Int), sv a, .slice none 0 0] 61); simpa using this, PO.nil _ _ _⟩)
  have HB0 := Lib.hid (show W0.heap[w.heap.size]? = some (.cells #[.int .u8 (v : Int), sv a, .slice A ps.length cc] 41 (0, 0)) by
    rw [hW0]; exact (Lib.alloc_old _ _ _ (by simp; omega)).trans ((Lib.alloc_old _ _ _ (by simp)).trans (heap_alloc_new w _)))
  have HB1 := Lib.hid (show W0.heap[w.heap.size + 1]? = some (.cells zC 61 (0, 0)) by
    rw [hW0]
    refine (Lib.alloc_old _ _ _ (by simp)).trans ?_
    have := heap_alloc_new (w.alloc (.cells #[.int .u8 (v : Int), sv a, .slice A ps.length cc] 41)) (.cells zC 61)
    simpa using this)
  have HW := Lib.hid (show Below w.heap.size w W0 by rw [hW0]; exact (((Below.refl _ _).alloc (Nat.le_refl _) _).alloc (by simp) _).alloc (by simp; omega) _)
  obtain ⟨B, hBB⟩ : ∃ B, B = w.heap.size + 3 := ⟨_, rfl⟩
  rw [← hBB] at HX0
  have HBB := Lib.hid hBB
  clear hBB
  have HWW := Lib.hid hW0
  clear hW0
  go_enter Tryz.func28, Tryz.ntmps28
  go_wp2_with fail
  rw [← HWW.out]
  go_loopw [4] (fun i W => ∃ (k : Nat) (u : Value), k ≤ ps.length ∧ i = .int .i64 k ∧ XD W0 B (w.heap.size + 2) (.int .u8 (v : Int)) (sv a) u (ps.take k) W) (fun i _ => ps.length - (intOf i).toNat)
  case atStart => exact ⟨0, _, by omega, rfl, HX0.out⟩
  case round =>
    obtain ⟨k, ux, hk, rfl, hx⟩ := hrel
    have HX := Lib.hid hx
    have hb : wr.heap[w.heap.size]? = some (.cells #[.int .u8 (v : Int), sv a, .slice A ps.length cc] 41 (0, 0)) := (hx.bel.block _ (by omega)).trans HB0.out
    have hb1 : wr.heap[w.heap.size + 1]? = some (.cells zC 61 (0, 0)) := (hx.bel.block _ (by omega)).trans HB1.out
    have HBW := Lib.hid (show Below w.heap.size w wr from HW.out.trans (hx.bel.mono (by omega)))
    have c2 : wr.cell? ⟨w.heap.size, 2, none⟩ = some (.slice A ps.length cc) := by rw [cellAt hb]; rfl
    by_cases hlt : k < ps.length
    · obtain ⟨n, hn⟩ : ∃ n, n = (ps.getD k pm0).1 := ⟨_, rfl⟩
      obtain ⟨x, hxx⟩ : ∃ n, n = (ps.getD k pm0).2 := ⟨_, rfl⟩
      obtain ⟨g, off, rfl, hg, q0, q1⟩ := (HV.out.step HBW.out).at hlt
      rw [← hn] at q0
      rw [← hxx] at q1
      obtain ⟨A2, c3, rfl⟩ := hx.own.form
      obtain ⟨_, _, m2, m3⟩ := hx.m3
      have hm := lt_of_blk hx.mm
      have HAP := Lib.hid (fun W (h : XD W0 B (w.heap.size + 2) (.int .u8 (v : Int)) (sv a) (.slice A2 (ps.take k).length c3) (ps.take k) W) => h.app n x (by rw [List.length_take]; omega))
      rw [show ps.take k ++ [(n, x)] = ps.take (k + 1) by rw [← take_next hlt, show ps.getD k pm0 = (n, x) by rw [hn, hxx]]] at HAP
      have hk2 : (k : Int) < (ps.length : Int) := by omega
      have hk3 : (0 : Int) ≤ (k : Int) := by omega
      obtain ⟨L, hL⟩ : ∃ L, L = (ps.take k).length := ⟨_, rfl⟩
      rw [← hL] at m2 HAP HX
      clear hx hb hb1 hn hxx hL
      go_wp2_with fail
      go_region_law (first
        | (obtain ⟨g2, cap2, w2, hrun, y0, y1, y2, hfin⟩ := HAP.out wr HX.out; refine step_app rfl (.tmp 18) (.tmp 24) 59 rfl rfl rfl hrun ?_; have HFIN := Lib.hid hfin; clear hrun hfin)
        | (obtain ⟨g2, cap2, w2, hrun, y0, y1, y2, hfin⟩ := HAP.out wr.drew HX.out.drew; refine step_app rfl (.tmp 18) (.tmp 24) 59 rfl rfl rfl hrun ?_; have HFIN := Lib.hid hfin; clear hrun hfin)
        | (obtain ⟨g2, cap2, w2, hrun, y0, y1, y2, hfin⟩ := HAP.out wr.drew.drew HX.out.drew.drew; refine step_app rfl (.tmp 18) (.tmp 24) 59 rfl rfl rfl hrun ?_; have HFIN := Lib.hid hfin; clear hrun hfin))
      all_goals (try go_wp2)
      all_goals go_roundw
      all_goals first | (case rel => exact ⟨k + 1, _, by omega, by go_num, HFIN.out⟩) | skip
      all_goals first | (case measure => simp [intOf]; omega) | skip
    · obtain rfl : k = ps.length := by omega
      obtain ⟨A2, c3, rfl⟩ := hx.own.form
      obtain ⟨m0, m1, m2, m3⟩ := hx.m3
      have hm := lt_of_blk hx.mm
      obtain ⟨r0, r1, r2, r3, r4, r5⟩ := z3R hb1
      have hlb := lt_of_blk hb1
      have HB1W := Lib.hid hb1
      have hown := hx.own
      rw [List.take_length] at hown m2
      have HPO0 := Lib.hid hown
      have HBL := Lib.hid (show Below (w.heap.size + 1) (w.alloc (.cells #[.int .u8 (v : Int), sv a, .slice A ps.length cc] 41)) wr from by
        have h2 := hx.bel.mono (show w.heap.size + 1 ≤ w.heap.size + 2 by omega)
        refine Below.trans ?_ h2
        rw [HWW.out]
        exact ((Below.refl _ _).alloc (by simp) _).alloc (by simp) _)
      clear hx hb hb1 HX hown
      have HPO := Lib.hid (HPO0.put3 (n0 := w.heap.size + 1) (by have := HBB.out; omega) (.int .u8 (v : Int)) (sv a) (.slice A2 ps.length c3))
      obtain ⟨p1, p2⟩ := put_world HB1W.out HBL.out (.int .u8 (v : Int)) (sv a) (.slice A2 ps.length c3)
      have P1 := Lib.hid p1
      have P2 := Lib.hid p2
      clear p1 p2
      go_wp2_with fail
      refine bodyPost_ret (results_row (p := 2) (fr := (0, 0)) Tryz.results28 _ _ (w.heap.size + 1) 61 _ _ rfl P1.out Tryz.underlying61 rfl (by kernel_rfl)) rfl ?_
      exact ⟨_, rfl, (below_alloc w (.cells #[.int .u8 (v : Int), sv a, .slice A ps.length cc] 41)).trans (P2.out.mono (Nat.le_succ _)), HPO.out.pr⟩

/-! ### Same -/
def BQ2 (w : World) (x y : Cm) (u v : Value) (W : World) : Prop := Below w.heap.size w W ∧ W.heap[w.heap.size]? = some (.cells #[.int .u8 (x.verb : Int), sv x.arg, u] 61 (0, 0)) ∧ W.heap[w.heap.size + 1]? = some (.cells #[.int .u8 (y.verb : Int), sv y.arg, v] 61 (0, 0))
theorem BQ2.step {w W W' : World} {x y : Cm} {u v : Value} (h : BQ2 w x y u v W) (hb : Below W.heap.size W W') : BQ2 w x y u v W' := ⟨h.1.trans (hb.mono h.1.size), blk_below h.2.1 hb, blk_below h.2.2 hb⟩
theorem BQ2.all {w W : World} {x y : Cm} {u v : Value} (h : BQ2 w x y u v W) :
    (W.cell? ⟨w.heap.size, 0, none⟩ = some (.int .u8 (x.verb : Int)) ∧ W.cell? ⟨w.heap.size, 1, none⟩ = some (sv x.arg) ∧ W.cell? ⟨w.heap.size, 2, none⟩ = some u) ∧ W.cell? ⟨w.heap.size + 1, 0, none⟩ = some (.int .u8 (y.verb : Int)) ∧ W.cell? ⟨w.heap.size + 1, 1, none⟩ = some (sv y.arg) ∧ W.cell? ⟨w.heap.size + 1, 2, none⟩ = some v := by
  refine ⟨⟨?_, ?_, ?_⟩, ?_, ?_, ?_⟩ <;> first | (rw [cellAt h.2.1]; rfl) | (rw [cellAt h.2.2]; rfl)

set_option maxHeartbeats 8000000 in
theorem rsameK_any (x y : Cm) (u v : Value) (w : World) (hu : PR w u x.ps) (hv : PR w v y.ps) (hxl : x.ps.length ≤ 1000000) (hyl : y.ps.length ≤ 1000000) :
    Calls Tryz.prog 32 #[cmV x u, cmV y v] w fun e w' => e = .returned (.bool (sameK x y)) ∧ Below w.heap.size w w' := by
  obtain ⟨xv, xa, xs⟩ := x
  obtain ⟨yv, ya, ys⟩ := y
  obtain ⟨A, c, rfl⟩ := hu.form
  obtain ⟨B, d, rfl⟩ := hv.form
  dsimp only at hu hv hxl hyl
  have HU := Lib.hid hu
  have HV := Lib.hid hv
  obtain ⟨X, hX⟩ : ∃ X, X = (w.alloc (.cells #[.int .u8 (xv : Int), sv xa, .slice A xs.length c] 61)).alloc (.cells #[.int .u8 (yv : Int), sv ya, .slice B ys.length d] 61) := ⟨_, rfl⟩
  have HQ := Lib.hid (show BQ2 w ⟨xv, xa, xs⟩ ⟨yv, ya, ys⟩ (.slice A xs.length c) (.slice B ys.length d) X by
    rw [hX]
    refine ⟨((Below.refl _ _).alloc (Nat.le_refl _) _).alloc (by simp) _, (Lib.alloc_old _ _ _ (by simp)).trans (heap_alloc_new w _), ?_⟩
    have := heap_alloc_new (w.alloc (.cells #[.int .u8 (xv : Int), sv xa, .slice A xs.length c] 61)) (.cells #[.int .u8 (yv : Int), sv ya, .slice B ys.length d] 61)
    rwa [World.size_alloc] at this)
  have HXX := Lib.hid hX
  obtain ⟨⟨c0, c1, c2⟩, d0, d1, d2⟩ := HQ.out.all
  rw [hX] at c0 c1 c2 d0 d1 d2
  clear hu hv hX
  by_cases h1 : xv = yv
  · subst h1
    by_cases h2 : xa = ya
    · subst h2
      by_cases h3 : xs.length = ys.length
      · have g3 : ((xs.length : Int) != (ys.length : Int)) = false := by simp; omega
        have H3 := Lib.hid h3
        clear h3
        go_enter Tryz.func32, Tryz.ntmps32
        go_wp2_with fail
        rw [← HXX.out]
        clear c0 c1 c2 d0 d1 d2
        go_loopw [5] (fun i W => ∃ k : Nat, k ≤ xs.length ∧ i = .int .i64 k ∧ (∀ j, j < k → xs.getD j pm0 = ys.getD j pm0) ∧ BQ2 w ⟨xv, xa, xs⟩ ⟨xv, xa, ys⟩ (.slice A xs.length c) (.slice B ys.length d) W) (fun i _ => xs.length - (intOf i).toNat)
        case atStart => exact ⟨0, by omega, rfl, (fun j h => absurd h (Nat.not_lt_zero j)), HQ.out⟩
        case round =>
          obtain ⟨k, hk, rfl, hup, hq⟩ := hrel
          have HUP := Lib.hid hup
          have HK := Lib.hid hq
          clear hup hq
          obtain ⟨⟨c0, c1, c2⟩, d0, d1, d2⟩ := HK.out.all
          by_cases hlt : k < xs.length
          · have hlt2 : k < ys.length := by have := H3.out; omega
            obtain ⟨n1, e1⟩ : ∃ n, n = (xs.getD k pm0).1 := ⟨_, rfl⟩
            obtain ⟨n2, e2⟩ : ∃ n, n = (xs.getD k pm0).2 := ⟨_, rfl⟩
            obtain ⟨m1, e3⟩ : ∃ n, n = (ys.getD k pm0).1 := ⟨_, rfl⟩
            obtain ⟨m2, e4⟩ : ∃ n, n = (ys.getD k pm0).2 := ⟨_, rfl⟩
            obtain ⟨g, off, rfl, hg, q0, q1⟩ := (HU.out.step HK.out.1).at hlt
            obtain ⟨g', off', rfl, hg', r0, r1⟩ := (HV.out.step HK.out.1).at hlt2
            rw [← e1] at q0
            rw [← e2] at q1
            rw [← e3] at r0
            rw [← e4] at r1
            have HE := Lib.hid (show xs.getD k pm0 = (n1, n2) ∧ ys.getD k pm0 = (m1, m2) by rw [e1, e2, e3, e4]; exact ⟨rfl, rfl⟩)
            have hk2 : (k : Int) < (xs.length : Int) := by omega
            have hk3 : (k : Int) < (ys.length : Int) := by omega
            have hk4 : (0 : Int) ≤ (k : Int) := by omega
            clear e1 e2 e3 e4
            by_cases hsame : n1 = m1 ∧ n2 = m2
            · obtain ⟨rfl, rfl⟩ := hsame
              have HUP2 := Lib.hid (show ∀ j, j < k + 1 → xs.getD j pm0 = ys.getD j pm0 by
                intro j hj
                by_cases e : j = k
                · subst e; rw [HE.out.1, HE.out.2]
                · exact HUP.out j (by omega))
              go_wp2_with fail
              go_quiet (fail)
              all_goals (try go_wp2)
              all_goals go_roundw
              all_goals first | (case rel => exact ⟨k + 1, by omega, by go_num, HUP2.out, HK.out.step (below_drewN (Below.refl _ _) _)⟩) | skip
              all_goals first | (case measure => simp [intOf]; omega) | skip
            · have HN := Lib.hid (show false = sameK ⟨xv, xa, xs⟩ ⟨xv, xa, ys⟩ by
                symm
                rw [Bool.eq_false_iff]
                intro h
                have := (sameK_iff _ _).1 h
                injection this with _ _ h3
                rw [h3] at HE
                have := HE.out.1.symm.trans HE.out.2
                injection this with i1 i2
                exact hsame ⟨i1, i2⟩)
              by_cases hnm : n1 = m1
              · subst hnm
                have hxy : ¬ n2 = m2 := fun e => hsame ⟨rfl, e⟩
                have e1 : (n2 == m2) = false := by simpa using hxy
                have e2 : (n2 != m2) = true := by simpa using hxy
                clear hsame hxy
                go_wp2_with fail
                go_quiet (fail)
                all_goals (try go_wp2)
                all_goals go_ret
                all_goals exact ⟨by rw [← HN.out]; rfl, (HK.out.step (below_drewN (Below.refl _ _) _)).1⟩
              · have e1 : (n1 == m1) = false := by simpa using hnm
                have e2 : (n1 != m1) = true := by simpa using hnm
                clear hsame hnm
                go_wp2_with fail
                go_quiet (fail)
                all_goals (try go_wp2)
                all_goals go_ret
                all_goals exact ⟨by rw [← HN.out]; rfl, (HK.out.step (below_drewN (Below.refl _ _) _)).1⟩
          · obtain rfl : k = xs.length := by omega
            have HN := Lib.hid (show true = sameK ⟨xv, xa, xs⟩ ⟨xv, xa, ys⟩ by
              symm
              rw [sameK_iff]
              rw [rowsP_eq H3.out HUP.out])
            go_wp2
            go_ret
            exact ⟨by rw [← HN.out]; rfl, HK.out.1⟩
      · have g3 : ((xs.length : Int) != (ys.length : Int)) = true := by simp; omega
        have HN := Lib.hid (show false = sameK ⟨xv, xa, xs⟩ ⟨xv, xa, ys⟩ by
          symm
          rw [Bool.eq_false_iff]
          intro h
          have := (sameK_iff _ _).1 h
          injection this with _ _ h4
          rw [h4] at h3
          exact h3 rfl)
        clear h3
        go_enter Tryz.func32, Tryz.ntmps32
        go_wp2
        go_ret
        exact ⟨by rw [← HN.out]; rfl, by rw [← HXX.out]; exact HQ.out.1⟩
    · have g2 : (xa == ya) = false := by simpa using h2
      have HN := Lib.hid (show false = sameK ⟨xv, xa, xs⟩ ⟨xv, ya, ys⟩ by
        symm
        rw [Bool.eq_false_iff]
        intro h
        have := (sameK_iff _ _).1 h
        injection this with _ h4 _
        exact h2 h4)
      clear h2
      go_enter Tryz.func32, Tryz.ntmps32
      go_wp2
      go_ret
      exact ⟨by rw [← HN.out]; rfl, by rw [← HXX.out]; exact HQ.out.1⟩
  · have g1 : ((xv : Int) != (yv : Int)) = true := by simp; omega
    have HN := Lib.hid (show false = sameK ⟨xv, xa, xs⟩ ⟨yv, ya, ys⟩ by
      symm
      rw [Bool.eq_false_iff]
      intro h
      have := (sameK_iff _ _).1 h
      injection this with h4 _ _
      exact h1 h4)
    clear h1
    go_enter Tryz.func32, Tryz.ntmps32
    go_wp2
    go_ret
    exact ⟨by rw [← HN.out]; rfl, by rw [← HXX.out]; exact HQ.out.1⟩
end Go.Proofs.YtbmjmiioobgbfaaGreatDoor

namespace Go.Proofs.YtbmjmiioobgbfaaGreatDoor
open Go Go.RowKit Go.Shelf
set_option maxRecDepth 100000
set_option linter.unusedSimpArgs false
set_option linter.unusedVariables false

theorem wpList_app {P : Program} {ops : Array Oper} {rest : List Oper} {o : Oper} {a : Act} {w w' : World} {Q : Exit → Act → World → Prop} {v v' xv : Value}
    (hg : o.guard = none) (s x : Operand) (t : TypeId) (hop : o.op = Op.call { callee := Callee.builtin Builtin.append, args := #[s, x], argTypes := #[t, t] }) (hs : a.eval s = v) (hx : a.eval x = xv)
    (hrun : (Builtin.append_ #[t, t] o.type #[v, xv]).run P w = .ok v' w') (hK : wpList P ops Q rest (a.put o.dst v') w') : wpList P ops Q (o :: rest) a w :=
  wpList_plain hg fun K hK' => by
    unfold Oper.wp execOp
    simp only [hop, resolve, invoke, builtin, Sem.run_bind, Sem.run_pure, Result.andThen_ok, List.map_toArray, List.map_cons, List.map_nil, hs, hx, hrun]
    exact hK' _ _ hK

/-! ### What Mail adds may be -/
theorem env_val : ∀ c : UInt8, evC c = true → vlC c = true := by
  intro c
  have key : ∀ n : _root_.Fin 256, evC (UInt8.ofNat n) = true → vlC (UInt8.ofNat n) = true := by decide +kernel
  have := key ⟨c.toNat, UInt8.toNat_lt c⟩
  simpa using this
theorem dig_val : ∀ c : UInt8, digC c = true → vlC c = true := by
  intro c
  have key : ∀ n : _root_.Fin 256, digC (UInt8.ofNat n) = true → vlC (UInt8.ofNat n) = true := by decide +kernel
  have := key ⟨c.toNat, UInt8.toNat_lt c⟩
  simpa using this
theorem dg_digit : ∀ d, d < 10 → digC (dg d) = true := by decide
theorem dec_digits (u : Nat) : ∀ b ∈ Lib.decDigits u, digC b = true := by
  induction u using Nat.strongRecOn with
  | ind u ih =>
    intro b hb
    rw [decHd] at hb
    rcases List.mem_append.1 hb with h | h
    · by_cases h10 : u < 10
      · rw [decHead_small h10] at h; cases h
      · unfold decHead at h
        rw [if_neg h10] at h
        exact ih (u / 10) (by omega) b h
    · obtain rfl : b = dg (u % 10) := by simpa using h
      exact dg_digit _ (Nat.mod_lt _ (by omega))
theorem itoa_val {n : Int} (h : 0 ≤ n) : vlL (Lib.itoa n) = true := by
  unfold vlL
  rw [List.all_eq_true]
  intro b hb
  unfold Lib.itoa at hb
  rw [if_neg (by omega)] at hb
  exact dig_val b (dec_digits _ b hb)
theorem envid_val {s : List UInt8} (h : envC s = true) : vlL s = true := by
  unfold vlL
  rw [List.all_eq_true]
  intro b hb
  unfold envC at h
  rw [Bool.and_eq_true] at h
  exact env_val b (List.all_eq_true.1 h.2 b hb)
theorem ps_mail (sz rt dsn : Bool) {size : Int} (req : Bool) {env : List UInt8} (h0 : 0 ≤ size) (he : envC env = true) : psL (mailPs sz rt dsn (Lib.itoa size) req env) = true := by
  have e1 : pL (wSZ, Lib.itoa size) = true := by
    have h : pnL wSZ = true := by decide
    show (pnL wSZ && vlL (Lib.itoa size)) = true
    rw [h, itoa_val h0]; rfl
  have e2 : pL (wRT, []) = true := by decide
  have e3 : pL (wEN, env) = true := by
    have h : pnL wEN = true := by decide
    show (pnL wEN && vlL env) = true
    rw [h, envid_val he]; rfl
  unfold mailPs
  generalize (rt && req) = b2
  generalize (dsn && !env.isEmpty) = b3
  cases sz <;> cases b2 <;> cases b3 <;> simp [psL, optP, e1, e2, e3] <;> decide
theorem ps_rcpt (b : Bool) : psL (optP b (wNO, wNV)) = true := by cases b <;> decide
theorem mail_may (c : Cp) (f : List UInt8) {size : Int} (req : Bool) {env : List UInt8} (h0 : 0 ≤ size) (he : envC env = true) : mayK (mailC c f size req env) = mayK ⟨3, f, []⟩ := by
  have e1 := ps_mail c.sz c.rq c.ds req h0 he
  have e2 : psL [] = true := by decide
  unfold mailC mayK
  simp only [e1, e2]
theorem rcpt_may (c : Cp) (f : List UInt8) (never : Bool) : mayK (rcptC c f never) = mayK ⟨4, f, []⟩ := by
  have e1 := ps_rcpt (c.ds && never)
  have e2 : psL [] = true := by decide
  unfold rcptC mayK
  simp only [e1, e2]

/-- What the reference's makers leave. -/
def MqPost (w : World) (r : Cm × Nat) (e : Ending) (w' : World) : Prop := ∃ u, e = .returned (.tuple #[cmV r.1 u, .int .i64 (r.2 : Int)]) ∧ Below w.heap.size w w' ∧ PR w' u r.1.ps
theorem mq_none {w W : World} {n0 : Nat} {f : Func} {p u : Tmp} {tmps : Array Value} {r : Cm × Nat} (hres : f.results = #[.cell p 61, .tmp u]) (hn : w.heap.size ≤ n0) (hr : r = (cm0, 4)) (hb : Below w.heap.size w W) (hz : W.heap[n0]? = some (.cells zC 61 (0, 0)))
    (hp : tmps.getD p undef = .pointer (some ⟨n0, 0, none⟩)) (hu : tmps.getD u undef = .int .i64 4) :
    bodyPost Tryz.prog f (MqPost w r) .ret { tmps := tmps, defers := [] } (((W.setCell ⟨n0, 0, none⟩ (.int .u8 0)).setCell ⟨n0, 1, none⟩ (sv [])).setCell ⟨n0, 2, none⟩ (.slice none 0 0)) := by
  subst hr
  have hh : (((W.setCell ⟨n0, 0, none⟩ (.int .u8 0)).setCell ⟨n0, 1, none⟩ (sv [])).setCell ⟨n0, 2, none⟩ (.slice none 0 0)).heap[n0]? = some (.cells zC 61 (0, 0)) := by
    simp [World.setCell, Array.getElem?_modify, hz]
  have hb3 := ((hb.setCell (p := ⟨n0, 0, none⟩) hn (.int .u8 0)).setCell (p := ⟨n0, 1, none⟩) hn (sv [])).setCell (p := ⟨n0, 2, none⟩) hn (.slice none 0 0)
  refine bodyPost_ret (v := .tuple #[.agg zC, .int .i64 4]) ?_ rfl ⟨.slice none 0 0, rfl, hb3, PR.nil _ _ _⟩
  rw [results_row_tmp (p := p) (u := u) (fr := (0, 0)) hres tmps _ n0 61 zC _ hp hh Tryz.underlying61 rfl (by kernel_rfl), hu]
theorem mq_made {w W : World} {n0 B : Nat} {f : Func} {p q : Tmp} {tmps : Array Value} {r : Cm × Nat} {c : Cm} {u : Value} (hres : f.results = #[.cell p 61, .tmp q]) (hn : w.heap.size ≤ n0) (hB : n0 < B) (hr : r = (c, 0)) (hb : Below w.heap.size w W) (hz : W.heap[n0]? = some (.cells zC 61 (0, 0)))
    (hpo : PO 95 B W u c.ps) (hp : tmps.getD p undef = .pointer (some ⟨n0, 0, none⟩)) (hu : tmps.getD q undef = .int .i64 0) :
    bodyPost Tryz.prog f (MqPost w r) .ret { tmps := tmps, defers := [] } (((W.setCell ⟨n0, 0, none⟩ (.int .u8 (c.verb : Int))).setCell ⟨n0, 1, none⟩ (sv c.arg)).setCell ⟨n0, 2, none⟩ u) := by
  subst hr
  have hh : (((W.setCell ⟨n0, 0, none⟩ (.int .u8 (c.verb : Int))).setCell ⟨n0, 1, none⟩ (sv c.arg)).setCell ⟨n0, 2, none⟩ u).heap[n0]? = some (.cells #[.int .u8 (c.verb : Int), sv c.arg, u] 61 (0, 0)) := by
    simp [World.setCell, Array.getElem?_modify, hz]
  have hb3 := ((hb.setCell (p := ⟨n0, 0, none⟩) hn (.int .u8 (c.verb : Int))).setCell (p := ⟨n0, 1, none⟩) hn (sv c.arg)).setCell (p := ⟨n0, 2, none⟩) hn u
  refine bodyPost_ret (v := .tuple #[cmV c u, .int .i64 0]) ?_ rfl ⟨u, rfl, hb3, (hpo.put3 hB _ _ _).pr⟩
  rw [results_row_tmp (p := p) (u := q) (fr := (0, 0)) hres tmps _ n0 61 _ _ hp hh Tryz.underlying61 rfl (by kernel_rfl), hu]

/-- The three boxes that the makers begin by: what the peer can, the answer, the command. -/
def W3 (w : World) (c : Cp) (v : Int) (f : List UInt8) : World := ((w.alloc (.cells (cpL c) 71)).alloc (.cells zC 61)).alloc (.cells #[.int .u8 v, sv f, .slice none 0 0] 61)
theorem w3_is (w : World) (c : Cp) (v : Int) (f : List UInt8) :
    XD (W3 w c v f) (w.heap.size + 3) (w.heap.size + 2) (.int .u8 v) (sv f) (.slice none 0 0) [] (W3 w c v f) ∧ (W3 w c v f).heap[w.heap.size]? = some (.cells (cpL c) 71 (0, 0)) ∧
    (W3 w c v f).heap[w.heap.size + 1]? = some (.cells zC 61 (0, 0)) ∧ Below w.heap.size w (W3 w c v f) := by
  unfold W3
  refine ⟨⟨Below.refl _ _, ⟨by omega, by simp⟩, ?_, PO.nil _ _ _⟩, ?_, ?_, ?_⟩
  · have := heap_alloc_new ((w.alloc (.cells (cpL c) 71)).alloc (.cells zC 61)) (.cells #[.int .u8 v, sv f, .slice none 0 0] 61)
    simpa using this
  · exact (Lib.alloc_old _ _ _ (by simp; omega)).trans ((Lib.alloc_old _ _ _ (by simp)).trans (heap_alloc_new w _))
  · refine (Lib.alloc_old _ _ _ (by simp)).trans ?_
    have := heap_alloc_new (w.alloc (.cells (cpL c) 71)) (.cells zC 61)
    simpa using this
  · exact (((Below.refl _ _).alloc (Nat.le_refl _) _).alloc (by simp) _).alloc (by simp; omega) _
theorem cp7R {W : World} {g : Nat} {c : Cp} (h : W.heap[g]? = some (.cells (cpL c) 71 (0, 0))) : W.cell? ⟨g, 2, none⟩ = some (.bool c.rq) ∧ W.cell? ⟨g, 3, none⟩ = some (.bool c.ds) ∧ W.cell? ⟨g, 5, none⟩ = some (.bool c.sz) :=
  ⟨by rw [cellAt h]; rfl, by rw [cellAt h]; rfl, by rw [cellAt h]; rfl⟩
/-- All that the makers' walks read, in a world behind. -/
structure QX (w : World) (c : Cp) (v : Int) (f : List UInt8) (u : Value) (ps : List PM) (W : World) : Prop where
  xd : XD (W3 w c v f) (w.heap.size + 3) (w.heap.size + 2) (.int .u8 v) (sv f) u ps W
theorem QX.all {w W : World} {c : Cp} {v : Int} {f : List UInt8} {u : Value} {ps : List PM} (h : QX w c v f u ps W) :
    (W.cell? ⟨w.heap.size, 2, none⟩ = some (.bool c.rq) ∧ W.cell? ⟨w.heap.size, 3, none⟩ = some (.bool c.ds) ∧ W.cell? ⟨w.heap.size, 5, none⟩ = some (.bool c.sz)) ∧
    (W.cell? ⟨w.heap.size + 2, 0, none⟩ = some (.int .u8 v) ∧ W.cell? ⟨w.heap.size + 2, 1, none⟩ = some (sv f) ∧ W.cell? ⟨w.heap.size + 2, 2, none⟩ = some u ∧ W.frozen? ⟨w.heap.size + 2, 2, none⟩ = false) ∧
    (w.heap.size < W.heap.size ∧ w.heap.size + 1 < W.heap.size ∧ w.heap.size + 2 < W.heap.size) := by
  obtain ⟨_, h1, h2, _⟩ := w3_is w c v f
  have hb := (h.xd.bel.block w.heap.size (by omega)).trans h1
  have hb1 := (h.xd.bel.block (w.heap.size + 1) (by omega)).trans h2
  exact ⟨cp7R hb, h.xd.m3, lt_of_blk hb, lt_of_blk hb1, lt_of_blk h.xd.mm⟩
theorem QX.res {w W : World} {c : Cp} {v : Int} {f : List UInt8} {u : Value} {ps : List PM} (h : QX w c v f u ps W) : W.heap[w.heap.size + 1]? = some (.cells zC 61 (0, 0)) :=
  (h.xd.bel.block (w.heap.size + 1) (by omega)).trans (w3_is w c v f).2.2.1
theorem QX.below {w W : World} {c : Cp} {v : Int} {f : List UInt8} {u : Value} {ps : List PM} (h : QX w c v f u ps W) : Below w.heap.size w W := (w3_is w c v f).2.2.2.trans (h.xd.bel.mono (by omega))
theorem QX.step {w W W' : World} {c : Cp} {v : Int} {f : List UInt8} {u : Value} {ps : List PM} (h : QX w c v f u ps W) (hb : Below W.heap.size W W') : QX w c v f u ps W' := ⟨h.xd.step hb⟩
theorem QX.drew {w W : World} {c : Cp} {v : Int} {f : List UInt8} {u : Value} {ps : List PM} (h : QX w c v f u ps W) : QX w c v f u ps W.drew := ⟨h.xd.drew⟩
theorem QX.start (w : World) (c : Cp) (v : Int) (f : List UInt8) : QX w c v f (.slice none 0 0) [] (W3 w c v f) := ⟨(w3_is w c v f).1⟩
theorem QX.app {w W : World} {c : Cp} {v : Int} {f : List UInt8} {u : Value} {ps : List PM} (h : QX w c v f u ps W) (n x : List UInt8) (hl : ps.length ≤ 1000000) :
    ∃ g cap w2, (Builtin.append_ #[59, 59] 59 #[u, .slice (some ⟨W.heap.size, 0, none⟩) 1 1]).run Tryz.prog (W.alloc (.cells #[sv n, sv x] 95)) = .ok (.slice (some ⟨g, 0, none⟩) (ps.length + 1) cap) w2 ∧
      w2.cell? ⟨w.heap.size + 2, 2, none⟩ = some u ∧ w2.frozen? ⟨w.heap.size + 2, 2, none⟩ = false ∧ w.heap.size + 2 < w2.heap.size ∧
      QX w c v f (.slice (some ⟨g, 0, none⟩) (ps.length + 1) cap) (ps ++ [(n, x)]) (w2.setCell ⟨w.heap.size + 2, 2, none⟩ (.slice (some ⟨g, 0, none⟩) (ps.length + 1) cap)) := by
  obtain ⟨g, cap, w2, h1, h2, h3, h4, h5⟩ := h.xd.app n x hl
  exact ⟨g, cap, w2, h1, h2, h3, h4, ⟨h5⟩⟩

theorem set_alloc (W : World) (p : Addr) (v : Value) (o : Obj) (h : p.block < W.heap.size) : (W.setCell p v).alloc o = (W.alloc o).setCell p v := by
  have e : ∀ f : Obj → Obj, (W.heap.modify p.block f).push o = (W.heap.push o).modify p.block f := fun f => by
    apply Array.ext
    · simp
    · intro i h1 h2
      simp only [Array.getElem_push, Array.getElem_modify, Array.size_modify]
      by_cases e1 : i < W.heap.size
      · simp [e1]
      · have : p.block ≠ i := by omega
        simp [e1, this]
  unfold World.setCell World.alloc
  rw [e]
theorem QX.lit {w W : World} {c : Cp} {v : Int} {f : List UInt8} (h : QX w c v f (.slice none 0 0) [] W) (n x : List UInt8) :
    QX w c v f (.slice (some ⟨W.heap.size, 0, none⟩) 1 1) [(n, x)] ((W.alloc (.cells #[sv n, sv x] 95)).setCell ⟨w.heap.size + 2, 2, none⟩ (.slice (some ⟨W.heap.size, 0, none⟩) 1 1)) := by
  obtain ⟨h1, h2, h3, h4⟩ := h.xd
  have hm := lt_of_blk h3
  have hnew : (W.alloc (.cells #[sv n, sv x] 95)).heap[W.heap.size]? = some (.cells #[sv n, sv x] 95 (0, 0)) := heap_alloc_new _ _
  refine ⟨⟨(h1.alloc (by omega) _).setCell (p := ⟨w.heap.size + 2, 2, none⟩) (Nat.le_refl _) _, ⟨h2.1, by simp [World.setCell]; omega⟩, ?_, ?_⟩⟩
  · have : (W.alloc (.cells #[sv n, sv x] 95)).heap[w.heap.size + 2]? = some (.cells #[.int .u8 v, sv f, .slice none 0 0] 61 (0, 0)) := (Lib.alloc_old _ _ _ hm).trans h3
    simp [World.setCell, Array.getElem?_modify, this]
  · have hp : PO 95 (w.heap.size + 3) (W.alloc (.cells #[sv n, sv x] 95)) (.slice (some ⟨W.heap.size, 0, none⟩) 1 1) [(n, x)] :=
      ⟨by simp [flatP], .inr ⟨W.heap.size, 1, #[sv n, sv x], rfl, h2.2, hnew, Nat.le_refl _, by decide, rfl, by simp [flatP]⟩⟩
    exact hp.set (b := w.heap.size + 2) (i := 2) (fun g e => by simp [Value.ownBlock] at e; omega) _

set_option maxHeartbeats 8000000 in
theorem rrcptK_any (c : Cp) (tq : List UInt8) (never : Bool) (w : World) (ht : tq.length ≤ 1000000) :
    Calls Tryz.prog 35 #[sv tq, .agg (cpL c), .bool never] w (MqPost w (rcptK c tq never)) := by
  have HQ := Lib.hid (QX.start w c 4 tq)
  have hM := rmayK_any ⟨4, tq, []⟩ (.slice none 0 0) (W3 w c 4 tq) (PR.nil _ _ _) (by show 4 < 256; omega) ht (by simp) (by simp)
  obtain ⟨m, hm⟩ : ∃ m, mayK ⟨4, tq, []⟩ = m := ⟨_, rfl⟩
  rw [hm] at hM
  have HMM := Lib.hid hM
  obtain ⟨b, hb⟩ : ∃ b, (c.ds && never) = b := ⟨_, rfl⟩
  have HR := Lib.hid (show rcptK c tq never = if m then (⟨4, tq, optP b (wNO, wNV)⟩, 0) else (cm0, 4) by
    unfold rcptK
    rw [rcpt_may, hm, ← hb]; rfl)
  clear hM hm
  go_enter Tryz.func35, Tryz.ntmps35
  go_wp2_with fail
  change Calls _ _ _ (W3 w c 4 tq) _
  refine HMM.out.mono ?_
  rintro e w1 ⟨rfl, hb1⟩
  have HQ1 := Lib.hid (HQ.out.step hb1)
  obtain ⟨⟨c1, c2, c3⟩, ⟨m0, m1, m2, m3⟩, l0, l1, l2⟩ := HQ1.out.all
  obtain ⟨r0, r1, r2, r3, r4, r5⟩ := z3R HQ1.out.res
  clear hb1 HMM
  cases m with
  | false =>
    go_wp2_with fail
    exact mq_none Tryz.results35 (Nat.le_succ _) (by rw [HR.out]; rfl) HQ1.out.below HQ1.out.res rfl rfl
  | true =>
    obtain ⟨d, hd⟩ : ∃ d, d = c.ds := ⟨_, rfl⟩
    rw [← hd] at hb c2
    have HBB := Lib.hid hb
    clear hd hb
    cases d
    · have e := HBB.out
      simp only [Bool.false_and] at e
      subst e
      go_wp2_with fail
      exact mq_made Tryz.results35 (Nat.le_succ _) (show w.heap.size + 1 < w.heap.size + 3 by omega) (by rw [HR.out]; rfl) HQ1.out.below HQ1.out.res (c := ⟨4, tq, []⟩) HQ1.out.xd.own rfl rfl
    · cases never
      · have e := HBB.out
        simp only [Bool.and_false] at e
        subst e
        go_wp2_with fail
        exact mq_made Tryz.results35 (Nat.le_succ _) (show w.heap.size + 1 < w.heap.size + 3 by omega) (by rw [HR.out]; rfl) HQ1.out.below HQ1.out.res (c := ⟨4, tq, []⟩) HQ1.out.xd.own rfl rfl
      · have e := HBB.out
        simp only [Bool.and_true] at e
        subst e
        go_wp2_with fail
        rw [show w.heap.size + 1 + 1 = w.heap.size + 2 from rfl]
        obtain ⟨o, ho⟩ : ∃ o, o = (Obj.cells #[sv wNO, sv wNV] 95) := ⟨_, rfl⟩
        have hQ := HQ1.out.lit wNO wNV
        change bodyPost _ _ _ _ _ (((((w1.setCell ⟨w.heap.size + 2, 2, none⟩ (.slice (some ⟨w1.heap.size, 0, none⟩) 1 1)).setCell ⟨w.heap.size + 1, 0, none⟩ (.int .u8 4)).setCell ⟨w.heap.size + 1, 1, none⟩ (sv tq)).setCell ⟨w.heap.size + 1, 2, none⟩ (.slice (some ⟨w1.heap.size, 0, none⟩) 1 1)).alloc (.cells #[sv wNO, sv wNV] 95))
        rw [set_alloc _ _ _ _ (by simp [World.setCell]; omega), set_alloc _ _ _ _ (by simp [World.setCell]; omega), set_alloc _ _ _ _ (by simp [World.setCell]; omega), set_alloc _ _ _ _ (by simpa using l2)]
        exact mq_made Tryz.results35 (Nat.le_succ _) (show w.heap.size + 1 < w.heap.size + 3 by omega) (by rw [HR.out]; rfl) hQ.below hQ.res (c := ⟨4, tq, [(wNO, wNV)]⟩) hQ.xd.own rfl rfl
end Go.Proofs.YtbmjmiioobgbfaaGreatDoor

namespace Go.Proofs.YtbmjmiioobgbfaaGreatDoor
open Go Go.RowKit Go.Shelf
set_option maxRecDepth 100000
set_option linter.unusedSimpArgs false
set_option linter.unusedVariables false

theorem mailK_not (c : Cp) (f : List UInt8) (size : Int) (req : Bool) (env : List UInt8) (h : size < 0 ∨ envC env = false ∨ mayK ⟨3, f, []⟩ = false) : mailK c f size req env = (cm0, 4) := by
  unfold mailK
  by_cases hs : size < 0
  · rw [if_pos hs]
  · rw [if_neg hs]
    by_cases he : envC env = true
    · rw [mail_may c f req (by omega) he]
      rcases h with h | h | h
      · exact absurd h hs
      · rw [he] at h; cases h
      · rw [h]; simp
    · have : envC env = false := by simpa using he
      rw [this]; rfl
theorem mailK_ok (c : Cp) (f : List UInt8) (size : Int) (req : Bool) (env : List UInt8) (h0 : 0 ≤ size) (he : envC env = true) (hm : mayK ⟨3, f, []⟩ = true) : mailK c f size req env = (mailC c f size req env, 0) := by
  unfold mailK
  rw [if_neg (by omega), he, mail_may c f req h0 he, hm]; rfl

theorem mq_none0 {w W : World} {n0 : Nat} {f : Func} {p u : Tmp} {tmps : Array Value} {r : Cm × Nat} (hres : f.results = #[.cell p 61, .tmp u]) (hr : r = (cm0, 4)) (hb : Below w.heap.size w W) (hz : W.heap[n0]? = some (.cells zC 61 (0, 0)))
    (hp : tmps.getD p undef = .pointer (some ⟨n0, 0, none⟩)) (hu : tmps.getD u undef = .int .i64 4) :
    bodyPost Tryz.prog f (MqPost w r) .ret { tmps := tmps, defers := [] } W := by
  subst hr
  refine bodyPost_ret (v := .tuple #[.agg zC, .int .i64 4]) ?_ rfl ⟨.slice none 0 0, rfl, hb, PR.nil _ _ _⟩
  rw [results_row_tmp (p := p) (u := u) (fr := (0, 0)) hres tmps _ n0 61 zC _ hp hz Tryz.underlying61 rfl (by kernel_rfl), hu]
theorem QX.put {w W : World} {c : Cp} {v : Int} {f : List UInt8} {u : Value} {ps : List PM} (h : QX w c v f u ps W) (n x : List UInt8) (L : Nat) (ps' : List PM) (hl : ps.length ≤ 1000000) (hL : L = ps.length + 1) (hp : ps' = ps ++ [(n, x)]) :
    ∃ g cap w2, (Builtin.append_ #[59, 59] 59 #[u, .slice (some ⟨W.heap.size, 0, none⟩) 1 1]).run Tryz.prog (W.alloc (.cells #[sv n, sv x] 95)) = .ok (.slice (some ⟨g, 0, none⟩) L cap) w2 ∧
      w2.cell? ⟨w.heap.size + 2, 2, none⟩ = some u ∧ w2.frozen? ⟨w.heap.size + 2, 2, none⟩ = false ∧ w.heap.size + 2 < w2.heap.size ∧
      QX w c v f (.slice (some ⟨g, 0, none⟩) L cap) ps' (w2.setCell ⟨w.heap.size + 2, 2, none⟩ (.slice (some ⟨g, 0, none⟩) L cap)) := by
  subst hL hp
  exact h.app n x hl

set_option maxHeartbeats 64000000 in
theorem rmailK_any (c : Cp) (f : List UInt8) (size : Int) (req : Bool) (env : List UInt8) (w : World) (hf : f.length ≤ 1000000) (he : env.length ≤ 1000000) (h0 : -9223372036854775808 ≤ size) (h1 : size ≤ 9223372036854775807) :
    Calls Tryz.prog 34 #[sv f, .agg (cpL c), .int .i64 size, .bool req, sv env] w (MqPost w (mailK c f size req env)) := by
  have HQ := Lib.hid (QX.start w c 3 f)
  by_cases hs : size < 0
  · have HR := Lib.hid (mailK_not c f size req env (.inl hs))
    obtain ⟨⟨c1, c2, c3⟩, ⟨m0, m1, m2, m3⟩, l0, l1, l2⟩ := HQ.out.all
    obtain ⟨r0, r1, r2, r3, r4, r5⟩ := z3R HQ.out.res
    unfold W3 at c1 c2 c3 m0 m1 m2 m3 l0 l1 l2 r0 r1 r2 r3 r4 r5
    go_enter Tryz.func34, Tryz.ntmps34
    go_wp2_with fail
    rw [HR.out]
    exact mq_none0 (W := W3 w c 3 f) Tryz.results34 rfl HQ.out.below HQ.out.res rfl rfl
  · have hs' : ¬ size < 0 := hs
    have HE := Lib.hid (renvK_any env (W3 w c 3 f) he)
    have hM := rmayK_any ⟨3, f, []⟩ (.slice none 0 0) (W3 w c 3 f) (PR.nil _ _ _) (by show 3 < 256; omega) hf (by simp) (by simp)
    obtain ⟨b, hb⟩ : ∃ b, envC env = b := ⟨_, rfl⟩
    obtain ⟨m, hm⟩ : ∃ m, mayK ⟨3, f, []⟩ = m := ⟨_, rfl⟩
    rw [hb] at HE
    rw [hm] at hM
    have HMM := Lib.hid hM
    have HBM := Lib.hid (And.intro hb hm)
    obtain ⟨⟨c1, c2, c3⟩, ⟨m0, m1, m2, m3⟩, l0, l1, l2⟩ := HQ.out.all
    obtain ⟨r0, r1, r2, r3, r4, r5⟩ := z3R HQ.out.res
    have HW3 := Lib.hid (show W3 w c 3 f = ((w.alloc (.cells (cpL c) 71)).alloc (.cells zC 61)).alloc (.cells #[.int .u8 3, sv f, .slice none 0 0] 61) from rfl)
    clear hb hm hM hs
    go_enter Tryz.func34, Tryz.ntmps34
    go_wp2_with fail
    change Calls _ _ _ (W3 w c 3 f) _
    refine HE.out.mono ?_
    rintro e w1 ⟨rfl, rfl⟩
    cases b with
    | false =>
      have HR := Lib.hid (mailK_not c f size req env (.inr (.inl HBM.out.1)))
      go_wp2_with fail
      rw [HR.out]
      exact mq_none Tryz.results34 (Nat.le_succ _) rfl HQ.out.below HQ.out.res rfl rfl
    | true =>
    go_wp2_with fail
    refine HMM.out.mono ?_
    rintro e w1 ⟨rfl, hb1⟩
    have HQ1 := Lib.hid (HQ.out.step hb1)
    clear hb1 c1 c2 c3 m0 m1 m2 m3 l0 l1 l2 r0 r1 r2 r3 r4 r5 HMM
    cases m with
    | false =>
      have HR := Lib.hid (mailK_not c f size req env (.inr (.inr HBM.out.2)))
      obtain ⟨r0, r1, r2, r3, r4, r5⟩ := z3R HQ1.out.res
      obtain ⟨_, _, l0, l1, l2⟩ := HQ1.out.all
      go_wp2_with fail
      rw [HR.out]
      exact mq_none Tryz.results34 (Nat.le_succ _) rfl HQ1.out.below HQ1.out.res rfl rfl
    | true =>
      have HR := Lib.hid (mailK_ok c f size req env (by omega) HBM.out.1 HBM.out.2)
      have HC := Lib.hid (show mailC c f size req env = ⟨3, f, mailPs c.sz c.rq c.ds (Lib.itoa size) req env⟩ from rfl)
      have HSH := Lib.hid (fun W => rshow_any size W h0 h1)
      obtain ⟨num, hnum⟩ : ∃ n, n = Lib.itoa size := ⟨_, rfl⟩
      rw [← hnum] at HC HSH
      clear hnum HQ HE HBM HW3
      obtain ⟨cst, cpi, crq, cds, ceb, csz, cmo⟩ := c
      dsimp only at HC
      obtain ⟨en, hen⟩ : ∃ b, env.isEmpty = b := ⟨_, rfl⟩
      have HNE := Lib.hid hen
      cases csz
      · cases crq
        · cases cds
          · skip
            obtain ⟨⟨c1, c2, c3⟩, ⟨m0, m1, m2, m3⟩, l0, l1, l2⟩ := HQ1.out.all
            obtain ⟨r0, r1, r2, r3, r4, r5⟩ := z3R HQ1.out.res
            go_wp2_with fail
            try rw [show w.heap.size + 1 + 1 = w.heap.size + 2 from rfl]
            exact mq_made Tryz.results34 (Nat.le_succ _) (show w.heap.size + 1 < w.heap.size + 3 by omega) (by rw [HR.out, HC.out]; first | rfl | simp [mailPs, optP, HNE.out]) HQ1.out.below HQ1.out.res (c := ⟨3, f, []⟩) HQ1.out.xd.own rfl rfl
          · cases en
            · skip
              obtain ⟨g6, cap6, w6, hrun6, y0, y1, y2, hfin6⟩ := HQ1.out.put wEN env 1 [(wEN, env)] (by simp) rfl rfl
              have HRUN := Lib.hid hrun6
              have HQ6 := Lib.hid hfin6
              clear hrun6 hfin6
              obtain ⟨⟨c1, c2, c3⟩, ⟨m0, m1, m2, m3⟩, l0, l1, l2⟩ := HQ1.out.all
              go_upto_region 10 with (at_builtin; refine wpList_app rfl (.tmp 56) (.tmp 59) 59 rfl rfl rfl HRUN.out ?_)
              rw [show w.heap.size + 1 + 1 = w.heap.size + 2 from rfl]
              obtain ⟨X6, hX6⟩ : ∃ X1, X1 = w6.setCell ⟨w.heap.size + 2, 2, none⟩ (.slice (some ⟨g6, 0, none⟩) 1 cap6) := ⟨_, rfl⟩
              rw [← hX6] at HQ6 ⊢
              clear hX6 y0 y1 y2 HRUN c1 c2 c3 m0 m1 m2 m3 l0 l1 l2
              obtain ⟨⟨c1, c2, c3⟩, ⟨m0, m1, m2, m3⟩, l0, l1, l2⟩ := HQ6.out.all
              obtain ⟨r0, r1, r2, r3, r4, r5⟩ := z3R HQ6.out.res
              go_wp2_with fail
              try rw [show w.heap.size + 1 + 1 = w.heap.size + 2 from rfl]
              exact mq_made Tryz.results34 (Nat.le_succ _) (show w.heap.size + 1 < w.heap.size + 3 by omega) (by rw [HR.out, HC.out]; first | rfl | simp [mailPs, optP, HNE.out]) HQ6.out.below HQ6.out.res (c := ⟨3, f, [(wEN, env)]⟩) HQ6.out.xd.own rfl rfl
            · skip
              obtain ⟨⟨c1, c2, c3⟩, ⟨m0, m1, m2, m3⟩, l0, l1, l2⟩ := HQ1.out.all
              obtain ⟨r0, r1, r2, r3, r4, r5⟩ := z3R HQ1.out.res
              go_wp2_with fail
              try rw [show w.heap.size + 1 + 1 = w.heap.size + 2 from rfl]
              exact mq_made Tryz.results34 (Nat.le_succ _) (show w.heap.size + 1 < w.heap.size + 3 by omega) (by rw [HR.out, HC.out]; first | rfl | simp [mailPs, optP, HNE.out]) HQ1.out.below HQ1.out.res (c := ⟨3, f, []⟩) HQ1.out.xd.own rfl rfl
        · cases req
          · cases cds
            · skip
              obtain ⟨⟨c1, c2, c3⟩, ⟨m0, m1, m2, m3⟩, l0, l1, l2⟩ := HQ1.out.all
              obtain ⟨r0, r1, r2, r3, r4, r5⟩ := z3R HQ1.out.res
              go_wp2_with fail
              try rw [show w.heap.size + 1 + 1 = w.heap.size + 2 from rfl]
              exact mq_made Tryz.results34 (Nat.le_succ _) (show w.heap.size + 1 < w.heap.size + 3 by omega) (by rw [HR.out, HC.out]; first | rfl | simp [mailPs, optP, HNE.out]) HQ1.out.below HQ1.out.res (c := ⟨3, f, []⟩) HQ1.out.xd.own rfl rfl
            · cases en
              · skip
                obtain ⟨g6, cap6, w6, hrun6, y0, y1, y2, hfin6⟩ := HQ1.out.put wEN env 1 [(wEN, env)] (by simp) rfl rfl
                have HRUN := Lib.hid hrun6
                have HQ6 := Lib.hid hfin6
                clear hrun6 hfin6
                obtain ⟨⟨c1, c2, c3⟩, ⟨m0, m1, m2, m3⟩, l0, l1, l2⟩ := HQ1.out.all
                go_upto_region 10 with (at_builtin; refine wpList_app rfl (.tmp 56) (.tmp 59) 59 rfl rfl rfl HRUN.out ?_)
                rw [show w.heap.size + 1 + 1 = w.heap.size + 2 from rfl]
                obtain ⟨X6, hX6⟩ : ∃ X1, X1 = w6.setCell ⟨w.heap.size + 2, 2, none⟩ (.slice (some ⟨g6, 0, none⟩) 1 cap6) := ⟨_, rfl⟩
                rw [← hX6] at HQ6 ⊢
                clear hX6 y0 y1 y2 HRUN c1 c2 c3 m0 m1 m2 m3 l0 l1 l2
                obtain ⟨⟨c1, c2, c3⟩, ⟨m0, m1, m2, m3⟩, l0, l1, l2⟩ := HQ6.out.all
                obtain ⟨r0, r1, r2, r3, r4, r5⟩ := z3R HQ6.out.res
                go_wp2_with fail
                try rw [show w.heap.size + 1 + 1 = w.heap.size + 2 from rfl]
                exact mq_made Tryz.results34 (Nat.le_succ _) (show w.heap.size + 1 < w.heap.size + 3 by omega) (by rw [HR.out, HC.out]; first | rfl | simp [mailPs, optP, HNE.out]) HQ6.out.below HQ6.out.res (c := ⟨3, f, [(wEN, env)]⟩) HQ6.out.xd.own rfl rfl
              · skip
                obtain ⟨⟨c1, c2, c3⟩, ⟨m0, m1, m2, m3⟩, l0, l1, l2⟩ := HQ1.out.all
                obtain ⟨r0, r1, r2, r3, r4, r5⟩ := z3R HQ1.out.res
                go_wp2_with fail
                try rw [show w.heap.size + 1 + 1 = w.heap.size + 2 from rfl]
                exact mq_made Tryz.results34 (Nat.le_succ _) (show w.heap.size + 1 < w.heap.size + 3 by omega) (by rw [HR.out, HC.out]; first | rfl | simp [mailPs, optP, HNE.out]) HQ1.out.below HQ1.out.res (c := ⟨3, f, []⟩) HQ1.out.xd.own rfl rfl
          · cases cds
            · skip
              obtain ⟨g5, cap5, w5, hrun5, y0, y1, y2, hfin5⟩ := HQ1.out.put wRT [] 1 [(wRT, [])] (by simp) rfl rfl
              have HRUN := Lib.hid hrun5
              have HQ5 := Lib.hid hfin5
              clear hrun5 hfin5
              obtain ⟨⟨c1, c2, c3⟩, ⟨m0, m1, m2, m3⟩, l0, l1, l2⟩ := HQ1.out.all
              go_upto_region 8 with (at_builtin; refine wpList_app rfl (.tmp 44) (.tmp 46) 59 rfl rfl rfl HRUN.out ?_)
              rw [show w.heap.size + 1 + 1 = w.heap.size + 2 from rfl]
              obtain ⟨X5, hX5⟩ : ∃ X1, X1 = w5.setCell ⟨w.heap.size + 2, 2, none⟩ (.slice (some ⟨g5, 0, none⟩) 1 cap5) := ⟨_, rfl⟩
              rw [← hX5] at HQ5 ⊢
              clear hX5 y0 y1 y2 HRUN c1 c2 c3 m0 m1 m2 m3 l0 l1 l2
              obtain ⟨⟨c1, c2, c3⟩, ⟨m0, m1, m2, m3⟩, l0, l1, l2⟩ := HQ5.out.all
              obtain ⟨r0, r1, r2, r3, r4, r5⟩ := z3R HQ5.out.res
              go_wp2_with fail
              try rw [show w.heap.size + 1 + 1 = w.heap.size + 2 from rfl]
              exact mq_made Tryz.results34 (Nat.le_succ _) (show w.heap.size + 1 < w.heap.size + 3 by omega) (by rw [HR.out, HC.out]; first | rfl | simp [mailPs, optP, HNE.out]) HQ5.out.below HQ5.out.res (c := ⟨3, f, [(wRT, [])]⟩) HQ5.out.xd.own rfl rfl
            · cases en
              · skip
                obtain ⟨g5, cap5, w5, hrun5, y0, y1, y2, hfin5⟩ := HQ1.out.put wRT [] 1 [(wRT, [])] (by simp) rfl rfl
                have HRUN := Lib.hid hrun5
                have HQ5 := Lib.hid hfin5
                clear hrun5 hfin5
                obtain ⟨⟨c1, c2, c3⟩, ⟨m0, m1, m2, m3⟩, l0, l1, l2⟩ := HQ1.out.all
                go_upto_region 8 with (at_builtin; refine wpList_app rfl (.tmp 44) (.tmp 46) 59 rfl rfl rfl HRUN.out ?_)
                rw [show w.heap.size + 1 + 1 = w.heap.size + 2 from rfl]
                obtain ⟨X5, hX5⟩ : ∃ X1, X1 = w5.setCell ⟨w.heap.size + 2, 2, none⟩ (.slice (some ⟨g5, 0, none⟩) 1 cap5) := ⟨_, rfl⟩
                rw [← hX5] at HQ5 ⊢
                clear hX5 y0 y1 y2 HRUN c1 c2 c3 m0 m1 m2 m3 l0 l1 l2
                obtain ⟨g6, cap6, w6, hrun6, y0, y1, y2, hfin6⟩ := HQ5.out.put wEN env 2 [(wRT, []), (wEN, env)] (by simp) rfl rfl
                have HRUN := Lib.hid hrun6
                have HQ6 := Lib.hid hfin6
                clear hrun6 hfin6
                obtain ⟨⟨c1, c2, c3⟩, ⟨m0, m1, m2, m3⟩, l0, l1, l2⟩ := HQ5.out.all
                go_upto_region 10 with (at_builtin; refine wpList_app rfl (.tmp 56) (.tmp 59) 59 rfl rfl rfl HRUN.out ?_)
                rw [show w.heap.size + 1 + 1 = w.heap.size + 2 from rfl]
                obtain ⟨X6, hX6⟩ : ∃ X1, X1 = w6.setCell ⟨w.heap.size + 2, 2, none⟩ (.slice (some ⟨g6, 0, none⟩) 2 cap6) := ⟨_, rfl⟩
                rw [← hX6] at HQ6 ⊢
                clear hX6 y0 y1 y2 HRUN c1 c2 c3 m0 m1 m2 m3 l0 l1 l2
                obtain ⟨⟨c1, c2, c3⟩, ⟨m0, m1, m2, m3⟩, l0, l1, l2⟩ := HQ6.out.all
                obtain ⟨r0, r1, r2, r3, r4, r5⟩ := z3R HQ6.out.res
                go_wp2_with fail
                try rw [show w.heap.size + 1 + 1 = w.heap.size + 2 from rfl]
                exact mq_made Tryz.results34 (Nat.le_succ _) (show w.heap.size + 1 < w.heap.size + 3 by omega) (by rw [HR.out, HC.out]; first | rfl | simp [mailPs, optP, HNE.out]) HQ6.out.below HQ6.out.res (c := ⟨3, f, [(wRT, []), (wEN, env)]⟩) HQ6.out.xd.own rfl rfl
              · skip
                obtain ⟨g5, cap5, w5, hrun5, y0, y1, y2, hfin5⟩ := HQ1.out.put wRT [] 1 [(wRT, [])] (by simp) rfl rfl
                have HRUN := Lib.hid hrun5
                have HQ5 := Lib.hid hfin5
                clear hrun5 hfin5
                obtain ⟨⟨c1, c2, c3⟩, ⟨m0, m1, m2, m3⟩, l0, l1, l2⟩ := HQ1.out.all
                go_upto_region 8 with (at_builtin; refine wpList_app rfl (.tmp 44) (.tmp 46) 59 rfl rfl rfl HRUN.out ?_)
                rw [show w.heap.size + 1 + 1 = w.heap.size + 2 from rfl]
                obtain ⟨X5, hX5⟩ : ∃ X1, X1 = w5.setCell ⟨w.heap.size + 2, 2, none⟩ (.slice (some ⟨g5, 0, none⟩) 1 cap5) := ⟨_, rfl⟩
                rw [← hX5] at HQ5 ⊢
                clear hX5 y0 y1 y2 HRUN c1 c2 c3 m0 m1 m2 m3 l0 l1 l2
                obtain ⟨⟨c1, c2, c3⟩, ⟨m0, m1, m2, m3⟩, l0, l1, l2⟩ := HQ5.out.all
                obtain ⟨r0, r1, r2, r3, r4, r5⟩ := z3R HQ5.out.res
                go_wp2_with fail
                try rw [show w.heap.size + 1 + 1 = w.heap.size + 2 from rfl]
                exact mq_made Tryz.results34 (Nat.le_succ _) (show w.heap.size + 1 < w.heap.size + 3 by omega) (by rw [HR.out, HC.out]; first | rfl | simp [mailPs, optP, HNE.out]) HQ5.out.below HQ5.out.res (c := ⟨3, f, [(wRT, [])]⟩) HQ5.out.xd.own rfl rfl
      · cases crq
        · cases cds
          · skip
            have h0X := HQ1.out
            have HAP := Lib.hid (fun W (h : QX w ⟨cst, cpi, false, false, ceb, true, cmo⟩ 3 f (.slice none 0 0) [] W) => h.put wSZ num 1 [(wSZ, num)] (by simp) rfl rfl)
            have HSQ := Lib.hid (fun W (h : QX w ⟨cst, cpi, false, false, ceb, true, cmo⟩ 3 f (.slice none 0 0) [] W) => (HSH.out W).mono (R' := fun e W' => e = .returned (.string (str num)) ∧ QX w ⟨cst, cpi, false, false, ceb, true, cmo⟩ 3 f (.slice none 0 0) [] W') fun _ _ ⟨e1, e2⟩ => ⟨e1, h.step e2⟩)
            obtain ⟨⟨c1, c2, c3⟩, ⟨m0, m1, m2, m3⟩, l0, l1, l2⟩ := h0X.all
            go_wp2_with fail
            go_region_law (first
              | (go_simp; go_at_call 69; with_reducible refine (HSQ.out _ (by first | exact h0X | exact QX.drew h0X)).mono ?_; rintro e1 w8 ⟨rfl, hR⟩; obtain ⟨⟨d1, d2, d3⟩, ⟨n0, n1, n2, n3⟩, k0, k1, k2⟩ := hR.all; obtain ⟨g, cap, w9, hrun, y0, y1, y2, hfin⟩ := HAP.out _ hR; have HRUN := Lib.hid hrun; have HQ2 := Lib.hid hfin; clear hrun hfin hR)
              | (refine step_app rfl (.tmp 31) (.tmp 35) 59 rfl rfl rfl HRUN.out ?_))
            all_goals
              rw [show w.heap.size + 1 + 1 = w.heap.size + 2 from rfl]
              obtain ⟨X1, hX1⟩ : ∃ X1, X1 = w9.setCell ⟨w.heap.size + 2, 2, none⟩ (.slice (some ⟨g, 0, none⟩) 1 cap) := ⟨_, rfl⟩
              rw [← hX1] at HQ2
              try rw [← hX1]
              clear hX1 y0 y1 y2 d1 d2 d3 n0 n1 n2 n3 k0 k1 k2 HRUN h0X c1 c2 c3 m0 m1 m2 m3 l0 l1 l2
              obtain ⟨⟨c1, c2, c3⟩, ⟨m0, m1, m2, m3⟩, l0, l1, l2⟩ := HQ2.out.all
              obtain ⟨r0, r1, r2, r3, r4, r5⟩ := z3R HQ2.out.res
              go_wp2_with fail
              try rw [show w.heap.size + 1 + 1 = w.heap.size + 2 from rfl]
              exact mq_made Tryz.results34 (Nat.le_succ _) (show w.heap.size + 1 < w.heap.size + 3 by omega) (by rw [HR.out, HC.out]; first | rfl | simp [mailPs, optP, HNE.out]) HQ2.out.below HQ2.out.res (c := ⟨3, f, [(wSZ, num)]⟩) HQ2.out.xd.own rfl rfl
          · cases en
            · skip
              have h0X := HQ1.out
              have HAP := Lib.hid (fun W (h : QX w ⟨cst, cpi, false, true, ceb, true, cmo⟩ 3 f (.slice none 0 0) [] W) => h.put wSZ num 1 [(wSZ, num)] (by simp) rfl rfl)
              have HSQ := Lib.hid (fun W (h : QX w ⟨cst, cpi, false, true, ceb, true, cmo⟩ 3 f (.slice none 0 0) [] W) => (HSH.out W).mono (R' := fun e W' => e = .returned (.string (str num)) ∧ QX w ⟨cst, cpi, false, true, ceb, true, cmo⟩ 3 f (.slice none 0 0) [] W') fun _ _ ⟨e1, e2⟩ => ⟨e1, h.step e2⟩)
              obtain ⟨⟨c1, c2, c3⟩, ⟨m0, m1, m2, m3⟩, l0, l1, l2⟩ := h0X.all
              go_wp2_with fail
              go_region_law (first
                | (go_simp; go_at_call 69; with_reducible refine (HSQ.out _ (by first | exact h0X | exact QX.drew h0X)).mono ?_; rintro e1 w8 ⟨rfl, hR⟩; obtain ⟨⟨d1, d2, d3⟩, ⟨n0, n1, n2, n3⟩, k0, k1, k2⟩ := hR.all; obtain ⟨g, cap, w9, hrun, y0, y1, y2, hfin⟩ := HAP.out _ hR; have HRUN := Lib.hid hrun; have HQ2 := Lib.hid hfin; clear hrun hfin hR)
                | (refine step_app rfl (.tmp 31) (.tmp 35) 59 rfl rfl rfl HRUN.out ?_))
              all_goals
                rw [show w.heap.size + 1 + 1 = w.heap.size + 2 from rfl]
                obtain ⟨X1, hX1⟩ : ∃ X1, X1 = w9.setCell ⟨w.heap.size + 2, 2, none⟩ (.slice (some ⟨g, 0, none⟩) 1 cap) := ⟨_, rfl⟩
                rw [← hX1] at HQ2
                try rw [← hX1]
                clear hX1 y0 y1 y2 d1 d2 d3 n0 n1 n2 n3 k0 k1 k2 HRUN h0X c1 c2 c3 m0 m1 m2 m3 l0 l1 l2
                obtain ⟨g6, cap6, w6, hrun6, y0, y1, y2, hfin6⟩ := HQ2.out.put wEN env 2 [(wSZ, num), (wEN, env)] (by simp) rfl rfl
                have HRUN := Lib.hid hrun6
                have HQ6 := Lib.hid hfin6
                clear hrun6 hfin6
                obtain ⟨⟨c1, c2, c3⟩, ⟨m0, m1, m2, m3⟩, l0, l1, l2⟩ := HQ2.out.all
                go_upto_region 10 with (at_builtin; refine wpList_app rfl (.tmp 56) (.tmp 59) 59 rfl rfl rfl HRUN.out ?_)
                rw [show w.heap.size + 1 + 1 = w.heap.size + 2 from rfl]
                obtain ⟨X6, hX6⟩ : ∃ X1, X1 = w6.setCell ⟨w.heap.size + 2, 2, none⟩ (.slice (some ⟨g6, 0, none⟩) 2 cap6) := ⟨_, rfl⟩
                rw [← hX6] at HQ6 ⊢
                clear hX6 y0 y1 y2 HRUN c1 c2 c3 m0 m1 m2 m3 l0 l1 l2
                obtain ⟨⟨c1, c2, c3⟩, ⟨m0, m1, m2, m3⟩, l0, l1, l2⟩ := HQ6.out.all
                obtain ⟨r0, r1, r2, r3, r4, r5⟩ := z3R HQ6.out.res
                go_wp2_with fail
                try rw [show w.heap.size + 1 + 1 = w.heap.size + 2 from rfl]
                exact mq_made Tryz.results34 (Nat.le_succ _) (show w.heap.size + 1 < w.heap.size + 3 by omega) (by rw [HR.out, HC.out]; first | rfl | simp [mailPs, optP, HNE.out]) HQ6.out.below HQ6.out.res (c := ⟨3, f, [(wSZ, num), (wEN, env)]⟩) HQ6.out.xd.own rfl rfl
            · skip
              have h0X := HQ1.out
              have HAP := Lib.hid (fun W (h : QX w ⟨cst, cpi, false, true, ceb, true, cmo⟩ 3 f (.slice none 0 0) [] W) => h.put wSZ num 1 [(wSZ, num)] (by simp) rfl rfl)
              have HSQ := Lib.hid (fun W (h : QX w ⟨cst, cpi, false, true, ceb, true, cmo⟩ 3 f (.slice none 0 0) [] W) => (HSH.out W).mono (R' := fun e W' => e = .returned (.string (str num)) ∧ QX w ⟨cst, cpi, false, true, ceb, true, cmo⟩ 3 f (.slice none 0 0) [] W') fun _ _ ⟨e1, e2⟩ => ⟨e1, h.step e2⟩)
              obtain ⟨⟨c1, c2, c3⟩, ⟨m0, m1, m2, m3⟩, l0, l1, l2⟩ := h0X.all
              go_wp2_with fail
              go_region_law (first
                | (go_simp; go_at_call 69; with_reducible refine (HSQ.out _ (by first | exact h0X | exact QX.drew h0X)).mono ?_; rintro e1 w8 ⟨rfl, hR⟩; obtain ⟨⟨d1, d2, d3⟩, ⟨n0, n1, n2, n3⟩, k0, k1, k2⟩ := hR.all; obtain ⟨g, cap, w9, hrun, y0, y1, y2, hfin⟩ := HAP.out _ hR; have HRUN := Lib.hid hrun; have HQ2 := Lib.hid hfin; clear hrun hfin hR)
                | (refine step_app rfl (.tmp 31) (.tmp 35) 59 rfl rfl rfl HRUN.out ?_))
              all_goals
                rw [show w.heap.size + 1 + 1 = w.heap.size + 2 from rfl]
                obtain ⟨X1, hX1⟩ : ∃ X1, X1 = w9.setCell ⟨w.heap.size + 2, 2, none⟩ (.slice (some ⟨g, 0, none⟩) 1 cap) := ⟨_, rfl⟩
                rw [← hX1] at HQ2
                try rw [← hX1]
                clear hX1 y0 y1 y2 d1 d2 d3 n0 n1 n2 n3 k0 k1 k2 HRUN h0X c1 c2 c3 m0 m1 m2 m3 l0 l1 l2
                obtain ⟨⟨c1, c2, c3⟩, ⟨m0, m1, m2, m3⟩, l0, l1, l2⟩ := HQ2.out.all
                obtain ⟨r0, r1, r2, r3, r4, r5⟩ := z3R HQ2.out.res
                go_wp2_with fail
                try rw [show w.heap.size + 1 + 1 = w.heap.size + 2 from rfl]
                exact mq_made Tryz.results34 (Nat.le_succ _) (show w.heap.size + 1 < w.heap.size + 3 by omega) (by rw [HR.out, HC.out]; first | rfl | simp [mailPs, optP, HNE.out]) HQ2.out.below HQ2.out.res (c := ⟨3, f, [(wSZ, num)]⟩) HQ2.out.xd.own rfl rfl
        · cases req
          · cases cds
            · skip
              have h0X := HQ1.out
              have HAP := Lib.hid (fun W (h : QX w ⟨cst, cpi, true, false, ceb, true, cmo⟩ 3 f (.slice none 0 0) [] W) => h.put wSZ num 1 [(wSZ, num)] (by simp) rfl rfl)
              have HSQ := Lib.hid (fun W (h : QX w ⟨cst, cpi, true, false, ceb, true, cmo⟩ 3 f (.slice none 0 0) [] W) => (HSH.out W).mono (R' := fun e W' => e = .returned (.string (str num)) ∧ QX w ⟨cst, cpi, true, false, ceb, true, cmo⟩ 3 f (.slice none 0 0) [] W') fun _ _ ⟨e1, e2⟩ => ⟨e1, h.step e2⟩)
              obtain ⟨⟨c1, c2, c3⟩, ⟨m0, m1, m2, m3⟩, l0, l1, l2⟩ := h0X.all
              go_wp2_with fail
              go_region_law (first
                | (go_simp; go_at_call 69; with_reducible refine (HSQ.out _ (by first | exact h0X | exact QX.drew h0X)).mono ?_; rintro e1 w8 ⟨rfl, hR⟩; obtain ⟨⟨d1, d2, d3⟩, ⟨n0, n1, n2, n3⟩, k0, k1, k2⟩ := hR.all; obtain ⟨g, cap, w9, hrun, y0, y1, y2, hfin⟩ := HAP.out _ hR; have HRUN := Lib.hid hrun; have HQ2 := Lib.hid hfin; clear hrun hfin hR)
                | (refine step_app rfl (.tmp 31) (.tmp 35) 59 rfl rfl rfl HRUN.out ?_))
              all_goals
                rw [show w.heap.size + 1 + 1 = w.heap.size + 2 from rfl]
                obtain ⟨X1, hX1⟩ : ∃ X1, X1 = w9.setCell ⟨w.heap.size + 2, 2, none⟩ (.slice (some ⟨g, 0, none⟩) 1 cap) := ⟨_, rfl⟩
                rw [← hX1] at HQ2
                try rw [← hX1]
                clear hX1 y0 y1 y2 d1 d2 d3 n0 n1 n2 n3 k0 k1 k2 HRUN h0X c1 c2 c3 m0 m1 m2 m3 l0 l1 l2
                obtain ⟨⟨c1, c2, c3⟩, ⟨m0, m1, m2, m3⟩, l0, l1, l2⟩ := HQ2.out.all
                obtain ⟨r0, r1, r2, r3, r4, r5⟩ := z3R HQ2.out.res
                go_wp2_with fail
                try rw [show w.heap.size + 1 + 1 = w.heap.size + 2 from rfl]
                exact mq_made Tryz.results34 (Nat.le_succ _) (show w.heap.size + 1 < w.heap.size + 3 by omega) (by rw [HR.out, HC.out]; first | rfl | simp [mailPs, optP, HNE.out]) HQ2.out.below HQ2.out.res (c := ⟨3, f, [(wSZ, num)]⟩) HQ2.out.xd.own rfl rfl
            · cases en
              · skip
                have h0X := HQ1.out
                have HAP := Lib.hid (fun W (h : QX w ⟨cst, cpi, true, true, ceb, true, cmo⟩ 3 f (.slice none 0 0) [] W) => h.put wSZ num 1 [(wSZ, num)] (by simp) rfl rfl)
                have HSQ := Lib.hid (fun W (h : QX w ⟨cst, cpi, true, true, ceb, true, cmo⟩ 3 f (.slice none 0 0) [] W) => (HSH.out W).mono (R' := fun e W' => e = .returned (.string (str num)) ∧ QX w ⟨cst, cpi, true, true, ceb, true, cmo⟩ 3 f (.slice none 0 0) [] W') fun _ _ ⟨e1, e2⟩ => ⟨e1, h.step e2⟩)
                obtain ⟨⟨c1, c2, c3⟩, ⟨m0, m1, m2, m3⟩, l0, l1, l2⟩ := h0X.all
                go_wp2_with fail
                go_region_law (first
                  | (go_simp; go_at_call 69; with_reducible refine (HSQ.out _ (by first | exact h0X | exact QX.drew h0X)).mono ?_; rintro e1 w8 ⟨rfl, hR⟩; obtain ⟨⟨d1, d2, d3⟩, ⟨n0, n1, n2, n3⟩, k0, k1, k2⟩ := hR.all; obtain ⟨g, cap, w9, hrun, y0, y1, y2, hfin⟩ := HAP.out _ hR; have HRUN := Lib.hid hrun; have HQ2 := Lib.hid hfin; clear hrun hfin hR)
                  | (refine step_app rfl (.tmp 31) (.tmp 35) 59 rfl rfl rfl HRUN.out ?_))
                all_goals
                  rw [show w.heap.size + 1 + 1 = w.heap.size + 2 from rfl]
                  obtain ⟨X1, hX1⟩ : ∃ X1, X1 = w9.setCell ⟨w.heap.size + 2, 2, none⟩ (.slice (some ⟨g, 0, none⟩) 1 cap) := ⟨_, rfl⟩
                  rw [← hX1] at HQ2
                  try rw [← hX1]
                  clear hX1 y0 y1 y2 d1 d2 d3 n0 n1 n2 n3 k0 k1 k2 HRUN h0X c1 c2 c3 m0 m1 m2 m3 l0 l1 l2
                  obtain ⟨g6, cap6, w6, hrun6, y0, y1, y2, hfin6⟩ := HQ2.out.put wEN env 2 [(wSZ, num), (wEN, env)] (by simp) rfl rfl
                  have HRUN := Lib.hid hrun6
                  have HQ6 := Lib.hid hfin6
                  clear hrun6 hfin6
                  obtain ⟨⟨c1, c2, c3⟩, ⟨m0, m1, m2, m3⟩, l0, l1, l2⟩ := HQ2.out.all
                  go_upto_region 10 with (at_builtin; refine wpList_app rfl (.tmp 56) (.tmp 59) 59 rfl rfl rfl HRUN.out ?_)
                  rw [show w.heap.size + 1 + 1 = w.heap.size + 2 from rfl]
                  obtain ⟨X6, hX6⟩ : ∃ X1, X1 = w6.setCell ⟨w.heap.size + 2, 2, none⟩ (.slice (some ⟨g6, 0, none⟩) 2 cap6) := ⟨_, rfl⟩
                  rw [← hX6] at HQ6 ⊢
                  clear hX6 y0 y1 y2 HRUN c1 c2 c3 m0 m1 m2 m3 l0 l1 l2
                  obtain ⟨⟨c1, c2, c3⟩, ⟨m0, m1, m2, m3⟩, l0, l1, l2⟩ := HQ6.out.all
                  obtain ⟨r0, r1, r2, r3, r4, r5⟩ := z3R HQ6.out.res
                  go_wp2_with fail
                  try rw [show w.heap.size + 1 + 1 = w.heap.size + 2 from rfl]
                  exact mq_made Tryz.results34 (Nat.le_succ _) (show w.heap.size + 1 < w.heap.size + 3 by omega) (by rw [HR.out, HC.out]; first | rfl | simp [mailPs, optP, HNE.out]) HQ6.out.below HQ6.out.res (c := ⟨3, f, [(wSZ, num), (wEN, env)]⟩) HQ6.out.xd.own rfl rfl
              · skip
                have h0X := HQ1.out
                have HAP := Lib.hid (fun W (h : QX w ⟨cst, cpi, true, true, ceb, true, cmo⟩ 3 f (.slice none 0 0) [] W) => h.put wSZ num 1 [(wSZ, num)] (by simp) rfl rfl)
                have HSQ := Lib.hid (fun W (h : QX w ⟨cst, cpi, true, true, ceb, true, cmo⟩ 3 f (.slice none 0 0) [] W) => (HSH.out W).mono (R' := fun e W' => e = .returned (.string (str num)) ∧ QX w ⟨cst, cpi, true, true, ceb, true, cmo⟩ 3 f (.slice none 0 0) [] W') fun _ _ ⟨e1, e2⟩ => ⟨e1, h.step e2⟩)
                obtain ⟨⟨c1, c2, c3⟩, ⟨m0, m1, m2, m3⟩, l0, l1, l2⟩ := h0X.all
                go_wp2_with fail
                go_region_law (first
                  | (go_simp; go_at_call 69; with_reducible refine (HSQ.out _ (by first | exact h0X | exact QX.drew h0X)).mono ?_; rintro e1 w8 ⟨rfl, hR⟩; obtain ⟨⟨d1, d2, d3⟩, ⟨n0, n1, n2, n3⟩, k0, k1, k2⟩ := hR.all; obtain ⟨g, cap, w9, hrun, y0, y1, y2, hfin⟩ := HAP.out _ hR; have HRUN := Lib.hid hrun; have HQ2 := Lib.hid hfin; clear hrun hfin hR)
                  | (refine step_app rfl (.tmp 31) (.tmp 35) 59 rfl rfl rfl HRUN.out ?_))
                all_goals
                  rw [show w.heap.size + 1 + 1 = w.heap.size + 2 from rfl]
                  obtain ⟨X1, hX1⟩ : ∃ X1, X1 = w9.setCell ⟨w.heap.size + 2, 2, none⟩ (.slice (some ⟨g, 0, none⟩) 1 cap) := ⟨_, rfl⟩
                  rw [← hX1] at HQ2
                  try rw [← hX1]
                  clear hX1 y0 y1 y2 d1 d2 d3 n0 n1 n2 n3 k0 k1 k2 HRUN h0X c1 c2 c3 m0 m1 m2 m3 l0 l1 l2
                  obtain ⟨⟨c1, c2, c3⟩, ⟨m0, m1, m2, m3⟩, l0, l1, l2⟩ := HQ2.out.all
                  obtain ⟨r0, r1, r2, r3, r4, r5⟩ := z3R HQ2.out.res
                  go_wp2_with fail
                  try rw [show w.heap.size + 1 + 1 = w.heap.size + 2 from rfl]
                  exact mq_made Tryz.results34 (Nat.le_succ _) (show w.heap.size + 1 < w.heap.size + 3 by omega) (by rw [HR.out, HC.out]; first | rfl | simp [mailPs, optP, HNE.out]) HQ2.out.below HQ2.out.res (c := ⟨3, f, [(wSZ, num)]⟩) HQ2.out.xd.own rfl rfl
          · cases cds
            · skip
              have h0X := HQ1.out
              have HAP := Lib.hid (fun W (h : QX w ⟨cst, cpi, true, false, ceb, true, cmo⟩ 3 f (.slice none 0 0) [] W) => h.put wSZ num 1 [(wSZ, num)] (by simp) rfl rfl)
              have HSQ := Lib.hid (fun W (h : QX w ⟨cst, cpi, true, false, ceb, true, cmo⟩ 3 f (.slice none 0 0) [] W) => (HSH.out W).mono (R' := fun e W' => e = .returned (.string (str num)) ∧ QX w ⟨cst, cpi, true, false, ceb, true, cmo⟩ 3 f (.slice none 0 0) [] W') fun _ _ ⟨e1, e2⟩ => ⟨e1, h.step e2⟩)
              obtain ⟨⟨c1, c2, c3⟩, ⟨m0, m1, m2, m3⟩, l0, l1, l2⟩ := h0X.all
              go_wp2_with fail
              go_region_law (first
                | (go_simp; go_at_call 69; with_reducible refine (HSQ.out _ (by first | exact h0X | exact QX.drew h0X)).mono ?_; rintro e1 w8 ⟨rfl, hR⟩; obtain ⟨⟨d1, d2, d3⟩, ⟨n0, n1, n2, n3⟩, k0, k1, k2⟩ := hR.all; obtain ⟨g, cap, w9, hrun, y0, y1, y2, hfin⟩ := HAP.out _ hR; have HRUN := Lib.hid hrun; have HQ2 := Lib.hid hfin; clear hrun hfin hR)
                | (refine step_app rfl (.tmp 31) (.tmp 35) 59 rfl rfl rfl HRUN.out ?_))
              all_goals
                rw [show w.heap.size + 1 + 1 = w.heap.size + 2 from rfl]
                obtain ⟨X1, hX1⟩ : ∃ X1, X1 = w9.setCell ⟨w.heap.size + 2, 2, none⟩ (.slice (some ⟨g, 0, none⟩) 1 cap) := ⟨_, rfl⟩
                rw [← hX1] at HQ2
                try rw [← hX1]
                clear hX1 y0 y1 y2 d1 d2 d3 n0 n1 n2 n3 k0 k1 k2 HRUN h0X c1 c2 c3 m0 m1 m2 m3 l0 l1 l2
                obtain ⟨g5, cap5, w5, hrun5, y0, y1, y2, hfin5⟩ := HQ2.out.put wRT [] 2 [(wSZ, num), (wRT, [])] (by simp) rfl rfl
                have HRUN := Lib.hid hrun5
                have HQ5 := Lib.hid hfin5
                clear hrun5 hfin5
                obtain ⟨⟨c1, c2, c3⟩, ⟨m0, m1, m2, m3⟩, l0, l1, l2⟩ := HQ2.out.all
                go_upto_region 8 with (at_builtin; refine wpList_app rfl (.tmp 44) (.tmp 46) 59 rfl rfl rfl HRUN.out ?_)
                rw [show w.heap.size + 1 + 1 = w.heap.size + 2 from rfl]
                obtain ⟨X5, hX5⟩ : ∃ X1, X1 = w5.setCell ⟨w.heap.size + 2, 2, none⟩ (.slice (some ⟨g5, 0, none⟩) 2 cap5) := ⟨_, rfl⟩
                rw [← hX5] at HQ5 ⊢
                clear hX5 y0 y1 y2 HRUN c1 c2 c3 m0 m1 m2 m3 l0 l1 l2
                obtain ⟨⟨c1, c2, c3⟩, ⟨m0, m1, m2, m3⟩, l0, l1, l2⟩ := HQ5.out.all
                obtain ⟨r0, r1, r2, r3, r4, r5⟩ := z3R HQ5.out.res
                go_wp2_with fail
                try rw [show w.heap.size + 1 + 1 = w.heap.size + 2 from rfl]
                exact mq_made Tryz.results34 (Nat.le_succ _) (show w.heap.size + 1 < w.heap.size + 3 by omega) (by rw [HR.out, HC.out]; first | rfl | simp [mailPs, optP, HNE.out]) HQ5.out.below HQ5.out.res (c := ⟨3, f, [(wSZ, num), (wRT, [])]⟩) HQ5.out.xd.own rfl rfl
            · cases en
              · skip
                have h0X := HQ1.out
                have HAP := Lib.hid (fun W (h : QX w ⟨cst, cpi, true, true, ceb, true, cmo⟩ 3 f (.slice none 0 0) [] W) => h.put wSZ num 1 [(wSZ, num)] (by simp) rfl rfl)
                have HSQ := Lib.hid (fun W (h : QX w ⟨cst, cpi, true, true, ceb, true, cmo⟩ 3 f (.slice none 0 0) [] W) => (HSH.out W).mono (R' := fun e W' => e = .returned (.string (str num)) ∧ QX w ⟨cst, cpi, true, true, ceb, true, cmo⟩ 3 f (.slice none 0 0) [] W') fun _ _ ⟨e1, e2⟩ => ⟨e1, h.step e2⟩)
                obtain ⟨⟨c1, c2, c3⟩, ⟨m0, m1, m2, m3⟩, l0, l1, l2⟩ := h0X.all
                go_wp2_with fail
                go_region_law (first
                  | (go_simp; go_at_call 69; with_reducible refine (HSQ.out _ (by first | exact h0X | exact QX.drew h0X)).mono ?_; rintro e1 w8 ⟨rfl, hR⟩; obtain ⟨⟨d1, d2, d3⟩, ⟨n0, n1, n2, n3⟩, k0, k1, k2⟩ := hR.all; obtain ⟨g, cap, w9, hrun, y0, y1, y2, hfin⟩ := HAP.out _ hR; have HRUN := Lib.hid hrun; have HQ2 := Lib.hid hfin; clear hrun hfin hR)
                  | (refine step_app rfl (.tmp 31) (.tmp 35) 59 rfl rfl rfl HRUN.out ?_))
                all_goals
                  rw [show w.heap.size + 1 + 1 = w.heap.size + 2 from rfl]
                  obtain ⟨X1, hX1⟩ : ∃ X1, X1 = w9.setCell ⟨w.heap.size + 2, 2, none⟩ (.slice (some ⟨g, 0, none⟩) 1 cap) := ⟨_, rfl⟩
                  rw [← hX1] at HQ2
                  try rw [← hX1]
                  clear hX1 y0 y1 y2 d1 d2 d3 n0 n1 n2 n3 k0 k1 k2 HRUN h0X c1 c2 c3 m0 m1 m2 m3 l0 l1 l2
                  obtain ⟨g5, cap5, w5, hrun5, y0, y1, y2, hfin5⟩ := HQ2.out.put wRT [] 2 [(wSZ, num), (wRT, [])] (by simp) rfl rfl
                  have HRUN := Lib.hid hrun5
                  have HQ5 := Lib.hid hfin5
                  clear hrun5 hfin5
                  obtain ⟨⟨c1, c2, c3⟩, ⟨m0, m1, m2, m3⟩, l0, l1, l2⟩ := HQ2.out.all
                  go_upto_region 8 with (at_builtin; refine wpList_app rfl (.tmp 44) (.tmp 46) 59 rfl rfl rfl HRUN.out ?_)
                  rw [show w.heap.size + 1 + 1 = w.heap.size + 2 from rfl]
                  obtain ⟨X5, hX5⟩ : ∃ X1, X1 = w5.setCell ⟨w.heap.size + 2, 2, none⟩ (.slice (some ⟨g5, 0, none⟩) 2 cap5) := ⟨_, rfl⟩
                  rw [← hX5] at HQ5 ⊢
                  clear hX5 y0 y1 y2 HRUN c1 c2 c3 m0 m1 m2 m3 l0 l1 l2
                  obtain ⟨g6, cap6, w6, hrun6, y0, y1, y2, hfin6⟩ := HQ5.out.put wEN env 3 [(wSZ, num), (wRT, []), (wEN, env)] (by simp) rfl rfl
                  have HRUN := Lib.hid hrun6
                  have HQ6 := Lib.hid hfin6
                  clear hrun6 hfin6
                  obtain ⟨⟨c1, c2, c3⟩, ⟨m0, m1, m2, m3⟩, l0, l1, l2⟩ := HQ5.out.all
                  go_upto_region 10 with (at_builtin; refine wpList_app rfl (.tmp 56) (.tmp 59) 59 rfl rfl rfl HRUN.out ?_)
                  rw [show w.heap.size + 1 + 1 = w.heap.size + 2 from rfl]
                  obtain ⟨X6, hX6⟩ : ∃ X1, X1 = w6.setCell ⟨w.heap.size + 2, 2, none⟩ (.slice (some ⟨g6, 0, none⟩) 3 cap6) := ⟨_, rfl⟩
                  rw [← hX6] at HQ6 ⊢
                  clear hX6 y0 y1 y2 HRUN c1 c2 c3 m0 m1 m2 m3 l0 l1 l2
                  obtain ⟨⟨c1, c2, c3⟩, ⟨m0, m1, m2, m3⟩, l0, l1, l2⟩ := HQ6.out.all
                  obtain ⟨r0, r1, r2, r3, r4, r5⟩ := z3R HQ6.out.res
                  go_wp2_with fail
                  try rw [show w.heap.size + 1 + 1 = w.heap.size + 2 from rfl]
                  exact mq_made Tryz.results34 (Nat.le_succ _) (show w.heap.size + 1 < w.heap.size + 3 by omega) (by rw [HR.out, HC.out]; first | rfl | simp [mailPs, optP, HNE.out]) HQ6.out.below HQ6.out.res (c := ⟨3, f, [(wSZ, num), (wRT, []), (wEN, env)]⟩) HQ6.out.xd.own rfl rfl
              · skip
                have h0X := HQ1.out
                have HAP := Lib.hid (fun W (h : QX w ⟨cst, cpi, true, true, ceb, true, cmo⟩ 3 f (.slice none 0 0) [] W) => h.put wSZ num 1 [(wSZ, num)] (by simp) rfl rfl)
                have HSQ := Lib.hid (fun W (h : QX w ⟨cst, cpi, true, true, ceb, true, cmo⟩ 3 f (.slice none 0 0) [] W) => (HSH.out W).mono (R' := fun e W' => e = .returned (.string (str num)) ∧ QX w ⟨cst, cpi, true, true, ceb, true, cmo⟩ 3 f (.slice none 0 0) [] W') fun _ _ ⟨e1, e2⟩ => ⟨e1, h.step e2⟩)
                obtain ⟨⟨c1, c2, c3⟩, ⟨m0, m1, m2, m3⟩, l0, l1, l2⟩ := h0X.all
                go_wp2_with fail
                go_region_law (first
                  | (go_simp; go_at_call 69; with_reducible refine (HSQ.out _ (by first | exact h0X | exact QX.drew h0X)).mono ?_; rintro e1 w8 ⟨rfl, hR⟩; obtain ⟨⟨d1, d2, d3⟩, ⟨n0, n1, n2, n3⟩, k0, k1, k2⟩ := hR.all; obtain ⟨g, cap, w9, hrun, y0, y1, y2, hfin⟩ := HAP.out _ hR; have HRUN := Lib.hid hrun; have HQ2 := Lib.hid hfin; clear hrun hfin hR)
                  | (refine step_app rfl (.tmp 31) (.tmp 35) 59 rfl rfl rfl HRUN.out ?_))
                all_goals
                  rw [show w.heap.size + 1 + 1 = w.heap.size + 2 from rfl]
                  obtain ⟨X1, hX1⟩ : ∃ X1, X1 = w9.setCell ⟨w.heap.size + 2, 2, none⟩ (.slice (some ⟨g, 0, none⟩) 1 cap) := ⟨_, rfl⟩
                  rw [← hX1] at HQ2
                  try rw [← hX1]
                  clear hX1 y0 y1 y2 d1 d2 d3 n0 n1 n2 n3 k0 k1 k2 HRUN h0X c1 c2 c3 m0 m1 m2 m3 l0 l1 l2
                  obtain ⟨g5, cap5, w5, hrun5, y0, y1, y2, hfin5⟩ := HQ2.out.put wRT [] 2 [(wSZ, num), (wRT, [])] (by simp) rfl rfl
                  have HRUN := Lib.hid hrun5
                  have HQ5 := Lib.hid hfin5
                  clear hrun5 hfin5
                  obtain ⟨⟨c1, c2, c3⟩, ⟨m0, m1, m2, m3⟩, l0, l1, l2⟩ := HQ2.out.all
                  go_upto_region 8 with (at_builtin; refine wpList_app rfl (.tmp 44) (.tmp 46) 59 rfl rfl rfl HRUN.out ?_)
                  rw [show w.heap.size + 1 + 1 = w.heap.size + 2 from rfl]
                  obtain ⟨X5, hX5⟩ : ∃ X1, X1 = w5.setCell ⟨w.heap.size + 2, 2, none⟩ (.slice (some ⟨g5, 0, none⟩) 2 cap5) := ⟨_, rfl⟩
                  rw [← hX5] at HQ5 ⊢
                  clear hX5 y0 y1 y2 HRUN c1 c2 c3 m0 m1 m2 m3 l0 l1 l2
                  obtain ⟨⟨c1, c2, c3⟩, ⟨m0, m1, m2, m3⟩, l0, l1, l2⟩ := HQ5.out.all
                  obtain ⟨r0, r1, r2, r3, r4, r5⟩ := z3R HQ5.out.res
                  go_wp2_with fail
                  try rw [show w.heap.size + 1 + 1 = w.heap.size + 2 from rfl]
                  exact mq_made Tryz.results34 (Nat.le_succ _) (show w.heap.size + 1 < w.heap.size + 3 by omega) (by rw [HR.out, HC.out]; first | rfl | simp [mailPs, optP, HNE.out]) HQ5.out.below HQ5.out.res (c := ⟨3, f, [(wSZ, num), (wRT, [])]⟩) HQ5.out.xd.own rfl rfl
end Go.Proofs.YtbmjmiioobgbfaaGreatDoor
