/-
  The reference's Texts.
-/
import Derived.Deep.DeepCutAuto
import Derived.Test.YtanfonpbnamjmaaDoorCTexts
import Derived.Test.YtanfonpbnamjmaaDoorCRefL
namespace Go.Proofs.YtanfonpbnamjmaaDoor
open Go Go.RowKit Go.Shelf
set_option maxRecDepth 100000

/-- What the reference's Texts holds: what it was handed, the row so far. -/
structure RX (w : World) (c : Cp) (xs : List (List UInt8)) (v : Value) (W : World) : Prop where
  b : Below w.heap.size w W
  cb : CB5 W w.heap.size c
  own : W.ownsRow (w.heap.size + 1) 9 1 v xs.length (xs.map sv)
theorem RX.lt {w W : World} {c : Cp} {xs : List (List UInt8)} {v : Value} (h : RX w c xs v W) : w.heap.size + 1 ≤ W.heap.size := lt_of_blk h.cb
theorem RX.below {w W W' : World} {c : Cp} {xs : List (List UInt8)} {v : Value} (h : RX w c xs v W) (hb : Below W.heap.size W W') : RX w c xs v W' :=
  ⟨h.b.trans (hb.mono h.b.size), blk_below h.cb hb, owns_below h.own hb⟩
theorem RX.app {w W w' : World} {c : Cp} {xs : List (List UInt8)} {v : Value} {t : List UInt8} {C : Array Value} {g cap : Nat} (h : RX w c xs v W)
    (hown : w'.ownsRow (w.heap.size + 1) 9 1 (.slice (some ⟨g, 0, none⟩) (xs.length + 1) cap) (xs.length + 1) ((xs ++ [t]).map sv)) (hgr : (W.alloc (.cells C 9)).grownBy w' v.ownBlock) :
    RX w c (xs ++ [t]) (.slice (some ⟨g, 0, none⟩) (xs.length + 1) cap) w' := by
  have hz := h.lt
  refine ⟨Below.grown (h.b.alloc (by omega) _) hgr (by simp; omega) fun j hj => ?_, (hgr.block w.heap.size (by simp; omega) fun e => ?_).trans ((Lib.alloc_old _ _ _ (by omega)).trans h.cb), ?_⟩
  · have := (h.own.lt j hj).1; omega
  · have := (h.own.lt _ e.symm).1; omega
  · rw [List.length_append]; exact hown
theorem rx_start {w : World} (c : Cp) (host : List UInt8) : RX w c [host] (.slice (some ⟨w.heap.size + 1, 0, none⟩) 1 1) ((w.alloc (.cells (cpL c) 55)).alloc (.cells #[sv host] 9)) := by
  have h1 := heap_alloc_new w (.cells (cpL c) 55)
  have h2 := heap_alloc_new (w.alloc (.cells (cpL c) 55)) (.cells #[sv host] 9)
  rw [World.size_alloc] at h2
  exact ⟨((Below.refl _ w).alloc (Nat.le_refl _) _).alloc (by simp) _, (Lib.alloc_old _ _ _ (lt_of_blk h1)).trans h1, ⟨by simp, .inr ⟨_, 1, #[sv host], rfl, Nat.le_refl _, h2, Nat.le_refl _, by decide, rfl, rfl⟩⟩⟩
theorem owns_less {W : World} {a b n : Nat} {v : Value} {xs : List Value} (h : W.ownsRow a 9 1 v n xs) (hb : b ≤ a) : W.ownsRow b 9 1 v n xs := by
  refine ⟨h.1, h.2.imp id ?_⟩
  rintro ⟨g, cap, cur, e, hg, rest⟩
  exact ⟨g, cap, cur, e, by omega, rest⟩

set_option maxHeartbeats 4000000 in
theorem rtexts_any (host : List UInt8) (c : Cp) (w : World) (h0 : -9223372036854775808 ≤ c.mo) (h1 : c.mo ≤ 9223372036854775807) :
    Calls Tryd.prog 34 #[sv host, ofV c] w (TextsPost w (textsR host c)) := by
  have HS0 := Lib.hid (rx_start (w := w) c host)
  have HSH := Lib.hid (fun W => rshow_any c.mo W h0 h1)
  have HL := Lib.hid (show c.mo ≤ 9223372036854775807 from h1)
  obtain ⟨xs0, hx0, hl0⟩ : ∃ xs, xs = [host] ∧ xs.length ≤ 1 := ⟨_, rfl, by simp⟩
  rw [← hx0] at HS0
  have HX0 := Lib.hid hx0
  clear hx0 h0 h1
  unfold ofV cpL
  go_enter Tryd.func34, Tryd.ntmps34
  go_upto_region 2 with (fail)
  obtain ⟨W0, hW0⟩ : ∃ W0, W0 = (w.alloc (.cells (cpL c) 55)).alloc (.cells #[sv host] 9) := ⟨_, rfl⟩
  change Code.wp _ _ _ _ ((w.alloc (.cells (cpL c) 55)).alloc (.cells #[sv host] 9))
  rw [← hW0] at HS0 ⊢
  generalize (Value.slice (some ⟨w.heap.size + 1, 0, none⟩) 1 1) = v0 at HS0 ⊢
  generalize (Value.agg #[.bool c.st, .bool c.pi, .bool c.rq, .bool c.ds, .bool c.eb, .bool c.sz, .int .i64 c.mo]) = ag
  have hr := HS0.out
  clear hW0 HS0
  obtain ⟨xs1, hx1, hl1⟩ : ∃ xs, xs = xs0 ++ opt c.pi wPI ∧ xs.length ≤ 2 := ⟨_, rfl, by rw [List.length_append]; cases c.pi <;> simp [opt] <;> omega⟩
  have HX1 := Lib.hid hx1
  have c1 := (cbC5 hr.cb).2.1
  have HR0 := Lib.hid hr
  clear hx1 hr
  go_upto_if 9 with (fail)
  clear c1
  go_cut [5] from 8 (fun v W => RX w c xs1 v W)
  case first =>
    cases hb : c.pi with
    | false =>
      have HF := Lib.hid (show xs0 = xs1 by rw [HX1.out, hb]; simp [opt])
      clear hb
      go_wp2_with fail
      go_meet
      case rel => rw [← HF.out]; exact HR0.out
    | true =>
      have HF := Lib.hid (show xs0 ++ [wPI] = xs1 by rw [HX1.out, hb]; simp [opt])
      have HO := Lib.hid HR0.out.own
      have hz := HR0.out.lt
      clear hb
      go_wp2_with (at_builtin; refine row_append HO.out hz (by omega) wPI _ rfl _ _ rfl rfl rfl _ rfl ?_; intro g cap w' hown hgr hor hlt; have HA := Lib.hid (HR0.out.app hown hgr); clear hown hgr hor hlt)
      go_meet
      case rel => rw [← HF.out]; exact HA.out
  case rest =>
  have hr := hcut
  clear hcut
  obtain ⟨xs2, hx2, hl2⟩ : ∃ xs, xs = xs1 ++ opt c.sz (sizeT c.mo) ∧ xs.length ≤ 3 := ⟨_, rfl, by rw [List.length_append]; cases c.sz <;> simp [opt] <;> omega⟩
  have HX2 := Lib.hid hx2
  obtain ⟨-, -, -, -, -, d5, d6⟩ := cbC5 hr.cb
  have HR1 := Lib.hid hr
  clear hx2 hr
  obtain ⟨b5, h5⟩ : ∃ b, b = c.sz := ⟨_, rfl⟩
  have D5 := Lib.hid d5
  have D6 := Lib.hid d6
  have HB5 := Lib.hid h5
  rw [← h5] at d5
  clear h5
  go_upto_region 4 with (fail)
  go_cut [24] from 13 (fun v W => v = .bool (b5 && mayN c.mo) ∧ W = wc)
  case first =>
    cases b5 with
    | false =>
      go_wp2_with fail
      go_meet
      case rel => exact ⟨rfl, rfl⟩
    | true =>
      rcases (show c.mo < 1 ∨ (1 ≤ c.mo ∧ topN < c.mo) ∨ (1 ≤ c.mo ∧ c.mo ≤ topN) by omega) with h | ⟨h, h2⟩ | ⟨h, h2⟩
      · have HF := Lib.hid (show mayN c.mo = false by unfold mayN; rw [decide_eq_false (by omega)]; rfl)
        have hd : decide (1 ≤ c.mo) = false := decide_eq_false (by omega)
        go_wp2_with fail
        go_meet
        case rel => exact ⟨by rw [HF.out]; rfl, rfl⟩
      · have HF := Lib.hid (show mayN c.mo = false by unfold mayN; rw [decide_eq_false (show ¬ c.mo ≤ topN by omega), Bool.and_false])
        have hd : decide (1 ≤ c.mo) = true := decide_eq_true h
        have hd2 : decide (c.mo ≤ 1099511627776) = false := decide_eq_false (by unfold topN at h2; omega)
        go_wp2_with fail
        go_meet
        case rel => exact ⟨by rw [HF.out]; rfl, rfl⟩
      · have HF := Lib.hid (show mayN c.mo = true by unfold mayN; rw [decide_eq_true h, decide_eq_true h2]; rfl)
        have hd : decide (1 ≤ c.mo) = true := decide_eq_true h
        have hd2 : decide (c.mo ≤ 1099511627776) = true := decide_eq_true (by unfold topN at h2; omega)
        go_wp2_with fail
        go_meet
        case rel => exact ⟨by rw [HF.out]; rfl, rfl⟩
  case rest =>
  obtain ⟨rfl, rfl⟩ := hcut
  obtain ⟨mm, hmm⟩ : ∃ mm, mm = (b5 && mayN c.mo) := ⟨_, rfl⟩
  rw [← hmm]
  have HMM := Lib.hid hmm
  have hz := HR1.out.lt
  clear hmm
  go_upto_if 24 with (fail)
  go_cut [5] from 25 (fun v W => RX w c xs2 v W)
  case first =>
    cases mm with
    | false =>
      have d5 := D5.out
      rw [← HB5.out] at d5
      cases b5 with
      | false =>
        have HF := Lib.hid (show xs1 = xs2 by rw [HX2.out, ← HB5.out]; simp [opt])
        go_wp2_with fail
        go_meet
        case rel => rw [← HF.out]; exact HR1.out
      | true =>
        have HF := Lib.hid (show xs1 ++ [wSZ] = xs2 by rw [HX2.out, ← HB5.out]; unfold opt sizeT; rw [show mayN c.mo = false from HMM.out.symm]; rfl)
        have HO := Lib.hid HR1.out.own
        go_wp2_with (at_builtin; refine row_append HO.out hz (by omega) wSZ _ rfl _ _ rfl rfl rfl _ rfl ?_; intro g cap w' hown hgr hor hlt; have HA := Lib.hid (HR1.out.app hown hgr); clear hown hgr hor hlt)
        go_meet
        case rel => rw [← HF.out]; exact HA.out
    | true =>
      obtain rfl : b5 = true := by
        cases b5 with
        | true => rfl
        | false => exact absurd (HMM.out.trans (Bool.false_and _)) (by decide)
      have hm0 : mayN c.mo = true := HMM.out.symm
      have HM0 := Lib.hid hm0
      have hm1 := hm0
      unfold mayN at hm1
      rw [Bool.and_eq_true, decide_eq_true_eq, decide_eq_true_eq] at hm1
      obtain ⟨t, ht⟩ : ∃ t, t = Lib.itoa c.mo := ⟨_, rfl⟩
      have htl : t.length ≤ 20 := by
        have h1 := itoa_pos (n := c.mo) (by omega)
        have h2 := dec_len20 (m := c.mo.toNat) (by unfold topN at hm1; omega)
        rw [ht, h1]; exact h2
      rw [← ht] at HSH
      have HF := Lib.hid (show xs1 ++ [wSB ++ t] = xs2 by rw [HX2.out, ← HB5.out, ht]; unfold opt sizeT; rw [hm0]; rfl)
      have HAP := Lib.hid (show (#[Value.string (str wSB ++ str t)] : Array Value).toList = [sv (wSB ++ t)] by rw [str_append])
      have d6 := D6.out
      clear ht hm1 hm0
      go_wp2_with fail
      refine (HSH.out _).mono ?_
      rintro e w3 ⟨rfl, hb3⟩
      have hr3 := HR1.out.below hb3
      have HR3 := Lib.hid hr3
      have HO := Lib.hid hr3.own
      have hz3 := hr3.lt
      clear hr3 hb3
      go_wp2_with (at_builtin; refine row_append HO.out hz3 (by omega) (wSB ++ t) _ HAP.out _ _ rfl rfl rfl _ rfl ?_; intro g cap w' hown hgr hor hlt; have HA := Lib.hid (HR3.out.app hown hgr); clear hown hgr hor hlt)
      go_meet
      case rel => rw [← HF.out]; exact HA.out
  case rest =>
  have hr := hcut
  clear hcut
  obtain ⟨xs3, hx3, hl3⟩ : ∃ xs, xs = xs2 ++ opt c.st wST ∧ xs.length ≤ 4 := ⟨_, rfl, by rw [List.length_append]; cases c.st <;> simp [opt] <;> omega⟩
  have HX3 := Lib.hid hx3
  have c3 := (cbC5 hr.cb).1
  have HR2 := Lib.hid hr
  clear hx3 hr
  go_upto_if 38 with (fail)
  clear c3
  go_cut [5] from 37 (fun v W => RX w c xs3 v W)
  case first =>
    cases hb : c.st with
    | false =>
      have HF := Lib.hid (show xs2 = xs3 by rw [HX3.out, hb]; simp [opt])
      clear hb
      go_wp2_with fail
      go_meet
      case rel => rw [← HF.out]; exact HR2.out
    | true =>
      have HF := Lib.hid (show xs2 ++ [wST] = xs3 by rw [HX3.out, hb]; simp [opt])
      have HO := Lib.hid HR2.out.own
      have hz := HR2.out.lt
      clear hb
      go_wp2_with (at_builtin; refine row_append HO.out hz (by omega) wST _ rfl _ _ rfl rfl rfl _ rfl ?_; intro g cap w' hown hgr hor hlt; have HA := Lib.hid (HR2.out.app hown hgr); clear hown hgr hor hlt)
      go_meet
      case rel => rw [← HF.out]; exact HA.out
  case rest =>
  have hr := hcut
  clear hcut
  obtain ⟨xs4, hx4, hl4⟩ : ∃ xs, xs = xs3 ++ opt c.rq wRQ ∧ xs.length ≤ 5 := ⟨_, rfl, by rw [List.length_append]; cases c.rq <;> simp [opt] <;> omega⟩
  have HX4 := Lib.hid hx4
  have c4 := (cbC5 hr.cb).2.2.1
  have HR3 := Lib.hid hr
  clear hx4 hr
  go_upto_if 43 with (fail)
  clear c4
  go_cut [5] from 42 (fun v W => RX w c xs4 v W)
  case first =>
    cases hb : c.rq with
    | false =>
      have HF := Lib.hid (show xs3 = xs4 by rw [HX4.out, hb]; simp [opt])
      clear hb
      go_wp2_with fail
      go_meet
      case rel => rw [← HF.out]; exact HR3.out
    | true =>
      have HF := Lib.hid (show xs3 ++ [wRQ] = xs4 by rw [HX4.out, hb]; simp [opt])
      have HO := Lib.hid HR3.out.own
      have hz := HR3.out.lt
      clear hb
      go_wp2_with (at_builtin; refine row_append HO.out hz (by omega) wRQ _ rfl _ _ rfl rfl rfl _ rfl ?_; intro g cap w' hown hgr hor hlt; have HA := Lib.hid (HR3.out.app hown hgr); clear hown hgr hor hlt)
      go_meet
      case rel => rw [← HF.out]; exact HA.out
  case rest =>
  have hr := hcut
  clear hcut
  obtain ⟨xs5, hx5, hl5⟩ : ∃ xs, xs = xs4 ++ opt c.ds wDS ∧ xs.length ≤ 6 := ⟨_, rfl, by rw [List.length_append]; cases c.ds <;> simp [opt] <;> omega⟩
  have HX5 := Lib.hid hx5
  have c5 := (cbC5 hr.cb).2.2.2.1
  have HR4 := Lib.hid hr
  clear hx5 hr
  go_upto_if 48 with (fail)
  clear c5
  go_cut [5] from 47 (fun v W => RX w c xs5 v W)
  case first =>
    cases hb : c.ds with
    | false =>
      have HF := Lib.hid (show xs4 = xs5 by rw [HX5.out, hb]; simp [opt])
      clear hb
      go_wp2_with fail
      go_meet
      case rel => rw [← HF.out]; exact HR4.out
    | true =>
      have HF := Lib.hid (show xs4 ++ [wDS] = xs5 by rw [HX5.out, hb]; simp [opt])
      have HO := Lib.hid HR4.out.own
      have hz := HR4.out.lt
      clear hb
      go_wp2_with (at_builtin; refine row_append HO.out hz (by omega) wDS _ rfl _ _ rfl rfl rfl _ rfl ?_; intro g cap w' hown hgr hor hlt; have HA := Lib.hid (HR4.out.app hown hgr); clear hown hgr hor hlt)
      go_meet
      case rel => rw [← HF.out]; exact HA.out
  case rest =>
  have hr := hcut
  clear hcut
  obtain ⟨xs6, hx6, hl6⟩ : ∃ xs, xs = xs5 ++ opt c.eb wEB ∧ xs.length ≤ 7 := ⟨_, rfl, by rw [List.length_append]; cases c.eb <;> simp [opt] <;> omega⟩
  have HX6 := Lib.hid hx6
  have c6 := (cbC5 hr.cb).2.2.2.2.1
  have HR5 := Lib.hid hr
  clear hx6 hr
  go_upto_if 53 with (fail)
  clear c6
  go_cut [5] from 52 (fun v W => RX w c xs6 v W)
  case first =>
    cases hb : c.eb with
    | false =>
      have HF := Lib.hid (show xs5 = xs6 by rw [HX6.out, hb]; simp [opt])
      clear hb
      go_wp2_with fail
      go_meet
      case rel => rw [← HF.out]; exact HR5.out
    | true =>
      have HF := Lib.hid (show xs5 ++ [wEB] = xs6 by rw [HX6.out, hb]; simp [opt])
      have HO := Lib.hid HR5.out.own
      have hz := HR5.out.lt
      clear hb
      go_wp2_with (at_builtin; refine row_append HO.out hz (by omega) wEB _ rfl _ _ rfl rfl rfl _ rfl ?_; intro g cap w' hown hgr hor hlt; have HA := Lib.hid (HR5.out.app hown hgr); clear hown hgr hor hlt)
      go_meet
      case rel => rw [← HF.out]; exact HA.out
  case rest =>
  have hr := hcut
  clear hcut
  have HEQ := Lib.hid (show xs6 = textsR host c by
    rw [HX6.out, HX5.out, HX4.out, HX3.out, HX2.out, HX1.out, HX0.out]
    unfold textsR sixT
    simp [List.append_assoc])
  have HFIN := Lib.hid (show ∃ v, Ending.returned _ = .returned v ∧ Below w.heap.size w _ ∧ World.ownsRow _ w.heap.size 9 1 v (textsR host c).length ((textsR host c).map sv) from ⟨_, rfl, hr.b, by rw [← HEQ.out]; exact owns_less hr.own (by omega)⟩)
  clear hr
  go_wp2_with fail
  go_ret
  exact HFIN.out
end Go.Proofs.YtanfonpbnamjmaaDoor
