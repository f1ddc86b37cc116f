/-
  Contracts of package cmd's shown, Show.
-/
import Derived.Test.YtbmjmiioobgbfaaGreatDoorKShown
namespace Go.Proofs.YtbmjmiioobgbfaaGreatDoor
open Go Go.RowKit Go.Shelf
set_option maxRecDepth 100000
set_option linter.unusedSimpArgs false
set_option linter.unusedVariables false

/-- What stands ahead of the parameters. -/
theorem head_text {c : Cm} (h : mayK c = true) : hdL c.verb ++ addT (c.verb == 1) [c.arg] ++ addT (pathV c.verb) [pathL c.arg] = hdL c.verb ++ argText c := by
  unfold argText addT
  rw [List.append_assoc]
  congr 1
  rcases may_kinds h with ⟨h1, _, _⟩ | ⟨h1, h2, _, _⟩ | ⟨h1, h2, _, _⟩
  · rw [h1]; simp [pathV]
  · have : (c.verb == 1) = false := by simpa using h2
    rw [this, h1, if_neg h2]; simp
  · have : (c.verb == 1) = false := by simpa using h2
    rw [this, h1, if_neg h2]; simp
theorem pText_is (p : PM) : addT true [[32], p.1] ++ addT (!p.2.isEmpty) [[61], p.2] = pText p := by
  unfold addT pText
  cases h : p.2 with
  | nil => simp
  | cons x t => simp
theorem ps_next {l : List PM} {k : Nat} (hk : k < l.length) : psText (l.take k) ++ pText (l.getD k pm0) = psText (l.take (k + 1)) := by
  rw [List.take_succ_eq_append_getElem hk, pm_getD hk]
  simp only [psText, List.flatMap_append, List.flatMap_cons, List.flatMap_nil, List.append_nil]
theorem pText_len {p : PM} (h : pL p = true) (hv : p.2.length ≤ 6000) : (pText p).length ≤ 6100 := by
  unfold pL at h
  rw [Bool.and_eq_true] at h
  have := (pnL_all h.1).2.1
  unfold pText
  split <;> simp <;> omega
theorem psText_len : ∀ {l : List PM}, (∀ p ∈ l, pL p = true ∧ p.2.length ≤ 6000) → (psText l).length ≤ l.length * 6100
  | [], _ => by simp [psText]
  | p :: l, h => by
    have ih := psText_len (l := l) fun q hq => h q (by simp [hq])
    have := pText_len (h p (by simp)).1 (h p (by simp)).2
    simp only [psText, List.flatMap_cons, List.length_append, List.length_cons] at ih ⊢
    omega
theorem may_ps {c : Cm} (h : mayK c = true) : c.ps.length ≤ 8 ∧ ∀ p ∈ c.ps, pL p = true := by
  rcases may_kinds h with ⟨_, _, h3⟩ | ⟨_, _, _, h4⟩ | ⟨_, _, _, h4⟩
  · rw [h3]; simp
  · exact ⟨(psL_all h4).1, (psL_all h4).2.1⟩
  · rw [h4]; simp
theorem pathL_len (a : List UInt8) : (pathL a).length ≤ a.length + 2 := by unfold pathL; split <;> simp
theorem lit_one {W : World} {g : Nat} {x : List UInt8} (h : W.heap[g]? = some (.cells #[sv x] 9 (0, 0))) : W.heap[g]? = some (.cells ([x].map sv).toArray 9 (0, 0)) := h

set_option maxHeartbeats 8000000 in
theorem shownK_any (c : Cm) (u : Value) (w : World) (hu : PR w u c.ps) (hm : mayK c = true) (ha : c.arg.length ≤ 6000) (hx : ∀ p ∈ c.ps, p.2.length ≤ 6000) (hL : LW w) :
    Calls Tryz.prog 54 #[cmV c u] w fun e w' => e = .returned (sv (shownK c)) ∧ Below w.heap.size w w' := by
  have hv := may_verb hm
  obtain ⟨hp8, hpl⟩ := may_ps hm
  have HT := Lib.hid (head_text hm)
  have HE := Lib.hid (shown_form c)
  have HPL := Lib.hid (fun k hk => pText_len (hpl (c.ps.getD k pm0) (pm_mem (l := c.ps) (k := k) hk)) (hx _ (pm_mem hk)))
  have HPS := Lib.hid (show ∀ k, (psText (c.ps.take k)).length ≤ 50000 from fun k => by
    have := psText_len (l := c.ps.take k) fun p hp => ⟨hpl p (List.mem_of_mem_take hp), hx p (List.mem_of_mem_take hp)⟩
    rw [List.length_take] at this
    omega)
  clear hm hpl
  obtain ⟨v, a, ps⟩ := c
  dsimp only at hu hv ha hp8 HT HE HPL HPS ⊢
  have HX := Lib.hid hx
  have HU := Lib.hid hu
  obtain ⟨A, cap, rfl⟩ := hu.form
  clear hu hx
  have HL := Lib.hid hL
  have H0 := Lib.hid (sh_start hL #[.int .u8 (v : Int), sv a, .slice A ps.length cap])
  clear hL
  have hk0 : (0 : Int) ≤ (v : Int) := by omega
  have hk7 : (v : Int) < 7 := by omega
  obtain ⟨h, hh⟩ : ∃ h, h = hdL v := ⟨_, rfl⟩
  have hhl : h.length ≤ 10 := by rw [hh]; exact hd_upto v (by omega)
  have HHC := Lib.hid (fun W (hb : BK w W) => (hh ▸ hb.heads (show v < 7 by omega) : W.cell? ⟨0, v, none⟩ = some (sv h)))
  rw [← hh] at HT HE
  obtain ⟨q, hq⟩ : ∃ q, q = pathL a := ⟨_, rfl⟩
  have hql : q.length ≤ 6002 := by rw [hq]; have := pathL_len a; omega
  rw [← hq] at HT
  have HQ := Lib.hid (show ∀ W, LW W → Calls Tryz.prog 39 #[sv a] W fun e w' => e = .returned (sv q) ∧ Below W.heap.size W w' from fun W hW => by rw [hq]; exact path_any a W (by omega) hW.ml)
  obtain ⟨t1, ht1⟩ : ∃ t, t = (v == 1) := ⟨_, rfl⟩
  have e1 : ((v : Int) == 1) = t1 := by rw [ht1, Bool.eq_iff_iff, beq_iff_eq, beq_iff_eq]; omega
  rw [← ht1] at HT
  obtain ⟨t2, ht2⟩ : ∃ t, t = pathV v := ⟨_, rfl⟩
  rw [← ht2] at HT
  have HP := Lib.hid (show ∀ W, Calls Tryz.prog 87 #[.int .u8 (v : Int)] W fun e w' => e = .returned (.bool t2) ∧ W = w' from fun W => by rw [ht2]; exact hasPath_any v W)
  clear hh hq ht1 ht2
  obtain ⟨X, hX⟩ : ∃ X, X = (w.alloc (.cells #[.int .u8 (v : Int), sv a, .slice A ps.length cap] 41)).alloc (.cells #[.pointer none, .slice none 0 0] 116) := ⟨_, rfl⟩
  have hXs : X.heap.size = w.heap.size + 1 + 1 := by rw [hX]; simp
  have hh0 := HHC.out _ H0.out.bk
  have c0 := H0.out.c3.1
  rw [← hX] at H0
  have HG := Lib.hid (show (X.alloc (.cells #[sv h] 9)).heap[w.heap.size + 1 + 1]? = some (.cells #[sv h] 9 (0, 0)) by rw [← hXs]; exact heap_alloc_new X _)
  go_enter Tryz.func54, Tryz.ntmps54
  go_wp2_with fail
  rw [← hX]
  refine ((H0.out.alloc _).add HL.out true [h] rfl rfl HG.out (by simp; omega) (by simp)).mono ?_
  rintro e w1 ⟨rfl, k1, _⟩
  have K1 := Lib.hid (show SH w #[.int .u8 (v : Int), sv a, .slice A ps.length cap] h w1 by simpa [addT] using k1)
  clear k1 hX hh0 c0 hXs
  obtain ⟨c0, c1, c2⟩ := K1.out.c3
  go_wp2_with fail
  refine ((K1.out.alloc _).add HL.out t1 [a] rfl rfl (heap_alloc_new w1 _) (by simp; omega) (by simp)).mono ?_
  rintro e w2 ⟨rfl, k2, _⟩
  obtain ⟨l2, hl2⟩ : ∃ l, l = h ++ addT t1 [a] := ⟨_, rfl⟩
  obtain ⟨l3, hl3⟩ : ∃ l, l = l2 ++ addT t2 [q] := ⟨_, rfl⟩
  have HT2 := Lib.hid (show l3 = h ++ argText ⟨v, a, ps⟩ by rw [hl3, hl2]; exact HT.out)
  have hl2n : l2.length ≤ 6010 := by rw [hl2, List.length_append]; unfold addT; split <;> simp <;> omega
  have hl3n : l3.length ≤ 12100 := by rw [hl3, List.length_append]; unfold addT; split <;> simp <;> omega
  rw [← hl2] at k2
  obtain ⟨BEF, hBEF⟩ : ∃ P : World → Prop, P = SH w #[.int .u8 (v : Int), sv a, .slice A ps.length cap] l2 := ⟨_, rfl⟩
  obtain ⟨AFT, hAFT⟩ : ∃ P : World → Prop, P = SH w #[.int .u8 (v : Int), sv a, .slice A ps.length cap] l3 := ⟨_, rfl⟩
  have BD := Lib.hid (show ∀ W, BEF W → BEF W.drew from fun W h => by rw [hBEF] at h ⊢; exact h.drew)
  have BA := Lib.hid (show ∀ W o, BEF W → BEF (W.alloc o) from fun W o h => by rw [hBEF] at h ⊢; exact h.alloc o)
  have AD := Lib.hid (show ∀ W, AFT W → AFT W.drew from fun W h => by rw [hAFT] at h ⊢; exact h.drew)
  have BC := Lib.hid (show ∀ W, BEF W → W.cell? ⟨w.heap.size, 0, none⟩ = some (.int .u8 (v : Int)) ∧ W.cell? ⟨w.heap.size, 1, none⟩ = some (sv a) from fun W h => by rw [hBEF] at h; exact ⟨h.c3.1, h.c3.2.1⟩)
  have AC := Lib.hid (show ∀ W, AFT W → W.cell? ⟨w.heap.size, 0, none⟩ = some (.int .u8 (v : Int)) ∧ W.cell? ⟨w.heap.size, 1, none⟩ = some (sv a) from fun W h => by rw [hAFT] at h; exact ⟨h.c3.1, h.c3.2.1⟩)
  have BP := Lib.hid (show ∀ W, BEF W → Calls Tryz.prog 87 #[.int .u8 (v : Int)] W fun e w' => e = .returned (.bool t2) ∧ BEF w' from fun W h => (HP.out W).mono fun _ _ ⟨e1, e2⟩ => ⟨e1, e2 ▸ h⟩)
  have BQ := Lib.hid (show ∀ W, BEF W → Calls Tryz.prog 39 #[sv a] W fun e w' => e = .returned (sv q) ∧ BEF w' from fun W h => by
    rw [hBEF] at h ⊢
    exact (HQ.out W h.bk.lw).mono fun _ _ ⟨e1, e2⟩ => ⟨e1, h.step e2⟩)
  have BW := Lib.hid (show ∀ W, BEF W → Calls Tryz.prog 90 #[.bool t2, .slice (some ⟨W.heap.size, 0, none⟩) 1 1, .pointer (some ⟨w.heap.size + 1, 0, none⟩)] (W.alloc (.cells #[sv q] 9)) fun e W' => e = .returned (.tuple #[]) ∧ AFT W' from fun W h => by
    rw [hBEF] at h
    rw [hAFT, hl3]
    exact ((h.alloc _).add HL.out t2 [q] rfl rfl (heap_alloc_new W _) (by simp; omega) (by simp)).mono fun _ _ ⟨e1, e2, _⟩ => ⟨e1, e2⟩)
  have hb0 : BEF w2 := by rw [hBEF]; exact k2
  have HAF := Lib.hid hAFT
  obtain ⟨d0, d1⟩ := BC.out _ hb0
  clear k2 hl2 hl3 hBEF hAFT c0 c1 c2
  go_wp2_with fail
  go_region_held3 (fun W => (BEF W ∨ AFT W) ∧ W.cell? ⟨w.heap.size, 0, none⟩ = some (.int .u8 (v : Int)) ∧ W.cell? ⟨w.heap.size, 1, none⟩ = some (sv a))
    (first
      | exact ⟨.inl (by assumption), BC.out _ (by assumption)⟩
      | exact ⟨.inr (by assumption), AC.out _ (by assumption)⟩
      | exact ⟨.inl (BD.out _ (by assumption)), BC.out _ (BD.out _ (by assumption))⟩
      | exact ⟨.inr (AD.out _ (by assumption)), AC.out _ (AD.out _ (by assumption))⟩
      | exact ⟨.inl (BA.out _ _ (by assumption)), BC.out _ (BA.out _ _ (by assumption))⟩
      | exact ⟨.inl (BA.out _ _ (BD.out _ (by assumption))), BC.out _ (BA.out _ _ (BD.out _ (by assumption)))⟩)
    (first
      | (go_at_call 87; with_reducible refine (BP.out _ (by first | assumption | exact BD.out _ (by assumption))).mono ?_; rintro e1 w8 ⟨rfl, hR⟩)
      | (go_at_call 39; with_reducible refine (BQ.out _ (by first | assumption | exact BD.out _ (by assumption))).mono ?_; rintro e1 w9 ⟨rfl, hR9⟩)
      | (go_at_call 90; refine (BW.out _ (by first | assumption | exact BD.out _ (by assumption))).mono ?_; rintro e1 wz ⟨rfl, hRz⟩))
  all_goals
    have K3 := Lib.hid (show SH w #[.int .u8 (v : Int), sv a, .slice A ps.length cap] l3 wz by rw [← HAF.out]; exact hRz)
    clear hRz hb0
    obtain ⟨x0, x1, x2⟩ := K3.out.c3
    go_wp2_with fail
    go_loopw [6, 35] (fun _ i wr => ∃ k : Nat, k ≤ ps.length ∧ i = .int .i64 k ∧ SH w #[.int .u8 (v : Int), sv a, .slice A ps.length cap] (l3 ++ psText (ps.take k)) wr) (fun _ i _ => ps.length - (intOf i).toNat)
    case atStart => exact ⟨0, Nat.zero_le _, rfl, by simpa [psText] using K3.out⟩
    case round =>
      obtain ⟨k, hk, rfl, hr⟩ := hrel
      have HR := Lib.hid hr
      by_cases hlt : k < ps.length
      · obtain ⟨g, off, rfl, hgl, q0, q1⟩ := PR.at (HU.out.step hr.bk.below) hlt
        have hpt := HPL.out k hlt
        have hps := HPS.out k
        have hnx := ps_next hlt
        obtain ⟨p, hp⟩ : ∃ p, p = ps.getD k pm0 := ⟨_, rfl⟩
        rw [← hp] at q0 q1 hpt hnx
        obtain ⟨n, x⟩ := p
        dsimp only at q0 q1
        obtain ⟨b, hb⟩ : ∃ b, x.isEmpty = b := ⟨_, rfl⟩
        have hti := pText_is (n, x)
        dsimp only at hti
        rw [hb] at hti
        have hlen := congrArg List.length hti
        rw [List.length_append] at hlen
        have hf1 : ([[32], n] : List (List UInt8)).flatten.length ≤ 6100 := by
          have : (addT true [[32], n]).length = ([[32], n] : List (List UInt8)).flatten.length := rfl
          omega
        have hf2 : ([[61], x] : List (List UInt8)).flatten.length ≤ 7000 := by
          have := HX.out (n, x) (by rw [hp]; exact pm_mem hlt)
          simp; dsimp only at this; omega
        have ha1 : (addT true [[32], n]).length ≤ 6100 := by omega
        have HNX := Lib.hid (show l3 ++ psText (ps.take k) ++ addT true [[32], n] ++ addT (!b) [[61], x] = l3 ++ psText (ps.take (k + 1)) by rw [List.append_assoc (l3 ++ psText (ps.take k)), hti, List.append_assoc, hnx])
        have HF1 := Lib.hid hf1
        have HF2 := Lib.hid hf2
        have HPS2 := Lib.hid hps
        have HA1 := Lib.hid ha1
        have HG := Lib.hid (show ((wr.alloc (.cells #[sv n, sv x] 38)).alloc (.cells #[sv [32], sv n] 9)).heap[wr.heap.size + 1]? = some (.cells #[sv [32], sv n] 9 (0, 0)) by
          have := heap_alloc_new (wr.alloc (.cells #[sv n, sv x] 38)) (.cells #[sv [32], sv n] 9)
          rw [World.size_alloc] at this
          exact this)
        have HPB := Lib.hid (show ((wr.alloc (.cells #[sv n, sv x] 38)).alloc (.cells #[sv [32], sv n] 9)).heap[wr.heap.size]? = some (.cells #[sv n, sv x] 38 (0, 0)) from
          (Lib.alloc_old _ _ _ (by simp)).trans (heap_alloc_new wr _))
        have HSZ := Lib.hid hr.sz
        clear hr hpt hps hnx hp hti hlen hf1 hf2 ha1
        go_wp2_with fail
        refine (((HR.out.alloc _).alloc _).add HL.out true [[32], n] rfl rfl HG.out (by have := HF1.out; have := HPS2.out; rw [List.length_append]; omega) (by simp)).mono ?_
        rintro e w4 ⟨rfl, k4, ok4⟩
        have hpb : w4.heap[wr.heap.size]? = some (.cells #[sv n, sv x] 38 (0, 0)) := ok4 _ _ HPB.out (fun e => by have := Option.some.inj e; have := HSZ.out; omega) (fun cs fz e => by cases e)
        have p1 : w4.cell? ⟨wr.heap.size, 1, none⟩ = some (sv x) := by rw [cellAt hpb]; rfl
        have K4 := Lib.hid k4
        clear k4 ok4 hpb q0 q1
        go_wp2_with fail
        refine ((K4.out.alloc _).add HL.out (!b) [[61], x] rfl rfl (heap_alloc_new w4 _) (by have := HF2.out; have := HPS2.out; have := HA1.out; rw [List.length_append, List.length_append]; omega) (by simp)).mono ?_
        rintro e w5 ⟨rfl, k5, _⟩
        have K5 := Lib.hid (show SH w #[.int .u8 (v : Int), sv a, .slice (some ⟨g, off, none⟩) ps.length cap] (l3 ++ psText (ps.take (k + 1))) w5 by rw [← HNX.out]; exact k5)
        clear k5
        go_wp2
        go_roundw
        case rel => exact ⟨k + 1, by omega, by go_num, K5.out⟩
        case measure => simp [intOf]; omega
      · obtain rfl : k = ps.length := by omega
        have HFin := Lib.hid (show shownK ⟨v, a, ps⟩ = l3 ++ psText ps by rw [HE.out, HT2.out, List.append_assoc])
        have HB := Lib.hid hr.bk.below
        have HS := Lib.hid (Tryz.Builder_String_any_f (w.heap.size + 1) (w.heap.size + 1) _ wr hr.bu (by have := hr.sz; omega))
        clear hr
        go_wp2_with fail
        refine (HS.out).mono ?_
        rintro e w6 ⟨rfl, _, hb6⟩
        have HB6 := Lib.hid (HB.out.trans (hb6.mono (Nat.le_succ _)))
        clear hb6
        go_wp2
        go_ret
        rw [HFin.out]
        exact ⟨rfl, HB6.out⟩

/-- What Show tells. -/
def showV (r : List UInt8 × Nat) : Value := .tuple #[sv r.1, .int .i64 (r.2 : Int)]
set_option maxHeartbeats 2000000 in
theorem showK_any (c : Cm) (u : Value) (w : World) (hu : PR w u c.ps) (hs : SM c) (hL : LW w) :
    Calls Tryz.prog 20 #[cmV c u] w fun e w' => e = .returned (showV (showK c)) ∧ Below w.heap.size w w' := by
  obtain ⟨s1, s2, s3, s4⟩ := hs
  have HM := Lib.hid (show ∀ W, Below w.heap.size w W → Calls Tryz.prog 21 #[cmV c u] W fun e w' => e = .returned (.bool (mayK c)) ∧ Below W.heap.size W w' from fun W hW =>
    mayK_any c u W (hu.step hW) s1 (by omega) (by omega) (fun p hp => by have := s4 p hp; omega) (hL.ml.step hW))
  have HSH := Lib.hid (show mayK c = true → ∀ W, Below w.heap.size w W → Calls Tryz.prog 54 #[cmV c u] W fun e w' => e = .returned (sv (shownK c)) ∧ Below W.heap.size W w' from fun hm W hW =>
    shownK_any c u W (hu.step hW) hm s2 (fun p hp => (s4 p hp).2) (hL.below hW))
  have HK := Lib.hid (show showK c = if mayK c then (if (shownK c).length ≤ 510 then (shownK c, 0) else ([], 40)) else ([], 4) from rfl)
  obtain ⟨A, cap, rfl⟩ := hu.form
  obtain ⟨v, a, ps⟩ := c
  dsimp only at HM HSH ⊢
  have HB0 := Lib.hid (below_alloc w (.cells #[.int .u8 (v : Int), sv a, .slice A ps.length cap] 41))
  have HN := Lib.hid (heap_alloc_new w (.cells #[.int .u8 (v : Int), sv a, .slice A ps.length cap] 41))
  clear hu s1 s2 s3 s4 hL
  obtain ⟨m, hm⟩ : ∃ m, m = mayK ⟨v, a, ps⟩ := ⟨_, rfl⟩
  rw [← hm] at HM HSH HK
  cases m with
  | false =>
    have HF := Lib.hid (show showK ⟨v, a, ps⟩ = ([], 4) from HK.out)
    clear hm
    go_enter Tryz.func20, Tryz.ntmps20
    go_wp2_with fail
    refine (HM.out _ HB0.out).mono ?_
    rintro e w1 ⟨rfl, hb1⟩
    have HB1 := Lib.hid (HB0.out.trans (hb1.mono HB0.out.size))
    clear hb1
    go_wp2
    go_ret2
    rw [HF.out]
    exact ⟨rfl, HB1.out⟩
  | true =>
    obtain ⟨t, ht⟩ : ∃ t, t = shownK ⟨v, a, ps⟩ := ⟨_, rfl⟩
    have HS2 := Lib.hid (HSH.out rfl)
    rw [← ht] at HS2 HK
    clear hm HSH ht
    by_cases hl : t.length ≤ 510
    · have HF := Lib.hid (show showK ⟨v, a, ps⟩ = (t, 0) by rw [HK.out, if_pos hl]; rfl)
      go_enter Tryz.func20, Tryz.ntmps20
      go_wp2_with fail
      refine (HM.out _ HB0.out).mono ?_
      rintro e w1 ⟨rfl, hb1⟩
      have hz := blk_below HN.out hb1
      have c0 : w1.cell? ⟨w.heap.size, 0, none⟩ = some (.int .u8 (v : Int)) := by rw [cellAt hz]; rfl
      have c1 : w1.cell? ⟨w.heap.size, 1, none⟩ = some (sv a) := by rw [cellAt hz]; rfl
      have c2 : w1.cell? ⟨w.heap.size, 2, none⟩ = some (.slice A ps.length cap) := by rw [cellAt hz]; rfl
      have HB1 := Lib.hid (HB0.out.trans (hb1.mono HB0.out.size))
      clear hb1 hz
      go_wp2_with fail
      refine (HS2.out _ HB1.out).mono ?_
      rintro e w2 ⟨rfl, hb2⟩
      have HB2 := Lib.hid (HB1.out.trans (hb2.mono HB1.out.size))
      clear hb2
      go_wp2
      go_ret2
      rw [HF.out]
      exact ⟨rfl, HB2.out⟩
    · have HF := Lib.hid (show showK ⟨v, a, ps⟩ = ([], 40) by rw [HK.out, if_neg hl]; rfl)
      have hl' : 510 < t.length := by omega
      clear hl
      go_enter Tryz.func20, Tryz.ntmps20
      go_wp2_with fail
      refine (HM.out _ HB0.out).mono ?_
      rintro e w1 ⟨rfl, hb1⟩
      have hz := blk_below HN.out hb1
      have c0 : w1.cell? ⟨w.heap.size, 0, none⟩ = some (.int .u8 (v : Int)) := by rw [cellAt hz]; rfl
      have c1 : w1.cell? ⟨w.heap.size, 1, none⟩ = some (sv a) := by rw [cellAt hz]; rfl
      have c2 : w1.cell? ⟨w.heap.size, 2, none⟩ = some (.slice A ps.length cap) := by rw [cellAt hz]; rfl
      have HB1 := Lib.hid (HB0.out.trans (hb1.mono HB0.out.size))
      clear hb1 hz
      go_wp2_with fail
      refine (HS2.out _ HB1.out).mono ?_
      rintro e w2 ⟨rfl, hb2⟩
      have HB2 := Lib.hid (HB1.out.trans (hb2.mono HB1.out.size))
      clear hb2
      go_wp2
      go_ret2
      rw [HF.out]
      exact ⟨rfl, HB2.out⟩
end Go.Proofs.YtbmjmiioobgbfaaGreatDoor
