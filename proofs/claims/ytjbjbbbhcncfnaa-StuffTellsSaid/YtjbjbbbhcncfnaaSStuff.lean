/-
  Stuff's contract: what is sent of a text.
-/
import Derived.Test.YtjbjbbbhcncfnaaSWhole
namespace Go.Proofs.Ytjbjbbbhcncfnaa
open Go Go.RowKit Go.Shelf
set_option maxRecDepth 100000
attribute [local go_sem] Oper.semAt_some

theorem ended_rest {s : List UInt8} (h : ∀ x ∈ itemsL s, x.2 = true) : restL s = [] ∧ (itemsL s).map (·.1) = cutL s := by
  unfold itemsL at h ⊢
  by_cases hr : restL s = []
  · rw [if_pos hr, List.append_nil, List.map_map]
    exact ⟨hr, List.map_id' _⟩
  · rw [if_neg hr] at h
    exact absurd (h (restL s, false) (by simp)) (by simp)
theorem open_rest {s : List UInt8} {x : List UInt8 × Bool} (h : x ∈ itemsL s) (hx : x.2 = false) : restL s ≠ [] ∧ x.1 = restL s := by
  unfold itemsL at h
  by_cases hr : restL s = []
  · rw [if_pos hr] at h
    obtain ⟨y, _, rfl⟩ : ∃ y, y ∈ cutL s ∧ (y, true) = x := by simpa using h
    cases hx
  · rw [if_neg hr] at h
    refine ⟨hr, ?_⟩
    rcases List.mem_append.1 h with h | h
    · obtain ⟨y, _, rfl⟩ := List.mem_map.1 h
      cases hx
    · obtain rfl : x = (restL s, false) := by simpa using h
      rfl

theorem join_len2 (xs : List (List UInt8)) : 2 * xs.length ≤ (joinL xs).length := by
  induction xs with
  | nil => exact Nat.le_refl _
  | cons x xs ih => rw [joinL_cons]; simp only [List.length_append, List.length_cons]; omega

def sentL (pre : List It) : List (List UInt8) := (linesI pre).map dotd
theorem sentL_snoc (pre : List It) (x : It) : sentL (pre ++ [x]) = sentL pre ++ [dotd x.1.1] := by unfold sentL; rw [linesI_snoc]; simp

/-- Between two rounds of Stuff; and where one has left. -/
def StuffI (w : World) (pre : List It) (W : World) : Prop :=
  (Boxed W w.heap.size 9 (sv []) ∧ Boxed W (w.heap.size + 1) 24 (.int .i64 0) ∧ (∃ v, Boxed W (w.heap.size + 2) 23 v ∧ Ows W (w.heap.size + 4) v (sentL pre)) ∧ ∀ x ∈ valsI pre, x.2 = true) ∧ Below w.heap.size w W ∧ w.heap.size + 4 ≤ W.heap.size
def StuffX (w : World) (c : Code) (pre : List It) (W : World) : Prop :=
  (c = .ret ∧ Boxed W w.heap.size 9 (sv []) ∧ Boxed W (w.heap.size + 1) 24 (.int .i64 4) ∧ ∃ x ∈ valsI pre, x.2 = false) ∧ Below w.heap.size w W

theorem ows_notCells {W W' : World} {B base : Nat} {v : Value} {xs : List (List UInt8)} {row : Option Nat} (h : Ows W base v xs) (hg : W.grownBy W' row) (hr : ∀ r, row = some r → B ≤ r ∧ ∃ o : Obj, W.heap[r]? = some o ∧ o.isCells = false) : Ows W' base v xs :=
  h.kept hg fun r e => by
    obtain ⟨_, o, ho, hc⟩ := hr r e
    refine .inr ⟨o, ho, fun cs fr e => ?_⟩
    rw [e] at hc; cases hc

theorem stuffI_from {w : World} {B : Nat} (hB : w.heap.size + 4 ≤ B) : OwnFrom B (StuffI w) := by
  rintro pre W W' row ⟨⟨h1, h2, ⟨v, h3, h4⟩, h5⟩, hb, hs⟩ hg hr
  have ne : ∀ k, k < B → some k ≠ row := fun k hk e => by have := (hr k e.symm).1; omega
  exact ⟨⟨h1.kept hg (ne _ (by omega)), h2.kept hg (ne _ (by omega)), ⟨v, h3.kept hg (ne _ (by omega)), ows_notCells h4 hg hr⟩, h5⟩, hb.grown hg hb.size fun k e => by have := (hr k e).1; omega, Nat.le_trans hs hg.size⟩
theorem stuffX_from {w : World} {B : Nat} (hB : w.heap.size + 4 ≤ B) (c : Code) : OwnFrom B (StuffX w c) := by
  rintro pre W W' row ⟨⟨h1, h2, h3, h4⟩, hb⟩ hg hr
  have ne : ∀ k, k < B → some k ≠ row := fun k hk e => by have := (hr k e.symm).1; omega
  exact ⟨⟨h1, h2.kept hg (ne _ (by omega)), h3.kept hg (ne _ (by omega)), h4⟩, hb.grown hg hb.size fun k e => by have := (hr k e).1; omega⟩

/-- What a round has done that collects a text: the box R holds the row, one text longer; nothing else of the caller's has turned. -/
theorem collect {W : World} {R base n₀ : Nat} {v0 : Value} {outs : List (List UInt8)} (x : List UInt8) (k0 : Boxed W R 23 v0) (k2 : Ows W base v0 outs) (hbase : base ≤ W.heap.size) (hRb : R < base) (hn : n₀ ≤ R) (hlen : outs.length ≤ 4000000) :
    ∃ g cap w2, (Builtin.append_ #[23, 23] 23 #[v0, .slice (some ⟨W.heap.size, 0, none⟩) 1 1]).run Try.prog (W.alloc (.cells #[sv x] 9)) = .ok (.slice (some ⟨g, 0, none⟩) (outs.length + 1) cap) w2 ∧
      w2.cell? ⟨R, 0, none⟩ = some v0 ∧ w2.frozen? ⟨R, 0, none⟩ = false ∧ (∀ k, k < base → k ≠ R → ∀ t u, Boxed W k t u → Boxed (w2.setCell ⟨R, 0, none⟩ (.slice (some ⟨g, 0, none⟩) (outs.length + 1) cap)) k t u) ∧
      KeepsOthers W (w2.setCell ⟨R, 0, none⟩ (.slice (some ⟨g, 0, none⟩) (outs.length + 1) cap)) ∧
      (∀ X, R ∈ X → KpR n₀ X R W (w2.setCell ⟨R, 0, none⟩ (.slice (some ⟨g, 0, none⟩) (outs.length + 1) cap))) ∧
      Boxed (w2.setCell ⟨R, 0, none⟩ (.slice (some ⟨g, 0, none⟩) (outs.length + 1) cap)) R 23 (.slice (some ⟨g, 0, none⟩) (outs.length + 1) cap) ∧
      Ows (w2.setCell ⟨R, 0, none⟩ (.slice (some ⟨g, 0, none⟩) (outs.length + 1) cap)) base (.slice (some ⟨g, 0, none⟩) (outs.length + 1) cap) (outs ++ [x]) := by
  obtain ⟨g, cap, w2, hrun, hown2, hgrow, hbg, hat⟩ := append_two W base v0 outs x k2 hbase hlen
  have own : ∀ j, v0.ownBlock = some j → base ≤ j ∧ ∃ cs fr, W.heap[j]? = some (.cells cs 9 fr) := by
    intro j e
    rcases k2.2 with ⟨rfl, _⟩ | ⟨g', cap, cur, rfl, hb', hgb, _⟩
    · simp [Value.ownBlock] at e
    · obtain rfl : g' = j := by simpa [Value.ownBlock] using e
      exact ⟨hb', _, _, hgb⟩
  have i0 : Boxed w2 R 23 v0 := k0.kept hgrow (fun e => by have := (own R e.symm).1; omega)
  refine ⟨g, cap, w2, hrun, i0.cell, i0.frozen, fun k hk hne t u hu => ?_, ?_, fun X hX => ?_, i0.set _, ?_⟩
  · exact (hu.kept hgrow (fun e => by have := (own k e.symm).1; omega)).other hne _
  · refine (KeepsOthers.of_grownBy hgrow fun j o e ho => ?_).trans (KeepsOthers.setCell _ _ _)
    obtain ⟨_, cs, fr, hc⟩ := own j e
    rw [hc] at ho; cases ho; rfl
  · exact kpr_row hX hn k0 hgrow (fun k e => by have := (own k e).1; omega) hat i0
  · refine hown2.kept (grownBy_setCell' _ _ _) fun r e => ?_
    cases e
    exact .inl hRb

theorem add_dot (x : List UInt8) : ({ data := #[46] } : ByteArray) ++ str x = str (46 :: x) := by apply ByteArray.ext; simp

set_option maxHeartbeats 4000000 in
theorem stuff_any (s : List UInt8) (w : World) (hs : s.length ≤ 2000000) (hM : ML w) :
    Calls Try.prog 9 #[.string (str s)] w fun e w' => e = .returned (.tuple #[sv (stuffL s), .int .i64 (stuffE s)]) ∧ Below w.heap.size w w' := by
  have HM := Lib.hid hM
  have H0 := Lib.hid hM.lt
  clear hM
  refine (callsIn_wide (n := 3)).1 ?_
  refine callsIn_of_wp_marks Try.func9 rfl trivial (wpIn_calmly ?_) rfl
  simp only [Try.ntmps9, List.size_toArray, List.length_cons, List.length_nil, Nat.reduceAdd, Nat.reduceSub, Array.replicate_succ, Array.replicate_zero, List.push_toArray, List.append_toArray, List.nil_append, List.cons_append]
  gi_wp2_with (refine ⟨trivial, ?_⟩; gi_at_call 17; refine (callsIn_wide.2 (lines_any _ _)).mono ?_; rintro e w' ⟨rfl, rfl⟩)
  obtain ⟨Wl, hWl⟩ : ∃ Wl, Wl = (((w.alloc (.cells #[sv []] 9)).alloc (.cells #[.int .i64 0] 24)).alloc (.cells #[.slice none 0 0] 23)).alloc (.cells #[.string (str s)] 9) := ⟨_, rfl⟩
  rw [← hWl]
  have hsz : Wl.heap.size = w.heap.size + 4 := by rw [hWl]; simp
  have hbel : Below w.heap.size w Wl := by rw [hWl]; exact ((((Below.refl _ w).alloc (Nat.le_refl _) _).alloc (by simp) _).alloc (by simp; omega) _).alloc (by simp; omega) _
  have b0 : Boxed Wl w.heap.size 9 (sv []) := by rw [hWl]; exact (((Boxed.new w _ _).alloc _).alloc _).alloc _
  have b1 : Boxed Wl (w.heap.size + 1) 24 (.int .i64 0) := by rw [hWl]; have := Boxed.new (w.alloc (.cells #[sv []] 9)) 24 (.int .i64 0); rw [World.size_alloc] at this; exact (this.alloc _).alloc _
  have b2 : Boxed Wl (w.heap.size + 2) 23 (.slice none 0 0) := by rw [hWl]; have := Boxed.new ((w.alloc (.cells #[sv []] 9)).alloc (.cells #[.int .i64 0] 24)) 23 (.slice none 0 0); rw [World.size_alloc, World.size_alloc] at this; exact this.alloc _
  have b3 : Boxed Wl (w.heap.size + 3) 9 (sv s) := by rw [hWl]; have := Boxed.new (((w.alloc (.cells #[sv []] 9)).alloc (.cells #[.int .i64 0] 24)).alloc (.cells #[.slice none 0 0] 23)) 9 (sv s); rw [World.size_alloc, World.size_alloc, World.size_alloc] at this; exact this
  refine wpIn_rangeFunc_ownF (α := It) (w := Wl) rfl (by omega) (gf := 22) (lb := #[.pointer (some ⟨w.heap.size + 3, 0, none⟩)]) rfl trivial (enters_of Try.func22 (by kernel_rfl) rfl)
    (lines_stops (w.heap.size + 3) w.heap.size s hs H0.out (KpR w.heap.size [w.heap.size + 2] (w.heap.size + 2)) (FreeR [w.heap.size + 2] (w.heap.size + 2)) (kpr_keeps _ _ _) Wl
      (fun W' k hb hk => free_new (by simp; omega) b2.cell rfl (by omega) hb k hk) (HM.out.step hbel) (by omega) b3.cell) kpr_trans (kpr_putObj (by omega) (by omega)) (Below.refl _ _) (fun _ => rfl)
    (StuffI w) (StuffX w) (stuffI_from (by omega)) (stuffX_from (by omega)) ⟨⟨b0, b1, ⟨_, b2, World.ownsRow_nil _ _ _ _⟩, by simp [valsI]⟩, hbel, by omega⟩
    ?acts ?assign ?body ?done ?stop
  case assign =>
    intro l x W K hK
    gi_wp2
    exact hK
  case body =>
    rintro l pre ⟨⟨x, b⟩, hx⟩ W ⟨⟨h1, h2, ⟨v0, h3, h4⟩, h5⟩, hb, hsW⟩ hlen
    dsimp only at hx
    obtain ⟨A0, cp0, rfl⟩ := h4.form
    have c1 := h1.cell
    have f1 := h1.frozen
    have c2 := h2.cell
    have f2 := h2.frozen
    have c3 := h3.cell
    have hol : (sentL pre).length ≤ 4000000 := by unfold sentL; rw [List.length_map, linesI_len]; have := items_len s; omega
    have hcol := fun y => collect (n₀ := w.heap.size) y h3 h4 hsW (by omega) (by omega) hol
    have hxl : x.length ≤ 4000000 := by omega
    have hvs : ∀ z ∈ valsI (pre ++ [⟨(x, b), hx⟩]), b = true → z.2 = true := fun z hz hb => by
      rw [valsI_snoc] at hz
      rcases List.mem_append.1 hz with hz | hz
      · exact h5 z hz
      · obtain rfl : z = (x, b) := by simpa using hz
        exact hb
    have HB := Lib.hid hb
    have HC := Lib.hid hcol
    have HS := Lib.hid hsW
    have K1 := Lib.hid h1
    have K2 := Lib.hid h2
    have HV := Lib.hid hvs
    clear h1 h2 h3 h4 h5 hb hcol hol hsW hvs b0 b1 b2 b3 hbel hWl hlen
    cases b with
    | false =>
      gi_wp2
      refine ⟨(KeepsOthers.setCell _ _ _).trans (KeepsOthers.setCell _ _ _), ⟨rfl, ?_, ?_, (x, false), by rw [valsI_snoc]; simp, rfl⟩, (HB.out.setCell (p := ⟨w.heap.size, 0, none⟩) (Nat.le_refl _) _).setCell (p := ⟨w.heap.size + 1, 0, none⟩) (Nat.le_succ _) _⟩
      · exact (K1.out.set _).other (by omega) _
      · exact (K2.out.other (by omega) _).set _
    | true =>
      cases hd : dotB x with
      | true =>
        have HD := Lib.hid hd
        clear hd
        obtain ⟨g, cap, w2, hrun, d0, d1, d2, d3, d4, d5, d6⟩ := HC.out (46 :: x)
        rw [show sv (46 :: x) = Value.string ({ data := #[46] } ++ str x) by rw [add_dot]] at hrun
        have hadd : ¬ 9223372036854775807 < 1 + x.length := by omega
        have HR := Lib.hid hrun
        have D2 := Lib.hid d2
        have D3 := Lib.hid d3
        have D4 := Lib.hid d4
        have D5 := Lib.hid d5
        have D6 := Lib.hid d6
        have HSN := Lib.hid (show sentL (pre ++ [⟨(x, true), hx⟩]) = sentL pre ++ [46 :: x] by rw [sentL_snoc]; unfold dotd; rw [HD.out]; rfl)
        clear hrun d2 d3 d4 d5 d6 HC
        gi_wp2_with (first | (gi_at_builtin; refine wpListIn_append_run rfl (.tmp 23) (.tmp 25) 23 rfl rfl rfl HR.out ?_) | (refine ⟨trivial, ?_⟩; gi_at_call 18; refine (CallsIn.inRound l (callsIn_wide.2 (undot_any _ _ hxl))).mono ?_; rintro e w' ⟨rfl, rfl⟩; rw [HD.out]))
        refine ⟨D3.out, D4.out [w.heap.size + 2] (by simp), ⟨D2.out _ (by omega) (by omega) _ _ K1.out, D2.out _ (by omega) (by omega) _ _ K2.out, ⟨_, D5.out, ?_⟩, fun z hz => HV.out z hz trivial⟩, HB.out.trans ((D4.out [w.heap.size + 2] (by simp)).1), Nat.le_trans HS.out ?_⟩
        · rw [HSN.out]; exact D6.out
        · exact (D4.out [w.heap.size + 2] (by simp)).1.size
      | false =>
        have HD := Lib.hid hd
        clear hd
        obtain ⟨g, cap, w2, hrun, d0, d1, d2, d3, d4, d5, d6⟩ := HC.out x
        have HR := Lib.hid hrun
        have D2 := Lib.hid d2
        have D3 := Lib.hid d3
        have D4 := Lib.hid d4
        have D5 := Lib.hid d5
        have D6 := Lib.hid d6
        have HSN := Lib.hid (show sentL (pre ++ [⟨(x, true), hx⟩]) = sentL pre ++ [x] by rw [sentL_snoc]; unfold dotd; rw [HD.out]; rfl)
        clear hrun d2 d3 d4 d5 d6 HC
        gi_wp2_with (first | (gi_at_builtin; refine wpListIn_append_run rfl (.tmp 23) (.tmp 25) 23 rfl rfl rfl HR.out ?_) | (refine ⟨trivial, ?_⟩; gi_at_call 18; refine (CallsIn.inRound l (callsIn_wide.2 (undot_any _ _ hxl))).mono ?_; rintro e w' ⟨rfl, rfl⟩; rw [HD.out]))
        refine ⟨D3.out, D4.out [w.heap.size + 2] (by simp), ⟨D2.out _ (by omega) (by omega) _ _ K1.out, D2.out _ (by omega) (by omega) _ _ K2.out, ⟨_, D5.out, ?_⟩, fun z hz => HV.out z hz trivial⟩, HB.out.trans ((D4.out [w.heap.size + 2] (by simp)).1), Nat.le_trans HS.out ?_⟩
        · rw [HSN.out]; exact D6.out
        · exact (D4.out [w.heap.size + 2] (by simp)).1.size
  case done =>
    rintro D xs W hD hxs ⟨⟨h1, h2, ⟨v0, h3, h4⟩, h5⟩, hb, hsW⟩ hK
    rw [hsz] at hD
    obtain ⟨A0, cp0, rfl⟩ := h4.form
    rw [hxs] at h5
    obtain ⟨hr, hcl⟩ := ended_rest h5
    have hsent : sentL xs = (cutL s).map dotd := by unfold sentL linesI; rw [hxs, hcl]
    have hcnt : (joinL ((cutL s).map dotd)).length ≤ 3000000 := by
      rw [len_dotd, join_of_rest hr]
      have h1 := join_len2 (cutL s)
      rw [join_of_rest hr] at h1
      have h2 := List.countP_le_length (p := dotB) (l := cutL s)
      omega
    have hol : (sentL xs).length ≤ 3000000 := by rw [hsent]; have := join_len2 ((cutL s).map dotd); omega
    have hbW : Below w.heap.size w W := hb
    obtain ⟨g, cap, w2, hrun, hown2, hgrow, hbg, hat⟩ := append_two W (w.heap.size + 4) _ (sentL xs) [46] h4 hsW (by omega)
    have own : ∀ j, (Value.slice A0 (sentL xs).length cp0).ownBlock = some j → w.heap.size + 4 ≤ j ∧ ∃ cs fr, W.heap[j]? = some (.cells cs 9 fr) := by
      intro j e
      rcases h4.2 with ⟨e2, _⟩ | ⟨g', cap', cur, e2, hb', hgb, _⟩
      · rw [e2] at e; simp [Value.ownBlock] at e
      · rw [e2] at e
        obtain rfl : g' = j := by simpa [Value.ownBlock] using e
        exact ⟨hb', _, _, hgb⟩
    have hjoin : joinL (sentL xs ++ [[46]]) = stuffL s := by unfold stuffL; rw [if_pos hr, joinL_append, hsent]; simp [joinL]
    have hb2 : Below w.heap.size w w2 := hbW.grown hgrow hbW.size fun k e => by have := (own k e).1; omega
    have hD2 : w2.heap[D]? = some (.deferred (some [])) := (hgrow.block D (Array.getElem?_eq_some_iff.1 hK).1 (fun e => by
      obtain ⟨_, cs, fr, hc⟩ := own D e.symm
      rw [hK] at hc; cases hc)).trans hK
    have i1 : Boxed w2 w.heap.size 9 (sv []) := h1.kept hgrow (fun e => by have := (own _ e.symm).1; omega)
    have i2 : Boxed w2 (w.heap.size + 1) 24 (.int .i64 0) := h2.kept hgrow (fun e => by have := (own _ e.symm).1; omega)
    have hjn := join_any (sentL xs ++ [[46]]) _ w2 (by have := SR.of_own hown2; exact this) (by rw [joinL_append, List.length_append, hsent]; simp [joinL] at hcnt ⊢; omega) (by rw [List.length_append]; simp; omega)
    rw [hjoin] at hjn
    have c3 := h3.cell
    have hse : stuffE s = 0 := by unfold stuffE; rw [if_pos hr]
    have HSE := Lib.hid hse
    have HR := Lib.hid hrun
    have HJ := Lib.hid hjn
    have HB2 := Lib.hid hb2
    have HD2 := Lib.hid hD2
    have I1 := Lib.hid i1
    have I2 := Lib.hid i2
    have hlt : D < w2.heap.size := (Array.getElem?_eq_some_iff.1 hD2).1
    clear h1 h2 h3 h4 h5 hb hbW hsent hcnt hol hrun hown2 hgrow hbg hat own hjoin hb2 hD2 i1 i2 hjn hse hcl hr hK b0 b1 b2 b3 hbel hWl hxs
    gi_wp2_with (first | (gi_at_builtin; refine wpListIn_append_run rfl (.tmp 27) (.tmp 28) 23 rfl rfl rfl HR.out ?_) | (refine ⟨trivial, ?_⟩; gi_at_call 19; refine (callsIn_wide.2 HJ.out).mono ?_; rintro e w3 ⟨rfl, hb3⟩; have g3 := grownBy_of_below hb3 none; have j1 := I1.out.kept g3 (by simp); have j2 := I2.out.kept g3 (by simp); have e1 := j1.cell; have f1 := j1.frozen; have e2 := j2.cell; have f2 := j2.frozen; have J1 := Lib.hid j1; have J2 := Lib.hid j2; have HB3 := Lib.hid hb3; have HD3 := Lib.hid ((hb3.block D hlt).trans HD2.out); clear g3 j1 j2 hb3))
    obtain ⟨X, hX⟩ : ∃ X, X = (w3.setCell ⟨w.heap.size, 0, none⟩ (.string (str (stuffL s)))).setCell ⟨w.heap.size + 1, 0, none⟩ (.int .i64 0) := ⟨_, rfl⟩
    have hXD : X.heap[D]? = some (.deferred (some [])) := by rw [hX, heap_setCell_other _ _ _ _ (by show D ≠ w.heap.size + 1; omega), heap_setCell_other _ _ _ _ (by show D ≠ w.heap.size; omega)]; exact HD3.out
    have x1 : Boxed X w.heap.size 9 (sv (stuffL s)) := by rw [hX]; exact (J1.out.set _).other (by omega) _
    have x2 : Boxed X (w.heap.size + 1) 24 (.int .i64 0) := by rw [hX]; exact (J2.out.other (by omega) _).set _
    have hXb : Below w.heap.size w X := by rw [hX]; exact (((HB2.out.trans (HB3.out.mono HB2.out.size)).setCell (p := ⟨w.heap.size, 0, none⟩) (Nat.le_refl _) _).setCell (p := ⟨w.heap.size + 1, 0, none⟩) (Nat.le_succ _) _)
    rw [← hX]
    clear hX
    have hc1 := ((x1.kept (grownBy_putObj' X D (.deferred none)) (by simp; omega)).cell)
    have hc2 := ((x2.kept (grownBy_putObj' X D (.deferred none)) (by simp; omega)).cell)
    refine ⟨by simp, .inl ⟨_, _, rfl, run_takeDeferred hXD, ?_⟩⟩
    exact ⟨.tuple #[sv (stuffL s), .int .i64 0], by simp [results, Try.results9, go_sem, hc1, hc2], by rw [HSE.out], hXb.trans (belowK_b (w := w) (Nat.le_refl _) X D _ (.deferred none) (by omega) hXD rfl rfl)⟩
  case stop =>
    rintro D c pre W hD hp ⟨⟨rfl, h1, h2, x, hx, hx2⟩, hb⟩ hK
    rw [hsz] at hD
    have hne : restL s ≠ [] := (open_rest (hp.subset hx) hx2).1
    have HN := Lib.hid (show stuffL s = [] ∧ stuffE s = 4 by unfold stuffL stuffE; rw [if_neg hne, if_neg hne]; exact ⟨rfl, rfl⟩)
    have hc1 := ((h1.kept (grownBy_putObj' W D (.deferred none)) (by simp; omega)).cell)
    have hc2 := ((h2.kept (grownBy_putObj' W D (.deferred none)) (by simp; omega)).cell)
    have hbel' := hb.trans (belowK_b (w := w) (Nat.le_refl _) W D _ (.deferred none) (by omega) hK rfl rfl)
    gi_wp2
    refine ⟨by simp, .inl ⟨_, _, rfl, run_takeDeferred hK, ?_⟩⟩
    exact ⟨.tuple #[sv [], .int .i64 4], by simp [results, Try.results9, go_sem, hc1, hc2], by rw [HN.out.1, HN.out.2], hbel'⟩
end Go.Proofs.Ytjbjbbbhcncfnaa
