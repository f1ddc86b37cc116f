/-
  The contracts of head.Get and head.Hops.
-/
import Derived.Test.YtkffdhdhjfbhjaaDoorHCount
namespace Go.Proofs.YtkffdhdhjfbhjaaDoor
set_option linter.unusedSimpArgs false
set_option linter.unusedVariables false
open Go Go.RowKit Go.Shelf
set_option maxRecDepth 100000
attribute [local go_sem] Oper.semAt_some

theorem ows_notCells {W W' : World} {B base : Nat} {v : Value} {xs : List (List UInt8)} {row : Option Nat} (h : Ows W base v xs) (hg : W.grownBy W' row) (hr : ∀ r, row = some r → B ≤ r ∧ ∃ o : Obj, W.heap[r]? = some o ∧ o.isCells = false) : Ows W' base v xs :=
  h.kept hg fun r e => by
    obtain ⟨_, o, ho, hc⟩ := hr r e
    refine .inr ⟨o, ho, fun cs fr e => ?_⟩
    rw [e] at hc; cases hc

/-- What a round has done that collects a text: the box R holds the row, one text longer; nothing else of the caller's has turned. -/
theorem collect {W : World} {R base n₀ : Nat} {v0 : Value} {outs : List (List UInt8)} (x : List UInt8) (k0 : Boxed W R 24 v0) (k2 : Ows W base v0 outs) (hbase : base ≤ W.heap.size) (hRb : R < base) (hn : n₀ ≤ R) (hlen : outs.length ≤ 4000000) :
    ∃ g cap w2, (Builtin.append_ #[24, 24] 24 #[v0, .slice (some ⟨W.heap.size, 0, none⟩) 1 1]).run Tryd.prog (W.alloc (.cells #[sv x] 9)) = .ok (.slice (some ⟨g, 0, none⟩) (outs.length + 1) cap) w2 ∧
      w2.cell? ⟨R, 0, none⟩ = some v0 ∧ w2.frozen? ⟨R, 0, none⟩ = false ∧ (∀ k, k < base → k ≠ R → ∀ t u, Boxed W k t u → Boxed (w2.setCell ⟨R, 0, none⟩ (.slice (some ⟨g, 0, none⟩) (outs.length + 1) cap)) k t u) ∧
      KeepsOthers W (w2.setCell ⟨R, 0, none⟩ (.slice (some ⟨g, 0, none⟩) (outs.length + 1) cap)) ∧
      (∀ X, R ∈ X → KpR n₀ X R W (w2.setCell ⟨R, 0, none⟩ (.slice (some ⟨g, 0, none⟩) (outs.length + 1) cap))) ∧
      Boxed (w2.setCell ⟨R, 0, none⟩ (.slice (some ⟨g, 0, none⟩) (outs.length + 1) cap)) R 24 (.slice (some ⟨g, 0, none⟩) (outs.length + 1) cap) ∧
      Ows (w2.setCell ⟨R, 0, none⟩ (.slice (some ⟨g, 0, none⟩) (outs.length + 1) cap)) base (.slice (some ⟨g, 0, none⟩) (outs.length + 1) cap) (outs ++ [x]) := by
  obtain ⟨g, cap, w2, hrun, hown2, hgrow, hbg, hat⟩ := append_two W base v0 outs x k2 hbase hlen
  have own : ∀ j, v0.ownBlock = some j → base ≤ j ∧ ∃ cs fr, W.heap[j]? = some (.cells cs 9 fr) := by
    intro j e
    rcases k2.2 with ⟨rfl, _⟩ | ⟨g', cap, cur, rfl, hb', hgb, _⟩
    · simp [Value.ownBlock] at e
    · obtain rfl : g' = j := by simpa [Value.ownBlock] using e
      exact ⟨hb', _, _, hgb⟩
  have i0 : Boxed w2 R 24 v0 := k0.kept hgrow (fun e => by have := (own R e.symm).1; omega)
  refine ⟨g, cap, w2, hrun, i0.cell, i0.frozen, fun k hk hne t u hu => ?_, ?_, fun X hX => ?_, i0.set _, ?_⟩
  · exact (hu.kept hgrow (fun e => by have := (own k e.symm).1; omega)).other hne _
  · refine (KeepsOthers.of_grownBy hgrow fun j o e ho => ?_).trans (KeepsOthers.setCell _ _ _)
    obtain ⟨_, cs, fr, hc⟩ := own j e
    rw [hc] at ho; cases ho; rfl
  · exact kpr_row hX hn k0 hgrow (fun k e => by have := (own k e).1; omega) hat i0
  · refine hown2.kept (grownBy_setCell' _ _ _) fun r e => ?_
    cases e
    exact .inl hRb


theorem free_at {X : List Nat} {R : Nat} {w W : World} {v : Value} (hR : w.cell? ⟨R, 0, none⟩ = some v) (hv : v.ownBlock = none) (hRl : R < w.heap.size) (hb : Below w.heap.size w W) {k : Nat} (hk : k ∉ X) : FreeR X R W k := by
  refine ⟨hk, Nat.lt_of_lt_of_le hRl hb.size, fun u hu => ?_⟩
  rw [(hb.cell (p := ⟨R, 0, none⟩) hRl), hR] at hu
  cases hu
  rw [hv]; simp

theorem below_put (w W : World) (D : Nat) (o' : Obj) (hD : w.heap.size ≤ D) (hb : Below w.heap.size w W) : Below w.heap.size w (W.putObj D o') :=
  ⟨hb.os, hb.tape, hb.output, by rw [World.putObj_size]; exact hb.size, fun k hk => (World.putObj_heap_other (by omega)).trans (hb.block k hk)⟩

def valV (pre : List FI) : List (List UInt8) := (valsF pre).map (·.2)
theorem valV_snoc (pre : List FI) (x : FI) : valV (pre ++ [x]) = valV pre ++ [x.1.2] := by unfold valV; rw [valsF_snoc]; simp
theorem get_cF (s nm : List UInt8) : getL s nm = (cF s nm).map (·.2) := rfl

theorem fl_len : ∀ (k : Nat) (ls : List (List UInt8)), (flN k ls).length ≤ ls.length := by
  intro k
  induction k with
  | zero => intro ls; simp [flN]
  | succ k ih =>
    intro ls
    cases ls with
    | nil => simp [flN]
    | cons l r =>
      simp only [flN]
      cases beginB l with
      | none => simp
      | some p =>
        have h1 := ih (r.dropWhile goesB)
        have h2 := dropWhile_len goesB r
        simp only [List.length_cons]
        omega
theorem fields_len (s : List UInt8) : (fieldsL s).length ≤ s.length := by
  have h1 := fl_len (headL s).length (headL s)
  have h2 := head_len s
  unfold fieldsL fl
  omega
theorem cF_len (s nm : List UInt8) : (cF s nm).length ≤ s.length := Nat.le_trans (List.length_filter_le _ _) (fields_len s)

/-- Between two rounds of Get. -/
def GetI (w : World) (pre : List FI) (W : World) : Prop :=
  (∃ v, Boxed W w.heap.size 24 v ∧ Ows W (w.heap.size + 4) v (valV pre)) ∧ Below w.heap.size w W ∧ w.heap.size + 4 ≤ W.heap.size

theorem getI_from {w : World} {B : Nat} (hB : w.heap.size + 4 ≤ B) : OwnFrom B (GetI w) := by
  rintro pre W W' row ⟨⟨v, h3, h4⟩, hb, hs⟩ hg hr
  have ne : ∀ k, k < B → some k ≠ row := fun k hk e => by have := (hr k e.symm).1; omega
  exact ⟨⟨v, h3.kept hg (ne _ (by omega)), ows_notCells h4 hg hr⟩, hb.grown hg hb.size fun k e => by have := (hr k e).1; omega, Nat.le_trans hs hg.size⟩

theorem ows_put {W : World} {base : Nat} {v : Value} {xs : List (List UInt8)} (h : Ows W base v xs) {D : Nat} {o : Obj} (o' : Obj) (hD : W.heap[D]? = some o) (hc : o.isCells = false) : Ows (W.putObj D o') base v xs := ownsRow_putObj h o' hD hc

set_option maxHeartbeats 4000000 in
theorem get_any (s nm : List UInt8) (w : World) (hs : s.length ≤ 1000000) (hn : nm.length ≤ 1000000) (hM : ML w) :
    Calls Tryd.prog 17 #[sv s, sv nm] w fun e w' => ∃ v, e = .returned v ∧ Below w.heap.size w w' ∧ Ows w' w.heap.size v (getL s nm) := by
  have HM := Lib.hid hM
  have H0 := Lib.hid hM.lt
  clear hM
  refine (callsIn_wide (n := 6)).1 ?_
  refine callsIn_of_wp_marks Tryd.func17 rfl trivial (wpIn_calmly ?_) rfl
  simp only [Tryd.ntmps17, List.size_toArray, List.length_cons, List.length_nil, Nat.reduceAdd, Nat.reduceSub, Array.replicate_succ, Array.replicate_zero, List.push_toArray, List.append_toArray, List.nil_append, List.cons_append]
  gi_wp2_with (first | (refine ⟨trivial, ?_⟩; gi_at_call 37; refine (callsIn_wide.2 (named_call _ _)).mono ?_; rintro e w' ⟨rfl, rfl⟩) | (refine ⟨trivial, ?_⟩; gi_at_call 36; refine (callsIn_wide.2 (counted_call _ _ _ _ _)).mono ?_; rintro e w' ⟨rfl, rfl⟩))
  obtain ⟨Wl, hWl⟩ : ∃ Wl, Wl = (((w.alloc (.cells #[.slice none 0 0] 24)).alloc (.cells #[sv nm] 9)).alloc (.cells #[sv s] 9)).alloc (.cells #[namedV (w.heap.size + 1)] 59) := ⟨_, rfl⟩
  rw [← hWl]
  have hsz : Wl.heap.size = w.heap.size + 4 := by rw [hWl]; simp
  have hbel : Below w.heap.size w Wl := by rw [hWl]; exact ((((Below.refl _ w).alloc (Nat.le_refl _) _).alloc (by simp) _).alloc (by simp; omega) _).alloc (by simp; omega) _
  have b0 : Boxed Wl w.heap.size 24 (.slice none 0 0) := by rw [hWl]; exact (((Boxed.new w _ _).alloc _).alloc _).alloc _
  have b1 : Boxed Wl (w.heap.size + 1) 9 (sv nm) := by rw [hWl]; have := Boxed.new (w.alloc (.cells #[.slice none 0 0] 24)) 9 (sv nm); rw [World.size_alloc] at this; exact (this.alloc _).alloc _
  have b2 : Boxed Wl (w.heap.size + 2) 9 (sv s) := by rw [hWl]; have := Boxed.new ((w.alloc (.cells #[.slice none 0 0] 24)).alloc (.cells #[sv nm] 9)) 9 (sv s); rw [World.size_alloc, World.size_alloc] at this; exact this.alloc _
  have b3 : Boxed Wl (w.heap.size + 3) 59 (namedV (w.heap.size + 1)) := by rw [hWl]; have := Boxed.new (((w.alloc (.cells #[.slice none 0 0] 24)).alloc (.cells #[sv nm] 9)).alloc (.cells #[sv s] 9)) 59 (namedV (w.heap.size + 1)); rw [World.size_alloc, World.size_alloc, World.size_alloc] at this; exact this
  have hG : KpG (KpR w.heap.size [w.heap.size] w.heap.size) (FreeR [w.heap.size] w.heap.size) w.heap.size Wl := kpr_g (by omega) (by simp; omega) b0.cell rfl
  have hHC := counted_hands (w.heap.size + 2) (w.heap.size + 3) (w.heap.size + 1) s nm hs hn H0.out Wl hG (HM.out.step hbel) (by omega) b2.cell b3 b1 (fun hb => free_at b0.cell rfl (by omega) hb (by simp)) (fun hb => free_at b0.cell rfl (by omega) hb (by simp))
  have HG := Lib.hid hG
  have HWL := Lib.hid hWl
  have HSZ := Lib.hid hsz
  have hI0 : GetI w [] Wl := ⟨⟨_, b0, World.ownsRow_nil _ _ _ _⟩, hbel, by omega⟩
  clear hG hWl b1 b2 b3 hbel
  refine wpIn_rangeFunc_hd (α := FI) (w := Wl) rfl (by omega) (gf := 51) (lb := #[.pointer (some ⟨w.heap.size + 2, 0, none⟩), .pointer (some ⟨w.heap.size + 3, 0, none⟩)]) rfl trivial (enters_of Tryd.func51 (by kernel_rfl) rfl)
    (handsO_wide hHC) HG.out.trans (fun W' o o' ho hc => HG.out.put W' _ o o' (Nat.le_succ _) ho hc) (fun _ => rfl) (GetI w) (fun _ _ _ => False) (getI_from (by omega)) (fun _ _ _ _ _ h _ _ => h) hI0
    (fun x a' W' => ∃ k, a' = { tmps := #[sv s, sv nm, undef, undef, .slice none 0 0, .pointer (some ⟨w.heap.size, 0, none⟩), .pointer (some ⟨k, 0, none⟩), sv s, sv nm, namedV (w.heap.size + 1), .func (.func 51) #[] #[.pointer (some ⟨w.heap.size + 1 + 1, 0, none⟩), .pointer (some ⟨w.heap.size + 1 + 1 + 1, 0, none⟩)], fv x.1, undef, undef, undef, undef, undef, undef], defers := [] } ∧ FB2 W' k x.1)
    (fun x a' s A B row ⟨k, e, h⟩ hg hr => ⟨k, e, FB2.own x.1 k _ () A B row h hg hr⟩)
    ?assign ?body ?done ?stop
  case assign =>
    intro l' pre x W' K hi hnx hK
    have hsz' : Wl.heap.size ≤ W'.heap.size := by rw [HSZ.out]; exact hi.2.2
    have hii : GetI w pre (W'.alloc (.cells #[sv x.1.1, sv x.1.2] 29)) := (getI_from (w := w) (Nat.le_refl _)).alloc _ hi
    gi_wp2
    exact hK _ _ (keepsFrom_below (below_alloc _ _)) (HG.out.below hsz' (below_alloc _ _)) hii ⟨W'.heap.size, rfl, heap_alloc_new W' _⟩
  case body =>
    rintro l' pre x a' W' ⟨⟨v0, h3, h4⟩, hb, hsW⟩ hnx ⟨k, rfl, hk⟩
    obtain ⟨A0, cp0, rfl⟩ := h4.form
    have c3 := h3.cell
    have k1 := hk.c1
    have hol : (valV pre).length ≤ 4000000 := by
      have h1 := hnx.length_le
      have h2 := cF_len s nm
      unfold valV
      rw [valsF_snoc, List.length_append] at h1
      rw [List.length_map]
      omega
    obtain ⟨g, cap, w2, hrun, d0, d1, d2, d3, d4, d5, d6⟩ := collect (n₀ := w.heap.size) x.1.2 h3 h4 hsW (by omega) (Nat.le_refl _) hol
    have HR := Lib.hid hrun
    have D2 := Lib.hid d2
    have D3 := Lib.hid d3
    have D4 := Lib.hid d4
    have D5 := Lib.hid d5
    have D6 := Lib.hid d6
    have HB := Lib.hid hb
    have HS := Lib.hid hsW
    have HSN := Lib.hid (valV_snoc pre x)
    clear hrun d2 d3 d4 d5 d6 h3 h4 hb hnx
    gi_wp2_with (gi_at_builtin; refine wpListIn_append_run rfl (.tmp 12) (.tmp 15) 24 rfl rfl rfl HR.out ?_)
    refine ⟨D3.out.from _, D4.out [w.heap.size] (by simp), ⟨_, D5.out, ?_⟩, HB.out.trans ((D4.out [w.heap.size] (by simp)).1), Nat.le_trans HS.out ((D4.out [w.heap.size] (by simp)).1.size)⟩
    rw [HSN.out]
    exact D6.out
  case done =>
    rintro D xs W' hD hxs ⟨⟨v0, h3, h4⟩, hb, hsW⟩ hK
    rw [HSZ.out] at hD
    obtain ⟨A0, cp0, rfl⟩ := h4.form
    have c3 := h3.cell
    have hv : valV xs = getL s nm := by rw [get_cF]; unfold valV; rw [hxs]
    rw [hv] at h4 c3
    have HO := Lib.hid (ows_put h4 (.deferred none) hK rfl)
    have HBP := Lib.hid (below_put w W' D (.deferred none) (by omega) hb)
    have HK := Lib.hid hK
    clear h3 h4 hb hK hxs
    gi_wp2
    refine ⟨by simp, .inl ⟨_, _, rfl, run_takeDeferred HK.out, ?_⟩⟩
    exact ⟨.slice A0 (getL s nm).length cp0, by simp [results, Tryd.results17, go_sem], _, rfl, HBP.out, HO.out.lower (by omega)⟩
  case stop =>
    rintro D c pre W' hD hp h
    exact h.elim
end Go.Proofs.YtkffdhdhjfbhjaaDoor
