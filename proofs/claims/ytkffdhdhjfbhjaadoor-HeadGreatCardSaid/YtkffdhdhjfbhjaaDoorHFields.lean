/-
  The contracts of head.Fields (slices.Collect, slices.AppendSeq over the fields' iterator) and head.Body.
-/
import Derived.Test.YtkffdhdhjfbhjaaDoorHRow
namespace Go.Proofs.YtkffdhdhjfbhjaaDoor
set_option linter.unusedSimpArgs false
set_option linter.unusedVariables false
open Go Go.RowKit Go.Shelf
set_option maxRecDepth 100000
attribute [local go_sem] Oper.semAt_some

/-- A round that collects a field. -/
theorem collectF {W : World} {R base n₀ : Nat} {v0 : Value} {outs : List FP} (x : FP) (k0 : Boxed W R 30 v0) (k2 : PO 29 base W v0 outs) (hbase : base ≤ W.heap.size) (hRb : R < base) (hn : n₀ ≤ R) (hlen : outs.length ≤ 1000000) :
    ∃ g cap w2, (Builtin.append_ #[30, 30] 30 #[v0, .slice (some ⟨W.heap.size, 0, none⟩) 1 1]).run Tryd.prog (W.alloc (.cells #[sv x.1, sv x.2] 29)) = .ok (.slice (some ⟨g, 0, none⟩) (outs.length + 1) cap) w2 ∧
      w2.cell? ⟨R, 0, none⟩ = some v0 ∧ w2.frozen? ⟨R, 0, none⟩ = false ∧
      KeepsOthers W (w2.setCell ⟨R, 0, none⟩ (.slice (some ⟨g, 0, none⟩) (outs.length + 1) cap)) ∧
      (∀ X, R ∈ X → KpR n₀ X R W (w2.setCell ⟨R, 0, none⟩ (.slice (some ⟨g, 0, none⟩) (outs.length + 1) cap))) ∧
      Boxed (w2.setCell ⟨R, 0, none⟩ (.slice (some ⟨g, 0, none⟩) (outs.length + 1) cap)) R 30 (.slice (some ⟨g, 0, none⟩) (outs.length + 1) cap) ∧
      PO 29 base (w2.setCell ⟨R, 0, none⟩ (.slice (some ⟨g, 0, none⟩) (outs.length + 1) cap)) (.slice (some ⟨g, 0, none⟩) (outs.length + 1) cap) (outs ++ [x]) := by
  obtain ⟨g, cap, w2, hrun, hown2, hgrow0, hat⟩ := po_append (t := 30) Tryd.underlying30 info_field (by decide) k2 hbase hlen x.1 x.2
  have hgrow : W.grownBy w2 v0.ownBlock := ⟨hgrow0.os, hgrow0.tape, hgrow0.output, Nat.le_trans (by simp) hgrow0.size, fun k hk hne => (hgrow0.block k (by simp; omega) hne).trans (Below.heap_alloc _ _ _ hk)⟩
  have own : ∀ j, v0.ownBlock = some j → base ≤ j ∧ ∃ cs fr, W.heap[j]? = some (.cells cs 29 fr) := by
    intro j e
    rcases k2.2 with ⟨rfl, _⟩ | ⟨g', cap, cur, rfl, hb', hgb, _⟩
    · simp [Value.ownBlock] at e
    · obtain rfl : g' = j := by simpa [Value.ownBlock] using e
      exact ⟨hb', _, _, hgb⟩
  have hbg : base ≤ g := by
    rcases hown2.2 with ⟨e, _⟩ | ⟨g', cap', cur, e, hb', _⟩
    · cases e
    · have : g = g' ∧ cap = cap' := by simpa using e
      omega
  have i0 : Boxed w2 R 30 v0 := k0.kept hgrow (fun e => by have := (own R e.symm).1; omega)
  refine ⟨g, cap, w2, hrun, i0.cell, i0.frozen, ?_, fun X hX => ?_, i0.set _, ?_⟩
  · refine (KeepsOthers.of_grownBy hgrow fun j o e ho => ?_).trans (KeepsOthers.setCell _ _ _)
    obtain ⟨_, cs, fr, hc⟩ := own j e
    rw [hc] at ho; cases ho; rfl
  · exact kpr_row hX hn k0 hgrow (fun k e => by have := (own k e).1; omega) (hat.imp id fun h => by omega) i0
  · refine hown2.set (fun g' e => ?_) _
    have : g = g' := by simpa [Value.ownBlock] using e
    omega

/-- Between two rounds. -/
def AppI (w : World) (pre : List FI) (W : World) : Prop :=
  (∃ v, Boxed W w.heap.size 30 v ∧ PO 29 (w.heap.size + 1) W v (valsF pre)) ∧ Below w.heap.size w W ∧ w.heap.size + 1 ≤ W.heap.size

theorem po_notCells {e : TypeId} {W W' : World} {B base : Nat} {v : Value} {xs : List FP} {row : Option Nat} (h : PO e base W v xs) (hg : W.grownBy W' row) (hr : ∀ r, row = some r → B ≤ r ∧ ∃ o : Obj, W.heap[r]? = some o ∧ o.isCells = false) : PO e base W' v xs := by
  refine h.old hg fun g e1 e2 => ?_
  obtain ⟨_, o, ho, hc⟩ := hr g e2.symm
  rcases h.2 with ⟨rfl, _⟩ | ⟨g', cap, cur, rfl, hb', hgb, _⟩
  · simp [Value.ownBlock] at e1
  · obtain rfl : g' = g := by simpa [Value.ownBlock] using e1
    rw [hgb] at ho; cases ho; cases hc

theorem appI_from {w : World} {B : Nat} (hB : w.heap.size + 1 ≤ B) : OwnFrom B (AppI w) := by
  rintro pre W W' row ⟨⟨v, h3, h4⟩, hb, hs⟩ hg hr
  have ne : ∀ k, k < B → some k ≠ row := fun k hk e => by have := (hr k e.symm).1; omega
  exact ⟨⟨v, h3.kept hg (ne _ (by omega)), po_notCells h4 hg hr⟩, hb.grown hg hb.size fun k e => by have := (hr k e).1; omega, Nat.le_trans hs hg.size⟩

set_option maxHeartbeats 4000000 in
theorem appendSeq_any (Bs : Nat) (s : List UInt8) (w : World) (hs : s.length ≤ 1000000) (hM : ML w) (hBs : Bs < w.heap.size) (hB : w.cell? ⟨Bs, 0, none⟩ = some (sv s)) :
    Calls Tryd.prog 53 #[.slice none 0 0, .func (.func 54) #[] #[.pointer (some ⟨Bs, 0, none⟩)]] w fun e w' => ∃ v, e = .returned v ∧ Below w.heap.size w w' ∧ PO 29 w.heap.size w' v (fieldsL s) := by
  have HM := Lib.hid hM
  have H0 := Lib.hid hM.lt
  clear hM
  refine (callsIn_wide (n := 6)).1 ?_
  refine callsIn_of_wp_marks Tryd.func53 rfl trivial (wpIn_calmly ?_) rfl
  simp only [Tryd.ntmps53, List.size_toArray, List.length_cons, List.length_nil, Nat.reduceAdd, Nat.reduceSub, Array.replicate_succ, Array.replicate_zero, List.push_toArray, List.append_toArray, List.nil_append, List.cons_append]
  gi_wp2
  obtain ⟨Wl, hWl⟩ : ∃ Wl, Wl = w.alloc (.cells #[.slice none 0 0] 30) := ⟨_, rfl⟩
  rw [← hWl]
  have hsz : Wl.heap.size = w.heap.size + 1 := by rw [hWl]; simp
  have hbel : Below w.heap.size w Wl := by rw [hWl]; exact below_alloc _ _
  have b0 : Boxed Wl w.heap.size 30 (.slice none 0 0) := by rw [hWl]; exact Boxed.new w _ _
  have hG : KpG (KpR w.heap.size [w.heap.size] w.heap.size) (FreeR [w.heap.size] w.heap.size) w.heap.size Wl := kpr_g (by omega) (by simp; omega) b0.cell rfl
  have hHC := fields_hands Bs s hs H0.out Wl hG (HM.out.step hbel) (by omega) ((hbel.cell (p := ⟨Bs, 0, none⟩) hBs).trans hB)
  have HG := Lib.hid hG
  have HWL := Lib.hid hWl
  have HSZ := Lib.hid hsz
  have hI0 : AppI w [] Wl := ⟨⟨_, b0, PO.nil _ _ _⟩, hbel, by omega⟩
  clear hG hWl hbel
  refine wpIn_rangeFunc_hd (α := FI) (w := Wl) rfl (by omega) (gf := 54) (lb := #[.pointer (some ⟨Bs, 0, none⟩)]) rfl trivial (enters_of Tryd.func54 (by kernel_rfl) rfl)
    (handsO_wide hHC) HG.out.trans (fun W' o o' ho hc => HG.out.put W' _ o o' (Nat.le_succ _) ho hc) (fun _ => rfl) (AppI w) (fun _ _ _ => False) (appI_from (by omega)) (fun _ _ _ _ _ h _ _ => h) hI0
    (fun x a' W' => ∃ k, a' = { tmps := #[.slice none 0 0, .func (.func 54) #[] #[.pointer (some ⟨Bs, 0, none⟩)], .pointer (some ⟨w.heap.size, 0, none⟩), undef, .slice none 0 0, .pointer (some ⟨k, 0, none⟩), .func (.func 54) #[] #[.pointer (some ⟨Bs, 0, none⟩)], fv x.1, undef, undef, undef, undef, undef], defers := [] } ∧ FB2 W' k x.1)
    (fun x a' s A B row ⟨k, e, h⟩ hg hr => ⟨k, e, FB2.own x.1 k _ () A B row h hg hr⟩)
    ?assign ?body ?done ?stop
  case assign =>
    intro l' pre x W' K hi hnx hK
    have hsz' : Wl.heap.size ≤ W'.heap.size := by rw [HSZ.out]; exact hi.2.2
    have hii : AppI w pre (W'.alloc (.cells #[sv x.1.1, sv x.1.2] 29)) := (appI_from (w := w) (Nat.le_refl _)).alloc _ hi
    gi_wp2
    exact hK _ _ (keepsFrom_below (below_alloc _ _)) (HG.out.below hsz' (below_alloc _ _)) hii ⟨W'.heap.size, rfl, heap_alloc_new W' _⟩
  case body =>
    rintro l' pre x a' W' ⟨⟨v0, h3, h4⟩, hb, hsW⟩ hnx ⟨k, rfl, hk⟩
    obtain ⟨A0, cp0, rfl⟩ := h4.form
    have c3 := h3.cell
    have k0 := hk.c0
    have k1 := hk.c1
    have hol : (valsF pre).length ≤ 1000000 := by
      have h1 := hnx.length_le
      have h2 := fields_len s
      rw [valsF_snoc, List.length_append] at h1
      omega
    obtain ⟨g, cap, w2, hrun, d0, d1, d3, d4, d5, d6⟩ := collectF (n₀ := w.heap.size) x.1 h3 h4 hsW (by omega) (Nat.le_refl _) hol
    have HR := Lib.hid hrun
    have D3 := Lib.hid d3
    have D4 := Lib.hid d4
    have D5 := Lib.hid d5
    have D6 := Lib.hid d6
    have HB := Lib.hid hb
    have HS := Lib.hid hsW
    have HSN := Lib.hid (valsF_snoc pre x)
    clear hrun d3 d4 d5 d6 h3 h4 hb hnx
    gi_wp2_with (gi_at_builtin; refine wpListIn_append_run rfl (.tmp 8) (.tmp 10) 30 rfl rfl rfl HR.out ?_)
    refine ⟨D3.out.from _, D4.out [w.heap.size] (by simp), ⟨_, D5.out, ?_⟩, HB.out.trans ((D4.out [w.heap.size] (by simp)).1), Nat.le_trans HS.out ((D4.out [w.heap.size] (by simp)).1.size)⟩
    rw [HSN.out]
    exact D6.out
  case done =>
    rintro D xs W' hD hxs ⟨⟨v0, h3, h4⟩, hb, hsW⟩ hK
    rw [HSZ.out] at hD
    rw [hxs] at h4
    obtain ⟨A0, cp0, rfl⟩ := h4.form
    have c3 := h3.cell
    have HO := Lib.hid (show PO 29 (w.heap.size + 1) (W'.putObj D (.deferred none)) _ _ from ownsRow_putObj h4 (.deferred none) hK rfl)
    have HBP := Lib.hid (below_put w W' D (.deferred none) (by omega) hb)
    have HK := Lib.hid hK
    clear h3 h4 hb hK hxs
    gi_wp2
    refine ⟨by simp, .inl ⟨_, _, rfl, run_takeDeferred HK.out, ?_⟩⟩
    exact ⟨.slice A0 (fieldsL s).length cp0, by simp [results, Tryd.results53, go_sem], _, rfl, HBP.out, HO.out.lower (by omega)⟩
  case stop =>
    rintro D c pre W' hD hp h
    exact h.elim

theorem collect_any (Bs : Nat) (s : List UInt8) (w : World) (hs : s.length ≤ 1000000) (hM : ML w) (hBs : Bs < w.heap.size) (hB : w.cell? ⟨Bs, 0, none⟩ = some (sv s)) :
    Calls Tryd.prog 39 #[.func (.func 54) #[] #[.pointer (some ⟨Bs, 0, none⟩)]] w fun e w' => ∃ v, e = .returned v ∧ Below w.heap.size w w' ∧ PO 29 w.heap.size w' v (fieldsL s) := by
  have HA := Lib.hid (appendSeq_any Bs s w hs hM hBs hB)
  clear hM hB
  go_enter Tryd.func39, Tryd.ntmps39
  go_wp2_with (go_at_call 53; refine HA.out.mono ?_; rintro e w' ⟨v, rfl, hb, ho⟩)
  go_ret
  exact ⟨v, rfl, hb, ho⟩

theorem fields_any (s : List UInt8) (w : World) (hs : s.length ≤ 1000000) (hM : ML w) :
    Calls Tryd.prog 16 #[sv s] w fun e w' => ∃ v, e = .returned v ∧ Below w.heap.size w w' ∧ PO 29 w.heap.size w' v (fieldsL s) := by
  have HA := Lib.hid (collect_any w.heap.size s (w.alloc (.cells #[sv s] 9)) hs (hM.step (below_alloc _ _)) (by simp) (by rw [cellAt (heap_alloc_new w _)]; rfl))
  clear hM
  go_enter Tryd.func16, Tryd.ntmps16
  go_wp2_with (first | (go_at_call 40; refine (fields_call _ _).mono ?_; rintro e w' ⟨rfl, rfl⟩) | (go_at_call 39; refine HA.out.mono ?_; rintro e w' ⟨v, rfl, hb, ho⟩))
  go_ret
  exact ⟨v, rfl, (below_alloc _ _).trans (hb.mono (by simp)), ho.lower (by simp)⟩
end Go.Proofs.YtkffdhdhjfbhjaaDoor
