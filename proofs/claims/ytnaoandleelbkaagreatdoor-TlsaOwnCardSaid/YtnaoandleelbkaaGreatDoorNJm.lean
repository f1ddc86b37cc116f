/-
  The contract of package name's Labels.
  The contract of package name's Pattern.
-/
import Derived.Maps.AppendAt
import Derived.BigRegion
import Derived.RangeFuncBox
import Derived.Test.YtnaoandleelbkaaGreatDoorNIm
namespace Go.Proofs.YtnaoandleelbkaaGreatDoor
set_option linter.unusedSimpArgs false
set_option linter.unusedVariables false
open Go Go.RowKit Go.Shelf
set_option maxRecDepth 100000
attribute [local go_sem] Oper.semAt_some

theorem info_string : (Tryz.prog.info? 9).map (fun i => (i.zero, i.size, i.bytes)) = some (some (.string ⟨#[]⟩), 1, 16) := by kernel_rfl

/-- 'append(out, x)', the row the call's own. -/
theorem append_text (W : World) (base : Nat) (v : Value) (outs : List (List UInt8)) (x : List UInt8) (hown : W.ownsRow base 9 1 v outs.length (outs.map sv)) (hbase : base ≤ W.heap.size) (hlen : outs.length ≤ 200000) :
    ∃ g cap w2, (Builtin.append_ #[25, 25] 25 #[v, .slice (some ⟨W.heap.size, 0, none⟩) 1 1]).run Tryz.prog (W.alloc (.cells #[sv x] 9)) = .ok (.slice (some ⟨g, 0, none⟩) (outs.length + 1) cap) w2 ∧
      w2.ownsRow base 9 1 (.slice (some ⟨g, 0, none⟩) (outs.length + 1) cap) (outs ++ [x]).length ((outs ++ [x]).map sv) ∧ W.grownBy w2 v.ownBlock ∧ base ≤ g := by
  obtain ⟨i0, hi, hz0, hz1, hz2⟩ := info_parts info_string
  obtain ⟨v', w2, hrun, hown2, hgrow, _⟩ := run_append_own (P := Tryz.prog) (W.alloc (.cells #[sv x] 9)) base 25 25 9 i0 (.string ⟨#[]⟩) 1 16 Tryz.underlying25 hi hz0 hz1 hz2 rfl (by decide) v outs.length (outs.map sv) (World.ownsRow.alloc hown _)
    ⟨W.heap.size, 0, none⟩ 1 1 [sv x] rfl (cell_one_new _ _ _) (by simp [Value.oneCell']) (by unfold maxLen; omega) (by omega) (by simp; omega)
  obtain ⟨g, cap, rfl⟩ := ownsRow_succ hown2
  refine ⟨g, cap, w2, hrun, by simpa using hown2, ?_, ?_⟩
  · exact ⟨hgrow.os, hgrow.tape, hgrow.output, Nat.le_trans (by simp) hgrow.size, fun k hk hne => (hgrow.block k (by simp; omega) hne).trans (Below.heap_alloc _ _ _ hk)⟩
  · rcases hown2.2 with ⟨h, _⟩ | ⟨g', c', _, h, hb, _⟩
    · cases h
    · have : g = g' ∧ cap = c' := by simpa using h
      omega

/-- An append in a region that draws its order, where its run is known. -/
theorem stepIn_append {F : Fence} {n : Nat} {P : Program} {ops : Array Oper} {o : Oper} {a : Act} {w w' : World} {K : Act → World → Prop} {Q : Exit → Act → World → Prop} {E : Prop} {v v' xv : Value}
    (hg : o.guard = none) (s x : Operand) (t : TypeId) (hop : o.op = Op.call { callee := Callee.builtin Builtin.append, args := #[s, x], argTypes := #[t, t] }) (hs : a.eval s = v) (hx : a.eval x = xv)
    (hrun : (Builtin.append_ #[t, t] o.type #[v, xv]).run P w = .ok v' w') (hK : K (a.put o.dst v') w') :
    if Region.wanted o (yielded ops a.tmps) = true then Oper.wpIn F n P o a w K Q else E := by
  have hw : Region.wanted o (yielded ops a.tmps) = true := by simp [Region.wanted, hg]
  rw [if_pos hw]
  unfold Oper.wpIn
  refine ⟨?_, ?_⟩
  · simp [Oper.about, hop, resolve, Target.leads, Sem.run_pure]
  · rw [Oper.semAt_plain F _ _ (by rw [hop]; intro c hc'; cases hc')]
    simp [execOp, hop, resolve, invoke, builtin, hs, hx, hrun, Result.andThen]
    exact hK

/-- What a round has done: the box B holds the row, one text longer. -/
def LabDone (base B : Nat) (W W' : World) (v : Value) (outs : List (List UInt8)) : Prop :=
  KeepsOthers W W' ∧ Below base W W' ∧ Boxed W' B 25 v ∧ W'.ownsRow base 9 1 v outs.length (outs.map sv)

theorem lab_round {W w1 : World} {B base : Nat} {v0 : Value} {outs : List (List UInt8)} (a : List UInt8) (hB : base ≤ B) (k0 : Boxed W B 25 v0) (k2 : W.ownsRow base 9 1 v0 outs.length (outs.map sv)) (hbase : base ≤ W.heap.size) (hlen : outs.length ≤ 200000) (hb : Below W.heap.size W w1) :
    ∃ g cap w2, (Builtin.append_ #[25, 25] 25 #[v0, .slice (some ⟨w1.heap.size, 0, none⟩) 1 1]).run Tryz.prog (w1.alloc (.cells #[sv a] 9)) = .ok (.slice (some ⟨g, 0, none⟩) (outs.length + 1) cap) w2 ∧
      w1.cell? ⟨B, 0, none⟩ = some v0 ∧ (∀ o, (w1.alloc o).cell? ⟨B, 0, none⟩ = some v0) ∧ w2.cell? ⟨B, 0, none⟩ = some v0 ∧ w2.frozen? ⟨B, 0, none⟩ = false ∧
      LabDone base B W (w2.setCell ⟨B, 0, none⟩ (.slice (some ⟨g, 0, none⟩) (outs.length + 1) cap)) (.slice (some ⟨g, 0, none⟩) (outs.length + 1) cap) (outs ++ [a]) := by
  have hg1 := grownBelow hb none
  have j0 := k0.kept hg1 (by simp)
  have j2 : w1.ownsRow base 9 1 v0 outs.length (outs.map sv) := k2.kept (row := none) hg1 (by
    rcases h' : v0.ownBlock with _ | g
    · exact .inl rfl
    · exact .inr (by simp))
  obtain ⟨g, cap, w2, hrun, hown2, hgrow, hbg⟩ := append_text w1 base v0 outs a j2 (Nat.le_trans hbase hb.size) hlen
  have own : ∀ j, v0.ownBlock = some j → base ≤ j ∧ ∃ cs fr, w1.heap[j]? = some (.cells cs 9 fr) := by
    intro j e
    rcases j2.2 with ⟨rfl, _⟩ | ⟨g', cap, cur, rfl, hb', hgb, _⟩
    · simp [Value.ownBlock] at e
    · obtain rfl : g' = j := by simpa [Value.ownBlock] using e
      exact ⟨hb', _, _, hgb⟩
  have i0 : Boxed w2 B 25 v0 := j0.kept hgrow (j0.not_row (by decide) j2)
  refine ⟨g, cap, w2, hrun, j0.cell, fun o => (j0.alloc o).cell, i0.cell, i0.frozen, ?_, ?_, i0.set _, ?_⟩
  · refine ((KeepsOthers.of_grownBy hg1 fun j o e _ => by cases e).trans (KeepsOthers.of_grownBy hgrow fun j o e ho => ?_)).trans (KeepsOthers.setCell _ _ _)
    obtain ⟨_, cs, fr, hc⟩ := own j e
    rw [hc] at ho; cases ho; rfl
  · have h1 : Below base W w1 := hb.mono hbase
    have h2 : Below base W w2 := h1.grown hgrow (Nat.le_trans hbase hb.size) fun k e => (own k e).1
    exact h2.setCell (p := ⟨B, 0, none⟩) hB _
  · exact hown2.kept (grownBy_setCell' _ _ _) (.inr (i0.not_row (by decide) hown2).symm)

/-- Between two rounds. -/
def LabI (w : World) (B : Nat) (pre : List Part) (W : World) : Prop :=
  (∃ v, Boxed W B 25 v ∧ W.ownsRow w.heap.size 9 1 v (vals pre).length ((vals pre).map sv) ∧ True) ∧ Below w.heap.size w W
theorem labI_from {w : World} {B C : Nat} (hC : w.heap.size ≤ C) : OwnFrom C (LabI w B) :=
  OwnFrom.and (Own.from (holdsRow_own w.heap.size B 25 9 1 (fun pre => (vals pre).length) (fun pre => (vals pre).map sv) (fun _ _ => True)) _) (ownFrom_below (Nat.le_refl _) hC)

theorem lab_close {w W W' : World} {B : Nat} {v : Value} {pre : List Part} {x : Part} (h : LabDone w.heap.size B W W' v (vals pre ++ [x.1])) (hb : Below w.heap.size w W) :
    KeepsOthers W W' ∧ Below w.heap.size W W' ∧ LabI w B (pre ++ [x]) W' := by
  obtain ⟨h1, h2, h3, h4⟩ := h
  exact ⟨h1, h2, ⟨v, h3, by rw [vals_snoc]; exact h4, trivial⟩, hb.trans h2⟩

/-- What Labels leaves. -/
def LabPost (w : World) (s : List UInt8) (e : Ending) (w' : World) : Prop := ∃ v, e = .returned v ∧ GV 9 w v ((labelsL s).map sv) w'

theorem labels_not (s : List UInt8) (w : World) (hs : s.length ≤ 1000000) (hM : ML w) (hm : mayL s = false) : Calls Tryz.prog 143 #[.string (str s)] w (LabPost w s) := by
  have HF := Lib.hid hm
  have HM := Lib.hid hM
  clear hm hM
  go_enter Tryz.func143, Tryz.ntmps143
  go_wp2_with (go_at_call 144; refine (may_any _ _ hs HM.out).mono ?_; rintro e w' ⟨rfl, hb⟩; rw [HF.out])
  go_ret
  refine ⟨_, rfl, ?_⟩
  unfold labelsL
  rw [HF.out]
  exact ⟨hb, World.ownsRow_nil _ _ _ _⟩

set_option maxHeartbeats 4000000 in
theorem labels_yes (s : List UInt8) (w : World) (hM : ML w) (hm : mayL s = true) : Calls Tryz.prog 143 #[.string (str s)] w (LabPost w s) := by
  have hs := may_len hm
  have HF := Lib.hid hm
  have HM := Lib.hid hM
  clear hm hM
  refine (callsIn_wide (n := 3)).1 ?_
  refine callsIn_of_wp_marks Tryz.func143 rfl trivial (wpIn_calmly ?_) rfl
  simp only [Tryz.ntmps143, List.size_toArray, List.length_cons, List.length_nil, Nat.reduceAdd, Nat.reduceSub, Array.replicate_succ, Array.replicate_zero, List.push_toArray, List.append_toArray, List.nil_append, List.cons_append]
  gi_wp2_with fail
  refine ⟨trivial, ?_⟩
  refine (callsIn_wide.2 (may_any _ _ (by omega) HM.out)).mono ?_
  rintro e wm ⟨rfl, hbm⟩
  rw [HF.out]
  have HBM := Lib.hid hbm
  clear hbm
  gi_wp2_with (refine ⟨trivial, ?_⟩; gi_at_call 179; refine (callsIn_wide.2 (labels_any _ _)).mono ?_; rintro e w' ⟨rfl, rfl⟩)
  obtain ⟨Wl, hWl⟩ : ∃ Wl, Wl = (wm.alloc (.cells #[.slice none 0 0] 25)).alloc (.cells #[.string (str s)] 9) := ⟨_, rfl⟩
  rw [← hWl]
  have hsz : Wl.heap.size = wm.heap.size + 2 := by rw [hWl]; simp
  have hsw := HBM.out.size
  have hbel : Below w.heap.size w Wl := by rw [hWl]; exact (HBM.out.alloc (by omega) _).alloc (by simp; omega) _
  have b0 : Boxed Wl wm.heap.size 25 (.slice none 0 0) := by rw [hWl]; exact (Boxed.new wm _ _).alloc _
  have b1 : Boxed Wl (wm.heap.size + 1) 9 (sv s) := by rw [hWl]; have := Boxed.new (wm.alloc (.cells #[.slice none 0 0] 25)) 9 (sv s); rw [World.size_alloc] at this; exact this
  have hmx : Tryz.prog.follows .mixedOrders = true := by kernel_rfl
  refine wpIn_rangeFunc_ownF (α := Part) (w := Wl) rfl (by omega) (gf := 206) (lb := #[.pointer (some ⟨wm.heap.size + 1, 0, none⟩)]) rfl trivial (enters_of Tryz.func206 (by kernel_rfl) rfl)
    (labels_stops (wm.heap.size + 1) w.heap.size s (by omega) HM.out.lt Wl (HM.out.step hbel) (by omega) b1.cell) belowK_t (belowK_b (by omega)) (Below.refl _ _) (fun _ => rfl)
    (LabI w wm.heap.size) (fun _ _ _ => False) (labI_from (by omega)) (fun _ _ _ _ _ h _ _ => h) ⟨⟨_, b0, World.ownsRow_nil _ _ _ _, trivial⟩, hbel⟩
    (fun x => { tmps := #[.string (str s), undef, .slice none 0 0, .pointer (some ⟨wm.heap.size, 0, none⟩), .string (str x.1), .string (str s), .bool true, .bool false, .string (str s), .func (.func 206) #[] #[.pointer (some ⟨wm.heap.size + 1, 0, none⟩)], .string (str x.1), undef, undef, undef, undef, undef, undef], defers := [] }) ?assign ?body ?done ?stop
  case assign =>
    intro l x W K hK
    gi_wp2
    exact hK
  case body =>
    rintro l pre ⟨x, hx⟩ W ⟨⟨v0, k0, k2, _⟩, hb⟩ hpl
    have hlen : (vals pre).length ≤ 200000 := by have := cutD_len s; simp only [vals, List.length_map]; omega
    have c0 := k0.cell
    have rf := fun w1 hb' => lab_round (W := W) (w1 := w1) (B := wm.heap.size) (base := w.heap.size) x hsw k0 k2 hb.size hlen hb'
    have hal : (str x).size ≤ 281474976710656 := by simp [ByteArray.size]; omega
    have RF := Lib.hid rf
    have HAL := Lib.hid hal
    have HB := Lib.hid hb
    clear rf hal hb k0 k2 hlen hpl b0 b1 hbel hWl
    gi_wp2
    refine wpIn_region_any (by kernel_rfl) ?_
    change wpAnyIn _ _ _ _ _ _ _ _ _ (World.drew _)
    refine wpAnyIn_ready (rs := [0, 1]) (by kernel_rfl) (by simp) ?_
    refine AllReadyIn.cons rfl (fun K hK => ?_) (AllReadyIn.cons rfl (fun K hK => ?_) (AllReadyIn.nil))
    · go_simp
      refine hK _ _ ?_; clear hK K
      refine wpAnyIn_ready (rs := [1]) (by kernel_rfl) (by simp) ?_
      refine AllReadyIn.cons rfl (fun K hK => ?_) (AllReadyIn.nil)
      go_simp
      refine hK _ _ ?_; clear hK K
      refine wpAnyIn_ready (rs := [2]) (by kernel_rfl) (by simp) ?_
      refine AllReadyIn.cons rfl (fun K hK => ?_) (AllReadyIn.nil)
      go_simp
      refine ⟨trivial, ?_⟩
      refine (CallsIn.inRound l (callsIn_wide.2 (clone_any _ _ HAL.out))).mono ?_
      rintro e w1 ⟨rfl, hb1⟩
      obtain ⟨g, cap, w2, hrun, d0, d0', d1, d2, d3⟩ := RF.out w1 ⟨hb1.os, hb1.tape, hb1.output, hb1.size, hb1.block⟩; clear hb1
      have D3 := Lib.hid d3; clear d3
      refine hK _ _ ?_; clear hK K
      refine wpAnyIn_ready (rs := [3]) (by kernel_rfl) (by simp) ?_
      refine AllReadyIn.cons rfl (fun K hK => ?_) (AllReadyIn.nil)
      go_simp
      refine hK _ _ ?_; clear hK K
      refine wpAnyIn_ready (rs := [4]) (by kernel_rfl) (by simp) ?_
      refine AllReadyIn.cons rfl (fun K hK => ?_) (AllReadyIn.nil)
      refine stepIn_append rfl (.tmp 11) (.tmp 14) 25 rfl rfl rfl hrun ?_
      refine hK _ _ ?_; clear hK K
      refine wpAnyIn_ready (rs := [5]) (by kernel_rfl) (by simp) ?_
      refine AllReadyIn.cons rfl (fun K hK => ?_) (AllReadyIn.nil)
      go_simp
      refine hK _ _ ?_; clear hK K
      refine wpAnyIn_done (by kernel_rfl) ?_ _
      gi_wp2
      exact lab_close D3.out HB.out
    · go_simp
      refine hK _ _ ?_; clear hK K
      refine wpAnyIn_ready (rs := [0, 2]) (by kernel_rfl) (by simp) ?_
      refine AllReadyIn.cons rfl (fun K hK => ?_) (AllReadyIn.cons rfl (fun K hK => ?_) (AllReadyIn.nil))
      · go_simp
        refine hK _ _ ?_; clear hK K
        refine wpAnyIn_ready (rs := [2]) (by kernel_rfl) (by simp) ?_
        refine AllReadyIn.cons rfl (fun K hK => ?_) (AllReadyIn.nil)
        go_simp
        refine ⟨trivial, ?_⟩
        refine (CallsIn.inRound l (callsIn_wide.2 (clone_any _ _ HAL.out))).mono ?_
        rintro e w1 ⟨rfl, hb1⟩
        obtain ⟨g, cap, w2, hrun, d0, d0', d1, d2, d3⟩ := RF.out w1 ⟨hb1.os, hb1.tape, hb1.output, hb1.size, hb1.block⟩; clear hb1
        have D3 := Lib.hid d3; clear d3
        refine hK _ _ ?_; clear hK K
        refine wpAnyIn_ready (rs := [3]) (by kernel_rfl) (by simp) ?_
        refine AllReadyIn.cons rfl (fun K hK => ?_) (AllReadyIn.nil)
        go_simp
        refine hK _ _ ?_; clear hK K
        refine wpAnyIn_ready (rs := [4]) (by kernel_rfl) (by simp) ?_
        refine AllReadyIn.cons rfl (fun K hK => ?_) (AllReadyIn.nil)
        refine stepIn_append rfl (.tmp 11) (.tmp 14) 25 rfl rfl rfl hrun ?_
        refine hK _ _ ?_; clear hK K
        refine wpAnyIn_ready (rs := [5]) (by kernel_rfl) (by simp) ?_
        refine AllReadyIn.cons rfl (fun K hK => ?_) (AllReadyIn.nil)
        go_simp
        refine hK _ _ ?_; clear hK K
        refine wpAnyIn_done (by kernel_rfl) ?_ _
        gi_wp2
        exact lab_close D3.out HB.out
      · go_simp
        refine ⟨trivial, ?_⟩
        refine (CallsIn.inRound l (callsIn_wide.2 (clone_any _ _ HAL.out))).mono ?_
        rintro e w1 ⟨rfl, hb1⟩
        obtain ⟨g, cap, w2, hrun, d0, d0', d1, d2, d3⟩ := RF.out w1 ⟨hb1.os, hb1.tape, hb1.output, hb1.size, hb1.block⟩; clear hb1
        have D3 := Lib.hid d3; clear d3
        refine hK _ _ ?_; clear hK K
        refine wpAnyIn_ready (rs := [0, 3]) (by kernel_rfl) (by simp) ?_
        refine AllReadyIn.cons rfl (fun K hK => ?_) (AllReadyIn.cons rfl (fun K hK => ?_) (AllReadyIn.nil))
        · go_simp
          refine hK _ _ ?_; clear hK K
          refine wpAnyIn_ready (rs := [3]) (by kernel_rfl) (by simp) ?_
          refine AllReadyIn.cons rfl (fun K hK => ?_) (AllReadyIn.nil)
          go_simp
          refine hK _ _ ?_; clear hK K
          refine wpAnyIn_ready (rs := [4]) (by kernel_rfl) (by simp) ?_
          refine AllReadyIn.cons rfl (fun K hK => ?_) (AllReadyIn.nil)
          refine stepIn_append rfl (.tmp 11) (.tmp 14) 25 rfl rfl rfl hrun ?_
          refine hK _ _ ?_; clear hK K
          refine wpAnyIn_ready (rs := [5]) (by kernel_rfl) (by simp) ?_
          refine AllReadyIn.cons rfl (fun K hK => ?_) (AllReadyIn.nil)
          go_simp
          refine hK _ _ ?_; clear hK K
          refine wpAnyIn_done (by kernel_rfl) ?_ _
          gi_wp2
          exact lab_close D3.out HB.out
        · go_simp
          refine hK _ _ ?_; clear hK K
          refine wpAnyIn_ready (rs := [0]) (by kernel_rfl) (by simp) ?_
          refine AllReadyIn.cons rfl (fun K hK => ?_) (AllReadyIn.nil)
          go_simp
          refine hK _ _ ?_; clear hK K
          refine wpAnyIn_ready (rs := [4]) (by kernel_rfl) (by simp) ?_
          refine AllReadyIn.cons rfl (fun K hK => ?_) (AllReadyIn.nil)
          refine stepIn_append rfl (.tmp 11) (.tmp 14) 25 rfl rfl rfl hrun ?_
          refine hK _ _ ?_; clear hK K
          refine wpAnyIn_ready (rs := [5]) (by kernel_rfl) (by simp) ?_
          refine AllReadyIn.cons rfl (fun K hK => ?_) (AllReadyIn.nil)
          go_simp
          refine hK _ _ ?_; clear hK K
          refine wpAnyIn_done (by kernel_rfl) ?_ _
          gi_wp2
          exact lab_close D3.out HB.out
  case done =>
    rintro D xs W hD hxs ⟨⟨v, k0, k2, _⟩, hb⟩ hK
    rw [hsz] at hD
    have hform : ∃ A c, v = .slice A (vals xs).length c := by
      rcases k2.2 with ⟨rfl, h0⟩ | ⟨g, cap, _, rfl, _⟩
      · exact ⟨none, 0, by rw [h0]⟩
      · exact ⟨_, _, rfl⟩
    obtain ⟨A, c, rfl⟩ := hform
    have c0 := k0.cell
    have K2 := Lib.hid (ownsRow_putObj k2 (.deferred none) hK rfl)
    have HB := Lib.hid (hb.trans (belowK_b (w := w) (Nat.le_refl _) W D _ (.deferred none) (by omega) hK rfl rfl))
    have HX := Lib.hid hxs
    have HK := Lib.hid hK
    clear k0 k2 hb hxs hK b0 b1 hbel hWl
    gi_wp2
    refine ⟨by simp, .inl ⟨_, _, rfl, run_takeDeferred HK.out, ?_⟩⟩
    refine ⟨.slice A (vals xs).length c, by simp [results, Tryz.results143, go_sem], ⟨_, rfl, HB.out, ?_⟩⟩
    have h2 := K2.out
    unfold labelsL
    rw [if_pos HF.out, ← HX.out, List.length_map]
    exact h2
  case stop =>
    rintro D c pre W _ _ h _
    exact h.elim

theorem labels_call (s : List UInt8) (w : World) (hs : s.length ≤ 1000000) (hM : ML w) : Calls Tryz.prog 143 #[.string (str s)] w (LabPost w s) := by
  cases h : mayL s with
  | false => exact labels_not s w hs hM h
  | true => exact labels_yes s w hM h
end Go.Proofs.YtnaoandleelbkaaGreatDoor

namespace Go.Proofs.YtnaoandleelbkaaGreatDoor
set_option linter.unusedSimpArgs false
set_option linter.unusedVariables false
open Go Go.RowKit Go.Shelf
set_option maxRecDepth 100000

theorem pattern_any (s : List UInt8) (w : World) (hs : s.length ≤ 1000000) (hM : ML w) : Calls Tryz.prog 122 #[.string (str s)] w fun e w' => e = .returned (.bool (patL s)) ∧ Below w.heap.size w w' := by
  have HM := Lib.hid hM
  clear hM
  obtain ⟨b, hb⟩ : ∃ b, b = bareL s := ⟨_, rfl⟩
  have hbl : b.length ≤ 1000000 := by
    rw [hb]; unfold bareL
    split
    · rw [List.length_drop]; omega
    · exact hs
  have hc := Tryz.strings_TrimPrefix (str s) { data := #[42, 46] } w
  have e1 : (str s).data.toList = s := by simp
  have e2 : (⟨#[42, 46]⟩ : ByteArray).data.toList = [42, 46] := rfl
  rw [e1, e2, show Lib.trimPrefix s [42, 46] = b by rw [hb]; rfl] at hc
  have HC := Lib.hid hc
  have HB := Lib.hid (show patL s = mayL b by unfold patL; rw [← hb])
  clear hc hb e1 e2
  go_enter Tryz.func122, Tryz.ntmps122
  go_wp2_with fail
  refine HC.out.mono ?_
  rintro e w1 ⟨rfl, rfl⟩
  go_wp2_with fail
  refine (may_any b _ hbl HM.out).mono ?_
  rintro e w2 ⟨rfl, hb2⟩
  have HB2 := Lib.hid hb2
  clear hb2
  go_wp2_with fail
  go_ret
  rw [HB.out]
  exact ⟨rfl, HB2.out⟩
end Go.Proofs.YtnaoandleelbkaaGreatDoor
