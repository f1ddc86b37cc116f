/-
  Cut's contract: the lines of a text, and what stands behind the last one's end, are what 'run' tells of it where no line is too long.
  The text has at most 50000 bytes; the library's variable MaxLen holds some number.
-/
import Derived.Test.YtgjngldkeiblbaaFeed
namespace Go.Proofs.Ytgjngldkeiblbaa
open Go Go.RowKit Go.Shelf

attribute [local go_sem] Oper.semAt_some

/-- What Cut of a text leaves. -/
def CutPost (w : World) (s : List UInt8) (e : Ending) (w' : World) : Prop :=
  ∃ v, e = .returned (.tuple #[v, sv (run (s.length + 1) [] s).2.1]) ∧ Below w.heap.size w w' ∧ Ows w' w.heap.size v (run (s.length + 1) [] s).1

theorem cut_world {w W w1 : World} {D cap0 : Nat} {s t : List UInt8} {A0 : Option Addr} {outs : List (List UInt8)} (hb : Below w.heap.size w W) (hD : w.heap.size + 4 ≤ D) (hDW : W.heap[D]? = some (.deferred (some [])))
    (k0 : Boxed W w.heap.size 23 (.slice A0 outs.length cap0)) (k1 : Boxed W (w.heap.size + 1) 9 (sv t)) (k2 : Ows W (w.heap.size + 4) (.slice A0 outs.length cap0) outs) (hb1 : Below W.heap.size W w1) (hrun : run (s.length + 1) [] s = (outs, t, false)) :
    ((w1.setCell ⟨w.heap.size, 0, none⟩ (.slice A0 outs.length cap0)).setCell ⟨w.heap.size + 1, 0, none⟩ (sv t)).heap[D]? = some (.deferred (some [])) ∧
    (((w1.setCell ⟨w.heap.size, 0, none⟩ (.slice A0 outs.length cap0)).setCell ⟨w.heap.size + 1, 0, none⟩ (sv t)).putObj D (.deferred none)).cell? ⟨w.heap.size, 0, none⟩ = some (.slice A0 outs.length cap0) ∧
    (((w1.setCell ⟨w.heap.size, 0, none⟩ (.slice A0 outs.length cap0)).setCell ⟨w.heap.size + 1, 0, none⟩ (sv t)).putObj D (.deferred none)).cell? ⟨w.heap.size + 1, 0, none⟩ = some (sv t) ∧
    CutPost w s (.returned (.tuple #[.slice A0 outs.length cap0, sv t])) (((w1.setCell ⟨w.heap.size, 0, none⟩ (.slice A0 outs.length cap0)).setCell ⟨w.heap.size + 1, 0, none⟩ (sv t)).putObj D (.deferred none)) := by
  obtain ⟨X, hX⟩ : ∃ X, X = (w1.setCell ⟨w.heap.size, 0, none⟩ (.slice A0 outs.length cap0)).setCell ⟨w.heap.size + 1, 0, none⟩ (sv t) := ⟨_, rfl⟩
  have g1 := grownBy_of_below hb1 none
  have e0 := (k0.kept g1 (by simp)).set (.slice A0 outs.length cap0)
  have e1 := (k1.kept g1 (by simp)).kept (grownBy_cell w1 w.heap.size 0 (.slice A0 outs.length cap0)) (by simp)
  have x0 : Boxed X w.heap.size 23 (.slice A0 outs.length cap0) := by rw [hX]; exact e0.kept (grownBy_cell _ _ _ _) (by simp)
  have x1 : Boxed X (w.heap.size + 1) 9 (sv t) := by rw [hX]; exact e1.set _
  have hXs : X.heap.size = w1.heap.size := by rw [hX]; simp [World.setCell]
  have hXk : ∀ k, k < W.heap.size → k ≠ w.heap.size → k ≠ w.heap.size + 1 → X.heap[k]? = W.heap[k]? := fun k h0 h1 h2 => by
    rw [hX, heap_setCell_other _ _ _ _ (by exact h2), heap_setCell_other _ _ _ _ (by exact h1), hb1.block k h0]
  have h123 : X.os = W.os ∧ X.tape = W.tape ∧ X.output = W.output := by rw [hX]; exact ⟨hb1.os, hb1.tape, hb1.output⟩
  rw [← hX]
  have hXD : X.heap[D]? = some (.deferred (some [])) := (hXk D (lt_of_block hDW) (by omega) (by omega)).trans hDW
  refine ⟨hXD, ?_, ?_, _, by rw [hrun], ⟨h123.1.trans hb.os, h123.2.1.trans hb.tape, h123.2.2.trans hb.output, ?_, fun k hk => ?_⟩, ?_⟩
  · rw [World.cell?_of_block (w := X) (World.putObj_heap_other (by simp; omega))]; exact x0.cell
  · rw [World.cell?_of_block (w := X) (World.putObj_heap_other (by simp; omega))]; exact x1.cell
  · rw [World.putObj_size, hXs]; exact Nat.le_trans hb.size hb1.size
  · rw [World.putObj_heap_other (by omega), hXk k (by have := hb.size; omega) (by omega) (by omega), hb.block k hk]
  · rw [hrun]
    refine Ows.lower ?_ (Nat.le_add_right _ 4)
    refine ⟨k2.1, ?_⟩
    rcases k2.2 with h | ⟨g, cap, cur, e1, e2, e3, e4⟩
    · exact .inl h
    · refine .inr ⟨g, cap, cur, e1, e2, ?_, e4⟩
      rw [World.putObj_heap_other (fun e => by rw [e, hDW] at e3; cases e3), hXk g (lt_of_block e3) (by omega) (by omega), e3]

set_option maxRecDepth 100000 in
set_option maxHeartbeats 1000000 in
theorem cut_any (s : List UInt8) (w : World) (hs : s.length ≤ 50000) (hML : ML w) (h0w : 0 < w.heap.size) :
    Calls Try.prog 22 #[.string (str s)] w (CutPost w s) := by
  have HM := Lib.hid hML
  have HG := Lib.hid h0w
  clear hML h0w
  refine (callsIn_wide (n := 3)).1 ?_
  refine callsIn_of_wp_marks Try.func22 rfl trivial (wpIn_calmly ?_) rfl
  simp only [Try.ntmps22, List.size_toArray, List.length_cons, List.length_nil, Nat.reduceAdd, Nat.reduceSub, Array.replicate_succ, Array.replicate_zero, List.push_toArray, List.append_toArray, List.nil_append, List.cons_append]
  have hmx : Try.prog.follows .mixedOrders = true := by kernel_rfl
  gi_wp2_with (refine ⟨trivial, ?_⟩; gi_at_call 27; refine (callsIn_wide.2 (cuts_any _ _ _)).mono ?_; rintro e w' ⟨rfl, rfl⟩)
  obtain ⟨Wl, hWl⟩ : ∃ Wl, Wl = (((w.alloc (.cells #[.slice none 0 0] 23)).alloc (.cells #[sv s] 9)).alloc (.cells #[sv s] 9)).alloc (.cells #[.int .i64 s.length] 3) := ⟨_, rfl⟩
  rw [← hWl]
  have hsz : Wl.heap.size = w.heap.size + 4 := by rw [hWl]; simp
  have hbel : Below w.heap.size w Wl := by rw [hWl]; exact ((((Below.refl _ w).alloc (Nat.le_refl _) _).alloc (by simp) _).alloc (by simp; omega) _).alloc (by simp; omega) _
  have b0 : Boxed Wl w.heap.size 23 (.slice none 0 0) := by rw [hWl]; exact (((Boxed.new w _ _).alloc _).alloc _).alloc _
  have b1 : Boxed Wl (w.heap.size + 1) 9 (sv s) := by rw [hWl]; have := Boxed.new (w.alloc (.cells #[.slice none 0 0] 23)) 9 (sv s); rw [World.size_alloc] at this; exact (this.alloc _).alloc _
  have b2 : Boxed Wl (w.heap.size + 2) 9 (sv s) := by rw [hWl]; have := Boxed.new ((w.alloc (.cells #[.slice none 0 0] 23)).alloc (.cells #[sv s] 9)) 9 (sv s); rw [World.size_alloc, World.size_alloc] at this; exact this.alloc _
  have b3 : Boxed Wl (w.heap.size + 3) 3 (.int .i64 s.length) := by rw [hWl]; have := Boxed.new (((w.alloc (.cells #[.slice none 0 0] 23)).alloc (.cells #[sv s] 9)).alloc (.cells #[sv s] 9)) 3 (.int .i64 s.length); rw [World.size_alloc, World.size_alloc, World.size_alloc] at this; exact this
  refine wpIn_rangeFunc_st (σ := List UInt8) (χ := List UInt8 × List UInt8) (w := Wl) rfl (by omega) (gf := 33) (lb := #[.pointer (some ⟨w.heap.size + 2, 0, none⟩), .pointer (some ⟨w.heap.size + 3, 0, none⟩)]) rfl trivial (enters_of Try.func33 (by kernel_rfl) rfl)
    (cuts_steps (w.heap.size + 2) s.length s Wl (by omega)) (by omega) (fun _ => rfl)
    (fun t W W' row h hg hr => h.out (B := w.heap.size + 4) (by omega) hg (fun r e => by have := (hr r e).1; omega))
    (FeedI w (s.length + 1) s) (fun t W W' row h hg hr => h.kept hg (by rw [hsz] at hr; exact hr)) ?_ ?_
    (fun x => { tmps := #[.string (str s), undef, .pointer (some ⟨w.heap.size, 0, none⟩), .pointer (some ⟨w.heap.size + 1, 0, none⟩), sv x.1, sv x.2, .string (str s), .string (str s), .string (str s), .int .i64 s.length, .func (.func 33) #[] #[.pointer (some ⟨w.heap.size + 2, 0, none⟩), .pointer (some ⟨w.heap.size + 3, 0, none⟩)], sv x.1, sv x.2, undef, undef, undef, undef, undef, undef, undef, undef, undef], defers := [] }) ?_ ?_ ?_
  · exact ⟨_, [], b0, b1, World.ownsRow_nil _ _ _ _, by simp, by simp, hbel⟩
  · obtain ⟨mx, hmx⟩ := HM.out
    exact ⟨b2, b3, ⟨mx, (hbel.cell (p := ⟨0, 0, none⟩) HG.out).trans hmx⟩, by omega⟩
  · intro l' x W K hK
    gi_wp2
    exact hK
  · rintro l' t ⟨a, r⟩ t' W hnx hI hS
    have hnx' := hnx
    obtain ⟨i, hix, hxe, hte⟩ := hnx'
    obtain ⟨rfl, rfl⟩ : a = t.take i ∧ r = t' := by simpa using hxe
    obtain ⟨v0, outs, k0, k1, k2, k3, k4, k5⟩ := hI
    have hS' := hS
    obtain ⟨hB2, hB3, hML2, hl2⟩ := hS
    have hWs : w.heap.size + 4 ≤ W.heap.size := by have := lt_of_block hB3; omega
    have hol : outs.length ≤ 200000 := by omega
    have c0 := k0.cell
    have rf := fun w1 hb => round_facts (W := W) (w1 := w1) (B := w.heap.size) (R := w.heap.size + 1) (base := w.heap.size + 4) (t := t) (t' := r) (a := t.take i) ⟨by omega, by omega, by omega⟩ k0 k1 k2 hWs hol hb
    have hal : (str (t.take i)).size ≤ 281474976710656 := by simp [ByteArray.size]; omega
    have htk : t.take (s.length + 1) = t.take s.length := by rw [List.take_of_length_le (by omega), List.take_of_length_le (by omega)]
    have hix2 : Lib.index (t.take (s.length + 1)) [13, 10] = i := by rw [htk]; exact hix
    have hit : i + 2 ≤ t.length := by have := (hit_of_index hix).2.2; simp at this; omega
    have RF := Lib.hid rf
    have HAL := Lib.hid hal
    have HX2 := Lib.hid hix2
    have HIT := Lib.hid hit
    have HK := Lib.hid k3
    have HT := Lib.hid hte
    have HS := Lib.hid hS'
    have HB5 := Lib.hid k5
    clear rf hal hix hix2 htk hit k3 hte hS' k5 k0 k1 k2 hB2 hB3 hML2 hnx
    gi_wp2
    refine wpIn_region_any (by kernel_rfl) ?_
    change wpAnyIn _ _ _ _ _ _ _ _ _ (World.drew _)
    refine wpAnyIn_ready (rs := [0, 1]) (by kernel_rfl) (by simp) ?_
    refine AllReadyIn.cons rfl (fun K hK => ?_) (AllReadyIn.cons rfl (fun K hK => ?_) (AllReadyIn.nil))
    · go_simp
      refine hK _ _ ?_; clear hK K
      refine wpAnyIn_ready (rs := [1]) (by kernel_rfl) (by simp) ?_
      refine AllReadyIn.cons rfl (fun K hK => ?_) (AllReadyIn.nil)
      go_simp
      refine hK _ _ ?_; clear hK K
      refine wpAnyIn_ready (rs := [2]) (by kernel_rfl) (by simp) ?_
      refine AllReadyIn.cons rfl (fun K hK => ?_) (AllReadyIn.nil)
      go_simp
      refine ⟨trivial, ?_⟩
      refine (CallsIn.inRound l' (callsIn_wide.2 (clone_any _ _ HAL.out))).mono ?_
      rintro e w1 ⟨rfl, hb1⟩
      obtain ⟨g, cap, w2, hrun, d0, d0', d1, d2, d3, d4, d5⟩ := RF.out w1 ⟨hb1.os, hb1.tape, hb1.output, hb1.size, hb1.block⟩; clear hb1
      have D5 := Lib.hid d5; clear d5
      refine hK _ _ ?_; clear hK K
      refine wpAnyIn_ready (rs := [3]) (by kernel_rfl) (by simp) ?_
      refine AllReadyIn.cons rfl (fun K hK => ?_) (AllReadyIn.nil)
      go_simp
      refine hK _ _ ?_; clear hK K
      refine wpAnyIn_ready (rs := [4]) (by kernel_rfl) (by simp) ?_
      refine AllReadyIn.cons rfl (fun K hK => ?_) (AllReadyIn.nil)
      refine stepIn_append rfl (.tmp 13) (.tmp 16) 23 rfl rfl rfl hrun ?_
      refine hK _ _ ?_; clear hK K
      refine wpAnyIn_ready (rs := [5]) (by kernel_rfl) (by simp) ?_
      refine AllReadyIn.cons rfl (fun K hK => ?_) (AllReadyIn.nil)
      go_simp
      refine hK _ _ ?_; clear hK K
      refine wpAnyIn_done (by kernel_rfl) ?_ _
      gi_wp2
      exact round_close D5.out HG.out HK.out (run_cut HX2.out) k4 HT.out HIT.out HB5.out HS.out
    · go_simp
      refine hK _ _ ?_; clear hK K
      refine wpAnyIn_ready (rs := [0, 2]) (by kernel_rfl) (by simp) ?_
      refine AllReadyIn.cons rfl (fun K hK => ?_) (AllReadyIn.cons rfl (fun K hK => ?_) (AllReadyIn.nil))
      · go_simp
        refine hK _ _ ?_; clear hK K
        refine wpAnyIn_ready (rs := [2]) (by kernel_rfl) (by simp) ?_
        refine AllReadyIn.cons rfl (fun K hK => ?_) (AllReadyIn.nil)
        go_simp
        refine ⟨trivial, ?_⟩
        refine (CallsIn.inRound l' (callsIn_wide.2 (clone_any _ _ HAL.out))).mono ?_
        rintro e w1 ⟨rfl, hb1⟩
        obtain ⟨g, cap, w2, hrun, d0, d0', d1, d2, d3, d4, d5⟩ := RF.out w1 ⟨hb1.os, hb1.tape, hb1.output, hb1.size, hb1.block⟩; clear hb1
        have D5 := Lib.hid d5; clear d5
        refine hK _ _ ?_; clear hK K
        refine wpAnyIn_ready (rs := [3]) (by kernel_rfl) (by simp) ?_
        refine AllReadyIn.cons rfl (fun K hK => ?_) (AllReadyIn.nil)
        go_simp
        refine hK _ _ ?_; clear hK K
        refine wpAnyIn_ready (rs := [4]) (by kernel_rfl) (by simp) ?_
        refine AllReadyIn.cons rfl (fun K hK => ?_) (AllReadyIn.nil)
        refine stepIn_append rfl (.tmp 13) (.tmp 16) 23 rfl rfl rfl hrun ?_
        refine hK _ _ ?_; clear hK K
        refine wpAnyIn_ready (rs := [5]) (by kernel_rfl) (by simp) ?_
        refine AllReadyIn.cons rfl (fun K hK => ?_) (AllReadyIn.nil)
        go_simp
        refine hK _ _ ?_; clear hK K
        refine wpAnyIn_done (by kernel_rfl) ?_ _
        gi_wp2
        exact round_close D5.out HG.out HK.out (run_cut HX2.out) k4 HT.out HIT.out HB5.out HS.out
      · go_simp
        refine ⟨trivial, ?_⟩
        refine (CallsIn.inRound l' (callsIn_wide.2 (clone_any _ _ HAL.out))).mono ?_
        rintro e w1 ⟨rfl, hb1⟩
        obtain ⟨g, cap, w2, hrun, d0, d0', d1, d2, d3, d4, d5⟩ := RF.out w1 ⟨hb1.os, hb1.tape, hb1.output, hb1.size, hb1.block⟩; clear hb1
        have D5 := Lib.hid d5; clear d5
        refine hK _ _ ?_; clear hK K
        refine wpAnyIn_ready (rs := [0, 3]) (by kernel_rfl) (by simp) ?_
        refine AllReadyIn.cons rfl (fun K hK => ?_) (AllReadyIn.cons rfl (fun K hK => ?_) (AllReadyIn.nil))
        · go_simp
          refine hK _ _ ?_; clear hK K
          refine wpAnyIn_ready (rs := [3]) (by kernel_rfl) (by simp) ?_
          refine AllReadyIn.cons rfl (fun K hK => ?_) (AllReadyIn.nil)
          go_simp
          refine hK _ _ ?_; clear hK K
          refine wpAnyIn_ready (rs := [4]) (by kernel_rfl) (by simp) ?_
          refine AllReadyIn.cons rfl (fun K hK => ?_) (AllReadyIn.nil)
          refine stepIn_append rfl (.tmp 13) (.tmp 16) 23 rfl rfl rfl hrun ?_
          refine hK _ _ ?_; clear hK K
          refine wpAnyIn_ready (rs := [5]) (by kernel_rfl) (by simp) ?_
          refine AllReadyIn.cons rfl (fun K hK => ?_) (AllReadyIn.nil)
          go_simp
          refine hK _ _ ?_; clear hK K
          refine wpAnyIn_done (by kernel_rfl) ?_ _
          gi_wp2
          exact round_close D5.out HG.out HK.out (run_cut HX2.out) k4 HT.out HIT.out HB5.out HS.out
        · go_simp
          refine hK _ _ ?_; clear hK K
          refine wpAnyIn_ready (rs := [0]) (by kernel_rfl) (by simp) ?_
          refine AllReadyIn.cons rfl (fun K hK => ?_) (AllReadyIn.nil)
          go_simp
          refine hK _ _ ?_; clear hK K
          refine wpAnyIn_ready (rs := [4]) (by kernel_rfl) (by simp) ?_
          refine AllReadyIn.cons rfl (fun K hK => ?_) (AllReadyIn.nil)
          refine stepIn_append rfl (.tmp 13) (.tmp 16) 23 rfl rfl rfl hrun ?_
          refine hK _ _ ?_; clear hK K
          refine wpAnyIn_ready (rs := [5]) (by kernel_rfl) (by simp) ?_
          refine AllReadyIn.cons rfl (fun K hK => ?_) (AllReadyIn.nil)
          go_simp
          refine hK _ _ ?_; clear hK K
          refine wpAnyIn_done (by kernel_rfl) ?_ _
          gi_wp2
          exact round_close D5.out HG.out HK.out (run_cut HX2.out) k4 HT.out HIT.out HB5.out HS.out
  · rintro D t W hD hfin ⟨v0, outs, k0, k1, k2, k3, k4, k5⟩ hS hDh
    obtain ⟨A0, cap0, rfl⟩ := k2.form
    rw [hsz] at hD
    have c0 := k0.cell
    have f0 := k0.frozen
    have c1 := k1.cell
    have f1 := k1.frozen
    have hal : (str t).size ≤ 281474976710656 := by simp [ByteArray.size]; omega
    have kk : ∀ w1, Below W.heap.size W w1 → w1.cell? ⟨w.heap.size, 0, none⟩ = some (.slice A0 outs.length cap0) ∧ w1.frozen? ⟨w.heap.size, 0, none⟩ = false ∧ w1.cell? ⟨w.heap.size + 1, 0, none⟩ = some (sv t) ∧ w1.frozen? ⟨w.heap.size + 1, 0, none⟩ = false := fun w1 hb => by
      have g := grownBy_of_below hb none
      exact ⟨(k0.kept g (by simp)).cell, (k0.kept g (by simp)).frozen, (k1.kept g (by simp)).cell, (k1.kept g (by simp)).frozen⟩
    have HAL := Lib.hid hal
    have KK := Lib.hid kk
    have HF := Lib.hid hfin
    have HK := Lib.hid k3
    have K0 := Lib.hid k0
    have K1 := Lib.hid k1
    have K2 := Lib.hid k2
    have K5 := Lib.hid k5
    have HD := Lib.hid hDh
    clear hal kk hfin k0 k1 k2 k3 k5 hDh hS
    gi_wp2
    gi_region_with_o (refine ⟨trivial, ?_⟩; gi_at_call 28; refine (callsIn_wide.2 (clone_any _ _ HAL.out)).mono ?_; rintro e w1 ⟨rfl, hb1⟩; obtain ⟨d0, d1, d2, d3⟩ := KK.out w1 ⟨hb1.os, hb1.tape, hb1.output, hb1.size, hb1.block⟩; have HB1 := Lib.hid hb1; clear hb1)
    all_goals gi_wp2
    all_goals
      have hrun : run (s.length + 1) [] s = (outs, t, false) := by
        rw [HK.out, run_none (m := s.length + 1) (by have := HF.out; unfold Fin at this; rw [List.take_of_length_le (by omega)] at this ⊢; exact this) (by omega)]; simp
      have hb1 : Below W.heap.size W w1 := ⟨HB1.out.os, HB1.out.tape, HB1.out.output, HB1.out.size, HB1.out.block⟩
      obtain ⟨hXD, hcell, hcell1, hpost⟩ := cut_world K5.out (by omega) HD.out K0.out K1.out K2.out hb1 hrun
      refine ⟨by simp, .inl ⟨_, _, rfl, run_takeDeferred hXD, ?_⟩⟩
      exact ⟨.tuple #[.slice A0 outs.length cap0, sv t], by simp [results, Try.results22, go_sem, hcell, hcell1], hpost⟩
end Go.Proofs.Ytgjngldkeiblbaa
