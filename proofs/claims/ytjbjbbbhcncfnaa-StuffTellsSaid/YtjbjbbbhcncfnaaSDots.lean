/-
  Dots' and Whole's contracts: how many lines begin by a dot; whether there is a line of a lone dot.
-/
import Derived.Test.YtjbjbbbhcncfnaaSKeep
namespace Go.Proofs.Ytjbjbbbhcncfnaa
open Go Go.RowKit Go.Shelf
set_option maxRecDepth 100000
attribute [local go_sem] Oper.semAt_some

def linesI (l : List It) : List (List UInt8) := (valsI l).map (·.1)
theorem linesI_snoc (l : List It) (x : It) : linesI (l ++ [x]) = linesI l ++ [x.1.1] := by simp [linesI, valsI]
theorem linesI_len (l : List It) : (linesI l).length = l.length := by simp [linesI, valsI]

/-- Between two rounds of Dots. -/
def DotsI (w : World) (pre : List It) (W : World) : Prop := Boxed W w.heap.size 3 (.int .i64 (((linesI pre).countP dotB : Nat) : Int)) ∧ Below w.heap.size w W

theorem dotsI_from {w : World} {B : Nat} (hB : w.heap.size + 1 ≤ B) : OwnFrom B (DotsI w) := by
  rintro pre W W' row ⟨h1, hb⟩ hg hr
  have ne : ∀ k, k < B → some k ≠ row := fun k hk e => by have := (hr k e.symm).1; omega
  exact ⟨h1.kept hg (ne _ (by omega)), hb.grown hg hb.size fun k e => by have := (hr k e).1; omega⟩

set_option maxHeartbeats 2000000 in
theorem dots_any (s : List UInt8) (w : World) (hs : s.length ≤ 2000000) (hM : ML w) :
    Calls Try.prog 11 #[.string (str s)] w fun e w' => e = .returned (.int .i64 ((dotsL s : Nat) : Int)) ∧ Below w.heap.size w w' := by
  have HM := Lib.hid hM
  have H0 := Lib.hid hM.lt
  clear hM
  refine (callsIn_wide (n := 3)).1 ?_
  refine callsIn_of_wp_marks Try.func11 rfl trivial (wpIn_calmly ?_) rfl
  simp only [Try.ntmps11, List.size_toArray, List.length_cons, List.length_nil, Nat.reduceAdd, Nat.reduceSub, Array.replicate_succ, Array.replicate_zero, List.push_toArray, List.append_toArray, List.nil_append, List.cons_append]
  gi_wp2_with (refine ⟨trivial, ?_⟩; gi_at_call 17; refine (callsIn_wide.2 (lines_any _ _)).mono ?_; rintro e w' ⟨rfl, rfl⟩)
  obtain ⟨Wl, hWl⟩ : ∃ Wl, Wl = (w.alloc (.cells #[.int .i64 0] 3)).alloc (.cells #[.string (str s)] 9) := ⟨_, rfl⟩
  rw [← hWl]
  have hsz : Wl.heap.size = w.heap.size + 2 := by rw [hWl]; simp
  have hbel : Below w.heap.size w Wl := by rw [hWl]; exact ((Below.refl _ w).alloc (Nat.le_refl _) _).alloc (by simp) _
  have b0 : Boxed Wl w.heap.size 3 (.int .i64 0) := by rw [hWl]; exact (Boxed.new w _ _).alloc _
  have b1 : Boxed Wl (w.heap.size + 1) 9 (sv s) := by rw [hWl]; have := Boxed.new (w.alloc (.cells #[.int .i64 0] 3)) 9 (sv s); rw [World.size_alloc] at this; exact this
  refine wpIn_rangeFunc_ownF (α := It) (w := Wl) rfl (by omega) (gf := 22) (lb := #[.pointer (some ⟨w.heap.size + 1, 0, none⟩)]) rfl trivial (enters_of Try.func22 (by kernel_rfl) rfl)
    (lines_stops (w.heap.size + 1) w.heap.size s hs H0.out (KpR w.heap.size [w.heap.size] (w.heap.size + 1)) (FreeR [w.heap.size] (w.heap.size + 1)) (kpr_keeps _ _ _) Wl
      (fun W' k hb hk => free_new (by simp; omega) b1.cell rfl (by omega) hb k hk) (HM.out.step hbel) (by omega) b1.cell) kpr_trans (kpr_putObj (by omega) (by omega)) (Below.refl _ _) (fun _ => rfl)
    (DotsI w) (fun _ _ _ => False) (dotsI_from (by omega)) (fun _ _ _ _ _ h _ _ => h) ⟨b0, hbel⟩
    ?acts ?assign ?body ?done ?stop
  case assign =>
    intro l x W K hK
    gi_wp2
    exact hK
  case body =>
    rintro l pre ⟨⟨x, b⟩, hx⟩ W ⟨h1, hb⟩ hlen
    dsimp only at hx
    have c0 := h1.cell
    have f0 := h1.frozen
    have hcl : (linesI pre).countP dotB ≤ 2000000 := by have := List.countP_le_length (p := dotB) (l := linesI pre); rw [linesI_len] at this; have := items_len s; omega
    obtain ⟨n, hn⟩ : ∃ n, n = (linesI pre).countP dotB := ⟨_, rfl⟩
    rw [← hn] at c0 hcl
    have hxl : x.length ≤ 4000000 := by omega
    have HB := Lib.hid hb
    have K1 := Lib.hid h1
    have HN := Lib.hid hn
    clear h1 hb hn b0 b1 hbel hWl hlen
    cases hd : dotB x with
    | true =>
      have HD := Lib.hid hd
      clear hd
      gi_wp2_with (refine ⟨trivial, ?_⟩; gi_at_call 18; refine (CallsIn.inRound l (callsIn_wide.2 (undot_any _ _ hxl))).mono ?_; rintro e w' ⟨rfl, rfl⟩; rw [HD.out])
      refine ⟨KeepsOthers.setCell _ _ _, kpr_set (by simp) (Nat.le_refl _) (.inr rfl), ?_, HB.out.setCell (p := ⟨w.heap.size, 0, none⟩) (Nat.le_refl _) _⟩
      have := K1.out.set (.int .i64 ((n : Int) + 1))
      rw [linesI_snoc, List.countP_append, ← HN.out]
      have e1 : List.countP dotB [x] = 1 := by simp [HD.out]
      rw [e1]
      exact this
    | false =>
      have HD := Lib.hid hd
      clear hd
      gi_wp2_with (refine ⟨trivial, ?_⟩; gi_at_call 18; refine (CallsIn.inRound l (callsIn_wide.2 (undot_any _ _ hxl))).mono ?_; rintro e w' ⟨rfl, rfl⟩; rw [HD.out])
      refine ⟨KeepsOthers.refl _, kpr_refl _, ?_, HB.out⟩
      rw [linesI_snoc, List.countP_append]
      have e1 : List.countP dotB [x] = 0 := by simp [HD.out]
      rw [e1]
      exact K1.out
  case done =>
    rintro D xs W hD hxs ⟨h1, hb⟩ hK
    rw [hsz] at hD
    have hm : dotsL s = (linesI xs).countP dotB := by unfold dotsL; rw [← hxs]; rfl
    rw [← hm] at h1
    have c0 := h1.cell
    have HB := Lib.hid hb
    have HK := Lib.hid hK
    have H1 := Lib.hid h1
    clear hm hb h1 hK b0 b1 hbel hWl hxs
    gi_wp2
    refine ⟨by simp, .inl ⟨_, _, rfl, run_takeDeferred HK.out, ?_⟩⟩
    exact ⟨_, by simp [results, Try.results11, go_sem], rfl, HB.out.trans (belowK_b (w := w) (Nat.le_refl _) W D _ (.deferred none) (by omega) HK.out rfl rfl)⟩
  case stop =>
    rintro D c pre W hD hp h
    exact h.elim
end Go.Proofs.Ytjbjbbbhcncfnaa
