/-
  Whole's contract: is there a line of a lone dot?
-/
import Derived.Test.YtjbjbbbhcncfnaaSDots
namespace Go.Proofs.Ytjbjbbbhcncfnaa
open Go Go.RowKit Go.Shelf
set_option maxRecDepth 100000
attribute [local go_sem] Oper.semAt_some

def isEnd (x : List UInt8 × Bool) : Bool := x.2 && x.1 == [46]

theorem whole_items (s : List UInt8) : wholeL s = (itemsL s).any isEnd := by
  unfold wholeL itemsL
  rw [List.any_append, List.any_map]
  have e1 : ((if restL s = [] then [] else [(restL s, false)]) : List (List UInt8 × Bool)).any isEnd = false := by
    split <;> simp [isEnd]
  rw [e1, Bool.or_false]
  induction cutL s with
  | nil => rfl
  | cons x xs ih =>
    rw [List.contains_cons, List.any_cons, ih]
    congr 1
    show ([46] == x) = (true && x == [46])
    rw [Bool.true_and, BEq.comm]

/-- Between two rounds of Whole; and where one has left. -/
def WholeI (w : World) (pre : List It) (W : World) : Prop := (Boxed W w.heap.size 4 (.bool false) ∧ (valsI pre).any isEnd = false) ∧ Below w.heap.size w W
def WholeX (w : World) (c : Code) (pre : List It) (W : World) : Prop := (c = .ret ∧ Boxed W w.heap.size 4 (.bool true) ∧ (valsI pre).any isEnd = true) ∧ Below w.heap.size w W

theorem wholeI_from {w : World} {B : Nat} (hB : w.heap.size + 1 ≤ B) : OwnFrom B (WholeI w) := by
  rintro pre W W' row ⟨⟨h1, h2⟩, hb⟩ hg hr
  have ne : ∀ k, k < B → some k ≠ row := fun k hk e => by have := (hr k e.symm).1; omega
  exact ⟨⟨h1.kept hg (ne _ (by omega)), h2⟩, hb.grown hg hb.size fun k e => by have := (hr k e).1; omega⟩
theorem wholeX_from {w : World} {B : Nat} (hB : w.heap.size + 1 ≤ B) (c : Code) : OwnFrom B (WholeX w c) := by
  rintro pre W W' row ⟨⟨h1, h2, h3⟩, hb⟩ hg hr
  have ne : ∀ k, k < B → some k ≠ row := fun k hk e => by have := (hr k e.symm).1; omega
  exact ⟨⟨h1, h2.kept hg (ne _ (by omega)), h3⟩, hb.grown hg hb.size fun k e => by have := (hr k e).1; omega⟩

set_option maxHeartbeats 2000000 in
theorem whole_any (s : List UInt8) (w : World) (hs : s.length ≤ 2000000) (hM : ML w) :
    Calls Try.prog 12 #[.string (str s)] w fun e w' => e = .returned (.bool (wholeL s)) ∧ Below w.heap.size w w' := by
  have HM := Lib.hid hM
  have H0 := Lib.hid hM.lt
  clear hM
  refine (callsIn_wide (n := 3)).1 ?_
  refine callsIn_of_wp_marks Try.func12 rfl trivial (wpIn_calmly ?_) rfl
  simp only [Try.ntmps12, List.size_toArray, List.length_cons, List.length_nil, Nat.reduceAdd, Nat.reduceSub, Array.replicate_succ, Array.replicate_zero, List.push_toArray, List.append_toArray, List.nil_append, List.cons_append]
  gi_wp2_with (refine ⟨trivial, ?_⟩; gi_at_call 17; refine (callsIn_wide.2 (lines_any _ _)).mono ?_; rintro e w' ⟨rfl, rfl⟩)
  obtain ⟨Wl, hWl⟩ : ∃ Wl, Wl = (w.alloc (.cells #[.bool false] 4)).alloc (.cells #[.string (str s)] 9) := ⟨_, rfl⟩
  rw [← hWl]
  have hsz : Wl.heap.size = w.heap.size + 2 := by rw [hWl]; simp
  have hbel : Below w.heap.size w Wl := by rw [hWl]; exact ((Below.refl _ w).alloc (Nat.le_refl _) _).alloc (by simp) _
  have b0 : Boxed Wl w.heap.size 4 (.bool false) := by rw [hWl]; exact (Boxed.new w _ _).alloc _
  have b1 : Boxed Wl (w.heap.size + 1) 9 (sv s) := by rw [hWl]; have := Boxed.new (w.alloc (.cells #[.bool false] 4)) 9 (sv s); rw [World.size_alloc] at this; exact this
  refine wpIn_rangeFunc_ownF (α := It) (w := Wl) rfl (by omega) (gf := 22) (lb := #[.pointer (some ⟨w.heap.size + 1, 0, none⟩)]) rfl trivial (enters_of Try.func22 (by kernel_rfl) rfl)
    (lines_stops (w.heap.size + 1) w.heap.size s hs H0.out (KpR w.heap.size [w.heap.size] (w.heap.size + 1)) (FreeR [w.heap.size] (w.heap.size + 1)) (kpr_keeps _ _ _) Wl
      (fun W' k hb hk => free_new (by simp; omega) b1.cell rfl (by omega) hb k hk) (HM.out.step hbel) (by omega) b1.cell) kpr_trans (kpr_putObj (by omega) (by omega)) (Below.refl _ _) (fun _ => rfl)
    (WholeI w) (WholeX w) (wholeI_from (by omega)) (wholeX_from (by omega)) ⟨⟨b0, rfl⟩, hbel⟩
    ?acts ?assign ?body ?done ?stop
  case assign =>
    intro l x W K hK
    gi_wp2
    exact hK
  case body =>
    rintro l pre ⟨⟨x, b⟩, hx⟩ W ⟨⟨h1, h2⟩, hb⟩ hlen
    dsimp only at hx
    have c0 := h1.cell
    have f0 := h1.frozen
    have HB := Lib.hid hb
    have K1 := Lib.hid h1
    have K2 := Lib.hid h2
    have hsn : (valsI (pre ++ [⟨(x, b), hx⟩])).any isEnd = isEnd (x, b) := by rw [valsI_snoc, List.any_append, h2]; simp
    have HSN := Lib.hid hsn
    clear h1 h2 hb hsn b0 b1 hbel hWl hlen
    cases b with
    | false =>
      gi_wp2
      exact ⟨KeepsOthers.refl _, kpr_refl _, ⟨K1.out, by rw [HSN.out]; rfl⟩, HB.out⟩
    | true =>
      cases hd : (x == [46]) with
      | true =>
        have HD := Lib.hid (show isEnd (x, true) = true by unfold isEnd; rw [hd]; rfl)
        gi_wp2
        exact ⟨KeepsOthers.setCell _ _ _, ⟨rfl, K1.out.set _, by rw [HSN.out]; exact HD.out⟩, HB.out.setCell (p := ⟨w.heap.size, 0, none⟩) (Nat.le_refl _) _⟩
      | false =>
        have HD := Lib.hid (show isEnd (x, true) = false by unfold isEnd; rw [hd]; rfl)
        gi_wp2
        exact ⟨KeepsOthers.refl _, kpr_refl _, ⟨K1.out, by rw [HSN.out]; exact HD.out⟩, HB.out⟩
  case done =>
    rintro D xs W hD hxs ⟨⟨h1, h2⟩, hb⟩ hK
    rw [hsz] at hD
    have hm : wholeL s = false := by rw [whole_items, ← hxs, h2]
    have c0 := h1.cell
    have f0 := h1.frozen
    have HB := Lib.hid hb
    have HK := Lib.hid hK
    have H1 := Lib.hid h1
    have HN := Lib.hid hm
    clear hm hb h1 h2 hK b0 b1 hbel hWl hxs
    gi_wp2
    have hK2 : (W.setCell ⟨w.heap.size, 0, none⟩ (.bool false)).heap[D]? = some (.deferred (some [])) := by rw [heap_setCell_other _ _ _ _ (by show D ≠ w.heap.size; omega)]; exact HK.out
    refine ⟨by simp, .inl ⟨_, _, rfl, run_takeDeferred hK2, ?_⟩⟩
    have hcell := (((H1.out.set (.bool false)).kept (grownBy_putObj' _ D (.deferred none)) (by simp; omega)).cell)
    exact ⟨.bool false, by simp [results, Try.results12, go_sem, hcell], by rw [HN.out], (HB.out.setCell (p := ⟨w.heap.size, 0, none⟩) (Nat.le_refl _) _).trans (belowK_b (w := w) (Nat.le_refl _) _ D _ (.deferred none) (by omega) hK2 rfl rfl)⟩
  case stop =>
    rintro D c pre W hD hp ⟨⟨rfl, h1, h2⟩, hb⟩ hK
    rw [hsz] at hD
    have HN := Lib.hid (show wholeL s = true by
      rw [whole_items, List.any_eq_true]
      obtain ⟨x, hx, hl⟩ := List.any_eq_true.1 h2
      exact ⟨x, hp.subset hx, hl⟩)
    have hcell := ((h1.kept (grownBy_putObj' W D (.deferred none)) (by simp; omega)).cell)
    have hbel' := hb.trans (belowK_b (w := w) (Nat.le_refl _) W D _ (.deferred none) (by omega) hK rfl rfl)
    gi_wp2
    refine ⟨by simp, .inl ⟨_, _, rfl, run_takeDeferred hK, ?_⟩⟩
    exact ⟨.bool true, by simp [results, Try.results12, go_sem, hcell], by rw [HN.out], hbel'⟩
end Go.Proofs.Ytjbjbbbhcncfnaa
