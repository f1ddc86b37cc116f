/-
  Appends of texts, of none too, to a row of one's own; what a row of one's own may be read as.
-/
import Derived.Test.YtanfonpbnamjmaaDoorTextRow
namespace Go.Proofs.YtanfonpbnamjmaaDoor
open Go Go.RowKit Go.Shelf
set_option maxRecDepth 100000

/-- What may be appended: its cells lie where the slice says. -/
def SrcOK (W : World) (A : Option Addr) (xs : List (List UInt8)) : Prop := 0 < xs.length → ∃ ad, A = some ad ∧ ∀ i u, (xs.map sv)[i]? = some u → W.cell? (ad.add i) = some u
theorem run_app {W : World} {B g n cap m c : Nat} {A : Option Addr} {xs ys : List (List UInt8)} (hown : W.ownsRow B 9 1 (.slice (some ⟨g, 0, none⟩) n cap) n (xs.map sv)) (hm : m = ys.length) (hsrc : SrcOK W A ys) (hB : B ≤ W.heap.size) (hn : n + m ≤ 1000000) :
    ∃ g' cap' W', (Builtin.append_ #[28, 28] 28 #[.slice (some ⟨g, 0, none⟩) n cap, .slice A m c]).run Tryd.prog W = .ok (.slice (some ⟨g', 0, none⟩) (n + m) cap') W' ∧
      W'.ownsRow B 9 1 (.slice (some ⟨g', 0, none⟩) (n + m) cap') (n + m) ((xs ++ ys).map sv) ∧ W.grownBy W' (some g) := by
  obtain ⟨i, hi, hz0, hz1, hz2⟩ := info_parts (show (Tryd.prog.info? 9).map (fun i => (i.zero, i.size, i.bytes)) = some (some (.string ⟨#[]⟩), 1, 16) by kernel_rfl)
  subst hm
  rcases Nat.eq_zero_or_pos ys.length with h0 | hp
  · obtain rfl : ys = [] := List.length_eq_zero_iff.1 h0
    refine ⟨g, cap, W, ?_, by simpa using hown, World.grownBy.refl W _⟩
    rcases hown.2 with ⟨h, _⟩ | ⟨g', cap', cur, e, _, _, hnc, _⟩
    · cases h
    · simp only [Value.slice.injEq, Option.some.injEq, Addr.mk.injEq, true_and, and_true] at e
      obtain ⟨rfl, rfl⟩ := e
      cases A <;> simp [Builtin.append_, run_underlying Tryd.underlying28, sizeOf, typeInfo, hi, Builtin.lenOf, Builtin.firstCells, hnc, storeCells, loadCells, loadCellsFrom]
  · obtain ⟨ad, rfl, hc⟩ := hsrc hp
    obtain ⟨g', cap', W', h1, h2, h3, _, _⟩ := run_append_lies (P := Tryd.prog) W 28 28 B 9 i _ 1 16 Tryd.underlying28 hi hz0 hz1 hz2 rfl (by decide) _ n (xs.map sv) hown ad ys.length c (ys.map sv) (by simp) hc (by
      intro u hu
      obtain ⟨y, _, rfl⟩ := List.mem_map.1 hu
      rfl) hp (by unfold maxLen; omega) (by omega) hB _ rfl
    exact ⟨g', cap', W', h1, by rw [List.map_append]; exact h2, h3⟩
theorem owns_empty_t {W : World} {base g : Nat} (hg : W.heap[g]? = some (.cells #[] 9 (0, 0))) (hb : base ≤ g) : W.ownsRow base 9 1 (.slice (some ⟨g, 0, none⟩) 0 0) 0 (([] : List (List UInt8)).map sv) :=
  ⟨by simp, .inr ⟨g, 0, #[], rfl, hb, hg, Nat.le_refl _, by decide, rfl, by simp⟩⟩
theorem src_one {W : World} {g : Nat} {d : List UInt8} (hg : W.heap[g]? = some (.cells #[sv d] 9 (0, 0))) : SrcOK W (some ⟨g, 0, none⟩) [d] := fun _ => ⟨_, rfl, World.news_of_block (cs := #[sv d]) hg⟩

theorem row_app {W : World} {B g n cap m c : Nat} {A : Option Addr} {xs ys : List (List UInt8)} (hown : W.ownsRow B 9 1 (.slice (some ⟨g, 0, none⟩) n cap) n (xs.map sv)) (hm : m = ys.length) (hsrc : SrcOK W A ys) (hB : B ≤ W.heap.size) (hn : n + m ≤ 1000000)
    {ops : Array Oper} {rest : List Oper} {o : Oper} {a : Act} {Q : Exit → Act → World → Prop} (s x : Operand) (hgd : o.guard = none) (hty : o.type = 28)
    (ho : o.op = .call { callee := .builtin .append, args := #[s, x], argTypes := #[28, 28] }) (hs : a.eval s = .slice (some ⟨g, 0, none⟩) n cap) (hx : a.eval x = .slice A m c) (L : Nat) (hL : L = n + m)
    (k : ∀ g' cap' W', W'.ownsRow B 9 1 (.slice (some ⟨g', 0, none⟩) L cap') L ((xs ++ ys).map sv) → W.grownBy W' (some g) → wpList Tryd.prog ops Q rest (a.put o.dst (.slice (some ⟨g', 0, none⟩) L cap')) W') :
    wpList Tryd.prog ops Q (o :: rest) a W := by
  subst hL
  obtain ⟨g', cap', W', hr, h2, h3⟩ := run_app (c := c) hown hm hsrc hB hn
  rw [← hty] at hr
  refine wpList_plain hgd fun K hK' => ?_
  unfold Oper.wp execOp
  simp only [ho, resolve, invoke, builtin, Sem.run_bind, Sem.run_pure, Result.andThen_ok, List.map_toArray, List.map_cons, List.map_nil, hs, hx]
  rw [hty] at hr
  first
    | (rw [hty, hr]; exact hK' _ _ (k g' cap' W' h2 h3))
    | (simp only [hty, hr]; exact hK' _ _ (k g' cap' W' h2 h3))

/-- A literal of texts is a row of one's own. -/
theorem owns_lit {W : World} {base g : Nat} {xs : List (List UInt8)} (hg : W.heap[g]? = some (.cells (xs.map sv).toArray 9 (0, 0))) (hb : base ≤ g) (hl : xs.length ≤ 1000000) : W.ownsRow base 9 1 (.slice (some ⟨g, 0, none⟩) xs.length xs.length) xs.length (xs.map sv) :=
  ⟨by simp, .inr ⟨g, xs.length, (xs.map sv).toArray, rfl, hb, hg, Nat.le_refl _, by unfold maxLen; omega, by simp, by rw [Nat.mul_one, List.take_of_length_le (by simp)]⟩⟩
theorem SR.src {W : World} {A : Option Addr} {m c : Nat} {xs : List (List UInt8)} (h : SR W (.slice A m c) xs) : SrcOK W A xs := by
  intro hp
  obtain ⟨A', c', e, h⟩ := h
  simp only [Value.slice.injEq] at e
  obtain ⟨rfl, _, rfl⟩ := e
  rcases h with rfl | ⟨b, o, rfl, hlt, hc⟩
  · simp at hp
  · refine ⟨_, rfl, fun i u hu => ?_⟩
    have hi : i < xs.length := by
      rcases Nat.lt_or_ge i xs.length with h1 | h1
      · exact h1
      · rw [List.getElem?_eq_none (by simpa using h1)] at hu; cases hu
    rw [Go.WideShapes.add_plain, hc i hi, ← hu, List.getElem?_map, List.getElem?_eq_getElem hi]
    rfl
/-- A row of one's own, read. -/
theorem owns_cells {W : World} {B g n cap : Nat} {xs : List (List UInt8)} (h : W.ownsRow B 9 1 (.slice (some ⟨g, 0, none⟩) n cap) n (xs.map sv)) :
    n = xs.length ∧ B ≤ g ∧ g < W.heap.size ∧ n ≤ cap ∧ cap ≤ maxLen ∧ (∀ k, ∀ hk : k < xs.length, W.cell? ⟨g, k, none⟩ = some (sv xs[k])) ∧ ∀ k, W.frozen? ⟨g, k, none⟩ = false := by
  obtain ⟨h1, h2⟩ := h
  have hn : n = xs.length := by simpa using h1.symm
  rcases h2 with ⟨h, _⟩ | ⟨g', cap', cur, e, hb, hg, hnc, hcm, hsz, ht⟩
  · cases h
  · simp only [Value.slice.injEq, Option.some.injEq, Addr.mk.injEq, true_and, and_true] at e
    obtain ⟨rfl, rfl⟩ := e
    refine ⟨hn, hb, lt_of_blk hg, hnc, hcm, fun k hk => ?_, fun k => freeAt hg k⟩
    rw [cellAt hg]
    have h3 : (cur.toList.take (n * 1))[k]? = cur.toList[k]? := List.getElem?_take_of_lt (by omega)
    rw [ht, List.getElem?_map, List.getElem?_eq_getElem hk] at h3
    rw [← Array.getElem?_toList, ← h3]
    rfl
theorem owns_any {W : World} {B n : Nat} {v : Value} {xs : List (List UInt8)} (h : W.ownsRow B 9 1 v n (xs.map sv)) : SR W v xs := by
  have h' := h
  obtain ⟨h1, h2⟩ := h
  have hn : n = xs.length := by simpa using h1.symm
  rcases h2 with ⟨rfl, h0⟩ | ⟨g, cap, cur, rfl, _⟩
  · exact ⟨none, 0, by rw [← hn, h0], .inl (List.length_eq_zero_iff.1 (by omega))⟩
  · obtain ⟨_, _, hl, _, _, hc, _⟩ := owns_cells h'
    exact ⟨some ⟨g, 0, none⟩, cap, by rw [hn], .inr ⟨g, 0, rfl, hl, fun k hk => by rw [Nat.zero_add]; exact hc k hk⟩⟩
theorem lit_sr {W : World} {g : Nat} {xs : List (List UInt8)} {n : Nat} (hg : W.heap[g]? = some (.cells (xs.map sv).toArray 9 (0, 0))) (hn : n = xs.length) (c : Nat) : SR W (.slice (some ⟨g, 0, none⟩) n c) xs := by
  subst hn
  refine ⟨_, c, rfl, .inr ⟨g, 0, rfl, lt_of_blk hg, fun k hk => ?_⟩⟩
  rw [Nat.zero_add, cellAt hg]
  simp [hk]
end Go.Proofs.YtanfonpbnamjmaaDoor
