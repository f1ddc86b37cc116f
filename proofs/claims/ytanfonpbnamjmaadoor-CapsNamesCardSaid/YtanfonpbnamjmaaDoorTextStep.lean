/-
  Appends of texts as a step of a region that draws its order.
-/
import Derived.Deep.Slices
import Derived.Test.YtanfonpbnamjmaaDoorTextApp
namespace Go.Proofs.YtanfonpbnamjmaaDoor
open Go Go.RowKit Go.Shelf
set_option maxRecDepth 100000

theorem put_step {W : World} {ops : Array Oper} {o : Oper} {a : Act} {K : Act → World → Prop} {Q : Exit → Act → World → Prop} {E : Prop} (hgd : o.guard = none) (s x : Operand)
    (ho : o.op = .call { callee := .builtin .append, args := #[s, x], argTypes := #[28, 28] }) (hty : o.type = 28) {B g n cap m c : Nat} {A : Option Addr} {xs ys : List (List UInt8)}
    (hs : a.eval s = .slice (some ⟨g, 0, none⟩) n cap) (hx : a.eval x = .slice A m c) (hown : W.ownsRow B 9 1 (.slice (some ⟨g, 0, none⟩) n cap) n (xs.map sv)) (hm : m = ys.length) (hsrc : SrcOK W A ys) (hB : B ≤ W.heap.size) (hn : n + m ≤ 1000000) (L : Nat) (hL : L = n + m)
    (h : ∀ g' cap' W', W'.ownsRow B 9 1 (.slice (some ⟨g', 0, none⟩) L cap') L ((xs ++ ys).map sv) → W.grownBy W' (some g) → K (a.put o.dst (.slice (some ⟨g', 0, none⟩) L cap')) W') :
    if Region.wanted o (yielded ops a.tmps) = true then Oper.wp Tryd.prog o a W K Q else E := by
  have hw : Region.wanted o (yielded ops a.tmps) = true := by simp [Region.wanted, hgd]
  rw [if_pos hw]
  subst hL
  obtain ⟨g', cap', W', hr, h2, h3⟩ := run_app (c := c) hown hm hsrc hB hn
  rw [← hty] at hr
  unfold Oper.wp execOp
  simp only [ho, resolve, invoke, builtin, Sem.run_bind, Sem.run_pure, Result.andThen_ok, List.map_toArray, List.map_cons, List.map_nil, hs, hx]
  rw [hty] at hr
  first
    | (rw [hty, hr]; exact h g' cap' W' h2 h3)
    | (simp only [hty, hr]; exact h g' cap' W' h2 h3)
/-- The same, of an operation whose guard lets it run. -/
theorem put_stepG {W : World} {ops : Array Oper} {o : Oper} {a : Act} {K : Act → World → Prop} {Q : Exit → Act → World → Prop} {E : Prop} (hw : Region.wanted o (yielded ops a.tmps) = true) (s x : Operand)
    (ho : o.op = .call { callee := .builtin .append, args := #[s, x], argTypes := #[28, 28] }) (hty : o.type = 28) {B g n cap m c : Nat} {A : Option Addr} {xs ys : List (List UInt8)}
    (hs : a.eval s = .slice (some ⟨g, 0, none⟩) n cap) (hx : a.eval x = .slice A m c) (hown : W.ownsRow B 9 1 (.slice (some ⟨g, 0, none⟩) n cap) n (xs.map sv)) (hm : m = ys.length) (hsrc : SrcOK W A ys) (hB : B ≤ W.heap.size) (hn : n + m ≤ 1000000) (L : Nat) (hL : L = n + m)
    (h : ∀ g' cap' W', W'.ownsRow B 9 1 (.slice (some ⟨g', 0, none⟩) L cap') L ((xs ++ ys).map sv) → W.grownBy W' (some g) → K (a.put o.dst (.slice (some ⟨g', 0, none⟩) L cap')) W') :
    if Region.wanted o (yielded ops a.tmps) = true then Oper.wp Tryd.prog o a W K Q else E := by
  rw [if_pos hw]
  subst hL
  obtain ⟨g', cap', W', hr, h2, h3⟩ := run_app (c := c) hown hm hsrc hB hn
  rw [← hty] at hr
  unfold Oper.wp execOp
  simp only [ho, resolve, invoke, builtin, Sem.run_bind, Sem.run_pure, Result.andThen_ok, List.map_toArray, List.map_cons, List.map_nil, hs, hx]
  rw [hty] at hr
  first
    | (rw [hty, hr]; exact h g' cap' W' h2 h3)
    | (simp only [hty, hr]; exact h g' cap' W' h2 h3)
theorem heap_drew (w : World) : w.drew.heap = w.heap := rfl
theorem size_drew (w : World) : w.drew.heap.size = w.heap.size := rfl
theorem heap_at_alloc (w : World) (o : Obj) : (w.alloc o).heap[w.heap.size]? = some o := heap_alloc_new w o
theorem heap_alloc_if (W : World) (o : Obj) (k : Nat) : (W.alloc o).heap[k]? = if k = W.heap.size then some o else W.heap[k]? := by
  show (W.heap.push o)[k]? = _
  rw [Array.getElem?_push]
theorem grow_block {W W' : World} {row : Option Nat} {b : Nat} {o : Obj} (hg : W.grownBy W' row) (h : W.heap[b]? = some o) (hne : some b ≠ row) : W'.heap[b]? = some o :=
  (hg.block b (lt_of_blk h) hne).trans h
/-- A slice of texts cut in two. -/
theorem cuts_run (A : Option Addr) (n c p : Nat) (hp : p ≤ n) (hn : n ≤ c) : ∃ A3, (∀ W, (Instr.slice 28 (.slice A n c) none (some (.int .i64 (p : Int))) none).run Tryd.prog W = .ok (.slice A p c) W) ∧
    (∀ W, (Instr.slice 28 (.slice A n c) (some (.int .i64 (p : Int))) none none).run Tryd.prog W = .ok (.slice A3 (n - p) (c - p)) W) ∧ (p < n → A3 = A.map (·.add p)) := by
  have h1 : (p : Int) ≤ (n : Int) := by omega
  have h3 : (n : Int) ≤ (c : Int) := by omega
  have h4 : (p : Int) ≤ (c : Int) := by omega
  have hz : A.map (fun a => a.add 0) = A := by cases A <;> simp [Addr.add]
  by_cases h2 : c = p
  · subst h2
    refine ⟨A, fun W => ?_, fun W => ?_, fun h => by omega⟩
    · by_cases h0 : c = 0
      · subst h0; go_simp
      · go_simp
    · go_simp
  · refine ⟨A.map (·.add p), fun W => ?_, fun W => ?_, fun _ => rfl⟩
    · by_cases h0 : c = 0
      · omega
      · go_simp
    · go_simp
theorem cuts_src {W : World} {A A3 : Option Addr} {xs : List (List UInt8)} {p : Nat} (h : SrcOK W A xs) (h3 : p < xs.length → A3 = A.map (·.add p)) : SrcOK W A (xs.take p) ∧ SrcOK W A3 (xs.drop p) := by
  constructor
  · intro hp
    rw [List.length_take] at hp
    obtain ⟨ad, e, hc⟩ := h (by omega)
    refine ⟨ad, e, fun i u hu => hc i u ?_⟩
    rw [List.getElem?_map] at hu ⊢
    have hi : i < p := by
      rcases Nat.lt_or_ge i p with h1 | h1
      · exact h1
      · rw [List.getElem?_eq_none (by rw [List.length_take]; omega)] at hu; simp at hu
    rwa [List.getElem?_take_of_lt hi] at hu
  · intro hp
    rw [List.length_drop] at hp
    obtain ⟨ad, rfl, hc⟩ := h (by omega)
    refine ⟨ad.add p, by rw [h3 (by omega)]; rfl, fun i u hu => ?_⟩
    rw [Go.Deep.add_add]
    refine hc (p + i) u ?_
    rw [List.getElem?_map] at hu ⊢
    rwa [List.getElem?_drop] at hu
/-- A literal of texts as it was laid, behind whatever draws. -/
theorem lit_row {W : World} {base g : Nat} {xs : List (List UInt8)} {C : Array Value} (hC : C = (xs.map sv).toArray) (hg : W.heap[g]? = some (.cells C 9 (0, 0))) (hb : base ≤ g) (hl : xs.length ≤ 1000000) {n : Nat} (hn : n = xs.length) : W.ownsRow base 9 1 (.slice (some ⟨g, 0, none⟩) n n) n (xs.map sv) := by
  subst hC; subst hn
  exact owns_lit hg hb hl
/-- An append whose guard lets it run, in the text's order. -/
theorem row_appG {W : World} {B g n cap m c : Nat} {A : Option Addr} {xs ys : List (List UInt8)} (hown : W.ownsRow B 9 1 (.slice (some ⟨g, 0, none⟩) n cap) n (xs.map sv)) (hm : m = ys.length) (hsrc : SrcOK W A ys) (hB : B ≤ W.heap.size) (hn : n + m ≤ 1000000)
    {ops : Array Oper} {rest : List Oper} {o : Oper} {a : Act} {Q : Exit → Act → World → Prop} (s x : Operand) (hw : Region.wanted o (yielded ops a.tmps) = true) (hty : o.type = 28)
    (ho : o.op = .call { callee := .builtin .append, args := #[s, x], argTypes := #[28, 28] }) (hs : a.eval s = .slice (some ⟨g, 0, none⟩) n cap) (hx : a.eval x = .slice A m c) (L : Nat) (hL : L = n + m)
    (k : ∀ g' cap' W', W'.ownsRow B 9 1 (.slice (some ⟨g', 0, none⟩) L cap') L ((xs ++ ys).map sv) → W.grownBy W' (some g) → wpList Tryd.prog ops Q rest (a.put o.dst (.slice (some ⟨g', 0, none⟩) L cap')) W') :
    wpList Tryd.prog ops Q (o :: rest) a W :=
  wpList_step fun K hK => put_stepG hw s x ho hty hs hx hown hm hsrc hB hn L hL fun g' cap' W' h2 h3 => hK _ _ (k g' cap' W' h2 h3)
/-- What lies there still. -/
def SV (X W : World) : Prop := Below X.heap.size X W
theorem SV.refl (X : World) : SV X X := Below.refl _ _
theorem SV.drew {X W : World} (h : SV X W) : SV X W.drew := Below.drew h
theorem SV.alloc {X W : World} (h : SV X W) (o : Obj) : SV X (W.alloc o) := Below.alloc h (Below.size h) o
theorem SV.grown {X W W' : World} {g : Nat} (h : SV X W) (hg : W.grownBy W' (some g)) (hu : X.heap.size ≤ g) : SV X W' := Below.grown h hg (Below.size h) (fun j e => by injection e with e; omega)
theorem SV.step {X W W' : World} (h : SV X W) (hb : Below W.heap.size W W') : SV X W' := Below.trans h (hb.mono (Below.size h))
theorem SV.size {X W : World} (h : SV X W) : X.heap.size ≤ W.heap.size := Below.size h
end Go.Proofs.YtanfonpbnamjmaaDoor
