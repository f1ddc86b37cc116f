/-
  A loop over an iterator whose body may leave early and may itself stand in an iterator: what the body keeps is said of the blocks behind the loop's own (KeepsFrom), and of what the iterator reads (Kp).
-/
import Derived.RangeFuncFrom
import Derived.RangeFuncNested
import Derived.Test.YtamlblfhjpajhaaDoorERow
namespace Go.Proofs.YtamlblfhjpajhaaDoor
set_option linter.unusedSimpArgs false
set_option linter.unusedVariables false
open Go Go.RowKit
set_option maxRecDepth 100000
section
variable {F : Fence} {n : Nat} {P : Program}

/-- With no bound on the depth, how deep a round may call makes no difference. -/
theorem yieldAt_wide {m m' : Nat} {l : Nat} {args : Array Value} {W : World} {R : Ending → World → Prop} (h : YieldAt Fence.wide m P l args W R) : YieldAt Fence.wide m' P l args W R := by
  obtain ⟨fn, tmps, assign, body, hy, hr⟩ := h
  exact ⟨fn, tmps, assign, body, hy, hr.1, fun c cs _ => hr.2 c cs (room_wide _)⟩

/-- An iterator's contract: it hands over, each behind those ahead, what may come next; till it has handed over all, or the body has left. -/
def HandsO {α : Type} (F : Fence) (n : Nat) (P : Program) (g : Nat) (lb : Array Value) (encs : α → Array Value) (Kp : World → World → Prop) (Nxt : List α → α → Prop) (S Sp : List α → Prop) (w : World) : Prop :=
  ∀ (l : Nat) (J Jx : List α → World → Prop) (W : World), Below w.heap.size w W → OwnFrom W.heap.size J → OwnFrom W.heap.size Jx →
    (∀ pre x W1, J pre W1 → Nxt pre x → YieldAt F (n - 1) P l (encs x) W1 fun e W2 => (Kp W1 W2 ∧ KeepsFrom W.heap.size W1 W2) ∧ ((e = .returned (.bool true) ∧ J (pre ++ [x]) W2) ∨ (e = .returned (.bool false) ∧ Jx (pre ++ [x]) W2))) →
    J [] W → CallsIn F n P g (#[.func (.yield l) #[] #[]] ++ lb) W fun e W2 => (∃ v, e = .returned v) ∧ ((∃ xs, S xs ∧ J xs W2) ∨ ∃ pre, Sp pre ∧ Jx pre W2)

/-- How the body of a round may be left. -/
def ownPostO {α : Type} (B : Nat) (Kp : World → World → Prop) (I : List α → World → Prop) (Ix : Code → List α → World → Prop) (xs : List α) (W : World) : Exit → Act → World → Prop
  | .normal, _, W' => KeepsFrom B W W' ∧ Kp W W' ∧ I xs W'
  | .ret, _, W' => KeepsFrom B W W' ∧ Kp W W' ∧ Ix .ret xs W'
  | .exit id, _, W' => KeepsFrom B W W' ∧ Kp W W' ∧ Ix (.exit id) xs W'
  | .goto t, _, W' => KeepsFrom B W W' ∧ Kp W W' ∧ Ix (.goto t) xs W'
  | .panic _, _, _ => False
  | .outgrown, _, _ => False

theorem wpIn_rangeFunc_hd {α : Type} {g : Operand} {ps : Array Tmp} {assign body : Code} {Q : Exit → Act → World → Prop} {a : Act} {w : World}
    (hro : F.round = none) (h1 : 1 ≤ n) {gf : Nat} {lb : Array Value} (hg : a.eval g = .func (.func gf) #[] lb) (hFg : F.fn gf) (eg : ∀ args w, (callFunc gf args).run P w = .ok (.enter gf args) w)
    {encs : α → Array Value} {Kp : World → World → Prop} {Nxt : List α → α → Prop} {S Sp : List α → Prop} (hseq : HandsO F (n - 1) P gf lb encs Kp Nxt S Sp w)
    (hKt : ∀ {A B C : World}, Kp A B → Kp B C → Kp A C) (hKb : ∀ (W : World) (o o' : Obj), W.heap[w.heap.size + 1]? = some o → o.isCells = false → Kp W (W.putObj (w.heap.size + 1) o')) (hps : ∀ x, (encs x).size = ps.size)
    (I : List α → World → Prop) (Ix : Code → List α → World → Prop) (hI : OwnFrom w.heap.size I) (hIx : ∀ c, OwnFrom w.heap.size (Ix c)) (h0 : I [] w) (Ax : α → Act → World → Prop) (hAx : ∀ x a', OwnFrom w.heap.size (fun (_ : Unit) W => Ax x a' W))
    (hassign : ∀ (l : Nat) (pre : List α) (x : α) (W : World) (K : Act → World → Prop), I pre W → Nxt pre x → (∀ a' W', KeepsFrom w.heap.size W W' → Kp W W' → I pre W' → Ax x a' W' → K a' W') →
      assign.wpIn (F.inRound l) (n - 1 - 1) P (Exit.then K (fun _ _ _ => False)) { tmps := (ps.zip (encs x)).foldl (fun t (p, v) => t.setIfInBounds p v) a.tmps, defers := [] } W)
    (hbody : ∀ (l : Nat) (pre : List α) (x : α) (a' : Act) (W : World), I pre W → Nxt pre x → Ax x a' W → body.wpIn (F.inRound l) (n - 1 - 1) P (ownPostO w.heap.size Kp I Ix (pre ++ [x]) W) a' W)
    (hdone : ∀ (D : Nat) (xs : List α) (W : World), w.heap.size ≤ D → S xs → I xs W → W.heap[D]? = some (.deferred (some [])) → Q .normal { a with defers := { target := .collected D, args := #[] } :: a.defers } W)
    (hstop : ∀ (D : Nat) (c : Code) (pre : List α) (W : World), w.heap.size ≤ D → Sp pre → Ix c pre W → W.heap[D]? = some (.deferred (some [])) → c.wpIn F n P Q { a with defers := { target := .collected D, args := #[] } :: a.defers } W) :
    (Code.rangeFunc g ps assign body).wpIn F n P Q a w := by
  refine wpIn_rangeFunc ?_
  intro fn hfn
  rw [hro]
  -- the loop's record, in each of its states
  obtain ⟨rec, hrec⟩ : ∃ rec : LoopState → Option Code → Loop, rec = fun st pe => { state := st, pending := pe, fn, tmps := a.tmps, params := ps, assign, body, defers := w.heap.size } := ⟨_, rfl⟩
  obtain ⟨V, hV⟩ : ∃ V, V = (w.alloc (.deferred (some []))).alloc (.loop (rec .ready none)) := ⟨_, rfl⟩
  have vL : V.heap[w.heap.size + 1]? = some (.loop (rec .ready none)) := by
    have := World.alloc_heap_new (w.alloc (.deferred (some []))) (.loop (rec .ready none))
    rw [World.size_alloc] at this; rw [hV]; exact this
  have vD : V.heap[w.heap.size]? = some (.deferred (some [])) := by
    rw [hV]; exact (Below.heap_alloc _ _ _ (by simp)).trans (World.alloc_heap_new w _)
  have vb : Below w.heap.size w V := by rw [hV]; exact ((Below.refl _ w).alloc (Nat.le_refl _) _).alloc (by simp) _
  have vs : w.heap.size + 2 ≤ V.heap.size := by rw [hV]; simp
  have vI : I [] V := by rw [hV]; exact hI.alloc _ (hI.alloc _ h0)
  refine ⟨w.heap.size + 1, [{ target := .collected w.heap.size, args := #[] }], V, { target := .fn (.func gf) lb, args := #[.func (.yield (w.heap.size + 1)) #[] #[]] }, V, gf,
    #[.func (.yield (w.heap.size + 1)) #[] #[]] ++ lb, V, ?_, ?_, ?_, ?_, fun _ => h1, ?_⟩
  · rw [hV, hrec]; exact run_enterLoop_outer _ _ _ _ _
  · simp only [resolve, hg]; simp [go_sem]
  · intro f' hf'; simp [Target.leads] at hf'; subst hf'; exact hFg
  · simp [invoke, go_sem, eg]
  -- what the caller says, with the record and the deferred calls beside it
  obtain ⟨J, hJ⟩ : ∃ J : List α → World → Prop, J = fun pre W => I pre W ∧ W.heap[w.heap.size + 1]? = some (.loop (rec .ready none)) ∧ W.heap[w.heap.size]? = some (.deferred (some [])) := ⟨_, rfl⟩
  obtain ⟨Jx, hJx⟩ : ∃ Jx : List α → World → Prop, Jx = fun pre W => ∃ c, Ix c pre W ∧ W.heap[w.heap.size + 1]? = some (.loop (rec .done (some c))) ∧ W.heap[w.heap.size]? = some (.deferred (some [])) := ⟨_, rfl⟩
  have up : ∀ {A : World} {row : Option Nat}, (∀ r, row = some r → V.heap.size ≤ r ∧ ∃ o : Obj, A.heap[r]? = some o ∧ o.isCells = false) → (∀ r, row = some r → w.heap.size ≤ r ∧ ∃ o : Obj, A.heap[r]? = some o ∧ o.isCells = false) := fun hr r e => ⟨by have := (hr r e).1; omega, (hr r e).2⟩
  have stay : ∀ {A B : World} {row : Option Nat} {k : Nat} {o : Obj}, k < w.heap.size + 2 → A.heap[k]? = some o → A.grownBy B row → (∀ r, row = some r → V.heap.size ≤ r ∧ ∃ o : Obj, A.heap[r]? = some o ∧ o.isCells = false) → B.heap[k]? = some o := fun hk ho hgr hr =>
    (hgr.block _ (Array.getElem?_eq_some_iff.1 ho).1 (fun e => by have := (hr _ e.symm).1; omega)).trans ho
  refine (hseq (w.heap.size + 1) J Jx V vb ?_ ?_ ?_ (by rw [hJ]; exact ⟨vI, vL, vD⟩)).mono ?_
  · rw [hJ]
    rintro pre A B row ⟨hi, hl, hk⟩ hgr hr
    exact ⟨hI pre A B row hi hgr (up hr), stay (by omega) hl hgr hr, stay (by omega) hk hgr hr⟩
  · rw [hJx]
    rintro pre A B row ⟨c, hi, hl, hk⟩ hgr hr
    exact ⟨c, hIx c pre A B row hi hgr (up hr), stay (by omega) hl hgr hr, stay (by omega) hk hgr hr⟩
  · -- a round
    intro pre x W hj hnx
    rw [hJ] at hj
    obtain ⟨hi, hl, hk⟩ := hj
    have hy := run_yield (P := P) (args := encs x) hl (by rw [hrec]; exact hps x)
    rw [hrec] at hy
    refine ⟨fn, _, assign, body, hy, roundIn_of_wpIn hfn (hassign _ pre x W _ hi hnx ?_)⟩
    intro a' Wa hka hpa hia hax
    have hl' := hka.same _ _ (by omega) hl rfl
    have hk' := hka.same _ _ (by omega) hk rfl
    have hlt : w.heap.size + 1 < Wa.heap.size := (Array.getElem?_eq_some_iff.1 hl').1
    refine ⟨_, run_beginRound hl' (by rw [hrec]), ?_⟩
    obtain ⟨W2, hW2⟩ : ∃ W2, W2 = Wa.putObj (w.heap.size + 1) (.loop { rec .ready none with state := .busy }) := ⟨_, rfl⟩
    rw [← hW2]
    have l2 : W2.heap[w.heap.size + 1]? = some (.loop { rec .ready none with state := .busy }) := by rw [hW2]; exact World.putObj_heap_same hlt
    have k2 : W2.heap[w.heap.size]? = some (.deferred (some [])) := by rw [hW2]; exact (World.putObj_heap_other (by omega)).trans hk'
    have p2 : Kp W W2 := hKt hpa (by rw [hW2]; exact hKb _ _ _ hl' rfl)
    have vs' : w.heap.size ≤ V.heap.size := by omega
    have kv : ∀ {A B : World}, KeepsFrom w.heap.size A B → KeepsFrom V.heap.size A B := fun h => ⟨h.size, fun k o hk h0 ho => h.same k o (by omega) h0 ho⟩
    have kt : ∀ {A B C : World}, KeepsFrom V.heap.size A B → KeepsFrom V.heap.size B C → KeepsFrom V.heap.size A C := fun h h' => ⟨Nat.le_trans h.size h'.size, fun k o hk h0 ho => h'.same k o hk (h.same k o hk h0 ho) ho⟩
    have q4 : ∀ (W3 : World) (o' : Obj), KeepsFrom V.heap.size W3 (W3.putObj (w.heap.size + 1) o') := fun W3 o' => ⟨by rw [World.putObj_size]; exact Nat.le_refl _, fun k o hk h0 _ => (World.putObj_heap_other (by omega)).trans h0⟩
    have q2 : KeepsFrom V.heap.size W W2 := kt (kv hka) (by rw [hW2]; exact q4 _ _)
    have i2 : I pre W2 := by rw [hW2]; exact hI.putObj _ hia (by omega) hl' rfl
    have x2 : Ax x a' W2 := by rw [hW2]; exact (hAx x a').putObj (s := ()) _ hax (by omega) hl' rfl
    -- how the round's end finds the record, and leaves it
    have ends : ∀ (jump : Option Code) (W3 : World), KeepsFrom w.heap.size W2 W3 → ∃ W4, W4 = W3.putObj (w.heap.size + 1) (.loop (rec (if jump.isNone then .ready else .done) jump)) ∧
        (Instr.endRound (w.heap.size + 1) jump).run P W3 = .ok (.bool jump.isNone) W4 ∧ W3.heap[w.heap.size + 1]? = some (.loop { rec .ready none with state := .busy }) ∧
        W4.heap[w.heap.size + 1]? = some (.loop (rec (if jump.isNone then .ready else .done) jump)) ∧ W4.heap[w.heap.size]? = some (.deferred (some [])) := fun jump W3 h3 => by
      have l3 := h3.same _ _ (by omega) l2 rfl
      have h4 := run_endRound (P := P) jump l3
      refine ⟨_, rfl, ?_, l3, World.putObj_heap_same (Array.getElem?_eq_some_iff.1 l3).1, (World.putObj_heap_other (by omega)).trans (h3.same _ _ (by omega) k2 rfl)⟩
      rw [hrec] at h4 ⊢
      exact h4
    have left : ∀ (c : Code) (W3 : World), KeepsFrom w.heap.size W2 W3 → Kp W2 W3 → Ix c (pre ++ [x]) W3 → ∃ v W4, (Instr.endRound (w.heap.size + 1) (some c)).run P W3 = .ok v W4 ∧ v = .bool false ∧ Jx (pre ++ [x]) W4 ∧ Kp W W4 ∧ KeepsFrom V.heap.size W W4 := fun c W3 h3 hp3 hx => by
      obtain ⟨W4, e4, r4, l3, l4, k4⟩ := ends (some c) W3 h3
      refine ⟨_, W4, r4, rfl, ?_, hKt (hKt p2 hp3) (by rw [e4]; exact hKb _ _ _ l3 rfl), kt (kt q2 (kv h3)) (by rw [e4]; exact q4 _ _)⟩
      rw [hJx]
      exact ⟨c, by rw [e4]; exact (hIx _).putObj _ hx (by omega) l3 rfl, l4, k4⟩
    refine wpIn_mono (hbody _ pre x a' _ i2 hnx x2) ?_
    rintro e a3 W3 hp
    cases e with
    | normal =>
      obtain ⟨h3, hp3, hi3⟩ := hp
      obtain ⟨W4, e4, r4, l3, l4, k4⟩ := ends none W3 h3
      refine ⟨_, W4, r4, ⟨hKt (hKt p2 hp3) (by rw [e4]; exact hKb _ _ _ l3 rfl), kt (kt q2 (kv h3)) (by rw [e4]; exact q4 _ _)⟩, .inl ⟨rfl, ?_⟩⟩
      rw [hJ]
      exact ⟨by rw [e4]; exact hI.putObj _ hi3 (by omega) l3 rfl, l4, k4⟩
    | ret =>
      obtain ⟨v, W4, r4, rfl, hx, y1, y2⟩ := left .ret W3 hp.1 hp.2.1 hp.2.2
      exact ⟨_, _, r4, ⟨y1, y2⟩, .inr ⟨rfl, hx⟩⟩
    | exit id =>
      obtain ⟨v, W4, r4, rfl, hx, y1, y2⟩ := left (.exit id) W3 hp.1 hp.2.1 hp.2.2
      exact ⟨_, _, r4, ⟨y1, y2⟩, .inr ⟨rfl, hx⟩⟩
    | goto t =>
      obtain ⟨v, W4, r4, rfl, hx, y1, y2⟩ := left (.goto t) W3 hp.1 hp.2.1 hp.2.2
      exact ⟨_, _, r4, ⟨y1, y2⟩, .inr ⟨rfl, hx⟩⟩
    | panic ch => exact hp.elim
    | outgrown => exact hp.elim
  · -- behind the iterator
    rintro e W2 ⟨⟨v, rfl⟩, (⟨xs, hS, hj⟩ | ⟨pre, hSp, hj⟩)⟩
    · rw [hJ] at hj
      obtain ⟨hi, hl, hk⟩ := hj
      have hend := run_endLoop (P := P) hl (by rw [hrec]; simp)
      rw [hrec] at hend
      exact ⟨none, _, hend, hdone _ xs _ (Nat.le_refl _) hS (hI.putObj _ hi (by omega) hl rfl) ((World.putObj_heap_other (by omega)).trans hk)⟩
    · rw [hJx] at hj
      obtain ⟨c, hi, hl, hk⟩ := hj
      have hend := run_endLoop (P := P) hl (by rw [hrec]; simp)
      rw [hrec] at hend
      exact ⟨some c, _, hend, hstop _ c pre _ (Nat.le_refl _) hSp ((hIx c).putObj _ hi (by omega) hl rfl) ((World.putObj_heap_other (by omega)).trans hk)⟩
end
end Go.Proofs.YtamlblfhjpajhaaDoor
