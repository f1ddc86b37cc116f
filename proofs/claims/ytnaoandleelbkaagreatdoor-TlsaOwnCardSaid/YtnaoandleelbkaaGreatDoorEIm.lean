/-
  A loop over an iterator whose body may leave early and may itself stand in an iterator: what the body keeps is said of the blocks behind the loop's own (KeepsFrom), and of what the iterator reads (Kp).
  The iterator over the things of a text: what it hands over, each behind those ahead.
  The contract of All.
-/
import Derived.RangeFuncFrom
import Derived.RangeFuncNested
import Derived.Test.YtnaoandleelbkaaGreatDoorEWm
import Derived.RangeFuncBound
import Derived.RangeFuncCalls
import Derived.RangeFuncLeaves
import Derived.Shelf.Abstract
import Derived.Shelf.RegionOpen
import Derived.OwnWalkIn
import Derived.TacticsInMore
import Derived.LoopNIn
import Derived.LoopIn
import Derived.Sort.QuietIn
import Derived.Test.YtnaoandleelbkaaGreatDoorEPm
import Derived.RangeFuncBox
import Derived.Maps.AppendAt
import Derived.Outline
namespace Go.Proofs.YtnaoandleelbkaaGreatDoor
set_option linter.unusedSimpArgs false
set_option linter.unusedVariables false
open Go Go.RowKit
set_option maxRecDepth 100000
section
variable {F : Fence} {n : Nat} {P : Program}

/-- With no bound on the depth, how deep a round may call makes no difference. -/
theorem yieldAt_wide {m m' : Nat} {l : Nat} {args : Array Value} {W : World} {R : Ending → World → Prop} (h : YieldAt Fence.wide m P l args W R) : YieldAt Fence.wide m' P l args W R := by
  obtain ⟨fn, tmps, assign, body, hy, hr⟩ := h
  exact ⟨fn, tmps, assign, body, hy, hr.1, fun c cs _ => hr.2 c cs (room_wide _)⟩

/-- An iterator's contract: it hands over, each behind those ahead, what may come next; till it has handed over all, or the body has left. -/
def HandsO {α : Type} (F : Fence) (n : Nat) (P : Program) (g : Nat) (lb : Array Value) (encs : α → Array Value) (Kp : World → World → Prop) (Nxt : List α → α → Prop) (S Sp : List α → Prop) (w : World) : Prop :=
  ∀ (l : Nat) (J Jx : List α → World → Prop) (W : World), Below w.heap.size w W → OwnFrom W.heap.size J → OwnFrom W.heap.size Jx →
    (∀ pre x W1, J pre W1 → Nxt pre x → YieldAt F (n - 1) P l (encs x) W1 fun e W2 => (Kp W1 W2 ∧ KeepsFrom W.heap.size W1 W2) ∧ ((e = .returned (.bool true) ∧ J (pre ++ [x]) W2) ∨ (e = .returned (.bool false) ∧ Jx (pre ++ [x]) W2))) →
    J [] W → CallsIn F n P g (#[.func (.yield l) #[] #[]] ++ lb) W fun e W2 => (∃ v, e = .returned v) ∧ ((∃ xs, S xs ∧ J xs W2) ∨ ∃ pre, Sp pre ∧ Jx pre W2)

/-- How the body of a round may be left. -/
def ownPostO {α : Type} (B : Nat) (Kp : World → World → Prop) (I : List α → World → Prop) (Ix : Code → List α → World → Prop) (xs : List α) (W : World) : Exit → Act → World → Prop
  | .normal, _, W' => KeepsFrom B W W' ∧ Kp W W' ∧ I xs W'
  | .ret, _, W' => KeepsFrom B W W' ∧ Kp W W' ∧ Ix .ret xs W'
  | .exit id, _, W' => KeepsFrom B W W' ∧ Kp W W' ∧ Ix (.exit id) xs W'
  | .goto t, _, W' => KeepsFrom B W W' ∧ Kp W W' ∧ Ix (.goto t) xs W'
  | .panic _, _, _ => False
  | .outgrown, _, _ => False

theorem wpIn_rangeFunc_hd {α : Type} {g : Operand} {ps : Array Tmp} {assign body : Code} {Q : Exit → Act → World → Prop} {a : Act} {w : World}
    (hro : F.round = none) (h1 : 1 ≤ n) {gf : Nat} {lb : Array Value} (hg : a.eval g = .func (.func gf) #[] lb) (hFg : F.fn gf) (eg : ∀ args w, (callFunc gf args).run P w = .ok (.enter gf args) w)
    {encs : α → Array Value} {Kp : World → World → Prop} {Nxt : List α → α → Prop} {S Sp : List α → Prop} (hseq : HandsO F (n - 1) P gf lb encs Kp Nxt S Sp w)
    (hKt : ∀ {A B C : World}, Kp A B → Kp B C → Kp A C) (hKb : ∀ (W : World) (o o' : Obj), W.heap[w.heap.size + 1]? = some o → o.isCells = false → Kp W (W.putObj (w.heap.size + 1) o')) (hps : ∀ x, (encs x).size = ps.size)
    (I : List α → World → Prop) (Ix : Code → List α → World → Prop) (hI : OwnFrom w.heap.size I) (hIx : ∀ c, OwnFrom w.heap.size (Ix c)) (h0 : I [] w) (Ax : α → Act → World → Prop) (hAx : ∀ x a', OwnFrom w.heap.size (fun (_ : Unit) W => Ax x a' W))
    (hassign : ∀ (l : Nat) (pre : List α) (x : α) (W : World) (K : Act → World → Prop), I pre W → Nxt pre x → (∀ a' W', KeepsFrom w.heap.size W W' → Kp W W' → I pre W' → Ax x a' W' → K a' W') →
      assign.wpIn (F.inRound l) (n - 1 - 1) P (Exit.then K (fun _ _ _ => False)) { tmps := (ps.zip (encs x)).foldl (fun t (p, v) => t.setIfInBounds p v) a.tmps, defers := [] } W)
    (hbody : ∀ (l : Nat) (pre : List α) (x : α) (a' : Act) (W : World), I pre W → Nxt pre x → Ax x a' W → body.wpIn (F.inRound l) (n - 1 - 1) P (ownPostO w.heap.size Kp I Ix (pre ++ [x]) W) a' W)
    (hdone : ∀ (D : Nat) (xs : List α) (W : World), w.heap.size ≤ D → S xs → I xs W → W.heap[D]? = some (.deferred (some [])) → Q .normal { a with defers := { target := .collected D, args := #[] } :: a.defers } W)
    (hstop : ∀ (D : Nat) (c : Code) (pre : List α) (W : World), w.heap.size ≤ D → Sp pre → Ix c pre W → W.heap[D]? = some (.deferred (some [])) → c.wpIn F n P Q { a with defers := { target := .collected D, args := #[] } :: a.defers } W) :
    (Code.rangeFunc g ps assign body).wpIn F n P Q a w := by
  refine wpIn_rangeFunc ?_
  intro fn hfn
  rw [hro]
  -- the loop's record, in each of its states
  obtain ⟨rec, hrec⟩ : ∃ rec : LoopState → Option Code → Loop, rec = fun st pe => { state := st, pending := pe, fn, tmps := a.tmps, params := ps, assign, body, defers := w.heap.size } := ⟨_, rfl⟩
  obtain ⟨V, hV⟩ : ∃ V, V = (w.alloc (.deferred (some []))).alloc (.loop (rec .ready none)) := ⟨_, rfl⟩
  have vL : V.heap[w.heap.size + 1]? = some (.loop (rec .ready none)) := by
    have := World.alloc_heap_new (w.alloc (.deferred (some []))) (.loop (rec .ready none))
    rw [World.size_alloc] at this; rw [hV]; exact this
  have vD : V.heap[w.heap.size]? = some (.deferred (some [])) := by
    rw [hV]; exact (Below.heap_alloc _ _ _ (by simp)).trans (World.alloc_heap_new w _)
  have vb : Below w.heap.size w V := by rw [hV]; exact ((Below.refl _ w).alloc (Nat.le_refl _) _).alloc (by simp) _
  have vs : w.heap.size + 2 ≤ V.heap.size := by rw [hV]; simp
  have vI : I [] V := by rw [hV]; exact hI.alloc _ (hI.alloc _ h0)
  refine ⟨w.heap.size + 1, [{ target := .collected w.heap.size, args := #[] }], V, { target := .fn (.func gf) lb, args := #[.func (.yield (w.heap.size + 1)) #[] #[]] }, V, gf,
    #[.func (.yield (w.heap.size + 1)) #[] #[]] ++ lb, V, ?_, ?_, ?_, ?_, fun _ => h1, ?_⟩
  · rw [hV, hrec]; exact run_enterLoop_outer _ _ _ _ _
  · simp only [resolve, hg]; simp [go_sem]
  · intro f' hf'; simp [Target.leads] at hf'; subst hf'; exact hFg
  · simp [invoke, go_sem, eg]
  -- what the caller says, with the record and the deferred calls beside it
  obtain ⟨J, hJ⟩ : ∃ J : List α → World → Prop, J = fun pre W => I pre W ∧ W.heap[w.heap.size + 1]? = some (.loop (rec .ready none)) ∧ W.heap[w.heap.size]? = some (.deferred (some [])) := ⟨_, rfl⟩
  obtain ⟨Jx, hJx⟩ : ∃ Jx : List α → World → Prop, Jx = fun pre W => ∃ c, Ix c pre W ∧ W.heap[w.heap.size + 1]? = some (.loop (rec .done (some c))) ∧ W.heap[w.heap.size]? = some (.deferred (some [])) := ⟨_, rfl⟩
  have up : ∀ {A : World} {row : Option Nat}, (∀ r, row = some r → V.heap.size ≤ r ∧ ∃ o : Obj, A.heap[r]? = some o ∧ o.isCells = false) → (∀ r, row = some r → w.heap.size ≤ r ∧ ∃ o : Obj, A.heap[r]? = some o ∧ o.isCells = false) := fun hr r e => ⟨by have := (hr r e).1; omega, (hr r e).2⟩
  have stay : ∀ {A B : World} {row : Option Nat} {k : Nat} {o : Obj}, k < w.heap.size + 2 → A.heap[k]? = some o → A.grownBy B row → (∀ r, row = some r → V.heap.size ≤ r ∧ ∃ o : Obj, A.heap[r]? = some o ∧ o.isCells = false) → B.heap[k]? = some o := fun hk ho hgr hr =>
    (hgr.block _ (Array.getElem?_eq_some_iff.1 ho).1 (fun e => by have := (hr _ e.symm).1; omega)).trans ho
  refine (hseq (w.heap.size + 1) J Jx V vb ?_ ?_ ?_ (by rw [hJ]; exact ⟨vI, vL, vD⟩)).mono ?_
  · rw [hJ]
    rintro pre A B row ⟨hi, hl, hk⟩ hgr hr
    exact ⟨hI pre A B row hi hgr (up hr), stay (by omega) hl hgr hr, stay (by omega) hk hgr hr⟩
  · rw [hJx]
    rintro pre A B row ⟨c, hi, hl, hk⟩ hgr hr
    exact ⟨c, hIx c pre A B row hi hgr (up hr), stay (by omega) hl hgr hr, stay (by omega) hk hgr hr⟩
  · -- a round
    intro pre x W hj hnx
    rw [hJ] at hj
    obtain ⟨hi, hl, hk⟩ := hj
    have hy := run_yield (P := P) (args := encs x) hl (by rw [hrec]; exact hps x)
    rw [hrec] at hy
    refine ⟨fn, _, assign, body, hy, roundIn_of_wpIn hfn (hassign _ pre x W _ hi hnx ?_)⟩
    intro a' Wa hka hpa hia hax
    have hl' := hka.same _ _ (by omega) hl rfl
    have hk' := hka.same _ _ (by omega) hk rfl
    have hlt : w.heap.size + 1 < Wa.heap.size := (Array.getElem?_eq_some_iff.1 hl').1
    refine ⟨_, run_beginRound hl' (by rw [hrec]), ?_⟩
    obtain ⟨W2, hW2⟩ : ∃ W2, W2 = Wa.putObj (w.heap.size + 1) (.loop { rec .ready none with state := .busy }) := ⟨_, rfl⟩
    rw [← hW2]
    have l2 : W2.heap[w.heap.size + 1]? = some (.loop { rec .ready none with state := .busy }) := by rw [hW2]; exact World.putObj_heap_same hlt
    have k2 : W2.heap[w.heap.size]? = some (.deferred (some [])) := by rw [hW2]; exact (World.putObj_heap_other (by omega)).trans hk'
    have p2 : Kp W W2 := hKt hpa (by rw [hW2]; exact hKb _ _ _ hl' rfl)
    have vs' : w.heap.size ≤ V.heap.size := by omega
    have kv : ∀ {A B : World}, KeepsFrom w.heap.size A B → KeepsFrom V.heap.size A B := fun h => ⟨h.size, fun k o hk h0 ho => h.same k o (by omega) h0 ho⟩
    have kt : ∀ {A B C : World}, KeepsFrom V.heap.size A B → KeepsFrom V.heap.size B C → KeepsFrom V.heap.size A C := fun h h' => ⟨Nat.le_trans h.size h'.size, fun k o hk h0 ho => h'.same k o hk (h.same k o hk h0 ho) ho⟩
    have q4 : ∀ (W3 : World) (o' : Obj), KeepsFrom V.heap.size W3 (W3.putObj (w.heap.size + 1) o') := fun W3 o' => ⟨by rw [World.putObj_size]; exact Nat.le_refl _, fun k o hk h0 _ => (World.putObj_heap_other (by omega)).trans h0⟩
    have q2 : KeepsFrom V.heap.size W W2 := kt (kv hka) (by rw [hW2]; exact q4 _ _)
    have i2 : I pre W2 := by rw [hW2]; exact hI.putObj _ hia (by omega) hl' rfl
    have x2 : Ax x a' W2 := by rw [hW2]; exact (hAx x a').putObj (s := ()) _ hax (by omega) hl' rfl
    -- how the round's end finds the record, and leaves it
    have ends : ∀ (jump : Option Code) (W3 : World), KeepsFrom w.heap.size W2 W3 → ∃ W4, W4 = W3.putObj (w.heap.size + 1) (.loop (rec (if jump.isNone then .ready else .done) jump)) ∧
        (Instr.endRound (w.heap.size + 1) jump).run P W3 = .ok (.bool jump.isNone) W4 ∧ W3.heap[w.heap.size + 1]? = some (.loop { rec .ready none with state := .busy }) ∧
        W4.heap[w.heap.size + 1]? = some (.loop (rec (if jump.isNone then .ready else .done) jump)) ∧ W4.heap[w.heap.size]? = some (.deferred (some [])) := fun jump W3 h3 => by
      have l3 := h3.same _ _ (by omega) l2 rfl
      have h4 := run_endRound (P := P) jump l3
      refine ⟨_, rfl, ?_, l3, World.putObj_heap_same (Array.getElem?_eq_some_iff.1 l3).1, (World.putObj_heap_other (by omega)).trans (h3.same _ _ (by omega) k2 rfl)⟩
      rw [hrec] at h4 ⊢
      exact h4
    have left : ∀ (c : Code) (W3 : World), KeepsFrom w.heap.size W2 W3 → Kp W2 W3 → Ix c (pre ++ [x]) W3 → ∃ v W4, (Instr.endRound (w.heap.size + 1) (some c)).run P W3 = .ok v W4 ∧ v = .bool false ∧ Jx (pre ++ [x]) W4 ∧ Kp W W4 ∧ KeepsFrom V.heap.size W W4 := fun c W3 h3 hp3 hx => by
      obtain ⟨W4, e4, r4, l3, l4, k4⟩ := ends (some c) W3 h3
      refine ⟨_, W4, r4, rfl, ?_, hKt (hKt p2 hp3) (by rw [e4]; exact hKb _ _ _ l3 rfl), kt (kt q2 (kv h3)) (by rw [e4]; exact q4 _ _)⟩
      rw [hJx]
      exact ⟨c, by rw [e4]; exact (hIx _).putObj _ hx (by omega) l3 rfl, l4, k4⟩
    refine wpIn_mono (hbody _ pre x a' _ i2 hnx x2) ?_
    rintro e a3 W3 hp
    cases e with
    | normal =>
      obtain ⟨h3, hp3, hi3⟩ := hp
      obtain ⟨W4, e4, r4, l3, l4, k4⟩ := ends none W3 h3
      refine ⟨_, W4, r4, ⟨hKt (hKt p2 hp3) (by rw [e4]; exact hKb _ _ _ l3 rfl), kt (kt q2 (kv h3)) (by rw [e4]; exact q4 _ _)⟩, .inl ⟨rfl, ?_⟩⟩
      rw [hJ]
      exact ⟨by rw [e4]; exact hI.putObj _ hi3 (by omega) l3 rfl, l4, k4⟩
    | ret =>
      obtain ⟨v, W4, r4, rfl, hx, y1, y2⟩ := left .ret W3 hp.1 hp.2.1 hp.2.2
      exact ⟨_, _, r4, ⟨y1, y2⟩, .inr ⟨rfl, hx⟩⟩
    | exit id =>
      obtain ⟨v, W4, r4, rfl, hx, y1, y2⟩ := left (.exit id) W3 hp.1 hp.2.1 hp.2.2
      exact ⟨_, _, r4, ⟨y1, y2⟩, .inr ⟨rfl, hx⟩⟩
    | goto t =>
      obtain ⟨v, W4, r4, rfl, hx, y1, y2⟩ := left (.goto t) W3 hp.1 hp.2.1 hp.2.2
      exact ⟨_, _, r4, ⟨y1, y2⟩, .inr ⟨rfl, hx⟩⟩
    | panic ch => exact hp.elim
    | outgrown => exact hp.elim
  · -- behind the iterator
    rintro e W2 ⟨⟨v, rfl⟩, (⟨xs, hS, hj⟩ | ⟨pre, hSp, hj⟩)⟩
    · rw [hJ] at hj
      obtain ⟨hi, hl, hk⟩ := hj
      have hend := run_endLoop (P := P) hl (by rw [hrec]; simp)
      rw [hrec] at hend
      exact ⟨none, _, hend, hdone _ xs _ (Nat.le_refl _) hS (hI.putObj _ hi (by omega) hl rfl) ((World.putObj_heap_other (by omega)).trans hk)⟩
    · rw [hJx] at hj
      obtain ⟨c, hi, hl, hk⟩ := hj
      have hend := run_endLoop (P := P) hl (by rw [hrec]; simp)
      rw [hrec] at hend
      exact ⟨some c, _, hend, hstop _ c pre _ (Nat.le_refl _) hSp ((hIx c).putObj _ hi (by omega) hl rfl) ((World.putObj_heap_other (by omega)).trans hk)⟩
end
end Go.Proofs.YtnaoandleelbkaaGreatDoor

namespace Go.Proofs.YtnaoandleelbkaaGreatDoor
set_option linter.unusedSimpArgs false
set_option linter.unusedVariables false
open Go Go.RowKit Go.Shelf
set_option maxRecDepth 100000
attribute [local go_sem] Oper.semAt_some

/-- A body that ends, or returns, and never panics. -/
def calmlyE (Q : Exit → Act → World → Prop) : Exit → Act → World → Prop
  | .normal, a, w => Q .normal a w
  | .ret, a, w => Q .ret a w
  | _, _, _ => False
theorem calmly_ret {Q : Exit → Act → World → Prop} {a : Act} {w : World} (h : Q .ret a w) : calmlyE Q .ret a w := h
theorem calmly_normal {Q : Exit → Act → World → Prop} {a : Act} {w : World} (h : Q .normal a w) : calmlyE Q .normal a w := h
theorem wpIn_calmlyE {F : Fence} {n : Nat} {P : Program} {c : Code} {Q : Exit → Act → World → Prop} {a : Act} {w : World} (h : c.wpIn F n P (calmlyE Q) a w) : c.wpIn F n P Q a w :=
  wpIn_mono h fun e _ _ hq => match e, hq with
    | .normal, h => h
    | .ret, h => h
    | .panic _, h => h.elim
    | .outgrown, h => h.elim
    | .exit _, h => h.elim
    | .goto _, h => h.elim

theorem things_any (w : World) (s : List UInt8) : Calls Tryz.prog 173 #[sv s] w fun e w' =>
    e = .returned (.func (.func 202) #[] #[.pointer (some ⟨w.heap.size, 0, none⟩)]) ∧ w' = w.alloc (.cells #[sv s] 9) := by
  go_enter Tryz.func173, Tryz.ntmps173
  go_wp2
  go_ret
  exact ⟨rfl, rfl⟩

/-- How long a text is. -/
def lenS : Value → Nat
  | .string b => b.size
  | _ => 0
/-- A thing and an error's number, as values. -/
def teV (x : Tv × Nat) : Array Value := #[itv x.1.1 x.1.2, .int .i64 (x.2 : Int)]

set_option maxHeartbeats 4000000 in
theorem things1_in (l Bs : Nat) (s0 : List UInt8) (hs : s0.length ≤ 9223372036854775807)
    (J Jx : List (Tv × Nat) → World → Prop) (W : World) (hJ : OwnFrom W.heap.size J)
    (hY : ∀ pre x W1, J pre W1 → (pre ++ [x]) <+: seqL s0 → YieldAt Fence.wide 1 Tryz.prog l (teV x) W1 fun e W' =>
      (e = .returned (.bool true) ∧ J (pre ++ [x]) W') ∨ (e = .returned (.bool false) ∧ Jx (pre ++ [x]) W'))
    (hB : W.cell? ⟨Bs, 0, none⟩ = some (sv s0)) (h0 : J [] W) :
    CallsIn Fence.wide 2 Tryz.prog 202 #[.func (.yield l) #[] #[], .pointer (some ⟨Bs, 0, none⟩)] W fun e W' => (∃ v, e = .returned v) ∧ ((∃ xs, xs = seqL s0 ∧ J xs W') ∨ (∃ pre, pre <+: seqL s0 ∧ Jx pre W')) := by
  have HJB := Lib.hid (show ∀ pre A B, J pre A → Below A.heap.size A B → J pre B from fun pre A B h hb => hJ _ _ _ none h ⟨hb.os, hb.tape, hb.output, hb.size, fun k hk _ => hb.block k hk⟩ (fun r e => by cases e))
  have HYY := Lib.hid hY
  have HJ0 := Lib.hid h0
  clear hJ hY h0
  refine callsIn_of_wp Tryz.func202 rfl trivial (wpIn_calmlyE ?_) rfl
  simp only [Tryz.ntmps202, List.size_toArray, List.length_cons, List.length_nil, Nat.reduceAdd, Nat.reduceSub, Array.replicate_succ, Array.replicate_zero, List.push_toArray, List.append_toArray, List.nil_append, List.cons_append]
  gi_wp2
  gi_loopw [3] (fun v wr => ∃ (pre : List (Tv × Nat)) (r : List UInt8), v = sv r ∧ r.length ≤ s0.length ∧ pre ++ seqL r = seqL s0 ∧ J pre wr) (fun v _ => lenS v)
  case atStart => exact ⟨[], s0, rfl, Nat.le_refl _, rfl, HJ0.out⟩
  case round =>
    clear HJ0 hB
    obtain ⟨pre, r, rfl, hr, hp, hj⟩ := hrel
    have HP := Lib.hid hp
    have HJ := Lib.hid hj
    clear hp hj
    by_cases h0 : r.length = 0
    · obtain rfl : r = [] := List.length_eq_zero_iff.1 h0
      have HE := Lib.hid (show pre = seqL s0 by have := HP.out; rw [seqL_nil, List.append_nil] at this; exact this)
      clear h0
      gi_wp2
      refine calmly_normal ?_
      refine bodyPost_end (results_none rfl _ _ _) rfl ?_
      exact ⟨⟨_, rfl⟩, .inl ⟨pre, HE.out, HJ.out⟩⟩
    · have hem : r.isEmpty = false := by cases r with
        | nil => exact absurd rfl h0
        | cons _ _ => rfl
      have hrn : r ≠ [] := fun e => h0 (by rw [e]; rfl)
      have HCU := Lib.hid (fun X => @cut_any X r (by omega))
      cases hc : cutP r with
      | er x =>
        rw [hc] at HCU
        have hx := cutP_er hc
        have hx0 : ¬ ((x : Int) = 0) := by omega
        have hx1 : ((x : Int) != 0) = true := by rw [bne_iff_ne]; exact hx0
        have HS := Lib.hid (show pre ++ [((0, []), x)] = seqL s0 by rw [← HP.out, seqL_er hrn hc])
        have HC := Lib.hid (fun X => show Calls Tryz.prog 201 #[sv r] X (fun e w' => e = .returned (.tuple #[.agg #[.int .u8 0, sv []], sv [], .int .i64 (x : Int)]) ∧ Below X.heap.size X w') from HCU.out X)
        clear HCU hc h0 hrn hx
        gi_wp2_with (refine ⟨trivial, ?_⟩; gi_at_call 201; refine (callsIn_wide.2 (HC.out _)).mono ?_; rintro e w2 ⟨rfl, hb2⟩)
        have HJ3 := Lib.hid (HJB.out _ _ _ HJ.out (hb2.trans ((below_alloc w2 (.cells #[.int .u8 0, .string (str [])] 143)).mono hb2.size)))
        obtain ⟨fn, tmps, assign, body, hy, hR⟩ := HYY.out pre ((0, []), x) _ HJ3.out (by rw [HS.out]; exact List.prefix_refl _)
        have hy' : (Instr.yield l #[.agg #[.int .u8 0, .string (str [])], .int .i64 (x : Int)]).run Tryz.prog (w2.alloc (.cells #[.int .u8 0, .string (str [])] 143)) = _ := hy
        clear hy
        rw [hy']
        gi_wp2
        refine hR.mono ?_
        rintro e W3 (⟨rfl, hJ4⟩ | ⟨rfl, hJ4⟩)
        · have HJ4 := Lib.hid hJ4
          clear hJ4 hy' hR
          gi_wp2
          refine calmly_ret ?_
          refine bodyPost_ret (results_none rfl _ _ _) rfl ?_
          exact ⟨⟨_, rfl⟩, .inl ⟨_, HS.out, HJ4.out⟩⟩
        · have HJ4 := Lib.hid hJ4
          clear hJ4 hy' hR
          gi_wp2
          refine calmly_ret ?_
          refine bodyPost_ret (results_none rfl _ _ _) rfl ?_
          exact ⟨⟨_, rfl⟩, .inr ⟨_, by rw [HS.out]; exact List.prefix_refl _, HJ4.out⟩⟩
      | ok p =>
        obtain ⟨⟨t, v⟩, q⟩ := p
        rw [hc] at HCU
        have hql := cutP_shorter hc
        have hql2 : q.length ≤ s0.length := by omega
        have HS := Lib.hid (show (pre ++ [((t, v), 0)]) ++ seqL q = seqL s0 by rw [← HP.out, seqL_ok hc, List.append_assoc]; rfl)
        have HC := Lib.hid (fun X => show Calls Tryz.prog 201 #[sv r] X (fun e w' => e = .returned (.tuple #[.agg #[.int .u8 (t.toNat : Int), sv v], sv q, .int .i64 0]) ∧ Below X.heap.size X w') from HCU.out X)
        have hzq := str_size q
        have hzr := str_size r
        have HM := Lib.hid (show lenS (sv q) < lenS (sv r) by unfold lenS; simp only [str_size]; omega)
        clear HCU hc h0 hrn hql
        gi_wp2_with (refine ⟨trivial, ?_⟩; gi_at_call 201; refine (callsIn_wide.2 (HC.out _)).mono ?_; rintro e w2 ⟨rfl, hb2⟩)
        have HJ3 := Lib.hid (HJB.out _ _ _ HJ.out (hb2.trans ((below_alloc w2 (.cells #[.int .u8 (t.toNat : Int), .string (str v)] 143)).mono hb2.size)))
        obtain ⟨fn, tmps, assign, body, hy, hR⟩ := HYY.out pre ((t, v), 0) _ HJ3.out ⟨_, HS.out⟩
        have hy' : (Instr.yield l #[.agg #[.int .u8 (t.toNat : Int), .string (str v)], .int .i64 0]).run Tryz.prog (w2.alloc (.cells #[.int .u8 (t.toNat : Int), .string (str v)] 143)) = _ := hy
        clear hy
        rw [hy']
        gi_wp2
        refine hR.mono ?_
        rintro e W3 (⟨rfl, hJ4⟩ | ⟨rfl, hJ4⟩)
        · have HJ4 := Lib.hid hJ4
          clear hJ4 hy' hR
          gi_wp2
          go_roundw
          case rel => exact ⟨_, q, rfl, hql2, HS.out, HJ4.out⟩
          case measure => exact HM.out
        · have HJ4 := Lib.hid hJ4
          clear hJ4 hy' hR
          gi_wp2
          refine calmly_ret ?_
          refine bodyPost_ret (results_none rfl _ _ _) rfl ?_
          exact ⟨⟨_, rfl⟩, .inr ⟨_, ⟨_, HS.out⟩, HJ4.out⟩⟩

/-- The iterator, as a loop's law wants it. -/
theorem things_hands (Bs : Nat) (s0 : List UInt8) (hs : s0.length ≤ 9223372036854775807) (w : World) (hBw : Bs < w.heap.size) (hB : w.cell? ⟨Bs, 0, none⟩ = some (sv s0)) :
    HandsO Fence.wide 2 Tryz.prog 202 #[.pointer (some ⟨Bs, 0, none⟩)] teV (fun _ _ => True) (fun pre x => (pre ++ [x]) <+: seqL s0) (fun xs => xs = seqL s0) (fun pre => pre <+: seqL s0) w := by
  intro l J Jx W hb hJ hJx hY h0
  refine things1_in l Bs s0 hs J Jx W hJ (fun pre x W1 hj hp => ?_) ((hb.cell (p := ⟨Bs, 0, none⟩) hBw).trans hB) h0
  refine (hY pre x W1 hj hp).mono ?_
  rintro e W2 ⟨_, h | h⟩
  · exact .inl h
  · exact .inr h
end Go.Proofs.YtnaoandleelbkaaGreatDoor

namespace Go.Proofs.YtnaoandleelbkaaGreatDoor
set_option linter.unusedSimpArgs false
set_option linter.unusedVariables false
open Go Go.RowKit Go.Shelf
set_option maxRecDepth 100000
attribute [local go_sem] Oper.semAt_some

theorem po_notCells {e : TypeId} {W W' : World} {B base : Nat} {v : Value} {xs : List Tv} {row : Option Nat} (h : TO e base W v xs) (hg : W.grownBy W' row) (hr : ∀ r, row = some r → B ≤ r ∧ ∃ o : Obj, W.heap[r]? = some o ∧ o.isCells = false) : TO e base W' v xs := by
  refine h.old hg fun g e1 e2 => ?_
  obtain ⟨_, o, ho, hc⟩ := hr g e2.symm
  rcases h.2 with ⟨rfl, _⟩ | ⟨g', cap, cur, rfl, hb', hgb, _⟩
  · simp [Value.ownBlock] at e1
  · obtain rfl : g' = g := by simpa [Value.ownBlock] using e1
    rw [hgb] at ho; cases ho; cases hc
theorem keepsFrom_below {n : Nat} {A B : World} (hb : Below A.heap.size A B) : KeepsFrom n A B := ⟨hb.size, fun k o _ h0 _ => (hb.block k (lt_of_blk h0)).trans h0⟩
theorem IB.own (t : UInt8) (v : List UInt8) (k n : Nat) : OwnFrom n (fun (_ : Unit) W => IB W k t v) := fun s W W' row h hg hr =>
  (hg.block k (lt_of_blk h) (fun e => by obtain ⟨_, o, ho, hc⟩ := hr k e.symm; rw [show W.heap[k]? = _ from h] at ho; cases ho; cases hc)).trans h
theorem below_put (w W : World) (D : Nat) (o' : Obj) (hD : w.heap.size ≤ D) (hb : Below w.heap.size w W) : Below w.heap.size w (W.putObj D o') :=
  ⟨hb.os, hb.tape, hb.output, by rw [World.putObj_size]; exact hb.size, fun k hk => (World.putObj_heap_other (by omega)).trans (hb.block k hk)⟩

theorem handsO_wide {α : Type} {m m' : Nat} {P : Program} {g : Nat} {lb : Array Value} {encs : α → Array Value} {Kp : World → World → Prop} {Nxt : List α → α → Prop} {S Sp : List α → Prop} {w : World} (h : HandsO Fence.wide m P g lb encs Kp Nxt S Sp w) : HandsO Fence.wide m' P g lb encs Kp Nxt S Sp w :=
  fun l J Jx W hb hJ hJx hY h0 => callsIn_wide.2 (callsIn_wide.1 (h l J Jx W hb hJ hJx (fun pre x W1 hj hn => yieldAt_wide (hY pre x W1 hj hn)) h0))

theorem wpListIn_append_run {F : Fence} {n : Nat} {P : Program} {ops : Array Oper} {rest : List Oper} {o : Oper} {a : Act} {w w' : World} {Q : Exit → Act → World → Prop} {v v' xv : Value}
    (hg : o.guard = none) (s x : Operand) (t : TypeId) (hop : o.op = Op.call { callee := Callee.builtin Builtin.append, args := #[s, x], argTypes := #[t, t] }) (hs : a.eval s = v) (hx : a.eval x = xv)
    (hrun : (Builtin.append_ #[t, t] o.type #[v, xv]).run P w = .ok v' w') (hK : wpListIn F n P ops Q rest (a.put o.dst v') w') : wpListIn F n P ops Q (o :: rest) a w := by
  refine wpListIn_plain hg fun K hK' => ?_
  unfold Oper.wpIn
  refine ⟨?_, ?_⟩
  · simp [Oper.about, hop, resolve, Target.leads, Sem.run_pure]
  · rw [Oper.semAt_plain F _ _ (by rw [hop]; intro c hc'; cases hc')]
    simp [execOp, hop, resolve, invoke, builtin, hs, hx, hrun, Result.andThen]
    exact hK' _ _ hK

/-- A round that collects a thing. -/
theorem collectI {W : World} {R base : Nat} {v0 : Value} {outs : List Tv} (x : Tv) (k0 : Boxed W R 148 v0) (k2 : TO 143 base W v0 outs) (hbase : base ≤ W.heap.size) (hRb : R < base) (hlen : outs.length ≤ 1000000) :
    ∃ g cap w2, (Builtin.append_ #[148, 148] 148 #[v0, .slice (some ⟨W.heap.size, 0, none⟩) 1 1]).run Tryz.prog (W.alloc (.cells #[bvi x.1, sv x.2] 143)) = .ok (.slice (some ⟨g, 0, none⟩) (outs.length + 1) cap) w2 ∧
      w2.cell? ⟨R, 0, none⟩ = some v0 ∧ w2.frozen? ⟨R, 0, none⟩ = false ∧
      KeepsOthers W (w2.setCell ⟨R, 0, none⟩ (.slice (some ⟨g, 0, none⟩) (outs.length + 1) cap)) ∧
      Boxed (w2.setCell ⟨R, 0, none⟩ (.slice (some ⟨g, 0, none⟩) (outs.length + 1) cap)) R 148 (.slice (some ⟨g, 0, none⟩) (outs.length + 1) cap) ∧
      TO 143 base (w2.setCell ⟨R, 0, none⟩ (.slice (some ⟨g, 0, none⟩) (outs.length + 1) cap)) (.slice (some ⟨g, 0, none⟩) (outs.length + 1) cap) (outs ++ [x]) ∧
      (∀ k, k < base → k ≠ R → (w2.setCell ⟨R, 0, none⟩ (.slice (some ⟨g, 0, none⟩) (outs.length + 1) cap)).heap[k]? = W.heap[k]?) ∧ W.heap.size ≤ w2.heap.size ∧
      (w2.setCell ⟨R, 0, none⟩ (.slice (some ⟨g, 0, none⟩) (outs.length + 1) cap)).os = W.os ∧ (w2.setCell ⟨R, 0, none⟩ (.slice (some ⟨g, 0, none⟩) (outs.length + 1) cap)).tape = W.tape ∧ (w2.setCell ⟨R, 0, none⟩ (.slice (some ⟨g, 0, none⟩) (outs.length + 1) cap)).output = W.output := by
  obtain ⟨g, cap, w2, hrun, hown2, hgrow0, hat⟩ := to_append (t := 148) Tryz.underlying148 info_item (by decide) k2 hbase hlen x.1 x.2
  have hgrow : W.grownBy w2 v0.ownBlock := ⟨hgrow0.os, hgrow0.tape, hgrow0.output, Nat.le_trans (by simp) hgrow0.size, fun k hk hne => (hgrow0.block k (by simp; omega) hne).trans (Below.heap_alloc _ _ _ hk)⟩
  have own : ∀ j, v0.ownBlock = some j → base ≤ j ∧ ∃ cs fr, W.heap[j]? = some (.cells cs 143 fr) := by
    intro j e
    rcases k2.2 with ⟨rfl, _⟩ | ⟨g', cap, cur, rfl, hb', hgb, _⟩
    · simp [Value.ownBlock] at e
    · obtain rfl : g' = j := by simpa [Value.ownBlock] using e
      exact ⟨hb', _, _, hgb⟩
  have hbg : base ≤ g := by
    rcases hown2.2 with ⟨e, _⟩ | ⟨g', cap', cur, e, hb', _⟩
    · cases e
    · have : g = g' ∧ cap = cap' := by simpa using e
      omega
  have i0 : Boxed w2 R 148 v0 := k0.kept hgrow (fun e => by have := (own R e.symm).1; omega)
  refine ⟨g, cap, w2, hrun, i0.cell, i0.frozen, ?_, i0.set _, ?_, ?_, hgrow.size, hgrow.os, hgrow.tape, hgrow.output⟩
  · refine (KeepsOthers.of_grownBy hgrow fun j o e ho => ?_).trans (KeepsOthers.setCell _ _ _)
    obtain ⟨_, cs, fr, hc⟩ := own j e
    rw [hc] at ho; cases ho; rfl
  · refine hown2.set (fun g' e => ?_) _
    have : g = g' := by simpa [Value.ownBlock] using e
    omega
  · intro k hk hne
    have hkW : k < W.heap.size := by omega
    exact (heap_setCell_other _ _ _ _ hne).trans (hgrow.block k hkW (fun e => by have := (own k e.symm).1; omega))

/-- Between two rounds. -/
def AllI (w : World) (pre : List (Tv × Nat)) (W : World) : Prop :=
  (∃ v, Boxed W (w.heap.size + 1 + 1) 148 v ∧ TO 143 (w.heap.size + 4) W v (pre.map (·.1))) ∧ Boxed W w.heap.size 148 (.slice none 0 0) ∧ Boxed W (w.heap.size + 1) 30 (.int .i64 0) ∧
    Below w.heap.size w W ∧ w.heap.size + 4 ≤ W.heap.size ∧ okS pre ∧ pre.length ≤ 64
/-- A round has left. -/
def AllX (w : World) (c : Code) (pre : List (Tv × Nat)) (W : World) : Prop :=
  (∃ (q : List (Tv × Nat)) (x : Tv) (e n : Nat), c = .ret ∧ pre = q ++ [(x, e)] ∧ okS q ∧ q.length ≤ 64 ∧ ((e ≠ 0 ∧ n = e) ∨ (e = 0 ∧ q.length = 64 ∧ n = 40)) ∧ Boxed W (w.heap.size + 1) 30 (.int .i64 (n : Int))) ∧ Boxed W w.heap.size 148 (.slice none 0 0) ∧ Below w.heap.size w W
theorem allI_from {w : World} {B : Nat} (hB : w.heap.size + 3 ≤ B) : OwnFrom B (AllI w) := by
  rintro pre W W' row ⟨⟨v, h1, h2⟩, h3, h4, h5, h6, h7, h8⟩ hg hr
  have ne : ∀ k, k < B → some k ≠ row := fun k hk e => by have := (hr k e.symm).1; omega
  exact ⟨⟨v, h1.kept hg (ne _ (by omega)), po_notCells h2 hg hr⟩, h3.kept hg (ne _ (by omega)), h4.kept hg (ne _ (by omega)), h5.grown hg h5.size fun k e => by have := (hr k e).1; omega, Nat.le_trans h6 hg.size, h7, h8⟩
theorem allX_from {w : World} {B : Nat} (hB : w.heap.size + 3 ≤ B) (c : Code) : OwnFrom B (AllX w c) := by
  rintro pre W W' row ⟨⟨q, x, e, n, h1, h2, h3, h4, h5, h6⟩, h7, h8⟩ hg hr
  have ne : ∀ k, k < B → some k ≠ row := fun k hk e => by have := (hr k e.symm).1; omega
  exact ⟨⟨q, x, e, n, h1, h2, h3, h4, h5, h6.kept hg (ne _ (by omega))⟩, h7.kept hg (ne _ (by omega)), h8.grown hg h8.size fun k e => by have := (hr k e).1; omega⟩

/-- What All tells. -/
def AllPost (w : World) (r : Rd (List Tv)) (e : Ending) (w' : World) : Prop := match r with
  | .ok L => ∃ v, e = .returned (.tuple #[v, .int .i64 0]) ∧ TO 143 w.heap.size w' v L ∧ Below w.heap.size w w'
  | .er n => e = .returned (.tuple #[.slice none 0 0, .int .i64 (n : Int)]) ∧ Below w.heap.size w w'

theorem two_set {w W : World} {R : Nat} {t0 t1 : TypeId} {u0 u1 : Value} (h0 : Boxed W R t0 u0) (h1 : Boxed W (R + 1) t1 u1) (hb : Below w.heap.size w W) (hR : w.heap.size ≤ R) (v0 v1 : Value) :
    Boxed ((W.setCell ⟨R, 0, none⟩ v0).setCell ⟨R + 1, 0, none⟩ v1) R t0 v0 ∧ Boxed ((W.setCell ⟨R, 0, none⟩ v0).setCell ⟨R + 1, 0, none⟩ v1) (R + 1) t1 v1 ∧ Below w.heap.size w ((W.setCell ⟨R, 0, none⟩ v0).setCell ⟨R + 1, 0, none⟩ v1) ∧ ∀ n, KeepsFrom n W ((W.setCell ⟨R, 0, none⟩ v0).setCell ⟨R + 1, 0, none⟩ v1) := by
  refine ⟨(h0.set v0).kept (grownBy_setCell' _ _ _) (by simp), (h1.kept (grownBy_setCell' _ _ _) (by simp)).set v1, (hb.setCell (p := ⟨R, 0, none⟩) hR _).setCell (p := ⟨R + 1, 0, none⟩) (Nat.le_succ_of_le hR) _, fun n => ?_⟩
  exact ((KeepsOthers.setCell _ _ _).trans (KeepsOthers.setCell _ _ _)).from n
set_option maxHeartbeats 8000000 in
theorem all_any (s : List UInt8) (w : World) (hs : s.length ≤ 9223372036854775807) : Calls Tryz.prog 125 #[sv s] w (AllPost w (allR s)) := by
  refine (callsIn_wide (n := 6)).1 ?_
  refine callsIn_of_wp_marks Tryz.func125 rfl trivial (wpIn_calmlyE ?_) rfl
  simp only [Tryz.ntmps125, List.size_toArray, List.length_cons, List.length_nil, Nat.reduceAdd, Nat.reduceSub, Array.replicate_succ, Array.replicate_zero, List.push_toArray, List.append_toArray, List.nil_append, List.cons_append]
  gi_wp2_with (refine ⟨trivial, ?_⟩; gi_at_call 173; refine (callsIn_wide.2 (things_any _ _)).mono ?_; rintro e w' ⟨rfl, rfl⟩)
  obtain ⟨Wl, hWl⟩ : ∃ Wl, Wl = (((w.alloc (.cells #[.slice none 0 0] 148)).alloc (.cells #[.int .i64 0] 30)).alloc (.cells #[.slice none 0 0] 148)).alloc (.cells #[sv s] 9) := ⟨_, rfl⟩
  rw [← hWl]
  have hsz : Wl.heap.size = w.heap.size + 4 := by rw [hWl]; simp
  have hbel : Below w.heap.size w Wl := by rw [hWl]; exact ((((Below.refl _ w).alloc (Nat.le_refl _) _).alloc (by simp) _).alloc (by simp; omega) _).alloc (by simp; omega) _
  have b0 : Boxed Wl w.heap.size 148 (.slice none 0 0) := by rw [hWl]; exact (((Boxed.new w _ _).alloc _).alloc _).alloc _
  have b1 : Boxed Wl (w.heap.size + 1) 30 (.int .i64 0) := by rw [hWl]; have := Boxed.new (w.alloc (.cells #[.slice none 0 0] 148)) 30 (.int .i64 0); rw [World.size_alloc] at this; exact (this.alloc _).alloc _
  have b2 : Boxed Wl (w.heap.size + 1 + 1) 148 (.slice none 0 0) := by rw [hWl]; have := Boxed.new ((w.alloc (.cells #[.slice none 0 0] 148)).alloc (.cells #[.int .i64 0] 30)) 148 (.slice none 0 0); rw [World.size_alloc, World.size_alloc] at this; exact this.alloc _
  have b3 : Boxed Wl (w.heap.size + 1 + 1 + 1) 9 (sv s) := by rw [hWl]; have := Boxed.new (((w.alloc (.cells #[.slice none 0 0] 148)).alloc (.cells #[.int .i64 0] 30)).alloc (.cells #[.slice none 0 0] 148)) 9 (sv s); rw [World.size_alloc, World.size_alloc, World.size_alloc] at this; exact this
  have hI0 : AllI w [] Wl := ⟨⟨_, b2, TO.nil _ _ _⟩, b0, b1, hbel, by omega, fun x hx => (by cases hx), by simp⟩
  have HTH := things_hands (w.heap.size + 1 + 1 + 1) s hs Wl (by omega) b3.cell
  have HSZ := Lib.hid hsz
  clear hWl hbel b0 b1 b2 b3
  refine wpIn_rangeFunc_hd (α := Tv × Nat) (w := Wl) rfl (by omega) (gf := 202) (lb := #[.pointer (some ⟨w.heap.size + 1 + 1 + 1, 0, none⟩)]) rfl trivial (enters_of Tryz.func202 (by kernel_rfl) rfl)
    (handsO_wide HTH) (fun _ _ => trivial) (fun _ _ _ _ _ => trivial) (fun _ => rfl) (AllI w) (AllX w) (allI_from (by omega)) (allX_from (by omega)) hI0
    (fun x a' W' => ∃ k, a' = { tmps := #[sv s, undef, .pointer (some ⟨w.heap.size, 0, none⟩), .pointer (some ⟨w.heap.size + 1, 0, none⟩), .pointer (some ⟨w.heap.size + 1 + 1, 0, none⟩), .pointer (some ⟨k, 0, none⟩), .int .i64 (x.2 : Int), sv s, .func (.func 202) #[] #[.pointer (some ⟨w.heap.size + 1 + 1 + 1, 0, none⟩)], itv x.1.1 x.1.2, .int .i64 (x.2 : Int), undef, undef, undef, undef, undef, undef, undef, undef, undef, undef, undef, undef, undef], defers := [] } ∧ IB W' k x.1.1 x.1.2)
    (fun x a' s' A B row ⟨k, e, h⟩ hg hr => ⟨k, e, IB.own x.1.1 x.1.2 k _ () A B row h hg hr⟩)
    ?assign ?body ?done ?stop
  case assign =>
    intro l' pre x W' K hi hnx hK
    have hii : AllI w pre (W'.alloc (.cells #[bvi x.1.1, sv x.1.2] 143)) := (allI_from (w := w) (Nat.le_refl _)).alloc _ hi
    simp only [teV]
    unfold itv
    gi_wp2
    exact hK _ _ (keepsFrom_below (below_alloc _ _)) trivial hii ⟨W'.heap.size, rfl, heap_alloc_new W' _⟩
  case body =>
    rintro l' pre ⟨x, e⟩ a' W' ⟨⟨v0, h1, h2⟩, h3, h4, hb, hsW, hok, hpl⟩ hnx ⟨k, rfl, hk⟩
    obtain ⟨A0, cp0, rfl⟩ := h2.form
    have c1 := h3.cell
    have f1 := h3.frozen
    have c2 := h4.cell
    have f2 := h4.frozen
    have c3 := h1.cell
    have k0 := hk.c0
    have k1 := hk.c1
    have H1 := Lib.hid h1
    have H2 := Lib.hid h2
    have H3 := Lib.hid h3
    have H4 := Lib.hid h4
    have HB := Lib.hid hb
    have HS := Lib.hid hsW
    have HO := Lib.hid hok
    have hml : (List.map (fun y : Tv × Nat => y.1) pre).length = pre.length := by simp
    rw [hml] at c3
    clear h1 h2 h3 h4 hb hok hnx hk hI0 HTH
    by_cases he : e = 0
    · subst he
      by_cases h64 : pre.length = 64
      · have h64' : ((pre.length : Int) == 64) = true := by rw [h64]; rfl
        have HX := Lib.hid (show ∀ (n : Nat) (W2 : World), Boxed W2 (w.heap.size + 1) 30 (.int .i64 (n : Int)) → n = 40 → Boxed W2 w.heap.size 148 (.slice none 0 0) → Below w.heap.size w W2 → AllX w .ret (pre ++ [(x, 0)]) W2 from
          fun n W2 q1 q2 q3 q4 => ⟨⟨pre, x, 0, n, rfl, rfl, HO.out, hpl, .inr ⟨rfl, h64, q2⟩, q1⟩, q3, q4⟩)
        clear h64
        gi_wp2
        obtain ⟨q0, q1, q2, q3⟩ := two_set H3.out H4.out HB.out (Nat.le_refl _) (.slice none 0 0) (.int .i64 40)
        exact ⟨q3 _, trivial, HX.out 40 _ q1 rfl q0 q2⟩
      · have h64' : ((pre.length : Int) == 64) = false := by rw [beq_eq_false_iff_ne]; omega
        obtain ⟨g, cap, w2, hrun, d0, d1, d3, d5, d6, d7, d8, d9, d10, d11⟩ := collectI x H1.out H2.out HS.out (by omega) (by rw [hml]; omega)
        rw [hml] at hrun d3 d5 d6 d7 d9 d10 d11
        have HR := Lib.hid hrun
        have HKF := Lib.hid (d3.from (w.heap.size + 4))
        have HI := Lib.hid (show AllI w (pre ++ [(x, 0)]) (w2.setCell ⟨w.heap.size + 1 + 1, 0, none⟩ (.slice (some ⟨g, 0, none⟩) (pre.length + 1) cap)) by
          refine ⟨⟨_, d5, ?_⟩, ?_, ?_, ?_, ?_, ?_, ?_⟩
          · rw [List.map_append]; exact d6
          · exact (d7 _ (by omega) (by omega)).trans H3.out
          · exact (d7 _ (by omega) (by omega)).trans H4.out
          · exact ⟨d9.trans HB.out.os, d10.trans HB.out.tape, d11.trans HB.out.output, Nat.le_trans HB.out.size (by simpa [World.setCell] using d8), fun k hk => (d7 k (by omega) (by omega)).trans (HB.out.block k hk)⟩
          · exact Nat.le_trans HS.out (by simpa [World.setCell] using d8)
          · intro y hy
            rcases List.mem_append.1 hy with hy | hy
            · exact HO.out y hy
            · rw [List.mem_singleton.1 hy]
          · simp; omega)
        clear hrun d3 d5 d6 d7 d8 d9 d10 d11
        gi_wp2_with (gi_at_builtin; refine wpListIn_append_run rfl (.tmp 19) (.tmp 21) 148 rfl rfl rfl HR.out ?_)
        exact ⟨HKF.out, trivial, HI.out⟩
    · have he' : ((e : Int) != 0) = true := by rw [bne_iff_ne]; omega
      have HX := Lib.hid (show ∀ (n : Nat) (W2 : World), Boxed W2 (w.heap.size + 1) 30 (.int .i64 (n : Int)) → n = e → Boxed W2 w.heap.size 148 (.slice none 0 0) → Below w.heap.size w W2 → AllX w .ret (pre ++ [(x, e)]) W2 from
          fun n W2 q1 q2 q3 q4 => ⟨⟨pre, x, e, n, rfl, rfl, HO.out, hpl, .inl ⟨he, q2⟩, q1⟩, q3, q4⟩)
      gi_wp2
      obtain ⟨q0, q1, q2, q3⟩ := two_set H3.out H4.out HB.out (Nat.le_refl _) (.slice none 0 0) (.int .i64 (e : Int))
      exact ⟨q3 _, trivial, HX.out e _ q1 rfl q0 q2⟩
  case done =>
    rintro D xs W hD rfl ⟨⟨v0, h1, h2⟩, h3, h4, hb, hsW, hok, hpl⟩ hK
    obtain ⟨A0, cp0, rfl⟩ := h2.form
    rw [HSZ.out] at hD
    have HE := Lib.hid (allR_done hok hpl)
    have c1 := h3.cell
    have f1 := h3.frozen
    have c2 := h4.cell
    have f2 := h4.frozen
    have c3 := h1.cell
    obtain ⟨q0, q1, q2, q3⟩ := two_set h3 h4 hb (Nat.le_refl _) (.slice A0 (List.map (fun y : Tv × Nat => y.1) (seqL s)).length cp0) (.int .i64 0)
    have hK2 : ((W.setCell ⟨w.heap.size, 0, none⟩ (.slice A0 (List.map (fun y : Tv × Nat => y.1) (seqL s)).length cp0)).setCell ⟨w.heap.size + 1, 0, none⟩ (.int .i64 0)).heap[D]? = some (.deferred (some [])) :=
      (heap_setCell_other _ _ _ _ (show D ≠ w.heap.size + 1 by omega)).trans ((heap_setCell_other _ _ _ _ (show D ≠ w.heap.size by omega)).trans hK)
    have ho : TO 143 (w.heap.size + 4) ((W.setCell ⟨w.heap.size, 0, none⟩ (.slice A0 (List.map (fun y : Tv × Nat => y.1) (seqL s)).length cp0)).setCell ⟨w.heap.size + 1, 0, none⟩ (.int .i64 0)) (.slice A0 (List.map (fun y : Tv × Nat => y.1) (seqL s)).length cp0) (List.map (fun y : Tv × Nat => y.1) (seqL s)) :=
      (h2.set (fun g e => by have := (h2.lt e).1; omega) _).set (fun g e => by have := (h2.lt e).1; omega) _
    generalize hL : List.map (fun y : Tv × Nat => y.1) (seqL s) = L at *
    have HK2 := Lib.hid hK2
    have HO := Lib.hid ho
    have Q0 := Lib.hid q0
    have Q1 := Lib.hid q1
    have Q2 := Lib.hid q2
    clear h1 h2 h3 h4 hb hok hK hK2 ho q0 q1 q2 q3 hI0 HTH hL
    gi_wp2
    refine calmly_ret ?_
    refine ⟨by simp, .inl ⟨_, _, rfl, run_takeDeferred HK2.out, ?_⟩⟩
    have cp0' := (Q0.out.kept (grownBy_putObj' _ D (.deferred none)) (by simp; omega)).cell
    have cp1' := (Q1.out.kept (grownBy_putObj' _ D (.deferred none)) (by simp; omega)).cell
    have hto : TO 143 (w.heap.size + 4) _ (.slice A0 L.length cp0) L := ownsRow_putObj HO.out (.deferred none) HK2.out rfl
    exact ⟨.tuple #[.slice A0 L.length cp0, .int .i64 0], by simp [results, Tryz.results125, go_sem, cp0', cp1'], by rw [HE.out]; exact ⟨_, rfl, hto.lower (by omega), below_put w _ D _ (by omega) Q2.out⟩⟩
  case stop =>
    rintro D c pre W hD hp ⟨⟨q, x, e, n, rfl, rfl, hok, hql, hen, h1⟩, h0, hb⟩ hK
    rw [HSZ.out] at hD
    have HE := Lib.hid (show allR s = .er n by
      rcases hen with ⟨he, rfl⟩ | ⟨rfl, h64, rfl⟩
      · exact allR_er hp hok hql he
      · exact allR_many hp hok h64)
    have hcell := (h0.kept (grownBy_putObj' W D (.deferred none)) (by simp; omega)).cell
    have hcell1 := (h1.kept (grownBy_putObj' W D (.deferred none)) (by simp; omega)).cell
    have hbel' := hb.trans (belowK_b (w := w) (Nat.le_refl _) W D _ (.deferred none) (by omega) hK rfl rfl)
    gi_wp2
    refine ⟨by simp, .inl ⟨_, _, rfl, run_takeDeferred hK, ?_⟩⟩
    exact ⟨.tuple #[.slice none 0 0, .int .i64 (n : Int)], by simp [results, Tryz.results125, go_sem, hcell, hcell1], by rw [HE.out]; exact ⟨rfl, hbel'⟩⟩
end Go.Proofs.YtnaoandleelbkaaGreatDoor
