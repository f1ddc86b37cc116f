/-
  A loop over an iterator that keeps its state in a captured box (block Bs): what the caller owes, and what it has behind the loop; the body never leaves the loop early.
  The iterator over a text's parameters ('params'): its contract, in that form. The text is shorter than 100000 bytes; it stands in box Bs.
  A loop over an iterator that keeps its state in a captured box, whose rounds lay a block for their variable.
-/
import Derived.RangeFuncBox
import Derived.RangeFuncLeaves
import Derived.Test.YtbmjmiioobgbfaaGreatDoorKRead2
namespace Go.Proofs.YtbmjmiioobgbfaaGreatDoor
open Go Go.RowKit Go.Shelf
set_option maxRecDepth 100000
set_option linter.unusedSimpArgs false
set_option linter.unusedVariables false
attribute [local go_sem] Oper.semAt_some

section
variable {F : Fence} {n : Nat} {P : Program}

/-- How the body of a round is left: it goes on. -/
def goesOn (R : World → Prop) : Exit → Act → World → Prop
  | .normal, _, W => R W
  | _, _, _ => False

/-- What a step of the law's own, or of the iterator's, may turn: the iterator's box, or a block laid since that holds no cells. -/
def mayTurn (B Bs : Nat) (W : World) (row : Option Nat) : Prop := ∀ r, row = some r → r = Bs ∨ (B ≤ r ∧ ∃ o : Obj, W.heap[r]? = some o ∧ o.isCells = false)
def mayTurnOut (B : Nat) (W : World) (row : Option Nat) : Prop := ∀ r, row = some r → B ≤ r ∧ ∃ o : Obj, W.heap[r]? = some o ∧ o.isCells = false

/-- The iterator's contract: called in any later world, at any loop's yield, with any word J of the caller's that abides the iterator's own steps. -/
def StepsOver {σ χ : Type} (F : Fence) (n : Nat) (P : Program) (gf : Nat) (lb : Array Value) (encs : χ → Array Value) (Bs : Nat) (Nx : σ → χ → σ → Prop) (Fin : σ → Prop) (St : σ → World → Prop) (s0 : σ) (w : World) : Prop :=
  ∀ (l : Nat) (J : σ → World → Prop) (W : World), Below w.heap.size w W →
    (∀ s W1 W2, J s W1 → W1.grownBy W2 (some Bs) → J s W2) →
    (∀ s x s' W1, Nx s x s' → J s W1 → St s' W1 → YieldAt F (n - 1) P l (encs x) W1 fun e W2 => e = .returned (.bool true) ∧ J s' W2 ∧ St s' W2) →
    J s0 W → St s0 W →
    CallsIn F n P gf (#[.func (.yield l) #[] #[]] ++ lb) W fun e W2 => (∃ v, e = .returned v) ∧ ∃ s, Fin s ∧ J s W2 ∧ St s W2

theorem wpIn_rangeFunc_st {σ χ : Type} {g : Operand} {ps : Array Tmp} {assign body : Code} {Q : Exit → Act → World → Prop} {a : Act} {w : World}
    (hro : F.round = none) (h1 : 1 ≤ n) {gf : Nat} {lb : Array Value} (hg : a.eval g = .func (.func gf) #[] lb) (hFg : F.fn gf) (eg : ∀ args w, (callFunc gf args).run P w = .ok (.enter gf args) w)
    {encs : χ → Array Value} {Bs : Nat} {Nx : σ → χ → σ → Prop} {Fin : σ → Prop} {St : σ → World → Prop} {s0 : σ}
    (hseq : StepsOver F (n - 1) P gf lb encs Bs Nx Fin St s0 w) (hBs : Bs < w.heap.size) (hps : ∀ x, (encs x).size = ps.size)
    (hSt : ∀ s W W' row, St s W → W.grownBy W' row → mayTurnOut w.heap.size W row → St s W')
    (I : σ → World → Prop) (hI : ∀ s W W' row, I s W → W.grownBy W' row → mayTurn w.heap.size Bs W row → I s W')
    (h0 : I s0 w) (hS0 : St s0 w) (a₁ : χ → Act)
    (hassign : ∀ (l : Nat) (x : χ) (W : World) (K : Act → World → Prop), K (a₁ x) W →
      assign.wpIn (F.inRound l) (n - 1 - 1) P (Exit.then K (fun _ _ _ => False)) { tmps := (ps.zip (encs x)).foldl (fun t (p, v) => t.setIfInBounds p v) a.tmps, defers := [] } W)
    (hbody : ∀ (l : Nat) (s : σ) (x : χ) (s' : σ) (W : World), Nx s x s' → I s W → St s' W → body.wpIn (F.inRound l) (n - 1 - 1) P (goesOn fun W' => KeepsFrom w.heap.size W W' ∧ I s' W' ∧ St s' W') (a₁ x) W)
    (hdone : ∀ (D : Nat) (s : σ) (W : World), w.heap.size ≤ D → Fin s → I s W → St s W → W.heap[D]? = some (.deferred (some [])) → Q .normal { a with defers := { target := .collected D, args := #[] } :: a.defers } W) :
    (Code.rangeFunc g ps assign body).wpIn F n P Q a w := by
  refine wpIn_rangeFunc ?_
  intro fn hfn
  rw [hro]
  obtain ⟨rec, hrec⟩ : ∃ rec : LoopState → Loop, rec = fun st => { state := st, pending := none, fn, tmps := a.tmps, params := ps, assign, body, defers := w.heap.size } := ⟨_, rfl⟩
  obtain ⟨W1, hW1⟩ : ∃ W1, (w.alloc (.deferred (some []))).alloc (.loop (rec .ready)) = W1 := ⟨_, rfl⟩
  have hg1 : w.grownBy W1 none := by
    rw [← hW1]
    exact ⟨rfl, rfl, rfl, by simp; omega, fun k hk _ => (Below.heap_alloc _ _ k (by simp; omega)).trans (Below.heap_alloc _ _ k hk)⟩
  have hL1 : W1.heap[w.heap.size + 1]? = some (.loop (rec .ready)) := by
    rw [← hW1]; have := World.alloc_heap_new (w.alloc (.deferred (some []))) (.loop (rec .ready)); rwa [World.size_alloc] at this
  have hK1 : W1.heap[w.heap.size]? = some (.deferred (some [])) := by
    rw [← hW1]; exact (Below.heap_alloc _ _ _ (by simp)).trans (World.alloc_heap_new w _)
  have hnone : ∀ {X : World}, mayTurn w.heap.size Bs X none := fun r e => by cases e
  have hb1 : Below w.heap.size w W1 := ⟨hg1.os, hg1.tape, hg1.output, hg1.size, fun k hk => hg1.block k hk (by simp)⟩
  refine ⟨w.heap.size + 1, [{ target := .collected w.heap.size, args := #[] }], W1, { target := .fn (.func gf) lb, args := #[.func (.yield (w.heap.size + 1)) #[] #[]] }, W1, gf,
    #[.func (.yield (w.heap.size + 1)) #[] #[]] ++ lb, W1, ?_, ?_, ?_, ?_, fun _ => h1, ?_⟩
  · rw [← hW1, hrec]; exact run_enterLoop_outer _ _ _ _ _
  · simp only [resolve, hg]
    simp [go_sem]
  · intro f' hf'; simp [Target.leads] at hf'; subst hf'; exact hFg
  · simp [invoke, go_sem, eg]
  · -- a block of the law's own: turned, it leaves the caller's word and the iterator's state
    have turn : ∀ {s : σ} {W : World} {l : Nat} {o o' : Obj}, w.heap.size ≤ l → W.heap[l]? = some o → o.isCells = false → (I s W → I s (W.putObj l o')) ∧ (St s W → St s (W.putObj l o')) := by
      intro s W l o o' hl ho hc
      have ht : mayTurnOut w.heap.size W (some l) := fun r e => by cases e; exact ⟨hl, o, ho, hc⟩
      exact ⟨fun h => hI s W _ (some l) h (grownBy_putObj' W l o') (fun r e => .inr (ht r e)), fun h => hSt s W _ (some l) h (grownBy_putObj' W l o') ht⟩
    refine (hseq (w.heap.size + 1) (fun s W => I s W ∧ W.heap[w.heap.size + 1]? = some (.loop (rec .ready)) ∧ W.heap[w.heap.size]? = some (.deferred (some []))) W1 hb1
      ?_ ?_ ⟨hI _ _ _ none h0 hg1 hnone, hL1, hK1⟩ (hSt _ _ _ none hS0 hg1 (fun r e => by cases e))).mono ?_
    · rintro s A B ⟨hi, hl, hk⟩ hgr
      have hlt := (Array.getElem?_eq_some_iff.1 hl).1
      exact ⟨hI _ _ _ _ hi hgr (fun r e => by cases e; exact .inl rfl), (hgr.block _ hlt (by simp; omega)).trans hl, (hgr.block _ (by omega) (by simp; omega)).trans hk⟩
    · -- one round
      rintro s x s' W hnx ⟨hi, hl, hk⟩ hst
      have hlt : w.heap.size + 1 < W.heap.size := (Array.getElem?_eq_some_iff.1 hl).1
      have hy := run_yield (P := P) (args := encs x) hl (by rw [hrec]; exact hps x)
      rw [hrec] at hy
      refine ⟨fn, _, assign, body, hy, roundIn_of_wpIn hfn (hassign _ x W _ ⟨_, run_beginRound hl (by rw [hrec]), ?_⟩)⟩
      have hl2 : (W.putObj (w.heap.size + 1) (.loop { rec .ready with state := .busy })).heap[w.heap.size + 1]? = some (.loop { rec .ready with state := .busy }) := World.putObj_heap_same hlt
      have hk2 : (W.putObj (w.heap.size + 1) (.loop { rec .ready with state := .busy })).heap[w.heap.size]? = some (.deferred (some [])) := (World.putObj_heap_other (by omega)).trans hk
      obtain ⟨tI, tS⟩ := turn (s := s) (o' := .loop { rec .ready with state := .busy }) (Nat.le_succ _) hl rfl
      obtain ⟨_, tS'⟩ := turn (s := s') (o' := .loop { rec .ready with state := .busy }) (Nat.le_succ _) hl rfl
      refine wpIn_mono (hbody _ s x s' _ hnx (tI hi) (tS' hst)) ?_
      rintro e a3 W3 hp
      cases e with
      | normal =>
        obtain ⟨hk3, hi3, hs3⟩ := hp
        have hl3 := hk3.same _ _ (Nat.le_succ _) hl2 rfl
        have hend := run_endRound (P := P) none hl3
        obtain ⟨tI3, tS3⟩ := turn (s := s') (o' := .loop (rec .ready)) (Nat.le_succ _) hl3 rfl
        refine ⟨_, _, hend, rfl, ?_, ?_⟩
        · rw [hrec] at hl3 tI3 ⊢
          exact ⟨tI3 hi3, World.putObj_heap_same (Array.getElem?_eq_some_iff.1 hl3).1, (World.putObj_heap_other (by omega)).trans (hk3.same _ _ (Nat.le_refl _) hk2 rfl)⟩
        · rw [hrec] at tS3 ⊢
          exact tS3 hs3
      | ret => exact hp.elim
      | exit id => exact hp.elim
      | goto t => exact hp.elim
      | panic ch => exact hp.elim
      | outgrown => exact hp.elim
    · -- behind the iterator
      rintro e W2 ⟨⟨v, rfl⟩, s, hf, ⟨hi, hl, hk⟩, hs⟩
      obtain ⟨tI, tS⟩ := turn (s := s) (o' := .loop { rec .ready with state := .exhausted }) (Nat.le_succ _) hl rfl
      refine ⟨none, _, by have := run_endLoop (P := P) hl (by rw [hrec]; simp); rw [hrec] at this; exact this, ?_⟩
      have := hdone w.heap.size s _ (Nat.le_refl _) hf (tI hi) (tS hs) ((World.putObj_heap_other (by omega)).trans hk)
      rw [hrec] at this
      exact this

end

/-- The iterator's state: the text that is left. -/
def St (Bs : Nat) (t : List UInt8) (w : World) : Prop := w.heap[Bs]? = some (.cells #[sv t] 9 (0, 0)) ∧ ML w ∧ t.length ≤ 100000
/-- One step of it: the parameter that it hands over, and the text behind. -/
def Nx (t : List UInt8) (x : PM × List UInt8) (t' : List UInt8) : Prop := stepP t = some (x.1, t') ∧ x.2 = t'
def Fin (t : List UInt8) : Prop := stepP t = none
/-- How much is left: for the measure. -/
def leftOf (Bs : Nat) (w : World) : Nat := match w.cell? ⟨Bs, 0, none⟩ with
  | some (.string s) => s.size
  | _ => 0
theorem leftOf_eq {Bs : Nat} {t : List UInt8} {w : World} (h : St Bs t w) : leftOf Bs w = t.length := by
  unfold leftOf
  rw [cellAt h.1]
  simp [ByteArray.size]
theorem St.step {Bs : Nat} {t : List UInt8} {w w' : World} (h : St Bs t w) (hb : Below w.heap.size w w') : St Bs t w' := ⟨blk_below h.1 hb, h.2.1.step hb, h.2.2⟩
theorem St.store {Bs : Nat} {t t' : List UInt8} {w : World} (h : St Bs t w) (h0 : 1 < Bs) (hl : t'.length ≤ t.length) : St Bs t' (w.setCell ⟨Bs, 0, none⟩ (sv t')) := by
  obtain ⟨h1, ⟨mx, h3⟩, h4⟩ := h
  refine ⟨by rw [heap_setCell_same _ _ _ _ _ _ h1]; rfl, ⟨mx, ?_⟩, by omega⟩
  rw [World.cell?_setCell_other w _ _ _ (by intro e; simp at e <;> omega)]
  exact h3
theorem St.out {Bs B : Nat} (hB : Bs < B) (hg0 : 1 < B) {t : List UInt8} {W W' : World} {row : Option Nat} (h : St Bs t W) (hg : W.grownBy W' row) (hr : ∀ r, row = some r → B ≤ r) : St Bs t W' := by
  obtain ⟨h1, ⟨mx, h3⟩, h4⟩ := h
  have ne : ∀ k, k < B → some k ≠ row := fun k hk e => by have := hr k e.symm; omega
  exact ⟨(hg.block _ (lt_of_blk h1) (ne _ hB)).trans h1, ⟨mx, hg.cell h3 (ne _ hg0)⟩, h4⟩

/-- What stands behind a blank; is there one? -/
def preB (t : List UInt8) : List UInt8 × Bool := match t with
  | [] => ([], false)
  | c :: r => if c = 32 then (r, true) else (c :: r, false)
theorem stepP_pre (t : List UInt8) : stepP t = if (preB t).2 then (wordP (untilB (preB t).1 32)).map fun p => (p, (preB t).1.drop (untilB (preB t).1 32).length) else none := by
  cases t with
  | nil => rfl
  | cons c r =>
    rw [stepP_cons]
    unfold preB
    by_cases h : c = 32
    · simp [h]
    · simp [h]
theorem preB_len (t : List UInt8) : (preB t).1.length ≤ t.length := by
  cases t with
  | nil => exact Nat.le_refl _
  | cons c r => unfold preB; dsimp only; split <;> simp
theorem preB_call (t : List UInt8) (w : World) : Calls Tryz.prog 74 #[sv t, .string { data := #[32] }] w fun e w' => e = .returned (.tuple #[sv (preB t).1, .bool (preB t).2]) ∧ w = w' := by
  have := cutpre_any t 32 w
  refine this.mono ?_
  rintro e w' ⟨rfl, rfl⟩
  refine ⟨?_, rfl⟩
  cases t with
  | nil => rfl
  | cons c r =>
    unfold preB
    by_cases h : c = 32
    · subst h; rfl
    · simp [h, preV]

set_option maxHeartbeats 4000000 in
theorem params1_in (l Bs : Nat) (J : List UInt8 → World → Prop) (W : World) (t0 : List UInt8) (h0B : 1 < Bs)
    (hJ : ∀ s W1 W2, J s W1 → W1.grownBy W2 (some Bs) → J s W2)
    (hY : ∀ s x s' W1, Nx s x s' → J s W1 → St Bs s' W1 → YieldAt Fence.wide 1 Tryz.prog l #[pmV x.1, sv x.2] W1 fun e W2 => e = .returned (.bool true) ∧ J s' W2 ∧ St Bs s' W2)
    (h0 : J t0 W) (hS : St Bs t0 W) :
    CallsIn Fence.wide 2 Tryz.prog 129 #[.func (.yield l) #[] #[], .pointer (some ⟨Bs, 0, none⟩)] W fun e W' => (∃ v, e = .returned v) ∧ ∃ s, Fin s ∧ J s W' ∧ St Bs s W' := by
  refine callsIn_of_wp Tryz.func129 rfl trivial ?_ rfl
  simp only [Tryz.ntmps129, List.size_toArray, List.length_cons, List.length_nil, Nat.reduceAdd, Nat.reduceSub, Array.replicate_succ, Array.replicate_zero, List.push_toArray, List.append_toArray, List.nil_append, List.cons_append]
  gi_wp2
  gi_loopw [10] (fun _ wr => ∃ t, J t wr ∧ St Bs t wr) (fun _ wr => leftOf Bs wr)
  case atStart => exact ⟨t0, h0, hS⟩
  case round =>
    obtain ⟨t, hj, hst⟩ := hrel
    have HS := Lib.hid hst
    have HJ := Lib.hid hj
    obtain ⟨hB, hml, hlen⟩ := hst
    have c0 : wr.cell? ⟨Bs, 0, none⟩ = some (sv t) := by rw [cellAt hB]; rfl
    have f0 := freeAt hB 0
    have HM := Lib.hid hml
    clear hB hml hj
    obtain ⟨r, hr⟩ : ∃ r, r = (preB t).1 := ⟨_, rfl⟩
    obtain ⟨b, hb⟩ : ∃ b, b = (preB t).2 := ⟨_, rfl⟩
    obtain ⟨u, hu⟩ : ∃ u, u = untilB r 32 := ⟨_, rfl⟩
    obtain ⟨y, hy⟩ : ∃ y, y = (r.drop (untilB r 32).length).tail := ⟨_, rfl⟩
    obtain ⟨z, hz⟩ : ∃ z, z = r.contains 32 := ⟨_, rfl⟩
    obtain ⟨q, hq⟩ : ∃ q, q = wordP u := ⟨_, rfl⟩
    have hrl : r.length ≤ t.length := by rw [hr]; exact preB_len t
    have hul : u.length ≤ r.length := by rw [hu]; exact untilB_len r 32
    have HP := Lib.hid (show ∀ W, Calls Tryz.prog 74 #[sv t, .string { data := #[32] }] W fun e w' => e = .returned (.tuple #[sv r, .bool b]) ∧ W = w' from fun W => by rw [hr, hb]; exact preB_call t W)
    have HC := Lib.hid (show Lib.cut r [32] = (u, y, z) by rw [cut_byte, hu, hy, hz])
    have HST := Lib.hid (show stepP t = if b then q.map fun p => (p, r.drop u.length) else none by rw [stepP_pre, ← hr, ← hb, ← hu, ← hq])
    have HQ := Lib.hid hq
    clear hr hb hu hy hz hq
    have stop : ∀ (W2 : World) (o : Obj) (n : Nat), Below (wr.drewN n).heap.size (wr.drewN n) W2 → Fin t → (∃ s, Fin s ∧ J s (W2.alloc o) ∧ St Bs s (W2.alloc o)) := by
      intro W2 o n hb2 hf
      have hb := (below_of_drewN hb2).alloc (below_of_drewN hb2).size o
      exact ⟨t, hf, hJ _ _ _ HJ.out (grownBelow hb _), HS.out.step hb⟩
    have STOP := Lib.hid stop
    clear stop
    cases hbq : (b && q.isSome) with
    | false =>
      have HF := Lib.hid (show Fin t by
        unfold Fin
        rw [HST.out]
        cases b <;> cases q <;> first | rfl | cases hbq)
      have hor : b = false ∨ q = none := by cases b <;> cases q <;> simp_all
      clear hbq
      rcases hor with rfl | rfl
      · skip
        cases q
        all_goals
          gi_wp2_with (first
            | (refine ⟨trivial, ?_⟩; gi_at_call 74; refine (callsIn_wide.2 (HP.out _)).mono ?_; rintro e w' ⟨rfl, rfl⟩)
            | (refine ⟨trivial, ?_⟩; gi_at_call 130; refine (callsIn_wide.2 (cutb_call r 32 _ (by omega) HM.out HC.out)).mono ?_; rintro e w1 ⟨rfl, n, rfl⟩)
            | (refine ⟨trivial, ?_⟩; gi_at_call 131; refine (callsIn_wide.2 (paramOf_any u _ (by omega) (HM.out.drewN n))).mono ?_; rintro e w2 ⟨rfl, hb2⟩; rw [← HQ.out]; have HB2 := Lib.hid hb2; clear hb2; unfold wordV))
          exact bodyPost_ret (results_none rfl _ _ _) rfl ⟨⟨_, rfl⟩, STOP.out _ _ _ HB2.out HF.out⟩
      · skip
        cases b
        all_goals
          gi_wp2_with (first
            | (refine ⟨trivial, ?_⟩; gi_at_call 74; refine (callsIn_wide.2 (HP.out _)).mono ?_; rintro e w' ⟨rfl, rfl⟩)
            | (refine ⟨trivial, ?_⟩; gi_at_call 130; refine (callsIn_wide.2 (cutb_call r 32 _ (by omega) HM.out HC.out)).mono ?_; rintro e w1 ⟨rfl, n, rfl⟩)
            | (refine ⟨trivial, ?_⟩; gi_at_call 131; refine (callsIn_wide.2 (paramOf_any u _ (by omega) (HM.out.drewN n))).mono ?_; rintro e w2 ⟨rfl, hb2⟩; rw [← HQ.out]; have HB2 := Lib.hid hb2; clear hb2; unfold wordV))
          exact bodyPost_ret (results_none rfl _ _ _) rfl ⟨⟨_, rfl⟩, STOP.out _ _ _ HB2.out HF.out⟩
    | true =>
      obtain ⟨rfl, hqs⟩ : b = true ∧ q.isSome = true := by simpa using hbq
      obtain ⟨p, rfl⟩ := Option.isSome_iff_exists.1 hqs
      clear hbq hqs
      obtain ⟨r', hr'⟩ : ∃ r', r' = r.drop u.length := ⟨_, rfl⟩
      have hnx : Nx t (p, r') r' := ⟨by rw [HST.out, hr']; rfl, rfl⟩
      have hlt' := stepP_len hnx.1
      have e1 : (str r).extract u.length r.length = str r' := by rw [str_from, hr']
      have hul' : (u.length : Int) ≤ (r.length : Int) := by omega
      have HNX := Lib.hid hnx
      have HLT := Lib.hid hlt'
      have HBs := Lib.hid (lt_of_blk HS.out.1)
      clear hr' hnx hlt'
      obtain ⟨pn, pv⟩ := p
      gi_wp2_with (first
        | (refine ⟨trivial, ?_⟩; gi_at_call 74; refine (callsIn_wide.2 (HP.out _)).mono ?_; rintro e w' ⟨rfl, rfl⟩)
        | (refine ⟨trivial, ?_⟩; gi_at_call 130; refine (callsIn_wide.2 (cutb_call r 32 _ (by omega) HM.out HC.out)).mono ?_; rintro e w1 ⟨rfl, n, rfl⟩)
        | (refine ⟨trivial, ?_⟩; gi_at_call 131; refine (callsIn_wide.2 (paramOf_any u _ (by omega) (HM.out.drewN n))).mono ?_; rintro e w2 ⟨rfl, hb2⟩; rw [← HQ.out]; have hst2 := HS.out.step (below_of_drewN hb2); have c2 : w2.cell? ⟨Bs, 0, none⟩ = some (sv t) := (by rw [cellAt hst2.1]; rfl); have f2 := freeAt hst2.1 0; have l2 := lt_of_blk hst2.1; have HB2 := Lib.hid (below_of_drewN hb2); clear hb2 hst2; unfold wordV))
      have hs1 : St Bs r' ((w2.setCell ⟨Bs, 0, none⟩ (.string (str r'))).alloc (.cells #[.string (str pn), .string (str pv)] 38)) :=
        ((HS.out.step HB2.out).store h0B (by have := HLT.out; omega)).step (below_alloc _ _)
      have hj1 : J t ((w2.setCell ⟨Bs, 0, none⟩ (.string (str r'))).alloc (.cells #[.string (str pn), .string (str pv)] 38)) :=
        hJ _ _ _ (hJ _ _ _ (hJ _ _ _ HJ.out (grownBelow HB2.out _)) (grownBy_setCell' _ _ _)) (grownBelow (below_alloc _ _) _)
      obtain ⟨fn, tmps, assign, body, hy, hR⟩ := hY t ((pn, pv), r') r' _ HNX.out hj1 hs1
      dsimp only at hy
      have HJ1 := Lib.hid hj1
      have HS1 := Lib.hid hs1
      clear hj1 hs1
      rw [hy]
      gi_wp2
      refine hR.mono ?_
      rintro e W3 ⟨rfl, hJ3, hS3⟩
      have HJ3 := Lib.hid hJ3
      have HS3 := Lib.hid hS3
      clear hJ3 hS3
      gi_wp2
      go_roundw
      case rel => exact ⟨r', HJ3.out, HS3.out⟩
      case measure => rw [leftOf_eq HS3.out, leftOf_eq HS.out]; exact HLT.out

theorem params_steps (Bs : Nat) (t0 : List UInt8) (w : World) (h0B : 1 < Bs) :
    StepsOver Fence.wide 2 Tryz.prog 129 #[.pointer (some ⟨Bs, 0, none⟩)] (fun x : PM × List UInt8 => #[pmV x.1, sv x.2]) Bs Nx Fin (St Bs) t0 w :=
  fun l J W _ hJ hY h0 hS => params1_in l Bs J W t0 h0B hJ hY h0 hS
theorem params_any (s : ByteArray) (w : World) :
    Calls Tryz.prog 89 #[.string s] w fun e w' => e = .returned (.func (.func 129) #[] #[.pointer (some ⟨w.heap.size, 0, none⟩)]) ∧ w' = w.alloc (.cells #[.string s] 9) := by
  go_enter Tryz.func89, Tryz.ntmps89
  go_wp2
  go_ret
  exact ⟨rfl, rfl⟩
end Go.Proofs.YtbmjmiioobgbfaaGreatDoor

namespace Go.Proofs.YtbmjmiioobgbfaaGreatDoor
open Go Go.RowKit
set_option linter.unusedSimpArgs false
set_option linter.unusedVariables false
section
variable {F : Fence} {n : Nat} {P : Program}

/-- The same, where the assignment of a round lays a block for its variable. -/
theorem wpIn_rangeFunc_sv {σ χ : Type} {g : Operand} {ps : Array Tmp} {assign body : Code} {Q : Exit → Act → World → Prop} {a : Act} {w : World}
    (hro : F.round = none) (h1 : 1 ≤ n) {gf : Nat} {lb : Array Value} (hg : a.eval g = .func (.func gf) #[] lb) (hFg : F.fn gf) (eg : ∀ args w, (callFunc gf args).run P w = .ok (.enter gf args) w)
    {encs : χ → Array Value} {Bs : Nat} {Nx : σ → χ → σ → Prop} {Fin : σ → Prop} {St : σ → World → Prop} {s0 : σ}
    (hseq : StepsOver F (n - 1) P gf lb encs Bs Nx Fin St s0 w) (hBs : Bs < w.heap.size) (hps : ∀ x, (encs x).size = ps.size)
    (hSt : ∀ s W W' row, St s W → W.grownBy W' row → mayTurnOut w.heap.size W row → St s W')
    (I : σ → World → Prop) (hI : ∀ s W W' row, I s W → W.grownBy W' row → mayTurn w.heap.size Bs W row → I s W')
    (h0 : I s0 w) (hS0 : St s0 w) (a₁ : χ → Nat → Act) (vs : χ → Array Value) (T : TypeId)
    (hassign : ∀ (l : Nat) (x : χ) (W : World) (K : Act → World → Prop), K (a₁ x W.heap.size) (W.alloc (.cells (vs x) T)) →
      assign.wpIn (F.inRound l) (n - 1 - 1) P (Exit.then K (fun _ _ _ => False)) { tmps := (ps.zip (encs x)).foldl (fun t (p, v) => t.setIfInBounds p v) a.tmps, defers := [] } W)
    (hbody : ∀ (l : Nat) (s : σ) (x : χ) (s' : σ) (A : Nat) (W : World), Nx s x s' → I s W → St s' W → w.heap.size ≤ A → W.heap[A]? = some (.cells (vs x) T (0, 0)) → body.wpIn (F.inRound l) (n - 1 - 1) P (goesOn fun W' => KeepsFrom w.heap.size W W' ∧ I s' W' ∧ St s' W') (a₁ x A) W)
    (hdone : ∀ (D : Nat) (s : σ) (W : World), w.heap.size ≤ D → Fin s → I s W → St s W → W.heap[D]? = some (.deferred (some [])) → Q .normal { a with defers := { target := .collected D, args := #[] } :: a.defers } W) :
    (Code.rangeFunc g ps assign body).wpIn F n P Q a w := by
  refine wpIn_rangeFunc ?_
  intro fn hfn
  rw [hro]
  obtain ⟨rec, hrec⟩ : ∃ rec : LoopState → Loop, rec = fun st => { state := st, pending := none, fn, tmps := a.tmps, params := ps, assign, body, defers := w.heap.size } := ⟨_, rfl⟩
  obtain ⟨W1, hW1⟩ : ∃ W1, (w.alloc (.deferred (some []))).alloc (.loop (rec .ready)) = W1 := ⟨_, rfl⟩
  have hg1 : w.grownBy W1 none := by
    rw [← hW1]
    exact ⟨rfl, rfl, rfl, by simp; omega, fun k hk _ => (Below.heap_alloc _ _ k (by simp; omega)).trans (Below.heap_alloc _ _ k hk)⟩
  have hL1 : W1.heap[w.heap.size + 1]? = some (.loop (rec .ready)) := by
    rw [← hW1]; have := World.alloc_heap_new (w.alloc (.deferred (some []))) (.loop (rec .ready)); rwa [World.size_alloc] at this
  have hK1 : W1.heap[w.heap.size]? = some (.deferred (some [])) := by
    rw [← hW1]; exact (Below.heap_alloc _ _ _ (by simp)).trans (World.alloc_heap_new w _)
  have hnone : ∀ {X : World}, mayTurn w.heap.size Bs X none := fun r e => by cases e
  have hb1 : Below w.heap.size w W1 := ⟨hg1.os, hg1.tape, hg1.output, hg1.size, fun k hk => hg1.block k hk (by simp)⟩
  refine ⟨w.heap.size + 1, [{ target := .collected w.heap.size, args := #[] }], W1, { target := .fn (.func gf) lb, args := #[.func (.yield (w.heap.size + 1)) #[] #[]] }, W1, gf,
    #[.func (.yield (w.heap.size + 1)) #[] #[]] ++ lb, W1, ?_, ?_, ?_, ?_, fun _ => h1, ?_⟩
  · rw [← hW1, hrec]; exact run_enterLoop_outer _ _ _ _ _
  · simp only [resolve, hg]
    simp [go_sem]
  · intro f' hf'; simp [Target.leads] at hf'; subst hf'; exact hFg
  · simp [invoke, go_sem, eg]
  · -- a block of the law's own: turned, it leaves the caller's word and the iterator's state
    have turn : ∀ {s : σ} {W : World} {l : Nat} {o o' : Obj}, w.heap.size ≤ l → W.heap[l]? = some o → o.isCells = false → (I s W → I s (W.putObj l o')) ∧ (St s W → St s (W.putObj l o')) := by
      intro s W l o o' hl ho hc
      have ht : mayTurnOut w.heap.size W (some l) := fun r e => by cases e; exact ⟨hl, o, ho, hc⟩
      exact ⟨fun h => hI s W _ (some l) h (grownBy_putObj' W l o') (fun r e => .inr (ht r e)), fun h => hSt s W _ (some l) h (grownBy_putObj' W l o') ht⟩
    refine (hseq (w.heap.size + 1) (fun s W => I s W ∧ W.heap[w.heap.size + 1]? = some (.loop (rec .ready)) ∧ W.heap[w.heap.size]? = some (.deferred (some []))) W1 hb1
      ?_ ?_ ⟨hI _ _ _ none h0 hg1 hnone, hL1, hK1⟩ (hSt _ _ _ none hS0 hg1 (fun r e => by cases e))).mono ?_
    · rintro s A B ⟨hi, hl, hk⟩ hgr
      have hlt := (Array.getElem?_eq_some_iff.1 hl).1
      exact ⟨hI _ _ _ _ hi hgr (fun r e => by cases e; exact .inl rfl), (hgr.block _ hlt (by simp; omega)).trans hl, (hgr.block _ (by omega) (by simp; omega)).trans hk⟩
    · -- one round
      rintro s x s' W hnx ⟨hi, hl, hk⟩ hst
      have hlt : w.heap.size + 1 < W.heap.size := (Array.getElem?_eq_some_iff.1 hl).1
      have hy := run_yield (P := P) (args := encs x) hl (by rw [hrec]; exact hps x)
      rw [hrec] at hy
      obtain ⟨Wp, hWp⟩ : ∃ Wp, Wp = W.alloc (.cells (vs x) T) := ⟨_, rfl⟩
      have gp : W.grownBy Wp none := by rw [hWp]; exact World.grownBy_alloc _ _ _
      have hip := hI _ _ _ none hi gp hnone
      have hsp := hSt _ _ _ none hst gp (fun r e => by cases e)
      have hlp : Wp.heap[w.heap.size + 1]? = some (.loop (rec .ready)) := (gp.block _ hlt (by simp)).trans hl
      have hkp : Wp.heap[w.heap.size]? = some (.deferred (some [])) := (gp.block _ (by omega) (by simp)).trans hk
      have hAp : Wp.heap[W.heap.size]? = some (.cells (vs x) T (0, 0)) := by rw [hWp]; exact World.alloc_heap_new W _
      have hltp : w.heap.size + 1 < Wp.heap.size := (Array.getElem?_eq_some_iff.1 hlp).1
      refine ⟨fn, _, assign, body, hy, roundIn_of_wpIn hfn (hassign _ x W _ ⟨_, run_beginRound (by rw [← hWp]; exact hlp) (by rw [hrec]), ?_⟩)⟩
      rw [← hWp]
      have hl2 : (Wp.putObj (w.heap.size + 1) (.loop { rec .ready with state := .busy })).heap[w.heap.size + 1]? = some (.loop { rec .ready with state := .busy }) := World.putObj_heap_same hltp
      have hk2 : (Wp.putObj (w.heap.size + 1) (.loop { rec .ready with state := .busy })).heap[w.heap.size]? = some (.deferred (some [])) := (World.putObj_heap_other (by omega)).trans hkp
      have hA2 : (Wp.putObj (w.heap.size + 1) (.loop { rec .ready with state := .busy })).heap[W.heap.size]? = some (.cells (vs x) T (0, 0)) := (World.putObj_heap_other (by omega)).trans hAp
      obtain ⟨tI, tS⟩ := turn (s := s) (o' := .loop { rec .ready with state := .busy }) (Nat.le_succ _) hlp rfl
      obtain ⟨_, tS'⟩ := turn (s := s') (o' := .loop { rec .ready with state := .busy }) (Nat.le_succ _) hlp rfl
      refine wpIn_mono (hbody _ s x s' _ _ hnx (tI hip) (tS' hsp) (by omega) hA2) ?_
      rintro e a3 W3 hp
      cases e with
      | normal =>
        obtain ⟨hk3, hi3, hs3⟩ := hp
        have hl3 := hk3.same _ _ (Nat.le_succ _) hl2 rfl
        have hend := run_endRound (P := P) none hl3
        obtain ⟨tI3, tS3⟩ := turn (s := s') (o' := .loop (rec .ready)) (Nat.le_succ _) hl3 rfl
        refine ⟨_, _, hend, rfl, ?_, ?_⟩
        · rw [hrec] at hl3 tI3 ⊢
          exact ⟨tI3 hi3, World.putObj_heap_same (Array.getElem?_eq_some_iff.1 hl3).1, (World.putObj_heap_other (by omega)).trans (hk3.same _ _ (Nat.le_refl _) hk2 rfl)⟩
        · rw [hrec] at tS3 ⊢
          exact tS3 hs3
      | ret => exact hp.elim
      | exit id => exact hp.elim
      | goto t => exact hp.elim
      | panic ch => exact hp.elim
      | outgrown => exact hp.elim
    · -- behind the iterator
      rintro e W2 ⟨⟨v, rfl⟩, s, hf, ⟨hi, hl, hk⟩, hs⟩
      obtain ⟨tI, tS⟩ := turn (s := s) (o' := .loop { rec .ready with state := .exhausted }) (Nat.le_succ _) hl rfl
      refine ⟨none, _, by have := run_endLoop (P := P) hl (by rw [hrec]; simp); rw [hrec] at this; exact this, ?_⟩
      have := hdone w.heap.size s _ (Nat.le_refl _) hf (tI hi) (tS hs) ((World.putObj_heap_other (by omega)).trans hk)
      rw [hrec] at this
      exact this

end
end Go.Proofs.YtbmjmiioobgbfaaGreatDoor
