/-
  A loop over an iterator that keeps its state in a captured box, whose rounds lay a block for their variable.
-/
import Derived.Test.YtifmnlcggokfkaaGreatDoorKIter
namespace Go.Proofs.YtifmnlcggokfkaaGreatDoor
open Go Go.RowKit
section
variable {F : Fence} {n : Nat} {P : Program}

/-- The same, where the assignment of a round lays a block for its variable. -/
theorem wpIn_rangeFunc_sv {σ χ : Type} {g : Operand} {ps : Array Tmp} {assign body : Code} {Q : Exit → Act → World → Prop} {a : Act} {w : World}
    (hro : F.round = none) (h1 : 1 ≤ n) {gf : Nat} {lb : Array Value} (hg : a.eval g = .func (.func gf) #[] lb) (hFg : F.fn gf) (eg : ∀ args w, (callFunc gf args).run P w = .ok (.enter gf args) w)
    {encs : χ → Array Value} {Bs : Nat} {Nx : σ → χ → σ → Prop} {Fin : σ → Prop} {St : σ → World → Prop} {s0 : σ}
    (hseq : StepsOver F (n - 1) P gf lb encs Bs Nx Fin St s0 w) (hBs : Bs < w.heap.size) (hps : ∀ x, (encs x).size = ps.size)
    (hSt : ∀ s W W' row, St s W → W.grownBy W' row → mayTurnOut w.heap.size W row → St s W')
    (I : σ → World → Prop) (hI : ∀ s W W' row, I s W → W.grownBy W' row → mayTurn w.heap.size Bs W row → I s W')
    (h0 : I s0 w) (hS0 : St s0 w) (a₁ : χ → Nat → Act) (vs : χ → Array Value) (T : TypeId)
    (hassign : ∀ (l : Nat) (x : χ) (W : World) (K : Act → World → Prop), K (a₁ x W.heap.size) (W.alloc (.cells (vs x) T)) →
      assign.wpIn (F.inRound l) (n - 1 - 1) P (Exit.then K (fun _ _ _ => False)) { tmps := (ps.zip (encs x)).foldl (fun t (p, v) => t.setIfInBounds p v) a.tmps, defers := [] } W)
    (hbody : ∀ (l : Nat) (s : σ) (x : χ) (s' : σ) (A : Nat) (W : World), Nx s x s' → I s W → St s' W → w.heap.size ≤ A → W.heap[A]? = some (.cells (vs x) T (0, 0)) → body.wpIn (F.inRound l) (n - 1 - 1) P (goesOn fun W' => KeepsFrom w.heap.size W W' ∧ I s' W' ∧ St s' W') (a₁ x A) W)
    (hdone : ∀ (D : Nat) (s : σ) (W : World), w.heap.size ≤ D → Fin s → I s W → St s W → W.heap[D]? = some (.deferred (some [])) → Q .normal { a with defers := { target := .collected D, args := #[] } :: a.defers } W) :
    (Code.rangeFunc g ps assign body).wpIn F n P Q a w := by
  refine wpIn_rangeFunc ?_
  intro fn hfn
  rw [hro]
  obtain ⟨rec, hrec⟩ : ∃ rec : LoopState → Loop, rec = fun st => { state := st, pending := none, fn, tmps := a.tmps, params := ps, assign, body, defers := w.heap.size } := ⟨_, rfl⟩
  obtain ⟨W1, hW1⟩ : ∃ W1, (w.alloc (.deferred (some []))).alloc (.loop (rec .ready)) = W1 := ⟨_, rfl⟩
  have hg1 : w.grownBy W1 none := by
    rw [← hW1]
    exact ⟨rfl, rfl, rfl, by simp; omega, fun k hk _ => (Below.heap_alloc _ _ k (by simp; omega)).trans (Below.heap_alloc _ _ k hk)⟩
  have hL1 : W1.heap[w.heap.size + 1]? = some (.loop (rec .ready)) := by
    rw [← hW1]; have := World.alloc_heap_new (w.alloc (.deferred (some []))) (.loop (rec .ready)); rwa [World.size_alloc] at this
  have hK1 : W1.heap[w.heap.size]? = some (.deferred (some [])) := by
    rw [← hW1]; exact (Below.heap_alloc _ _ _ (by simp)).trans (World.alloc_heap_new w _)
  have hnone : ∀ {X : World}, mayTurn w.heap.size Bs X none := fun r e => by cases e
  have hb1 : Below w.heap.size w W1 := ⟨hg1.os, hg1.tape, hg1.output, hg1.size, fun k hk => hg1.block k hk (by simp)⟩
  refine ⟨w.heap.size + 1, [{ target := .collected w.heap.size, args := #[] }], W1, { target := .fn (.func gf) lb, args := #[.func (.yield (w.heap.size + 1)) #[] #[]] }, W1, gf,
    #[.func (.yield (w.heap.size + 1)) #[] #[]] ++ lb, W1, ?_, ?_, ?_, ?_, fun _ => h1, ?_⟩
  · rw [← hW1, hrec]; exact run_enterLoop_outer _ _ _ _ _
  · simp only [resolve, hg]
    simp [go_sem]
  · intro f' hf'; simp [Target.leads] at hf'; subst hf'; exact hFg
  · simp [invoke, go_sem, eg]
  · -- a block of the law's own: turned, it leaves the caller's word and the iterator's state
    have turn : ∀ {s : σ} {W : World} {l : Nat} {o o' : Obj}, w.heap.size ≤ l → W.heap[l]? = some o → o.isCells = false → (I s W → I s (W.putObj l o')) ∧ (St s W → St s (W.putObj l o')) := by
      intro s W l o o' hl ho hc
      have ht : mayTurnOut w.heap.size W (some l) := fun r e => by cases e; exact ⟨hl, o, ho, hc⟩
      exact ⟨fun h => hI s W _ (some l) h (grownBy_putObj' W l o') (fun r e => .inr (ht r e)), fun h => hSt s W _ (some l) h (grownBy_putObj' W l o') ht⟩
    refine (hseq (w.heap.size + 1) (fun s W => I s W ∧ W.heap[w.heap.size + 1]? = some (.loop (rec .ready)) ∧ W.heap[w.heap.size]? = some (.deferred (some []))) W1 hb1
      ?_ ?_ ⟨hI _ _ _ none h0 hg1 hnone, hL1, hK1⟩ (hSt _ _ _ none hS0 hg1 (fun r e => by cases e))).mono ?_
    · rintro s A B ⟨hi, hl, hk⟩ hgr
      have hlt := (Array.getElem?_eq_some_iff.1 hl).1
      exact ⟨hI _ _ _ _ hi hgr (fun r e => by cases e; exact .inl rfl), (hgr.block _ hlt (by simp; omega)).trans hl, (hgr.block _ (by omega) (by simp; omega)).trans hk⟩
    · -- one round
      rintro s x s' W hnx ⟨hi, hl, hk⟩ hst
      have hlt : w.heap.size + 1 < W.heap.size := (Array.getElem?_eq_some_iff.1 hl).1
      have hy := run_yield (P := P) (args := encs x) hl (by rw [hrec]; exact hps x)
      rw [hrec] at hy
      obtain ⟨Wp, hWp⟩ : ∃ Wp, Wp = W.alloc (.cells (vs x) T) := ⟨_, rfl⟩
      have gp : W.grownBy Wp none := by rw [hWp]; exact World.grownBy_alloc _ _ _
      have hip := hI _ _ _ none hi gp hnone
      have hsp := hSt _ _ _ none hst gp (fun r e => by cases e)
      have hlp : Wp.heap[w.heap.size + 1]? = some (.loop (rec .ready)) := (gp.block _ hlt (by simp)).trans hl
      have hkp : Wp.heap[w.heap.size]? = some (.deferred (some [])) := (gp.block _ (by omega) (by simp)).trans hk
      have hAp : Wp.heap[W.heap.size]? = some (.cells (vs x) T (0, 0)) := by rw [hWp]; exact World.alloc_heap_new W _
      have hltp : w.heap.size + 1 < Wp.heap.size := (Array.getElem?_eq_some_iff.1 hlp).1
      refine ⟨fn, _, assign, body, hy, roundIn_of_wpIn hfn (hassign _ x W _ ⟨_, run_beginRound (by rw [← hWp]; exact hlp) (by rw [hrec]), ?_⟩)⟩
      rw [← hWp]
      have hl2 : (Wp.putObj (w.heap.size + 1) (.loop { rec .ready with state := .busy })).heap[w.heap.size + 1]? = some (.loop { rec .ready with state := .busy }) := World.putObj_heap_same hltp
      have hk2 : (Wp.putObj (w.heap.size + 1) (.loop { rec .ready with state := .busy })).heap[w.heap.size]? = some (.deferred (some [])) := (World.putObj_heap_other (by omega)).trans hkp
      have hA2 : (Wp.putObj (w.heap.size + 1) (.loop { rec .ready with state := .busy })).heap[W.heap.size]? = some (.cells (vs x) T (0, 0)) := (World.putObj_heap_other (by omega)).trans hAp
      obtain ⟨tI, tS⟩ := turn (s := s) (o' := .loop { rec .ready with state := .busy }) (Nat.le_succ _) hlp rfl
      obtain ⟨_, tS'⟩ := turn (s := s') (o' := .loop { rec .ready with state := .busy }) (Nat.le_succ _) hlp rfl
      refine wpIn_mono (hbody _ s x s' _ _ hnx (tI hip) (tS' hsp) (by omega) hA2) ?_
      rintro e a3 W3 hp
      cases e with
      | normal =>
        obtain ⟨hk3, hi3, hs3⟩ := hp
        have hl3 := hk3.same _ _ (Nat.le_succ _) hl2 rfl
        have hend := run_endRound (P := P) none hl3
        obtain ⟨tI3, tS3⟩ := turn (s := s') (o' := .loop (rec .ready)) (Nat.le_succ _) hl3 rfl
        refine ⟨_, _, hend, rfl, ?_, ?_⟩
        · rw [hrec] at hl3 tI3 ⊢
          exact ⟨tI3 hi3, World.putObj_heap_same (Array.getElem?_eq_some_iff.1 hl3).1, (World.putObj_heap_other (by omega)).trans (hk3.same _ _ (Nat.le_refl _) hk2 rfl)⟩
        · rw [hrec] at tS3 ⊢
          exact tS3 hs3
      | ret => exact hp.elim
      | exit id => exact hp.elim
      | goto t => exact hp.elim
      | panic ch => exact hp.elim
      | outgrown => exact hp.elim
    · -- behind the iterator
      rintro e W2 ⟨⟨v, rfl⟩, s, hf, ⟨hi, hl, hk⟩, hs⟩
      obtain ⟨tI, tS⟩ := turn (s := s) (o' := .loop { rec .ready with state := .exhausted }) (Nat.le_succ _) hl rfl
      refine ⟨none, _, by have := run_endLoop (P := P) hl (by rw [hrec]; simp); rw [hrec] at this; exact this, ?_⟩
      have := hdone w.heap.size s _ (Nat.le_refl _) hf (tI hi) (tS hs) ((World.putObj_heap_other (by omega)).trans hk)
      rw [hrec] at this
      exact this

end
end Go.Proofs.YtifmnlcggokfkaaGreatDoor
