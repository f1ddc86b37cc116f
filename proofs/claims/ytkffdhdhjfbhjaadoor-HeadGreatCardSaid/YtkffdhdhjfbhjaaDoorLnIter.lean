/-
  Plain functions on lists of bytes: what stands between the line ends of a text, byte by byte ('run'). A loop over an iterator that keeps its state in a captured box.
-/
import Derived.RangeFuncBox
import Derived.RangeFuncLeaves
import Derived.Lib.IndexMore
import Derived.Lib.CutLaws
import Derived.Test.YtkffdhdhjfbhjaaDoorBase
namespace Go.Proofs.YtkffdhdhjfbhjaaDoor
open Go Go.RowKit
set_option maxRecDepth 100000


/-- Bytes come one by one to a line of which l has come; lines of m bytes at most: the lines that are whole by them, what is left, whether it died. -/
def run (m : Nat) : List UInt8 → List UInt8 → List (List UInt8) × List UInt8 × Bool
  | l, [] => ([], l, false)
  | l, b :: s =>
    if b = 10 ∧ l.getLast? = some 13 then (l.dropLast :: (run m [] s).1, (run m [] s).2)
    else if m ≤ l.length + 1 then ([], [], true)
    else run m (l ++ [b]) s

theorem run_nil (m : Nat) (l : List UInt8) : run m l [] = ([], l, false) := rfl
theorem run_end {m : Nat} {l : List UInt8} {b : UInt8} (s : List UInt8) (h : b = 10 ∧ l.getLast? = some 13) : run m l (b :: s) = (l.dropLast :: (run m [] s).1, (run m [] s).2) := by rw [run, if_pos h]
theorem run_dies {m : Nat} {l : List UInt8} {b : UInt8} (s : List UInt8) (h : ¬ (b = 10 ∧ l.getLast? = some 13)) (hm : m ≤ l.length + 1) : run m l (b :: s) = ([], [], true) := by rw [run, if_neg h, if_pos hm]
theorem run_on {m : Nat} {l : List UInt8} {b : UInt8} (s : List UInt8) (h : ¬ (b = 10 ∧ l.getLast? = some 13)) (hm : l.length + 1 < m) : run m l (b :: s) = run m (l ++ [b]) s := by rw [run, if_neg h, if_neg (by omega)]

/-- In two parts, or at once. -/
theorem run_append (m : Nat) : ∀ (s l t : List UInt8), run m l (s ++ t) =
    if (run m l s).2.2 then ((run m l s).1, (run m l s).2.1, true) else ((run m l s).1 ++ (run m (run m l s).2.1 t).1, (run m (run m l s).2.1 t).2) := by
  intro s
  induction s with
  | nil => intro l t; simp [run_nil]
  | cons b s ih =>
    intro l t
    rw [List.cons_append]
    by_cases h : b = 10 ∧ l.getLast? = some 13
    · rw [run_end _ h, run_end _ h, ih [] t]
      by_cases hd : (run m [] s).2.2 = true <;> simp [hd]
    · by_cases hm : m ≤ l.length + 1
      · rw [run_dies _ h hm, run_dies _ h hm]; simp
      · rw [run_on _ h (by omega), run_on _ h (by omega)]
        exact ih _ t

/-- No CR LF stands in t. -/
def NoCL (t : List UInt8) : Prop := ∀ i : Nat, ¬ (t[i]? = some 13 ∧ t[i + 1]? = some 10)

theorem NoCL.not_end {l s : List UInt8} {b : UInt8} (h : NoCL (l ++ b :: s)) : ¬ (b = 10 ∧ l.getLast? = some 13) := by
  rintro ⟨rfl, hl⟩
  rw [List.getLast?_eq_getElem?] at hl
  have hlen : 0 < l.length := by
    rcases Nat.eq_zero_or_pos l.length with h0 | h0
    · rw [List.eq_nil_of_length_eq_zero h0] at hl; simp at hl
    · exact h0
  apply h (l.length - 1)
  constructor
  · rw [List.getElem?_append_left (by omega)]; exact hl
  · rw [List.getElem?_append_right (by omega)]
    rw [show l.length - 1 + 1 - l.length = 0 by omega]; rfl

theorem run_rest {m : Nat} : ∀ (s l : List UInt8), NoCL (l ++ s) → (l ++ s).length < m → run m l s = ([], l ++ s, false) := by
  intro s
  induction s with
  | nil => intro l _ _; simp [run_nil]
  | cons b s ih =>
    intro l h hm
    have hm' : l.length + 1 < m := by simp at hm; omega
    rw [run_on _ h.not_end hm', ih (l ++ [b]) (by simpa using h) (by simpa using hm)]
    simp

theorem run_dead {m : Nat} : ∀ (s l : List UInt8), NoCL ((l ++ s).take m) → l.length < m → m ≤ (l ++ s).length → run m l s = ([], [], true) := by
  intro s
  induction s with
  | nil => intro l _ h1 h2; simp at h2; omega
  | cons b s ih =>
    intro l h h1 h2
    have hne : ¬ (b = 10 ∧ l.getLast? = some 13) := by
      have : NoCL (l ++ b :: s.take (m - l.length - 1)) := by
        have e : (l ++ b :: s).take m = l ++ b :: s.take (m - l.length - 1) := by
          rw [List.take_append, List.take_of_length_le (by omega), show m - l.length = (m - l.length - 1) + 1 by omega]
          simp
        rw [← e]; exact h
      exact this.not_end
    by_cases hm : m ≤ l.length + 1
    · exact run_dies _ hne hm
    · rw [run_on _ hne (by omega)]
      exact ih (l ++ [b]) (by simpa using h) (by simp; omega) (by simpa using h2)

theorem getLast_prefix {l r a t : List UInt8} (e : l ++ t = a ++ r) (h : l.length = a.length + 1) : l.getLast? = r.head? := by
  rw [List.getLast?_eq_getElem?, h, show a.length + 1 - 1 = a.length by omega]
  have h1 : (l ++ t)[a.length]? = l[a.length]? := List.getElem?_append_left (by omega)
  rw [← h1, e, List.getElem?_append_right (by omega)]
  cases r <;> simp

theorem run_hit {m : Nat} {a r : List UInt8} (ha : NoCL (a ++ [13])) (hm : a.length + 2 ≤ m) : ∀ (s l : List UInt8), l ++ s = a ++ 13 :: 10 :: r → l.length ≤ a.length + 1 → run m l s = (a :: (run m [] r).1, (run m [] r).2) := by
  intro s
  induction s with
  | nil =>
    intro l h h1
    have := congrArg List.length h
    simp at this; omega
  | cons b s ih =>
    intro l h h1
    by_cases hl : l.length = a.length + 1
    · have e1 : l = a ++ [13] := by
        have := congrArg (List.take (a.length + 1)) h
        rw [List.take_append_of_le_length (by omega), List.take_of_length_le (by omega)] at this
        rw [this, List.take_append, List.take_of_length_le (by omega)]; simp
      subst e1
      have e2 : b :: s = 10 :: r := by simpa using h
      obtain ⟨rfl, rfl⟩ : b = 10 ∧ s = r := by simpa using e2
      rw [run_end _ ⟨rfl, by simp⟩]; simp
    · have hlt : l.length < a.length + 1 := by omega
      have hne : ¬ (b = 10 ∧ l.getLast? = some 13) := by
        have e : (l ++ b :: s).take (a.length + 1) = a ++ [13] := by rw [h, List.take_append, List.take_of_length_le (by omega)]; simp
        have : NoCL (l ++ b :: s.take (a.length - l.length)) := by
          have e' : (l ++ b :: s).take (a.length + 1) = l ++ b :: s.take (a.length - l.length) := by
            rw [List.take_append, List.take_of_length_le (by omega), show a.length + 1 - l.length = (a.length - l.length) + 1 by omega]; simp
          rw [← e', e]; exact ha
        exact this.not_end
      rw [run_on _ hne (by omega)]
      exact ih (l ++ [b]) (by simpa using h) (by simp; omega)

/-! ### Out of the shelf's search -/
theorem occ_iff (t : List UInt8) (i : Nat) : Lib.occAt t [13, 10] i = true ↔ t[i]? = some 13 ∧ t[i + 1]? = some 10 := by
  unfold Lib.occAt
  rw [← List.getElem?_drop (i := i) (j := 1), show t[i]? = (t.drop i)[0]? by rw [List.getElem?_drop]; simp]
  generalize t.drop i = u
  match u with
  | [] => simp
  | [x] => simp
  | x :: y :: u =>
    simp only [List.isPrefixOf, Bool.and_true, Bool.and_eq_true, beq_iff_eq, List.getElem?_cons_zero, List.getElem?_cons_succ, Option.some.injEq]
    constructor <;> rintro ⟨h1, h2⟩ <;> exact ⟨h1.symm, h2.symm⟩

theorem noCL_of_index {t : List UInt8} (h : Lib.index t [13, 10] = -1) : NoCL t := by
  rcases Lib.index_spec t [13, 10] with ⟨_, h2⟩ | ⟨i, h1, _⟩
  · intro i hi
    rcases Nat.lt_or_ge t.length i with hlt | hge
    · rw [List.getElem?_eq_none (by omega)] at hi; simp at hi
    · have := h2 i hge
      rw [(occ_iff t i).2 hi] at this; cases this
  · omega

theorem hit_of_index {t : List UInt8} {i : Nat} (h : Lib.index t [13, 10] = i) : NoCL (t.take i ++ [13]) ∧ t = t.take i ++ 13 :: 10 :: t.drop (i + 2) ∧ i + 2 ≤ t.length := by
  rcases Lib.index_spec t [13, 10] with ⟨h1, _⟩ | ⟨j, h1, h2, h3, h4⟩
  · omega
  · obtain rfl : i = j := by omega
    obtain ⟨e1, e2⟩ := (occ_iff t i).1 h3
    have hlt : i + 1 < t.length := by
      rcases Nat.lt_or_ge (i + 1) t.length with h | h
      · exact h
      · rw [List.getElem?_eq_none h] at e2; cases e2
    have g1 : t[i] = 13 := by rw [List.getElem?_eq_getElem (by omega)] at e1; simpa using e1
    have g2 : t[i + 1] = 10 := by rw [List.getElem?_eq_getElem hlt] at e2; simpa using e2
    have ed : t.drop i = 13 :: 10 :: t.drop (i + 2) := by
      rw [List.drop_eq_getElem_cons (by omega), g1, List.drop_eq_getElem_cons hlt, g2]
    refine ⟨?_, ?_, by omega⟩
    · intro j hj
      have hjl : j + 1 < (t.take i ++ [13]).length := by
        rcases Nat.lt_or_ge (j + 1) (t.take i ++ [13]).length with h | h
        · exact h
        · rw [List.getElem?_eq_none h] at hj; simp at hj
      have hjl' : j + 1 < i + 1 := by simp at hjl; omega
      have hji : j < i := by omega
      have e : t.take i ++ [13] = t.take (i + 1) := by rw [List.take_succ_eq_append_getElem (by omega), g1]
      rw [e, List.getElem?_take, List.getElem?_take, if_pos (by omega), if_pos (by omega)] at hj
      have := h4 j hji
      rw [(occ_iff t j).2 hj] at this; cases this
    · conv => lhs; rw [← List.take_append_drop i t, ed]

/-- ONE ROUND OF THE CODE: the first m bytes hold CR LF. -/
theorem run_cut {m i : Nat} {t : List UInt8} (h : Lib.index (t.take m) [13, 10] = i) : run m [] t = (t.take i :: (run m [] (t.drop (i + 2))).1, (run m [] (t.drop (i + 2))).2) := by
  obtain ⟨h1, h2, h3⟩ := hit_of_index h
  have hlm : i + 2 ≤ m := by simp at h3; omega
  have ht : (t.take m).take i = t.take i := by rw [List.take_take, Nat.min_eq_left (by omega)]
  rw [ht] at h1 h2
  have hl : (t.take i).length = i := by simp at h3 ⊢; omega
  have e : t = t.take i ++ 13 :: 10 :: t.drop (i + 2) := by
    have e1 : t.take m ++ t.drop m = t := List.take_append_drop m t
    rw [h2] at e1
    have e2 := congrArg (List.drop (i + 2)) e1
    rw [show (t.take i ++ 13 :: 10 :: (t.take m).drop (i + 2)) ++ t.drop m = (t.take i ++ [13, 10]) ++ ((t.take m).drop (i + 2) ++ t.drop m) by simp, List.drop_append_of_le_length (by simp [hl]), List.drop_of_length_le (by simp [hl])] at e2
    rw [List.nil_append] at e2
    rw [← e2]
    conv => lhs; rw [← e1]
    simp
  exact run_hit h1 (by omega) t [] (by simpa using e) (by simp)

theorem run_none {m : Nat} {t : List UInt8} (h : Lib.index (t.take m) [13, 10] = -1) (hm : t.length < m) : run m [] t = ([], t, false) := by
  have h1 := noCL_of_index h
  rw [List.take_of_length_le (by omega)] at h1
  exact run_rest t [] (by simpa using h1) (by simpa using hm)

theorem run_full {m : Nat} {t : List UInt8} (h : Lib.index (t.take m) [13, 10] = -1) (h0 : 0 < m) (hm : m ≤ t.length) : run m [] t = ([], [], true) :=
  run_dead t [] (by simpa using noCL_of_index h) (by simpa using h0) (by simpa using hm)


section



variable {F : Fence} {n : Nat} {P : Program}

/-- How the body of a round is left: it goes on. -/
def goesOn (R : World → Prop) : Exit → Act → World → Prop
  | .normal, _, W => R W
  | _, _, _ => False

/-- What a step of the law's own, or of the iterator's, may turn: the iterator's box, or a block laid since that holds no cells. -/
def mayTurn (B Bs : Nat) (W : World) (row : Option Nat) : Prop := ∀ r, row = some r → r = Bs ∨ (B ≤ r ∧ ∃ o : Obj, W.heap[r]? = some o ∧ o.isCells = false)
def mayTurnOut (B : Nat) (W : World) (row : Option Nat) : Prop := ∀ r, row = some r → B ≤ r ∧ ∃ o : Obj, W.heap[r]? = some o ∧ o.isCells = false

/-- The iterator's contract: called in any later world, at any loop's yield, with any word J of the caller's that abides the iterator's own steps. -/
def StepsOver {σ χ : Type} (F : Fence) (n : Nat) (P : Program) (gf : Nat) (lb : Array Value) (encs : χ → Array Value) (Bs : Nat) (Nx : σ → χ → σ → Prop) (Fin : σ → Prop) (St : σ → World → Prop) (s0 : σ) (w : World) : Prop :=
  ∀ (l : Nat) (J : σ → World → Prop) (W : World), Below w.heap.size w W →
    (∀ s W1 W2, J s W1 → W1.grownBy W2 (some Bs) → J s W2) →
    (∀ s x s' W1, Nx s x s' → J s W1 → St s' W1 → YieldAt F (n - 1) P l (encs x) W1 fun e W2 => e = .returned (.bool true) ∧ J s' W2 ∧ St s' W2) →
    J s0 W → St s0 W →
    CallsIn F n P gf (#[.func (.yield l) #[] #[]] ++ lb) W fun e W2 => (∃ v, e = .returned v) ∧ ∃ s, Fin s ∧ J s W2 ∧ St s W2

theorem wpIn_rangeFunc_st {σ χ : Type} {g : Operand} {ps : Array Tmp} {assign body : Code} {Q : Exit → Act → World → Prop} {a : Act} {w : World}
    (hro : F.round = none) (h1 : 1 ≤ n) {gf : Nat} {lb : Array Value} (hg : a.eval g = .func (.func gf) #[] lb) (hFg : F.fn gf) (eg : ∀ args w, (callFunc gf args).run P w = .ok (.enter gf args) w)
    {encs : χ → Array Value} {Bs : Nat} {Nx : σ → χ → σ → Prop} {Fin : σ → Prop} {St : σ → World → Prop} {s0 : σ}
    (hseq : StepsOver F (n - 1) P gf lb encs Bs Nx Fin St s0 w) (hBs : Bs < w.heap.size) (hps : ∀ x, (encs x).size = ps.size)
    (hSt : ∀ s W W' row, St s W → W.grownBy W' row → mayTurnOut w.heap.size W row → St s W')
    (I : σ → World → Prop) (hI : ∀ s W W' row, I s W → W.grownBy W' row → mayTurn w.heap.size Bs W row → I s W')
    (h0 : I s0 w) (hS0 : St s0 w) (a₁ : χ → Act)
    (hassign : ∀ (l : Nat) (x : χ) (W : World) (K : Act → World → Prop), K (a₁ x) W →
      assign.wpIn (F.inRound l) (n - 1 - 1) P (Exit.then K (fun _ _ _ => False)) { tmps := (ps.zip (encs x)).foldl (fun t (p, v) => t.setIfInBounds p v) a.tmps, defers := [] } W)
    (hbody : ∀ (l : Nat) (s : σ) (x : χ) (s' : σ) (W : World), Nx s x s' → I s W → St s' W → body.wpIn (F.inRound l) (n - 1 - 1) P (goesOn fun W' => KeepsFrom w.heap.size W W' ∧ I s' W' ∧ St s' W') (a₁ x) W)
    (hdone : ∀ (D : Nat) (s : σ) (W : World), w.heap.size ≤ D → Fin s → I s W → St s W → W.heap[D]? = some (.deferred (some [])) → Q .normal { a with defers := { target := .collected D, args := #[] } :: a.defers } W) :
    (Code.rangeFunc g ps assign body).wpIn F n P Q a w := by
  refine wpIn_rangeFunc ?_
  intro fn hfn
  rw [hro]
  obtain ⟨rec, hrec⟩ : ∃ rec : LoopState → Loop, rec = fun st => { state := st, pending := none, fn, tmps := a.tmps, params := ps, assign, body, defers := w.heap.size } := ⟨_, rfl⟩
  obtain ⟨W1, hW1⟩ : ∃ W1, (w.alloc (.deferred (some []))).alloc (.loop (rec .ready)) = W1 := ⟨_, rfl⟩
  have hg1 : w.grownBy W1 none := by
    rw [← hW1]
    exact ⟨rfl, rfl, rfl, by simp; omega, fun k hk _ => (Below.heap_alloc _ _ k (by simp; omega)).trans (Below.heap_alloc _ _ k hk)⟩
  have hL1 : W1.heap[w.heap.size + 1]? = some (.loop (rec .ready)) := by
    rw [← hW1]; have := World.alloc_heap_new (w.alloc (.deferred (some []))) (.loop (rec .ready)); rwa [World.size_alloc] at this
  have hK1 : W1.heap[w.heap.size]? = some (.deferred (some [])) := by
    rw [← hW1]; exact (Below.heap_alloc _ _ _ (by simp)).trans (World.alloc_heap_new w _)
  have hnone : ∀ {X : World}, mayTurn w.heap.size Bs X none := fun r e => by cases e
  have hb1 : Below w.heap.size w W1 := ⟨hg1.os, hg1.tape, hg1.output, hg1.size, fun k hk => hg1.block k hk (by simp)⟩
  refine ⟨w.heap.size + 1, [{ target := .collected w.heap.size, args := #[] }], W1, { target := .fn (.func gf) lb, args := #[.func (.yield (w.heap.size + 1)) #[] #[]] }, W1, gf,
    #[.func (.yield (w.heap.size + 1)) #[] #[]] ++ lb, W1, ?_, ?_, ?_, ?_, fun _ => h1, ?_⟩
  · rw [← hW1, hrec]; exact run_enterLoop_outer _ _ _ _ _
  · simp only [resolve, hg]
    simp [go_sem]
  · intro f' hf'; simp [Target.leads] at hf'; subst hf'; exact hFg
  · simp [invoke, go_sem, eg]
  · -- a block of the law's own: turned, it leaves the caller's word and the iterator's state
    have turn : ∀ {s : σ} {W : World} {l : Nat} {o o' : Obj}, w.heap.size ≤ l → W.heap[l]? = some o → o.isCells = false → (I s W → I s (W.putObj l o')) ∧ (St s W → St s (W.putObj l o')) := by
      intro s W l o o' hl ho hc
      have ht : mayTurnOut w.heap.size W (some l) := fun r e => by cases e; exact ⟨hl, o, ho, hc⟩
      exact ⟨fun h => hI s W _ (some l) h (grownBy_putObj' W l o') (fun r e => .inr (ht r e)), fun h => hSt s W _ (some l) h (grownBy_putObj' W l o') ht⟩
    refine (hseq (w.heap.size + 1) (fun s W => I s W ∧ W.heap[w.heap.size + 1]? = some (.loop (rec .ready)) ∧ W.heap[w.heap.size]? = some (.deferred (some []))) W1 hb1
      ?_ ?_ ⟨hI _ _ _ none h0 hg1 hnone, hL1, hK1⟩ (hSt _ _ _ none hS0 hg1 (fun r e => by cases e))).mono ?_
    · rintro s A B ⟨hi, hl, hk⟩ hgr
      have hlt := (Array.getElem?_eq_some_iff.1 hl).1
      exact ⟨hI _ _ _ _ hi hgr (fun r e => by cases e; exact .inl rfl), (hgr.block _ hlt (by simp; omega)).trans hl, (hgr.block _ (by omega) (by simp; omega)).trans hk⟩
    · -- one round
      rintro s x s' W hnx ⟨hi, hl, hk⟩ hst
      have hlt : w.heap.size + 1 < W.heap.size := (Array.getElem?_eq_some_iff.1 hl).1
      have hy := run_yield (P := P) (args := encs x) hl (by rw [hrec]; exact hps x)
      rw [hrec] at hy
      refine ⟨fn, _, assign, body, hy, roundIn_of_wpIn hfn (hassign _ x W _ ⟨_, run_beginRound hl (by rw [hrec]), ?_⟩)⟩
      have hl2 : (W.putObj (w.heap.size + 1) (.loop { rec .ready with state := .busy })).heap[w.heap.size + 1]? = some (.loop { rec .ready with state := .busy }) := World.putObj_heap_same hlt
      have hk2 : (W.putObj (w.heap.size + 1) (.loop { rec .ready with state := .busy })).heap[w.heap.size]? = some (.deferred (some [])) := (World.putObj_heap_other (by omega)).trans hk
      obtain ⟨tI, tS⟩ := turn (s := s) (o' := .loop { rec .ready with state := .busy }) (Nat.le_succ _) hl rfl
      obtain ⟨_, tS'⟩ := turn (s := s') (o' := .loop { rec .ready with state := .busy }) (Nat.le_succ _) hl rfl
      refine wpIn_mono (hbody _ s x s' _ hnx (tI hi) (tS' hst)) ?_
      rintro e a3 W3 hp
      cases e with
      | normal =>
        obtain ⟨hk3, hi3, hs3⟩ := hp
        have hl3 := hk3.same _ _ (Nat.le_succ _) hl2 rfl
        have hend := run_endRound (P := P) none hl3
        obtain ⟨tI3, tS3⟩ := turn (s := s') (o' := .loop (rec .ready)) (Nat.le_succ _) hl3 rfl
        refine ⟨_, _, hend, rfl, ?_, ?_⟩
        · rw [hrec] at hl3 tI3 ⊢
          exact ⟨tI3 hi3, World.putObj_heap_same (Array.getElem?_eq_some_iff.1 hl3).1, (World.putObj_heap_other (by omega)).trans (hk3.same _ _ (Nat.le_refl _) hk2 rfl)⟩
        · rw [hrec] at tS3 ⊢
          exact tS3 hs3
      | ret => exact hp.elim
      | exit id => exact hp.elim
      | goto t => exact hp.elim
      | panic ch => exact hp.elim
      | outgrown => exact hp.elim
    · -- behind the iterator
      rintro e W2 ⟨⟨v, rfl⟩, s, hf, ⟨hi, hl, hk⟩, hs⟩
      obtain ⟨tI, tS⟩ := turn (s := s) (o' := .loop { rec .ready with state := .exhausted }) (Nat.le_succ _) hl rfl
      refine ⟨none, _, by have := run_endLoop (P := P) hl (by rw [hrec]; simp); rw [hrec] at this; exact this, ?_⟩
      have := hdone w.heap.size s _ (Nat.le_refl _) hf (tI hi) (tS hs) ((World.putObj_heap_other (by omega)).trans hk)
      rw [hrec] at this
      exact this


end
end Go.Proofs.YtkffdhdhjfbhjaaDoor
