/-
  Addresses over lists of bytes: atoms, quoted local parts, the last @, what an address's parts are, paths, texts of mails; what follows of these.
  Plain functions and lemmas; no program.
  What is asked of a text byte by byte, with a state: atoms, what stands within quotes, a mail's text, an Envid. Plain functions and lemmas; no program.
  Texts sorted, each once: by slices.Sort and slices.Compact, and by putting one after the other in its place. Plain lemmas; no program.
-/
import Derived.Test.YtbmjmiioobgbfaaGreatDoorNPureM
import Derived.Lib.SlicesCompact
namespace Go.Proofs.YtbmjmiioobgbfaaGreatDoor
set_option linter.unusedSimpArgs false
set_option linter.unusedVariables false

def alnC (c : UInt8) : Bool := (97 ≤ c && c ≤ 122) || (65 ≤ c && c ≤ 90) || (48 ≤ c && c ≤ 57)
/-- The signs of an atom. -/
def signsL : List UInt8 := [33, 35, 36, 37, 38, 39, 42, 43, 45, 47, 61, 63, 94, 95, 96, 123, 124, 125, 126]
def signC (c : UInt8) : Bool := alnC c || signsL.contains c
def grC (c : UInt8) : Bool := 32 ≤ c && c ≤ 126

/-- Atoms, byte by byte: the state is 'the byte ahead was an atom's'. -/
def atomsF : Bool → List UInt8 → Bool
  | st, [] => st
  | st, c :: t => (signC c || (st && c == 46)) && atomsF (signC c) t
def atomsL (s : List UInt8) : Bool := atomsF false s

/-- What stands within the quotes, byte by byte: the state is 'this byte is marked'. -/
def quotF : Bool → List UInt8 → Bool
  | m, [] => !m
  | m, c :: t => (grC c && (m || c != 34)) && quotF (c == 92 && !m) t
/-- What stands behind a first quote, and ahead of a last one. -/
def quotedL (s : List UInt8) : Bool := s.head? == some 34 && decide (2 ≤ s.length) && s.getLast? == some 34 && quotF false (s.tail.dropLast)

def localL (s : List UInt8) : Bool := decide (s.length ≤ 64) && (atomsL s || quotedL s)

/-- What stands ahead of the last @, and behind it. -/
def cutA : List UInt8 → Option (List UInt8 × List UInt8)
  | [] => none
  | c :: t => match cutA t with
    | some (a, b) => some (c :: a, b)
    | none => if c = 64 then some ([], t) else none

def parseL (s : List UInt8) : Option (List UInt8 × List UInt8) := match cutA s with
  | none => none
  | some (a, b) => if localL a && !(s.getLast? == some 46) then (foldL b).map fun d => (a, d) else none
def amayL (s : List UInt8) : Bool := (parseL s).isSome
def showL (a b : List UInt8) : List UInt8 := if parseL (a ++ 64 :: b) = some (a, b) then a ++ 64 :: b else []
def sameL (a b : List UInt8) : Bool := (parseL a).isSome && parseL a == parseL b
def endL (s : List UInt8) : Bool := s.isEmpty || amayL s
def pathL (s : List UInt8) : List UInt8 := if endL s then 60 :: (s ++ [62]) else []
def unpathL (s : List UInt8) : Option (List UInt8) := if s.head? == some 60 && decide (2 ≤ s.length) && s.getLast? == some 62 && endL s.tail.dropLast then some s.tail.dropLast else none

/-! ### The last @ -/
theorem cutA_none : ∀ {s : List UInt8}, cutA s = none ↔ ∀ c ∈ s, c ≠ 64
  | [] => by simp [cutA]
  | c :: t => by
    have ih := cutA_none (s := t)
    unfold cutA
    cases h : cutA t with
    | some p =>
      obtain ⟨a, b⟩ := p
      simp only [reduceCtorEq, false_iff]
      intro hh
      rw [ih.2 fun x hx => hh x (by simp [hx])] at h
      cases h
    | none =>
      have := ih.1 h
      by_cases hc : c = 64
      · simp [hc]
      · simp [hc]; exact this
theorem cutA_is : ∀ {a b : List UInt8}, (∀ c ∈ b, c ≠ 64) → cutA (a ++ 64 :: b) = some (a, b)
  | [], b, h => by
    show cutA (64 :: b) = _
    unfold cutA
    rw [cutA_none.2 h]
    rfl
  | x :: a, b, h => by
    show cutA (x :: (a ++ 64 :: b)) = _
    unfold cutA
    rw [cutA_is h]
theorem cutA_of : ∀ {s a b : List UInt8}, cutA s = some (a, b) → s = a ++ 64 :: b ∧ ∀ c ∈ b, c ≠ 64
  | [], a, b, h => by simp [cutA] at h
  | c :: t, a, b, h => by
    unfold cutA at h
    cases ht : cutA t with
    | some p =>
      obtain ⟨a', b'⟩ := p
      rw [ht] at h
      simp only [Option.some.injEq, Prod.mk.injEq] at h
      obtain ⟨rfl, rfl⟩ := h
      obtain ⟨h1, h2⟩ := cutA_of ht
      exact ⟨by rw [h1]; rfl, h2⟩
    | none =>
      rw [ht] at h
      by_cases hc : c = 64
      · simp only [hc, if_true, Option.some.injEq, Prod.mk.injEq] at h
        obtain ⟨rfl, rfl⟩ := h
        exact ⟨by rw [hc]; rfl, cutA_none.1 ht⟩
      · simp [hc] at h
theorem cutA_some {s a b : List UInt8} : cutA s = some (a, b) ↔ s = a ++ 64 :: b ∧ ∀ c ∈ b, c ≠ 64 :=
  ⟨cutA_of, fun ⟨h1, h2⟩ => h1 ▸ cutA_is h2⟩

/-! ### What is parsed -/
theorem parse_some {s l d : List UInt8} : parseL s = some (l, d) ↔ ∃ b, cutA s = some (l, b) ∧ localL l = true ∧ ¬ s.getLast? = some 46 ∧ foldL b = some d := by
  unfold parseL
  cases h : cutA s with
  | none => simp
  | some p =>
    obtain ⟨a, b⟩ := p
    constructor
    · intro e
      simp only at e
      split at e
      · rename_i hh
        simp only [Bool.and_eq_true, Bool.not_eq_true', beq_eq_false_iff_ne] at hh
        cases hf : foldL b with
        | none => rw [hf] at e; cases e
        | some x =>
          rw [hf] at e
          simp only [Option.map_some, Option.some.injEq, Prod.mk.injEq] at e
          obtain ⟨rfl, rfl⟩ := e
          exact ⟨b, rfl, hh.1, hh.2, hf⟩
      · cases e
    · rintro ⟨b', e, h1, h2, h3⟩
      simp only [Option.some.injEq, Prod.mk.injEq] at e
      obtain ⟨rfl, rfl⟩ := e
      simp [h1, h2, h3]

theorem localL_ne {l : List UInt8} (h : localL l = true) : l ≠ [] ∧ l.length ≤ 64 := by
  unfold localL at h
  simp only [Bool.and_eq_true, decide_eq_true_eq] at h
  refine ⟨?_, h.1⟩
  rintro rfl
  exact absurd h.2 (by decide)

theorem may_no_at {d : List UInt8} (h : mayL d = true) : ∀ c ∈ d, c ≠ 64 := by
  intro c hc
  obtain ⟨_, h2, _⟩ := may_iff.1 h
  rcases mem_cutD d hc with rfl | ⟨l, hl, hcl⟩
  · decide
  · have := (isLab_all (h2 l hl)).2.2 c hcl
    rintro rfl
    exact absurd this (by decide)

theorem may_last {d : List UInt8} (h : mayL d = true) : ¬ d.getLast? = some 46 := by
  intro hl
  have := may_undot h
  unfold undot at this
  rw [if_pos hl] at this
  have h1 := congrArg List.length this
  rw [List.length_dropLast] at h1
  cases d with
  | nil => simp at hl
  | cons c t => simp at h1

theorem last_app (a b : List UInt8) (hb : b ≠ []) : (a ++ 64 :: b).getLast? = b.getLast? := by
  cases b with
  | nil => exact absurd rfl hb
  | cons x t => rw [List.getLast?_append, List.getLast?_cons_cons]; cases h : (x :: t).getLast? with
    | none => simp at h
    | some z => simp

theorem may_ne {d : List UInt8} (h : mayL d = true) : d ≠ [] := by rintro rfl; exact absurd h (by decide)

/-- Of a local part, and a name, comes that address. -/
theorem parse_mk {l d : List UInt8} (hl : localL l = true) (hd : mayL d = true) : parseL (l ++ 64 :: d) = some (l, d) :=
  parse_some.2 ⟨d, cutA_some.2 ⟨rfl, may_no_at hd⟩, hl, by rw [last_app _ _ (may_ne hd)]; exact may_last hd, fold_may hd⟩
theorem parse_is {s l d : List UInt8} (h : parseL s = some (l, d)) : localL l = true ∧ mayL d = true := by
  obtain ⟨b, _, h2, _, h4⟩ := parse_some.1 h
  exact ⟨h2, fold_is h4⟩
theorem parse_len {s l d : List UInt8} (h : parseL s = some (l, d)) : s.length = l.length + 1 + d.length ∧ 1 ≤ l.length ∧ l.length ≤ 64 ∧ d.length ≤ 253 := by
  obtain ⟨b, h1, h2, h3, h4⟩ := parse_some.1 h
  obtain ⟨rfl, hb⟩ := cutA_some.1 h1
  have hm := fold_is h4
  have hn := localL_ne h2
  have hbn : b ≠ [] := by rintro rfl; rw [show foldL [] = none by decide] at h4; cases h4
  rw [last_app _ _ hbn] at h3
  have hu : undot b = b := by unfold undot; rw [if_neg h3]
  unfold foldL at h4
  split at h4
  · simp only [Option.some.injEq] at h4
    have := may_len hm
    have hl := List.length_pos_iff.2 hn.1
    rw [hu] at h4
    have e := congrArg List.length h4
    rw [List.length_map] at e
    simp
    omega
  · cases h4
theorem parse_show {s l d : List UInt8} (h : parseL s = some (l, d)) : parseL (l ++ 64 :: d) = some (l, d) := by
  obtain ⟨h1, h2⟩ := parse_is h
  exact parse_mk h1 h2
theorem show_eq {s l d : List UInt8} (h : parseL s = some (l, d)) : showL l d = l ++ 64 :: d := by unfold showL; rw [if_pos (parse_show h)]
theorem same_show {s l d : List UInt8} (h : parseL s = some (l, d)) : sameL s (showL l d) = true := by
  unfold sameL; rw [show_eq h, parse_show h, h]; simp
theorem same_self (s : List UInt8) : sameL s s = amayL s := by unfold sameL amayL; simp
theorem same_comm (s t : List UInt8) : sameL s t = sameL t s := by
  unfold sameL
  cases h1 : parseL s with
  | none => cases h2 : parseL t <;> simp
  | some p => cases h2 : parseL t with
    | none => simp
    | some q =>
      rw [Bool.eq_iff_iff]
      simp only [Option.isSome_some, Bool.true_and, beq_iff_eq]
      exact eq_comm
theorem same_trans {s t u : List UInt8} (h1 : sameL s t = true) (h2 : sameL t u = true) : sameL s u = true := by
  unfold sameL at h1 h2 ⊢
  simp only [Bool.and_eq_true, beq_iff_eq] at h1 h2 ⊢
  exact ⟨h1.1, h1.2.trans h2.2⟩

/-- Show tells what it was given. -/
theorem show_ne {a b : List UInt8} (h : showL a b ≠ []) : parseL (a ++ 64 :: b) = some (a, b) ∧ showL a b = a ++ 64 :: b := by
  unfold showL at h ⊢
  by_cases hp : parseL (a ++ 64 :: b) = some (a, b)
  · rw [if_pos hp]; exact ⟨hp, rfl⟩
  · rw [if_neg hp] at h; exact absurd rfl h

theorem may_nil : amayL [] = false := by decide
theorem path_ne (s : List UInt8) : (pathL s = []) ↔ endL s = false := by
  unfold pathL
  cases endL s <;> simp
theorem unpath_path {s : List UInt8} (h : endL s = true) : unpathL (60 :: (s ++ [62])) = some s := by
  unfold unpathL
  rw [if_pos]
  · simp
  · simp [h, List.getLast?_cons]
theorem unpath_nil : unpathL [] = none := by decide
theorem unpath_some {s q : List UInt8} (h : unpathL s = some q) : endL q = true ∧ s = 60 :: (q ++ [62]) := by
  unfold unpathL at h
  split at h
  · rename_i hh
    simp only [Bool.and_eq_true, decide_eq_true_eq, beq_iff_eq, Option.some.injEq] at hh h
    obtain ⟨⟨⟨h1, h2⟩, h3⟩, h4⟩ := hh
    subst h
    refine ⟨h4, ?_⟩
    cases s with
    | nil => simp at h2
    | cons c t =>
      simp only [List.head?_cons, Option.some.injEq, List.tail_cons] at h1 ⊢
      subst h1
      have ht : t ≠ [] := by rintro rfl; simp at h2
      rw [List.getLast?_cons] at h3
      have h5 : t.getLast? = some 62 := by
        cases hg : t.getLast? with
        | none => rw [List.getLast?_eq_none_iff] at hg; exact absurd hg ht
        | some z => rw [hg] at h3; simpa using h3
      obtain ⟨u, rfl⟩ := List.getLast?_eq_some_iff.1 h5
      simp
  · cases h

/-! ### Great letters behind the last @ -/
theorem LikeL.no_at : ∀ {a b : List UInt8}, LikeL a b → (∀ c ∈ b, c ≠ 64) → ∀ c ∈ a, c ≠ 64
  | [], [], _, _ => by simp
  | x :: xs, c :: cs, h, hb => by
    intro y hy
    rcases List.mem_cons.1 hy with rfl | hy
    · rcases h.1 with rfl | ⟨h1, h2, rfl⟩
      · exact hb _ (by simp)
      · have key : ∀ n : Fin 256, 97 ≤ UInt8.ofNat n → UInt8.ofNat n ≤ 122 → UInt8.ofNat n - 32 ≠ 64 := by decide +kernel
        have := key ⟨c.toNat, c.toNat_lt⟩
        simp only [UInt8.ofNat_toNat] at this
        exact this h1 h2
    · exact LikeL.no_at h.2 (fun z hz => hb z (by simp [hz])) y hy
  | [], _ :: _, h, _ => h.elim
  | _ :: _, [], h, _ => h.elim
theorem LikeL.ne : ∀ {a b : List UInt8}, LikeL a b → (a = [] ↔ b = [])
  | [], [], _ => by simp
  | _ :: _, _ :: _, _ => by simp
  | [], _ :: _, h => h.elim
  | _ :: _, [], h => h.elim
/-- With great letters in what stands behind the last @ the same is parsed. -/
theorem parse_like {a b b' : List UInt8} (hb : ∀ c ∈ b, c ≠ 64) (h : LikeL b' b) : parseL (a ++ 64 :: b') = parseL (a ++ 64 :: b) := by
  have h1 : cutA (a ++ 64 :: b) = some (a, b) := cutA_some.2 ⟨rfl, hb⟩
  have h2 : cutA (a ++ 64 :: b') = some (a, b') := cutA_some.2 ⟨rfl, h.no_at hb⟩
  have h3 : (a ++ 64 :: b').getLast? = some 46 ↔ (a ++ 64 :: b).getLast? = some 46 := by
    by_cases e : b = []
    · have e' := h.ne.2 e
      rw [e, e']
    · rw [last_app _ _ e, last_app _ _ (fun e' => e (h.ne.1 e'))]
      exact h.last_.1
  have h4 : ((a ++ 64 :: b').getLast? == some 46) = ((a ++ 64 :: b).getLast? == some 46) := by
    rw [Bool.eq_iff_iff, beq_iff_eq, beq_iff_eq]; exact h3
  unfold parseL
  rw [h1, h2]
  simp only [h.fold, h4]
/-- Of a text without an @ nothing is parsed. -/
theorem parse_no_at {s : List UInt8} (h : ∀ c ∈ s, c ≠ 64) : parseL s = none := by unfold parseL; rw [cutA_none.2 h]
end Go.Proofs.YtbmjmiioobgbfaaGreatDoor

namespace Go.Proofs.YtbmjmiioobgbfaaGreatDoor
set_option linter.unusedSimpArgs false
set_option linter.unusedVariables false

/-- All bytes fit, asked one by one up to the first that does not; and the state then. -/
def runF {σ : Type} (ok : σ → UInt8 → Bool) (nx : σ → UInt8 → σ) : σ → List UInt8 → Bool × σ
  | st, [] => (true, st)
  | st, c :: t => if ok st c then runF ok nx (nx st c) t else (false, nx st c)

theorem runF_true {σ : Type} {ok : σ → UInt8 → Bool} {nx : σ → UInt8 → σ} {st : σ} {c : UInt8} {t : List UInt8} (h : ok st c = true) : runF ok nx st (c :: t) = runF ok nx (nx st c) t := by
  show (if ok st c then _ else _) = _
  rw [if_pos h]
theorem runF_false {σ : Type} {ok : σ → UInt8 → Bool} {nx : σ → UInt8 → σ} {st : σ} {c : UInt8} {t : List UInt8} (h : ok st c = false) : runF ok nx st (c :: t) = (false, nx st c) := by
  show (if ok st c then _ else _) = _
  rw [if_neg (by rw [h]; simp)]

def okA (st : Bool) (c : UInt8) : Bool := signC c || (st && c == 46)
def nxA (_ : Bool) (c : UInt8) : Bool := signC c
theorem atomsF_run : ∀ (st : Bool) (l : List UInt8), atomsF st l = ((runF okA nxA st l).1 && (runF okA nxA st l).2)
  | st, [] => by simp [atomsF, runF]
  | st, c :: t => by
    have ih := atomsF_run (signC c) t
    unfold atomsF
    cases h : okA st c with
    | true => rw [runF_true h, show (signC c || st && c == 46) = true from h, show nxA st c = signC c from rfl]; simpa using ih
    | false => rw [runF_false h, show (signC c || st && c == 46) = false from h]; rfl

def okQ (m : Bool) (c : UInt8) : Bool := grC c && (m || c != 34)
def nxQ (m : Bool) (c : UInt8) : Bool := c == 92 && !m
theorem quotF_run : ∀ (st : Bool) (l : List UInt8), quotF st l = ((runF okQ nxQ st l).1 && !(runF okQ nxQ st l).2)
  | st, [] => by simp [quotF, runF]
  | st, c :: t => by
    have ih := quotF_run (c == 92 && !st) t
    unfold quotF
    cases h : okQ st c with
    | true => rw [runF_true h, show (grC c && (st || c != 34)) = true from h, show nxQ st c = (c == 92 && !st) from rfl]; simpa using ih
    | false => rw [runF_false h, show (grC c && (st || c != 34)) = false from h]; rfl

def okE (_ : Unit) (c : UInt8) : Bool := c == 45 || alnC c
def nxE (_ : Unit) (_ : UInt8) : Unit := ()
def envidL (s : List UInt8) : Bool := decide (s.length ≤ 32) && s.all fun c => c == 45 || alnC c
theorem runE : ∀ (l : List UInt8), (runF okE nxE () l).1 = l.all fun c => c == 45 || alnC c
  | [] => rfl
  | c :: t => by
    have ih := runE t
    cases h : okE () c with
    | true => rw [runF_true h, List.all_cons, show (c == 45 || alnC c) = true from h]; simpa using ih
    | false => rw [runF_false h, List.all_cons, show (c == 45 || alnC c) = false from h]; rfl

/-- A mail's text: how many bytes of the line, and whether its CR has come. -/
def okT (st : Nat × Bool) (c : UInt8) : Bool := if 512 < st.1 + 1 then false else if st.2 then c == 10 else if c == 13 then true else c == 9 || grC c
def nxT (st : Nat × Bool) (c : UInt8) : Nat × Bool := if 512 < st.1 + 1 then (st.1 + 1, st.2) else if st.2 then (0, false) else if c == 13 then (st.1 + 1, true) else (st.1 + 1, false)
def textF (st : Nat × Bool) (l : List UInt8) : Bool := (runF okT nxT st l).1 && (runF okT nxT st l).2.1 == 0
def mtextL (s : List UInt8) : Bool := textF (0, false) s

theorem textF_nil (st : Nat × Bool) : textF st [] = (st.1 == 0) := by simp [textF, runF]
theorem textF_ok {st : Nat × Bool} {c : UInt8} {t : List UInt8} (h : okT st c = true) : textF st (c :: t) = textF (nxT st c) t := by unfold textF; rw [runF_true h]
theorem textF_no {st : Nat × Bool} {c : UInt8} {t : List UInt8} (h : okT st c = false) : textF st (c :: t) = false := by unfold textF; rw [runF_false h]; rfl
theorem textF_long {n : Nat} {e : Bool} (h : 512 ≤ n) (c : UInt8) (t : List UInt8) : textF (n, e) (c :: t) = false := textF_no (by unfold okT; rw [if_pos (by simp; omega)])
/-- A CR, and nothing behind it. -/
theorem textF_cr_end {n : Nat} : textF (n, false) [13] = false := by
  by_cases h : 512 ≤ n
  · exact textF_long h _ _
  · rw [textF_ok (by unfold okT; rw [if_neg (by simp; omega)]; rfl), textF_nil]
    unfold nxT; rw [if_neg (by simp; omega)]; simp
theorem textF_cr {n : Nat} {d : UInt8} {t : List UInt8} : textF (n, false) (13 :: d :: t) = (decide (n + 1 ≤ 511) && d == 10 && textF (0, false) t) := by
  by_cases h : 512 ≤ n
  · rw [textF_long h, decide_eq_false (by omega)]; rfl
  have e1 : nxT (n, false) 13 = (n + 1, true) := by unfold nxT; rw [if_neg (by simp; omega)]; rfl
  rw [textF_ok (by unfold okT; rw [if_neg (by simp; omega)]; rfl), e1]
  by_cases h2 : 512 ≤ n + 1
  · rw [textF_long h2, decide_eq_false (by omega)]; rfl
  rw [decide_eq_true (by omega)]
  have e2 : okT (n + 1, true) d = (d == 10) := by unfold okT; rw [if_neg (by simp; omega)]; rfl
  cases hd : (d == 10) with
  | true =>
    rw [textF_ok (by rw [e2, hd])]
    have e3 : nxT (n + 1, true) d = (0, false) := by unfold nxT; rw [if_neg (by simp; omega)]; rfl
    rw [e3]; simp
  | false => rw [textF_no (by rw [e2, hd])]; rfl
theorem textF_other {n : Nat} {c : UInt8} {t : List UInt8} (hc : c ≠ 13) : textF (n, false) (c :: t) = (decide (n + 1 ≤ 512) && (c == 9 || grC c) && textF (n + 1, false) t) := by
  by_cases h : 512 ≤ n
  · rw [textF_long h, decide_eq_false (by omega)]; rfl
  rw [decide_eq_true (by omega)]
  have h13 : (c == 13) = false := by simpa using hc
  have e1 : okT (n, false) c = (c == 9 || grC c) := by unfold okT; rw [if_neg (by simp; omega)]; simp [h13]
  have e2 : nxT (n, false) c = (n + 1, false) := by unfold nxT; rw [if_neg (by simp; omega)]; simp [h13]
  cases hk : (c == 9 || grC c) with
  | true => rw [textF_ok (by rw [e1, hk]), e2]; simp
  | false => rw [textF_no (by rw [e1, hk])]; rfl

/-- Ahead of what stands behind a line's end the text may be, too. -/
theorem textF_front : ∀ {a : List UInt8} {st : Nat × Bool} {b : List UInt8}, textF st (a ++ 10 :: b) = true → textF st (a ++ [10]) = true ∧ textF (0, false) b = true
  | [], (n, e), b, h => by
    show textF (n, e) [10] = true ∧ _
    have h' : textF (n, e) (10 :: b) = true := h
    cases hk : okT (n, e) 10 with
    | false => rw [textF_no hk] at h'; cases h'
    | true =>
      rw [textF_ok hk] at h' ⊢
      have e3 : nxT (n, e) 10 = (0, false) := by
        unfold okT at hk
        unfold nxT
        by_cases h1 : 512 < n + 1
        · simp [h1] at hk
        · cases e with
          | true => simp [h1]
          | false => exfalso; simp [h1] at hk; exact absurd hk (by decide)
      rw [e3] at h' ⊢
      exact ⟨by rw [textF_nil]; rfl, h'⟩
  | x :: a, st, b, h => by
    have h' : textF st (x :: (a ++ 10 :: b)) = true := h
    show textF st (x :: (a ++ [10])) = true ∧ _
    cases hk : okT st x with
    | false => rw [textF_no hk] at h'; cases h'
    | true =>
      rw [textF_ok hk] at h' ⊢
      exact textF_front h'
theorem mtext_front {a b : List UInt8} (h : mtextL (a ++ 10 :: b) = true) : mtextL (a ++ [10]) = true := (textF_front h).1
theorem mtext_nil : mtextL [] = true := by decide
end Go.Proofs.YtbmjmiioobgbfaaGreatDoor

namespace Go.Proofs.YtbmjmiioobgbfaaGreatDoor
set_option linter.unusedSimpArgs false
set_option linter.unusedVariables false
open Go Go.Lib

abbrev TX := List UInt8
def sortS (l : List TX) : List TX := l.mergeSort fun x y => decide (x ≤ y)
def uniqS (l : List TX) : List TX := Lib.compact (sortS l)

theorem lt_ne {x y : TX} (h : x ≤ y) (hn : x ≠ y) : x < y := by
  cases h1 : decide (x < y) with
  | true => exact of_decide_eq_true h1
  | false => exact absurd (List.le_antisymm h (List.not_lt.1 (of_decide_eq_false h1))) hn

theorem sort_perm (l : List TX) : (sortS l).Perm l := List.mergeSort_perm _ _
theorem sort_le (l : List TX) : (sortS l).Pairwise (· ≤ ·) := by
  have := List.pairwise_mergeSort (le := fun x y : TX => decide (x ≤ y)) (fun a b c h1 h2 => decide_eq_true (List.le_trans (of_decide_eq_true h1) (of_decide_eq_true h2)))
    (fun a b => by rcases List.le_total a b with h | h <;> simp [h]) l
  exact this.imp fun h => of_decide_eq_true h
theorem sort_len (l : List TX) : (sortS l).length = l.length := (sort_perm l).length_eq

theorem bang (d : List TX) {m : Nat} (h : m < d.length) : d.toArray[m]! = d[m] := by simp [getElem!_pos, h]

/-- Of the first m of a sorted list: they rise, they are those, and the last one is the last one. -/
theorem upTo_is {d : List TX} (hd : d.Pairwise (· ≤ ·)) : ∀ m, m ≤ d.length → (compactUpTo d.toArray m).Pairwise (· < ·) ∧ (∀ x, x ∈ compactUpTo d.toArray m ↔ x ∈ d.take m) ∧ ∀ (h : 0 < m) (_ : m ≤ d.length), ∀ x ∈ compactUpTo d.toArray m, x ≤ d[m - 1]
  | 0, _ => ⟨by simp [compactUpTo], by simp [compactUpTo], fun h => absurd h (by omega)⟩
  | m + 1, hm => by
    obtain ⟨h1, h2, h3⟩ := upTo_is hd m (by omega)
    have hml : m < d.length := by omega
    rw [compactUpTo_succ]
    have hk : ∀ x ∈ compactUpTo d.toArray m, x ≤ d[m] := by
      intro x hx
      have := (h2 x).1 hx
      obtain ⟨j, hj, rfl⟩ := List.getElem_of_mem this
      rw [List.getElem_take]
      rw [List.length_take] at hj
      exact List.pairwise_iff_getElem.1 hd j m (by omega) hml (by omega)
    by_cases hp : keeps d.toArray m = true
    · rw [if_pos hp, bang d hml]
      have hlt : ∀ x ∈ compactUpTo d.toArray m, x < d[m] := by
        intro x hx
        refine lt_ne (hk x hx) ?_
        rintro rfl
        by_cases h0 : m = 0
        · subst h0; simp [compactUpTo] at hx
        · have e1 := h3 (by omega) (by omega) _ hx
          have e2 : d[m - 1] ≤ d[m] := List.pairwise_iff_getElem.1 hd (m - 1) m (by omega) hml (by omega)
          have e3 := List.le_antisymm e1 e2
          unfold keeps at hp
          rw [bang d hml, bang d (show m - 1 < d.length by omega)] at hp
          have := of_decide_eq_true hp
          rcases this with h | h
          · exact h0 h
          · exact h e3
      refine ⟨List.pairwise_append.2 ⟨h1, List.pairwise_singleton _ _, fun a ha b hb => ?_⟩, fun x => ?_, fun _ _ x hx => ?_⟩
      · obtain rfl := List.mem_singleton.1 hb
        exact hlt a ha
      · rw [List.mem_append, h2, List.take_succ_eq_append_getElem hml, List.mem_append]
      · show x ≤ d[m]
        rcases List.mem_append.1 hx with hx | hx
        · exact hk x hx
        · obtain rfl := List.mem_singleton.1 hx
          exact List.le_refl _
    · rw [if_neg hp, List.append_nil]
      refine ⟨h1, fun x => ?_, fun _ _ x hx => hk x hx⟩
      rw [h2, List.take_succ_eq_append_getElem hml, List.mem_append]
      constructor
      · exact .inl
      · rintro (h | h)
        · exact h
        · obtain rfl := List.mem_singleton.1 h
          unfold keeps at hp
          rw [decide_eq_true_eq] at hp
          have h0 : 0 < m := by omega
          have he : d[m] = d[m - 1] := by
            have : ¬ d.toArray[m]! ≠ d.toArray[m - 1]! := fun hh => hp (.inr hh)
            rw [bang d hml, bang d (show m - 1 < d.length by omega)] at this
            exact Decidable.not_not.1 this
          rw [he, List.mem_take_iff_getElem]
          exact ⟨m - 1, by omega, rfl⟩

theorem compact_rises {d : List TX} (hd : d.Pairwise (· ≤ ·)) : (Lib.compact d).Pairwise (· < ·) := (upTo_is hd d.length (Nat.le_refl _)).1
theorem compact_mem {d : List TX} (hd : d.Pairwise (· ≤ ·)) (x : TX) : x ∈ Lib.compact d ↔ x ∈ d := by
  have := (upTo_is hd d.length (Nat.le_refl _)).2.1 x
  rwa [List.take_length] at this
theorem uniq_rises (l : List TX) : (uniqS l).Pairwise (· < ·) := compact_rises (sort_le l)
theorem uniq_mem (l : List TX) (x : TX) : x ∈ uniqS l ↔ x ∈ l := (compact_mem (sort_le l) x).trans (sort_perm l).mem_iff

theorem rises_nodup {l : List TX} (h : l.Pairwise (· < ·)) : l.Nodup := h.imp fun {a b} hab e => by subst e; exact List.lt_irrefl a hab
/-- Two lists that rise, of the same, are the same. -/
theorem rises_eq {a b : List TX} (ha : a.Pairwise (· < ·)) (hb : b.Pairwise (· < ·)) (h : ∀ x, x ∈ a ↔ x ∈ b) : a = b :=
  List.Perm.eq_of_pairwise (le := (· < ·)) (fun x _ _ _ h1 h2 => absurd (List.lt_trans h1 h2) (List.lt_irrefl x)) ha hb ((List.perm_ext_iff_of_nodup (rises_nodup ha) (rises_nodup hb)).2 h)

theorem compact_len_le (l : List TX) : (Lib.compact l).length ≤ l.length := by
  unfold Lib.compact compactUpTo
  rw [List.length_map]
  have := List.length_filter_le (keeps l.toArray) (List.range l.length)
  simpa using this
/-- They are as many as they were just if no two are the same. -/
theorem uniq_len (l : List TX) : (uniqS l).length = l.length ↔ l.Nodup := by
  constructor
  · intro h
    have h1 : (Lib.compact (sortS l)).length = (sortS l).length := by rw [sort_len]; exact h
    have h2 : Lib.compact (sortS l) = sortS l := by
      refine Lib.compact_all _ fun j hj => ?_
      unfold Lib.compact compactUpTo at h1
      rw [List.length_map] at h1
      have h3 : ((List.range (sortS l).length).filter (keeps (sortS l).toArray)).length = (List.range (sortS l).length).length := by rw [h1, List.length_range]
      exact List.length_filter_eq_length_iff.1 h3 j (List.mem_range.2 hj)
    have h3 := rises_nodup (uniq_rises l)
    unfold uniqS at h3
    rw [h2] at h3
    exact (sort_perm l).nodup_iff.1 h3
  · intro h
    have hp : (uniqS l).Perm l := (List.perm_ext_iff_of_nodup (rises_nodup (uniq_rises l)) h).2 (uniq_mem l)
    exact hp.length_eq

/-! ### One after the other put in its place -/
def placeS (out : List TX) (d : TX) : Nat := (out.takeWhile fun x => decide (x < d)).length
def putS (out : List TX) (d : TX) : List TX := if out[placeS out d]? = some d then out else out.take (placeS out d) ++ d :: out.drop (placeS out d)

theorem place_le (out : List TX) (d : TX) : placeS out d ≤ out.length := (List.takeWhile_sublist _).length_le
theorem place_lt {out : List TX} {d : TX} {j : Nat} (hj : j < placeS out d) (hl : j < out.length) : out[j] < d := by
  have h1 : out.takeWhile (fun x => decide (x < d)) = out.take (placeS out d) := (List.prefix_iff_eq_take.1 (List.takeWhile_prefix _))
  have h2 : out[j] ∈ out.takeWhile (fun x => decide (x < d)) := by rw [h1, List.mem_take_iff_getElem]; exact ⟨j, by omega, rfl⟩
  exact of_decide_eq_true (List.all_eq_true.1 (List.all_takeWhile (p := fun x => decide (x < d)) (l := out)) _ h2)
theorem place_ge {out : List TX} {d : TX} (hl : placeS out d < out.length) : ¬ out[placeS out d] < d := by
  intro h
  induction out with
  | nil => simp at hl
  | cons x t ih =>
    by_cases hx : x < d
    · have e : placeS (x :: t) d = placeS t d + 1 := by unfold placeS; simp [hx]
      simp only [e, List.getElem_cons_succ] at h
      exact ih (by rw [e] at hl; simp at hl; exact hl) h
    · have e : placeS (x :: t) d = 0 := by unfold placeS; simp [hx]
      simp only [e, List.getElem_cons_zero] at h
      exact hx h
/-- The first place of which all ahead are less, and it is not. -/
theorem place_is {out : List TX} {d : TX} {k : Nat} (hk : k ≤ out.length) (h1 : ∀ j, (hj : j < k) → (hl : j < out.length) → out[j] < d) (h2 : (hl : k < out.length) → ¬ out[k] < d) : placeS out d = k := by
  rcases Nat.lt_trichotomy (placeS out d) k with h | h | h
  · exact absurd (h1 _ h (by omega)) (place_ge (by omega))
  · exact h
  · exact absurd (place_lt h (by have := place_le out d; omega)) (h2 (by have := place_le out d; omega))

theorem put_mem (out : List TX) (d x : TX) : x ∈ putS out d ↔ x ∈ out ∨ x = d := by
  unfold putS
  split
  · rename_i h
    have := List.mem_of_getElem? h
    constructor
    · exact .inl
    · rintro (h | rfl)
      · exact h
      · exact this
  · rw [List.mem_append, List.mem_cons]
    conv => rhs; rw [← List.take_append_drop (placeS out d) out, List.mem_append]
    constructor
    · rintro (h | h | h)
      · exact .inl (.inl h)
      · exact .inr h
      · exact .inl (.inr h)
    · rintro ((h | h) | h)
      · exact .inl h
      · exact .inr (.inr h)
      · exact .inr (.inl h)
theorem put_rises {out : List TX} {d : TX} (h : out.Pairwise (· < ·)) : (putS out d).Pairwise (· < ·) := by
  unfold putS
  split
  · exact h
  · rename_i hn
    have hh := h
    rw [← List.take_append_drop (placeS out d) out, List.pairwise_append] at h
    obtain ⟨a1, a2, a3⟩ := h
    clear hh
    have b1 : ∀ x ∈ out.take (placeS out d), x < d := by
      intro x hx
      obtain ⟨j, hj, rfl⟩ := List.getElem_of_mem hx
      rw [List.length_take] at hj
      rw [List.getElem_take]
      exact place_lt (by omega) (by omega)
    have b2 : ∀ x ∈ out.drop (placeS out d), d < x := by
      intro x hx
      by_cases hl : placeS out d < out.length
      · have h0 := place_ge hl
        have h1 : d < out[placeS out d] := lt_ne (List.not_lt.1 h0) (by rintro e; exact hn (by rw [List.getElem?_eq_getElem hl, ← e]))
        rw [List.drop_eq_getElem_cons hl] at hx a2
        rcases List.mem_cons.1 hx with rfl | hx
        · exact h1
        · exact List.lt_trans h1 (List.rel_of_pairwise_cons a2 hx)
      · rw [List.drop_of_length_le (by omega)] at hx; cases hx
    refine List.pairwise_append.2 ⟨a1, List.pairwise_cons.2 ⟨b2, a2⟩, fun x hx y hy => ?_⟩
    rcases List.mem_cons.1 hy with rfl | hy
    · exact b1 x hx
    · exact a3 x hx y hy
theorem put_len (out : List TX) (d : TX) : (putS out d).length ≤ out.length + 1 := by
  unfold putS
  split
  · omega
  · have := place_le out d
    simp; omega

theorem fold_put : ∀ (ds out : List TX), out.Pairwise (· < ·) → (ds.foldl putS out).Pairwise (· < ·) ∧ ∀ x, x ∈ ds.foldl putS out ↔ x ∈ out ∨ x ∈ ds
  | [], out, h => ⟨h, by simp⟩
  | d :: ds, out, h => by
    obtain ⟨h1, h2⟩ := fold_put ds (putS out d) (put_rises h)
    refine ⟨h1, fun x => ?_⟩
    rw [List.foldl_cons, h2, put_mem, List.mem_cons, or_assoc]
theorem fold_uniq (ds : List TX) : ds.foldl putS [] = uniqS ds := by
  obtain ⟨h1, h2⟩ := fold_put ds [] List.Pairwise.nil
  refine rises_eq h1 (uniq_rises ds) fun x => ?_
  rw [h2, uniq_mem]
  simp
end Go.Proofs.YtbmjmiioobgbfaaGreatDoor
