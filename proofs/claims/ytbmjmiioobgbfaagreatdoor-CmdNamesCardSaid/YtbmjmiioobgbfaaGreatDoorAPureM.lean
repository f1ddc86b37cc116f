/-
  Addresses over lists of bytes: atoms, quoted local parts, the last @, what an address's parts are, paths, texts of mails; what follows of these.
  Plain functions and lemmas; no program.
  What is asked of a text byte by byte, with a state: atoms, what stands within quotes, a mail's text, an Envid. Plain functions and lemmas; no program.
-/
import Derived.Test.YtbmjmiioobgbfaaGreatDoorNPureM
namespace Go.Proofs.YtbmjmiioobgbfaaGreatDoor

def alnC (c : UInt8) : Bool := (97 ≤ c && c ≤ 122) || (65 ≤ c && c ≤ 90) || (48 ≤ c && c ≤ 57)
/-- The signs of an atom. -/
def signsL : List UInt8 := [33, 35, 36, 37, 38, 39, 42, 43, 45, 47, 61, 63, 94, 95, 96, 123, 124, 125, 126]
def signC (c : UInt8) : Bool := alnC c || signsL.contains c
def grC (c : UInt8) : Bool := 32 ≤ c && c ≤ 126

/-- Atoms, byte by byte: the state is 'the byte ahead was an atom's'. -/
def atomsF : Bool → List UInt8 → Bool
  | st, [] => st
  | st, c :: t => (signC c || (st && c == 46)) && atomsF (signC c) t
def atomsL (s : List UInt8) : Bool := atomsF false s

/-- What stands within the quotes, byte by byte: the state is 'this byte is marked'. -/
def quotF : Bool → List UInt8 → Bool
  | m, [] => !m
  | m, c :: t => (grC c && (m || c != 34)) && quotF (c == 92 && !m) t
/-- What stands behind a first quote, and ahead of a last one. -/
def quotedL (s : List UInt8) : Bool := s.head? == some 34 && decide (2 ≤ s.length) && s.getLast? == some 34 && quotF false (s.tail.dropLast)

def localL (s : List UInt8) : Bool := decide (s.length ≤ 64) && (atomsL s || quotedL s)

/-- What stands ahead of the last @, and behind it. -/
def cutA : List UInt8 → Option (List UInt8 × List UInt8)
  | [] => none
  | c :: t => match cutA t with
    | some (a, b) => some (c :: a, b)
    | none => if c = 64 then some ([], t) else none

def parseL (s : List UInt8) : Option (List UInt8 × List UInt8) := match cutA s with
  | none => none
  | some (a, b) => if localL a && !(s.getLast? == some 46) then (foldL b).map fun d => (a, d) else none
def amayL (s : List UInt8) : Bool := (parseL s).isSome
def showL (a b : List UInt8) : List UInt8 := if parseL (a ++ 64 :: b) = some (a, b) then a ++ 64 :: b else []
def sameL (a b : List UInt8) : Bool := (parseL a).isSome && parseL a == parseL b
def endL (s : List UInt8) : Bool := s.isEmpty || amayL s
def pathL (s : List UInt8) : List UInt8 := if endL s then 60 :: (s ++ [62]) else []
def unpathL (s : List UInt8) : Option (List UInt8) := if s.head? == some 60 && decide (2 ≤ s.length) && s.getLast? == some 62 && endL s.tail.dropLast then some s.tail.dropLast else none

/-! ### The last @ -/
theorem cutA_none : ∀ {s : List UInt8}, cutA s = none ↔ ∀ c ∈ s, c ≠ 64
  | [] => by simp [cutA]
  | c :: t => by
    have ih := cutA_none (s := t)
    unfold cutA
    cases h : cutA t with
    | some p =>
      obtain ⟨a, b⟩ := p
      simp only [reduceCtorEq, false_iff]
      intro hh
      rw [ih.2 fun x hx => hh x (by simp [hx])] at h
      cases h
    | none =>
      have := ih.1 h
      by_cases hc : c = 64
      · simp [hc]
      · simp [hc]; exact this
theorem cutA_is : ∀ {a b : List UInt8}, (∀ c ∈ b, c ≠ 64) → cutA (a ++ 64 :: b) = some (a, b)
  | [], b, h => by
    show cutA (64 :: b) = _
    unfold cutA
    rw [cutA_none.2 h]
    rfl
  | x :: a, b, h => by
    show cutA (x :: (a ++ 64 :: b)) = _
    unfold cutA
    rw [cutA_is h]
theorem cutA_of : ∀ {s a b : List UInt8}, cutA s = some (a, b) → s = a ++ 64 :: b ∧ ∀ c ∈ b, c ≠ 64
  | [], a, b, h => by simp [cutA] at h
  | c :: t, a, b, h => by
    unfold cutA at h
    cases ht : cutA t with
    | some p =>
      obtain ⟨a', b'⟩ := p
      rw [ht] at h
      simp only [Option.some.injEq, Prod.mk.injEq] at h
      obtain ⟨rfl, rfl⟩ := h
      obtain ⟨h1, h2⟩ := cutA_of ht
      exact ⟨by rw [h1]; rfl, h2⟩
    | none =>
      rw [ht] at h
      by_cases hc : c = 64
      · simp only [hc, if_true, Option.some.injEq, Prod.mk.injEq] at h
        obtain ⟨rfl, rfl⟩ := h
        exact ⟨by rw [hc]; rfl, cutA_none.1 ht⟩
      · simp [hc] at h
theorem cutA_some {s a b : List UInt8} : cutA s = some (a, b) ↔ s = a ++ 64 :: b ∧ ∀ c ∈ b, c ≠ 64 :=
  ⟨cutA_of, fun ⟨h1, h2⟩ => h1 ▸ cutA_is h2⟩

/-! ### What is parsed -/
theorem parse_some {s l d : List UInt8} : parseL s = some (l, d) ↔ ∃ b, cutA s = some (l, b) ∧ localL l = true ∧ ¬ s.getLast? = some 46 ∧ foldL b = some d := by
  unfold parseL
  cases h : cutA s with
  | none => simp
  | some p =>
    obtain ⟨a, b⟩ := p
    constructor
    · intro e
      simp only at e
      split at e
      · rename_i hh
        simp only [Bool.and_eq_true, Bool.not_eq_true', beq_eq_false_iff_ne] at hh
        cases hf : foldL b with
        | none => rw [hf] at e; cases e
        | some x =>
          rw [hf] at e
          simp only [Option.map_some, Option.some.injEq, Prod.mk.injEq] at e
          obtain ⟨rfl, rfl⟩ := e
          exact ⟨b, rfl, hh.1, hh.2, hf⟩
      · cases e
    · rintro ⟨b', e, h1, h2, h3⟩
      simp only [Option.some.injEq, Prod.mk.injEq] at e
      obtain ⟨rfl, rfl⟩ := e
      simp [h1, h2, h3]

theorem localL_ne {l : List UInt8} (h : localL l = true) : l ≠ [] ∧ l.length ≤ 64 := by
  unfold localL at h
  simp only [Bool.and_eq_true, decide_eq_true_eq] at h
  refine ⟨?_, h.1⟩
  rintro rfl
  exact absurd h.2 (by decide)

theorem may_no_at {d : List UInt8} (h : mayL d = true) : ∀ c ∈ d, c ≠ 64 := by
  intro c hc
  obtain ⟨_, h2, _⟩ := may_iff.1 h
  rcases mem_cutD d hc with rfl | ⟨l, hl, hcl⟩
  · decide
  · have := (isLab_all (h2 l hl)).2.2 c hcl
    rintro rfl
    exact absurd this (by decide)

theorem may_last {d : List UInt8} (h : mayL d = true) : ¬ d.getLast? = some 46 := by
  intro hl
  have := may_undot h
  unfold undot at this
  rw [if_pos hl] at this
  have h1 := congrArg List.length this
  rw [List.length_dropLast] at h1
  cases d with
  | nil => simp at hl
  | cons c t => simp at h1

theorem last_app (a b : List UInt8) (hb : b ≠ []) : (a ++ 64 :: b).getLast? = b.getLast? := by
  cases b with
  | nil => exact absurd rfl hb
  | cons x t => rw [List.getLast?_append, List.getLast?_cons_cons]; cases h : (x :: t).getLast? with
    | none => simp at h
    | some z => simp

theorem may_ne {d : List UInt8} (h : mayL d = true) : d ≠ [] := by rintro rfl; exact absurd h (by decide)

/-- Of a local part, and a name, comes that address. -/
theorem parse_mk {l d : List UInt8} (hl : localL l = true) (hd : mayL d = true) : parseL (l ++ 64 :: d) = some (l, d) :=
  parse_some.2 ⟨d, cutA_some.2 ⟨rfl, may_no_at hd⟩, hl, by rw [last_app _ _ (may_ne hd)]; exact may_last hd, fold_may hd⟩
theorem parse_is {s l d : List UInt8} (h : parseL s = some (l, d)) : localL l = true ∧ mayL d = true := by
  obtain ⟨b, _, h2, _, h4⟩ := parse_some.1 h
  exact ⟨h2, fold_is h4⟩
theorem parse_len {s l d : List UInt8} (h : parseL s = some (l, d)) : s.length = l.length + 1 + d.length ∧ 1 ≤ l.length ∧ l.length ≤ 64 ∧ d.length ≤ 253 := by
  obtain ⟨b, h1, h2, h3, h4⟩ := parse_some.1 h
  obtain ⟨rfl, hb⟩ := cutA_some.1 h1
  have hm := fold_is h4
  have hn := localL_ne h2
  have hbn : b ≠ [] := by rintro rfl; rw [show foldL [] = none by decide] at h4; cases h4
  rw [last_app _ _ hbn] at h3
  have hu : undot b = b := by unfold undot; rw [if_neg h3]
  unfold foldL at h4
  split at h4
  · simp only [Option.some.injEq] at h4
    have := may_len hm
    have hl := List.length_pos_iff.2 hn.1
    rw [hu] at h4
    have e := congrArg List.length h4
    rw [List.length_map] at e
    simp
    omega
  · cases h4
theorem parse_show {s l d : List UInt8} (h : parseL s = some (l, d)) : parseL (l ++ 64 :: d) = some (l, d) := by
  obtain ⟨h1, h2⟩ := parse_is h
  exact parse_mk h1 h2
theorem show_eq {s l d : List UInt8} (h : parseL s = some (l, d)) : showL l d = l ++ 64 :: d := by unfold showL; rw [if_pos (parse_show h)]
theorem same_show {s l d : List UInt8} (h : parseL s = some (l, d)) : sameL s (showL l d) = true := by
  unfold sameL; rw [show_eq h, parse_show h, h]; simp
theorem same_self (s : List UInt8) : sameL s s = amayL s := by unfold sameL amayL; simp
theorem same_comm (s t : List UInt8) : sameL s t = sameL t s := by
  unfold sameL
  cases h1 : parseL s with
  | none => cases h2 : parseL t <;> simp
  | some p => cases h2 : parseL t with
    | none => simp
    | some q =>
      rw [Bool.eq_iff_iff]
      simp only [Option.isSome_some, Bool.true_and, beq_iff_eq]
      exact eq_comm
theorem same_trans {s t u : List UInt8} (h1 : sameL s t = true) (h2 : sameL t u = true) : sameL s u = true := by
  unfold sameL at h1 h2 ⊢
  simp only [Bool.and_eq_true, beq_iff_eq] at h1 h2 ⊢
  exact ⟨h1.1, h1.2.trans h2.2⟩

/-- Show tells what it was given. -/
theorem show_ne {a b : List UInt8} (h : showL a b ≠ []) : parseL (a ++ 64 :: b) = some (a, b) ∧ showL a b = a ++ 64 :: b := by
  unfold showL at h ⊢
  by_cases hp : parseL (a ++ 64 :: b) = some (a, b)
  · rw [if_pos hp]; exact ⟨hp, rfl⟩
  · rw [if_neg hp] at h; exact absurd rfl h

theorem may_nil : amayL [] = false := by decide
theorem path_ne (s : List UInt8) : (pathL s = []) ↔ endL s = false := by
  unfold pathL
  cases endL s <;> simp
theorem unpath_path {s : List UInt8} (h : endL s = true) : unpathL (60 :: (s ++ [62])) = some s := by
  unfold unpathL
  rw [if_pos]
  · simp
  · simp [h, List.getLast?_cons]
theorem unpath_nil : unpathL [] = none := by decide
theorem unpath_some {s q : List UInt8} (h : unpathL s = some q) : endL q = true ∧ s = 60 :: (q ++ [62]) := by
  unfold unpathL at h
  split at h
  · rename_i hh
    simp only [Bool.and_eq_true, decide_eq_true_eq, beq_iff_eq, Option.some.injEq] at hh h
    obtain ⟨⟨⟨h1, h2⟩, h3⟩, h4⟩ := hh
    subst h
    refine ⟨h4, ?_⟩
    cases s with
    | nil => simp at h2
    | cons c t =>
      simp only [List.head?_cons, Option.some.injEq, List.tail_cons] at h1 ⊢
      subst h1
      have ht : t ≠ [] := by rintro rfl; simp at h2
      rw [List.getLast?_cons] at h3
      have h5 : t.getLast? = some 62 := by
        cases hg : t.getLast? with
        | none => rw [List.getLast?_eq_none_iff] at hg; exact absurd hg ht
        | some z => rw [hg] at h3; simpa using h3
      obtain ⟨u, rfl⟩ := List.getLast?_eq_some_iff.1 h5
      simp
  · cases h

/-! ### Great letters behind the last @ -/
theorem LikeL.no_at : ∀ {a b : List UInt8}, LikeL a b → (∀ c ∈ b, c ≠ 64) → ∀ c ∈ a, c ≠ 64
  | [], [], _, _ => by simp
  | x :: xs, c :: cs, h, hb => by
    intro y hy
    rcases List.mem_cons.1 hy with rfl | hy
    · rcases h.1 with rfl | ⟨h1, h2, rfl⟩
      · exact hb _ (by simp)
      · have key : ∀ n : Fin 256, 97 ≤ UInt8.ofNat n → UInt8.ofNat n ≤ 122 → UInt8.ofNat n - 32 ≠ 64 := by decide +kernel
        have := key ⟨c.toNat, c.toNat_lt⟩
        simp only [UInt8.ofNat_toNat] at this
        exact this h1 h2
    · exact LikeL.no_at h.2 (fun z hz => hb z (by simp [hz])) y hy
  | [], _ :: _, h, _ => h.elim
  | _ :: _, [], h, _ => h.elim
theorem LikeL.ne : ∀ {a b : List UInt8}, LikeL a b → (a = [] ↔ b = [])
  | [], [], _ => by simp
  | _ :: _, _ :: _, _ => by simp
  | [], _ :: _, h => h.elim
  | _ :: _, [], h => h.elim
/-- With great letters in what stands behind the last @ the same is parsed. -/
theorem parse_like {a b b' : List UInt8} (hb : ∀ c ∈ b, c ≠ 64) (h : LikeL b' b) : parseL (a ++ 64 :: b') = parseL (a ++ 64 :: b) := by
  have h1 : cutA (a ++ 64 :: b) = some (a, b) := cutA_some.2 ⟨rfl, hb⟩
  have h2 : cutA (a ++ 64 :: b') = some (a, b') := cutA_some.2 ⟨rfl, h.no_at hb⟩
  have h3 : (a ++ 64 :: b').getLast? = some 46 ↔ (a ++ 64 :: b).getLast? = some 46 := by
    by_cases e : b = []
    · have e' := h.ne.2 e
      rw [e, e']
    · rw [last_app _ _ e, last_app _ _ (fun e' => e (h.ne.1 e'))]
      exact h.last_.1
  have h4 : ((a ++ 64 :: b').getLast? == some 46) = ((a ++ 64 :: b).getLast? == some 46) := by
    rw [Bool.eq_iff_iff, beq_iff_eq, beq_iff_eq]; exact h3
  unfold parseL
  rw [h1, h2]
  simp only [h.fold, h4]
/-- Of a text without an @ nothing is parsed. -/
theorem parse_no_at {s : List UInt8} (h : ∀ c ∈ s, c ≠ 64) : parseL s = none := by unfold parseL; rw [cutA_none.2 h]
end Go.Proofs.YtbmjmiioobgbfaaGreatDoor

namespace Go.Proofs.YtbmjmiioobgbfaaGreatDoor

/-- All bytes fit, asked one by one up to the first that does not; and the state then. -/
def runF {σ : Type} (ok : σ → UInt8 → Bool) (nx : σ → UInt8 → σ) : σ → List UInt8 → Bool × σ
  | st, [] => (true, st)
  | st, c :: t => if ok st c then runF ok nx (nx st c) t else (false, nx st c)

theorem runF_true {σ : Type} {ok : σ → UInt8 → Bool} {nx : σ → UInt8 → σ} {st : σ} {c : UInt8} {t : List UInt8} (h : ok st c = true) : runF ok nx st (c :: t) = runF ok nx (nx st c) t := by
  show (if ok st c then _ else _) = _
  rw [if_pos h]
theorem runF_false {σ : Type} {ok : σ → UInt8 → Bool} {nx : σ → UInt8 → σ} {st : σ} {c : UInt8} {t : List UInt8} (h : ok st c = false) : runF ok nx st (c :: t) = (false, nx st c) := by
  show (if ok st c then _ else _) = _
  rw [if_neg (by rw [h]; simp)]

def okA (st : Bool) (c : UInt8) : Bool := signC c || (st && c == 46)
def nxA (_ : Bool) (c : UInt8) : Bool := signC c
theorem atomsF_run : ∀ (st : Bool) (l : List UInt8), atomsF st l = ((runF okA nxA st l).1 && (runF okA nxA st l).2)
  | st, [] => by simp [atomsF, runF]
  | st, c :: t => by
    have ih := atomsF_run (signC c) t
    unfold atomsF
    cases h : okA st c with
    | true => rw [runF_true h, show (signC c || st && c == 46) = true from h, show nxA st c = signC c from rfl]; simpa using ih
    | false => rw [runF_false h, show (signC c || st && c == 46) = false from h]; rfl

def okQ (m : Bool) (c : UInt8) : Bool := grC c && (m || c != 34)
def nxQ (m : Bool) (c : UInt8) : Bool := c == 92 && !m
theorem quotF_run : ∀ (st : Bool) (l : List UInt8), quotF st l = ((runF okQ nxQ st l).1 && !(runF okQ nxQ st l).2)
  | st, [] => by simp [quotF, runF]
  | st, c :: t => by
    have ih := quotF_run (c == 92 && !st) t
    unfold quotF
    cases h : okQ st c with
    | true => rw [runF_true h, show (grC c && (st || c != 34)) = true from h, show nxQ st c = (c == 92 && !st) from rfl]; simpa using ih
    | false => rw [runF_false h, show (grC c && (st || c != 34)) = false from h]; rfl

def okE (_ : Unit) (c : UInt8) : Bool := c == 45 || alnC c
def nxE (_ : Unit) (_ : UInt8) : Unit := ()
def envidL (s : List UInt8) : Bool := decide (s.length ≤ 32) && s.all fun c => c == 45 || alnC c
theorem runE : ∀ (l : List UInt8), (runF okE nxE () l).1 = l.all fun c => c == 45 || alnC c
  | [] => rfl
  | c :: t => by
    have ih := runE t
    cases h : okE () c with
    | true => rw [runF_true h, List.all_cons, show (c == 45 || alnC c) = true from h]; simpa using ih
    | false => rw [runF_false h, List.all_cons, show (c == 45 || alnC c) = false from h]; rfl

/-- A mail's text: how many bytes of the line, and whether its CR has come. -/
def okT (st : Nat × Bool) (c : UInt8) : Bool := if 512 < st.1 + 1 then false else if st.2 then c == 10 else if c == 13 then true else c == 9 || grC c
def nxT (st : Nat × Bool) (c : UInt8) : Nat × Bool := if 512 < st.1 + 1 then (st.1 + 1, st.2) else if st.2 then (0, false) else if c == 13 then (st.1 + 1, true) else (st.1 + 1, false)
def textF (st : Nat × Bool) (l : List UInt8) : Bool := (runF okT nxT st l).1 && (runF okT nxT st l).2.1 == 0
def mtextL (s : List UInt8) : Bool := textF (0, false) s

theorem textF_nil (st : Nat × Bool) : textF st [] = (st.1 == 0) := by simp [textF, runF]
theorem textF_ok {st : Nat × Bool} {c : UInt8} {t : List UInt8} (h : okT st c = true) : textF st (c :: t) = textF (nxT st c) t := by unfold textF; rw [runF_true h]
theorem textF_no {st : Nat × Bool} {c : UInt8} {t : List UInt8} (h : okT st c = false) : textF st (c :: t) = false := by unfold textF; rw [runF_false h]; rfl
theorem textF_long {n : Nat} {e : Bool} (h : 512 ≤ n) (c : UInt8) (t : List UInt8) : textF (n, e) (c :: t) = false := textF_no (by unfold okT; rw [if_pos (by simp; omega)])
/-- A CR, and nothing behind it. -/
theorem textF_cr_end {n : Nat} : textF (n, false) [13] = false := by
  by_cases h : 512 ≤ n
  · exact textF_long h _ _
  · rw [textF_ok (by unfold okT; rw [if_neg (by simp; omega)]; rfl), textF_nil]
    unfold nxT; rw [if_neg (by simp; omega)]; simp
theorem textF_cr {n : Nat} {d : UInt8} {t : List UInt8} : textF (n, false) (13 :: d :: t) = (decide (n + 1 ≤ 511) && d == 10 && textF (0, false) t) := by
  by_cases h : 512 ≤ n
  · rw [textF_long h, decide_eq_false (by omega)]; rfl
  have e1 : nxT (n, false) 13 = (n + 1, true) := by unfold nxT; rw [if_neg (by simp; omega)]; rfl
  rw [textF_ok (by unfold okT; rw [if_neg (by simp; omega)]; rfl), e1]
  by_cases h2 : 512 ≤ n + 1
  · rw [textF_long h2, decide_eq_false (by omega)]; rfl
  rw [decide_eq_true (by omega)]
  have e2 : okT (n + 1, true) d = (d == 10) := by unfold okT; rw [if_neg (by simp; omega)]; rfl
  cases hd : (d == 10) with
  | true =>
    rw [textF_ok (by rw [e2, hd])]
    have e3 : nxT (n + 1, true) d = (0, false) := by unfold nxT; rw [if_neg (by simp; omega)]; rfl
    rw [e3]; simp
  | false => rw [textF_no (by rw [e2, hd])]; rfl
theorem textF_other {n : Nat} {c : UInt8} {t : List UInt8} (hc : c ≠ 13) : textF (n, false) (c :: t) = (decide (n + 1 ≤ 512) && (c == 9 || grC c) && textF (n + 1, false) t) := by
  by_cases h : 512 ≤ n
  · rw [textF_long h, decide_eq_false (by omega)]; rfl
  rw [decide_eq_true (by omega)]
  have h13 : (c == 13) = false := by simpa using hc
  have e1 : okT (n, false) c = (c == 9 || grC c) := by unfold okT; rw [if_neg (by simp; omega)]; simp [h13]
  have e2 : nxT (n, false) c = (n + 1, false) := by unfold nxT; rw [if_neg (by simp; omega)]; simp [h13]
  cases hk : (c == 9 || grC c) with
  | true => rw [textF_ok (by rw [e1, hk]), e2]; simp
  | false => rw [textF_no (by rw [e1, hk])]; rfl

/-- Ahead of what stands behind a line's end the text may be, too. -/
theorem textF_front : ∀ {a : List UInt8} {st : Nat × Bool} {b : List UInt8}, textF st (a ++ 10 :: b) = true → textF st (a ++ [10]) = true ∧ textF (0, false) b = true
  | [], (n, e), b, h => by
    show textF (n, e) [10] = true ∧ _
    have h' : textF (n, e) (10 :: b) = true := h
    cases hk : okT (n, e) 10 with
    | false => rw [textF_no hk] at h'; cases h'
    | true =>
      rw [textF_ok hk] at h' ⊢
      have e3 : nxT (n, e) 10 = (0, false) := by
        unfold okT at hk
        unfold nxT
        by_cases h1 : 512 < n + 1
        · simp [h1] at hk
        · cases e with
          | true => simp [h1]
          | false => exfalso; simp [h1] at hk; exact absurd hk (by decide)
      rw [e3] at h' ⊢
      exact ⟨by rw [textF_nil]; rfl, h'⟩
  | x :: a, st, b, h => by
    have h' : textF st (x :: (a ++ 10 :: b)) = true := h
    show textF st (x :: (a ++ [10])) = true ∧ _
    cases hk : okT st x with
    | false => rw [textF_no hk] at h'; cases h'
    | true =>
      rw [textF_ok hk] at h' ⊢
      exact textF_front h'
theorem mtext_front {a b : List UInt8} (h : mtextL (a ++ 10 :: b) = true) : mtextL (a ++ [10]) = true := (textF_front h).1
theorem mtext_nil : mtextL [] = true := by decide
end Go.Proofs.YtbmjmiioobgbfaaGreatDoor
