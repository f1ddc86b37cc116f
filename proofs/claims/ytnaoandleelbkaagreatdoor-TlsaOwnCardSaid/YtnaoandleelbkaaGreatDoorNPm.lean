/-
  Domain names over lists of bytes: what stands between the dots, what is a label, a name, what it folds to, its parent, patterns, and what follows of these.
  Plain functions and lemmas; no program.
  Domain names over lists of bytes: folding, patterns, the row of texts. Plain lemmas; no program.
-/
import Derived.Lib.Bytealg
namespace Go.Proofs.YtnaoandleelbkaaGreatDoor
set_option linter.unusedSimpArgs false
set_option linter.unusedVariables false

/-- What stands between the dots. -/
def cutD : List UInt8 → List (List UInt8)
  | [] => [[]]
  | c :: t => if c = 46 then [] :: cutD t else (c :: (cutD t).headD []) :: (cutD t).tail

def digC (c : UInt8) : Bool := 48 ≤ c && c ≤ 57
def lowC (c : UInt8) : Bool := 97 ≤ c && c ≤ 122
def labC (c : UInt8) : Bool := lowC c || digC c || c == 45
def isLab (l : List UInt8) : Bool := !l.isEmpty && decide (l.length ≤ 63) && l.all labC && l.headD 0 != 45 && l.getLastD 0 != 45
def mayL (s : List UInt8) : Bool := decide (s.length ≤ 253) && (cutD s).all isLab && ((cutD s).getLastD []).any fun c => !digC c
def labelsL (s : List UInt8) : List (List UInt8) := if mayL s then cutD s else []
/-- What stands behind the first dot; is there one? -/
def behindL (s : List UInt8) : List UInt8 := (s.dropWhile (· != 46)).tail
def dotted (s : List UInt8) : Bool := s.any (· == 46)
def parentL (s : List UInt8) : Option (List UInt8) := if mayL s && dotted s then some (behindL s) else none
def smallC (c : UInt8) : UInt8 := if 65 ≤ c && c ≤ 90 then c + 32 else c
def undot (s : List UInt8) : List UInt8 := if s.getLast? = some 46 then s.dropLast else s
def foldL (s : List UInt8) : Option (List UInt8) := if mayL ((undot s).map smallC) then some ((undot s).map smallC) else none
def starred (p : List UInt8) : Bool := [42, 46].isPrefixOf p
def bareL (p : List UInt8) : List UInt8 := if starred p then p.drop 2 else p
def patL (p : List UInt8) : Bool := mayL (bareL p)
def matchL (p s : List UInt8) : Bool := mayL s && if starred p then parentL s == some (p.drop 2) else p == s
def underL (a s : List UInt8) : Option (List UInt8) := if mayL s && decide (a.length + s.length ≤ 253) then some (a ++ s) else none

/-! ### What stands between the dots -/

theorem cutD_ne (s : List UInt8) : cutD s ≠ [] := by
  cases s with
  | nil => simp [cutD]
  | cons c t => unfold cutD; split <;> simp

theorem cutD_cons {c : UInt8} (h : c ≠ 46) (t : List UInt8) : ∃ a r, cutD t = a :: r ∧ cutD (c :: t) = (c :: a) :: r := by
  cases e : cutD t with
  | nil => exact absurd e (cutD_ne t)
  | cons a r => exact ⟨a, r, rfl, by rw [cutD, if_neg h, e]; rfl⟩

/-- A text without a dot is one part. -/
theorem cutD_plain : ∀ {s : List UInt8}, (∀ c ∈ s, c ≠ 46) → cutD s = [s]
  | [], _ => rfl
  | c :: t, h => by
    have ih := cutD_plain (s := t) fun x hx => h x (by simp [hx])
    rw [cutD, if_neg (h c (by simp)), ih]
    rfl

/-- A part, a dot, and a text behind it. -/
theorem cutD_dot : ∀ {a : List UInt8} (t : List UInt8), (∀ c ∈ a, c ≠ 46) → cutD (a ++ 46 :: t) = a :: cutD t
  | [], t, _ => by simp [cutD]
  | c :: a, t, h => by
    have ih := cutD_dot (a := a) t fun x hx => h x (by simp [hx])
    show cutD (c :: (a ++ 46 :: t)) = _
    rw [cutD, if_neg (h c (by simp)), ih]
    rfl

theorem behind_cons (c : UInt8) (s : List UInt8) : behindL (c :: s) = if c = 46 then s else behindL s := by
  unfold behindL
  by_cases h : c = 46
  · simp [h]
  · have : (c != 46) = true := by simpa using h
    simp [this, h]

theorem behind_dot : ∀ {a : List UInt8} (t : List UInt8), (∀ c ∈ a, c ≠ 46) → behindL (a ++ 46 :: t) = t
  | [], t, _ => by rw [List.nil_append, behind_cons, if_pos rfl]
  | c :: a, t, h => by
    rw [List.cons_append, behind_cons, if_neg (h c (by simp))]
    exact behind_dot t fun x hx => h x (by simp [hx])

/-- Every text is a part without a dot, or that, a dot, and a text. -/
theorem dot_cases : ∀ (s : List UInt8), (dotted s = false ∧ (∀ c ∈ s, c ≠ 46) ∧ behindL s = []) ∨ ∃ a t, s = a ++ 46 :: t ∧ (∀ c ∈ a, c ≠ 46) ∧ dotted s = true ∧ behindL s = t
  | [] => .inl ⟨rfl, by simp, rfl⟩
  | c :: s => by
    by_cases hc : c = 46
    · exact .inr ⟨[], s, by simp [hc], by simp, by simp [dotted, hc], by rw [behind_cons, if_pos hc]⟩
    · rcases dot_cases s with ⟨h1, h2, h3⟩ | ⟨a, t, h1, h2, h3, h4⟩
      · refine .inl ⟨by simpa [dotted, hc] using h1, fun x hx => ?_, by rw [behind_cons, if_neg hc]; exact h3⟩
        rcases List.mem_cons.1 hx with rfl | hx
        · exact hc
        · exact h2 x hx
      · refine .inr ⟨c :: a, t, by simp [h1], fun x hx => ?_, by simpa [dotted, hc] using h3, by rw [behind_cons, if_neg hc]; exact h4⟩
        rcases List.mem_cons.1 hx with rfl | hx
        · exact hc
        · exact h2 x hx

theorem cutD_nodot : ∀ (s : List UInt8) {l : List UInt8}, l ∈ cutD s → ∀ c ∈ l, c ≠ 46
  | [], l, h => by simp [cutD] at h; subst h; simp
  | c :: t, l, h => by
    by_cases hc : c = 46
    · rw [cutD, if_pos hc] at h
      rcases List.mem_cons.1 h with rfl | h
      · simp
      · exact cutD_nodot t h
    · obtain ⟨a, r, e1, e2⟩ := cutD_cons hc t
      rw [e2] at h
      rcases List.mem_cons.1 h with rfl | h
      · intro x hx
        rcases List.mem_cons.1 hx with rfl | hx
        · exact hc
        · exact cutD_nodot t (l := a) (by rw [e1]; simp) x hx
      · exact cutD_nodot t (l := l) (by rw [e1]; simp [h])

/-- Parts, with dots between. -/
def joinD : List (List UInt8) → List UInt8
  | [] => []
  | [a] => a
  | a :: b :: r => a ++ 46 :: joinD (b :: r)

theorem joinD_cons (a : List UInt8) {r : List (List UInt8)} (h : r ≠ []) : joinD (a :: r) = a ++ 46 :: joinD r := by
  cases r with
  | nil => exact absurd rfl h
  | cons b r => rfl

theorem joinD_cutD : ∀ (n : Nat) (s : List UInt8), s.length ≤ n → joinD (cutD s) = s
  | n, s, hn => by
    rcases dot_cases s with ⟨_, h2, _⟩ | ⟨a, t, h1, h2, _, _⟩
    · rw [cutD_plain h2]; rfl
    · subst h1
      rw [cutD_dot t h2, joinD_cons a (cutD_ne t)]
      cases n with
      | zero => simp at hn
      | succ n => rw [joinD_cutD n t (by simp at hn; omega)]

theorem cutD_len : ∀ (s : List UInt8), (cutD s).length ≤ s.length + 1
  | [] => by simp [cutD]
  | c :: t => by
    have ih := cutD_len t
    unfold cutD
    split
    · simp; omega
    · have := cutD_ne t
      cases e : cutD t with
      | nil => exact absurd e this
      | cons a r => rw [e] at ih; simp at ih ⊢; omega

theorem cutD_part : ∀ (n : Nat) (s : List UInt8), s.length ≤ n → ∀ {l : List UInt8}, l ∈ cutD s → l.length ≤ s.length
  | n, s, hn, l, h => by
    rcases dot_cases s with ⟨_, h2, _⟩ | ⟨a, t, h1, h2, _, _⟩
    · rw [cutD_plain h2] at h; simp at h; rw [h]; exact Nat.le_refl _
    · subst h1
      rw [cutD_dot t h2] at h
      rcases List.mem_cons.1 h with rfl | h
      · simp
      · cases n with
        | zero => simp at hn
        | succ n => have := cutD_part n t (by simp at hn; omega) h; simp; omega

/-! ### Names -/

theorem may_iff {s : List UInt8} : mayL s = true ↔ s.length ≤ 253 ∧ (∀ l ∈ cutD s, isLab l = true) ∧ (((cutD s).getLastD []).any fun c => !digC c) = true := by
  unfold mayL; simp [List.all_eq_true]; constructor
  · rintro ⟨⟨a, b⟩, c⟩; exact ⟨a, b, c⟩
  · rintro ⟨a, b, c⟩; exact ⟨⟨a, b⟩, c⟩

theorem may_len {s : List UInt8} (h : mayL s = true) : s.length ≤ 253 := (may_iff.1 h).1
theorem not_may_long {s : List UInt8} (h : 253 < s.length) : mayL s = false := by
  cases e : mayL s with
  | false => rfl
  | true => have := may_len e; omega

theorem may_behind {a t : List UInt8} (ha : ∀ c ∈ a, c ≠ 46) (h : mayL (a ++ 46 :: t) = true) : mayL t = true := by
  rw [may_iff, cutD_dot t ha] at h
  rw [may_iff]
  obtain ⟨h1, h2, h3⟩ := h
  refine ⟨by simp at h1; omega, fun l hl => h2 l (by simp [hl]), ?_⟩
  cases e : cutD t with
  | nil => exact absurd e (cutD_ne t)
  | cons b r => rw [e] at h3; exact h3

theorem parent_may {s p : List UInt8} (h : parentL s = some p) : mayL p = true := by
  unfold parentL at h
  split at h
  · rename_i hh
    simp at hh h
    rcases dot_cases s with ⟨h1, _, _⟩ | ⟨a, t, h1, h2, _, h4⟩
    · rw [h1] at hh; simp at hh
    · rw [h4] at h; subst h; rw [h1] at hh; exact may_behind h2 hh.1
  · cases h

theorem parent_some {s p : List UInt8} : parentL s = some p ↔ mayL s = true ∧ ∃ a, (∀ c ∈ a, c ≠ 46) ∧ s = a ++ 46 :: p := by
  unfold parentL
  rcases dot_cases s with ⟨h1, h2, h3⟩ | ⟨a, t, h1, h2, h3, h4⟩
  · rw [h1]
    simp
    rintro _ a _ rfl
    exact absurd rfl (h2 46 (by simp))
  · rw [h3, h4]
    constructor
    · intro h
      by_cases hm : mayL s = true
      · rw [hm] at h; simp at h; subst h; exact ⟨hm, a, h2, h1⟩
      · simp [hm] at h
    · rintro ⟨hm, a', ha', e⟩
      rw [hm]
      have h5 : behindL s = p := by rw [e]; exact behind_dot p ha'
      rw [h4] at h5
      simp [h5]

theorem parent_labels {s p : List UInt8} (h : parentL s = some p) : labelsL s ≠ [] ∧ labelsL p = (labelsL s).tail ∧ 1 < (labelsL s).length := by
  have hp := parent_may h
  obtain ⟨hm, a, ha, rfl⟩ := parent_some.1 h
  have hn := cutD_ne p
  unfold labelsL
  rw [if_pos hp, if_pos hm, cutD_dot p ha]
  refine ⟨by simp, rfl, ?_⟩
  cases e : cutD p with
  | nil => exact absurd e hn
  | cons b r => simp

theorem parent_none {s : List UInt8} (h : parentL s = none) (hm : mayL s = true) : labelsL s = [s] := by
  unfold parentL at h
  rcases dot_cases s with ⟨h1, h2, h3⟩ | ⟨a, t, h1, h2, h3, h4⟩
  · unfold labelsL; rw [if_pos hm, cutD_plain h2]
  · rw [hm, h3] at h; simp at h

theorem parent_not {s : List UInt8} (hm : mayL s = false) : parentL s = none := by unfold parentL; rw [hm]; rfl

theorem parent_len {s p : List UInt8} (h : parentL s = some p) : p.length < s.length := by
  obtain ⟨_, a, _, rfl⟩ := parent_some.1 h
  simp; omega

end Go.Proofs.YtnaoandleelbkaaGreatDoor

namespace Go.Proofs.YtnaoandleelbkaaGreatDoor
set_option linter.unusedSimpArgs false
set_option linter.unusedVariables false

/-- A byte of a label is no dot, no star, no great letter. -/
theorem labC_is {c : UInt8} (h : labC c = true) : c ≠ 46 ∧ c ≠ 42 ∧ smallC c = c := by
  revert h
  have : ∀ c : UInt8, labC c = true → c ≠ 46 ∧ c ≠ 42 ∧ smallC c = c := by
    intro c
    have key : ∀ n : Fin 256, labC (UInt8.ofNat n) = true → UInt8.ofNat n ≠ 46 ∧ UInt8.ofNat n ≠ 42 ∧ smallC (UInt8.ofNat n) = UInt8.ofNat n := by decide +kernel
    have := key ⟨c.toNat, c.toNat_lt⟩
    simpa using this
  exact this c

theorem isLab_all {l : List UInt8} (h : isLab l = true) : l ≠ [] ∧ l.length ≤ 63 ∧ ∀ c ∈ l, labC c = true := by
  unfold isLab at h
  simp at h
  exact ⟨h.1.1.1.1, h.1.1.1.2, fun c hc => h.1.1.2 c hc⟩

theorem mem_cutD : ∀ (s : List UInt8) {c : UInt8}, c ∈ s → c = 46 ∨ ∃ l ∈ cutD s, c ∈ l
  | x :: t, c, h => by
    by_cases hx : x = 46
    · rcases List.mem_cons.1 h with rfl | h
      · exact .inl hx
      · rcases mem_cutD t h with h | ⟨l, hl, hc⟩
        · exact .inl h
        · exact .inr ⟨l, by rw [cutD, if_pos hx]; simp [hl], hc⟩
    · obtain ⟨a, r, e1, e2⟩ := cutD_cons hx t
      rcases List.mem_cons.1 h with rfl | h
      · exact .inr ⟨c :: a, by rw [e2]; simp, by simp⟩
      · rcases mem_cutD t h with h | ⟨l, hl, hc⟩
        · exact .inl h
        · rw [e1] at hl
          rcases List.mem_cons.1 hl with rfl | hl
          · exact .inr ⟨x :: l, by rw [e2]; simp, by simp [hc]⟩
          · exact .inr ⟨l, by rw [e2]; simp [hl], hc⟩

theorem may_bytes {s : List UInt8} (h : mayL s = true) : ∀ c ∈ s, c ≠ 42 ∧ smallC c = c := by
  intro c hc
  obtain ⟨_, h2, _⟩ := may_iff.1 h
  rcases mem_cutD s hc with rfl | ⟨l, hl, hcl⟩
  · decide
  · exact (labC_is ((isLab_all (h2 l hl)).2.2 c hcl)).2

theorem map_small {s : List UInt8} (h : ∀ c ∈ s, smallC c = c) : s.map smallC = s := by
  induction s with
  | nil => rfl
  | cons c t ih => simp [h c (by simp), ih fun x hx => h x (by simp [hx])]

theorem may_small {s : List UInt8} (h : mayL s = true) : s.map smallC = s := map_small fun c hc => (may_bytes h c hc).2

theorem cutD_last (s : List UInt8) : cutD (s ++ [46]) = cutD s ++ [[]] := by
  induction s with
  | nil => simp [cutD]
  | cons c t ih =>
    show cutD (c :: (t ++ [46])) = _
    by_cases hc : c = 46
    · rw [cutD, if_pos hc, cutD, if_pos hc, ih]; rfl
    · rw [cutD, if_neg hc, cutD, if_neg hc, ih]
      cases e : cutD t with
      | nil => exact absurd e (cutD_ne _)
      | cons a r => rfl

theorem cutD_last_dot (s : List UInt8) : [] ∈ cutD (s ++ [46]) := by rw [cutD_last]; simp

theorem may_undot {s : List UInt8} (h : mayL s = true) : undot s = s := by
  unfold undot
  split
  · rename_i hl
    exfalso
    obtain ⟨_, h2, _⟩ := may_iff.1 h
    obtain ⟨t, e⟩ := List.getLast?_eq_some_iff.1 hl
    rw [e] at h2
    have := h2 [] (cutD_last_dot _)
    simp [isLab] at this
  · rfl

theorem fold_may {s : List UInt8} (h : mayL s = true) : foldL s = some s := by
  unfold foldL
  rw [may_undot h, may_small h, if_pos h]

theorem fold_is {s a : List UInt8} (h : foldL s = some a) : mayL a = true := by
  unfold foldL at h
  split at h
  · rename_i hm; simp at h; subst h; exact hm
  · cases h

/-- Some letters great: the same small. -/
def LikeC (x c : UInt8) : Prop := x = c ∨ (97 ≤ c ∧ c ≤ 122 ∧ x = c - 32)
theorem likeC_small {x c : UInt8} (h : LikeC x c) : smallC x = smallC c ∧ (x = 46 ↔ c = 46) := by
  rcases h with rfl | ⟨h1, h2, rfl⟩
  · exact ⟨rfl, Iff.rfl⟩
  · have key : ∀ n : Fin 256, 97 ≤ UInt8.ofNat n → UInt8.ofNat n ≤ 122 → smallC (UInt8.ofNat n - 32) = smallC (UInt8.ofNat n) ∧ (UInt8.ofNat n - 32 = 46 ↔ UInt8.ofNat n = 46) := by decide +kernel
    have := key ⟨c.toNat, c.toNat_lt⟩
    simp only [UInt8.ofNat_toNat] at this
    exact this h1 h2

def LikeL : List UInt8 → List UInt8 → Prop
  | [], [] => True
  | x :: xs, c :: cs => LikeC x c ∧ LikeL xs cs
  | _, _ => False

theorem LikeL.refl : ∀ s, LikeL s s
  | [] => trivial
  | _ :: t => ⟨.inl rfl, LikeL.refl t⟩
theorem LikeL.small : ∀ {a b : List UInt8}, LikeL a b → a.map smallC = b.map smallC
  | [], [], _ => rfl
  | x :: xs, c :: cs, h => by simp [(likeC_small h.1).1, LikeL.small h.2]
  | [], _ :: _, h => h.elim
  | _ :: _, [], h => h.elim
theorem LikeL.last_ : ∀ {a b : List UInt8}, LikeL a b → (a.getLast? = some 46 ↔ b.getLast? = some 46) ∧ LikeL a.dropLast b.dropLast
  | [], [], _ => ⟨Iff.rfl, trivial⟩
  | [x], [c], h => ⟨by simp [(likeC_small h.1).2], trivial⟩
  | x :: y :: ys, c :: d :: ds, h => by
    have ih := LikeL.last_ h.2
    exact ⟨by simpa [List.getLast?_cons_cons] using ih.1, ⟨h.1, ih.2⟩⟩
  | [], _ :: _, h => h.elim
  | _ :: _, [], h => h.elim
  | [_], _ :: _ :: _, h => h.2.elim
  | _ :: _ :: _, [_], h => h.2.elim
theorem LikeL.undot_ {a b : List UInt8} (h : LikeL a b) : (undot a).map smallC = (undot b).map smallC := by
  obtain ⟨k1, k2⟩ := h.last_
  unfold undot
  by_cases hb : b.getLast? = some 46
  · rw [if_pos hb, if_pos (k1.2 hb)]; exact k2.small
  · rw [if_neg hb, if_neg (fun h => hb (k1.1 h))]; exact h.small
theorem LikeL.fold {a b : List UInt8} (h : LikeL a b) : foldL a = foldL b := by unfold foldL; rw [h.undot_]
theorem undot_dot (s : List UInt8) : undot (s ++ [46]) = s := by unfold undot; simp
theorem LikeL.fold_dot {a b : List UInt8} (h : LikeL a b) (hb : mayL b = true) : foldL (a ++ [46]) = some b := by
  unfold foldL
  rw [undot_dot, h.small, may_small hb, if_pos hb]

/-! ### Patterns -/
theorem may_unstarred {s : List UInt8} (h : mayL s = true) : starred s = false := by
  cases s with
  | nil => rfl
  | cons c t =>
    have := (may_bytes h c (by simp)).1
    have e : ¬ 42 = c := fun e => this e.symm
    cases t <;> simp [starred, List.isPrefixOf, e]

theorem match_self (s : List UInt8) : matchL s s = mayL s := by
  unfold matchL
  cases h : mayL s with
  | false => rfl
  | true => rw [may_unstarred h]; simp

theorem star_cons (s : List UInt8) : starred (42 :: 46 :: s) = true := by simp [starred]
theorem match_star (t s : List UInt8) : matchL (42 :: 46 :: t) s = (parentL s == some t) := by
  unfold matchL
  rw [star_cons]
  cases h : mayL s with
  | false => rw [parent_not h]; rfl
  | true => simp

theorem match_starred {p s : List UInt8} (h : starred p = true) : matchL p s = (parentL s == some (p.drop 2)) := by
  unfold matchL
  rw [h]
  cases hm : mayL s with
  | false => rw [parent_not hm]; rfl
  | true => simp

theorem match_bare {p s : List UInt8} (h : starred p = false) : matchL p s = (mayL s && p == s) := by
  unfold matchL
  rw [h]
  simp

theorem match_not_both {p s up : List UInt8} (h : parentL s = some up) : (matchL p s && matchL p up) = false := by
  have hl := parent_len h
  cases hp : starred p with
  | true =>
    rw [match_starred hp, match_starred hp, h]
    cases e : parentL up with
    | none => simp
    | some q =>
      have := parent_len e
      by_cases h1 : up = p.drop 2
      · have h2 : q ≠ p.drop 2 := by intro h2; rw [h1, h2] at this; omega
        simp [h2]
      · simp [h1]
  | false =>
    rw [match_bare hp, match_bare hp]
    by_cases h1 : p = s
    · have h2 : ¬ p = up := by intro h2; rw [← h1, h2] at hl; omega
      simp [h2]
    · simp [h1]

theorem match_above (s : List UInt8) : matchL (42 :: 46 :: s) s = false := by
  rw [match_star]
  cases e : parentL s with
  | none => rfl
  | some q =>
    have := parent_len e
    have h2 : q ≠ s := by intro h2; rw [h2] at this; omega
    simp [h2]

/-! ### The row -/
open Go.Lib (compareBytes)
theorem cmp_swap : ∀ (a b : List UInt8), compareBytes b a = - compareBytes a b
  | [], [] => rfl
  | [], _ :: _ => rfl
  | _ :: _, [] => rfl
  | x :: a, y :: b => by
    unfold compareBytes
    by_cases h1 : x < y
    · have h2 : ¬ y < x := UInt8.lt_asymm h1
      simp [h1, h2]
    · by_cases h2 : y < x
      · simp [h1, h2]
      · simp [h1, h2, cmp_swap a b]

theorem cmp_bound : ∀ (a b : List UInt8), -1 ≤ compareBytes a b ∧ compareBytes a b ≤ 1
  | [], [] => by simp [compareBytes]
  | [], _ :: _ => by simp [compareBytes]
  | _ :: _, [] => by simp [compareBytes]
  | x :: a, y :: b => by
    unfold compareBytes
    split
    · omega
    · split
      · omega
      · exact cmp_bound a b

theorem cmp_zero : ∀ (a b : List UInt8), compareBytes a b = 0 ↔ a = b
  | [], [] => by simp [compareBytes]
  | [], _ :: _ => by simp [compareBytes]
  | _ :: _, [] => by simp [compareBytes]
  | x :: a, y :: b => by
    unfold compareBytes
    by_cases h1 : x < y
    · have : x ≠ y := fun e => by subst e; exact UInt8.lt_irrefl x h1
      simp [h1, this]
    · by_cases h2 : y < x
      · have : x ≠ y := fun e => by subst e; exact UInt8.lt_irrefl x h2
        simp [h1, h2, this]
      · have e : x = y := UInt8.le_antisymm (UInt8.not_lt.1 h2) (UInt8.not_lt.1 h1)
        simp [e, cmp_zero a b]

theorem cmp_neg : ∀ (a b : List UInt8), compareBytes a b < 0 ↔ a < b
  | [], [] => by simp [compareBytes]
  | [], _ :: _ => by simp [compareBytes]
  | _ :: _, [] => by simp [compareBytes]
  | x :: a, y :: b => by
    unfold compareBytes
    rw [List.cons_lt_cons_iff]
    by_cases h1 : x < y
    · simp [h1]
    · by_cases h2 : y < x
      · have : x ≠ y := fun e => by subst e; exact UInt8.lt_irrefl x h2
        simp [h1, h2, this]
      · have e : x = y := UInt8.le_antisymm (UInt8.not_lt.1 h2) (UInt8.not_lt.1 h1)
        simp [e, cmp_neg a b]

theorem cmp_trans : ∀ (a b c : List UInt8), compareBytes a b ≤ 0 → compareBytes b c ≤ 0 → compareBytes a c ≤ 0
  | [], _, [] => by simp [compareBytes]
  | [], _, _ :: _ => by simp [compareBytes]
  | _ :: _, [], _ => by simp [compareBytes]
  | _ :: _, _ :: _, [] => by simp [compareBytes]
  | x :: a, y :: b, z :: c => by
    intro h1 h2
    unfold compareBytes at h1 h2 ⊢
    by_cases k1 : x < z
    · simp [k1]
    · have lt_of : ∀ {p q : UInt8}, p < q ↔ p.toNat < q.toNat := fun {p q} => UInt8.lt_iff_toNat_lt
      simp only [lt_of] at *
      split at h1
      · split at h2
        · omega
        · split at h2
          · omega
          · omega
      · split at h1
        · omega
        · split at h2
          · omega
          · split at h2
            · omega
            · rw [if_neg k1, if_neg (by omega)]
              exact cmp_trans a b c h1 h2

/-! ### Labels -/
theorem lab_may {l : List UInt8} (h : isLab l = true) : mayL (l ++ [46, 120]) = true := by
  obtain ⟨h1, h2, h3⟩ := isLab_all h
  have hd : ∀ c ∈ l, c ≠ 46 := fun c hc => (labC_is (h3 c hc)).1
  rw [may_iff, cutD_dot [120] hd]
  have e : cutD [120] = [[120]] := by decide
  rw [e]
  refine ⟨by simp; omega, fun x hx => ?_, by simp [digC]⟩
  simp at hx
  rcases hx with rfl | rfl
  · exact h
  · decide

end Go.Proofs.YtnaoandleelbkaaGreatDoor
