/-
  Domain names over lists of bytes: what stands between the dots, what is a label, a name, what it folds to, its parent, patterns, and what follows of these.
  Plain functions and lemmas; no program.
-/
namespace Go.Proofs.YtamlblfhjpajhaaDoor
set_option linter.unusedSimpArgs false
set_option linter.unusedVariables false

/-- What stands between the dots. -/
def cutD : List UInt8 → List (List UInt8)
  | [] => [[]]
  | c :: t => if c = 46 then [] :: cutD t else (c :: (cutD t).headD []) :: (cutD t).tail

def digC (c : UInt8) : Bool := 48 ≤ c && c ≤ 57
def lowC (c : UInt8) : Bool := 97 ≤ c && c ≤ 122
def labC (c : UInt8) : Bool := lowC c || digC c || c == 45
def isLab (l : List UInt8) : Bool := !l.isEmpty && decide (l.length ≤ 63) && l.all labC && l.headD 0 != 45 && l.getLastD 0 != 45
def mayL (s : List UInt8) : Bool := decide (s.length ≤ 253) && (cutD s).all isLab && ((cutD s).getLastD []).any fun c => !digC c
def labelsL (s : List UInt8) : List (List UInt8) := if mayL s then cutD s else []
/-- What stands behind the first dot; is there one? -/
def behindL (s : List UInt8) : List UInt8 := (s.dropWhile (· != 46)).tail
def dotted (s : List UInt8) : Bool := s.any (· == 46)
def parentL (s : List UInt8) : Option (List UInt8) := if mayL s && dotted s then some (behindL s) else none
def smallC (c : UInt8) : UInt8 := if 65 ≤ c && c ≤ 90 then c + 32 else c
def undot (s : List UInt8) : List UInt8 := if s.getLast? = some 46 then s.dropLast else s
def foldL (s : List UInt8) : Option (List UInt8) := if mayL ((undot s).map smallC) then some ((undot s).map smallC) else none
def starred (p : List UInt8) : Bool := [42, 46].isPrefixOf p
def bareL (p : List UInt8) : List UInt8 := if starred p then p.drop 2 else p
def patL (p : List UInt8) : Bool := mayL (bareL p)
def matchL (p s : List UInt8) : Bool := mayL s && if starred p then parentL s == some (p.drop 2) else p == s
def underL (a s : List UInt8) : Option (List UInt8) := if mayL s && decide (a.length + s.length ≤ 253) then some (a ++ s) else none

/-! ### What stands between the dots -/

theorem cutD_ne (s : List UInt8) : cutD s ≠ [] := by
  cases s with
  | nil => simp [cutD]
  | cons c t => unfold cutD; split <;> simp

theorem cutD_cons {c : UInt8} (h : c ≠ 46) (t : List UInt8) : ∃ a r, cutD t = a :: r ∧ cutD (c :: t) = (c :: a) :: r := by
  cases e : cutD t with
  | nil => exact absurd e (cutD_ne t)
  | cons a r => exact ⟨a, r, rfl, by rw [cutD, if_neg h, e]; rfl⟩

/-- A text without a dot is one part. -/
theorem cutD_plain : ∀ {s : List UInt8}, (∀ c ∈ s, c ≠ 46) → cutD s = [s]
  | [], _ => rfl
  | c :: t, h => by
    have ih := cutD_plain (s := t) fun x hx => h x (by simp [hx])
    rw [cutD, if_neg (h c (by simp)), ih]
    rfl

/-- A part, a dot, and a text behind it. -/
theorem cutD_dot : ∀ {a : List UInt8} (t : List UInt8), (∀ c ∈ a, c ≠ 46) → cutD (a ++ 46 :: t) = a :: cutD t
  | [], t, _ => by simp [cutD]
  | c :: a, t, h => by
    have ih := cutD_dot (a := a) t fun x hx => h x (by simp [hx])
    show cutD (c :: (a ++ 46 :: t)) = _
    rw [cutD, if_neg (h c (by simp)), ih]
    rfl

theorem behind_cons (c : UInt8) (s : List UInt8) : behindL (c :: s) = if c = 46 then s else behindL s := by
  unfold behindL
  by_cases h : c = 46
  · simp [h]
  · have : (c != 46) = true := by simpa using h
    simp [this, h]

theorem behind_dot : ∀ {a : List UInt8} (t : List UInt8), (∀ c ∈ a, c ≠ 46) → behindL (a ++ 46 :: t) = t
  | [], t, _ => by rw [List.nil_append, behind_cons, if_pos rfl]
  | c :: a, t, h => by
    rw [List.cons_append, behind_cons, if_neg (h c (by simp))]
    exact behind_dot t fun x hx => h x (by simp [hx])

/-- Every text is a part without a dot, or that, a dot, and a text. -/
theorem dot_cases : ∀ (s : List UInt8), (dotted s = false ∧ (∀ c ∈ s, c ≠ 46) ∧ behindL s = []) ∨ ∃ a t, s = a ++ 46 :: t ∧ (∀ c ∈ a, c ≠ 46) ∧ dotted s = true ∧ behindL s = t
  | [] => .inl ⟨rfl, by simp, rfl⟩
  | c :: s => by
    by_cases hc : c = 46
    · exact .inr ⟨[], s, by simp [hc], by simp, by simp [dotted, hc], by rw [behind_cons, if_pos hc]⟩
    · rcases dot_cases s with ⟨h1, h2, h3⟩ | ⟨a, t, h1, h2, h3, h4⟩
      · refine .inl ⟨by simpa [dotted, hc] using h1, fun x hx => ?_, by rw [behind_cons, if_neg hc]; exact h3⟩
        rcases List.mem_cons.1 hx with rfl | hx
        · exact hc
        · exact h2 x hx
      · refine .inr ⟨c :: a, t, by simp [h1], fun x hx => ?_, by simpa [dotted, hc] using h3, by rw [behind_cons, if_neg hc]; exact h4⟩
        rcases List.mem_cons.1 hx with rfl | hx
        · exact hc
        · exact h2 x hx

theorem cutD_nodot : ∀ (s : List UInt8) {l : List UInt8}, l ∈ cutD s → ∀ c ∈ l, c ≠ 46
  | [], l, h => by simp [cutD] at h; subst h; simp
  | c :: t, l, h => by
    by_cases hc : c = 46
    · rw [cutD, if_pos hc] at h
      rcases List.mem_cons.1 h with rfl | h
      · simp
      · exact cutD_nodot t h
    · obtain ⟨a, r, e1, e2⟩ := cutD_cons hc t
      rw [e2] at h
      rcases List.mem_cons.1 h with rfl | h
      · intro x hx
        rcases List.mem_cons.1 hx with rfl | hx
        · exact hc
        · exact cutD_nodot t (l := a) (by rw [e1]; simp) x hx
      · exact cutD_nodot t (l := l) (by rw [e1]; simp [h])

/-- Parts, with dots between. -/
def joinD : List (List UInt8) → List UInt8
  | [] => []
  | [a] => a
  | a :: b :: r => a ++ 46 :: joinD (b :: r)

theorem joinD_cons (a : List UInt8) {r : List (List UInt8)} (h : r ≠ []) : joinD (a :: r) = a ++ 46 :: joinD r := by
  cases r with
  | nil => exact absurd rfl h
  | cons b r => rfl

theorem joinD_cutD : ∀ (n : Nat) (s : List UInt8), s.length ≤ n → joinD (cutD s) = s
  | n, s, hn => by
    rcases dot_cases s with ⟨_, h2, _⟩ | ⟨a, t, h1, h2, _, _⟩
    · rw [cutD_plain h2]; rfl
    · subst h1
      rw [cutD_dot t h2, joinD_cons a (cutD_ne t)]
      cases n with
      | zero => simp at hn
      | succ n => rw [joinD_cutD n t (by simp at hn; omega)]

theorem cutD_len : ∀ (s : List UInt8), (cutD s).length ≤ s.length + 1
  | [] => by simp [cutD]
  | c :: t => by
    have ih := cutD_len t
    unfold cutD
    split
    · simp; omega
    · have := cutD_ne t
      cases e : cutD t with
      | nil => exact absurd e this
      | cons a r => rw [e] at ih; simp at ih ⊢; omega

theorem cutD_part : ∀ (n : Nat) (s : List UInt8), s.length ≤ n → ∀ {l : List UInt8}, l ∈ cutD s → l.length ≤ s.length
  | n, s, hn, l, h => by
    rcases dot_cases s with ⟨_, h2, _⟩ | ⟨a, t, h1, h2, _, _⟩
    · rw [cutD_plain h2] at h; simp at h; rw [h]; exact Nat.le_refl _
    · subst h1
      rw [cutD_dot t h2] at h
      rcases List.mem_cons.1 h with rfl | h
      · simp
      · cases n with
        | zero => simp at hn
        | succ n => have := cutD_part n t (by simp at hn; omega) h; simp; omega

/-! ### Names -/

theorem may_iff {s : List UInt8} : mayL s = true ↔ s.length ≤ 253 ∧ (∀ l ∈ cutD s, isLab l = true) ∧ (((cutD s).getLastD []).any fun c => !digC c) = true := by
  unfold mayL; simp [List.all_eq_true]; constructor
  · rintro ⟨⟨a, b⟩, c⟩; exact ⟨a, b, c⟩
  · rintro ⟨a, b, c⟩; exact ⟨⟨a, b⟩, c⟩

theorem may_len {s : List UInt8} (h : mayL s = true) : s.length ≤ 253 := (may_iff.1 h).1
theorem not_may_long {s : List UInt8} (h : 253 < s.length) : mayL s = false := by
  cases e : mayL s with
  | false => rfl
  | true => have := may_len e; omega

theorem may_behind {a t : List UInt8} (ha : ∀ c ∈ a, c ≠ 46) (h : mayL (a ++ 46 :: t) = true) : mayL t = true := by
  rw [may_iff, cutD_dot t ha] at h
  rw [may_iff]
  obtain ⟨h1, h2, h3⟩ := h
  refine ⟨by simp at h1; omega, fun l hl => h2 l (by simp [hl]), ?_⟩
  cases e : cutD t with
  | nil => exact absurd e (cutD_ne t)
  | cons b r => rw [e] at h3; exact h3

theorem parent_may {s p : List UInt8} (h : parentL s = some p) : mayL p = true := by
  unfold parentL at h
  split at h
  · rename_i hh
    simp at hh h
    rcases dot_cases s with ⟨h1, _, _⟩ | ⟨a, t, h1, h2, _, h4⟩
    · rw [h1] at hh; simp at hh
    · rw [h4] at h; subst h; rw [h1] at hh; exact may_behind h2 hh.1
  · cases h

theorem parent_some {s p : List UInt8} : parentL s = some p ↔ mayL s = true ∧ ∃ a, (∀ c ∈ a, c ≠ 46) ∧ s = a ++ 46 :: p := by
  unfold parentL
  rcases dot_cases s with ⟨h1, h2, h3⟩ | ⟨a, t, h1, h2, h3, h4⟩
  · rw [h1]
    simp
    rintro _ a _ rfl
    exact absurd rfl (h2 46 (by simp))
  · rw [h3, h4]
    constructor
    · intro h
      by_cases hm : mayL s = true
      · rw [hm] at h; simp at h; subst h; exact ⟨hm, a, h2, h1⟩
      · simp [hm] at h
    · rintro ⟨hm, a', ha', e⟩
      rw [hm]
      have h5 : behindL s = p := by rw [e]; exact behind_dot p ha'
      rw [h4] at h5
      simp [h5]

theorem parent_labels {s p : List UInt8} (h : parentL s = some p) : labelsL s ≠ [] ∧ labelsL p = (labelsL s).tail ∧ 1 < (labelsL s).length := by
  have hp := parent_may h
  obtain ⟨hm, a, ha, rfl⟩ := parent_some.1 h
  have hn := cutD_ne p
  unfold labelsL
  rw [if_pos hp, if_pos hm, cutD_dot p ha]
  refine ⟨by simp, rfl, ?_⟩
  cases e : cutD p with
  | nil => exact absurd e hn
  | cons b r => simp

theorem parent_none {s : List UInt8} (h : parentL s = none) (hm : mayL s = true) : labelsL s = [s] := by
  unfold parentL at h
  rcases dot_cases s with ⟨h1, h2, h3⟩ | ⟨a, t, h1, h2, h3, h4⟩
  · unfold labelsL; rw [if_pos hm, cutD_plain h2]
  · rw [hm, h3] at h; simp at h

theorem parent_not {s : List UInt8} (hm : mayL s = false) : parentL s = none := by unfold parentL; rw [hm]; rfl

theorem parent_len {s p : List UInt8} (h : parentL s = some p) : p.length < s.length := by
  obtain ⟨_, a, _, rfl⟩ := parent_some.1 h
  simp; omega

end Go.Proofs.YtamlblfhjpajhaaDoor
