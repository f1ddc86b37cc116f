/-
  Domain names over lists of bytes: folding, patterns, the row of texts. Plain lemmas; no program.
-/
import Derived.Lib.Bytealg
import Derived.Test.YtamlblfhjpajhaaDoorNPure
namespace Go.Proofs.YtamlblfhjpajhaaDoor
set_option linter.unusedSimpArgs false
set_option linter.unusedVariables false

/-- A byte of a label is no dot, no star, no great letter. -/
theorem labC_is {c : UInt8} (h : labC c = true) : c ≠ 46 ∧ c ≠ 42 ∧ smallC c = c := by
  revert h
  have : ∀ c : UInt8, labC c = true → c ≠ 46 ∧ c ≠ 42 ∧ smallC c = c := by
    intro c
    have key : ∀ n : Fin 256, labC (UInt8.ofNat n) = true → UInt8.ofNat n ≠ 46 ∧ UInt8.ofNat n ≠ 42 ∧ smallC (UInt8.ofNat n) = UInt8.ofNat n := by decide +kernel
    have := key ⟨c.toNat, c.toNat_lt⟩
    simpa using this
  exact this c

theorem isLab_all {l : List UInt8} (h : isLab l = true) : l ≠ [] ∧ l.length ≤ 63 ∧ ∀ c ∈ l, labC c = true := by
  unfold isLab at h
  simp at h
  exact ⟨h.1.1.1.1, h.1.1.1.2, fun c hc => h.1.1.2 c hc⟩

theorem mem_cutD : ∀ (s : List UInt8) {c : UInt8}, c ∈ s → c = 46 ∨ ∃ l ∈ cutD s, c ∈ l
  | x :: t, c, h => by
    by_cases hx : x = 46
    · rcases List.mem_cons.1 h with rfl | h
      · exact .inl hx
      · rcases mem_cutD t h with h | ⟨l, hl, hc⟩
        · exact .inl h
        · exact .inr ⟨l, by rw [cutD, if_pos hx]; simp [hl], hc⟩
    · obtain ⟨a, r, e1, e2⟩ := cutD_cons hx t
      rcases List.mem_cons.1 h with rfl | h
      · exact .inr ⟨c :: a, by rw [e2]; simp, by simp⟩
      · rcases mem_cutD t h with h | ⟨l, hl, hc⟩
        · exact .inl h
        · rw [e1] at hl
          rcases List.mem_cons.1 hl with rfl | hl
          · exact .inr ⟨x :: l, by rw [e2]; simp, by simp [hc]⟩
          · exact .inr ⟨l, by rw [e2]; simp [hl], hc⟩

theorem may_bytes {s : List UInt8} (h : mayL s = true) : ∀ c ∈ s, c ≠ 42 ∧ smallC c = c := by
  intro c hc
  obtain ⟨_, h2, _⟩ := may_iff.1 h
  rcases mem_cutD s hc with rfl | ⟨l, hl, hcl⟩
  · decide
  · exact (labC_is ((isLab_all (h2 l hl)).2.2 c hcl)).2

theorem map_small {s : List UInt8} (h : ∀ c ∈ s, smallC c = c) : s.map smallC = s := by
  induction s with
  | nil => rfl
  | cons c t ih => simp [h c (by simp), ih fun x hx => h x (by simp [hx])]

theorem may_small {s : List UInt8} (h : mayL s = true) : s.map smallC = s := map_small fun c hc => (may_bytes h c hc).2

theorem cutD_last (s : List UInt8) : cutD (s ++ [46]) = cutD s ++ [[]] := by
  induction s with
  | nil => simp [cutD]
  | cons c t ih =>
    show cutD (c :: (t ++ [46])) = _
    by_cases hc : c = 46
    · rw [cutD, if_pos hc, cutD, if_pos hc, ih]; rfl
    · rw [cutD, if_neg hc, cutD, if_neg hc, ih]
      cases e : cutD t with
      | nil => exact absurd e (cutD_ne _)
      | cons a r => rfl

theorem cutD_last_dot (s : List UInt8) : [] ∈ cutD (s ++ [46]) := by rw [cutD_last]; simp

theorem may_undot {s : List UInt8} (h : mayL s = true) : undot s = s := by
  unfold undot
  split
  · rename_i hl
    exfalso
    obtain ⟨_, h2, _⟩ := may_iff.1 h
    obtain ⟨t, e⟩ := List.getLast?_eq_some_iff.1 hl
    rw [e] at h2
    have := h2 [] (cutD_last_dot _)
    simp [isLab] at this
  · rfl

theorem fold_may {s : List UInt8} (h : mayL s = true) : foldL s = some s := by
  unfold foldL
  rw [may_undot h, may_small h, if_pos h]

theorem fold_is {s a : List UInt8} (h : foldL s = some a) : mayL a = true := by
  unfold foldL at h
  split at h
  · rename_i hm; simp at h; subst h; exact hm
  · cases h

/-- Some letters great: the same small. -/
def LikeC (x c : UInt8) : Prop := x = c ∨ (97 ≤ c ∧ c ≤ 122 ∧ x = c - 32)
theorem likeC_small {x c : UInt8} (h : LikeC x c) : smallC x = smallC c ∧ (x = 46 ↔ c = 46) := by
  rcases h with rfl | ⟨h1, h2, rfl⟩
  · exact ⟨rfl, Iff.rfl⟩
  · have key : ∀ n : Fin 256, 97 ≤ UInt8.ofNat n → UInt8.ofNat n ≤ 122 → smallC (UInt8.ofNat n - 32) = smallC (UInt8.ofNat n) ∧ (UInt8.ofNat n - 32 = 46 ↔ UInt8.ofNat n = 46) := by decide +kernel
    have := key ⟨c.toNat, c.toNat_lt⟩
    simp only [UInt8.ofNat_toNat] at this
    exact this h1 h2

def LikeL : List UInt8 → List UInt8 → Prop
  | [], [] => True
  | x :: xs, c :: cs => LikeC x c ∧ LikeL xs cs
  | _, _ => False

theorem LikeL.refl : ∀ s, LikeL s s
  | [] => trivial
  | _ :: t => ⟨.inl rfl, LikeL.refl t⟩
theorem LikeL.small : ∀ {a b : List UInt8}, LikeL a b → a.map smallC = b.map smallC
  | [], [], _ => rfl
  | x :: xs, c :: cs, h => by simp [(likeC_small h.1).1, LikeL.small h.2]
  | [], _ :: _, h => h.elim
  | _ :: _, [], h => h.elim
theorem LikeL.last_ : ∀ {a b : List UInt8}, LikeL a b → (a.getLast? = some 46 ↔ b.getLast? = some 46) ∧ LikeL a.dropLast b.dropLast
  | [], [], _ => ⟨Iff.rfl, trivial⟩
  | [x], [c], h => ⟨by simp [(likeC_small h.1).2], trivial⟩
  | x :: y :: ys, c :: d :: ds, h => by
    have ih := LikeL.last_ h.2
    exact ⟨by simpa [List.getLast?_cons_cons] using ih.1, ⟨h.1, ih.2⟩⟩
  | [], _ :: _, h => h.elim
  | _ :: _, [], h => h.elim
  | [_], _ :: _ :: _, h => h.2.elim
  | _ :: _ :: _, [_], h => h.2.elim
theorem LikeL.undot_ {a b : List UInt8} (h : LikeL a b) : (undot a).map smallC = (undot b).map smallC := by
  obtain ⟨k1, k2⟩ := h.last_
  unfold undot
  by_cases hb : b.getLast? = some 46
  · rw [if_pos hb, if_pos (k1.2 hb)]; exact k2.small
  · rw [if_neg hb, if_neg (fun h => hb (k1.1 h))]; exact h.small
theorem LikeL.fold {a b : List UInt8} (h : LikeL a b) : foldL a = foldL b := by unfold foldL; rw [h.undot_]
theorem undot_dot (s : List UInt8) : undot (s ++ [46]) = s := by unfold undot; simp
theorem LikeL.fold_dot {a b : List UInt8} (h : LikeL a b) (hb : mayL b = true) : foldL (a ++ [46]) = some b := by
  unfold foldL
  rw [undot_dot, h.small, may_small hb, if_pos hb]

/-! ### Patterns -/
theorem may_unstarred {s : List UInt8} (h : mayL s = true) : starred s = false := by
  cases s with
  | nil => rfl
  | cons c t =>
    have := (may_bytes h c (by simp)).1
    have e : ¬ 42 = c := fun e => this e.symm
    cases t <;> simp [starred, List.isPrefixOf, e]

theorem match_self (s : List UInt8) : matchL s s = mayL s := by
  unfold matchL
  cases h : mayL s with
  | false => rfl
  | true => rw [may_unstarred h]; simp

theorem star_cons (s : List UInt8) : starred (42 :: 46 :: s) = true := by simp [starred]
theorem match_star (t s : List UInt8) : matchL (42 :: 46 :: t) s = (parentL s == some t) := by
  unfold matchL
  rw [star_cons]
  cases h : mayL s with
  | false => rw [parent_not h]; rfl
  | true => simp

theorem match_starred {p s : List UInt8} (h : starred p = true) : matchL p s = (parentL s == some (p.drop 2)) := by
  unfold matchL
  rw [h]
  cases hm : mayL s with
  | false => rw [parent_not hm]; rfl
  | true => simp

theorem match_bare {p s : List UInt8} (h : starred p = false) : matchL p s = (mayL s && p == s) := by
  unfold matchL
  rw [h]
  simp

theorem match_not_both {p s up : List UInt8} (h : parentL s = some up) : (matchL p s && matchL p up) = false := by
  have hl := parent_len h
  cases hp : starred p with
  | true =>
    rw [match_starred hp, match_starred hp, h]
    cases e : parentL up with
    | none => simp
    | some q =>
      have := parent_len e
      by_cases h1 : up = p.drop 2
      · have h2 : q ≠ p.drop 2 := by intro h2; rw [h1, h2] at this; omega
        simp [h2]
      · simp [h1]
  | false =>
    rw [match_bare hp, match_bare hp]
    by_cases h1 : p = s
    · have h2 : ¬ p = up := by intro h2; rw [← h1, h2] at hl; omega
      simp [h2]
    · simp [h1]

theorem match_above (s : List UInt8) : matchL (42 :: 46 :: s) s = false := by
  rw [match_star]
  cases e : parentL s with
  | none => rfl
  | some q =>
    have := parent_len e
    have h2 : q ≠ s := by intro h2; rw [h2] at this; omega
    simp [h2]

/-! ### The row -/
open Go.Lib (compareBytes)
theorem cmp_swap : ∀ (a b : List UInt8), compareBytes b a = - compareBytes a b
  | [], [] => rfl
  | [], _ :: _ => rfl
  | _ :: _, [] => rfl
  | x :: a, y :: b => by
    unfold compareBytes
    by_cases h1 : x < y
    · have h2 : ¬ y < x := UInt8.lt_asymm h1
      simp [h1, h2]
    · by_cases h2 : y < x
      · simp [h1, h2]
      · simp [h1, h2, cmp_swap a b]

theorem cmp_bound : ∀ (a b : List UInt8), -1 ≤ compareBytes a b ∧ compareBytes a b ≤ 1
  | [], [] => by simp [compareBytes]
  | [], _ :: _ => by simp [compareBytes]
  | _ :: _, [] => by simp [compareBytes]
  | x :: a, y :: b => by
    unfold compareBytes
    split
    · omega
    · split
      · omega
      · exact cmp_bound a b

theorem cmp_zero : ∀ (a b : List UInt8), compareBytes a b = 0 ↔ a = b
  | [], [] => by simp [compareBytes]
  | [], _ :: _ => by simp [compareBytes]
  | _ :: _, [] => by simp [compareBytes]
  | x :: a, y :: b => by
    unfold compareBytes
    by_cases h1 : x < y
    · have : x ≠ y := fun e => by subst e; exact UInt8.lt_irrefl x h1
      simp [h1, this]
    · by_cases h2 : y < x
      · have : x ≠ y := fun e => by subst e; exact UInt8.lt_irrefl x h2
        simp [h1, h2, this]
      · have e : x = y := UInt8.le_antisymm (UInt8.not_lt.1 h2) (UInt8.not_lt.1 h1)
        simp [e, cmp_zero a b]

theorem cmp_neg : ∀ (a b : List UInt8), compareBytes a b < 0 ↔ a < b
  | [], [] => by simp [compareBytes]
  | [], _ :: _ => by simp [compareBytes]
  | _ :: _, [] => by simp [compareBytes]
  | x :: a, y :: b => by
    unfold compareBytes
    rw [List.cons_lt_cons_iff]
    by_cases h1 : x < y
    · simp [h1]
    · by_cases h2 : y < x
      · have : x ≠ y := fun e => by subst e; exact UInt8.lt_irrefl x h2
        simp [h1, h2, this]
      · have e : x = y := UInt8.le_antisymm (UInt8.not_lt.1 h2) (UInt8.not_lt.1 h1)
        simp [e, cmp_neg a b]

theorem cmp_trans : ∀ (a b c : List UInt8), compareBytes a b ≤ 0 → compareBytes b c ≤ 0 → compareBytes a c ≤ 0
  | [], _, [] => by simp [compareBytes]
  | [], _, _ :: _ => by simp [compareBytes]
  | _ :: _, [], _ => by simp [compareBytes]
  | _ :: _, _ :: _, [] => by simp [compareBytes]
  | x :: a, y :: b, z :: c => by
    intro h1 h2
    unfold compareBytes at h1 h2 ⊢
    by_cases k1 : x < z
    · simp [k1]
    · have lt_of : ∀ {p q : UInt8}, p < q ↔ p.toNat < q.toNat := fun {p q} => UInt8.lt_iff_toNat_lt
      simp only [lt_of] at *
      split at h1
      · split at h2
        · omega
        · split at h2
          · omega
          · omega
      · split at h1
        · omega
        · split at h2
          · omega
          · split at h2
            · omega
            · rw [if_neg k1, if_neg (by omega)]
              exact cmp_trans a b c h1 h2

/-! ### Labels -/
theorem lab_may {l : List UInt8} (h : isLab l = true) : mayL (l ++ [46, 120]) = true := by
  obtain ⟨h1, h2, h3⟩ := isLab_all h
  have hd : ∀ c ∈ l, c ≠ 46 := fun c hc => (labC_is (h3 c hc)).1
  rw [may_iff, cutD_dot [120] hd]
  have e : cutD [120] = [[120]] := by decide
  rw [e]
  refine ⟨by simp; omega, fun x hx => ?_, by simp [digC]⟩
  simp at hx
  rcases hx with rfl | rfl
  · exact h
  · decide

end Go.Proofs.YtamlblfhjpajhaaDoor
