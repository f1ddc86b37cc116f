/-
  Plain facts for LineBound: what a framer tells of a text, held against the text's lines.
-/
import Derived.Test.YtgjngldkeiblbaaPure
namespace Go.Proofs.Ytgjngldkeiblbaa

theorem run_far {M : Nat} : ∀ (s l : List UInt8), l.length + s.length < M → (run M l s).2.2 = false ∧
    (((run M l s).1 = [] ∧ l.length ≤ (run M l s).2.1.length) ∨ ∃ x r, (run M l s).1 = x :: r ∧ l.length ≤ x.length + 1) := by
  intro s
  induction s with
  | nil => intro l _; exact ⟨rfl, .inl ⟨rfl, Nat.le_refl _⟩⟩
  | cons b s ih =>
    intro l hM
    simp only [List.length_cons] at hM
    by_cases h : b = 10 ∧ l.getLast? = some 13
    · rw [run_end _ h]
      refine ⟨(ih [] (by simp; omega)).1, .inr ⟨_, _, rfl, ?_⟩⟩
      rw [List.length_dropLast]; omega
    · rw [run_on _ h (by omega)]
      obtain ⟨h1, h2⟩ := ih (l ++ [b]) (by simp; omega)
      refine ⟨h1, ?_⟩
      rcases h2 with ⟨e1, e2⟩ | ⟨x, r, e1, e2⟩
      · exact .inl ⟨e1, by simp at e2; omega⟩
      · exact .inr ⟨x, r, e1, by simp at e2; omega⟩

/-- The next line is too long, or what is left is. -/
def TooLong (m : Nat) (o a : List (List UInt8)) (r : List UInt8) : Prop :=
  (∃ x, a[o.length]? = some x ∧ m < x.length + 2) ∨ (o.length = a.length ∧ m ≤ r.length)

theorem run_bound {m M : Nat} (hm : 2 ≤ m) : ∀ (s l : List UInt8), l.length < m → l.length + s.length < M →
    (run m l s).1 <+: (run M l s).1 ∧ (∀ x ∈ (run m l s).1, x.length + 2 ≤ m) ∧
    ((run m l s).2.2 = false → (run m l s).1 = (run M l s).1 ∧ (run m l s).2.1 = (run M l s).2.1 ∧ (run m l s).2.1.length < m) ∧
    ((run m l s).2.2 = true → TooLong m (run m l s).1 (run M l s).1 (run M l s).2.1) := by
  intro s
  induction s with
  | nil => intro l hl _; exact ⟨List.prefix_refl _, by simp [run_nil], fun _ => ⟨rfl, rfl, hl⟩, fun h => by cases h⟩
  | cons b s ih =>
    intro l hl hM
    simp only [List.length_cons] at hM
    by_cases h : b = 10 ∧ l.getLast? = some 13
    · rw [run_end _ h, run_end (m := M) _ h]
      obtain ⟨h1, h2, h3, h4⟩ := ih [] (by simp; omega) (by simp; omega)
      refine ⟨?_, ?_, ?_, ?_⟩
      · obtain ⟨t, ht⟩ := h1
        exact ⟨t, by simp [ht]⟩
      · intro x hx
        rcases List.mem_cons.1 hx with rfl | hx
        · rw [List.length_dropLast]; omega
        · exact h2 x hx
      · intro hd
        obtain ⟨e1, e2, e3⟩ := h3 hd
        exact ⟨by simp [e1], e2, e3⟩
      · intro hd
        rcases h4 hd with ⟨x, e1, e2⟩ | ⟨e1, e2⟩
        · exact .inl ⟨x, by simpa using e1, e2⟩
        · exact .inr ⟨by simp [e1], e2⟩
    · by_cases hlm : m ≤ l.length + 1
      · rw [run_dies _ h hlm, run_on (m := M) _ h (by omega)]
        refine ⟨List.nil_prefix, by simp, (fun hd => by cases hd), fun _ => ?_⟩
        obtain ⟨_, h2⟩ := run_far s (l ++ [b]) (show (l ++ [b]).length + s.length < M by simp; omega)
        rcases h2 with ⟨e1, e2⟩ | ⟨x, r, e1, e2⟩
        · exact .inr ⟨by rw [e1], by simp at e2; omega⟩
        · exact .inl ⟨x, by rw [e1]; rfl, by simp at e2; omega⟩
      · rw [run_on _ h (by omega), run_on (m := M) _ h (by omega)]
        exact ih (l ++ [b]) (by simp; omega) (by simp; omega)

end Go.Proofs.Ytgjngldkeiblbaa
