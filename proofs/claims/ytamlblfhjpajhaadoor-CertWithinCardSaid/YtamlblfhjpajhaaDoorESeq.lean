/-
  Things one behind the other, plainly: what is handed over, what All makes of it.
-/
import Derived.Test.YtamlblfhjpajhaaDoorEPure
namespace Go.Proofs.YtamlblfhjpajhaaDoor
open Go Go.RowKit
set_option maxRecDepth 100000
set_option linter.unusedSimpArgs false
set_option linter.unusedVariables false

/-- What the iterator hands over: things, and why it ends. -/
def seqF : Nat → List UInt8 → List (Tv × Nat)
  | 0, _ => []
  | f + 1, s => if s.isEmpty then [] else match cutP s with
    | .er e => [((0, []), e)]
    | .ok (x, r) => (x, 0) :: seqF f r
def seqL (s : List UInt8) : List (Tv × Nat) := seqF s.length s
theorem cutP_shorter {s r v : List UInt8} {t : UInt8} (h : cutP s = .ok ((t, v), r)) : r.length + 2 ≤ s.length := by
  obtain ⟨h1, h2, rfl⟩ := cutP_ok h
  have h3 := putT_length t v
  have h4 := lenL_length v.length
  simp; omega
theorem seqF_more (f g : Nat) (s : List UInt8) (hf : s.length ≤ f) (hg : s.length ≤ g) : seqF f s = seqF g s := by
  induction f generalizing g s with
  | zero =>
    obtain rfl : s = [] := List.length_eq_zero_iff.1 (by omega)
    cases g with
    | zero => rfl
    | succ g => rfl
  | succ f ih =>
    cases g with
    | zero =>
      obtain rfl : s = [] := List.length_eq_zero_iff.1 (by omega)
      rfl
    | succ g =>
      unfold seqF
      by_cases he : s.isEmpty = true
      · rw [if_pos he, if_pos he]
      · rw [if_neg he, if_neg he]
        cases hc : cutP s with
        | er e => rfl
        | ok p =>
          obtain ⟨⟨t, v⟩, r⟩ := p
          have := cutP_shorter hc
          simp only
          rw [ih g r (by omega) (by omega)]
theorem seqL_nil : seqL [] = [] := rfl
theorem seqL_er {s : List UInt8} {e : Nat} (h0 : s ≠ []) (h : cutP s = .er e) : seqL s = [((0, []), e)] := by
  cases s with
  | nil => exact absurd rfl h0
  | cons b l => show seqF (l.length + 1) (b :: l) = _; unfold seqF; rw [h]; rfl
theorem seqL_ok {s r : List UInt8} {x : Tv} (h : cutP s = .ok (x, r)) : seqL s = (x, 0) :: seqL r := by
  have h1 := cutP_shorter (t := x.1) (v := x.2) h
  cases s with
  | nil => simp at h1
  | cons b l =>
    show seqF (l.length + 1) (b :: l) = _
    unfold seqF; rw [h]
    show (x, 0) :: seqF l.length r = _
    rw [seqF_more l.length r.length r (by simp at h1; omega) (Nat.le_refl _)]; rfl
theorem seqF_len (f : Nat) (s : List UInt8) : (seqF f s).length ≤ f := by
  induction f generalizing s with
  | zero => simp [seqF]
  | succ f ih =>
    unfold seqF
    split
    · simp
    · cases hc : cutP s with
      | er e => simp
      | ok p => have := ih p.2; simp; omega
theorem seqL_len (s : List UInt8) : (seqL s).length ≤ s.length := seqF_len _ _
/-- What All makes of what comes. -/
def allOf : List (Tv × Nat) → List Tv → Rd (List Tv)
  | [], acc => .ok acc
  | (x, e) :: L, acc => if e ≠ 0 then .er e else if acc.length = 64 then .er 40 else allOf L (acc ++ [x])
def allR (s : List UInt8) : Rd (List Tv) := allOf (seqL s) []
def okS (q : List (Tv × Nat)) : Prop := ∀ x ∈ q, x.2 = 0
theorem allOf_app (q L : List (Tv × Nat)) (acc : List Tv) (h : okS q) (hl : acc.length + q.length ≤ 64) : allOf (q ++ L) acc = allOf L (acc ++ q.map (·.1)) := by
  induction q generalizing acc with
  | nil => simp
  | cons x q ih =>
    obtain ⟨x, e⟩ := x
    have he : e = 0 := h (x, e) (by simp)
    subst he
    show (if (0 : Nat) ≠ 0 then _ else if acc.length = 64 then _ else allOf (q ++ L) (acc ++ [x])) = _
    rw [if_neg (by simp), if_neg (by simp at hl; omega), ih _ (fun y hy => h y (by simp [hy])) (by simp at hl ⊢; omega)]
    simp
theorem allR_done {s : List UInt8} (h : okS (seqL s)) (hl : (seqL s).length ≤ 64) : allR s = .ok ((seqL s).map (·.1)) := by
  have := allOf_app (seqL s) [] [] h (by simpa using hl)
  rw [List.append_nil] at this
  unfold allR; rw [this]; simp [allOf]
theorem allR_er {s : List UInt8} {q : List (Tv × Nat)} {x : Tv} {e : Nat} (hp : q ++ [(x, e)] <+: seqL s) (h : okS q) (hl : q.length ≤ 64) (he : e ≠ 0) : allR s = .er e := by
  obtain ⟨r, hr⟩ := hp
  unfold allR
  rw [← hr, List.append_assoc, allOf_app q _ [] h (by simpa using hl)]
  show (if e ≠ 0 then _ else _) = _
  rw [if_pos he]
theorem allR_many {s : List UInt8} {q : List (Tv × Nat)} {x : Tv} (hp : q ++ [(x, 0)] <+: seqL s) (h : okS q) (hl : q.length = 64) : allR s = .er 40 := by
  obtain ⟨r, hr⟩ := hp
  unfold allR
  rw [← hr, List.append_assoc, allOf_app q _ [] h (by simp; omega)]
  show (if (0 : Nat) ≠ 0 then _ else if (([] : List Tv) ++ q.map (·.1)).length = 64 then _ else _) = _
  rw [if_neg (by simp), if_pos (by simpa using hl)]
/-! ### Things one behind the other -/
def putsL : List Tv → List UInt8
  | [] => []
  | x :: l => putT x.1 x.2 ++ putsL l
def goodT (x : Tv) : Prop := tagB x.1 = true ∧ x.2.length ≤ 65535
theorem putsL_app (a b : List Tv) : putsL (a ++ b) = putsL a ++ putsL b := by
  induction a with
  | nil => rfl
  | cons x a ih => show putT x.1 x.2 ++ putsL (a ++ b) = _; rw [ih, ← List.append_assoc]; rfl
theorem seqL_puts (l : List Tv) (h : ∀ x ∈ l, goodT x) (s : List UInt8) : seqL (putsL l ++ s) = l.map (fun x => (x, 0)) ++ seqL s := by
  induction l with
  | nil => rfl
  | cons x l ih =>
    obtain ⟨h1, h2⟩ := h x (by simp)
    show seqL (putT x.1 x.2 ++ putsL l ++ s) = _
    rw [List.append_assoc, seqL_ok (cutP_put x.1 x.2 _ h1 h2), ih (fun y hy => h y (by simp [hy]))]
    rfl
theorem okS_map (l : List Tv) : okS (l.map (fun x => (x, 0))) := by
  intro x hx
  obtain ⟨y, _, rfl⟩ := List.mem_map.1 hx
  rfl
theorem allR_puts (l : List Tv) (h : ∀ x ∈ l, goodT x) : allR (putsL l) = if l.length ≤ 64 then .ok l else .er 40 := by
  have e := seqL_puts l h []
  rw [List.append_nil, seqL_nil, List.append_nil] at e
  by_cases hl : l.length ≤ 64
  · rw [if_pos hl, allR_done (by rw [e]; exact okS_map l) (by rw [e]; simpa using hl), e]
    simp [Function.comp_def]
  · rw [if_neg hl]
    have hs : l = l.take 64 ++ l.getD 64 (0, []) :: l.drop 65 := by
      have h64 : 64 < l.length := by omega
      rw [List.getD_eq_getElem?_getD, List.getElem?_eq_getElem h64]
      show l = l.take 64 ++ l[64] :: l.drop (64 + 1)
      rw [← List.drop_eq_getElem_cons h64, List.take_append_drop]
    refine allR_many (q := (l.take 64).map (fun x => (x, 0))) (x := l.getD 64 (0, [])) ?_ (okS_map _) (by simp; omega)
    refine ⟨(l.drop 65).map (fun x => (x, 0)), ?_⟩
    rw [e]
    conv => rhs; rw [hs]
    simp
/-- Where a thing ends. -/
def endsL : Nat → List Tv → List Nat
  | _, [] => []
  | n, x :: l => (n + (putT x.1 x.2).length) :: endsL (n + (putT x.1 x.2).length) l
/-- Cut at a place. -/
theorem seqL_cut (l : List Tv) (h : ∀ x ∈ l, goodT x) (at_ : Nat) (hat : at_ ≤ (putsL l).length) (n : Nat) :
    (at_ = 0 ∨ n + at_ ∈ endsL n l → okS (seqL ((putsL l).take at_))) ∧
    (¬ (at_ = 0 ∨ n + at_ ∈ endsL n l) → ∃ q, q ++ [((0, []), 8)] = seqL ((putsL l).take at_) ∧ okS q ∧ q.length ≤ l.length) ∧ (seqL ((putsL l).take at_)).length ≤ l.length := by
  induction l generalizing at_ n with
  | nil =>
    have : at_ = 0 := by simpa [putsL] using hat
    subst this
    exact ⟨fun _ x hx => by simp [putsL, seqL, seqF] at hx, fun h => absurd (.inl rfl) h, by simp [putsL, seqL, seqF]⟩
  | cons x l ih =>
    obtain ⟨h1, h2⟩ := h x (by simp)
    have hl : ∀ y ∈ l, goodT y := fun y hy => h y (by simp [hy])
    have hp2 : 2 ≤ (putT x.1 x.2).length := by have := putT_length x.1 x.2; have := lenL_length x.2.length; omega
    show _ ∧ _ ∧ (seqL ((putT x.1 x.2 ++ putsL l).take at_)).length ≤ _
    simp only [putsL, endsL, List.mem_cons]
    by_cases hz : at_ = 0
    · subst hz
      rw [List.take_zero, seqL_nil]
      exact ⟨fun _ x hx => (by cases hx), fun h => absurd (.inl rfl) h, Nat.zero_le _⟩
    · by_cases hc : at_ < (putT x.1 x.2).length
      · have e : (putT x.1 x.2 ++ putsL l).take at_ = (putT x.1 x.2).take at_ := List.take_append_of_le_length (by omega)
        rw [e, seqL_er (by intro e; have := congrArg List.length e; rw [List.length_take, List.length_nil] at this; omega) (cutP_short x.1 x.2 h1 h2 at_ hc)]
        have hends : ∀ (l : List Tv) (m k : Nat), k ∈ endsL m l → m < k := by
          intro l
          induction l with
          | nil => intro m k h; cases h
          | cons y l ih2 =>
            intro m k h
            have hp3 : 2 ≤ (putT y.1 y.2).length := by have := putT_length y.1 y.2; have := lenL_length y.2.length; omega
            simp only [endsL, List.mem_cons] at h
            rcases h with rfl | h
            · omega
            · have := ih2 _ _ h; omega
        refine ⟨?_, fun _ => ⟨[], rfl, (by intro x hx; cases hx), by simp⟩, by simp⟩
        rintro (h | h | h)
        · exact absurd h hz
        · omega
        · have := hends _ _ _ h; omega
      · obtain ⟨k, rfl⟩ : ∃ k, at_ = (putT x.1 x.2).length + k := ⟨at_ - (putT x.1 x.2).length, by omega⟩
        have e : (putT x.1 x.2 ++ putsL l).take ((putT x.1 x.2).length + k) = putT x.1 x.2 ++ (putsL l).take k := by
          rw [List.take_append, List.take_of_length_le (by omega)]; congr 2; omega
        rw [e, seqL_ok (cutP_put x.1 x.2 _ h1 h2)]
        obtain ⟨i1, i2, i3⟩ := ih hl k (by simp [putsL] at hat; omega) (n + (putT x.1 x.2).length)
        have hiff : ((putT x.1 x.2).length + k = 0 ∨ n + ((putT x.1 x.2).length + k) = n + (putT x.1 x.2).length ∨ n + ((putT x.1 x.2).length + k) ∈ endsL (n + (putT x.1 x.2).length) l) ↔ (k = 0 ∨ n + (putT x.1 x.2).length + k ∈ endsL (n + (putT x.1 x.2).length) l) := by
          rw [← Nat.add_assoc]
          constructor
          · rintro (h | h | h)
            · omega
            · exact .inl (by omega)
            · exact .inr h
          · rintro (h | h)
            · exact .inr (.inl (by omega))
            · exact .inr (.inr h)
        rw [hiff]
        refine ⟨fun h y hy => ?_, fun h => ?_, by simpa using i3⟩
        · rcases List.mem_cons.1 hy with rfl | hy
          · rfl
          · exact i1 h y hy
        · obtain ⟨q, h3, h4, h5⟩ := i2 h
          refine ⟨((x.1, x.2), 0) :: q, by rw [List.cons_append, h3], fun y hy => ?_, by simpa using h5⟩
          rcases List.mem_cons.1 hy with rfl | hy
          · rfl
          · exact h4 y hy
end Go.Proofs.YtamlblfhjpajhaaDoor
