/-
  Plain functions on lists of bytes: a text's lines and what stands behind them ('cutL', 'restL'), what is sent of it, what bytes were sent of ('uns'), how many dots, whether there is an end; and what follows of them.
-/
import Derived.Test.YtkffdhdhjfbhjaaDoorLnJoin
namespace Go.Proofs.YtkffdhdhjfbhjaaDoor
open Go Go.RowKit
set_option maxRecDepth 100000

/-! ### A text's lines -/
def cutL (s : List UInt8) : List (List UInt8) := (run (s.length + 1) [] s).1
def restL (s : List UInt8) : List UInt8 := (run (s.length + 1) [] s).2.1

theorem run_alive {M : Nat} : ∀ (s l : List UInt8), l.length + s.length < M → (run M l s).2.2 = false := by
  intro s
  induction s with
  | nil => intro l _; rfl
  | cons b s ih =>
    intro l hM
    simp only [List.length_cons] at hM
    by_cases h : b = 10 ∧ l.getLast? = some 13
    · rw [run_end _ h]; exact ih [] (by simp; omega)
    · rw [run_on _ h (by omega)]; exact ih (l ++ [b]) (by simp; omega)

theorem run_indep {M M' : Nat} : ∀ (s l : List UInt8), l.length + s.length < M → l.length + s.length < M' → run M l s = run M' l s := by
  intro s
  induction s with
  | nil => intro l _ _; rfl
  | cons b s ih =>
    intro l h1 h2
    simp only [List.length_cons] at h1 h2
    by_cases h : b = 10 ∧ l.getLast? = some 13
    · rw [run_end _ h, run_end _ h, ih [] (by simp; omega) (by simp; omega)]
    · rw [run_on _ h (by omega), run_on _ h (by omega), ih (l ++ [b]) (by simp; omega) (by simp; omega)]

theorem run_cut_eq (s : List UInt8) : run (s.length + 1) [] s = (cutL s, restL s, false) := by
  have := run_alive (M := s.length + 1) s [] (by simp)
  unfold cutL restL
  rw [← this]

theorem cut_nil : cutL [] = [] ∧ restL [] = [] := ⟨rfl, rfl⟩

theorem cut_cons {a : List UInt8} (r : List UInt8) (h : NoCL (a ++ [13])) : cutL (a ++ 13 :: 10 :: r) = a :: cutL r ∧ restL (a ++ 13 :: 10 :: r) = restL r := by
  have e := run_hit (m := (a ++ 13 :: 10 :: r).length + 1) (r := r) h (by simp) (a ++ 13 :: 10 :: r) [] rfl (by simp)
  have e2 := run_indep (M := (a ++ 13 :: 10 :: r).length + 1) (M' := r.length + 1) r [] (by simp; omega) (by simp)
  rw [e2] at e
  unfold cutL restL
  rw [e]
  exact ⟨rfl, rfl⟩

theorem cut_none {s : List UInt8} (h : NoCL s) : cutL s = [] ∧ restL s = s := by
  have e := run_rest (m := s.length + 1) s [] (by simpa using h) (by simp)
  unfold cutL restL
  rw [e]
  exact ⟨rfl, by simp⟩

theorem line_cases (s : List UInt8) : NoCL s ∨ ∃ a r, NoCL (a ++ [13]) ∧ s = a ++ 13 :: 10 :: r := by
  rcases Lib.index_spec s [13, 10] with ⟨h, _⟩ | ⟨i, h, _⟩
  · exact .inl (noCL_of_index h)
  · obtain ⟨h1, h2, _⟩ := hit_of_index h
    exact .inr ⟨_, _, h1, h2⟩

/-- Whatever holds of texts without a line's end, and behind a line if it holds of what is behind, holds of all. -/
theorem line_ind {P : List UInt8 → Prop} (h0 : ∀ s, NoCL s → P s) (h1 : ∀ a r, NoCL (a ++ [13]) → P r → P (a ++ 13 :: 10 :: r)) (s : List UInt8) : P s := by
  have key : ∀ n, ∀ s : List UInt8, s.length ≤ n → P s := by
    intro n
    induction n with
    | zero =>
      intro s hs
      obtain rfl : s = [] := List.eq_nil_of_length_eq_zero (by omega)
      exact h0 [] (fun i h => by simp at h)
    | succ n ih =>
      intro s hs
      rcases line_cases s with h | ⟨a, r, ha, rfl⟩
      · exact h0 s h
      · exact h1 a r ha (ih r (by simp at hs; omega))
  exact key _ s (Nat.le_refl _)

theorem noCL_nil : NoCL [] := fun i h => by simp at h

theorem joinL_cons (x : List UInt8) (xs : List (List UInt8)) : joinL (x :: xs) = x ++ 13 :: 10 :: joinL xs := by simp [joinL]
theorem joinL_append (xs ys : List (List UInt8)) : joinL (xs ++ ys) = joinL xs ++ joinL ys := by simp [joinL]

/-- The lines, each with its end, and what is behind, are the text. -/
theorem join_cut (s : List UInt8) : joinL (cutL s) ++ restL s = s := by
  refine line_ind (P := fun s => joinL (cutL s) ++ restL s = s) (fun s h => ?_) (fun a r h ih => ?_) s
  · rw [(cut_none h).1, (cut_none h).2]; rfl
  · rw [(cut_cons r h).1, (cut_cons r h).2, joinL_cons, List.append_assoc, List.cons_append, List.cons_append, ih]

theorem cut_clean (s : List UInt8) : (∀ l ∈ cutL s, NoCL (l ++ [13])) ∧ NoCL (restL s) := by
  refine line_ind (P := fun s => (∀ l ∈ cutL s, NoCL (l ++ [13])) ∧ NoCL (restL s)) (fun s h => ?_) (fun a r h ih => ?_) s
  · rw [(cut_none h).1, (cut_none h).2]; exact ⟨by simp, h⟩
  · rw [(cut_cons r h).1, (cut_cons r h).2]
    refine ⟨fun l hl => ?_, ih.2⟩
    rcases List.mem_cons.1 hl with rfl | hl
    · exact h
    · exact ih.1 l hl

/-- Lines that are put ahead of a text are its first lines. -/
theorem cut_join (xs : List (List UInt8)) (t : List UInt8) (h : ∀ x ∈ xs, NoCL (x ++ [13])) : cutL (joinL xs ++ t) = xs ++ cutL t ∧ restL (joinL xs ++ t) = restL t := by
  induction xs with
  | nil => exact ⟨rfl, rfl⟩
  | cons x xs ih =>
    obtain ⟨i1, i2⟩ := ih fun y hy => h y (by simp [hy])
    have e : joinL (x :: xs) ++ t = x ++ 13 :: 10 :: (joinL xs ++ t) := by rw [joinL_cons]; simp
    rw [e, (cut_cons _ (h x (by simp))).1, (cut_cons _ (h x (by simp))).2, i1, i2]
    exact ⟨rfl, rfl⟩

theorem cut_len (s : List UInt8) : (joinL (cutL s)).length + (restL s).length = s.length ∧ (cutL s).length ≤ s.length ∧ ∀ l ∈ cutL s, l.length + 2 ≤ s.length := by
  have h := congrArg List.length (join_cut s)
  rw [List.length_append] at h
  have key : ∀ xs : List (List UInt8), xs.length ≤ (joinL xs).length ∧ ∀ l ∈ xs, l.length + 2 ≤ (joinL xs).length := by
    intro xs
    induction xs with
    | nil => exact ⟨Nat.le_refl _, by simp⟩
    | cons x xs ih =>
      rw [joinL_cons]
      simp only [List.length_append, List.length_cons]
      refine ⟨by omega, fun l hl => ?_⟩
      rcases List.mem_cons.1 hl with rfl | hl
      · omega
      · have := ih.2 l hl; omega
  obtain ⟨k1, k2⟩ := key (cutL s)
  exact ⟨h, by omega, fun l hl => by have := k2 l hl; omega⟩

/-! ### Dots -/
def dotB (l : List UInt8) : Bool := l.head? == some 46
def dotd (l : List UInt8) : List UInt8 := if dotB l then 46 :: l else l
def undL (l : List UInt8) : List UInt8 := if dotB l then l.drop 1 else l
def badL (l : List UInt8) : Bool := dotB l && !dotB (undL l)

theorem noCL_cons {l : List UInt8} (h : NoCL (l ++ [13])) : NoCL (46 :: l ++ [13]) := by
  intro i hi
  cases i with
  | zero => simp at hi
  | succ i => exact h i (by simpa using hi)
theorem noCL_drop {l : List UInt8} (h : NoCL (l ++ [13])) : NoCL (l.drop 1 ++ [13]) := by
  cases l with
  | nil => exact h
  | cons x l =>
    intro i hi
    exact h (i + 1) (by simpa using hi)
theorem noCL_dotd {l : List UInt8} (h : NoCL (l ++ [13])) : NoCL (dotd l ++ [13]) := by
  unfold dotd; split
  · exact noCL_cons h
  · exact h
theorem noCL_undL {l : List UInt8} (h : NoCL (l ++ [13])) : NoCL (undL l ++ [13]) := by
  unfold undL; split
  · exact noCL_drop h
  · exact h
theorem noCL_dot : NoCL ([46] ++ [13]) := by
  intro i hi
  match i with
  | 0 => simp at hi
  | 1 => simp at hi
  | i + 2 => simp at hi

theorem undL_dotd (l : List UInt8) : undL (dotd l) = l ∧ badL (dotd l) = false ∧ dotd l ≠ [46] := by
  unfold dotd
  by_cases h : dotB l = true
  · have e : dotB (46 :: l) = true := rfl
    rw [if_pos h]
    refine ⟨by unfold undL; rw [if_pos e]; rfl, by unfold badL undL; rw [if_pos e, e]; simp [h], ?_⟩
    intro e2
    obtain rfl : l = [] := by simpa using e2
    cases h
  · rw [if_neg h]
    have h' : dotB l = false := by simpa using h
    refine ⟨by unfold undL; rw [if_neg h], by unfold badL; rw [h']; rfl, ?_⟩
    rintro rfl
    cases h'

theorem dotd_undL {l : List UInt8} (h : badL l = false) : dotd (undL l) = l := by
  unfold badL at h
  unfold undL at h ⊢
  by_cases hd : dotB l = true
  · rw [if_pos hd] at h ⊢
    rw [hd] at h
    have h2 : dotB (l.drop 1) = true := by simpa using h
    unfold dotd
    rw [if_pos h2]
    cases l with
    | nil => cases hd
    | cons x l =>
      have : x = 46 := by simpa [dotB] using hd
      rw [this]; rfl
  · rw [if_neg hd]
    unfold dotd
    rw [if_neg hd]

/-! ### What is sent -/
def stuffL (s : List UInt8) : List UInt8 := if restL s = [] then joinL ((cutL s).map dotd) ++ [46, 13, 10] else []
def stuffE (s : List UInt8) : Int := if restL s = [] then 0 else 4

/-- What bytes were sent of, out of their lines: the text, how many bytes it takes, the error. -/
def uns : List (List UInt8) → List UInt8 × Nat × Int
  | [] => ([], 0, 8)
  | l :: L => if l = [46] then ([], 3, 0) else if badL l then ([], 0, 4) else
    if (uns L).2.2 = 0 then (undL l ++ 13 :: 10 :: (uns L).1, l.length + 2 + (uns L).2.1, 0) else ([], 0, (uns L).2.2)
def unsT (s : List UInt8) : List UInt8 := (uns (cutL s)).1
def unsN (s : List UInt8) : Nat := (uns (cutL s)).2.1
def unsE (s : List UInt8) : Int := (uns (cutL s)).2.2
def unsR (s : List UInt8) : List UInt8 := if unsE s = 0 then s.drop (unsN s) else []

/-- What is behind the lines is a line too, if it is not empty. -/
def itemsL (s : List UInt8) : List (List UInt8 × Bool) := (cutL s).map (·, true) ++ (if restL s = [] then [] else [(restL s, false)])
def dotsL (s : List UInt8) : Nat := ((itemsL s).map (·.1)).countP dotB
def wholeL (s : List UInt8) : Bool := (cutL s).contains [46]

theorem uns_no {L : List (List UInt8)} (h : (uns L).2.2 ≠ 0) : (uns L).1 = [] := by
  cases L with
  | nil => rfl
  | cons l L =>
    unfold uns at h ⊢
    split
    · rfl
    · split
      · rfl
      · split
        · rename_i h1 h2 h3; rw [if_neg h1, if_neg h2, if_pos h3] at h; simp at h
        · rfl

theorem uns_pre (P L : List (List UInt8)) (h : ∀ l ∈ P, l ≠ [46] ∧ badL l = false) :
    uns (P ++ L) = (if (uns L).2.2 = 0 then (joinL (P.map undL) ++ (uns L).1, (joinL P).length + (uns L).2.1, 0) else ([], 0, (uns L).2.2)) ∨ P = [] := by
  induction P with
  | nil => exact .inr rfl
  | cons l P ih =>
    left
    obtain ⟨h1, h2⟩ := h l (by simp)
    have ih := ih fun x hx => h x (by simp [hx])
    rw [List.cons_append]
    conv => lhs; unfold uns
    rw [if_neg h1, if_neg (by rw [h2]; simp)]
    rcases ih with ih | rfl
    · rw [ih]
      by_cases h0 : (uns L).2.2 = 0
      · rw [if_pos h0, if_pos h0]
        simp only [List.map_cons, joinL_cons, if_true]
        simp only [List.length_append, List.length_cons, Prod.mk.injEq]
        exact ⟨by simp, by omega, trivial⟩
      · rw [if_neg h0, if_neg h0, if_neg h0]
    · rw [List.nil_append]
      by_cases h0 : (uns L).2.2 = 0
      · rw [if_pos h0, if_pos h0]
        simp only [List.map_cons, joinL_cons, List.map_nil, List.length_append, List.length_cons, Prod.mk.injEq]
        refine ⟨by simp [joinL], by simp [joinL], trivial⟩
      · rw [if_neg h0, if_neg h0]

theorem uns_pre0 (P L : List (List UInt8)) (h : ∀ l ∈ P, l ≠ [46] ∧ badL l = false) (h0 : (uns L).2.2 = 0) :
    uns (P ++ L) = (joinL (P.map undL) ++ (uns L).1, (joinL P).length + (uns L).2.1, 0) := by
  rcases uns_pre P L h with e | rfl
  · rw [e, if_pos h0]
  · rw [List.nil_append]
    rw [show (uns L) = ((uns L).1, (uns L).2.1, (uns L).2.2) from rfl, h0]
    simp [joinL]
theorem uns_pre1 (P L : List (List UInt8)) (h : ∀ l ∈ P, l ≠ [46] ∧ badL l = false) (h0 : (uns L).2.2 ≠ 0) :
    (uns (P ++ L)).1 = [] ∧ (uns (P ++ L)).2.2 = (uns L).2.2 := by
  rcases uns_pre P L h with e | rfl
  · rw [e, if_neg h0]; exact ⟨rfl, rfl⟩
  · rw [List.nil_append]; exact ⟨uns_no h0, rfl⟩

/-! ### What follows -/
/-- Of a text that may be sent: what comes behind what is sent of it. -/
theorem cut_stuff {s : List UInt8} (h : restL s = []) (t : List UInt8) : cutL (stuffL s ++ t) = (cutL s).map dotd ++ [46] :: cutL t ∧ restL (stuffL s ++ t) = restL t := by
  have e : stuffL s ++ t = joinL ((cutL s).map dotd ++ [[46]]) ++ t := by
    unfold stuffL
    rw [if_pos h, joinL_append]
    simp [joinL]
  rw [e]
  obtain ⟨h1, h2⟩ := cut_join ((cutL s).map dotd ++ [[46]]) t (fun x hx => by
    rcases List.mem_append.1 hx with hx | hx
    · obtain ⟨l, hl, rfl⟩ := List.mem_map.1 hx
      exact noCL_dotd ((cut_clean s).1 l hl)
    · obtain rfl : x = [46] := by simpa using hx
      exact noCL_dot)
  rw [h1, h2]
  simp

theorem map_undL_dotd (xs : List (List UInt8)) : (xs.map dotd).map undL = xs := by
  rw [List.map_map]
  conv => rhs; rw [← List.map_id xs]
  exact List.map_congr_left fun l _ => (undL_dotd l).1

theorem join_of_rest {s : List UInt8} (h : restL s = []) : joinL (cutL s) = s := by
  have := join_cut s
  rwa [h, List.append_nil] at this

theorem stuff_back {s : List UInt8} (h : restL s = []) (t : List UInt8) : unsT (stuffL s ++ t) = s ∧ unsR (stuffL s ++ t) = t ∧ unsE (stuffL s ++ t) = 0 := by
  have hu : uns (cutL (stuffL s ++ t)) = (joinL (cutL s), (joinL ((cutL s).map dotd)).length + 3, 0) := by
    rw [(cut_stuff h t).1, uns_pre0 _ _ (fun l hl => by
      obtain ⟨x, _, rfl⟩ := List.mem_map.1 hl
      exact ⟨(undL_dotd x).2.2, (undL_dotd x).2.1⟩) (by unfold uns; rw [if_pos rfl]), map_undL_dotd]
    unfold uns
    rw [if_pos rfl]
    simp
  have hE : unsE (stuffL s ++ t) = 0 := by unfold unsE; rw [hu]
  refine ⟨by unfold unsT; rw [hu]; exact join_of_rest h, ?_, hE⟩
  unfold unsR
  rw [if_pos hE]
  unfold unsN
  rw [hu]
  have hl : (stuffL s).length = (joinL ((cutL s).map dotd)).length + 3 := by unfold stuffL; rw [if_pos h]; simp
  show (stuffL s ++ t).drop ((joinL ((cutL s).map dotd)).length + 3) = t
  rw [← hl, List.drop_left]

/-- Out of the lines: a text was sent. -/
theorem uns_ok : ∀ {L : List (List UInt8)}, (uns L).2.2 = 0 → ∃ P L', L = P ++ [46] :: L' ∧ (∀ l ∈ P, l ≠ [46] ∧ badL l = false) ∧ (uns L).1 = joinL (P.map undL) ∧ (uns L).2.1 = (joinL P).length + 3 := by
  intro L
  induction L with
  | nil => intro h; cases h
  | cons l L ih =>
    intro h
    by_cases h1 : l = [46]
    · refine ⟨[], L, by rw [h1]; rfl, by simp, ?_, ?_⟩ <;> (unfold uns; rw [if_pos h1]; rfl)
    · cases h2 : badL l with
      | true => unfold uns at h; rw [if_neg h1, h2] at h; simp at h
      | false =>
        have hL : (uns L).2.2 = 0 := by
          unfold uns at h
          rw [if_neg h1, h2] at h
          by_cases h3 : (uns L).2.2 = 0
          · exact h3
          · rw [if_neg (by simp), if_neg h3] at h; exact absurd h h3
        obtain ⟨P, L', e1, e2, e3, e4⟩ := ih hL
        refine ⟨l :: P, L', by rw [e1]; rfl, ?_, ?_, ?_⟩
        · intro x hx
          rcases List.mem_cons.1 hx with rfl | hx
          · exact ⟨h1, h2⟩
          · exact e2 x hx
        · conv => lhs; unfold uns
          rw [if_neg h1, if_neg (by rw [h2]; simp), if_pos hL]
          simp only [List.map_cons, joinL_cons, e3]
        · conv => lhs; unfold uns
          rw [if_neg h1, if_neg (by rw [h2]; simp), if_pos hL]
          simp only [joinL_cons, e4, List.length_append, List.length_cons]
          omega

theorem uns_no_text {s : List UInt8} (h : unsE s ≠ 0) : unsT s = [] ∧ unsR s = [] := ⟨uns_no h, by unfold unsR; rw [if_neg h]⟩

theorem back_stuff {t : List UInt8} (h : unsE t = 0) : restL (unsT t) = [] ∧ stuffL (unsT t) ++ unsR t = t := by
  obtain ⟨P, L', e1, e2, e3, e4⟩ := uns_ok h
  have hclean : ∀ l ∈ P, NoCL (l ++ [13]) := fun l hl => (cut_clean t).1 l (by rw [e1]; simp [hl])
  have hT : unsT t = joinL (P.map undL) ++ [] := by unfold unsT; rw [e3, List.append_nil]
  obtain ⟨c1, c2⟩ := cut_join (P.map undL) [] (fun x hx => by
    obtain ⟨l, hl, rfl⟩ := List.mem_map.1 hx
    exact noCL_undL (hclean l hl))
  rw [← hT] at c1 c2
  have hr : restL (unsT t) = [] := by rw [c2]; rfl
  refine ⟨hr, ?_⟩
  have hd : (P.map undL).map dotd = P := by
    rw [List.map_map]
    conv => rhs; rw [← List.map_id P]
    exact List.map_congr_left fun l hl => dotd_undL (e2 l hl).2
  have hst : stuffL (unsT t) = joinL (P ++ [[46]]) := by
    unfold stuffL
    rw [if_pos hr, c1, cut_nil.1, List.append_nil, hd, joinL_append]
    simp [joinL]
  have ht : t = joinL (P ++ [[46]]) ++ (joinL L' ++ restL t) := by
    conv => lhs; rw [← join_cut t, e1]
    simp [joinL]
  have hn : unsN t = (joinL (P ++ [[46]])).length := by
    unfold unsN
    rw [e4, joinL_append]
    simp [joinL]
  unfold unsR
  rw [if_pos h, hst, hn]
  conv => lhs; rhs; rw [ht, List.drop_left]
  exact ht.symm

/-- How a text that may be sent ends. -/
theorem rest_end (s : List UInt8) : restL s = [] ↔ s = [] ∨ (2 ≤ s.length ∧ s.drop (s.length - 2) = [13, 10]) := by
  refine line_ind (P := fun s => restL s = [] ↔ s = [] ∨ (2 ≤ s.length ∧ s.drop (s.length - 2) = [13, 10])) (fun s h => ?_) (fun a r h ih => ?_) s
  · rw [(cut_none h).2]
    refine ⟨.inl, ?_⟩
    rintro (h' | ⟨h1, h2⟩)
    · exact h'
    · exfalso
      have e : s = s.take (s.length - 2) ++ [13, 10] := by rw [← h2, List.take_append_drop]
      obtain ⟨p, hp⟩ : ∃ p, p = s.take (s.length - 2) := ⟨_, rfl⟩
      rw [← hp] at e
      subst e
      exact h p.length ⟨by simp, by simp⟩
  · rw [(cut_cons r h).2, ih]
    have hlen : (a ++ 13 :: 10 :: r).length = a.length + 2 + r.length := by simp; omega
    constructor
    · intro hr
      right
      refine ⟨by omega, ?_⟩
      rcases hr with rfl | ⟨h1, h2⟩
      · rw [hlen]
        simp
      · rw [hlen, show a.length + 2 + r.length - 2 = (a ++ [13, 10]).length + (r.length - 2) by simp; omega, show a ++ 13 :: 10 :: r = (a ++ [13, 10]) ++ r by simp, List.drop_append, List.drop_of_length_le (by omega)]
        simpa using h2
    · rintro (h1 | ⟨_, h2⟩)
      · simp at h1
      · rw [hlen] at h2
        by_cases h0 : r = []
        · exact .inl h0
        · right
          have hp : 0 < r.length := List.length_pos_iff.2 h0
          by_cases h3 : 2 ≤ r.length
          · refine ⟨h3, ?_⟩
            rw [show a.length + 2 + r.length - 2 = (a ++ [13, 10]).length + (r.length - 2) by simp; omega, show a ++ 13 :: 10 :: r = (a ++ [13, 10]) ++ r by simp, List.drop_append, List.drop_of_length_le (by omega)] at h2
            simpa using h2
          · exfalso
            have h4 : r.length = 1 := by omega
            match r, h4 with
            | [x], _ =>
              rw [show a.length + 2 + [x].length - 2 = a.length + 1 by simp, show a ++ 13 :: 10 :: [x] = (a ++ [13]) ++ [10, x] by simp, List.drop_append, List.drop_of_length_le (by simp)] at h2
              simp at h2

/-! ### Lengths and ends -/
theorem len_dotd (xs : List (List UInt8)) : (joinL (xs.map dotd)).length = (joinL xs).length + xs.countP dotB := by
  induction xs with
  | nil => rfl
  | cons x xs ih =>
    rw [List.map_cons, joinL_cons, joinL_cons, List.length_append, List.length_append, List.length_cons, List.length_cons, List.length_cons, List.length_cons, ih, List.countP_cons]
    unfold dotd
    split
    · rename_i h; simp only [List.length_cons]; omega
    · omega

theorem dots_rest {s : List UInt8} (h : restL s = []) : dotsL s = (cutL s).countP dotB := by
  unfold dotsL itemsL
  rw [if_pos h, List.append_nil, List.map_map]
  congr 1
  exact List.map_id' _

theorem stuff_len {s : List UInt8} (h : restL s = []) : (stuffL s).length = s.length + dotsL s + 3 := by
  rw [dots_rest h]
  unfold stuffL
  rw [if_pos h, List.length_append, len_dotd, join_of_rest h]
  rfl

theorem stuff_whole {s : List UInt8} (h : restL s = []) : wholeL (stuffL s) = true := by
  have := (cut_stuff h []).1
  rw [List.append_nil] at this
  unfold wholeL
  rw [this]
  simp

/-- The lines of a beginning of a text are first lines of it; all of them just if it is as long. -/
theorem cut_prefix (s : List UInt8) : ∀ n, ∃ k, cutL (s.take n) = (cutL s).take k ∧ (joinL ((cutL s).take k)).length ≤ n := by
  refine line_ind (P := fun s => ∀ n, ∃ k, cutL (s.take n) = (cutL s).take k ∧ (joinL ((cutL s).take k)).length ≤ n) (fun s h n => ⟨0, ?_, by simp [joinL]⟩) (fun a r h ih n => ?_) s
  · have : NoCL (s.take n) := by
      intro i hi
      rw [List.getElem?_take, List.getElem?_take] at hi
      refine h i ⟨?_, ?_⟩
      · by_cases e : i < n
        · rw [if_pos e] at hi; exact hi.1
        · rw [if_neg e] at hi; cases hi.1
      · by_cases e : i + 1 < n
        · rw [if_pos e] at hi; exact hi.2
        · rw [if_neg e] at hi; cases hi.2
    rw [(cut_none this).1]; rfl
  · by_cases hn : a.length + 2 ≤ n
    · obtain ⟨k, e1, e2⟩ := ih (n - (a.length + 2))
      refine ⟨k + 1, ?_, ?_⟩
      · have e : (a ++ 13 :: 10 :: r).take n = a ++ 13 :: 10 :: r.take (n - (a.length + 2)) := by
          rw [show a ++ 13 :: 10 :: r = (a ++ [13, 10]) ++ r by simp, List.take_append, List.take_of_length_le (by simp; omega)]
          simp
        rw [e, (cut_cons _ h).1, (cut_cons _ h).1, e1, List.take_succ_cons]
      · rw [(cut_cons _ h).1, List.take_succ_cons, joinL_cons]
        simp only [List.length_append, List.length_cons]
        omega
    · refine ⟨0, ?_, by simp [joinL]⟩
      have : NoCL ((a ++ 13 :: 10 :: r).take n) := by
        intro i hi
        have h1 : i + 1 < n := by
          rcases Nat.lt_or_ge (i + 1) n with e | e
          · exact e
          · have := hi.2
            rw [List.getElem?_take, if_neg (by omega)] at this; cases this
        rw [List.getElem?_take, List.getElem?_take, if_pos (by omega), if_pos h1] at hi
        have e : ∀ j, j < a.length + 1 → (a ++ 13 :: 10 :: r)[j]? = (a ++ [13])[j]? := fun j hj => by
          rw [show a ++ 13 :: 10 :: r = (a ++ [13]) ++ 10 :: r by simp, List.getElem?_append_left (by simp; omega)]
        rw [e i (by omega), e (i + 1) (by omega)] at hi
        exact h i hi
      rw [(cut_none this).1]; rfl

theorem not_whole {s : List UInt8} (h : restL s = []) {n : Nat} (hn : n < (stuffL s).length) : wholeL ((stuffL s).take n) = false := by
  have hc := (cut_stuff h []).1
  rw [List.append_nil, cut_nil.1] at hc
  obtain ⟨k, e1, e2⟩ := cut_prefix (stuffL s) n
  have hk : k < (cutL (stuffL s)).length := by
    rcases Nat.lt_or_ge k (cutL (stuffL s)).length with h' | h'
    · exact h'
    · rw [List.take_of_length_le h', hc] at e2
      have : (stuffL s).length = (joinL ((cutL s).map dotd ++ [[46]])).length := by
        unfold stuffL; rw [if_pos h, joinL_append]; simp [joinL]
      omega
  unfold wholeL
  rw [e1]
  rw [hc] at hk ⊢
  have hk' : k ≤ ((cutL s).map dotd).length := by simp at hk ⊢; omega
  rw [List.take_append_of_le_length hk']
  rw [Bool.eq_false_iff]
  intro hx
  have hx' : ([46] : List UInt8) ∈ (((cutL s).map dotd).take k) := by simpa using hx
  have hm := List.mem_of_mem_take hx'
  obtain ⟨l, _, e⟩ := List.mem_map.1 hm
  exact (undL_dotd l).2.2 e

/-! ### Two texts -/
theorem cut_two {s : List UInt8} (h : restL s = []) (t : List UInt8) : cutL (s ++ t) = cutL s ++ cutL t ∧ restL (s ++ t) = restL t := by
  have := cut_join (cutL s) t (cut_clean s).1
  rwa [join_of_rest h] at this

theorem stuff_two {s t : List UInt8} (h : restL s = []) (h2 : restL t = []) : restL (s ++ t) = [] ∧ stuffL (s ++ t) = (stuffL s).take ((stuffL s).length - 3) ++ stuffL t ∧ dotsL (s ++ t) = dotsL s + dotsL t := by
  obtain ⟨c1, c2⟩ := cut_two h t
  have hr : restL (s ++ t) = [] := by rw [c2, h2]
  refine ⟨hr, ?_, ?_⟩
  · unfold stuffL
    rw [if_pos hr, if_pos h, if_pos h2, c1, List.map_append, joinL_append, List.length_append, show ([46, 13, 10] : List UInt8).length = 3 from rfl, Nat.add_sub_cancel, List.take_left]
    simp
  · rw [dots_rest hr, dots_rest h, dots_rest h2, c1, List.countP_append]

end Go.Proofs.YtkffdhdhjfbhjaaDoor
