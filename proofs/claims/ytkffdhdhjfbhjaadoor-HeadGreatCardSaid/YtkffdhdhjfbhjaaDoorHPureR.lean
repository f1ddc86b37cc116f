/-
  The reference's way to the fields, as plain functions: line by line, the last value growing; it comes to the program's.
-/
import Derived.Test.YtkffdhdhjfbhjaaDoorHRLeaf
import Derived.Test.YtkffdhdhjfbhjaaDoorHRCut
namespace Go.Proofs.YtkffdhdhjfbhjaaDoor
set_option linter.unusedSimpArgs false
set_option linter.unusedVariables false
open Go
set_option maxRecDepth 100000

/-! ### Off at both ends, whichever first -/
def rtL (p : UInt8 → Bool) (l : List UInt8) : List UInt8 := (l.reverse.dropWhile p).reverse
theorem rtL_cons (p : UInt8 → Bool) (c : UInt8) (l : List UInt8) : rtL p (c :: l) = if rtL p l = [] then (if p c then [] else [c]) else c :: rtL p l := by
  unfold rtL
  rw [List.reverse_cons, List.dropWhile_append]
  by_cases h : (l.reverse.dropWhile p) = []
  · rw [h]
    by_cases hc : p c = true
    · simp [hc]
    · simp [hc]
  · have h1 : (l.reverse.dropWhile p).isEmpty = false := by simpa using h
    rw [h1]
    simp [h]
theorem trim_comm (p : UInt8 → Bool) : ∀ l : List UInt8, (rtL p l).dropWhile p = rtL p (l.dropWhile p)
  | [] => rfl
  | c :: l => by
    have ih := trim_comm p l
    rw [rtL_cons]
    by_cases hc : p c = true
    · rw [List.dropWhile_cons_of_pos hc, ← ih]
      by_cases h : rtL p l = []
      · rw [if_pos h, if_pos hc, h]
      · rw [if_neg h, List.dropWhile_cons_of_pos hc]
    · rw [List.dropWhile_cons_of_neg hc, rtL_cons]
      by_cases h : rtL p l = []
      · rw [if_pos h, if_neg hc, List.dropWhile_cons_of_neg hc]
      · rw [if_neg h, List.dropWhile_cons_of_neg hc]
theorem trimL_is (l : List UInt8) : trimL l = rtL onB (l.dropWhile onB) := trim_comm onB l

/-! ### The colon -/
theorem index58 (l : List UInt8) : (Lib.index l [58] = -1 ∧ ∀ c ∈ l, c ≠ 58) ∨ ∃ i : Nat, Lib.index l [58] = i ∧ l[i]? = some 58 ∧ ∀ j, j < i → l[j]? ≠ some 58 := by
  have occ : ∀ i, Lib.occAt l [58] i = true ↔ l[i]? = some 58 := by
    intro i
    unfold Lib.occAt
    rw [show l[i]? = (l.drop i)[0]? by rw [List.getElem?_drop]; simp]
    generalize l.drop i = u
    match u with
    | [] => simp
    | x :: u =>
      simp only [List.isPrefixOf, Bool.and_true, beq_iff_eq, List.getElem?_cons_zero, Option.some.injEq]
      exact ⟨fun h => h.symm, fun h => h.symm⟩
  rcases Lib.index_spec l [58] with ⟨h1, h2⟩ | ⟨i, h1, h2, h3, h4⟩
  · refine .inl ⟨h1, fun c hc e => ?_⟩
    obtain ⟨k, hk, rfl⟩ := List.getElem_of_mem hc
    have := h2 k (by omega)
    rw [(occ k).2 (by rw [List.getElem?_eq_getElem hk, e])] at this
    cases this
  · refine .inr ⟨i, h1, (occ i).1 h3, fun j hj e => ?_⟩
    have := h4 j hj
    rw [(occ j).2 e] at this
    cases this

theorem tw_of_all {l : List UInt8} {i : Nat} (h : ∀ j, j < i → ∀ h : j < l.length, okN l[j] = true) (hi : i ≤ l.length) (hs : ∀ h : i < l.length, okN l[i] = false) : (l.takeWhile okN).length = i := by
  have h1 : i ≤ (l.takeWhile okN).length := by
    rcases Nat.lt_or_ge (l.takeWhile okN).length i with hlt | hge
    · have := tw_stop (p := okN) (l := l) (by omega)
      rw [h _ hlt (by omega)] at this; cases this
    · exact hge
  have h2 : (l.takeWhile okN).length ≤ i := by
    rcases Nat.lt_or_ge i (l.takeWhile okN).length with hlt | hge
    · have hkl : i < l.length := by have := tw_le okN l; omega
      have := tw_at hlt hkl
      rw [hs hkl] at this; cases this
    · exact hge
  omega

theorem begin_col (l : List UInt8) : beginB l = if colL l = 0 then none else some (l.take (colL l), l.drop (colL l + 1)) := by
  unfold beginB
  rcases index58 l with ⟨h1, h2⟩ | ⟨i, h1, h2, h3⟩
  · have hc : Lib.cut l [58] = (l, [], false) := by unfold Lib.cut; rw [h1, if_neg (by omega)]
    have h0 : colL l = 0 := by
      unfold colL
      dsimp only
      rw [if_neg]
      intro e
      obtain ⟨hk, e⟩ := List.getElem?_eq_some_iff.1 e
      exact h2 _ (List.getElem_mem hk) e
    rw [hc, h0]
    rfl
  · have hc : Lib.cut l [58] = (l.take i, l.drop (i + 1), true) := by unfold Lib.cut; rw [h1, if_pos (by omega)]; rfl
    obtain ⟨hil, hie⟩ := List.getElem?_eq_some_iff.1 h2
    rw [hc]
    dsimp only
    rw [Bool.true_and]
    by_cases ha : ∀ j, j < i → ∀ h : j < l.length, okN l[j] = true
    · have hk : (l.takeWhile okN).length = i := tw_of_all ha (by omega) (fun _ => by rw [hie]; rfl)
      have hcol : colL l = i := by
        unfold colL
        dsimp only
        rw [hk, if_pos h2]
      rw [hcol]
      have hall : (l.take i).all okN = true := by
        rw [List.all_eq_true]
        intro c hcm
        obtain ⟨k, hk2, rfl⟩ := List.getElem_of_mem hcm
        rw [List.length_take] at hk2
        rw [List.getElem_take]
        exact ha k (by omega) (by omega)
      by_cases h0 : i = 0
      · subst h0
        simp [nameB]
      · rw [if_neg h0]
        have : nameB (l.take i) = true := by
          unfold nameB
          rw [hall]
          cases l with
          | nil => simp at hil
          | cons c l =>
            obtain ⟨i, rfl⟩ : ∃ k, i = k + 1 := ⟨i - 1, by omega⟩
            rfl
        rw [this, if_pos rfl]
    · obtain ⟨j, hj, hjl, hjn⟩ : ∃ j, j < i ∧ ∃ h : j < l.length, okN l[j] = false := by
        apply Classical.byContradiction
        intro hn
        apply ha
        intro j hj h
        cases e : okN l[j] with
        | true => rfl
        | false => exact absurd ⟨j, hj, h, e⟩ hn
      have hnb : nameB (l.take i) = false := by
        unfold nameB
        have : (l.take i).all okN = false := by
          rw [List.all_eq_false]
          refine ⟨l[j], ?_, by simp [hjn]⟩
          rw [List.mem_take_iff_getElem]
          exact ⟨j, by omega, rfl⟩
        rw [this]; rfl
      have hkl : (l.takeWhile okN).length ≤ j := by
        rcases Nat.lt_or_ge j (l.takeWhile okN).length with hlt | hge
        · have := tw_at hlt hjl
          rw [hjn] at this; cases this
        · exact hge
      have h0 : colL l = 0 := by
        unfold colL
        dsimp only
        rw [if_neg (h3 _ (by omega))]
      rw [hnb, h0]
      rfl

/-! ### Line by line -/
def addLast (out : List FP) (l : List UInt8) : List FP := out.dropLast ++ [((out.getLastD ([], [])).1, (out.getLastD ([], [])).2 ++ l)]
theorem addLast_snoc (d : List FP) (n v l : List UInt8) : addLast (d ++ [(n, v)]) l = d ++ [(n, v ++ l)] := by
  unfold addLast
  simp
def refRun : List FP → List (List UInt8) → List FP
  | out, [] => out
  | out, l :: ls => if !out.isEmpty && goesB l then refRun (addLast out l) ls else if colL l = 0 then out else refRun (out ++ [(l.take (colL l), l.drop (colL l + 1))]) ls
def tv (f : FP) : FP := (f.1, trimL f.2)

theorem colL_nil : colL [] = 0 := rfl
theorem takeWhile_ne (l : List UInt8) (ls : List (List UInt8)) : (l :: ls).takeWhile neB = if l = [] then [] else l :: ls.takeWhile neB := by
  cases l with
  | nil => rfl
  | cons c l => rfl

theorem refRun_on : ∀ (ls : List (List UInt8)) (d : List FP) (n v : List UInt8), (refRun (d ++ [(n, v)]) ls).map tv = d.map tv ++ (n, trimL (v ++ ((ls.takeWhile neB).takeWhile goesB).flatten)) :: fl ((ls.takeWhile neB).dropWhile goesB) := by
  intro ls
  induction ls with
  | nil => intro d n v; simp [refRun, fl_nil, tv]
  | cons l ls ih =>
    intro d n v
    have hne : (!(d ++ [(n, v)]).isEmpty) = true := by simp
    rw [takeWhile_ne]
    unfold refRun
    rw [hne, Bool.true_and]
    by_cases h0 : l = []
    · subst h0
      rw [if_neg (by simp [goesB]), if_pos colL_nil, if_pos rfl]
      simp [fl_nil, tv]
    · rw [if_neg h0]
      by_cases hg : goesB l = true
      · rw [if_pos hg, addLast_snoc, ih, List.takeWhile_cons_of_pos hg, List.dropWhile_cons_of_pos hg, List.flatten_cons, List.append_assoc]
      · rw [if_neg hg, List.takeWhile_cons_of_neg hg, List.dropWhile_cons_of_neg hg]
        by_cases hc : colL l = 0
        · rw [if_pos hc, fl_none _ (by rw [begin_col, if_pos hc])]
          simp [tv]
        · rw [if_neg hc, ih, fl_some _ (by rw [begin_col, if_neg hc])]
          simp [tv]

theorem refRun_is (ls : List (List UInt8)) : (refRun [] ls).map tv = fl (ls.takeWhile neB) := by
  cases ls with
  | nil => rfl
  | cons l ls =>
    rw [takeWhile_ne]
    unfold refRun
    rw [show (!([] : List FP).isEmpty && goesB l) = false from rfl, if_neg (by simp)]
    by_cases h0 : l = []
    · subst h0
      rw [if_pos colL_nil, if_pos rfl]
      rfl
    · rw [if_neg h0]
      by_cases hc : colL l = 0
      · rw [if_pos hc, fl_none _ (by rw [begin_col, if_pos hc])]
        rfl
      · have := refRun_on ls [] (l.take (colL l)) (l.drop (colL l + 1))
        rw [List.nil_append] at this
        rw [if_neg hc, fl_some _ (by rw [begin_col, if_neg hc]), List.nil_append, this]
        rfl

theorem refRun_fields (s : List UInt8) : (refRun [] (cutL s)).map tv = fieldsL s := refRun_is (cutL s)
end Go.Proofs.YtkffdhdhjfbhjaaDoor
