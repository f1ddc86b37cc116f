/-
  Texts sorted, each once: by slices.Sort and slices.Compact, and by putting one after the other in its place. Plain lemmas; no program.
-/
import Derived.Lib.SlicesCompact
import Derived.Test.YtbmjmiioobgbfaaGreatDoorAPure
namespace Go.Proofs.YtbmjmiioobgbfaaGreatDoor
open Go Go.Lib

abbrev TX := List UInt8
def sortS (l : List TX) : List TX := l.mergeSort fun x y => decide (x ≤ y)
def uniqS (l : List TX) : List TX := Lib.compact (sortS l)

theorem lt_ne {x y : TX} (h : x ≤ y) (hn : x ≠ y) : x < y := by
  cases h1 : decide (x < y) with
  | true => exact of_decide_eq_true h1
  | false => exact absurd (List.le_antisymm h (List.not_lt.1 (of_decide_eq_false h1))) hn

theorem sort_perm (l : List TX) : (sortS l).Perm l := List.mergeSort_perm _ _
theorem sort_le (l : List TX) : (sortS l).Pairwise (· ≤ ·) := by
  have := List.pairwise_mergeSort (le := fun x y : TX => decide (x ≤ y)) (fun a b c h1 h2 => decide_eq_true (List.le_trans (of_decide_eq_true h1) (of_decide_eq_true h2)))
    (fun a b => by rcases List.le_total a b with h | h <;> simp [h]) l
  exact this.imp fun h => of_decide_eq_true h
theorem sort_len (l : List TX) : (sortS l).length = l.length := (sort_perm l).length_eq

theorem bang (d : List TX) {m : Nat} (h : m < d.length) : d.toArray[m]! = d[m] := by simp [getElem!_pos, h]

/-- Of the first m of a sorted list: they rise, they are those, and the last one is the last one. -/
theorem upTo_is {d : List TX} (hd : d.Pairwise (· ≤ ·)) : ∀ m, m ≤ d.length → (compactUpTo d.toArray m).Pairwise (· < ·) ∧ (∀ x, x ∈ compactUpTo d.toArray m ↔ x ∈ d.take m) ∧ ∀ (h : 0 < m) (_ : m ≤ d.length), ∀ x ∈ compactUpTo d.toArray m, x ≤ d[m - 1]
  | 0, _ => ⟨by simp [compactUpTo], by simp [compactUpTo], fun h => absurd h (by omega)⟩
  | m + 1, hm => by
    obtain ⟨h1, h2, h3⟩ := upTo_is hd m (by omega)
    have hml : m < d.length := by omega
    rw [compactUpTo_succ]
    have hk : ∀ x ∈ compactUpTo d.toArray m, x ≤ d[m] := by
      intro x hx
      have := (h2 x).1 hx
      obtain ⟨j, hj, rfl⟩ := List.getElem_of_mem this
      rw [List.getElem_take]
      rw [List.length_take] at hj
      exact List.pairwise_iff_getElem.1 hd j m (by omega) hml (by omega)
    by_cases hp : keeps d.toArray m = true
    · rw [if_pos hp, bang d hml]
      have hlt : ∀ x ∈ compactUpTo d.toArray m, x < d[m] := by
        intro x hx
        refine lt_ne (hk x hx) ?_
        rintro rfl
        by_cases h0 : m = 0
        · subst h0; simp [compactUpTo] at hx
        · have e1 := h3 (by omega) (by omega) _ hx
          have e2 : d[m - 1] ≤ d[m] := List.pairwise_iff_getElem.1 hd (m - 1) m (by omega) hml (by omega)
          have e3 := List.le_antisymm e1 e2
          unfold keeps at hp
          rw [bang d hml, bang d (show m - 1 < d.length by omega)] at hp
          have := of_decide_eq_true hp
          rcases this with h | h
          · exact h0 h
          · exact h e3
      refine ⟨List.pairwise_append.2 ⟨h1, List.pairwise_singleton _ _, fun a ha b hb => ?_⟩, fun x => ?_, fun _ _ x hx => ?_⟩
      · obtain rfl := List.mem_singleton.1 hb
        exact hlt a ha
      · rw [List.mem_append, h2, List.take_succ_eq_append_getElem hml, List.mem_append]
      · show x ≤ d[m]
        rcases List.mem_append.1 hx with hx | hx
        · exact hk x hx
        · obtain rfl := List.mem_singleton.1 hx
          exact List.le_refl _
    · rw [if_neg hp, List.append_nil]
      refine ⟨h1, fun x => ?_, fun _ _ x hx => hk x hx⟩
      rw [h2, List.take_succ_eq_append_getElem hml, List.mem_append]
      constructor
      · exact .inl
      · rintro (h | h)
        · exact h
        · obtain rfl := List.mem_singleton.1 h
          unfold keeps at hp
          rw [decide_eq_true_eq] at hp
          have h0 : 0 < m := by omega
          have he : d[m] = d[m - 1] := by
            have : ¬ d.toArray[m]! ≠ d.toArray[m - 1]! := fun hh => hp (.inr hh)
            rw [bang d hml, bang d (show m - 1 < d.length by omega)] at this
            exact Decidable.not_not.1 this
          rw [he, List.mem_take_iff_getElem]
          exact ⟨m - 1, by omega, rfl⟩

theorem compact_rises {d : List TX} (hd : d.Pairwise (· ≤ ·)) : (Lib.compact d).Pairwise (· < ·) := (upTo_is hd d.length (Nat.le_refl _)).1
theorem compact_mem {d : List TX} (hd : d.Pairwise (· ≤ ·)) (x : TX) : x ∈ Lib.compact d ↔ x ∈ d := by
  have := (upTo_is hd d.length (Nat.le_refl _)).2.1 x
  rwa [List.take_length] at this
theorem uniq_rises (l : List TX) : (uniqS l).Pairwise (· < ·) := compact_rises (sort_le l)
theorem uniq_mem (l : List TX) (x : TX) : x ∈ uniqS l ↔ x ∈ l := (compact_mem (sort_le l) x).trans (sort_perm l).mem_iff

theorem rises_nodup {l : List TX} (h : l.Pairwise (· < ·)) : l.Nodup := h.imp fun {a b} hab e => by subst e; exact List.lt_irrefl a hab
/-- Two lists that rise, of the same, are the same. -/
theorem rises_eq {a b : List TX} (ha : a.Pairwise (· < ·)) (hb : b.Pairwise (· < ·)) (h : ∀ x, x ∈ a ↔ x ∈ b) : a = b :=
  List.Perm.eq_of_pairwise (le := (· < ·)) (fun x _ _ _ h1 h2 => absurd (List.lt_trans h1 h2) (List.lt_irrefl x)) ha hb ((List.perm_ext_iff_of_nodup (rises_nodup ha) (rises_nodup hb)).2 h)

theorem compact_len_le (l : List TX) : (Lib.compact l).length ≤ l.length := by
  unfold Lib.compact compactUpTo
  rw [List.length_map]
  have := List.length_filter_le (keeps l.toArray) (List.range l.length)
  simpa using this
/-- They are as many as they were just if no two are the same. -/
theorem uniq_len (l : List TX) : (uniqS l).length = l.length ↔ l.Nodup := by
  constructor
  · intro h
    have h1 : (Lib.compact (sortS l)).length = (sortS l).length := by rw [sort_len]; exact h
    have h2 : Lib.compact (sortS l) = sortS l := by
      refine Lib.compact_all _ fun j hj => ?_
      unfold Lib.compact compactUpTo at h1
      rw [List.length_map] at h1
      have h3 : ((List.range (sortS l).length).filter (keeps (sortS l).toArray)).length = (List.range (sortS l).length).length := by rw [h1, List.length_range]
      exact List.length_filter_eq_length_iff.1 h3 j (List.mem_range.2 hj)
    have h3 := rises_nodup (uniq_rises l)
    unfold uniqS at h3
    rw [h2] at h3
    exact (sort_perm l).nodup_iff.1 h3
  · intro h
    have hp : (uniqS l).Perm l := (List.perm_ext_iff_of_nodup (rises_nodup (uniq_rises l)) h).2 (uniq_mem l)
    exact hp.length_eq

/-! ### One after the other put in its place -/
def placeS (out : List TX) (d : TX) : Nat := (out.takeWhile fun x => decide (x < d)).length
def putS (out : List TX) (d : TX) : List TX := if out[placeS out d]? = some d then out else out.take (placeS out d) ++ d :: out.drop (placeS out d)

theorem place_le (out : List TX) (d : TX) : placeS out d ≤ out.length := (List.takeWhile_sublist _).length_le
theorem place_lt {out : List TX} {d : TX} {j : Nat} (hj : j < placeS out d) (hl : j < out.length) : out[j] < d := by
  have h1 : out.takeWhile (fun x => decide (x < d)) = out.take (placeS out d) := (List.prefix_iff_eq_take.1 (List.takeWhile_prefix _))
  have h2 : out[j] ∈ out.takeWhile (fun x => decide (x < d)) := by rw [h1, List.mem_take_iff_getElem]; exact ⟨j, by omega, rfl⟩
  exact of_decide_eq_true (List.all_eq_true.1 (List.all_takeWhile (p := fun x => decide (x < d)) (l := out)) _ h2)
theorem place_ge {out : List TX} {d : TX} (hl : placeS out d < out.length) : ¬ out[placeS out d] < d := by
  intro h
  induction out with
  | nil => simp at hl
  | cons x t ih =>
    by_cases hx : x < d
    · have e : placeS (x :: t) d = placeS t d + 1 := by unfold placeS; simp [hx]
      simp only [e, List.getElem_cons_succ] at h
      exact ih (by rw [e] at hl; simp at hl; exact hl) h
    · have e : placeS (x :: t) d = 0 := by unfold placeS; simp [hx]
      simp only [e, List.getElem_cons_zero] at h
      exact hx h
/-- The first place of which all ahead are less, and it is not. -/
theorem place_is {out : List TX} {d : TX} {k : Nat} (hk : k ≤ out.length) (h1 : ∀ j, (hj : j < k) → (hl : j < out.length) → out[j] < d) (h2 : (hl : k < out.length) → ¬ out[k] < d) : placeS out d = k := by
  rcases Nat.lt_trichotomy (placeS out d) k with h | h | h
  · exact absurd (h1 _ h (by omega)) (place_ge (by omega))
  · exact h
  · exact absurd (place_lt h (by have := place_le out d; omega)) (h2 (by have := place_le out d; omega))

theorem put_mem (out : List TX) (d x : TX) : x ∈ putS out d ↔ x ∈ out ∨ x = d := by
  unfold putS
  split
  · rename_i h
    have := List.mem_of_getElem? h
    constructor
    · exact .inl
    · rintro (h | rfl)
      · exact h
      · exact this
  · rw [List.mem_append, List.mem_cons]
    conv => rhs; rw [← List.take_append_drop (placeS out d) out, List.mem_append]
    constructor
    · rintro (h | h | h)
      · exact .inl (.inl h)
      · exact .inr h
      · exact .inl (.inr h)
    · rintro ((h | h) | h)
      · exact .inl h
      · exact .inr (.inr h)
      · exact .inr (.inl h)
theorem put_rises {out : List TX} {d : TX} (h : out.Pairwise (· < ·)) : (putS out d).Pairwise (· < ·) := by
  unfold putS
  split
  · exact h
  · rename_i hn
    have hh := h
    rw [← List.take_append_drop (placeS out d) out, List.pairwise_append] at h
    obtain ⟨a1, a2, a3⟩ := h
    clear hh
    have b1 : ∀ x ∈ out.take (placeS out d), x < d := by
      intro x hx
      obtain ⟨j, hj, rfl⟩ := List.getElem_of_mem hx
      rw [List.length_take] at hj
      rw [List.getElem_take]
      exact place_lt (by omega) (by omega)
    have b2 : ∀ x ∈ out.drop (placeS out d), d < x := by
      intro x hx
      by_cases hl : placeS out d < out.length
      · have h0 := place_ge hl
        have h1 : d < out[placeS out d] := lt_ne (List.not_lt.1 h0) (by rintro e; exact hn (by rw [List.getElem?_eq_getElem hl, ← e]))
        rw [List.drop_eq_getElem_cons hl] at hx a2
        rcases List.mem_cons.1 hx with rfl | hx
        · exact h1
        · exact List.lt_trans h1 (List.rel_of_pairwise_cons a2 hx)
      · rw [List.drop_of_length_le (by omega)] at hx; cases hx
    refine List.pairwise_append.2 ⟨a1, List.pairwise_cons.2 ⟨b2, a2⟩, fun x hx y hy => ?_⟩
    rcases List.mem_cons.1 hy with rfl | hy
    · exact b1 x hx
    · exact a3 x hx y hy
theorem put_len (out : List TX) (d : TX) : (putS out d).length ≤ out.length + 1 := by
  unfold putS
  split
  · omega
  · have := place_le out d
    simp; omega

theorem fold_put : ∀ (ds out : List TX), out.Pairwise (· < ·) → (ds.foldl putS out).Pairwise (· < ·) ∧ ∀ x, x ∈ ds.foldl putS out ↔ x ∈ out ∨ x ∈ ds
  | [], out, h => ⟨h, by simp⟩
  | d :: ds, out, h => by
    obtain ⟨h1, h2⟩ := fold_put ds (putS out d) (put_rises h)
    refine ⟨h1, fun x => ?_⟩
    rw [List.foldl_cons, h2, put_mem, List.mem_cons, or_assoc]
theorem fold_uniq (ds : List TX) : ds.foldl putS [] = uniqS ds := by
  obtain ⟨h1, h2⟩ := fold_put ds [] List.Pairwise.nil
  refine rises_eq h1 (uniq_rises ds) fun x => ?_
  rw [h2, uniq_mem]
  simp
end Go.Proofs.YtbmjmiioobgbfaaGreatDoor
