/-
  Rows as things: one that is read, one that grows.
-/
import Derived.Test.YthfnncahmccgkaaGreatDoorLRwM
namespace Go.Proofs.YthfnncahmccgkaaGreatDoor
open Go Go.RowKit Go.Maps
set_option maxRecDepth 100000
set_option linter.unusedSimpArgs false
set_option linter.unusedVariables false

/-- A row of texts that is read. -/
def txOb (A : Option Addr) (xs : List (List UInt8)) : Ob := ⟨if xs.length = 0 then [] else (match A with | some a => [a.block] | none => []), fun W => Tx W A xs⟩
theorem txOb_stays (A : Option Addr) (xs : List (List UInt8)) : (txOb A xs).Stays := fun W W' h hP => by
  rcases hP with h0 | ⟨b, o, rfl, hlt, hc⟩
  · exact .inl h0
  · rcases Nat.eq_zero_or_pos xs.length with h1 | h1
    · exact .inl (List.length_eq_zero_iff.1 h1)
    · have hb := h b (by simp only [txOb]; rw [if_neg (by omega)]; simp)
      have hlt' : b < W'.heap.size := by
        rcases Nat.lt_or_ge b W'.heap.size with h3 | h3
        · exact h3
        · have := hb.2
          rw [Array.getElem?_eq_none h3, Array.getElem?_eq_getElem hlt] at this
          cases this
      exact .inr ⟨b, o, rfl, hlt', fun k hk => (World.cell?_of_block hb.2).trans (hc k hk)⟩
theorem Obs.addRo {w0 w w' : World} {os : List Ob} (h : Obs w0 w os) {v : Value} {xs : List (List UInt8)} (hr : Ro w w' v xs) : ∃ A c, v = .slice A xs.length c ∧ xs.length ≤ c ∧ Obs w0 w' (os ++ [txOb A xs]) := by
  obtain ⟨A, c, rfl, htx, hlc, _, hg⟩ := hr.form
  refine ⟨A, c, rfl, hlc, h.add (txOb A xs) htx (txOb_stays _ _) hr.below (fun b hb => ?_)⟩
  simp only [txOb] at hb
  split at hb
  · cases hb
  · rename_i h0
    obtain ⟨g, rfl, h1, h2, _⟩ := hg (by omega)
    simp at hb
    subst hb
    exact ⟨h1, h2⟩
/-- A row of texts of one's own, that grows. -/
def puOb (v : Value) (xs : List (List UInt8)) : Ob := ⟨(match v.ownBlock with | some g => [g] | none => []), fun W => W.ownsRow 0 9 1 v xs.length (txs xs)⟩
theorem puOb_stays (v : Value) (xs : List (List UInt8)) : (puOb v xs).Stays := fun W W' h hP => by
  refine ⟨hP.1, ?_⟩
  rcases hP.2 with hn | ⟨g, cap, cur, rfl, hb, hg, rest⟩
  · exact .inl hn
  · exact .inr ⟨g, cap, cur, rfl, hb, ((h g (by simp [puOb, Value.ownBlock])).2).trans hg, rest⟩
theorem puOb_nil {w0 w : World} {os : List Ob} (h : Obs w0 w os) : Obs w0 w (os ++ [puOb (.slice none 0 0) []]) :=
  h.add _ (World.ownsRow_nil _ _ _ _) (puOb_stays _ _) (Below.refl _ _) (fun b hb => by simp [puOb, Value.ownBlock] at hb)
theorem pu_form {W : World} {v : Value} {xs : List (List UInt8)} (h : (puOb v xs).P W) : ∃ A c, v = .slice A xs.length c ∧ Tx W A xs := by
  rcases h.2 with ⟨rfl, h0⟩ | ⟨g, cap, cur, rfl, hg, hgg, hnc, hcm, hsz, ht⟩
  · exact ⟨none, 0, by rw [h0], .inl (List.length_eq_zero_iff.1 h0)⟩
  · refine ⟨_, cap, rfl, .inr ⟨g, 0, rfl, lt_of_blk hgg, fun k hk => ?_⟩⟩
    rw [Nat.zero_add, cellAt hgg]
    have h3 : (cur.toList.take (xs.length * 1))[k]? = cur.toList[k]? := List.getElem?_take_of_lt (by omega)
    rw [ht, txs, List.getElem?_map, List.getElem?_eq_getElem hk] at h3
    rw [← Array.getElem?_toList, ← h3]
    rfl
/-- A text more: 'append(put, s)'. -/
theorem pu_app {w0 W : World} {os : List Ob} (h : Obs w0 W os) (i : Nat) {v : Value} {xs : List (List UInt8)} (hi : os[i]? = some (puOb v xs)) (x : List UInt8) (hl : xs.length ≤ 100000) :
    ∃ v' W', (Builtin.append_ #[26, 26] 26 #[v, .slice (some ⟨W.heap.size, 0, none⟩) 1 1]).run Tryz.prog (W.alloc (.cells #[sv x] 9)) = .ok v' W' ∧ Obs w0 W' (os.set i (puOb v' (xs ++ [x]))) := by
  have hA := h.alloc (.cells #[sv x] 9)
  have hown : (W.alloc (.cells #[sv x] 9)).ownsRow 0 9 1 v xs.length (txs xs) := hA.get hi
  obtain ⟨j, hj, hz0, hz1, hz2⟩ := info_parts info9t
  obtain ⟨g', cap', W', h1, h2, h3, h4, h5⟩ := run_append_lies (P := Tryz.prog) (W.alloc (.cells #[sv x] 9)) 26 26 0 9 j _ 1 16 Tryz.underlying26 hj hz0 hz1 hz2 rfl (by decide) v xs.length (txs xs) hown ⟨W.heap.size, 0, none⟩ 1 1 [sv x] (by simp)
    (World.news_of_block (cs := #[sv x]) (heap_alloc_new W _)) (by simp [Value.oneCell']) (by decide) (by unfold maxLen; omega) (by omega) (Nat.zero_le _) _ rfl
  refine ⟨_, W', h1, hA.turn i hi (puOb _ _) ?_ (puOb_stays _ _) (Kp.grown (Kp.refl _ _) h3 (fun k e hk => ?_)) (fun b hb => ?_)⟩
  · show W'.ownsRow 0 _ 1 _ (xs ++ [x]).length (txs (xs ++ [x]))
    rw [List.length_append, show txs (xs ++ [x]) = txs xs ++ [sv x] from List.map_append]
    exact h2
  · simp only [puOb]
    rw [e]; simp
  · simp only [puOb, Value.ownBlock] at hb
    simp at hb
    subst hb
    refine ⟨?_, h5⟩
    rcases h4 with h4 | h4
    · left
      simp only [puOb]
      rw [h4]; simp
    · right
      rw [h4]
      exact Nat.le_refl _
end Go.Proofs.YthfnncahmccgkaaGreatDoor
