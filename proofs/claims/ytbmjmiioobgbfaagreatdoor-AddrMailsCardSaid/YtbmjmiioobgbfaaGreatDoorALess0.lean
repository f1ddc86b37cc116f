/-
  What follows of a mail that may be: with less it may be, with a recipient twice it may not; which domains there are. Plain lemmas, and rows of truth values.
-/
import Derived.Test.YtbmjmiioobgbfaaGreatDoorATexts
namespace Go.Proofs.YtbmjmiioobgbfaaGreatDoor
open Go Go.RowKit
set_option maxRecDepth 100000

theorem mail_ok {f en tx : List UInt8} {xs : List (List UInt8)} {r m : Int} (h : mailL f xs en tx r m = 0) : (tx.length : Int) ≤ m ∧ (xs.length : Int) ≤ r ∧ endL f = true ∧ areL xs = true ∧ envidL en = true ∧ mtextL tx = true := by
  unfold mailL at h
  by_cases h1 : m < tx.length ∨ r < xs.length
  · rw [if_pos h1] at h; exact absurd h (by decide)
  · rw [if_neg h1] at h
    by_cases h2 : (endL f && areL xs && envidL en && mtextL tx) = true
    · simp only [Bool.and_eq_true] at h2
      exact ⟨by omega, by omega, h2.1.1.1, h2.1.1.2, h2.1.2, h2.2⟩
    · rw [if_neg h2] at h; exact absurd h (by decide)
theorem are_is {xs : List (List UInt8)} (h : areL xs = true) : 0 < xs.length ∧ (∀ x ∈ xs, amayL x = true) ∧ (xs.map canL).Nodup := by
  unfold areL at h
  simp only [Bool.and_eq_true, decide_eq_true_eq] at h
  exact ⟨h.1.1, List.all_eq_true.1 h.1.2, h.2⟩
theorem are_mk {xs : List (List UInt8)} (h1 : 0 < xs.length) (h2 : ∀ x ∈ xs, amayL x = true) (h3 : (xs.map canL).Nodup) : areL xs = true := by
  unfold areL
  rw [decide_eq_true h1, decide_eq_true h3, List.all_eq_true.2 h2]; rfl
theorem are_take {xs : List (List UInt8)} (h : areL xs = true) {k : Nat} (hk : 0 < k) : areL (xs.take k) = true := by
  obtain ⟨h1, h2, h3⟩ := are_is h
  refine are_mk (by rw [List.length_take]; omega) (fun x hx => h2 x (List.mem_of_mem_take hx)) ?_
  rw [List.map_take]
  exact h3.sublist (List.take_sublist _ _)
theorem are_twice {xs : List (List UInt8)} {x : List UInt8} (hx : x ∈ xs) : areL (xs ++ [x]) = false := by
  cases h : areL (xs ++ [x]) with
  | false => rfl
  | true =>
    obtain ⟨_, _, h3⟩ := are_is h
    rw [List.map_append, List.nodup_append] at h3
    exact absurd rfl (h3.2.2 (canL x) (List.mem_map.2 ⟨x, hx, rfl⟩) (canL x) (by simp))
theorem mail_twice {f en tx : List UInt8} {xs : List (List UInt8)} {x : List UInt8} {r m : Int} (h : mailL f xs en tx r m = 0) (hr : (xs.length : Int) < r) (hx : x ∈ xs) : mailL f (xs ++ [x]) en tx r m = 4 := by
  obtain ⟨h1, _, _, _, _, _⟩ := mail_ok h
  unfold mailL
  rw [if_neg (by simp; omega), are_twice hx, if_neg (by simp)]
theorem envid_nil : envidL [] = true := by decide
theorem end_nil : endL [] = true := by decide
theorem mail_less {f en tx tx' : List UInt8} {xs : List (List UInt8)} {k : Nat} {r m : Int} (h : mailL f xs en tx r m = 0) (hk : 0 < k) (ht : mtextL tx' = true) (hl : tx'.length ≤ tx.length) : mailL [] (xs.take k) [] tx' r m = 0 := by
  obtain ⟨h1, h2, _, h4, _, _⟩ := mail_ok h
  unfold mailL
  rw [if_neg (by rw [List.length_take]; omega), end_nil, envid_nil, are_take h4 hk, ht]; rfl
theorem text_less {tx : List UInt8} {k : Nat} (h : mtextL tx = true) (hk : k + 1 ≤ tx.length) (hb : tx.getD k 0 = 10) : mtextL (tx.take (k + 1)) = true := by
  have e : tx = tx.take k ++ 10 :: tx.drop (k + 1) := by
    conv => lhs; rw [← List.take_append_drop k tx, List.drop_eq_getElem_cons hk, ← getD_str tx k hk, hb]
  rw [List.take_succ_eq_append_getElem hk, ← getD_str tx k hk, hb]
  rw [e] at h
  exact mtext_front h

/-- The domains found among the first so many recipients. -/
def foundL (D xs : List (List UInt8)) (k : Nat) : List Bool := D.map fun d => (domL (xs.take k)).contains d
theorem found_zero (D xs : List (List UInt8)) : foundL D xs 0 = List.replicate D.length false := by
  unfold foundL
  rw [List.take_zero, show domL [] = [] from rfl]
  exact List.eq_replicate_iff.2 ⟨by simp, fun b hb => by
    obtain ⟨d, _, rfl⟩ := List.mem_map.1 hb
    rfl⟩
theorem found_len (D xs : List (List UInt8)) (k : Nat) : (foundL D xs k).length = D.length := List.length_map _
theorem found_all (xs : List (List UInt8)) : foundL (uniqS (domL xs)) xs xs.length = List.replicate (uniqS (domL xs)).length true := by
  unfold foundL
  refine List.eq_replicate_iff.2 ⟨by simp, fun b hb => ?_⟩
  obtain ⟨d, hd, rfl⟩ := List.mem_map.1 hb
  rw [List.take_length, List.contains_iff_mem]
  exact (uniq_mem _ _).1 hd
theorem found_getD {D xs : List (List UInt8)} {k j : Nat} (hj : j < D.length) : (foundL D xs k).getD j false = (domL (xs.take k)).contains (D.getD j []) := by
  unfold foundL
  rw [List.getD_eq_getElem?_getD, List.getElem?_map, List.getElem?_eq_getElem hj, List.getD_eq_getElem?_getD, List.getElem?_eq_getElem hj]; rfl
theorem found_next {D xs : List (List UInt8)} {k j : Nat} {a d : List UInt8} (hk : k < xs.length) (hp : parseL (xs.getD k []) = some (a, d)) (hj : j < D.length) : (foundL D xs (k + 1)).getD j false = ((foundL D xs k).getD j false || (D.getD j [] == d)) := by
  rw [found_getD hj, found_getD hj, domL_take hk, hp, Bool.eq_iff_iff, Bool.or_eq_true, List.contains_iff_mem, List.contains_iff_mem, List.mem_append, beq_iff_eq]
  simp
theorem set_between (F G : List Bool) (k : Nat) (hl : F.length = G.length) (hk : k < G.length) : (G.take k ++ F.drop k).set k (G.getD k false) = G.take (k + 1) ++ F.drop (k + 1) := by
  have hF : k < F.length := by omega
  rw [List.set_append_right _ _ (by rw [List.length_take]; omega), List.take_succ_eq_append_getElem hk, List.append_assoc]
  congr 1
  rw [List.length_take, show k - min k G.length = 0 by omega, List.drop_eq_getElem_cons hF, List.getD_eq_getElem?_getD, List.getElem?_eq_getElem hk]
  rfl
theorem dom_mem {xs : List (List UInt8)} {k : Nat} {a d : List UInt8} (hk : k < xs.length) (hp : parseL (xs.getD k []) = some (a, d)) : d ∈ uniqS (domL xs) := by
  rw [uniq_mem]
  unfold domL
  rw [List.mem_filterMap]
  refine ⟨xs[k], List.getElem_mem hk, ?_⟩
  rw [List.getD_eq_getElem?_getD, List.getElem?_eq_getElem hk] at hp
  simp only [Option.getD_some] at hp
  rw [hp]; rfl
/-- Halfway through a recipient's round. -/
def midL (D xs : List (List UInt8)) (i k : Nat) : List Bool := (foundL D xs (i + 1)).take k ++ (foundL D xs i).drop k
theorem mid_len (D xs : List (List UInt8)) (i k : Nat) : (midL D xs i k).length = D.length := by
  unfold midL; rw [List.length_append, List.length_take, List.length_drop, found_len, found_len]; omega
theorem mid_at {D xs : List (List UInt8)} {i k : Nat} (hk : k < D.length) : (midL D xs i k).getD k false = (foundL D xs i).getD k false := by
  unfold midL
  rw [List.getD_eq_getElem?_getD, List.getD_eq_getElem?_getD, List.getElem?_append_right (by rw [List.length_take, found_len]; omega)]
  rw [List.length_take, found_len, List.getElem?_drop, show k + (k - min k D.length) = k by omega]
theorem mid_set {D xs : List (List UInt8)} {i k : Nat} {a d : List UInt8} (hi : i < xs.length) (hp : parseL (xs.getD i []) = some (a, d)) (hk : k < D.length) : (midL D xs i k).set k ((foundL D xs i).getD k false || (D.getD k [] == d)) = midL D xs i (k + 1) := by
  rw [← found_next hi hp hk]
  exact set_between _ _ k (by rw [found_len, found_len]) (by rw [found_len]; exact hk)
theorem mid_end (D xs : List (List UInt8)) (i : Nat) : midL D xs i D.length = foundL D xs (i + 1) := by
  unfold midL
  rw [List.take_of_length_le (by rw [found_len]; exact Nat.le_refl _), List.drop_of_length_le (by rw [found_len]; exact Nat.le_refl _), List.append_nil]

/-- A row of truth values of the call's own. -/
def FB (W : World) (g : Nat) (F : List Bool) : Prop := W.heap[g]? = some (.cells (F.map Value.bool).toArray 4 (0, 0))
theorem FB.cell {W : World} {g : Nat} {F : List Bool} (h : FB W g F) {k : Nat} (hk : k < F.length) : W.cell? ⟨g, k, none⟩ = some (.bool (F.getD k false)) := by
  rw [cellAt h, List.getD_eq_getElem?_getD, List.getElem?_eq_getElem hk]
  simp [hk]
theorem FB.free {W : World} {g : Nat} {F : List Bool} (h : FB W g F) (k : Nat) : W.frozen? ⟨g, k, none⟩ = false := freeAt h k
theorem FB.set {W : World} {g : Nat} {F : List Bool} (h : FB W g F) (k : Nat) (b : Bool) : FB (W.setCell ⟨g, k, none⟩ (.bool b)) g (F.set k b) := by
  unfold FB at h ⊢
  simp [World.setCell, Array.getElem?_modify, h, List.map_set]
end Go.Proofs.YtbmjmiioobgbfaaGreatDoor
