/-
  Chains of one to four, plainly; with one of them changed.
-/
import Derived.Test.YtoinicmhkfomjaaGreatDoorJApp
namespace Go.Proofs.YtoinicmhkfomjaaGreatDoor
set_option linter.unusedSimpArgs false
set_option linter.unusedVariables false
open Go Go.RowKit
set_option maxRecDepth 100000

def keysL : List (List UInt8) := [[97], [98], [99], [100], rootT]
def keyAt (i : Nat) : List UInt8 := keysL.getD i []
def xyT : List UInt8 := [120, 46, 121]
def linkC (N i : Nat) : Ct := oneC (keyAt i) (if i + 1 = N then rootT else keyAt (i + 1)) (decide (0 < i)) [xyT]
def linksL (N : Nat) : List Ct := (List.range N).map (linkC N)
theorem links_len (N : Nat) : (linksL N).length = N := by simp [linksL]
theorem links_at {N i : Nat} (h : i < N) : ctAt (linksL N) i = linkC N i := by
  unfold ctAt linksL
  rw [List.getD_eq_getElem?_getD, List.getElem?_map, List.getElem?_range h]; rfl
def rtL : List UInt8 := digestL rootT
theorem key_digest {j : Nat} (h0 : 1 ≤ j) (h : j ≤ 3) : digestL (keyAt j) ≠ rtL := by
  have h1 : digestL (keyAt 1) ≠ rtL := by decide +kernel
  have h2 : digestL (keyAt 2) ≠ rtL := by decide +kernel
  have h3 : digestL (keyAt 3) ≠ rtL := by decide +kernel
  rcases (show j = 1 ∨ j = 2 ∨ j = 3 by omega) with rfl | rfl | rfl
  · exact h1
  · exact h2
  · exact h3
theorem link_last {N : Nat} (h : 1 ≤ N) : (linkC N (N - 1)).sig = rtL := by
  show digestL (if N - 1 + 1 = N then rootT else keyAt (N - 1 + 1)) = rtL
  rw [if_pos (by omega)]; rfl
theorem link_sig {N i : Nat} (h : i + 1 < N) : (linkC N i).sig = digestL (keyAt (i + 1)) := by
  show digestL (if i + 1 = N then rootT else keyAt (i + 1)) = _
  rw [if_neg (by omega)]
theorem link_not {N i : Nat} (h : i + 1 < N) (hN : N ≤ 4) : (linkC N i).sig ≠ rtL := by
  rw [link_sig h]; exact key_digest (by omega) (by omega)
theorem links_linked (N : Nat) : linkedB (linksL N) = true := by
  refine (linked_iff _).2 fun k hk => ?_
  rw [links_len] at hk
  rw [links_at (by omega), links_at hk]
  unfold linkB
  rw [link_sig hk]
  show (decide (0 < k + 1) && (digestL (keyAt (k + 1)) == digestL (keyAt (k + 1)))) = true
  simp
theorem links_anch {N : Nat} (h : 1 ≤ N) : anchB (linksL N) 15 [rtL] = true := by
  refine anch_iff.2 ⟨N - 1, by rw [links_len]; omega, fun k hk => ?_, fun k hk => ?_, ?_⟩
  · rw [links_at (by omega)]; rfl
  · exact (linked_iff _).1 (links_linked N) k (by rw [links_len]; omega)
  · rw [links_at (by omega), link_last h]; simp
theorem links_enc {N : Nat} (h : 1 ≤ N) (hN : N ≤ 4) : (linksL N).all (fun c => encE c == 0) = true := by
  rcases (show N = 1 ∨ N = 2 ∨ N = 3 ∨ N = 4 by omega) with rfl | rfl | rfl | rfl
  · decide +kernel
  · decide +kernel
  · decide +kernel
  · decide +kernel
theorem links_judge {N : Nat} (h : 1 ≤ N) (hN : N ≤ 4) : judgeN ((linksL N).map encL) xyT 15 [rtL] = 0 := by
  refine judge_right.2 ?_
  rw [chainT_map (links_enc h hN), List.take_of_length_le (by rw [links_len]; exact hN)]
  refine ⟨fun e => by have := links_len N; rw [e] at this; simp at this; omega, by rw [links_at (by omega)]; rfl, ?_, links_anch h⟩
  rw [links_at (by omega)]
  show [xyT].any (ownsB xyT) = true
  decide +kernel
theorem links_short {N i : Nat} (h : i < N) (hN : N ≤ 4) : shortC (linkC N i) := by
  refine ⟨?_, ?_, by show 1 ≤ 1000000; decide, fun n hn => by rw [List.mem_singleton.1 hn]; decide⟩
  · show (keyAt i).length ≤ 1000000
    rcases (show i = 0 ∨ i = 1 ∨ i = 2 ∨ i = 3 by omega) with rfl | rfl | rfl | rfl <;> decide
  · by_cases hl : i + 1 = N
    · subst hl
      have := link_last (N := i + 1) (by omega)
      rw [Nat.add_sub_cancel] at this
      rw [this]; decide +kernel
    · rw [link_sig (by omega)]
      have h1 : (digestL (keyAt 1)).length ≤ 1000000 := by decide +kernel
      have h2 : (digestL (keyAt 2)).length ≤ 1000000 := by decide +kernel
      have h3 : (digestL (keyAt 3)).length ≤ 1000000 := by decide +kernel
      rcases (show i + 1 = 1 ∨ i + 1 = 2 ∨ i + 1 = 3 by omega) with e | e | e
      · rw [e]; exact h1
      · rw [e]; exact h2
      · rw [e]; exact h3

/-! ### One of them changed -/
theorem ctAt_set {l : List Ct} {k i : Nat} {c : Ct} (hk : k < l.length) : ctAt (l.set k c) i = if i = k then c else ctAt l i := by
  unfold ctAt
  rw [List.getD_eq_getElem?_getD, List.getD_eq_getElem?_getD, List.getElem?_set]
  by_cases h : k = i
  · subst h; simp [hk]
  · rw [if_neg h, if_neg (fun e => h e.symm)]
theorem not_right {odd : List Ct} {host : List UInt8} {now : Int} {an : List (List UInt8)} (h : anchB odd now an = false) : judgeN (odd.map encL) host now an ≠ 0 := fun e => by
  obtain ⟨_, _, _, h4⟩ := judge_right.1 e
  have hp : ∃ m, odd = chainT (odd.map encL) ++ m := by
    have h1 : chainT (odd.map encL) = (odd.take 4).takeWhile fun c => encE c == 0 := by
      unfold chainT; rw [← List.map_take, readL_map]
    have h2 := List.takeWhile_append_dropWhile (p := fun c => encE c == 0) (l := odd.take 4)
    refine ⟨(odd.take 4).dropWhile (fun c => encE c == 0) ++ odd.drop 4, ?_⟩
    rw [h1, ← List.append_assoc, h2, List.take_append_drop]
  obtain ⟨m, hm⟩ := hp
  have := anch_app (m := m) h4
  rw [← hm, h] at this
  cases this
theorem last_only {N : Nat} (h : 1 ≤ N) (hN : N ≤ 4) {i : Nat} (hi : i < N) (hs : (linkC N i).sig = rtL) : i = N - 1 := by
  rcases Nat.lt_or_ge (i + 1) N with h1 | h1
  · exact absurd hs (link_not h1 hN)
  · omega
theorem false_of {b : Bool} (h : b ≠ true) : b = false := by cases b <;> simp_all
theorem odd_sig {N k : Nat} (h : 1 ≤ N) (hN : N ≤ 4) (hk : k < N) {by' : List UInt8} (h1 : by' ≠ (linkC N k).sig) (h2 : by' ≠ rtL) : anchB ((linksL N).set k { linkC N k with sig := by' }) 15 [rtL] = false := by
  refine false_of fun ha => ?_
  obtain ⟨i, i1, i2, i3, i4⟩ := anch_iff.1 ha
  rw [List.length_set, links_len] at i1
  have hkl : k < (linksL N).length := by rw [links_len]; exact hk
  rw [ctAt_set hkl] at i4
  by_cases hik : i = k
  · rw [if_pos hik] at i4; exact h2 (by simpa using i4)
  · rw [if_neg hik, links_at i1] at i4
    have hi := last_only h hN i1 (by simpa using i4)
    have hl := i3 k (by omega)
    rw [ctAt_set hkl, ctAt_set hkl, if_pos rfl, if_neg (by omega), links_at (by omega)] at hl
    unfold linkB at hl
    simp only [Bool.and_eq_true, beq_iff_eq] at hl
    exact h1 (by rw [hl.2, link_sig (by omega)]; rfl)
theorem odd_ca {N k : Nat} (h : 1 ≤ N) (hN : N ≤ 4) (hk : k < N) (h0 : 1 ≤ k) : anchB ((linksL N).set k { linkC N k with ca := false }) 15 [rtL] = false := by
  refine false_of fun ha => ?_
  obtain ⟨i, i1, i2, i3, i4⟩ := anch_iff.1 ha
  rw [List.length_set, links_len] at i1
  have hkl : k < (linksL N).length := by rw [links_len]; exact hk
  have hi : i = N - 1 := by
    rw [ctAt_set hkl] at i4
    by_cases hik : i = k
    · rw [if_pos hik] at i4
      exact last_only h hN i1 (by rw [hik]; simpa using i4)
    · rw [if_neg hik, links_at i1] at i4
      exact last_only h hN i1 (by simpa using i4)
  have hl := i3 (k - 1) (by omega)
  rw [show k - 1 + 1 = k by omega, ctAt_set hkl, ctAt_set hkl, if_pos rfl] at hl
  unfold linkB at hl
  simp at hl
theorem odd_ca0 {N : Nat} (h : 1 ≤ N) : anchB ((linksL N).set 0 { linkC N 0 with ca := false }) 15 [rtL] = true := by
  have e : (linksL N).set 0 { linkC N 0 with ca := false } = linksL N := by
    have h1 : ({ linkC N 0 with ca := false } : Ct) = linkC N 0 := rfl
    rw [h1, ← links_at (N := N) (i := 0) (by omega)]
    unfold ctAt
    have hl : 0 < (linksL N).length := by rw [links_len]; omega
    rw [List.getD_eq_getElem?_getD, List.getElem?_eq_getElem hl]
    simp
  rw [e]; exact links_anch h
theorem odd_un {N k : Nat} (h : 1 ≤ N) (hN : N ≤ 4) (hk : k < N) : anchB ((linksL N).set k { linkC N k with un := 14 }) 15 [rtL] = false := by
  refine false_of fun ha => ?_
  obtain ⟨i, i1, i2, i3, i4⟩ := anch_iff.1 ha
  rw [List.length_set, links_len] at i1
  have hkl : k < (linksL N).length := by rw [links_len]; exact hk
  have hi : i = N - 1 := by
    rw [ctAt_set hkl] at i4
    by_cases hik : i = k
    · rw [if_pos hik] at i4
      exact last_only h hN i1 (by rw [hik]; simpa using i4)
    · rw [if_neg hik, links_at i1] at i4
      exact last_only h hN i1 (by simpa using i4)
  have hl := i2 k (by omega)
  rw [ctAt_set hkl, if_pos rfl] at hl
  unfold dateB at hl
  simp at hl
end Go.Proofs.YtoinicmhkfomjaaGreatDoor
