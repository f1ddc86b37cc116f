/-
  head.goingOn; the join of a value's parts.
-/
import Derived.Test.YtkffdhdhjfbhjaaDoorHLines
namespace Go.Proofs.YtkffdhdhjfbhjaaDoor
set_option linter.unusedSimpArgs false
set_option linter.unusedVariables false
open Go Go.RowKit Go.Shelf
set_option maxRecDepth 100000

theorem tw_upto {p : List UInt8 → Bool} {xs : List (List UInt8)} {k : Nat} (h : ∀ j, j < k → ∀ h : j < xs.length, p xs[j] = true) (hk : k ≤ xs.length) (hs : ∀ h : k < xs.length, p xs[k] = false) : (xs.takeWhile p).length = k := by
  have h1 : k ≤ (xs.takeWhile p).length := by
    rcases Nat.lt_or_ge (xs.takeWhile p).length k with hlt | hge
    · have := tw_stop (p := p) (l := xs) (by omega)
      rw [h _ hlt (by omega)] at this; cases this
    · exact hge
  have h2 : (xs.takeWhile p).length ≤ k := by
    rcases Nat.lt_or_ge k (xs.takeWhile p).length with hlt | hge
    · have hkl : k < xs.length := by have := tw_le p xs; omega
      have := tw_at hlt hkl
      rw [hs hkl] at this; cases this
    · exact hge
  omega

set_option maxHeartbeats 2000000 in
theorem goingOn_any (g o c : Nat) (xs : List (List UInt8)) (w : World) (hx : xs.length ≤ 1000000) (hc : xs.length ≤ c) (hcm : c ≤ maxLen) (ht : TX w g o xs) (hne : ∀ x ∈ xs, x ≠ []) :
    Calls Tryd.prog 57 #[.slice (some ⟨g, o, none⟩) xs.length c] w fun e w' => e = .returned (.slice (some ⟨g, o, none⟩) (xs.takeWhile goesB).length c) ∧ Below w.heap.size w w' := by
  have HT := Lib.hid ht
  have HNE := Lib.hid hne
  have HB := Lib.hid (Below.refl w.heap.size w)
  have hcm' : c ≤ 9223372036854775807 := hcm
  clear ht hne
  go_enter Tryd.func57, Tryd.ntmps57
  go_wp2_with fail
  go_loopw [3] (fun i wr => ∃ k : Nat, k ≤ xs.length ∧ i = .int .i64 k ∧ (∀ j, j < k → ∀ h : j < xs.length, goesB xs[j] = true) ∧ Below w.heap.size w wr) (fun i _ => xs.length - (intOf i).toNat)
  case atStart => exact ⟨0, Nat.zero_le _, rfl, fun j hj => absurd hj (by omega), HB.out⟩
  case round =>
    obtain ⟨k, hk, rfl, ha, hbl⟩ := hrel
    have HA := Lib.hid ha
    have HL := Lib.hid hbl
    clear ha hbl
    by_cases hlt : k < xs.length
    · obtain ⟨x, hx⟩ : ∃ x, x = xs[k] := ⟨_, rfl⟩
      have c1 : wr.cell? ⟨g, o + k, none⟩ = some (sv x) := by
        rw [hx]
        exact (HT.out.below HL.out HT.out.lt).cell k hlt
      have hxne : x ≠ [] := by rw [hx]; exact HNE.out _ (List.getElem_mem hlt)
      obtain ⟨b, r, rfl⟩ : ∃ b r, x = b :: r := by
        cases x with
        | nil => exact absurd rfl hxne
        | cons b r => exact ⟨b, r, rfl⟩
      have e1 : (str (b :: r)).extract 0 1 = str [b] := by rw [str_extract]; simp
      have hg : goesB xs[k] = onB b := by rw [← hx]; rfl
      have HG := Lib.hid hg
      have E1 := Lib.hid e1
      have HON := Lib.hid (on_any b wr)
      clear hx hg e1 hxne
      cases hb : onB b with
      | true =>
        rw [hb] at HON HG
        have HN := Lib.hid (show ∀ j, j < k + 1 → ∀ h : j < xs.length, goesB xs[j] = true from fun j hj h => by
          by_cases e : j = k
          · subst e; exact HG.out
          · exact HA.out j (by omega) h)
        clear hb
        go_wp2_with (go_at_call 71; rw [E1.out]; refine HON.out.mono ?_; rintro e w1 ⟨rfl, hb1⟩)
        have HB1 := Lib.hid (HL.out.trans (hb1.mono HL.out.size))
        clear hb1
        go_wp2_with fail
        go_roundw
        case rel => exact ⟨k + 1, by omega, by go_num, HN.out, HB1.out⟩
        case measure => simp [intOf]; omega
      | false =>
        rw [hb] at HON HG
        have HN := Lib.hid (tw_upto HA.out hk (fun _ => HG.out))
        clear hb
        go_wp2_with (go_at_call 71; rw [E1.out]; refine HON.out.mono ?_; rintro e w1 ⟨rfl, hb1⟩)
        have HB1 := Lib.hid (HL.out.trans (hb1.mono HL.out.size))
        clear hb1
        go_wp2_with fail
        go_ret
        rw [HN.out]
        exact ⟨rfl, HB1.out⟩
    · obtain rfl : k = xs.length := by omega
      have HN := Lib.hid (tw_upto HA.out hk (fun h => absurd h (by omega)))
      go_wp2_with fail
      go_ret
      rw [HN.out]
      exact ⟨rfl, HL.out⟩

theorem joinS_nil (xs : List (List UInt8)) : Lib.join xs [] = xs.flatten := by
  cases xs with
  | nil => rfl
  | cons x r =>
    rw [Lib.join_cons]
    unfold Lib.joinTail
    simp

theorem join0_any (g o c : Nat) (xs : List (List UInt8)) (w : World) (hx : xs.length ≤ 1000000) (hc : xs.length ≤ c) (ht : TX w g o xs) (hl : xs.flatten.length ≤ 1000000) :
    Calls Tryd.prog 58 #[.slice (some ⟨g, o, none⟩) xs.length c, .string { data := #[] }] w fun e w' => e = .returned (sv xs.flatten) ∧ Below w.heap.size w w' := by
  have em : (xs.map str).map (fun s : ByteArray => s.data.toList) = xs := by
    rw [List.map_map]
    have : ((fun s : ByteArray => s.data.toList) ∘ str) = id := by funext l; simp
    rw [this, List.map_id]
  have ej : Lib.join ((xs.map str).map (fun s : ByteArray => s.data.toList)) ({ data := #[] } : ByteArray).data.toList = xs.flatten := by
    rw [em]; exact joinS_nil xs
  have := Tryd.strings_Join g o c (xs.map str) { data := #[] } w (fun j x hj => by
    rw [List.getElem?_map] at hj
    obtain ⟨y, hy, rfl⟩ := Option.map_eq_some_iff.1 hj
    obtain ⟨hj', rfl⟩ := List.getElem?_eq_some_iff.1 hy
    exact ht.cell j hj') ht.lt (by simp; omega) (by simpa using hc) (by rw [ej]; omega)
  rw [ej, List.length_map] at this
  exact this
end Go.Proofs.YtkffdhdhjfbhjaaDoor
