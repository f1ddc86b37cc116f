/-
  Rows of texts that are parts of others (SL); head's headLines, begins, goingOn; the join of a value's parts.
-/
import Derived.Test.YtkffdhdhjfbhjaaDoorHAny
import Derived.Test.YtkffdhdhjfbhjaaDoorHShow
import Derived.Test.YtkffdhdhjfbhjaaDoorSLoop
namespace Go.Proofs.YtkffdhdhjfbhjaaDoor
set_option linter.unusedSimpArgs false
set_option linter.unusedVariables false
open Go Go.RowKit Go.Shelf
set_option maxRecDepth 100000

theorem ML.lt {w : World} (h : ML w) : 0 < w.heap.size := by
  obtain ⟨m, h⟩ := h
  rcases Nat.lt_or_ge 0 w.heap.size with hlt | hge
  · exact hlt
  · simp [World.cell?, Array.getElem?_eq_none hge] at h
theorem ML.below {n : Nat} {w w' : World} (h : ML w) (hb : Below n w w') (hn : 0 < n) : ML w' := by
  obtain ⟨m, h⟩ := h
  exact ⟨m, (hb.cell (p := ⟨0, 0, none⟩) hn).trans h⟩
theorem ML.step {w w' : World} (h : ML w) (hb : Below w.heap.size w w') : ML w' := h.below hb h.lt

/-- The block g holds these texts from place o on. -/
def TX (W : World) (g o : Nat) (xs : List (List UInt8)) : Prop :=
  ∃ cur fr, W.heap[g]? = some (.cells cur 9 fr) ∧ ∀ k, ∀ h : k < xs.length, cur[o + k]? = some (sv xs[k])

theorem TX.cell {W : World} {g o : Nat} {xs : List (List UInt8)} (h : TX W g o xs) (k : Nat) (hk : k < xs.length) : W.cell? ⟨g, o + k, none⟩ = some (sv xs[k]) := by
  obtain ⟨cur, fr, hg, hc⟩ := h
  exact (cell_of_row W g (o + k) cur _ fr hg).trans (hc k hk)
theorem TX.lt {W : World} {g o : Nat} {xs : List (List UInt8)} (h : TX W g o xs) : g < W.heap.size := by
  obtain ⟨cur, fr, hg, _⟩ := h
  exact lt_of_blk hg
theorem TX.drop {W : World} {g o : Nat} {xs : List (List UInt8)} (h : TX W g o xs) (k : Nat) : TX W g (o + k) (xs.drop k) := by
  obtain ⟨cur, fr, hg, hc⟩ := h
  refine ⟨cur, fr, hg, fun j hj => ?_⟩
  rw [List.length_drop] at hj
  rw [Nat.add_assoc, hc (k + j) (by omega), List.getElem_drop]
theorem TX.take {W : World} {g o : Nat} {xs : List (List UInt8)} (h : TX W g o xs) (k : Nat) : TX W g o (xs.take k) := by
  obtain ⟨cur, fr, hg, hc⟩ := h
  refine ⟨cur, fr, hg, fun j hj => ?_⟩
  rw [List.length_take] at hj
  rw [hc j (by omega), List.getElem_take]
theorem TX.same {W W' : World} {g o : Nat} {xs : List (List UInt8)} (h : TX W g o xs) (he : W'.heap[g]? = W.heap[g]?) : TX W' g o xs := by
  obtain ⟨cur, fr, hg, hc⟩ := h
  exact ⟨cur, fr, he.trans hg, hc⟩
theorem TX.below {n : Nat} {W W' : World} {g o : Nat} {xs : List (List UInt8)} (h : TX W g o xs) (hb : Below n W W') (hn : g < n) : TX W' g o xs := h.same (hb.block g hn)

/-- A slice that reads as these texts, in a block that is free of whatever turns. -/
def SL (Free : World → Nat → Prop) (W : World) (v : Value) (xs : List (List UInt8)) : Prop :=
  (v = .slice none 0 0 ∧ xs = []) ∨ ∃ g o c, v = .slice (some ⟨g, o, none⟩) xs.length c ∧ xs.length ≤ c ∧ c ≤ maxLen ∧ TX W g o xs ∧ Free W g

/-- From place lo on. -/
def FB (lo : Nat) : World → Nat → Prop := fun _ k => lo ≤ k

theorem SL.form {Free : World → Nat → Prop} {W : World} {v : Value} {xs : List (List UInt8)} (h : SL Free W v xs) : ∃ A c, v = .slice A xs.length c := by
  rcases h with ⟨rfl, rfl⟩ | ⟨g, o, c, rfl, _⟩
  · exact ⟨none, 0, rfl⟩
  · exact ⟨_, _, rfl⟩

theorem SL.free {Free Free' : World → Nat → Prop} {W : World} {v : Value} {xs : List (List UInt8)} (h : SL Free W v xs) (hf : ∀ g, Free W g → Free' W g) : SL Free' W v xs := by
  rcases h with h | ⟨g, o, c, h1, h2, h3, h4, h5⟩
  · exact .inl h
  · exact .inr ⟨g, o, c, h1, h2, h3, h4, hf g h5⟩

theorem SL.below {lo : Nat} {W W' : World} {v : Value} {xs : List (List UInt8)} (h : SL (FB lo) W v xs) (hb : Below W.heap.size W W') : SL (FB lo) W' v xs := by
  rcases h with h | ⟨g, o, c, h1, h2, h3, h4, h5⟩
  · exact .inl h
  · exact .inr ⟨g, o, c, h1, h2, h3, h4.below hb h4.lt, h5⟩

theorem SL.of_own {W : World} {base : Nat} {v : Value} {xs : List (List UInt8)} (h : Ows W base v xs) : SL (FB base) W v xs := by
  rcases h.2 with ⟨rfl, h0⟩ | ⟨g, cap, cur, rfl, hbg, hg, h1, h2, h3, h4⟩
  · exact .inl ⟨rfl, List.eq_nil_of_length_eq_zero h0⟩
  · refine .inr ⟨g, 0, cap, rfl, h1, h2, ⟨cur, _, hg, fun k hk => ?_⟩, hbg⟩
    have h5 : (cur.toList.take xs.length)[k]? = (xs.map sv)[k]? := congrArg (fun l => l[k]?) (by simpa using h4)
    rw [List.getElem?_take, if_pos hk, List.getElem?_map, List.getElem?_eq_getElem hk] at h5
    simpa using h5

/-- Cut's contract, in these words. -/
theorem cut_sl (s : List UInt8) (w : World) (hs : s.length ≤ 2000000) (hM : ML w) :
    Calls Tryd.prog 31 #[.string (str s)] w fun e w' => ∃ v, e = .returned (.tuple #[v, sv (restL s)]) ∧ Below w.heap.size w w' ∧ SL (FB w.heap.size) w' v (cutL s) := by
  refine (cut_any s w hs hM (by have := hM.lt; omega)).mono ?_
  rintro e w' ⟨v, rfl, hb, ho⟩
  rw [run_cut_eq] at ho ⊢
  exact ⟨v, rfl, hb, SL.of_own ho⟩

def ixL (xs : List (List UInt8)) : Int := if (xs.takeWhile neB).length < xs.length then ((xs.takeWhile neB).length : Int) else -1

theorem tw_at {α : Type} {p : α → Bool} {l : List α} {k : Nat} (hk : k < (l.takeWhile p).length) (h : k < l.length) : p l[k] = true := by
  induction l generalizing k with
  | nil => simp at h
  | cons c l ih =>
    by_cases hc : p c = true
    · cases k with
      | zero => exact hc
      | succ k =>
        rw [List.takeWhile_cons_of_pos hc, List.length_cons] at hk
        exact ih (k := k) (by omega) (by simpa using h)
    · rw [List.takeWhile_cons_of_neg hc] at hk
      simp at hk
theorem tw_stop {α : Type} {p : α → Bool} {l : List α} (h : (l.takeWhile p).length < l.length) : p (l[(l.takeWhile p).length]) = false := by
  induction l with
  | nil => simp at h
  | cons c l ih =>
    by_cases hc : p c = true
    · have e := List.takeWhile_cons_of_pos (l := l) hc
      simp only [e, List.length_cons] at h ⊢
      simpa using ih (by omega)
    · have e := List.takeWhile_cons_of_neg (l := l) hc
      simp only [e, List.length_nil]
      simpa using hc
theorem tw_le {α : Type} (p : α → Bool) (l : List α) : (l.takeWhile p).length ≤ l.length := (List.takeWhile_prefix p).length_le

theorem str_inj {a b : List UInt8} (h : str a = str b) : a = b := by
  have := congrArg (fun s : ByteArray => s.data.toList) h
  simpa using this

theorem index_is (xs : List (List UInt8)) : Lib.idxOfS ((xs.map str).take xs.length) ByteArray.empty = ixL xs := by
  have get : ∀ j, ∀ h : j < xs.length, (xs.map str).getD j ByteArray.empty = str xs[j] := fun j h => by
    rw [List.getD_eq_getElem?_getD, List.getElem?_map, List.getElem?_eq_getElem h]; rfl
  have ne : ∀ j, ∀ h : j < xs.length, j < (xs.takeWhile neB).length → (xs.map str).getD j ByteArray.empty ≠ ByteArray.empty := fun j h hj e => by
    have h1 := tw_at hj h
    rw [get j h] at e
    have : xs[j] = [] := str_inj (e : str xs[j] = str [])
    rw [this] at h1; cases h1
  unfold ixL
  by_cases h : (xs.takeWhile neB).length < xs.length
  · rw [if_pos h]
    refine Lib.idxOfS_hit _ _ _ _ h (by simp) ?_ (fun j hj => ne j (by omega) hj)
    rw [get _ h]
    have := tw_stop h
    have : xs[(xs.takeWhile neB).length] = [] := by simpa [neB] using this
    rw [this]; rfl
  · rw [if_neg h]
    exact Lib.idxOfS_miss _ _ _ (fun j hj => ne j hj (by omega))

theorem index_sl {Free : World → Nat → Prop} {W : World} {v : Value} {xs : List (List UInt8)} (h : SL Free W v xs) (hl : xs.length ≤ 4000000) :
    Calls Tryd.prog 32 #[v, .string { data := #[] }] W fun e w' => e = .returned (.int .i64 (ixL xs)) ∧ w' = W := by
  rcases h with ⟨rfl, rfl⟩ | ⟨g, o, c, rfl, h1, h2, h3, _⟩
  · exact Tryd.slices_Index_string_empty none 0 _ W
  · have := Tryd.slices_Index_string g o xs.length c (xs.map str) ByteArray.empty W (by simp) (by omega) (fun j hj => by
      rw [List.length_map] at hj
      rw [h3.cell j hj, List.getD_eq_getElem?_getD, List.getElem?_map, List.getElem?_eq_getElem hj]; rfl)
    rw [index_is] at this
    exact this

theorem takeWhile_eq_take {α : Type} (p : α → Bool) (l : List α) : l.takeWhile p = l.take (l.takeWhile p).length := (List.prefix_iff_eq_take.1 (List.takeWhile_prefix p))

set_option maxHeartbeats 2000000 in
theorem headLines_any (s : List UInt8) (w : World) (hs : s.length ≤ 1000000) (hM : ML w) :
    Calls Tryd.prog 55 #[sv s] w fun e w' => ∃ v, e = .returned v ∧ Below w.heap.size w w' ∧ SL (FB w.heap.size) w' v (headL s) := by
  have HC := Lib.hid (cut_sl s w (by omega) hM)
  have hcl := (cut_len s).2.1
  clear hM
  go_enter Tryd.func55, Tryd.ntmps55
  go_wp2_with (go_at_call 31; refine HC.out.mono ?_; rintro e w1 ⟨v, rfl, hb1, hsl⟩)
  have HB1 := Lib.hid hb1
  have HSL := Lib.hid hsl
  clear hb1 hsl
  obtain ⟨xs, hxs⟩ : ∃ xs, xs = cutL s := ⟨_, rfl⟩
  have HH := Lib.hid (show headL s = xs.takeWhile neB by rw [hxs]; rfl)
  rw [← hxs] at HSL hcl
  clear hxs
  have HI := Lib.hid (index_sl HSL.out (by omega))
  obtain ⟨A, c, rfl⟩ := HSL.out.form
  by_cases hlt : (xs.takeWhile neB).length < xs.length
  · obtain ⟨k, hk⟩ : ∃ k, k = (xs.takeWhile neB).length := ⟨_, rfl⟩
    have hi : ixL xs = (k : Int) := by unfold ixL; rw [if_pos hlt, hk]
    rw [hi] at HI
    rw [← hk] at hlt
    obtain ⟨g, o, c', e, hc, hcm, htx, hfr⟩ : ∃ g o c', Value.slice A xs.length c = .slice (some ⟨g, o, none⟩) xs.length c' ∧ xs.length ≤ c' ∧ c' ≤ maxLen ∧ TX w1 g o xs ∧ FB w.heap.size w1 g := by
      rcases HSL.out with ⟨_, h⟩ | h
      · subst h; simp at hlt
      · exact h
    obtain ⟨rfl, rfl⟩ : A = some ⟨g, o, none⟩ ∧ c = c' := by simpa using e
    have HTX := Lib.hid (htx.take k)
    have HHK := Lib.hid (show headL s = xs.take k by rw [HH.out, takeWhile_eq_take, hk])
    have HFR := Lib.hid hfr
    have hkc : k ≤ c := by omega
    have hcm' : c ≤ 9223372036854775807 := hcm
    clear hk hi htx hfr e
    go_wp2_with (go_at_call 32; refine HI.out.mono ?_; rintro e w2 ⟨rfl, hw⟩; obtain rfl := hw.symm)
    go_ret
    refine ⟨_, rfl, HB1.out, ?_⟩
    have hl : (xs.take k).length = k := by rw [List.length_take]; omega
    rw [HHK.out]
    exact .inr ⟨g, o, c, by rw [hl]; rfl, by omega, hcm, HTX.out, HFR.out⟩
  · have hi : ixL xs = -1 := by unfold ixL; rw [if_neg hlt]
    rw [hi] at HI
    have HHK := Lib.hid (show headL s = xs by rw [HH.out, takeWhile_eq_take, List.take_of_length_le (by omega)])
    clear hi hlt
    go_wp2_with (go_at_call 32; refine HI.out.mono ?_; rintro e w2 ⟨rfl, hw⟩; obtain rfl := hw.symm)
    go_ret
    refine ⟨_, rfl, HB1.out, ?_⟩
    rw [HHK.out]
    exact HSL.out

/-! ### begins -/
theorem cut58 (s : List UInt8) (mx : Int) (w : World) (hs : s.length ≤ 2000000) (hm : w.cell? ⟨0, 0, none⟩ = some (.int .i64 mx)) (a b : List UInt8) (c : Bool) (h : Lib.cut s [58] = (a, b, c)) :
    Calls Tryd.prog 61 #[sv s, .string { data := #[58] }] w fun e w' => e = .returned (.tuple #[sv a, sv b, .bool c]) ∧ Below w.heap.size w w' := by
  have := Tryd.strings_Cut (str s) { data := #[58] } mx w (by simp [ByteArray.size]; omega) hm
  have e1 : (str s).data.toList = s := by simp
  have e2 : (⟨#[58]⟩ : ByteArray).data.toList = [58] := rfl
  rw [e1, e2, h] at this
  exact this.mono fun e w' ⟨h1, n, h2⟩ => ⟨h1, by rw [h2]; exact below_drewN (Below.refl _ _) n⟩

theorem cut58_le (s : List UInt8) : (Lib.cut s [58]).1.length ≤ s.length ∧ (Lib.cut s [58]).2.1.length ≤ s.length := by
  unfold Lib.cut
  split
  · simp; omega
  · simp

/-- What begins tells: as it is where there is no colon, too. -/
def beginsV (l : List UInt8) : Value := .tuple #[sv (Lib.cut l [58]).1, sv (Lib.cut l [58]).2.1, .bool ((Lib.cut l [58]).2.2 && nameB (Lib.cut l [58]).1)]

set_option maxHeartbeats 2000000 in
theorem begins_any (l : List UInt8) (w : World) (hl : l.length ≤ 1000000) (hM : ML w) :
    Calls Tryd.prog 56 #[sv l] w fun e w' => e = .returned (beginsV l) ∧ Below w.heap.size w w' := by
  obtain ⟨mx, hmx⟩ := hM
  obtain ⟨a, b, c, hc⟩ : ∃ a b c, Lib.cut l [58] = (a, b, c) := ⟨_, _, _, rfl⟩
  have hal : a.length ≤ 1000000 := by have := (cut58_le l).1; rw [hc] at this; dsimp only at this; omega
  have HC := Lib.hid (cut58 l mx w (by omega) hmx a b c hc)
  have HV := Lib.hid (show beginsV l = .tuple #[sv a, sv b, .bool (c && nameB a)] by unfold beginsV; rw [hc])
  have HN := Lib.hid (fun w => isName_any a w hal)
  obtain ⟨n, hn⟩ : ∃ n, n = nameB a := ⟨_, rfl⟩
  rw [← hn] at HN HV
  clear hc hmx hn
  cases c with
  | false =>
    go_enter Tryd.func56, Tryd.ntmps56
    go_wp2_with (go_at_call 61; refine HC.out.mono ?_; rintro e w1 ⟨rfl, hb1⟩)
    go_ret3
    rw [HV.out]
    exact ⟨rfl, hb1⟩
  | true =>
    go_enter Tryd.func56, Tryd.ntmps56
    go_wp2_with (go_at_call 61; refine HC.out.mono ?_; rintro e w1 ⟨rfl, hb1⟩)
    have HB1 := Lib.hid hb1
    clear hb1
    go_wp2_with fail
    refine (HN.out _).mono ?_
    rintro e w2 ⟨rfl, hb2⟩
    have HB2 := Lib.hid (HB1.out.trans (hb2.mono HB1.out.size))
    clear hb2
    go_wp2_with fail
    go_ret3
    rw [HV.out]
    exact ⟨rfl, HB2.out⟩
end Go.Proofs.YtkffdhdhjfbhjaaDoor
