/-
  The reference's word and Get (layer 7): they are the plain functions.
  The reference's Show (layer 7): it is the plain function.
  The law's own (layer 7): a command with a row of its own.
-/
import Derived.Deep.RegionLaw
import Derived.Deep.CutRange
import Derived.WalkLawsBesides
import Derived.Test.YtbmjmiioobgbfaaGreatDoorQB
import Derived.Test.YtbmjmiioobgbfaaGreatDoorKShown2
import Derived.Test.YtbmjmiioobgbfaaGreatDoorKAdd
import Derived.Test.YtbmjmiioobgbfaaGreatDoorKLaw1
namespace Go.Proofs.YtbmjmiioobgbfaaGreatDoor
open Go Go.RowKit Go.Shelf
set_option maxRecDepth 100000
set_option linter.unusedSimpArgs false
set_option linter.unusedVariables false

theorem rword_any (v : Nat) (h1 : 1 ≤ v) (h6 : v ≤ 6) (w : World) : Calls Tryz.prog 62 #[.int .u8 (v : Int)] w fun e w' => e = .returned (sv (hdL v)) ∧ Below w.heap.size w w' := by
  rcases (show v = 1 ∨ v = 2 ∨ v = 3 ∨ v = 4 ∨ v = 5 ∨ v = 6 by omega) with rfl | rfl | rfl | rfl | rfl | rfl
  all_goals
    go_enter Tryz.func62, Tryz.ntmps62
    go_wp2
    go_ret
    exact ⟨rfl, below_alloc _ _⟩

theorem get_at {l : List PM} {n : List UInt8} {k : Nat} (hk : k < l.length) (hn : (l.getD k pm0).1 = n) (h : ∀ j, j < k → (l.getD j pm0).1 ≠ n) : getP l n = ((l.getD k pm0).2, true) := by
  rcases findP_spec l n with ⟨_, hb⟩ | ⟨j, hj, e, hjn, hb⟩
  · exact absurd hn (hb _ (pm_mem hk))
  · have ejk : j = k := by
      rcases Nat.lt_trichotomy j k with h' | h' | h'
      · have := h j h'
        rw [pm_getD hj] at this
        exact absurd hjn this
      · exact h'
      · have := hb k hk h'
        rw [← pm_getD hk] at this
        exact absurd hn this
    subst ejk
    unfold getP
    rw [e, if_neg (by omega)]
    rfl
theorem get_none {l : List PM} {n : List UInt8} (h : ∀ j, j < l.length → (l.getD j pm0).1 ≠ n) : getP l n = ([], false) := by
  rcases findP_spec l n with ⟨e, _⟩ | ⟨j, hj, e, hjn, hb⟩
  · unfold getP
    rw [e, if_pos (by decide)]
  · have := h j hj
    rw [pm_getD hj] at this
    exact absurd hjn this

set_option maxHeartbeats 4000000 in
theorem rgetK_any (a : Cm) (n : List UInt8) (u : Value) (w : World) (hu : PR w u a.ps) (hal : a.ps.length ≤ 1000000) :
    Calls Tryz.prog 30 #[cmV a u, sv n] w fun e w' => e = .returned (.tuple #[sv (getP a.ps n).1, .bool (getP a.ps n).2]) ∧ Below w.heap.size w w' := by
  obtain ⟨v, xa, ps⟩ := a
  obtain ⟨A, c, rfl⟩ := hu.form
  dsimp only at hu hal ⊢
  have HU := Lib.hid hu
  obtain ⟨X, hX⟩ : ∃ X, X = w.alloc (.cells #[.int .u8 (v : Int), sv xa, .slice A ps.length c] 61) := ⟨_, rfl⟩
  have HB := Lib.hid (show BQ w ⟨v, xa, ps⟩ (.slice A ps.length c) X by rw [hX]; exact BQ.start w ⟨v, xa, ps⟩ _)
  have HX := Lib.hid hX
  clear hu hX
  go_enter Tryz.func30, Tryz.ntmps30
  go_wp2_with fail
  rw [← HX.out]
  go_loopw [6] (fun i W => ∃ k : Nat, k ≤ ps.length ∧ i = .int .i64 k ∧ (∀ j, j < k → (ps.getD j pm0).1 ≠ n) ∧ BQ w ⟨v, xa, ps⟩ (.slice A ps.length c) W) (fun i _ => ps.length - (intOf i).toNat)
  case atStart => exact ⟨0, by omega, rfl, (fun j h => absurd h (Nat.not_lt_zero j)), HB.out⟩
  case round =>
    obtain ⟨k, hk, rfl, hup, hq⟩ := hrel
    have HUP := Lib.hid hup
    have HK := Lib.hid hq
    clear hup hq
    obtain ⟨c0, c1, c2⟩ := HK.out.all
    have lx := lt_of_blk HK.out.2
    by_cases hlt : k < ps.length
    · obtain ⟨n1, e1⟩ : ∃ x, x = (ps.getD k pm0).1 := ⟨_, rfl⟩
      obtain ⟨n2, e2⟩ : ∃ x, x = (ps.getD k pm0).2 := ⟨_, rfl⟩
      obtain ⟨g, off, rfl, hg, q0, q1⟩ := (HU.out.step HK.out.1).at hlt
      rw [← e1] at q0
      rw [← e2] at q1
      have hlg : g < wr.heap.size := hg
      have hki : (k : Int) < (ps.length : Int) := by omega
      by_cases he : n1 = n
      · have HF := Lib.hid (show getP ps n = (n2, true) by rw [get_at hlt (by rw [← e1]; exact he) HUP.out, e2])
        have hb : (n1 == n) = true := by simp [he]
        clear e1 e2 he
        go_wp2
        go_ret2
        rw [HF.out]
        exact ⟨rfl, HK.out.1⟩
      · have HN := Lib.hid (show ∀ j, j < k + 1 → (ps.getD j pm0).1 ≠ n from fun j hj => by
          by_cases h : j = k
          · rw [h, ← e1]; exact he
          · exact HUP.out j (by omega))
        have hb : (n1 == n) = false := by simp [he]
        clear e1 e2 he
        go_wp2_with fail
        go_roundw
        case rel => exact ⟨k + 1, by omega, by go_num, HN.out, HK.out⟩
        case measure => simp [intOf]; omega
    · obtain rfl : k = ps.length := by omega
      have HF := Lib.hid (get_none HUP.out)
      clear hlt hk
      go_wp2_with fail
      go_ret2
      rw [HF.out]
      exact ⟨rfl, HK.out.1⟩
end Go.Proofs.YtbmjmiioobgbfaaGreatDoor

namespace Go.Proofs.YtbmjmiioobgbfaaGreatDoor
open Go Go.RowKit Go.Shelf
set_option maxRecDepth 100000
set_option linter.unusedSimpArgs false
set_option linter.unusedVariables false

theorem psText_next {l : List PM} {k : Nat} (h : k < l.length) : psText (l.take (k + 1)) = psText (l.take k) ++ pText (l.getD k pm0) := by
  rw [List.take_succ_eq_append_getElem h, pm_getD h]
  unfold psText
  rw [List.flatMap_append]
  simp only [List.flatMap_cons, List.flatMap_nil, List.append_nil]
theorem psUpto_len {l : List PM} (hx : ∀ p ∈ l, p.1.length ≤ 1000000 ∧ p.2.length ≤ 1000000) : ∀ k, (psText (l.take k)).length ≤ k * 2000002
  | 0 => by simp [psText]
  | k + 1 => by
    have ih := psUpto_len hx k
    by_cases h : k < l.length
    · rw [psText_next h, List.length_append]
      have := hx _ (pm_mem h)
      have e : (pText (l.getD k pm0)).length ≤ 2000002 := by
        unfold pText
        simp only [List.length_cons, List.length_append]
        split
        · rw [List.length_nil]; omega
        · rw [List.length_cons]; omega
      rw [Nat.succ_mul]
      exact Nat.add_le_add ih e
    · rw [List.take_of_length_le (by omega : l.length ≤ k)] at ih
      rw [List.take_of_length_le (by omega : l.length ≤ k + 1)]
      exact Nat.le_trans ih (Nat.mul_le_mul_right _ (Nat.le_succ k))

set_option maxHeartbeats 16000000 in
theorem rshowK_any (c : Cm) (u : Value) (w : World) (hu : PR w u c.ps) (hv : c.verb < 256) (ha : c.arg.length ≤ 1000000) (hl : c.ps.length ≤ 1000000) (hx : ∀ p ∈ c.ps, p.1.length ≤ 1000000 ∧ p.2.length ≤ 1000000) :
    Calls Tryz.prog 29 #[cmV c u] w fun e w' => e = .returned (.tuple #[sv (showK c).1, .int .i64 ((showK c).2 : Int)]) ∧ Below w.heap.size w w' := by
  have HMA := Lib.hid (fun W (h : PR W u c.ps) => rmayK_any c u W h hv ha hl hx)
  obtain ⟨m, hm⟩ : ∃ m, m = mayK c := ⟨_, rfl⟩
  rw [← hm] at HMA
  have HM := Lib.hid hm
  have HPL := Lib.hid (psUpto_len hx)
  obtain ⟨v, xa, ps⟩ := c
  obtain ⟨A, cc, rfl⟩ := hu.form
  dsimp only at hu hv ha hl hx HMA HPL
  have HU := Lib.hid hu
  have HA := Lib.hid ha
  obtain ⟨X, hX⟩ : ∃ X, X = w.alloc (.cells #[.int .u8 (v : Int), sv xa, .slice A ps.length cc] 61) := ⟨_, rfl⟩
  have HB := Lib.hid (show BQ w ⟨v, xa, ps⟩ (.slice A ps.length cc) X by rw [hX]; exact BQ.start w ⟨v, xa, ps⟩ _)
  have HX := Lib.hid hX
  have HXX := Lib.hid hx
  clear hu hX hm hx ha
  go_enter Tryz.func29, Tryz.ntmps29
  go_wp2_with fail
  rw [← HX.out]
  refine (HMA.out _ (HU.out.step HB.out.1)).mono ?_
  rintro e w1 ⟨rfl, hb1⟩
  have HB1 := Lib.hid (HB.out.step hb1)
  obtain ⟨c0, c1, c2⟩ := HB1.out.all
  have lx := lt_of_blk HB1.out.2
  clear hb1 HB HMA
  cases m with
  | false =>
    have HF := Lib.hid (show showK ⟨v, xa, ps⟩ = ([], 4) by unfold showK; rw [← HM.out]; rfl)
    go_wp2
    go_ret2
    rw [HF.out]
    exact ⟨rfl, HB1.out.1⟩
  | true =>
    have hmv := may_verb HM.out.symm
    have hp8 := (may_ps HM.out.symm).1
    dsimp only at hmv hp8
    have HW := Lib.hid (fun W => rword_any v hmv.1 hmv.2 W)
    obtain ⟨H, hH⟩ : ∃ H, H = hdL v := ⟨_, rfl⟩
    have hHl : H.length ≤ 10 := by
      rw [hH]
      rcases (show v = 1 ∨ v = 2 ∨ v = 3 ∨ v = 4 ∨ v = 5 ∨ v = 6 by omega) with rfl | rfl | rfl | rfl | rfl | rfl <;> decide
    have HH := Lib.hid hH
    rw [← hH] at HW
    clear hH
    go_wp2_with fail
    refine (HW.out _).mono ?_
    rintro e w2 ⟨rfl, hb2⟩
    have HB2 := Lib.hid (HB1.out.step hb2)
    clear hb2 c0 c1 c2 lx HW HB1
    obtain ⟨c0, c1, c2⟩ := HB2.out.all
    have lx := lt_of_blk HB2.out.2
    have o1 : ¬ 9223372036854775807 < H.length + 1 := by omega
    have o2 : ¬ 9223372036854775807 < H.length + 1 + xa.length := by have := HA.out; omega
    have o3 : ¬ 9223372036854775807 < H.length + xa.length := by have := HA.out; omega
    have o4 : ¬ 9223372036854775807 < H.length + 1 + xa.length + 1 := by have := HA.out; omega
    obtain ⟨S0, hS0⟩ : ∃ s, s = hdL v ++ argText ⟨v, xa, ps⟩ := ⟨_, rfl⟩
    have HS0 := Lib.hid hS0
    have hSl : S0.length ≤ 2000000 := by
      rw [hS0, ← HH.out, List.length_append]
      have := HA.out
      have e : (argText ⟨v, xa, ps⟩).length ≤ xa.length + 2 := by
        unfold argText
        dsimp only
        split
        · omega
        · split
          · unfold pathL
            split
            · simp
            · simp
          · simp
      omega
    have HSL := Lib.hid hSl
    have HF := Lib.hid (show showK ⟨v, xa, ps⟩ = if (S0 ++ psText ps).length ≤ 510 then (S0 ++ psText ps, 0) else ([], 40) by unfold showK shownK; rw [← HM.out, hS0]; rfl)
    have H3 := Lib.hid (show v = 3 ∨ v = 4 → str H ++ { data := #[60] } ++ str xa ++ { data := #[62] } = str S0 from fun h => by
      rw [hS0, ← HH.out]
      have he : endL xa = true := by
        have := HM.out.symm
        rcases h with rfl | rfl
        · simp only [mayK, Bool.and_eq_true] at this
          exact this.1
        · simp only [mayK, Bool.and_eq_true] at this
          simp [endL, this.1]
      have : argText ⟨v, xa, ps⟩ = [60] ++ xa ++ [62] := by
        have hp : pathL xa = [60] ++ xa ++ [62] := by unfold pathL; rw [if_pos he]; simp
        rcases h with rfl | rfl <;> exact hp
      rw [this]
      show str H ++ str [60] ++ str xa ++ str [62] = _
      simp only [str_append, List.append_assoc])
    have H4 := Lib.hid (show v ≠ 3 ∧ v ≠ 4 → str H ++ str xa = str S0 from fun h => by
      rw [hS0, ← HH.out, str_append]
      have : argText ⟨v, xa, ps⟩ = xa := by
        have := HM.out
        rcases (show v = 1 ∨ v = 2 ∨ v = 5 ∨ v = 6 by omega) with rfl | rfl | rfl | rfl
        · rfl
        all_goals
          simp only [mayK, Bool.and_eq_true, List.isEmpty_iff] at this
          have e := this.symm
          simp only [Bool.and_eq_true, List.isEmpty_iff] at e
          rw [e.1]; rfl
      rw [this])
    clear hS0 hSl hHl
    rcases (show v = 3 ∨ v = 4 ∨ (v ≠ 3 ∧ v ≠ 4) by omega) with rfl | rfl | hn
    · have h3 := H3.out (.inl rfl)
      clear H3 H4
      go_wp2_with fail
      clear h3 o1 o2 o3 o4 c0 c1 c2 lx
      go_loopw [4, 5] (fun s i W => ∃ k : Nat, k ≤ ps.length ∧ i = .int .i64 k ∧ s = sv (S0 ++ psText (ps.take k)) ∧ BQ w ⟨3, xa, ps⟩ (.slice A ps.length cc) W) (fun _ i _ => ps.length - (intOf i).toNat)
      case atStart => exact ⟨0, by omega, rfl, by simp [psText], HB2.out⟩
      case round =>
        obtain ⟨k, hk, rfl, rfl, hq⟩ := hrel
        have HK := Lib.hid hq
        clear hq
        obtain ⟨c0, c1, c2⟩ := HK.out.all
        have lx := lt_of_blk HK.out.2
        have HT0 := Lib.hid (show ∀ h : k < ps.length, S0 ++ psText (ps.take (k + 1)) = (S0 ++ psText (ps.take k)) ++ pText (ps.getD k pm0) from fun h => by rw [psText_next h, List.append_assoc])
        obtain ⟨T, hT⟩ : ∃ T, T = S0 ++ psText (ps.take k) := ⟨_, rfl⟩
        rw [← hT] at HT0 ⊢
        have hTl : T.length ≤ 20000000000000 := by rw [hT, List.length_append]; have := HPL.out k; have := HSL.out; omega
        by_cases hlt : k < ps.length
        · obtain ⟨n1, e1⟩ : ∃ x, x = (ps.getD k pm0).1 := ⟨_, rfl⟩
          obtain ⟨n2, e2⟩ : ∃ x, x = (ps.getD k pm0).2 := ⟨_, rfl⟩
          obtain ⟨g, off, rfl, hg, q0, q1⟩ := (HU.out.step HK.out.1).at hlt
          have hnl := HXX.out _ (pm_mem hlt)
          rw [← e1, ← e2] at hnl
          have HN := Lib.hid (show S0 ++ psText (ps.take (k + 1)) = T ++ pText (n1, n2) by rw [HT0.out hlt, e1, e2])
          rw [← e1] at q0
          rw [← e2] at q1
          have hki : (k : Int) < (ps.length : Int) := by omega
          have o5 : ¬ 9223372036854775807 < T.length + 1 := by omega
          have o6 : ¬ 9223372036854775807 < T.length + 1 + n1.length := by omega
          have o7 : ¬ 9223372036854775807 < T.length + 1 + n1.length + 1 := by omega
          have o8 : ¬ 9223372036854775807 < T.length + 1 + n1.length + 1 + n2.length := by omega
          clear hT e1 e2 HT0 hTl hnl
          by_cases hz : n2 = []
          · subst hz
            have h5 : str T ++ { data := #[32] } ++ str n1 = str (T ++ pText (n1, [])) := by
              show str T ++ str [32] ++ str n1 = _
              simp only [str_append, List.append_assoc]
              unfold pText
              rw [if_pos rfl, List.append_nil]
              rfl
            go_wp2_with fail
            go_roundw
            case rel => exact ⟨k + 1, by omega, by go_num, by rw [HN.out], HK.out⟩
            case measure => simp [intOf]; omega
          · have h5 : str T ++ { data := #[32] } ++ str n1 ++ { data := #[61] } ++ str n2 = str (T ++ pText (n1, n2)) := by
              show str T ++ str [32] ++ str n1 ++ str [61] ++ str n2 = _
              simp only [str_append, List.append_assoc]
              unfold pText
              rw [if_neg hz]
              rfl
            have h6 : n2.isEmpty = false := by cases n2 with | nil => exact absurd rfl hz | cons => rfl
            go_wp2_with fail
            go_roundw
            case rel => exact ⟨k + 1, by omega, by go_num, by rw [HN.out], HK.out⟩
            case measure => simp [intOf]; omega
        · obtain rfl : k = ps.length := by omega
          rw [List.take_length] at hT
          have HF2 := Lib.hid (show showK ⟨3, xa, ps⟩ = if T.length ≤ 510 then (T, 0) else ([], 40) by rw [HF.out, hT])
          clear hT HT0 hlt hk hTl
          by_cases h5 : T.length ≤ 510
          · have HF3 := Lib.hid (show showK ⟨3, xa, ps⟩ = (T, 0) by rw [HF2.out, if_pos h5])
            have h6 : ¬ (510 : Int) < (T.length : Int) := by omega
            go_wp2
            go_ret2
            rw [HF3.out]
            exact ⟨rfl, HK.out.1⟩
          · have HF3 := Lib.hid (show showK ⟨3, xa, ps⟩ = ([], 40) by rw [HF2.out, if_neg h5])
            have h6 : (510 : Int) < (T.length : Int) := by omega
            go_wp2
            go_ret2
            rw [HF3.out]
            exact ⟨rfl, HK.out.1⟩
    · have h3 := H3.out (.inr rfl)
      clear H3 H4
      go_wp2_with fail
      clear h3 o1 o2 o3 o4 c0 c1 c2 lx
      go_loopw [4, 5] (fun s i W => ∃ k : Nat, k ≤ ps.length ∧ i = .int .i64 k ∧ s = sv (S0 ++ psText (ps.take k)) ∧ BQ w ⟨4, xa, ps⟩ (.slice A ps.length cc) W) (fun _ i _ => ps.length - (intOf i).toNat)
      case atStart => exact ⟨0, by omega, rfl, by simp [psText], HB2.out⟩
      case round =>
        obtain ⟨k, hk, rfl, rfl, hq⟩ := hrel
        have HK := Lib.hid hq
        clear hq
        obtain ⟨c0, c1, c2⟩ := HK.out.all
        have lx := lt_of_blk HK.out.2
        have HT0 := Lib.hid (show ∀ h : k < ps.length, S0 ++ psText (ps.take (k + 1)) = (S0 ++ psText (ps.take k)) ++ pText (ps.getD k pm0) from fun h => by rw [psText_next h, List.append_assoc])
        obtain ⟨T, hT⟩ : ∃ T, T = S0 ++ psText (ps.take k) := ⟨_, rfl⟩
        rw [← hT] at HT0 ⊢
        have hTl : T.length ≤ 20000000000000 := by rw [hT, List.length_append]; have := HPL.out k; have := HSL.out; omega
        by_cases hlt : k < ps.length
        · obtain ⟨n1, e1⟩ : ∃ x, x = (ps.getD k pm0).1 := ⟨_, rfl⟩
          obtain ⟨n2, e2⟩ : ∃ x, x = (ps.getD k pm0).2 := ⟨_, rfl⟩
          obtain ⟨g, off, rfl, hg, q0, q1⟩ := (HU.out.step HK.out.1).at hlt
          have hnl := HXX.out _ (pm_mem hlt)
          rw [← e1, ← e2] at hnl
          have HN := Lib.hid (show S0 ++ psText (ps.take (k + 1)) = T ++ pText (n1, n2) by rw [HT0.out hlt, e1, e2])
          rw [← e1] at q0
          rw [← e2] at q1
          have hki : (k : Int) < (ps.length : Int) := by omega
          have o5 : ¬ 9223372036854775807 < T.length + 1 := by omega
          have o6 : ¬ 9223372036854775807 < T.length + 1 + n1.length := by omega
          have o7 : ¬ 9223372036854775807 < T.length + 1 + n1.length + 1 := by omega
          have o8 : ¬ 9223372036854775807 < T.length + 1 + n1.length + 1 + n2.length := by omega
          clear hT e1 e2 HT0 hTl hnl
          by_cases hz : n2 = []
          · subst hz
            have h5 : str T ++ { data := #[32] } ++ str n1 = str (T ++ pText (n1, [])) := by
              show str T ++ str [32] ++ str n1 = _
              simp only [str_append, List.append_assoc]
              unfold pText
              rw [if_pos rfl, List.append_nil]
              rfl
            go_wp2_with fail
            go_roundw
            case rel => exact ⟨k + 1, by omega, by go_num, by rw [HN.out], HK.out⟩
            case measure => simp [intOf]; omega
          · have h5 : str T ++ { data := #[32] } ++ str n1 ++ { data := #[61] } ++ str n2 = str (T ++ pText (n1, n2)) := by
              show str T ++ str [32] ++ str n1 ++ str [61] ++ str n2 = _
              simp only [str_append, List.append_assoc]
              unfold pText
              rw [if_neg hz]
              rfl
            have h6 : n2.isEmpty = false := by cases n2 with | nil => exact absurd rfl hz | cons => rfl
            go_wp2_with fail
            go_roundw
            case rel => exact ⟨k + 1, by omega, by go_num, by rw [HN.out], HK.out⟩
            case measure => simp [intOf]; omega
        · obtain rfl : k = ps.length := by omega
          rw [List.take_length] at hT
          have HF2 := Lib.hid (show showK ⟨4, xa, ps⟩ = if T.length ≤ 510 then (T, 0) else ([], 40) by rw [HF.out, hT])
          clear hT HT0 hlt hk hTl
          by_cases h5 : T.length ≤ 510
          · have HF3 := Lib.hid (show showK ⟨4, xa, ps⟩ = (T, 0) by rw [HF2.out, if_pos h5])
            have h6 : ¬ (510 : Int) < (T.length : Int) := by omega
            go_wp2
            go_ret2
            rw [HF3.out]
            exact ⟨rfl, HK.out.1⟩
          · have HF3 := Lib.hid (show showK ⟨4, xa, ps⟩ = ([], 40) by rw [HF2.out, if_neg h5])
            have h6 : (510 : Int) < (T.length : Int) := by omega
            go_wp2
            go_ret2
            rw [HF3.out]
            exact ⟨rfl, HK.out.1⟩
    · have h3 := H4.out hn
      have n3 : ((v : Int) == 3) = false := by rw [beq_eq_false_iff_ne]; omega
      have n4 : ((v : Int) == 4) = false := by rw [beq_eq_false_iff_ne]; omega
      clear H3 H4 hn
      go_wp2_with fail
      clear h3 o1 o2 o3 o4 c0 c1 c2 lx
      go_loopw [4, 5] (fun s i W => ∃ k : Nat, k ≤ ps.length ∧ i = .int .i64 k ∧ s = sv (S0 ++ psText (ps.take k)) ∧ BQ w ⟨v, xa, ps⟩ (.slice A ps.length cc) W) (fun _ i _ => ps.length - (intOf i).toNat)
      case atStart => exact ⟨0, by omega, rfl, by simp [psText], HB2.out⟩
      case round =>
        obtain ⟨k, hk, rfl, rfl, hq⟩ := hrel
        have HK := Lib.hid hq
        clear hq
        obtain ⟨c0, c1, c2⟩ := HK.out.all
        have lx := lt_of_blk HK.out.2
        have HT0 := Lib.hid (show ∀ h : k < ps.length, S0 ++ psText (ps.take (k + 1)) = (S0 ++ psText (ps.take k)) ++ pText (ps.getD k pm0) from fun h => by rw [psText_next h, List.append_assoc])
        obtain ⟨T, hT⟩ : ∃ T, T = S0 ++ psText (ps.take k) := ⟨_, rfl⟩
        rw [← hT] at HT0 ⊢
        have hTl : T.length ≤ 20000000000000 := by rw [hT, List.length_append]; have := HPL.out k; have := HSL.out; omega
        by_cases hlt : k < ps.length
        · obtain ⟨n1, e1⟩ : ∃ x, x = (ps.getD k pm0).1 := ⟨_, rfl⟩
          obtain ⟨n2, e2⟩ : ∃ x, x = (ps.getD k pm0).2 := ⟨_, rfl⟩
          obtain ⟨g, off, rfl, hg, q0, q1⟩ := (HU.out.step HK.out.1).at hlt
          have hnl := HXX.out _ (pm_mem hlt)
          rw [← e1, ← e2] at hnl
          have HN := Lib.hid (show S0 ++ psText (ps.take (k + 1)) = T ++ pText (n1, n2) by rw [HT0.out hlt, e1, e2])
          rw [← e1] at q0
          rw [← e2] at q1
          have hki : (k : Int) < (ps.length : Int) := by omega
          have o5 : ¬ 9223372036854775807 < T.length + 1 := by omega
          have o6 : ¬ 9223372036854775807 < T.length + 1 + n1.length := by omega
          have o7 : ¬ 9223372036854775807 < T.length + 1 + n1.length + 1 := by omega
          have o8 : ¬ 9223372036854775807 < T.length + 1 + n1.length + 1 + n2.length := by omega
          clear hT e1 e2 HT0 hTl hnl
          by_cases hz : n2 = []
          · subst hz
            have h5 : str T ++ { data := #[32] } ++ str n1 = str (T ++ pText (n1, [])) := by
              show str T ++ str [32] ++ str n1 = _
              simp only [str_append, List.append_assoc]
              unfold pText
              rw [if_pos rfl, List.append_nil]
              rfl
            go_wp2_with fail
            go_roundw
            case rel => exact ⟨k + 1, by omega, by go_num, by rw [HN.out], HK.out⟩
            case measure => simp [intOf]; omega
          · have h5 : str T ++ { data := #[32] } ++ str n1 ++ { data := #[61] } ++ str n2 = str (T ++ pText (n1, n2)) := by
              show str T ++ str [32] ++ str n1 ++ str [61] ++ str n2 = _
              simp only [str_append, List.append_assoc]
              unfold pText
              rw [if_neg hz]
              rfl
            have h6 : n2.isEmpty = false := by cases n2 with | nil => exact absurd rfl hz | cons => rfl
            go_wp2_with fail
            go_roundw
            case rel => exact ⟨k + 1, by omega, by go_num, by rw [HN.out], HK.out⟩
            case measure => simp [intOf]; omega
        · obtain rfl : k = ps.length := by omega
          rw [List.take_length] at hT
          have HF2 := Lib.hid (show showK ⟨v, xa, ps⟩ = if T.length ≤ 510 then (T, 0) else ([], 40) by rw [HF.out, hT])
          clear hT HT0 hlt hk hTl
          by_cases h5 : T.length ≤ 510
          · have HF3 := Lib.hid (show showK ⟨v, xa, ps⟩ = (T, 0) by rw [HF2.out, if_pos h5])
            have h6 : ¬ (510 : Int) < (T.length : Int) := by omega
            go_wp2
            go_ret2
            rw [HF3.out]
            exact ⟨rfl, HK.out.1⟩
          · have HF3 := Lib.hid (show showK ⟨v, xa, ps⟩ = ([], 40) by rw [HF2.out, if_neg h5])
            have h6 : (510 : Int) < (T.length : Int) := by omega
            go_wp2
            go_ret2
            rw [HF3.out]
            exact ⟨rfl, HK.out.1⟩
end Go.Proofs.YtbmjmiioobgbfaaGreatDoor

namespace Go.Proofs.YtbmjmiioobgbfaaGreatDoor
open Go Go.RowKit Go.Shelf
set_option maxRecDepth 100000
set_option linter.unusedSimpArgs false
set_option linter.unusedVariables false

theorem owns_empty_p {W : World} {base g : Nat} (hg : W.heap[g]? = some (.cells #[] 38 (0, 0))) (hb : base ≤ g) : W.ownsRow base 38 2 (.slice (some ⟨g, 0, none⟩) 0 0) 0 [] :=
  ⟨by simp, .inr ⟨g, 0, #[], rfl, hb, hg, Nat.le_refl _, by decide, rfl, by simp⟩⟩
def flatQ (ps : List PM) : List Value := ps.flatMap fun p => [sv p.1, sv p.2]
theorem flatQ_len : ∀ ps : List PM, (flatQ ps).length = ps.length * 2
  | [] => rfl
  | p :: ps => by
    have := flatQ_len ps
    unfold flatQ at this ⊢
    simp only [List.flatMap_cons, List.length_append, List.length_cons, List.length_nil]
    omega
theorem flatQ_get : ∀ (ps : List PM) (j : Nat), j < ps.length → (flatQ ps)[j * 2]? = some (sv (ps.getD j pm0).1) ∧ (flatQ ps)[j * 2 + 1]? = some (sv (ps.getD j pm0).2)
  | [], j, h => absurd h (Nat.not_lt_zero j)
  | p :: ps, 0, _ => ⟨rfl, rfl⟩
  | p :: ps, j + 1, h => by
    have ih := flatQ_get ps j (by simpa using h)
    have e : flatQ (p :: ps) = sv p.1 :: sv p.2 :: flatQ ps := rfl
    rw [e, show (j + 1) * 2 = j * 2 + 1 + 1 by omega]
    simpa using ih
theorem flatQ_one : ∀ (ps : List PM), ∀ u ∈ flatQ ps, u.oneCell' = true
  | [], u, h => by cases h
  | p :: ps, u, h => by
    have e : flatQ (p :: ps) = sv p.1 :: sv p.2 :: flatQ ps := rfl
    rw [e] at h
    simp only [List.mem_cons] at h
    rcases h with rfl | rfl | h
    · rfl
    · rfl
    · exact flatQ_one ps u h

theorem run_own {W : World} {B g cc : Nat} {A : Option Addr} {ps : List PM} (hg : W.heap[g]? = some (.cells #[] 38 (0, 0))) (hB : B ≤ g) (h : PR W (.slice A ps.length cc) ps) (hl : ps.length ≤ 100000) (hp : 0 < ps.length) :
    ∃ g2 cap w', (Builtin.append_ #[35, 35] 35 #[.slice (some ⟨g, 0, none⟩) 0 0, .slice A ps.length cc]).run Tryz.prog W = .ok (.slice (some ⟨g2, 0, none⟩) ps.length cap) w' ∧
      PR w' (.slice (some ⟨g2, 0, none⟩) ps.length cap) ps ∧ W.grownBy w' (some g) ∧ B ≤ g2 := by
  obtain ⟨i, hi, hz0, hz1, hz2⟩ := info_parts (show (Tryz.prog.info? 38).map (fun i => (i.zero, i.size, i.bytes)) = some (some (.agg #[.string ⟨#[]⟩, .string ⟨#[]⟩]), 2, 32) by kernel_rfl)
  obtain ⟨g0, o, rfl, hg0, hc⟩ : ∃ g0 o, A = some ⟨g0, o, none⟩ ∧ g0 < W.heap.size ∧ ∀ j, j < ps.length → W.cell? ⟨g0, o + j * 2, none⟩ = some (sv (ps.getD j pm0).1) ∧ W.cell? ⟨g0, o + j * 2 + 1, none⟩ = some (sv (ps.getD j pm0).2) := by
    obtain ⟨A', c', e, h'⟩ := h
    simp only [Value.slice.injEq] at e
    obtain ⟨rfl, _, rfl⟩ := e
    exact h' hp
  have hnews : ∀ j u, (flatQ ps)[j]? = some u → W.cell? ((⟨g0, o, none⟩ : Addr).add j) = some u := by
    intro j u hu
    have hj : j < (flatQ ps).length := by
      rcases Nat.lt_or_ge j (flatQ ps).length with h | h
      · exact h
      · rw [List.getElem?_eq_none h] at hu; cases hu
    rw [flatQ_len] at hj
    have e1 : (⟨g0, o, none⟩ : Addr).add j = ⟨g0, o + j, none⟩ := by unfold Addr.add; split <;> simp_all
    rw [e1]
    obtain ⟨a, b⟩ := flatQ_get ps (j / 2) (by omega)
    obtain ⟨c, d⟩ := hc (j / 2) (by omega)
    rcases Nat.mod_two_eq_zero_or_one j with hm | hm
    · rw [show j / 2 * 2 = j by omega] at a c
      rw [a] at hu; rw [c]; exact hu
    · rw [show j / 2 * 2 + 1 = j by omega] at b
      rw [show o + j / 2 * 2 + 1 = o + j by omega] at d
      rw [b] at hu; rw [d]; exact hu
  obtain ⟨g2, cap, w', hrun, hown, hgr, hor, hlt⟩ := run_append_lies (P := Tryz.prog) W 35 35 B 38 i _ 2 32 Tryz.underlying35 hi hz0 hz1 hz2 rfl (by decide) (.slice (some ⟨g, 0, none⟩) 0 0) 0 [] (owns_empty_p hg hB) ⟨g0, o, none⟩ ps.length cc (flatQ ps) (flatQ_len ps) hnews (flatQ_one ps) hp (by unfold maxLen; omega) (by omega) (by have := lt_of_blk hg; omega) W.heap.size rfl
  rw [Nat.zero_add, List.nil_append] at hown
  rw [Nat.zero_add] at hrun
  refine ⟨g2, cap, w', hrun, ?_, hgr, (hown.lt g2 rfl).1⟩
  refine ⟨_, _, rfl, fun _ => ⟨g2, 0, rfl, hlt, fun j hj => ?_⟩⟩
  obtain ⟨a, b⟩ := flatQ_get ps j hj
  rw [Nat.zero_add]
  exact ⟨(hown.cellAt (j * 2) (by omega)).trans a, (hown.cellAt (j * 2 + 1) (by omega)).trans b⟩

theorem run_own0 {W : World} {B g cc : Nat} {A : Option Addr} (hg : W.heap[g]? = some (.cells #[] 38 (0, 0))) (hB : B ≤ g) :
    ∃ g2 cap w', (Builtin.append_ #[35, 35] 35 #[.slice (some ⟨g, 0, none⟩) 0 0, .slice A 0 cc]).run Tryz.prog W = .ok (.slice (some ⟨g2, 0, none⟩) 0 cap) w' ∧ W.grownBy w' (some g) := by
  obtain ⟨i, hi, hz0, hz1, hz2⟩ := info_parts (show (Tryz.prog.info? 38).map (fun i => (i.zero, i.size, i.bytes)) = some (some (.agg #[.string ⟨#[]⟩, .string ⟨#[]⟩]), 2, 32) by kernel_rfl)
  cases A with
  | none =>
    refine ⟨g, 0, W, ?_, World.grownBy.refl _ _⟩
    simp [Builtin.append_, Tryz.underlying35, hi, hz0, hz1, storeCells, Result.andThen, Builtin.lenOf, Builtin.firstCells]
  | some ad =>
    obtain ⟨v', w', hrun, hown, hgr, hnil, _⟩ := run_append_own_at (P := Tryz.prog) (w := W) B 35 35 38 i _ 2 32 Tryz.underlying35 hi hz0 hz1 hz2 rfl (by decide) (.slice (some ⟨g, 0, none⟩) 0 0) 0 [] (owns_empty_p hg hB) ad 0 cc [] rfl (fun j u h => by simp at h) (fun u h => by cases h) (by unfold maxLen; omega) (by omega) (by have := lt_of_blk hg; omega)
    rcases hown.2 with ⟨hn, _⟩ | ⟨g2, cap, cur, hv, _⟩
    · have := (hnil.1 hn).1
      cases this
    · subst hv
      exact ⟨g2, cap, w', hrun, hgr⟩

theorem pr_other {W : World} {g b i n c : Nat} {x : Value} {ps : List PM} (h : PR W (.slice (some ⟨g, 0, none⟩) n c) ps) (hne : 0 < ps.length → g ≠ b) : PR (W.setCell ⟨b, i, none⟩ x) (.slice (some ⟨g, 0, none⟩) n c) ps := by
  obtain ⟨A, c', e, h⟩ := h
  refine ⟨A, c', e, fun hp => ?_⟩
  obtain ⟨g', off, e', hl, hc⟩ := h hp
  subst e'
  simp only [Value.slice.injEq, Option.some.injEq, Addr.mk.injEq, and_true] at e
  obtain ⟨⟨e1, e2⟩, _⟩ := e
  subst e1
  have hn := hne hp
  refine ⟨g, off, rfl, by simpa using hl, fun j hj => ⟨?_, ?_⟩⟩
  · rw [World.cell?_setCell_other _ _ _ _ (by intro e; injection e with e; exact hn e.symm)]; exact (hc j hj).1
  · rw [World.cell?_setCell_other _ _ _ _ (by intro e; injection e with e; exact hn e.symm)]; exact (hc j hj).2

set_option maxHeartbeats 4000000 in
theorem own_any (v : Nat) (xa : List UInt8) (ps : List PM) (A : Option Addr) (cc : Nat) (w : World) (hu : PR w (.slice A ps.length cc) ps) (hl : ps.length ≤ 100000) :
    Calls Tryz.prog 27 #[.agg #[.int .u8 (v : Int), sv xa, .slice A ps.length cc]] w fun e w' => ∃ A' c', e = .returned (.agg #[.int .u8 (v : Int), sv xa, .slice A' ps.length c']) ∧ Below w.heap.size w w' ∧ PR w' (.slice A' ps.length c') ps := by
  obtain ⟨X, hX⟩ : ∃ X, X = ((w.alloc (.cells #[.int .u8 (v : Int), sv xa, .slice A ps.length cc] 41)).alloc (.cells #[.int .u8 0, .string { data := #[] }, .slice none 0 0] 41)).alloc (.cells #[] 38) := ⟨_, rfl⟩
  have hb : Below w.heap.size w X := by rw [hX]; exact (((Below.refl _ _).alloc (Nat.le_refl _) _).alloc (by simp) _).alloc (by simp only [World.size_alloc]; omega) _
  have h0 : X.heap[w.heap.size]? = some (.cells #[.int .u8 (v : Int), sv xa, .slice A ps.length cc] 41 (0, 0)) := by
    rw [hX]
    exact (Lib.alloc_old _ _ _ (by simp only [World.size_alloc]; omega)).trans ((Lib.alloc_old _ _ _ (by simp only [World.size_alloc]; omega)).trans (heap_alloc_new w _))
  have h1 : X.heap[w.heap.size + 1]? = some (.cells #[.int .u8 0, .string { data := #[] }, .slice none 0 0] 41 (0, 0)) := by
    rw [hX]
    have := heap_alloc_new (w.alloc (.cells #[.int .u8 (v : Int), sv xa, .slice A ps.length cc] 41)) (.cells #[.int .u8 0, .string { data := #[] }, .slice none 0 0] 41)
    rw [World.size_alloc] at this
    exact (Lib.alloc_old _ _ _ (by simp only [World.size_alloc]; omega)).trans this
  have h2 : X.heap[w.heap.size + 2]? = some (.cells #[] 38 (0, 0)) := by
    rw [hX]
    have := heap_alloc_new ((w.alloc (.cells #[.int .u8 (v : Int), sv xa, .slice A ps.length cc] 41)).alloc (.cells #[.int .u8 0, .string { data := #[] }, .slice none 0 0] 41)) (.cells #[] 38)
    rw [World.size_alloc, World.size_alloc] at this
    exact this
  have hrun : ∃ g2 cap w', (Builtin.append_ #[35, 35] 35 #[.slice (some ⟨w.heap.size + 2, 0, none⟩) 0 0, .slice A ps.length cc]).run Tryz.prog X = .ok (.slice (some ⟨g2, 0, none⟩) ps.length cap) w' ∧ PR w' (.slice (some ⟨g2, 0, none⟩) ps.length cap) ps ∧ X.grownBy w' (some (w.heap.size + 2)) ∧ (0 < ps.length → w.heap.size + 2 ≤ g2) := by
    by_cases hp : 0 < ps.length
    · obtain ⟨g2, cap, w', a, b, c, d⟩ := run_own h2 (B := w.heap.size + 2) (Nat.le_refl _) (hu.step hb) hl hp
      exact ⟨g2, cap, w', a, b, c, fun _ => d⟩
    · obtain rfl : ps = [] := List.length_eq_zero_iff.1 (by omega)
      obtain ⟨g2, cap, w', a, c⟩ := run_own0 (A := A) (cc := cc) h2 (B := w.heap.size) (by omega)
      exact ⟨g2, cap, w', a, PR.nil _ _ _, c, fun h => absurd h (by decide)⟩
  obtain ⟨g2, cap, w', hrun, hpr, hgr, hge⟩ := hrun
  have k0 : w'.heap[w.heap.size]? = some (.cells #[.int .u8 (v : Int), sv xa, .slice A ps.length cc] 41 (0, 0)) := (hgr.block _ (lt_of_blk h0) (by intro e; injection e; omega)).trans h0
  have k1 : w'.heap[w.heap.size + 1]? = some (.cells #[.int .u8 0, .string { data := #[] }, .slice none 0 0] 41 (0, 0)) := (hgr.block _ (lt_of_blk h1) (by intro e; injection e; omega)).trans h1
  have hb' : Below w.heap.size w w' := hb.grown hgr hb.size (fun k e => by injection e; omega)
  have HRUN := Lib.hid hrun
  have HGE := Lib.hid hge
  have HPR := Lib.hid hpr
  have HB := Lib.hid hb'
  have K0 := Lib.hid k0
  have K1 := Lib.hid k1
  rw [hX] at HRUN
  have e2 : w.heap.size + 2 = w.heap.size + 1 + 1 := rfl
  rw [e2] at HRUN
  clear hu hX hb h0 h1 h2 hrun hpr hgr hb' hge
  have c0 : w'.cell? ⟨w.heap.size, 0, none⟩ = some (.int .u8 (v : Int)) := by rw [cellAt k0]; rfl
  have c1 : w'.cell? ⟨w.heap.size, 1, none⟩ = some (sv xa) := by rw [cellAt k0]; rfl
  have c2 : w'.cell? ⟨w.heap.size, 2, none⟩ = some (.slice A ps.length cc) := by rw [cellAt k0]; rfl
  have c3 : w'.frozen? ⟨w.heap.size, 2, none⟩ = false := freeAt k0 2
  have c4 : w'.cell? ⟨w.heap.size + 1, 0, none⟩ = some (.int .u8 0) := by rw [cellAt k1]; rfl
  have c5 : w'.cell? ⟨w.heap.size + 1, 1, none⟩ = some (.string { data := #[] }) := by rw [cellAt k1]; rfl
  have c6 : w'.cell? ⟨w.heap.size + 1, 2, none⟩ = some (.slice none 0 0) := by rw [cellAt k1]; rfl
  have c7 : w'.frozen? ⟨w.heap.size + 1, 0, none⟩ = false := freeAt k1 0
  have c8 : w'.frozen? ⟨w.heap.size + 1, 1, none⟩ = false := freeAt k1 1
  have c9 : w'.frozen? ⟨w.heap.size + 1, 2, none⟩ = false := freeAt k1 2
  have l0 := lt_of_blk k0
  have l1 := lt_of_blk k1
  clear k0 k1
  go_enter Tryz.func27, Tryz.ntmps27
  go_wp2_with (at_builtin; refine wpList_app rfl (.tmp 3) (.tmp 5) 35 rfl rfl rfl HRUN.out ?_)
  have hW : ((((w'.setCell ⟨w.heap.size, 2, none⟩ (.slice (some ⟨g2, 0, none⟩) ps.length cap)).setCell ⟨w.heap.size + 1, 0, none⟩ (.int .u8 (v : Int))).setCell ⟨w.heap.size + 1, 1, none⟩ (sv xa)).setCell ⟨w.heap.size + 1, 2, none⟩ (.slice (some ⟨g2, 0, none⟩) ps.length cap)).heap[w.heap.size + 1]? = some (.cells #[.int .u8 (v : Int), sv xa, .slice (some ⟨g2, 0, none⟩) ps.length cap] 41 (0, 0)) := by
    simp [World.setCell, Array.getElem?_modify, K1.out]
  refine bodyPost_ret (v := .agg #[.int .u8 (v : Int), sv xa, .slice (some ⟨g2, 0, none⟩) ps.length cap]) (results_row (p := 2) (fr := (0, 0)) Tryz.results27 _ _ (w.heap.size + 1) 41 _ _ rfl hW Tryz.underlying41 rfl (by kernel_rfl)) rfl ⟨_, _, rfl, ?_, ?_⟩
  · exact (((HB.out.setCell (p := ⟨w.heap.size, 2, none⟩) (Nat.le_refl _) _).setCell (p := ⟨w.heap.size + 1, 0, none⟩) (Nat.le_succ _) _).setCell (p := ⟨w.heap.size + 1, 1, none⟩) (Nat.le_succ _) _).setCell (p := ⟨w.heap.size + 1, 2, none⟩) (Nat.le_succ _) _
  · refine pr_other (pr_other (pr_other (pr_other HPR.out ?_) ?_) ?_) ?_ <;> (intro hp; have := HGE.out hp; omega)
end Go.Proofs.YtbmjmiioobgbfaaGreatDoor
