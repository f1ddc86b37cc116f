/-
  The contracts of the reference's Parent, bare, Pattern, Match, Under, Compare, Fold, and of the row's comparison (Same).
-/
import Derived.Deep.QuietTactic
import Derived.BigQuiet
import Derived.Test.YtnaoandleelbkaaGreatDoorNRm
import Derived.Test.YtnaoandleelbkaaGreatDoorJPm
namespace Go.Proofs.YtnaoandleelbkaaGreatDoor
set_option linter.unusedSimpArgs false
set_option linter.unusedVariables false
open Go Go.RowKit
set_option maxRecDepth 100000

set_option maxHeartbeats 1000000 in
theorem rparent_any (s : List UInt8) (w : World) (hs : s.length ≤ 1000000) : Calls Tryz.prog 147 #[.string (str s)] w fun e w' => e = .returned (optV (parentL s)) ∧ Below w.heap.size w w' := by
  obtain ⟨l, hl⟩ : ∃ l, l = labelsL s := ⟨_, rfl⟩
  by_cases h2 : l.length < 2
  · have HF := Lib.hid (show parentL s = none by
      cases e : parentL s with
      | none => rfl
      | some p => have := (parent_labels e).2.2; rw [← hl] at this; omega)
    have HL := Lib.hid hl
    clear hl
    go_enter Tryz.func147, Tryz.ntmps147
    go_wp2_with fail
    refine (rlabels_any s _ hs).mono ?_
    rintro e w2 ⟨v, rfl, hg⟩
    rw [← HL.out] at hg
    obtain ⟨A, cp, rfl⟩ := hg.form
    have HG := Lib.hid hg
    clear hg
    have h2' : (l.length : Int) < 2 := by omega
    clear h2
    go_wp2_with fail
    go_ret2
    rw [HF.out]
    exact ⟨rfl, HG.out.below⟩
  · have hm : mayL s = true := by
      cases e : mayL s with
      | true => rfl
      | false =>
        have : labelsL s = [] := by unfold labelsL; rw [e]; rfl
        rw [← hl] at this; rw [this] at h2; simp at h2
    obtain ⟨p, hp⟩ : ∃ p, parentL s = some p := by
      cases e : parentL s with
      | some p => exact ⟨p, rfl⟩
      | none => have := parent_none e hm; rw [← hl] at this; rw [this] at h2; simp at h2
    obtain ⟨_, a, ha, hsa⟩ := parent_some.1 hp
    have h0 : l.getD 0 [] = a := by rw [hl]; unfold labelsL; rw [if_pos hm, hsa, cutD_dot p ha]; rfl
    have hsl : s.length = a.length + 1 + p.length := by rw [hsa]; simp; omega
    have e1 : (str s).extract (a.length + 1) s.length = str p := by
      rw [str_extract, List.take_of_length_le (Nat.le_refl _), hsa]
      congr 1
      simp
    have hal : a.length + 1 ≤ s.length := by omega
    have E1 := Lib.hid e1
    have HL := Lib.hid hl
    have HP := Lib.hid hp
    have H0 := Lib.hid h0
    clear hl hp h0 hsa e1 ha hm hsl
    go_enter Tryz.func147, Tryz.ntmps147
    go_wp2_with fail
    refine (rlabels_any s _ hs).mono ?_
    rintro e w2 ⟨v, rfl, hg⟩
    rw [← HL.out] at hg
    obtain ⟨A, cp, rfl⟩ := hg.form
    obtain ⟨g, rfl, _, _, hc, _⟩ := hg.cell (by omega)
    have c0 := hc 0 (by omega)
    rw [H0.out] at c0
    have HG := Lib.hid hg
    clear hg hc
    have h2' : (2 : Int) ≤ (l.length : Int) := by omega
    clear h2
    go_wp2_with fail
    rw [E1.out]
    go_ret2
    rw [HP.out]
    exact ⟨rfl, HG.out.below⟩

theorem starred_len {p : List UInt8} (h : starred p = true) : 2 ≤ p.length := by
  unfold starred at h
  rw [List.isPrefixOf_iff_prefix] at h
  exact h.length_le
theorem starred_take (p : List UInt8) : starred p = (p.take 2 == [42, 46]) := by
  unfold starred
  rw [Bool.eq_iff_iff, List.isPrefixOf_iff_prefix, beq_iff_eq, List.prefix_iff_eq_take]
  constructor
  · exact Eq.symm
  · exact Eq.symm

theorem rbare_any (p : List UInt8) (w : World) (hp : p.length ≤ 1000000) : Calls Tryz.prog 132 #[.string (str p)] w fun e w' => e = .returned (.tuple #[sv (bareL p), .bool (starred p)]) ∧ w = w' := by
  by_cases h2 : p.length < 2
  · have HF := Lib.hid (show starred p = false by
      cases e : starred p with
      | false => rfl
      | true => have := starred_len e; omega)
    have HB := Lib.hid (show bareL p = p by unfold bareL; rw [HF.out]; rfl)
    have h2' : decide (1 < (p.length : Int)) = false := decide_eq_false (by omega)
    clear h2
    go_enter Tryz.func132, Tryz.ntmps132
    go_wp2_with fail
    go_ret2
    rw [HF.out, HB.out]
    exact ⟨rfl, rfl⟩
  · have h2' : decide (1 < (p.length : Int)) = true := decide_eq_true (by omega)
    have h3 : 2 ≤ p.length := by omega
    clear h2
    have E0 := Lib.hid (show (str p).extract 0 2 = str (p.take 2) by rw [str_extract]; rfl)
    have E1 := Lib.hid (show (str p).extract 2 p.length = str (p.drop 2) by rw [str_extract, List.take_of_length_le (Nat.le_refl _)])
    cases hst : starred p with
    | true =>
      have HB := Lib.hid (show bareL p = p.drop 2 by unfold bareL; rw [hst]; rfl)
      have ht : (((str p).extract 0 2).toList == [42, 46]) = true := by rw [E0.out, Lib.toList_data, ← hst, starred_take p]
      clear hst
      go_enter Tryz.func132, Tryz.ntmps132
      go_wp2_with fail
      rw [E1.out]
      go_ret2
      rw [HB.out]
      exact ⟨rfl, rfl⟩
    | false =>
      have HB := Lib.hid (show bareL p = p by unfold bareL; rw [hst]; rfl)
      have ht : (((str p).extract 0 2).toList == [42, 46]) = false := by rw [E0.out, Lib.toList_data, ← hst, starred_take p]
      clear hst
      go_enter Tryz.func132, Tryz.ntmps132
      go_wp2_with fail
      go_ret2
      rw [HB.out]
      exact ⟨rfl, rfl⟩

theorem bare_len (p : List UInt8) : (bareL p).length ≤ p.length := by
  unfold bareL
  split
  · rw [List.length_drop]; omega
  · exact Nat.le_refl _

theorem rpattern_any (p : List UInt8) (w : World) (hp : p.length ≤ 1000000) : Calls Tryz.prog 75 #[.string (str p)] w fun e w' => e = .returned (.bool (patL p)) ∧ Below w.heap.size w w' := by
  have hb := bare_len p
  have HP := Lib.hid (show patL p = mayL (bareL p) from rfl)
  obtain ⟨b, hb'⟩ : ∃ b, b = bareL p := ⟨_, rfl⟩
  rw [← hb'] at hb HP
  have HB := Lib.hid hb'
  clear hb'
  go_enter Tryz.func75, Tryz.ntmps75
  go_wp2_with fail
  refine (rbare_any p w hp).mono ?_
  rintro e w1 ⟨rfl, rfl⟩
  rw [← HB.out]
  go_wp2_with fail
  refine (rmay_any b _ (by omega)).mono ?_
  rintro e w2 ⟨rfl, hb2⟩
  have HB2 := Lib.hid hb2
  clear hb2
  go_wp2_with fail
  go_ret
  rw [HP.out]
  exact ⟨rfl, HB2.out⟩

theorem match_none {p s : List UInt8} (h : mayL (bareL p) = false) : matchL p s = false := by
  cases hst : starred p with
  | true =>
    rw [match_starred hst]
    cases e : parentL s with
    | none => rfl
    | some q =>
      have hq := parent_may e
      have : q ≠ p.drop 2 := by
        intro e2
        have hb : bareL p = p.drop 2 := by unfold bareL; rw [hst]; rfl
        rw [hb, ← e2, hq] at h; cases h
      simpa using this
  | false =>
    rw [match_bare hst]
    have hb : bareL p = p := by unfold bareL; rw [hst]; rfl
    rw [hb] at h
    cases hs : mayL s with
    | false => rfl
    | true =>
      have : p ≠ s := by intro e; rw [e, hs] at h; cases h
      simpa using this

set_option maxHeartbeats 2000000 in
theorem rmatch_any (p s : List UInt8) (w : World) (hp : p.length ≤ 1000000) (hs : s.length ≤ 1000000) : Calls Tryz.prog 146 #[.string (str p), .string (str s)] w fun e w' => e = .returned (.bool (matchL p s)) ∧ Below w.heap.size w w' := by
  have hbl := bare_len p
  obtain ⟨b, hb'⟩ : ∃ b, b = bareL p := ⟨_, rfl⟩
  rw [← hb'] at hbl
  cases hmb : mayL b with
  | false =>
    have HF := Lib.hid (match_none (s := s) (show mayL (bareL p) = false by rw [← hb']; exact hmb))
    have HM := Lib.hid hmb
    have HB := Lib.hid hb'
    clear hb' hmb
    go_enter Tryz.func146, Tryz.ntmps146
    go_wp2_with fail
    refine (rbare_any p w hp).mono ?_
    rintro e w1 ⟨rfl, rfl⟩
    rw [← HB.out]
    go_wp2_with fail
    refine (rmay_any b _ (by omega)).mono ?_
    rintro e w2 ⟨rfl, hb2⟩
    rw [HM.out]
    have HB2 := Lib.hid hb2
    clear hb2
    go_wp2_with fail
    go_ret
    rw [HF.out]
    exact ⟨rfl, HB2.out⟩
  | true =>
    have HM := Lib.hid hmb
    clear hmb
    cases hms : mayL s with
    | false =>
      have HF := Lib.hid (show matchL p s = false by unfold matchL; rw [hms]; rfl)
      have HY := Lib.hid hms
      have HB := Lib.hid hb'
      clear hb' hms
      go_enter Tryz.func146, Tryz.ntmps146
      go_wp2_with fail
      refine (rbare_any p w hp).mono ?_
      rintro e w1 ⟨rfl, rfl⟩
      rw [← HB.out]
      go_wp2_with fail
      refine (rmay_any b _ (by omega)).mono ?_
      rintro e w2 ⟨rfl, hb2⟩
      rw [HM.out]
      have HB2 := Lib.hid hb2
      clear hb2
      go_wp2_with fail
      refine (rmay_any s _ hs).mono ?_
      rintro e w3 ⟨rfl, hb3⟩
      rw [HY.out]
      have HB3 := Lib.hid (HB2.out.trans (hb3.mono HB2.out.size))
      clear hb3
      go_wp2_with fail
      go_ret
      rw [HF.out]
      exact ⟨rfl, HB3.out⟩
    | true =>
      have HY := Lib.hid hms
      cases hst : starred p with
      | false =>
        have HF := Lib.hid (show matchL p s = (p == s) by unfold matchL; rw [hms, hst]; rfl)
        have HS := Lib.hid hst
        obtain rfl : b = p := by rw [hb']; unfold bareL; rw [hst]; rfl
        have HB := Lib.hid hb'
        clear hb' hms hst
        go_enter Tryz.func146, Tryz.ntmps146
        go_wp2_with fail
        refine (rbare_any b w hp).mono ?_
        rintro e w1 ⟨rfl, rfl⟩
        rw [← HB.out, HS.out]
        go_wp2_with fail
        refine (rmay_any b _ (by omega)).mono ?_
        rintro e w2 ⟨rfl, hb2⟩
        rw [HM.out]
        have HB2 := Lib.hid hb2
        clear hb2
        go_wp2_with fail
        refine (rmay_any s _ hs).mono ?_
        rintro e w3 ⟨rfl, hb3⟩
        rw [HY.out]
        have HB3 := Lib.hid (HB2.out.trans (hb3.mono HB2.out.size))
        clear hb3
        go_wp2_with fail
        go_ret
        rw [HF.out]
        exact ⟨rfl, HB3.out⟩
      | true =>
        have HS := Lib.hid hst
        have HF := Lib.hid (show matchL p s = (parentL s == some b) by rw [match_starred hst, hb']; unfold bareL; rw [hst]; rfl)
        have HB := Lib.hid hb'
        clear hb' hms hst
        cases hpa : parentL s with
        | none =>
          rw [hpa] at HF
          have HP := Lib.hid hpa
          clear hpa
          go_enter Tryz.func146, Tryz.ntmps146
          go_wp2_with fail
          refine (rbare_any p w hp).mono ?_
          rintro e w1 ⟨rfl, rfl⟩
          rw [← HB.out, HS.out]
          go_wp2_with fail
          refine (rmay_any b _ (by omega)).mono ?_
          rintro e w2 ⟨rfl, hb2⟩
          rw [HM.out]
          have HB2 := Lib.hid hb2
          clear hb2
          go_wp2_with fail
          refine (rmay_any s _ hs).mono ?_
          rintro e w3 ⟨rfl, hb3⟩
          rw [HY.out]
          have HB3 := Lib.hid (HB2.out.trans (hb3.mono HB2.out.size))
          clear hb3
          go_wp2_with fail
          refine (rparent_any s _ hs).mono ?_
          rintro e w4 ⟨rfl, hb4⟩
          rw [HP.out]
          have HB4 := Lib.hid (HB3.out.trans (hb4.mono HB3.out.size))
          clear hb4
          unfold optV
          go_wp2_with fail
          go_ret
          rw [HF.out]
          exact ⟨rfl, HB4.out⟩
        | some t =>
          rw [hpa] at HF
          have HP := Lib.hid hpa
          clear hpa
          go_enter Tryz.func146, Tryz.ntmps146
          go_wp2_with fail
          refine (rbare_any p w hp).mono ?_
          rintro e w1 ⟨rfl, rfl⟩
          rw [← HB.out, HS.out]
          go_wp2_with fail
          refine (rmay_any b _ (by omega)).mono ?_
          rintro e w2 ⟨rfl, hb2⟩
          rw [HM.out]
          have HB2 := Lib.hid hb2
          clear hb2
          go_wp2_with fail
          refine (rmay_any s _ hs).mono ?_
          rintro e w3 ⟨rfl, hb3⟩
          rw [HY.out]
          have HB3 := Lib.hid (HB2.out.trans (hb3.mono HB2.out.size))
          clear hb3
          go_wp2_with fail
          refine (rparent_any s _ hs).mono ?_
          rintro e w4 ⟨rfl, hb4⟩
          rw [HP.out]
          have HB4 := Lib.hid (HB3.out.trans (hb4.mono HB3.out.size))
          clear hb4
          unfold optV
          go_wp2_with fail
          go_ret
          rw [HF.out, show (some t == some b) = (t == b) from Option.some_beq_some]
          exact ⟨rfl, HB4.out⟩

end Go.Proofs.YtnaoandleelbkaaGreatDoor
