/-
  The reference's Unstuff: it is the plain function.
-/
import Derived.Test.YtjbjbbbhcncfnaaSRef
namespace Go.Proofs.Ytjbjbbbhcncfnaa
open Go Go.RowKit Go.Shelf
set_option maxRecDepth 100000
set_option linter.unusedSimpArgs false
set_option linter.unusedVariables false

theorem uns_end {s : List UInt8} {P : List (List UInt8)} {t : List UInt8} (h : Come s P t) (hg : ∀ l ∈ P, l ≠ [46] ∧ badL l = false) (hn : NoCL t) : unsT s = [] ∧ unsR s = [] ∧ unsE s = 8 := by
  have hc : cutL s = P ++ [] := by rw [h.2.1, (cut_none hn).1]
  obtain ⟨_, e2⟩ := uns_pre1 P [] hg (by decide)
  have e : unsE s = 8 := by unfold unsE; rw [hc, e2]; rfl
  obtain ⟨q1, q2⟩ := uns_no_text (s := s) (by rw [e]; decide)
  exact ⟨q1, q2, e⟩
theorem uns_hit {s : List UInt8} {P : List (List UInt8)} {r : List UInt8} (h : Come s P ([46] ++ 13 :: 10 :: r)) (hg : ∀ l ∈ P, l ≠ [46] ∧ badL l = false) : unsT s = joinL (P.map undL) ∧ unsR s = r ∧ unsE s = 0 := by
  have ha : NoCL ([46] ++ [13]) := noCL_dot
  have hc : cutL s = P ++ [46] :: cutL r := by rw [h.2.1, (cut_cons r ha).1]
  have hu : uns ([46] :: cutL r) = ([], 3, 0) := by unfold uns; rw [if_pos rfl]
  have e := uns_pre0 P ([46] :: cutL r) hg (by rw [hu])
  have e1 : unsE s = 0 := by unfold unsE; rw [hc, e]
  refine ⟨by unfold unsT; rw [hc, e, hu]; simp, ?_, e1⟩
  unfold unsR
  rw [if_pos e1]
  have en : unsN s = (joinL P).length + 3 := by unfold unsN; rw [hc, e, hu]
  rw [en, h.1, List.drop_append, List.drop_of_length_le (by omega), show (joinL P).length + 3 - (joinL P).length = 3 by omega]
  rfl
theorem uns_form {s : List UInt8} {P : List (List UInt8)} {a r : List UInt8} (h : Come s P (a ++ 13 :: 10 :: r)) (ha : NoCL (a ++ [13])) (hg : ∀ l ∈ P, l ≠ [46] ∧ badL l = false) (hd : a ≠ [46]) (hb : badL a = true) : unsT s = [] ∧ unsR s = [] ∧ unsE s = 4 := by
  have hc : cutL s = P ++ a :: cutL r := by rw [h.2.1, (cut_cons r ha).1]
  have hu : uns (a :: cutL r) = ([], 0, 4) := by unfold uns; rw [if_neg hd, if_pos hb]
  obtain ⟨_, e2⟩ := uns_pre1 P (a :: cutL r) hg (by rw [hu]; decide)
  have e : unsE s = 4 := by unfold unsE; rw [hc, e2, hu]
  obtain ⟨q1, q2⟩ := uns_no_text (s := s) (by rw [e]; decide)
  exact ⟨q1, q2, e⟩
theorem good_snoc {P : List (List UInt8)} {a : List UInt8} (hg : ∀ l ∈ P, l ≠ [46] ∧ badL l = false) (hd : a ≠ [46]) (hb : badL a = false) : ∀ l ∈ P ++ [a], l ≠ [46] ∧ badL l = false := by
  intro l hl
  rcases List.mem_append.1 hl with h | h
  · exact hg l h
  · obtain rfl : l = a := by simpa using h
    exact ⟨hd, hb⟩

/-- The second byte of a line that begins by a dot, and is not the lone one. -/
theorem second_byte {a : List UInt8} (hd : dotB a = true) (hn : a ≠ [46]) : ∃ c : Nat, (∀ h : 1 < (str (a ++ [13, 10])).size, ((str (a ++ [13, 10]))[1]'h).toNat = c) ∧ (((c : Nat) : Int) == 46) = !badL a ∧ 2 ≤ a.length := by
  match a, hd, hn with
  | [x], hd, hn => exact absurd (by have : x = 46 := by simpa [dotB] using hd
                                    rw [this]) hn
  | x :: y :: t, hd, hn =>
    have hx : x = 46 := by simpa [dotB] using hd
    subst hx
    refine ⟨y.toNat, fun h => rfl, ?_, by simp⟩
    have hbad : badL (46 :: y :: t) = !(y == 46) := by
      show (dotB (46 :: y :: t) && !dotB (undL (46 :: y :: t))) = _
      have h1 : dotB (46 :: y :: t) = true := rfl
      have h2 : undL (46 :: y :: t) = y :: t := rfl
      rw [h1, h2]
      simp [dotB]
    rw [hbad, Bool.not_not]
    by_cases hy : y = 46
    · subst hy; rfl
    · have h1 : y.toNat ≠ 46 := fun e => hy (UInt8.toNat_inj.1 (by rw [e]; rfl))
      rw [show ((y.toNat : Int) == 46) = false from by rw [beq_eq_false_iff_ne]; omega]
      symm
      simpa using hy

set_option maxHeartbeats 4000000 in
theorem runstuff_any (s : List UInt8) (w : World) (hs : s.length ≤ 200000) :
    Calls Try.prog 14 #[.string (str s)] w fun e w' => e = .returned (.tuple #[.string (str (unsT s)), .string (str (unsR s)), .int .i64 (unsE s)]) ∧ Below w.heap.size w w' := by
  go_enter Try.func14, Try.ntmps14
  go_wp2_with fail
  go_loopw [0, 5] (fun tv ov wr => ∃ (P : List (List UInt8)) (t o : List UInt8), tv = sv t ∧ ov = sv o ∧ Come s P t ∧ (∀ l ∈ P, l ≠ [46] ∧ badL l = false) ∧ o = joinL (P.map undL) ∧ Below w.heap.size w wr) (fun tv _ _ => match tv with | .string x => x.size | _ => 0)
  case atStart => exact ⟨[], s, [], rfl, rfl, Come.start s, (fun l h => by cases h), rfl, Below.refl _ _⟩
  case round =>
    obtain ⟨P, t, o, rfl, rfl, hc, hg, ho, hb⟩ := hrel
    obtain ⟨l1, l2⟩ := hc.len
    have ol : o.length ≤ 200000 := by rw [ho]; have := len_undL P; omega
    have HC := Lib.hid hc
    have HO := Lib.hid ho
    have HG := Lib.hid hg
    have HB := Lib.hid hb
    have HNX := Lib.hid (next_any t wr (by omega))
    clear hc ho hb hg
    go_wp2_with fail
    refine HNX.out.mono ?_
    rintro e w1 ⟨hb1, (⟨a, r, rfl, ha, rfl⟩ | ⟨hn, rfl⟩)⟩
    · obtain ⟨c, hc1, hc2⟩ := first_byte a
      have hal : a.length + 2 + r.length ≤ 200000 := by simp at l1; omega
      have hsz : (str (a ++ [13, 10])).size = a.length + 2 := by simp [ByteArray.size]
      have HB1 := Lib.hid (HB.out.trans (hb1.mono HB.out.size))
      have hc3 := hc1 (by rw [hsz]; omega)
      have he := end_line a
      have HA := Lib.hid ha
      clear hb1 ha HNX hc1 l1
      by_cases hd46 : a = [46]
      · have HE := Lib.hid (show unsT s = o ∧ unsR s = r ∧ unsE s = 0 by
          subst hd46
          obtain ⟨q1, q2, q3⟩ := uns_hit HC.out HG.out
          exact ⟨by rw [q1, HO.out], q2, q3⟩)
        have he2 : ((a ++ [13, 10]) == [46, 13, 10]) = true := by rw [he, hd46]; rfl
        clear he hc2 hc3 HC hd46
        go_wp2
        go_ret3
        rw [HE.out.1, HE.out.2.1, HE.out.2.2]
        exact ⟨rfl, HB1.out⟩
      · have he2 : ((a ++ [13, 10]) == [46, 13, 10]) = false := by rw [he]; simpa using hd46
        have HD46 := Lib.hid hd46
        clear he hd46
        cases hd : dotB a with
        | true =>
          rw [hd] at hc2
          obtain ⟨d, hd1, hd2, hd3⟩ := second_byte hd HD46.out
          have hd4 := hd1 (by rw [hsz]; omega)
          cases hbad : badL a with
          | true =>
            rw [hbad] at hd2
            have hd5 : ((d : Int) == 46) = false := hd2
            have HE := Lib.hid (uns_form HC.out HA.out HG.out HD46.out hbad)
            clear hd1 hd2 hd hbad HC
            go_wp2
            go_ret3
            rw [HE.out.1, HE.out.2.1, HE.out.2.2]
            exact ⟨rfl, HB1.out⟩
          | false =>
            rw [hbad] at hd2
            have hd5 : ((d : Int) == 46) = true := hd2
            obtain ⟨u, hu⟩ : ∃ u, u = undL a := ⟨_, rfl⟩
            have HN := Lib.hid (HC.out.next HA.out)
            have HG2 := Lib.hid (good_snoc HG.out HD46.out hbad)
            have hul : u.length ≤ a.length := by rw [hu]; unfold undL; split <;> simp
            have ex : (str (a ++ [13, 10])).extract 1 (a ++ [13, 10]).length = str (u ++ [13, 10]) := by
              rw [str_extract, List.take_of_length_le (Nat.le_refl _), hu]
              congr 1
              unfold undL
              rw [hd]
              simp only [if_true]
              rw [List.drop_append_of_le_length (by omega)]
            have ex2 : (str (a ++ [13, 10])).extract 1 (a.length + 2) = str (u ++ [13, 10]) := by rw [← ex]; simp
            have HO2 := Lib.hid (show str o ++ str (u ++ [13, 10]) = str (joinL ((P ++ [a]).map undL)) by
              rw [str_append, HO.out, List.map_append, joinL_append, hu]
              simp [joinL])
            clear hd1 hd2 hd hbad HC hu ex
            go_wp2
            go_roundw
            case rel => exact ⟨P ++ [a], r, joinL ((P ++ [a]).map undL), rfl, congrArg Value.string HO2.out, HN.out, HG2.out, rfl, HB1.out⟩
            case measure => simp [ByteArray.size]; omega
        | false =>
          rw [hd] at hc2
          have hbad : badL a = false := by unfold badL; rw [hd]; rfl
          have HN := Lib.hid (HC.out.next HA.out)
          have HG2 := Lib.hid (good_snoc HG.out HD46.out hbad)
          have HO2 := Lib.hid (show str o ++ str (a ++ [13, 10]) = str (joinL ((P ++ [a]).map undL)) by
            rw [str_append, HO.out, List.map_append, joinL_append]
            simp [joinL, undL, hd])
          clear hbad HC hd
          go_wp2
          go_roundw
          case rel => exact ⟨P ++ [a], r, joinL ((P ++ [a]).map undL), rfl, congrArg Value.string HO2.out, HN.out, HG2.out, rfl, HB1.out⟩
          case measure => simp [ByteArray.size]; omega
    · have HE := Lib.hid (uns_end HC.out HG.out hn)
      have HB1 := Lib.hid (HB.out.trans (hb1.mono HB.out.size))
      clear hb1 hn HNX HC
      go_wp2
      go_ret3
      rw [HE.out.1, HE.out.2.1, HE.out.2.2]
      exact ⟨rfl, HB1.out⟩
end Go.Proofs.Ytjbjbbbhcncfnaa
