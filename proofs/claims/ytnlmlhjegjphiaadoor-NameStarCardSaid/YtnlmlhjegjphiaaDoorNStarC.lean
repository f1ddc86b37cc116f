/-
  The walk of NameStar.
-/
import Derived.Test.YtnlmlhjegjphiaaDoorNAwake
namespace Go.Proofs.YtnlmlhjegjphiaaDoor
open Go Go.RowKit
set_option maxRecDepth 100000

theorem star_app (x : List UInt8) : (⟨#[42, 46]⟩ : ByteArray) ++ str x = str (42 :: 46 :: x) := by
  apply ByteArray.ext
  simp [str, ByteArray.data_append]
theorem starred_cases (p : List UInt8) : (starred p = true ∧ 2 ≤ p.length ∧ (((str p).extract 0 2).toList == [42, 46]) = true ∧ decide (1 < (p.length : Int)) = true) ∨
    (starred p = false ∧ decide (1 < (p.length : Int)) = false ∧ p.length ≤ 1) ∨ (starred p = false ∧ 2 ≤ p.length ∧ (((str p).extract 0 2).toList == [42, 46]) = false ∧ decide (1 < (p.length : Int)) = true) := by
  have e : (((str p).extract 0 2).toList == [42, 46]) = (p.take 2 == [42, 46]) := by rw [str_extract, Lib.toList_data]; simp
  by_cases h2 : 2 ≤ p.length
  · have ht : starred p = (p.take 2 == [42, 46]) := by
      unfold starred
      rw [Bool.eq_iff_iff, List.isPrefixOf_iff_prefix, beq_iff_eq, List.prefix_iff_eq_take]
      constructor
      · exact Eq.symm
      · exact Eq.symm
    rw [e, ← ht]
    cases hs : starred p with
    | true => exact .inl ⟨rfl, h2, rfl, decide_eq_true (by omega)⟩
    | false => exact .inr (.inr ⟨rfl, h2, rfl, decide_eq_true (by omega)⟩)
  · refine .inr (.inl ⟨?_, decide_eq_false (by omega), by omega⟩)
    cases hs : starred p with
    | false => rfl
    | true =>
      exfalso
      unfold starred at hs
      rw [List.isPrefixOf_iff_prefix] at hs
      have := hs.length_le
      simp at this
      omega

theorem nameStar_long (p s : List UInt8) (w : World) (ha : p.length ≤ 140737488351232) (hb : s.length ≤ 140737488351232) (h : 5000 < p.length + s.length) (hM : ML w) :
    Calls Tryd.prog 8 #[.string (str p), .string (str s)] w fun e w' => e = .returned (.bool true) ∧ Below w.heap.size w w' := by
  have B0 := BL.start hM
  have h' : (5000 : Int) < (p.length : Int) + (s.length : Int) := by omega
  clear hM h
  go_enter Tryd.func8, Tryd.ntmps8
  go_wp2_with fail
  refine (awake_bl _ B0).mono ?_
  rintro e w1 ⟨rfl, B1⟩
  have HB := Lib.hid B1.below
  go_wp2
  go_ret
  exact ⟨rfl, HB.out⟩

set_option maxHeartbeats 2000000 in
theorem star_some_q_star_m (p s : List UInt8) (w : World) (hp : p.length ≤ 5000) (hs : s.length ≤ 5000) (hsum : (p.length : Int) + (s.length : Int) ≤ 5000) (B0 : BL w w) {up : List UInt8} (hpar : parentL s = some up) (hq : mayL s = true) (hm : matchL p s = true) (hst : starred p = true) (hp2 : 2 ≤ p.length) (et : (((str p).extract 0 2).toList == [42, 46]) = true) (el : decide (1 < (p.length : Int)) = true) :
    Calls Tryd.prog 8 #[.string (str p), .string (str s)] w fun e w' => e = .returned (.bool true) ∧ Below w.heap.size w w' := by
  have HP := Lib.hid hpar
  have HM := Lib.hid hm
  have HQ := Lib.hid hq
  have HS := Lib.hid (show matchL s s = true by rw [match_self]; exact hq)
  have HA := Lib.hid (match_above s)
  have HST := Lib.hid hst
  have hul : up.length ≤ 5000 := by have := parent_len hpar; omega
  have HU := Lib.hid (show matchL (42 :: 46 :: up) s = true by rw [match_star, hpar]; simp)
  have HN := Lib.hid (show matchL p up = false by have := match_not_both (p := p) hpar; rw [hm] at this; simpa using this)
  have e9 : (((str p).extract 2 p.length).toList == up) = true := by rw [str_extract, List.take_of_length_le (Nat.le_refl _), Lib.toList_data, ← hm, match_starred hst, hpar]; simp [BEq.comm]
  clear hpar hm hq hst
  go_enter Tryd.func8, Tryd.ntmps8
  go_wp2_with fail
  refine (awake_bl _ B0).mono ?_
  rintro e w1 ⟨rfl, B1⟩
  go_wp2_with fail
  refine (bl_parent HP.out (by omega) B1).mono ?_
  rintro e w2 ⟨rfl, B2⟩
  unfold optV
  go_wp2_with fail
  refine (bl_match HM.out (by omega) (by omega) B2).mono ?_
  rintro e w3 ⟨rfl, B3⟩
  go_wp2_with fail
  refine (bl_match HN.out (by omega) (by omega) B3).mono ?_
  rintro e w4 ⟨rfl, B4⟩
  go_wp2_with fail
  refine (bl_may HQ.out (by omega) B4).mono ?_
  rintro e w5 ⟨rfl, B5⟩
  go_wp2_with fail
  refine (bl_match HS.out (by omega) (by omega) B5).mono ?_
  rintro e w6 ⟨rfl, B6⟩
  go_wp2_with fail
  rw [star_app]
  refine (bl_match HU.out (by simp; omega) (by omega) B6).mono ?_
  rintro e w7 ⟨rfl, B7⟩
  go_wp2_with fail
  rw [star_app]
  refine (bl_match HA.out (by simp; omega) (by omega) B7).mono ?_
  rintro e w8 ⟨rfl, B8⟩
  go_wp2_with fail
  refine (bl_match HM.out (by omega) (by omega) B8).mono ?_
  rintro e w9 ⟨rfl, B9⟩
  have HB := Lib.hid B9.below
  go_wp2_with fail
  go_ret
  exact ⟨rfl, HB.out⟩

set_option maxHeartbeats 2000000 in
theorem star_some_q_star_x (p s : List UInt8) (w : World) (hp : p.length ≤ 5000) (hs : s.length ≤ 5000) (hsum : (p.length : Int) + (s.length : Int) ≤ 5000) (B0 : BL w w) {up : List UInt8} (hpar : parentL s = some up) (hq : mayL s = true) (hm : matchL p s = false) (hst : starred p = true) (hp2 : 2 ≤ p.length) (et : (((str p).extract 0 2).toList == [42, 46]) = true) (el : decide (1 < (p.length : Int)) = true) :
    Calls Tryd.prog 8 #[.string (str p), .string (str s)] w fun e w' => e = .returned (.bool true) ∧ Below w.heap.size w w' := by
  have HP := Lib.hid hpar
  have HM := Lib.hid hm
  have HQ := Lib.hid hq
  have HS := Lib.hid (show matchL s s = true by rw [match_self]; exact hq)
  have HA := Lib.hid (match_above s)
  have HST := Lib.hid hst
  have hul : up.length ≤ 5000 := by have := parent_len hpar; omega
  have HU := Lib.hid (show matchL (42 :: 46 :: up) s = true by rw [match_star, hpar]; simp)
  have e9 : (((str p).extract 2 p.length).toList == up) = false := by rw [str_extract, List.take_of_length_le (Nat.le_refl _), Lib.toList_data, ← hm, match_starred hst, hpar]; simp [BEq.comm]
  clear hpar hm hq hst
  go_enter Tryd.func8, Tryd.ntmps8
  go_wp2_with fail
  refine (awake_bl _ B0).mono ?_
  rintro e w1 ⟨rfl, B1⟩
  go_wp2_with fail
  refine (bl_parent HP.out (by omega) B1).mono ?_
  rintro e w2 ⟨rfl, B2⟩
  unfold optV
  go_wp2_with fail
  refine (bl_match HM.out (by omega) (by omega) B2).mono ?_
  rintro e w3 ⟨rfl, B3⟩
  go_wp2_with fail
  refine (bl_may HQ.out (by omega) B3).mono ?_
  rintro e w4 ⟨rfl, B4⟩
  go_wp2_with fail
  refine (bl_match HS.out (by omega) (by omega) B4).mono ?_
  rintro e w5 ⟨rfl, B5⟩
  go_wp2_with fail
  rw [star_app]
  refine (bl_match HU.out (by simp; omega) (by omega) B5).mono ?_
  rintro e w6 ⟨rfl, B6⟩
  go_wp2_with fail
  rw [star_app]
  refine (bl_match HA.out (by simp; omega) (by omega) B6).mono ?_
  rintro e w7 ⟨rfl, B7⟩
  go_wp2_with fail
  refine (bl_match HM.out (by omega) (by omega) B7).mono ?_
  rintro e w8 ⟨rfl, B8⟩
  have HB := Lib.hid B8.below
  go_wp2_with fail
  go_ret
  exact ⟨rfl, HB.out⟩

set_option maxHeartbeats 2000000 in
theorem star_some_q_short_m (p s : List UInt8) (w : World) (hp : p.length ≤ 5000) (hs : s.length ≤ 5000) (hsum : (p.length : Int) + (s.length : Int) ≤ 5000) (B0 : BL w w) {up : List UInt8} (hpar : parentL s = some up) (hq : mayL s = true) (hm : matchL p s = true) (hst : starred p = false) (el : decide (1 < (p.length : Int)) = false) (hp2 : p.length ≤ 1) :
    Calls Tryd.prog 8 #[.string (str p), .string (str s)] w fun e w' => e = .returned (.bool true) ∧ Below w.heap.size w w' := by
  have HP := Lib.hid hpar
  have HM := Lib.hid hm
  have HQ := Lib.hid hq
  have HS := Lib.hid (show matchL s s = true by rw [match_self]; exact hq)
  have HA := Lib.hid (match_above s)
  have HST := Lib.hid hst
  have hul : up.length ≤ 5000 := by have := parent_len hpar; omega
  have HU := Lib.hid (show matchL (42 :: 46 :: up) s = true by rw [match_star, hpar]; simp)
  have HN := Lib.hid (show matchL p up = false by have := match_not_both (p := p) hpar; rw [hm] at this; simpa using this)
  have e10 : (p == s) = true := by rw [← hm, match_bare hst, hq]; rfl
  clear hpar hm hq hst
  go_enter Tryd.func8, Tryd.ntmps8
  go_wp2_with fail
  refine (awake_bl _ B0).mono ?_
  rintro e w1 ⟨rfl, B1⟩
  go_wp2_with fail
  refine (bl_parent HP.out (by omega) B1).mono ?_
  rintro e w2 ⟨rfl, B2⟩
  unfold optV
  go_wp2_with fail
  refine (bl_match HM.out (by omega) (by omega) B2).mono ?_
  rintro e w3 ⟨rfl, B3⟩
  go_wp2_with fail
  refine (bl_match HN.out (by omega) (by omega) B3).mono ?_
  rintro e w4 ⟨rfl, B4⟩
  go_wp2_with fail
  refine (bl_may HQ.out (by omega) B4).mono ?_
  rintro e w5 ⟨rfl, B5⟩
  go_wp2_with fail
  refine (bl_match HS.out (by omega) (by omega) B5).mono ?_
  rintro e w6 ⟨rfl, B6⟩
  go_wp2_with fail
  rw [star_app]
  refine (bl_match HU.out (by simp; omega) (by omega) B6).mono ?_
  rintro e w7 ⟨rfl, B7⟩
  go_wp2_with fail
  rw [star_app]
  refine (bl_match HA.out (by simp; omega) (by omega) B7).mono ?_
  rintro e w8 ⟨rfl, B8⟩
  go_wp2_with fail
  refine (bl_match HM.out (by omega) (by omega) B8).mono ?_
  rintro e w9 ⟨rfl, B9⟩
  go_wp2_with fail
  refine (bl_may HQ.out (by omega) B9).mono ?_
  rintro e w10 ⟨rfl, B10⟩
  have HB := Lib.hid B10.below
  go_wp2_with fail
  go_ret
  exact ⟨rfl, HB.out⟩

set_option maxHeartbeats 2000000 in
theorem star_some_q_short_x (p s : List UInt8) (w : World) (hp : p.length ≤ 5000) (hs : s.length ≤ 5000) (hsum : (p.length : Int) + (s.length : Int) ≤ 5000) (B0 : BL w w) {up : List UInt8} (hpar : parentL s = some up) (hq : mayL s = true) (hm : matchL p s = false) (hst : starred p = false) (el : decide (1 < (p.length : Int)) = false) (hp2 : p.length ≤ 1) :
    Calls Tryd.prog 8 #[.string (str p), .string (str s)] w fun e w' => e = .returned (.bool true) ∧ Below w.heap.size w w' := by
  have HP := Lib.hid hpar
  have HM := Lib.hid hm
  have HQ := Lib.hid hq
  have HS := Lib.hid (show matchL s s = true by rw [match_self]; exact hq)
  have HA := Lib.hid (match_above s)
  have HST := Lib.hid hst
  have hul : up.length ≤ 5000 := by have := parent_len hpar; omega
  have HU := Lib.hid (show matchL (42 :: 46 :: up) s = true by rw [match_star, hpar]; simp)
  have e10 : (p == s) = false := by rw [← hm, match_bare hst, hq]; rfl
  clear hpar hm hq hst
  go_enter Tryd.func8, Tryd.ntmps8
  go_wp2_with fail
  refine (awake_bl _ B0).mono ?_
  rintro e w1 ⟨rfl, B1⟩
  go_wp2_with fail
  refine (bl_parent HP.out (by omega) B1).mono ?_
  rintro e w2 ⟨rfl, B2⟩
  unfold optV
  go_wp2_with fail
  refine (bl_match HM.out (by omega) (by omega) B2).mono ?_
  rintro e w3 ⟨rfl, B3⟩
  go_wp2_with fail
  refine (bl_may HQ.out (by omega) B3).mono ?_
  rintro e w4 ⟨rfl, B4⟩
  go_wp2_with fail
  refine (bl_match HS.out (by omega) (by omega) B4).mono ?_
  rintro e w5 ⟨rfl, B5⟩
  go_wp2_with fail
  rw [star_app]
  refine (bl_match HU.out (by simp; omega) (by omega) B5).mono ?_
  rintro e w6 ⟨rfl, B6⟩
  go_wp2_with fail
  rw [star_app]
  refine (bl_match HA.out (by simp; omega) (by omega) B6).mono ?_
  rintro e w7 ⟨rfl, B7⟩
  go_wp2_with fail
  refine (bl_match HM.out (by omega) (by omega) B7).mono ?_
  rintro e w8 ⟨rfl, B8⟩
  go_wp2_with fail
  refine (bl_may HQ.out (by omega) B8).mono ?_
  rintro e w9 ⟨rfl, B9⟩
  have HB := Lib.hid B9.below
  go_wp2_with fail
  go_ret
  exact ⟨rfl, HB.out⟩

set_option maxHeartbeats 2000000 in
theorem star_some_q_bare_m (p s : List UInt8) (w : World) (hp : p.length ≤ 5000) (hs : s.length ≤ 5000) (hsum : (p.length : Int) + (s.length : Int) ≤ 5000) (B0 : BL w w) {up : List UInt8} (hpar : parentL s = some up) (hq : mayL s = true) (hm : matchL p s = true) (hst : starred p = false) (hp2 : 2 ≤ p.length) (et : (((str p).extract 0 2).toList == [42, 46]) = false) (el : decide (1 < (p.length : Int)) = true) :
    Calls Tryd.prog 8 #[.string (str p), .string (str s)] w fun e w' => e = .returned (.bool true) ∧ Below w.heap.size w w' := by
  have HP := Lib.hid hpar
  have HM := Lib.hid hm
  have HQ := Lib.hid hq
  have HS := Lib.hid (show matchL s s = true by rw [match_self]; exact hq)
  have HA := Lib.hid (match_above s)
  have HST := Lib.hid hst
  have hul : up.length ≤ 5000 := by have := parent_len hpar; omega
  have HU := Lib.hid (show matchL (42 :: 46 :: up) s = true by rw [match_star, hpar]; simp)
  have HN := Lib.hid (show matchL p up = false by have := match_not_both (p := p) hpar; rw [hm] at this; simpa using this)
  have e10 : (p == s) = true := by rw [← hm, match_bare hst, hq]; rfl
  clear hpar hm hq hst
  go_enter Tryd.func8, Tryd.ntmps8
  go_wp2_with fail
  refine (awake_bl _ B0).mono ?_
  rintro e w1 ⟨rfl, B1⟩
  go_wp2_with fail
  refine (bl_parent HP.out (by omega) B1).mono ?_
  rintro e w2 ⟨rfl, B2⟩
  unfold optV
  go_wp2_with fail
  refine (bl_match HM.out (by omega) (by omega) B2).mono ?_
  rintro e w3 ⟨rfl, B3⟩
  go_wp2_with fail
  refine (bl_match HN.out (by omega) (by omega) B3).mono ?_
  rintro e w4 ⟨rfl, B4⟩
  go_wp2_with fail
  refine (bl_may HQ.out (by omega) B4).mono ?_
  rintro e w5 ⟨rfl, B5⟩
  go_wp2_with fail
  refine (bl_match HS.out (by omega) (by omega) B5).mono ?_
  rintro e w6 ⟨rfl, B6⟩
  go_wp2_with fail
  rw [star_app]
  refine (bl_match HU.out (by simp; omega) (by omega) B6).mono ?_
  rintro e w7 ⟨rfl, B7⟩
  go_wp2_with fail
  rw [star_app]
  refine (bl_match HA.out (by simp; omega) (by omega) B7).mono ?_
  rintro e w8 ⟨rfl, B8⟩
  go_wp2_with fail
  refine (bl_match HM.out (by omega) (by omega) B8).mono ?_
  rintro e w9 ⟨rfl, B9⟩
  go_wp2_with fail
  refine (bl_may HQ.out (by omega) B9).mono ?_
  rintro e w10 ⟨rfl, B10⟩
  have HB := Lib.hid B10.below
  go_wp2_with fail
  go_ret
  exact ⟨rfl, HB.out⟩

set_option maxHeartbeats 2000000 in
theorem star_some_q_bare_x (p s : List UInt8) (w : World) (hp : p.length ≤ 5000) (hs : s.length ≤ 5000) (hsum : (p.length : Int) + (s.length : Int) ≤ 5000) (B0 : BL w w) {up : List UInt8} (hpar : parentL s = some up) (hq : mayL s = true) (hm : matchL p s = false) (hst : starred p = false) (hp2 : 2 ≤ p.length) (et : (((str p).extract 0 2).toList == [42, 46]) = false) (el : decide (1 < (p.length : Int)) = true) :
    Calls Tryd.prog 8 #[.string (str p), .string (str s)] w fun e w' => e = .returned (.bool true) ∧ Below w.heap.size w w' := by
  have HP := Lib.hid hpar
  have HM := Lib.hid hm
  have HQ := Lib.hid hq
  have HS := Lib.hid (show matchL s s = true by rw [match_self]; exact hq)
  have HA := Lib.hid (match_above s)
  have HST := Lib.hid hst
  have hul : up.length ≤ 5000 := by have := parent_len hpar; omega
  have HU := Lib.hid (show matchL (42 :: 46 :: up) s = true by rw [match_star, hpar]; simp)
  have e10 : (p == s) = false := by rw [← hm, match_bare hst, hq]; rfl
  clear hpar hm hq hst
  go_enter Tryd.func8, Tryd.ntmps8
  go_wp2_with fail
  refine (awake_bl _ B0).mono ?_
  rintro e w1 ⟨rfl, B1⟩
  go_wp2_with fail
  refine (bl_parent HP.out (by omega) B1).mono ?_
  rintro e w2 ⟨rfl, B2⟩
  unfold optV
  go_wp2_with fail
  refine (bl_match HM.out (by omega) (by omega) B2).mono ?_
  rintro e w3 ⟨rfl, B3⟩
  go_wp2_with fail
  refine (bl_may HQ.out (by omega) B3).mono ?_
  rintro e w4 ⟨rfl, B4⟩
  go_wp2_with fail
  refine (bl_match HS.out (by omega) (by omega) B4).mono ?_
  rintro e w5 ⟨rfl, B5⟩
  go_wp2_with fail
  rw [star_app]
  refine (bl_match HU.out (by simp; omega) (by omega) B5).mono ?_
  rintro e w6 ⟨rfl, B6⟩
  go_wp2_with fail
  rw [star_app]
  refine (bl_match HA.out (by simp; omega) (by omega) B6).mono ?_
  rintro e w7 ⟨rfl, B7⟩
  go_wp2_with fail
  refine (bl_match HM.out (by omega) (by omega) B7).mono ?_
  rintro e w8 ⟨rfl, B8⟩
  go_wp2_with fail
  refine (bl_may HQ.out (by omega) B8).mono ?_
  rintro e w9 ⟨rfl, B9⟩
  have HB := Lib.hid B9.below
  go_wp2_with fail
  go_ret
  exact ⟨rfl, HB.out⟩

set_option maxHeartbeats 2000000 in
theorem star_none_q_star_x (p s : List UInt8) (w : World) (hp : p.length ≤ 5000) (hs : s.length ≤ 5000) (hsum : (p.length : Int) + (s.length : Int) ≤ 5000) (B0 : BL w w) (hpar : parentL s = none) (hq : mayL s = true) (hm : matchL p s = false) (hst : starred p = true) (hp2 : 2 ≤ p.length) (et : (((str p).extract 0 2).toList == [42, 46]) = true) (el : decide (1 < (p.length : Int)) = true) :
    Calls Tryd.prog 8 #[.string (str p), .string (str s)] w fun e w' => e = .returned (.bool true) ∧ Below w.heap.size w w' := by
  have HP := Lib.hid hpar
  have HM := Lib.hid hm
  have HQ := Lib.hid hq
  have HS := Lib.hid (show matchL s s = true by rw [match_self]; exact hq)
  have HA := Lib.hid (match_above s)
  have HST := Lib.hid hst
  clear hpar hm hq hst
  go_enter Tryd.func8, Tryd.ntmps8
  go_wp2_with fail
  refine (awake_bl _ B0).mono ?_
  rintro e w1 ⟨rfl, B1⟩
  go_wp2_with fail
  refine (bl_parent HP.out (by omega) B1).mono ?_
  rintro e w2 ⟨rfl, B2⟩
  unfold optV
  go_wp2_with fail
  refine (bl_match HM.out (by omega) (by omega) B2).mono ?_
  rintro e w3 ⟨rfl, B3⟩
  go_wp2_with fail
  refine (bl_may HQ.out (by omega) B3).mono ?_
  rintro e w4 ⟨rfl, B4⟩
  go_wp2_with fail
  refine (bl_match HS.out (by omega) (by omega) B4).mono ?_
  rintro e w5 ⟨rfl, B5⟩
  go_wp2_with fail
  rw [star_app]
  refine (bl_match HA.out (by simp; omega) (by omega) B5).mono ?_
  rintro e w6 ⟨rfl, B6⟩
  go_wp2_with fail
  refine (bl_match HM.out (by omega) (by omega) B6).mono ?_
  rintro e w7 ⟨rfl, B7⟩
  have HB := Lib.hid B7.below
  go_wp2_with fail
  go_ret
  exact ⟨rfl, HB.out⟩

set_option maxHeartbeats 2000000 in
theorem star_none_q_short_m (p s : List UInt8) (w : World) (hp : p.length ≤ 5000) (hs : s.length ≤ 5000) (hsum : (p.length : Int) + (s.length : Int) ≤ 5000) (B0 : BL w w) (hpar : parentL s = none) (hq : mayL s = true) (hm : matchL p s = true) (hst : starred p = false) (el : decide (1 < (p.length : Int)) = false) (hp2 : p.length ≤ 1) :
    Calls Tryd.prog 8 #[.string (str p), .string (str s)] w fun e w' => e = .returned (.bool true) ∧ Below w.heap.size w w' := by
  have HP := Lib.hid hpar
  have HM := Lib.hid hm
  have HQ := Lib.hid hq
  have HS := Lib.hid (show matchL s s = true by rw [match_self]; exact hq)
  have HA := Lib.hid (match_above s)
  have HST := Lib.hid hst
  have e10 : (p == s) = true := by rw [← hm, match_bare hst, hq]; rfl
  clear hpar hm hq hst
  go_enter Tryd.func8, Tryd.ntmps8
  go_wp2_with fail
  refine (awake_bl _ B0).mono ?_
  rintro e w1 ⟨rfl, B1⟩
  go_wp2_with fail
  refine (bl_parent HP.out (by omega) B1).mono ?_
  rintro e w2 ⟨rfl, B2⟩
  unfold optV
  go_wp2_with fail
  refine (bl_match HM.out (by omega) (by omega) B2).mono ?_
  rintro e w3 ⟨rfl, B3⟩
  go_wp2_with fail
  refine (bl_may HQ.out (by omega) B3).mono ?_
  rintro e w4 ⟨rfl, B4⟩
  go_wp2_with fail
  refine (bl_match HS.out (by omega) (by omega) B4).mono ?_
  rintro e w5 ⟨rfl, B5⟩
  go_wp2_with fail
  rw [star_app]
  refine (bl_match HA.out (by simp; omega) (by omega) B5).mono ?_
  rintro e w6 ⟨rfl, B6⟩
  go_wp2_with fail
  refine (bl_match HM.out (by omega) (by omega) B6).mono ?_
  rintro e w7 ⟨rfl, B7⟩
  go_wp2_with fail
  refine (bl_may HQ.out (by omega) B7).mono ?_
  rintro e w8 ⟨rfl, B8⟩
  have HB := Lib.hid B8.below
  go_wp2_with fail
  go_ret
  exact ⟨rfl, HB.out⟩

set_option maxHeartbeats 2000000 in
theorem star_none_q_short_x (p s : List UInt8) (w : World) (hp : p.length ≤ 5000) (hs : s.length ≤ 5000) (hsum : (p.length : Int) + (s.length : Int) ≤ 5000) (B0 : BL w w) (hpar : parentL s = none) (hq : mayL s = true) (hm : matchL p s = false) (hst : starred p = false) (el : decide (1 < (p.length : Int)) = false) (hp2 : p.length ≤ 1) :
    Calls Tryd.prog 8 #[.string (str p), .string (str s)] w fun e w' => e = .returned (.bool true) ∧ Below w.heap.size w w' := by
  have HP := Lib.hid hpar
  have HM := Lib.hid hm
  have HQ := Lib.hid hq
  have HS := Lib.hid (show matchL s s = true by rw [match_self]; exact hq)
  have HA := Lib.hid (match_above s)
  have HST := Lib.hid hst
  have e10 : (p == s) = false := by rw [← hm, match_bare hst, hq]; rfl
  clear hpar hm hq hst
  go_enter Tryd.func8, Tryd.ntmps8
  go_wp2_with fail
  refine (awake_bl _ B0).mono ?_
  rintro e w1 ⟨rfl, B1⟩
  go_wp2_with fail
  refine (bl_parent HP.out (by omega) B1).mono ?_
  rintro e w2 ⟨rfl, B2⟩
  unfold optV
  go_wp2_with fail
  refine (bl_match HM.out (by omega) (by omega) B2).mono ?_
  rintro e w3 ⟨rfl, B3⟩
  go_wp2_with fail
  refine (bl_may HQ.out (by omega) B3).mono ?_
  rintro e w4 ⟨rfl, B4⟩
  go_wp2_with fail
  refine (bl_match HS.out (by omega) (by omega) B4).mono ?_
  rintro e w5 ⟨rfl, B5⟩
  go_wp2_with fail
  rw [star_app]
  refine (bl_match HA.out (by simp; omega) (by omega) B5).mono ?_
  rintro e w6 ⟨rfl, B6⟩
  go_wp2_with fail
  refine (bl_match HM.out (by omega) (by omega) B6).mono ?_
  rintro e w7 ⟨rfl, B7⟩
  go_wp2_with fail
  refine (bl_may HQ.out (by omega) B7).mono ?_
  rintro e w8 ⟨rfl, B8⟩
  have HB := Lib.hid B8.below
  go_wp2_with fail
  go_ret
  exact ⟨rfl, HB.out⟩

set_option maxHeartbeats 2000000 in
theorem star_none_q_bare_m (p s : List UInt8) (w : World) (hp : p.length ≤ 5000) (hs : s.length ≤ 5000) (hsum : (p.length : Int) + (s.length : Int) ≤ 5000) (B0 : BL w w) (hpar : parentL s = none) (hq : mayL s = true) (hm : matchL p s = true) (hst : starred p = false) (hp2 : 2 ≤ p.length) (et : (((str p).extract 0 2).toList == [42, 46]) = false) (el : decide (1 < (p.length : Int)) = true) :
    Calls Tryd.prog 8 #[.string (str p), .string (str s)] w fun e w' => e = .returned (.bool true) ∧ Below w.heap.size w w' := by
  have HP := Lib.hid hpar
  have HM := Lib.hid hm
  have HQ := Lib.hid hq
  have HS := Lib.hid (show matchL s s = true by rw [match_self]; exact hq)
  have HA := Lib.hid (match_above s)
  have HST := Lib.hid hst
  have e10 : (p == s) = true := by rw [← hm, match_bare hst, hq]; rfl
  clear hpar hm hq hst
  go_enter Tryd.func8, Tryd.ntmps8
  go_wp2_with fail
  refine (awake_bl _ B0).mono ?_
  rintro e w1 ⟨rfl, B1⟩
  go_wp2_with fail
  refine (bl_parent HP.out (by omega) B1).mono ?_
  rintro e w2 ⟨rfl, B2⟩
  unfold optV
  go_wp2_with fail
  refine (bl_match HM.out (by omega) (by omega) B2).mono ?_
  rintro e w3 ⟨rfl, B3⟩
  go_wp2_with fail
  refine (bl_may HQ.out (by omega) B3).mono ?_
  rintro e w4 ⟨rfl, B4⟩
  go_wp2_with fail
  refine (bl_match HS.out (by omega) (by omega) B4).mono ?_
  rintro e w5 ⟨rfl, B5⟩
  go_wp2_with fail
  rw [star_app]
  refine (bl_match HA.out (by simp; omega) (by omega) B5).mono ?_
  rintro e w6 ⟨rfl, B6⟩
  go_wp2_with fail
  refine (bl_match HM.out (by omega) (by omega) B6).mono ?_
  rintro e w7 ⟨rfl, B7⟩
  go_wp2_with fail
  refine (bl_may HQ.out (by omega) B7).mono ?_
  rintro e w8 ⟨rfl, B8⟩
  have HB := Lib.hid B8.below
  go_wp2_with fail
  go_ret
  exact ⟨rfl, HB.out⟩

set_option maxHeartbeats 2000000 in
theorem star_none_q_bare_x (p s : List UInt8) (w : World) (hp : p.length ≤ 5000) (hs : s.length ≤ 5000) (hsum : (p.length : Int) + (s.length : Int) ≤ 5000) (B0 : BL w w) (hpar : parentL s = none) (hq : mayL s = true) (hm : matchL p s = false) (hst : starred p = false) (hp2 : 2 ≤ p.length) (et : (((str p).extract 0 2).toList == [42, 46]) = false) (el : decide (1 < (p.length : Int)) = true) :
    Calls Tryd.prog 8 #[.string (str p), .string (str s)] w fun e w' => e = .returned (.bool true) ∧ Below w.heap.size w w' := by
  have HP := Lib.hid hpar
  have HM := Lib.hid hm
  have HQ := Lib.hid hq
  have HS := Lib.hid (show matchL s s = true by rw [match_self]; exact hq)
  have HA := Lib.hid (match_above s)
  have HST := Lib.hid hst
  have e10 : (p == s) = false := by rw [← hm, match_bare hst, hq]; rfl
  clear hpar hm hq hst
  go_enter Tryd.func8, Tryd.ntmps8
  go_wp2_with fail
  refine (awake_bl _ B0).mono ?_
  rintro e w1 ⟨rfl, B1⟩
  go_wp2_with fail
  refine (bl_parent HP.out (by omega) B1).mono ?_
  rintro e w2 ⟨rfl, B2⟩
  unfold optV
  go_wp2_with fail
  refine (bl_match HM.out (by omega) (by omega) B2).mono ?_
  rintro e w3 ⟨rfl, B3⟩
  go_wp2_with fail
  refine (bl_may HQ.out (by omega) B3).mono ?_
  rintro e w4 ⟨rfl, B4⟩
  go_wp2_with fail
  refine (bl_match HS.out (by omega) (by omega) B4).mono ?_
  rintro e w5 ⟨rfl, B5⟩
  go_wp2_with fail
  rw [star_app]
  refine (bl_match HA.out (by simp; omega) (by omega) B5).mono ?_
  rintro e w6 ⟨rfl, B6⟩
  go_wp2_with fail
  refine (bl_match HM.out (by omega) (by omega) B6).mono ?_
  rintro e w7 ⟨rfl, B7⟩
  go_wp2_with fail
  refine (bl_may HQ.out (by omega) B7).mono ?_
  rintro e w8 ⟨rfl, B8⟩
  have HB := Lib.hid B8.below
  go_wp2_with fail
  go_ret
  exact ⟨rfl, HB.out⟩

set_option maxHeartbeats 2000000 in
theorem star_none_n_star_x (p s : List UInt8) (w : World) (hp : p.length ≤ 5000) (hs : s.length ≤ 5000) (hsum : (p.length : Int) + (s.length : Int) ≤ 5000) (B0 : BL w w) (hpar : parentL s = none) (hq : mayL s = false) (hm : matchL p s = false) (hst : starred p = true) (hp2 : 2 ≤ p.length) (et : (((str p).extract 0 2).toList == [42, 46]) = true) (el : decide (1 < (p.length : Int)) = true) :
    Calls Tryd.prog 8 #[.string (str p), .string (str s)] w fun e w' => e = .returned (.bool true) ∧ Below w.heap.size w w' := by
  have HP := Lib.hid hpar
  have HM := Lib.hid hm
  have HQ := Lib.hid hq
  have HS := Lib.hid (show matchL s s = false by rw [match_self]; exact hq)
  have HA := Lib.hid (match_above s)
  have HST := Lib.hid hst
  clear hpar hm hq hst
  go_enter Tryd.func8, Tryd.ntmps8
  go_wp2_with fail
  refine (awake_bl _ B0).mono ?_
  rintro e w1 ⟨rfl, B1⟩
  go_wp2_with fail
  refine (bl_parent HP.out (by omega) B1).mono ?_
  rintro e w2 ⟨rfl, B2⟩
  unfold optV
  go_wp2_with fail
  refine (bl_match HM.out (by omega) (by omega) B2).mono ?_
  rintro e w3 ⟨rfl, B3⟩
  go_wp2_with fail
  refine (bl_may HQ.out (by omega) B3).mono ?_
  rintro e w4 ⟨rfl, B4⟩
  go_wp2_with fail
  refine (bl_match HS.out (by omega) (by omega) B4).mono ?_
  rintro e w5 ⟨rfl, B5⟩
  go_wp2_with fail
  rw [star_app]
  refine (bl_match HA.out (by simp; omega) (by omega) B5).mono ?_
  rintro e w6 ⟨rfl, B6⟩
  go_wp2_with fail
  refine (bl_match HM.out (by omega) (by omega) B6).mono ?_
  rintro e w7 ⟨rfl, B7⟩
  have HB := Lib.hid B7.below
  go_wp2_with fail
  go_ret
  exact ⟨rfl, HB.out⟩

set_option maxHeartbeats 2000000 in
theorem star_none_n_short_x (p s : List UInt8) (w : World) (hp : p.length ≤ 5000) (hs : s.length ≤ 5000) (hsum : (p.length : Int) + (s.length : Int) ≤ 5000) (B0 : BL w w) (hpar : parentL s = none) (hq : mayL s = false) (hm : matchL p s = false) (hst : starred p = false) (el : decide (1 < (p.length : Int)) = false) (hp2 : p.length ≤ 1) :
    Calls Tryd.prog 8 #[.string (str p), .string (str s)] w fun e w' => e = .returned (.bool true) ∧ Below w.heap.size w w' := by
  have HP := Lib.hid hpar
  have HM := Lib.hid hm
  have HQ := Lib.hid hq
  have HS := Lib.hid (show matchL s s = false by rw [match_self]; exact hq)
  have HA := Lib.hid (match_above s)
  have HST := Lib.hid hst
  clear hpar hm hq hst
  go_enter Tryd.func8, Tryd.ntmps8
  go_wp2_with fail
  refine (awake_bl _ B0).mono ?_
  rintro e w1 ⟨rfl, B1⟩
  go_wp2_with fail
  refine (bl_parent HP.out (by omega) B1).mono ?_
  rintro e w2 ⟨rfl, B2⟩
  unfold optV
  go_wp2_with fail
  refine (bl_match HM.out (by omega) (by omega) B2).mono ?_
  rintro e w3 ⟨rfl, B3⟩
  go_wp2_with fail
  refine (bl_may HQ.out (by omega) B3).mono ?_
  rintro e w4 ⟨rfl, B4⟩
  go_wp2_with fail
  refine (bl_match HS.out (by omega) (by omega) B4).mono ?_
  rintro e w5 ⟨rfl, B5⟩
  go_wp2_with fail
  rw [star_app]
  refine (bl_match HA.out (by simp; omega) (by omega) B5).mono ?_
  rintro e w6 ⟨rfl, B6⟩
  go_wp2_with fail
  refine (bl_match HM.out (by omega) (by omega) B6).mono ?_
  rintro e w7 ⟨rfl, B7⟩
  go_wp2_with fail
  refine (bl_may HQ.out (by omega) B7).mono ?_
  rintro e w8 ⟨rfl, B8⟩
  have HB := Lib.hid B8.below
  go_wp2_with fail
  go_ret
  exact ⟨rfl, HB.out⟩

set_option maxHeartbeats 2000000 in
theorem star_none_n_bare_x (p s : List UInt8) (w : World) (hp : p.length ≤ 5000) (hs : s.length ≤ 5000) (hsum : (p.length : Int) + (s.length : Int) ≤ 5000) (B0 : BL w w) (hpar : parentL s = none) (hq : mayL s = false) (hm : matchL p s = false) (hst : starred p = false) (hp2 : 2 ≤ p.length) (et : (((str p).extract 0 2).toList == [42, 46]) = false) (el : decide (1 < (p.length : Int)) = true) :
    Calls Tryd.prog 8 #[.string (str p), .string (str s)] w fun e w' => e = .returned (.bool true) ∧ Below w.heap.size w w' := by
  have HP := Lib.hid hpar
  have HM := Lib.hid hm
  have HQ := Lib.hid hq
  have HS := Lib.hid (show matchL s s = false by rw [match_self]; exact hq)
  have HA := Lib.hid (match_above s)
  have HST := Lib.hid hst
  clear hpar hm hq hst
  go_enter Tryd.func8, Tryd.ntmps8
  go_wp2_with fail
  refine (awake_bl _ B0).mono ?_
  rintro e w1 ⟨rfl, B1⟩
  go_wp2_with fail
  refine (bl_parent HP.out (by omega) B1).mono ?_
  rintro e w2 ⟨rfl, B2⟩
  unfold optV
  go_wp2_with fail
  refine (bl_match HM.out (by omega) (by omega) B2).mono ?_
  rintro e w3 ⟨rfl, B3⟩
  go_wp2_with fail
  refine (bl_may HQ.out (by omega) B3).mono ?_
  rintro e w4 ⟨rfl, B4⟩
  go_wp2_with fail
  refine (bl_match HS.out (by omega) (by omega) B4).mono ?_
  rintro e w5 ⟨rfl, B5⟩
  go_wp2_with fail
  rw [star_app]
  refine (bl_match HA.out (by simp; omega) (by omega) B5).mono ?_
  rintro e w6 ⟨rfl, B6⟩
  go_wp2_with fail
  refine (bl_match HM.out (by omega) (by omega) B6).mono ?_
  rintro e w7 ⟨rfl, B7⟩
  go_wp2_with fail
  refine (bl_may HQ.out (by omega) B7).mono ?_
  rintro e w8 ⟨rfl, B8⟩
  have HB := Lib.hid B8.below
  go_wp2_with fail
  go_ret
  exact ⟨rfl, HB.out⟩

theorem nameStar_short (p s : List UInt8) (w : World) (h : p.length + s.length ≤ 5000) (hM : ML w) :
    Calls Tryd.prog 8 #[.string (str p), .string (str s)] w fun e w' => e = .returned (.bool true) ∧ Below w.heap.size w w' := by
  have B0 := BL.start hM
  have h1 : p.length ≤ 5000 := by omega
  have h2 : s.length ≤ 5000 := by omega
  have h3 : (p.length : Int) + (s.length : Int) ≤ 5000 := by omega
  cases hpar : parentL s with
  | some up =>
    have hq := (parent_some.1 hpar).1
    rcases starred_cases p with ⟨a1, a2, a3, a4⟩ | ⟨a1, a2, a3⟩ | ⟨a1, a2, a3, a4⟩
    · cases hm : matchL p s with
      | true => exact star_some_q_star_m p s w h1 h2 h3 B0 hpar hq hm a1 a2 a3 a4
      | false => exact star_some_q_star_x p s w h1 h2 h3 B0 hpar hq hm a1 a2 a3 a4
    · cases hm : matchL p s with
      | true => exact star_some_q_short_m p s w h1 h2 h3 B0 hpar hq hm a1 a2 a3
      | false => exact star_some_q_short_x p s w h1 h2 h3 B0 hpar hq hm a1 a2 a3
    · cases hm : matchL p s with
      | true => exact star_some_q_bare_m p s w h1 h2 h3 B0 hpar hq hm a1 a2 a3 a4
      | false => exact star_some_q_bare_x p s w h1 h2 h3 B0 hpar hq hm a1 a2 a3 a4
  | none =>
    cases hq : mayL s with
    | true =>
      rcases starred_cases p with ⟨a1, a2, a3, a4⟩ | ⟨a1, a2, a3⟩ | ⟨a1, a2, a3, a4⟩
      · exact star_none_q_star_x p s w h1 h2 h3 B0 hpar hq (by rw [match_starred a1, hpar]; rfl) a1 a2 a3 a4
      · cases hm : matchL p s with
        | true => exact star_none_q_short_m p s w h1 h2 h3 B0 hpar hq hm a1 a2 a3
        | false => exact star_none_q_short_x p s w h1 h2 h3 B0 hpar hq hm a1 a2 a3
      · cases hm : matchL p s with
        | true => exact star_none_q_bare_m p s w h1 h2 h3 B0 hpar hq hm a1 a2 a3 a4
        | false => exact star_none_q_bare_x p s w h1 h2 h3 B0 hpar hq hm a1 a2 a3 a4
    | false =>
      have hm : matchL p s = false := by unfold matchL; rw [hq]; rfl
      rcases starred_cases p with ⟨a1, a2, a3, a4⟩ | ⟨a1, a2, a3⟩ | ⟨a1, a2, a3, a4⟩
      · exact star_none_n_star_x p s w h1 h2 h3 B0 hpar hq hm a1 a2 a3 a4
      · exact star_none_n_short_x p s w h1 h2 h3 B0 hpar hq hm a1 a2 a3
      · exact star_none_n_bare_x p s w h1 h2 h3 B0 hpar hq hm a1 a2 a3 a4

theorem nameStar_walk (p s : ByteArray) (hp : p.data.size ≤ 140737488351232) (hs : s.data.size ≤ 140737488351232) (w : World) (hM : ML w) :
    Calls Tryd.prog 8 #[.string p, .string s] w fun e w' => e = .returned (.bool true) ∧ Below w.heap.size w w' := by
  obtain ⟨p, rfl, _⟩ := to_str p
  obtain ⟨s, rfl, _⟩ := to_str s
  have hp' : p.length ≤ 140737488351232 := by simpa using hp
  have hs' : s.length ≤ 140737488351232 := by simpa using hs
  by_cases h : 5000 < p.length + s.length
  · exact nameStar_long p s w hp' hs' h hM
  · exact nameStar_short p s w (by omega) hM
end Go.Proofs.YtnlmlhjegjphiaaDoor
