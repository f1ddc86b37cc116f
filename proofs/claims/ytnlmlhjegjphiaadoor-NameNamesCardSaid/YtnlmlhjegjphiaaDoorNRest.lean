/-
  The contracts of package name's Parent, Pattern, Match, Compare, Under.
-/
import Derived.Test.YtnlmlhjegjphiaaDoorNFold
namespace Go.Proofs.YtnlmlhjegjphiaaDoor
open Go Go.RowKit Go.Shelf
set_option maxRecDepth 100000

theorem below_of_drewN {w w' : World} {n : Nat} (h : Below (w.drewN n).heap.size (w.drewN n) w') : Below w.heap.size w w' := ⟨h.os, h.tape, h.output, h.size, h.block⟩
theorem str_append (a b : List UInt8) : str a ++ str b = str (a ++ b) := by
  apply ByteArray.ext
  simp [str, ByteArray.data_append]

/-- What Parent and Under tell. -/
def optV (r : Option (List UInt8)) : Value := match r with
  | some a => .tuple #[sv a, .bool true]
  | none => .tuple #[sv [], .bool false]

set_option maxHeartbeats 1000000 in
theorem parent_any (s : List UInt8) (w : World) (hs : s.length ≤ 1000000) (hM : ML w) : Calls Tryd.prog 13 #[.string (str s)] w fun e w' => e = .returned (optV (parentL s)) ∧ Below w.heap.size w w' := by
  have HM := Lib.hid hM
  clear hM
  cases hm : mayL s with
  | false =>
    have HF := Lib.hid (parent_not hm)
    have HY := Lib.hid hm
    clear hm
    go_enter Tryd.func13, Tryd.ntmps13
    go_wp2_with fail
    refine (may_any s _ hs HM.out).mono ?_
    rintro e w2 ⟨rfl, hb2⟩
    rw [HY.out]
    have HB2 := Lib.hid hb2
    clear hb2
    go_wp2_with fail
    go_ret2
    rw [HF.out]
    exact ⟨rfl, HB2.out⟩
  | true =>
    have hl := may_len hm
    have HY := Lib.hid hm
    clear hm
    rcases dot_cases s with ⟨h1, h2, h3⟩ | ⟨a, t, h1, h2, h3, h4⟩
    · have HF := Lib.hid (show parentL s = none by unfold parentL; rw [h1]; simp)
      have HC := Lib.hid (cut_nodot h2)
      clear h1 h2 h3
      go_enter Tryd.func13, Tryd.ntmps13
      go_wp2_with fail
      refine (may_any s _ hs HM.out).mono ?_
      rintro e w2 ⟨rfl, hb2⟩
      rw [HY.out]
      have HB2 := Lib.hid hb2
      clear hb2
      go_wp2_with fail
      refine (cutd_call s _ hs (HM.out.step HB2.out) HC.out).mono ?_
      rintro e w3 ⟨rfl, n, rfl⟩
      go_wp2_with fail
      refine (clone_any (str []) _ (by decide)).mono ?_
      rintro e w4 ⟨rfl, hb4⟩
      have HB4 := Lib.hid hb4
      clear hb4
      go_wp2_with fail
      go_ret2
      rw [HF.out]
      exact ⟨rfl, HB2.out.trans ((below_of_drewN HB4.out).mono HB2.out.size)⟩
    · have HF := Lib.hid (show parentL s = some t by unfold parentL; rw [h3, h4, HY.out]; rfl)
      have htl : t.length ≤ s.length := by rw [h1]; simp; omega
      have HC := Lib.hid (show Lib.cut s [46] = (a, t, true) by rw [h1]; exact cut_dot t h2)
      clear h1 h2 h3 h4
      go_enter Tryd.func13, Tryd.ntmps13
      go_wp2_with fail
      refine (may_any s _ hs HM.out).mono ?_
      rintro e w2 ⟨rfl, hb2⟩
      rw [HY.out]
      have HB2 := Lib.hid hb2
      clear hb2
      go_wp2_with fail
      refine (cutd_call s _ hs (HM.out.step HB2.out) HC.out).mono ?_
      rintro e w3 ⟨rfl, n, rfl⟩
      go_wp2_with fail
      refine (clone_any (str t) _ (by simp [ByteArray.size]; omega)).mono ?_
      rintro e w4 ⟨rfl, hb4⟩
      have HB4 := Lib.hid hb4
      clear hb4
      go_wp2_with fail
      go_ret2
      rw [HF.out]
      exact ⟨rfl, HB2.out.trans ((below_of_drewN HB4.out).mono HB2.out.size)⟩

theorem pattern_any (s : List UInt8) (w : World) (hs : s.length ≤ 1000000) (hM : ML w) : Calls Tryd.prog 18 #[.string (str s)] w fun e w' => e = .returned (.bool (patL s)) ∧ Below w.heap.size w w' := by
  have HM := Lib.hid hM
  clear hM
  obtain ⟨b, hb⟩ : ∃ b, b = bareL s := ⟨_, rfl⟩
  have hbl : b.length ≤ 1000000 := by
    rw [hb]; unfold bareL
    split
    · rw [List.length_drop]; omega
    · exact hs
  have hc := Tryd.strings_TrimPrefix (str s) { data := #[42, 46] } w
  have e1 : (str s).data.toList = s := by simp
  have e2 : (⟨#[42, 46]⟩ : ByteArray).data.toList = [42, 46] := rfl
  rw [e1, e2, show Lib.trimPrefix s [42, 46] = b by rw [hb]; rfl] at hc
  have HC := Lib.hid hc
  have HB := Lib.hid (show patL s = mayL b by unfold patL; rw [← hb])
  clear hc hb e1 e2
  go_enter Tryd.func18, Tryd.ntmps18
  go_wp2_with fail
  refine HC.out.mono ?_
  rintro e w1 ⟨rfl, rfl⟩
  go_wp2_with fail
  refine (may_any b _ hbl HM.out).mono ?_
  rintro e w2 ⟨rfl, hb2⟩
  have HB2 := Lib.hid hb2
  clear hb2
  go_wp2_with fail
  go_ret
  rw [HB.out]
  exact ⟨rfl, HB2.out⟩

theorem compare_any (a b : List UInt8) (w : World) : Calls Tryd.prog 19 #[.string (str a), .string (str b)] w fun e w' => e = .returned (.int .i64 (Lib.compareBytes a b)) ∧ w = w' := by
  have hc := Tryd.strings_Compare (str a) (str b) w
  have e1 : (str a).data.toList = a := by simp
  have e2 : (str b).data.toList = b := by simp
  rw [e1, e2] at hc
  have HC := Lib.hid hc
  clear hc e1 e2
  go_enter Tryd.func19, Tryd.ntmps19
  go_wp2_with fail
  refine HC.out.mono ?_
  rintro e w1 ⟨rfl, rfl⟩
  go_wp2_with fail
  go_ret
  exact ⟨rfl, rfl⟩

set_option maxHeartbeats 1000000 in
theorem under_any (a s : List UInt8) (w : World) (ha : a.length ≤ 1000000) (hs : s.length ≤ 1000000) (hM : ML w) : Calls Tryd.prog 14 #[.string (str a), .string (str s)] w fun e w' => e = .returned (optV (underL a s)) ∧ Below w.heap.size w w' := by
  have HM := Lib.hid hM
  clear hM
  by_cases hl : 253 < a.length + s.length
  · have HF := Lib.hid (show underL a s = none by unfold underL; rw [decide_eq_false (by omega)]; simp)
    have hl' : (253 : Int) < (a.length : Int) + (s.length : Int) := by omega
    clear hl
    go_enter Tryd.func14, Tryd.ntmps14
    go_wp2_with fail
    go_ret2
    rw [HF.out]
    exact ⟨rfl, Below.refl _ _⟩
  have hl' : (a.length : Int) + (s.length : Int) ≤ 253 := by omega
  have HD := Lib.hid (show decide (a.length + s.length ≤ 253) = true from decide_eq_true (by omega))
  have hal : a.length ≤ 253 := by omega
  have hsl : s.length ≤ 253 := by omega
  clear hl
  cases hm : mayL s with
  | false =>
    have HF := Lib.hid (show underL a s = none by unfold underL; rw [hm]; rfl)
    have HY := Lib.hid hm
    clear hm
    go_enter Tryd.func14, Tryd.ntmps14
    go_wp2_with fail
    refine (may_any s _ hs HM.out).mono ?_
    rintro e w2 ⟨rfl, hb2⟩
    rw [HY.out]
    have HB2 := Lib.hid hb2
    clear hb2
    go_wp2_with fail
    go_ret2
    rw [HF.out]
    exact ⟨rfl, HB2.out⟩
  | true =>
    have HF := Lib.hid (show underL a s = some (a ++ s) by unfold underL; rw [hm, HD.out]; rfl)
    have HY := Lib.hid hm
    clear hm
    go_enter Tryd.func14, Tryd.ntmps14
    go_wp2_with fail
    refine (may_any s _ hs HM.out).mono ?_
    rintro e w2 ⟨rfl, hb2⟩
    rw [HY.out]
    have HB2 := Lib.hid hb2
    clear hb2
    go_wp2_with fail
    rw [str_append]
    refine (clone_any (str (a ++ s)) _ (by simp [ByteArray.size]; omega)).mono ?_
    rintro e w4 ⟨rfl, hb4⟩
    have HB4 := Lib.hid hb4
    clear hb4
    go_wp2_with fail
    go_ret2
    rw [HF.out]
    exact ⟨rfl, HB2.out.trans (HB4.out.mono HB2.out.size)⟩

set_option maxHeartbeats 1000000 in
theorem match_any (p s : List UInt8) (w : World) (_hp : p.length ≤ 1000000) (hs : s.length ≤ 1000000) (hM : ML w) : Calls Tryd.prog 16 #[.string (str p), .string (str s)] w fun e w' => e = .returned (.bool (matchL p s)) ∧ Below w.heap.size w w' := by
  have HM := Lib.hid hM
  clear hM
  cases hm : mayL s with
  | false =>
    have HF := Lib.hid (show matchL p s = false by unfold matchL; rw [hm]; rfl)
    have HY := Lib.hid hm
    clear hm
    go_enter Tryd.func16, Tryd.ntmps16
    go_wp2_with fail
    refine (may_any s _ hs HM.out).mono ?_
    rintro e w2 ⟨rfl, hb2⟩
    rw [HY.out]
    have HB2 := Lib.hid hb2
    clear hb2
    go_wp2_with fail
    go_ret
    rw [HF.out]
    exact ⟨rfl, HB2.out⟩
  | true =>
    have HY := Lib.hid hm
    have hcut : ∀ W, Calls Tryd.prog 35 #[.string (str p), .string { data := #[42, 46] }] W fun e w' => e = .returned (.tuple #[sv (bareL p), .bool (starred p)]) ∧ w' = W := fun W => by
      have hc := Tryd.strings_CutPrefix (str p) { data := #[42, 46] } W
      have e1 : (str p).data.toList = p := by simp
      have e2 : (⟨#[42, 46]⟩ : ByteArray).data.toList = [42, 46] := rfl
      rw [e1, e2] at hc
      exact hc
    have HC := Lib.hid hcut
    clear hcut
    cases hst : starred p with
    | false =>
      have hbare : bareL p = p := by unfold bareL; rw [hst]; rfl
      rw [hst, hbare] at HC
      have HF := Lib.hid (show matchL p s = (p == s) by unfold matchL; rw [hm, hst]; rfl)
      clear hm hst hbare
      go_enter Tryd.func16, Tryd.ntmps16
      go_wp2_with fail
      refine (may_any s _ hs HM.out).mono ?_
      rintro e w2 ⟨rfl, hb2⟩
      rw [HY.out]
      have HB2 := Lib.hid hb2
      clear hb2
      go_wp2_with fail
      refine (HC.out _).mono ?_
      rintro e w1 ⟨rfl, rfl⟩
      go_wp2_with fail
      go_ret
      rw [HF.out]
      exact ⟨rfl, HB2.out⟩
    | true =>
      have hbare : bareL p = p.drop 2 := by unfold bareL; rw [hst]; rfl
      rw [hst, hbare] at HC
      have HF := Lib.hid (match_starred (s := s) hst)
      clear hm hst hbare
      obtain ⟨q, hq⟩ : ∃ q, q = p.drop 2 := ⟨_, rfl⟩
      rw [← hq] at HF HC
      cases hpa : parentL s with
      | none =>
        rw [hpa] at HF
        have HP := Lib.hid hpa
        clear hpa hq
        go_enter Tryd.func16, Tryd.ntmps16
        go_wp2_with fail
        refine (may_any s _ hs HM.out).mono ?_
        rintro e w2 ⟨rfl, hb2⟩
        rw [HY.out]
        have HB2 := Lib.hid hb2
        clear hb2
        go_wp2_with fail
        refine (HC.out _).mono ?_
        rintro e w1 ⟨rfl, rfl⟩
        go_wp2_with fail
        refine (parent_any s _ hs (HM.out.step HB2.out)).mono ?_
        rintro e w3 ⟨rfl, hb3⟩
        have HB3 := Lib.hid (HB2.out.trans (hb3.mono HB2.out.size))
        clear hb3
        rw [HP.out]
        unfold optV
        go_wp2_with fail
        go_ret
        rw [HF.out]
        exact ⟨rfl, HB3.out⟩
      | some t =>
        rw [hpa] at HF
        have HP := Lib.hid hpa
        clear hpa hq
        go_enter Tryd.func16, Tryd.ntmps16
        go_wp2_with fail
        refine (may_any s _ hs HM.out).mono ?_
        rintro e w2 ⟨rfl, hb2⟩
        rw [HY.out]
        have HB2 := Lib.hid hb2
        clear hb2
        go_wp2_with fail
        refine (HC.out _).mono ?_
        rintro e w1 ⟨rfl, rfl⟩
        go_wp2_with fail
        refine (parent_any s _ hs (HM.out.step HB2.out)).mono ?_
        rintro e w3 ⟨rfl, hb3⟩
        have HB3 := Lib.hid (HB2.out.trans (hb3.mono HB2.out.size))
        clear hb3
        rw [HP.out]
        unfold optV
        go_wp2_with fail
        go_ret
        rw [HF.out, show (some t == some q) = (q == t) by rw [Option.some_beq_some, BEq.comm]]
        exact ⟨rfl, HB3.out⟩
end Go.Proofs.YtnlmlhjegjphiaaDoor
