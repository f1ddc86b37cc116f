/-
  The contracts of the reference's sign, atoms, quoted.
-/
import Derived.Test.YtbmjmiioobgbfaaGreatDoorNRFold
import Derived.Test.YtbmjmiioobgbfaaGreatDoorALocM
namespace Go.Proofs.YtbmjmiioobgbfaaGreatDoor
set_option linter.unusedSimpArgs false
set_option linter.unusedVariables false
open Go Go.RowKit
set_option maxRecDepth 100000

def signs2 : List UInt8 := [33, 35, 36, 37, 38, 39, 42, 43, 45, 47, 61, 63, 94, 95, 123, 124, 125, 126, 96]
theorem signs2_same (b : UInt8) : signs2.contains b = signsL.contains b := by
  have key : ∀ n : Fin 256, signs2.contains (UInt8.ofNat n) = signsL.contains (UInt8.ofNat n) := by decide +kernel
  have := key ⟨b.toNat, b.toNat_lt⟩
  simpa using this
theorem not_upto {l : List UInt8} {b : UInt8} (h : ∀ j, j < l.length → l.getD j 0 ≠ b) : l.contains b = false := by
  rw [Bool.eq_false_iff]
  intro hc
  rw [List.contains_iff_mem] at hc
  obtain ⟨j, hj, e⟩ := List.getElem_of_mem hc
  refine h j hj ?_
  rw [getD_str l j hj, e]
theorem is_at {l : List UInt8} {b : UInt8} {j : Nat} (hj : j < l.length) (h : l.getD j 0 = b) : l.contains b = true := by
  rw [List.contains_iff_mem, ← h, getD_str l j hj]
  exact List.getElem_mem hj

set_option maxHeartbeats 1000000 in
theorem rsign_any (b : UInt8) (w : World) : Calls Tryz.prog 127 #[.int .u8 (b.toNat : Int)] w fun e w' => e = .returned (.bool (signC b)) ∧ w = w' := by
  obtain ⟨c, hc⟩ : ∃ c, b.toNat = c := ⟨_, rfl⟩
  have hsg : signC b = (alnC b || signs2.contains b) := by rw [signs2_same]; rfl
  have ha := alnC_nat hc
  by_cases hP : (97 ≤ c ∧ c ≤ 122) ∨ (65 ≤ c ∧ c ≤ 90) ∨ (48 ≤ c ∧ c ≤ 57)
  · have HF := Lib.hid (show signC b = true by rw [hsg, ha, decide_eq_true hP]; rfl)
    rw [hc]
    clear hc ha hsg
    rcases hP with ⟨h, h'⟩ | ⟨h, h'⟩ | ⟨h, h'⟩
    all_goals
      go_enter Tryz.func127, Tryz.ntmps127
      go_wp2
      go_ret
      rw [HF.out]
      exact ⟨rfl, rfl⟩
  · have HF := Lib.hid (show signC b = signs2.contains b by rw [hsg, ha, decide_eq_false hP]; rfl)
    have HB := Lib.hid hc
    rw [hc]
    clear hc ha hsg
    rcases (show c < 48 ∨ (57 < c ∧ c < 65) ∨ (90 < c ∧ c < 97) ∨ 122 < c by omega) with h | ⟨h, h'⟩ | ⟨h, h'⟩ | h
    all_goals
      clear hP
      go_enter Tryz.func127, Tryz.ntmps127
      go_wp2_with fail
      go_loop [4] (fun i => ∃ k : Nat, k ≤ 19 ∧ i = .int .i64 k ∧ ∀ j, j < k → signs2.getD j 0 ≠ b) (fun i => 19 - (intOf i).toNat)
      case atStart => exact ⟨0, Nat.zero_le _, rfl, fun j hj => absurd hj (by omega)⟩
      case round =>
        obtain ⟨k, hk, rfl, ha⟩ := hrel
        have HA := Lib.hid ha
        clear ha
        by_cases hlt : k < 19
        · obtain ⟨m, hm⟩ : ∃ m, (signs2.getD k 0).toNat = m := ⟨_, rfl⟩
          have hcs : (((str signs2)[k]'(by simpa [ByteArray.size, signs2] using hlt)).toNat) = m := by rw [str_getD signs2 k (by simpa [signs2] using hlt), hm]
          have HM := Lib.hid hm
          clear hm
          unfold str signs2 at hcs
          by_cases he : m = c
          · have HT := Lib.hid (show signC b = true by
              rw [HF.out]
              exact is_at (j := k) (by simpa [signs2] using hlt) (UInt8.toNat_inj.1 (by rw [HM.out, HB.out, he])))
            have e1 : ((m : Int) == (c : Int)) = true := by rw [he]; simp
            clear he
            go_wp2_with fail
            go_ret
            rw [HT.out]
            exact ⟨rfl, rfl⟩
          · have HN := Lib.hid (show ∀ j, j < k + 1 → signs2.getD j 0 ≠ b by
              intro j hj
              by_cases ej : j = k
              · rw [ej]; rintro e2; exact he (by rw [← HM.out, e2, HB.out])
              · exact HA.out j (by omega))
            have e1 : ((m : Int) == (c : Int)) = false := by rw [beq_eq_false_iff_ne]; omega
            clear he
            go_wp2_with fail
            go_round
            case rel => exact ⟨k + 1, by omega, by go_num, HN.out⟩
            case measure => simp [intOf]; omega
        · obtain rfl : k = 19 := by omega
          have HT := Lib.hid (show signC b = false by rw [HF.out]; exact not_upto (l := signs2) HA.out)
          go_wp2_with fail
          go_ret
          rw [HT.out]
          exact ⟨rfl, rfl⟩

/-! ### atoms -/
theorem atomsF_cons (st : Bool) (c : UInt8) (t : List UInt8) : atomsF st (c :: t) = ((signC c || (st && c == 46)) && atomsF (signC c) t) := rfl
theorem signC_dot : signC 46 = false := by decide
theorem atomsF_last : ∀ {l : List UInt8} (st : Bool), l.getLast? = some 46 → atomsF st l = false
  | [], st, h => by simp at h
  | [c], st, h => by
    simp only [List.getLast?_singleton, Option.some.injEq] at h
    subst h
    rw [atomsF_cons, signC_dot]; simp [atomsF]
  | c :: d :: t, st, h => by
    rw [List.getLast?_cons_cons] at h
    rw [atomsF_cons, atomsF_last _ h]; simp
/-- How far the reference's atoms has come: byte k is next. -/
def AtomsAt (s : List UInt8) (k : Nat) : Prop := (k = 0 ∨ (0 < k ∧ (s.getD (k - 1) 0 = 46 ∨ signC (s.getD (k - 1) 0) = true))) ∧ atomsL s = atomsF (decide (0 < k) && signC (s.getD (k - 1) 0)) (s.drop k)
theorem atomsAt_zero (s : List UInt8) : AtomsAt s 0 := ⟨.inl rfl, rfl⟩
theorem atomsAt_drop {s : List UInt8} {k : Nat} (h : AtomsAt s k) (hk : k < s.length) : atomsL s = ((signC (s.getD k 0) || ((decide (0 < k) && signC (s.getD (k - 1) 0)) && s.getD k 0 == 46)) && atomsF (signC (s.getD k 0)) (s.drop (k + 1))) := by
  rw [h.2, List.drop_eq_getElem_cons hk, ← getD_str s k hk, atomsF_cons]
theorem atomsAt_sign {s : List UInt8} {k : Nat} (h : AtomsAt s k) (hk : k < s.length) (hc : signC (s.getD k 0) = true) : AtomsAt s (k + 1) := by
  have := atomsAt_drop h hk
  rw [hc] at this
  exact ⟨.inr ⟨by omega, .inr (by simpa using hc)⟩, by rw [this]; simp; rw [show signC (s[k]?.getD 0) = true by simpa [List.getD_eq_getElem?_getD] using hc]⟩
theorem atomsAt_none {s : List UInt8} {k : Nat} (h : AtomsAt s k) (hk : k < s.length) (hc : signC (s.getD k 0) = false) (hd : s.getD k 0 ≠ 46) : atomsL s = false := by
  have := atomsAt_drop h hk
  have h2 : (s.getD k 0 == 46) = false := by simpa using hd
  rw [hc, h2] at this
  simpa using this
theorem atomsAt_dot {s : List UInt8} {k : Nat} (h : AtomsAt s k) (hk : k < s.length) (h0 : 0 < k) (hc : s.getD k 0 = 46) (hp : s.getD (k - 1) 0 ≠ 46) : AtomsAt s (k + 1) := by
  have hsg : signC (s.getD (k - 1) 0) = true := by
    rcases h.1 with h | ⟨_, h | h⟩
    · omega
    · exact absurd h hp
    · exact h
  have := atomsAt_drop h hk
  rw [hc, hsg, decide_eq_true h0, signC_dot] at this
  refine ⟨.inr ⟨by omega, .inl hc⟩, ?_⟩
  rw [this, show s.getD (k + 1 - 1) 0 = 46 from hc, signC_dot]
  simp
theorem atomsAt_dots {s : List UInt8} {k : Nat} (h : AtomsAt s k) (hk : k < s.length) (hc : s.getD k 0 = 46) (hp : s.getD (k - 1) 0 = 46) : atomsL s = false := by
  have := atomsAt_drop h hk
  rw [hc, hp, signC_dot] at this
  simpa using this
theorem atomsAt_end {s : List UInt8} (h : AtomsAt s s.length) (h0 : 0 < s.length) (hl : s.getD (s.length - 1) 0 ≠ 46) : atomsL s = true := by
  rw [h.2, List.drop_length, decide_eq_true h0]
  rcases h.1 with h | ⟨_, h | h⟩
  · omega
  · exact absurd h hl
  · rw [h]; rfl

set_option maxHeartbeats 2000000 in
theorem ratoms_any (s : List UInt8) (w : World) (hs : s.length ≤ 1000000) : Calls Tryz.prog 78 #[sv s] w fun e w' => e = .returned (.bool (atomsL s)) ∧ w = w' := by
  cases s with
  | nil =>
    go_enter Tryz.func78, Tryz.ntmps78
    go_wp2_with fail
    go_ret
    exact ⟨rfl, rfl⟩
  | cons x0 t0 =>
    obtain ⟨s, hs'⟩ : ∃ s, s = x0 :: t0 := ⟨_, rfl⟩
    have hp : 0 < s.length := by rw [hs']; simp
    have h0 : s.isEmpty = false := by rw [hs']; rfl
    have hhead : s.getD 0 0 = x0 := by rw [hs']; rfl
    have hF0 : x0 = 46 → atomsL s = false := by rintro rfl; rw [hs']; show atomsF false (46 :: t0) = false; rw [atomsF_cons, signC_dot]; simp
    rw [← hs'] at hs ⊢
    clear hs'
    obtain ⟨a, ha⟩ : ∃ a, x0.toNat = a := ⟨_, rfl⟩
    have has : (((str s)[0]'(by simpa [ByteArray.size] using hp)).toNat) = a := by rw [str_getD s 0 hp, hhead, ha]
    have hzl : s.length - 1 < s.length := by omega
    obtain ⟨z, hz⟩ : ∃ z, (s.getD (s.length - 1) 0).toNat = z := ⟨_, rfl⟩
    have hzs : (((str s)[s.length - 1]'(by simpa [ByteArray.size] using hzl)).toNat) = z := by rw [str_getD s _ hzl, hz]
    by_cases a46 : a = 46
    · have HF := Lib.hid (hF0 (UInt8.toNat_inj.1 (by rw [ha, a46]; rfl)))
      have e46 : ((a : Int) == 46) = true := by rw [a46]; rfl
      clear hF0 ha hz a46 hhead
      go_enter Tryz.func78, Tryz.ntmps78
      go_wp2_with fail
      go_ret
      rw [HF.out]
      exact ⟨rfl, rfl⟩
    have ea : ((a : Int) == 46) = false := by rw [beq_eq_false_iff_ne]; omega
    have H0 := Lib.hid (show s.getD 0 0 ≠ 46 by rw [hhead]; rintro e; rw [e] at ha; exact a46 ha.symm)
    clear hF0 ha a46 hhead
    by_cases z46 : z = 46
    · have HF := Lib.hid (show atomsL s = false by
        refine atomsF_last false ?_
        rw [List.getLast?_eq_getElem?, List.getElem?_eq_getElem hzl, ← getD_str s _ hzl]
        exact congrArg some (UInt8.toNat_inj.1 (by rw [hz, z46]; rfl)))
      have e46 : ((z : Int) == 46) = true := by rw [z46]; rfl
      clear hz z46
      go_enter Tryz.func78, Tryz.ntmps78
      go_wp2_with fail
      go_ret
      rw [HF.out]
      exact ⟨rfl, rfl⟩
    have ez : ((z : Int) == 46) = false := by rw [beq_eq_false_iff_ne]; omega
    have HZ := Lib.hid (show s.getD (s.length - 1) 0 ≠ 46 by rintro e; rw [e] at hz; exact z46 hz.symm)
    clear hz z46
    go_enter Tryz.func78, Tryz.ntmps78
    go_wp2_with fail
    clear has hzs ea ez
    go_loop [3] (fun i => ∃ k : Nat, k ≤ s.length ∧ i = .int .i64 k ∧ AtomsAt s k) (fun i => s.length - (intOf i).toNat)
    case atStart => exact ⟨0, Nat.zero_le _, rfl, atomsAt_zero s⟩
    case round =>
      obtain ⟨k, hk, rfl, hat⟩ := hrel
      have HA := Lib.hid hat
      clear hat
      by_cases hlt : k < s.length
      · obtain ⟨b, hb⟩ : ∃ b, s.getD k 0 = b := ⟨_, rfl⟩
        obtain ⟨c, hc⟩ : ∃ c, b.toNat = c := ⟨_, rfl⟩
        have hcs : (((str s)[k]'(by simpa [ByteArray.size] using hlt)).toNat) = b.toNat := by rw [str_getD s k hlt, hb]
        by_cases c46 : b = 46
        · have hk0 : 0 < k := by
            rcases Nat.eq_zero_or_pos k with h | h
            · subst h; exact absurd (hb.trans c46) H0.out
            · exact h
          have hp1 : k - 1 < s.length := by omega
          obtain ⟨p, hpp⟩ : ∃ p, (s.getD (k - 1) 0).toNat = p := ⟨_, rfl⟩
          have hps : (((str s)[k - 1]'(by simpa [ByteArray.size] using hp1)).toNat) = p := by rw [str_getD s _ hp1, hpp]
          have HC := Lib.hid (hb.trans c46)
          have hcs2 : (((str s)[k]'(by simpa [ByteArray.size] using hlt)).toNat) = 46 := by rw [hcs, c46]; rfl
          clear hcs hb c46
          by_cases p46 : p = 46
          · have HF := Lib.hid (atomsAt_dots HA.out hlt HC.out (UInt8.toNat_inj.1 (by rw [hpp, p46]; rfl)))
            have e46 : ((p : Int) == 46) = true := by rw [p46]; rfl
            clear hpp p46
            go_wp2_with fail
            go_ret
            rw [HF.out]
            exact ⟨rfl, rfl⟩
          · have HN := Lib.hid (atomsAt_dot HA.out hlt hk0 HC.out (by rintro e; rw [e] at hpp; exact p46 hpp.symm))
            have e46 : ((p : Int) == 46) = false := by rw [beq_eq_false_iff_ne]; omega
            clear hpp p46
            go_wp2_with fail
            go_round
            case rel => exact ⟨k + 1, by omega, by go_num, HN.out⟩
            case measure => simp [intOf]; omega
        · have en : ((b.toNat : Int) == 46) = false := by
            rw [beq_eq_false_iff_ne]; intro e; exact c46 (UInt8.toNat_inj.1 (by have : (46 : UInt8).toNat = 46 := rfl; omega))
          have en2 : ((b.toNat : Int) != 46) = true := by rw [bne, en]; rfl
          cases hsg : signC b with
          | true =>
            have HN := Lib.hid (atomsAt_sign HA.out hlt (by rw [hb]; exact hsg))
            have HG := Lib.hid hsg
            clear hsg hb hc c46
            go_wp2_with (go_at_call 127; refine (rsign_any b _).mono ?_; rintro e w' ⟨rfl, rfl⟩; rw [HG.out])
            go_round
            case rel => exact ⟨k + 1, by omega, by go_num, HN.out⟩
            case measure => simp [intOf]; omega
          | false =>
            have HF := Lib.hid (atomsAt_none HA.out hlt (by rw [hb]; exact hsg) (by rw [hb]; exact c46))
            have HG := Lib.hid hsg
            clear hsg hb hc c46
            go_wp2_with (go_at_call 127; refine (rsign_any b _).mono ?_; rintro e w' ⟨rfl, rfl⟩; rw [HG.out])
            go_ret
            rw [HF.out]
            exact ⟨rfl, rfl⟩
      · obtain rfl : k = s.length := by omega
        have HF := Lib.hid (atomsAt_end HA.out hp HZ.out)
        go_wp2_with fail
        go_ret
        rw [HF.out]
        exact ⟨rfl, rfl⟩

/-! ### quoted -/
theorem quotF_cons (m : Bool) (c : UInt8) (t : List UInt8) : quotF m (c :: t) = ((grC c && (m || c != 34)) && quotF (c == 92 && !m) t) := rfl
theorem drop_at {t : List UInt8} {k : Nat} (hk : k < t.length) : t.drop k = t.getD k 0 :: t.drop (k + 1) := by rw [List.drop_eq_getElem_cons hk, ← getD_str t k hk]
theorem quot_mark_end {t : List UInt8} {k : Nat} (hk : k + 1 = t.length) (hb : t.getD k 0 = 92) : quotF false (t.drop k) = false := by
  rw [drop_at (by omega), hb, List.drop_of_length_le (by omega)]; decide
theorem quot_mark {t : List UInt8} {k : Nat} (hk : k + 1 < t.length) (hb : t.getD k 0 = 92) : quotF false (t.drop k) = (grC (t.getD (k + 1) 0) && quotF false (t.drop (k + 2))) := by
  rw [drop_at (by omega), hb, drop_at (show k + 1 < t.length by omega), quotF_cons, quotF_cons]
  rw [show (grC 92 && (false || (92 : UInt8) != 34)) = true by decide, show ((92 : UInt8) == 92 && !false) = true by decide]
  simp
theorem quot_quote {t : List UInt8} {k : Nat} (hk : k < t.length) (hb : t.getD k 0 = 34) : quotF false (t.drop k) = false := by
  rw [drop_at hk, hb, quotF_cons]; simp
theorem quot_other {t : List UInt8} {k : Nat} (hk : k < t.length) (h1 : t.getD k 0 ≠ 92) (h2 : t.getD k 0 ≠ 34) : quotF false (t.drop k) = (grC (t.getD k 0) && quotF false (t.drop (k + 1))) := by
  rw [drop_at hk, quotF_cons]
  have e1 : (t.getD k 0 == 92) = false := by simpa using h1
  have e2 : (t.getD k 0 != 34) = true := by simpa using h2
  rw [e1, e2]; simp

theorem run_slice_both (s : List UInt8) (i j : Nat) (hi : i ≤ j) (hj : j ≤ s.length) (w : World) :
    (Instr.slice 9 (sv s) (some (.int .i64 (i : Int))) (some (.int .i64 (j : Int))) none).run Tryz.prog w = .ok (.string ((str s).extract i j)) w := by
  have hji : (i : Int) ≤ (j : Int) := by omega
  have hjs : (j : Int) ≤ (s.length : Int) := by omega
  go_simp
/-- What stands between the first byte and the last one. -/
theorem run_slice_mid (s t : List UInt8) (E : (str s).extract 1 (s.length - 1) = str t) (h2 : 2 ≤ s.length) (w : World) :
    (Instr.slice 9 (sv s) (some (.int .i64 1)) (some (.int .i64 ((s.length : Int) - 1))) none).run Tryz.prog w = .ok (sv t) w := by
  have := run_slice_both s 1 (s.length - 1) (by omega) (by omega) w
  rw [E, show ((s.length - 1 : Nat) : Int) = (s.length : Int) - 1 by omega] at this
  exact this

set_option maxHeartbeats 4000000 in
theorem rquoted_in (t : List UInt8) (s : List UInt8) (hst : s = 34 :: (t ++ [34])) (w : World) (hs : s.length ≤ 1000000) : Calls Tryz.prog 79 #[sv s] w fun e w' => e = .returned (.bool (quotedL s)) ∧ w = w' := by
  have HQ := Lib.hid (show quotedL s = quotF false t by rw [hst]; exact quoted_in t)
  have HSL := Lib.hid (show s.length = t.length + 2 by rw [hst]; simp)
  have h2 : 2 ≤ s.length := by have := HSL.out; omega
  have ht : t.length ≤ 1000000 := by have := HSL.out; omega
  have hz : s.length - 1 < s.length := by omega
  have has : (((str s)[0]'(by simp [ByteArray.size]; omega)).toNat) = 34 := by rw [str_getD s 0 (by omega), hst]; rfl
  have hzs : (((str s)[s.length - 1]'(by simpa [ByteArray.size] using hz)).toNat) = 34 := by rw [str_getD s _ hz, hst]; simp
  have E := Lib.hid (show (str s).extract 1 (s.length - 1) = str t by rw [str_extract, hst]; simp)
  have hcut := run_slice_mid s t E.out h2
  clear hst
  go_enter Tryz.func79, Tryz.ntmps79
  go_wp2_with fail
  clear has hzs hcut
  go_loop [4] (fun i => ∃ k : Nat, k ≤ t.length ∧ i = .int .i64 k ∧ quotedL s = quotF false (t.drop k)) (fun i => t.length - (intOf i).toNat)
  case atStart => exact ⟨0, Nat.zero_le _, rfl, HQ.out⟩
  case round =>
    obtain ⟨k, hk, rfl, hat⟩ := hrel
    have HA := Lib.hid hat
    clear hat
    by_cases hlt : k < t.length
    · obtain ⟨b, hb⟩ : ∃ b, t.getD k 0 = b := ⟨_, rfl⟩
      obtain ⟨c, hc⟩ : ∃ c, b.toNat = c := ⟨_, rfl⟩
      have hcs : (((str t)[k]'(by simpa [ByteArray.size] using hlt)).toNat) = c := by rw [str_getD t k hlt, hb, hc]
      by_cases c92 : c = 92
      · have HB := Lib.hid (show t.getD k 0 = 92 by rw [hb]; exact UInt8.toNat_inj.1 (by rw [hc, c92]; rfl))
        have e92 : ((c : Int) == 92) = true := by rw [c92]; rfl
        clear hb hc c92
        by_cases hl2 : k + 1 < t.length
        · obtain ⟨d, hd⟩ : ∃ d, t.getD (k + 1) 0 = d := ⟨_, rfl⟩
          obtain ⟨x, hx⟩ : ∃ x, d.toNat = x := ⟨_, rfl⟩
          have hds : (((str t)[k + 1]'(by simpa [ByteArray.size] using hl2)).toNat) = x := by rw [str_getD t _ hl2, hd, hx]
          have hq := (HA.out).trans (quot_mark hl2 HB.out)
          rw [hd, grC_nat hx] at hq
          have HQ2 := Lib.hid hq
          clear hq hd hx
          rcases (show x < 32 ∨ (32 ≤ x ∧ x ≤ 126) ∨ 126 < x by omega) with h | ⟨h, h'⟩ | h
          · have HF := Lib.hid (show quotedL s = false by rw [HQ2.out, decide_eq_false (by omega)]; rfl)
            go_wp2_with fail
            go_ret
            rw [HF.out]
            exact ⟨rfl, rfl⟩
          · have HN := Lib.hid (show quotedL s = quotF false (t.drop (k + 2)) by rw [HQ2.out, decide_eq_true ⟨h, h'⟩]; rfl)
            go_wp2_with fail
            go_round
            case rel => exact ⟨k + 2, by omega, by go_num, HN.out⟩
            case measure => simp [intOf]; omega
          · have HF := Lib.hid (show quotedL s = false by rw [HQ2.out, decide_eq_false (by omega)]; rfl)
            go_wp2_with fail
            go_ret
            rw [HF.out]
            exact ⟨rfl, rfl⟩
        · have HF := Lib.hid (show quotedL s = false by rw [HA.out]; exact quot_mark_end (by omega) HB.out)
          have hge : t.length ≤ k + 1 := by omega
          clear hl2
          go_wp2_with fail
          go_ret
          rw [HF.out]
          exact ⟨rfl, rfl⟩
      have e92 : ((c : Int) == 92) = false := by rw [beq_eq_false_iff_ne]; omega
      have hn92 : t.getD k 0 ≠ 92 := by rw [hb]; rintro e; rw [e] at hc; exact c92 hc.symm
      by_cases c34 : c = 34
      · have HF := Lib.hid (show quotedL s = false by rw [HA.out]; exact quot_quote hlt (by rw [hb]; exact UInt8.toNat_inj.1 (by rw [hc, c34]; rfl)))
        have e34 : ((c : Int) == 34) = true := by rw [c34]; rfl
        clear hb hc c92 c34 hn92
        go_wp2_with fail
        go_ret
        rw [HF.out]
        exact ⟨rfl, rfl⟩
      have e34 : ((c : Int) == 34) = false := by rw [beq_eq_false_iff_ne]; omega
      have hn34 : t.getD k 0 ≠ 34 := by rw [hb]; rintro e; rw [e] at hc; exact c34 hc.symm
      have hq := (HA.out).trans (quot_other hlt hn92 hn34)
      rw [hb, grC_nat hc] at hq
      have HQ2 := Lib.hid hq
      clear hq hb hc c92 c34 hn92 hn34
      rcases (show c < 32 ∨ (32 ≤ c ∧ c ≤ 126) ∨ 126 < c by omega) with h | ⟨h, h'⟩ | h
      · have HF := Lib.hid (show quotedL s = false by rw [HQ2.out, decide_eq_false (by omega)]; rfl)
        go_wp2_with fail
        go_ret
        rw [HF.out]
        exact ⟨rfl, rfl⟩
      · have HN := Lib.hid (show quotedL s = quotF false (t.drop (k + 1)) by rw [HQ2.out, decide_eq_true ⟨h, h'⟩]; rfl)
        go_wp2_with fail
        go_round
        case rel => exact ⟨k + 1, by omega, by go_num, HN.out⟩
        case measure => simp [intOf]; omega
      · have HF := Lib.hid (show quotedL s = false by rw [HQ2.out, decide_eq_false (by omega)]; rfl)
        go_wp2_with fail
        go_ret
        rw [HF.out]
        exact ⟨rfl, rfl⟩
    · obtain rfl : k = t.length := by omega
      have HF := Lib.hid (show quotedL s = true by rw [HA.out, List.drop_length]; rfl)
      go_wp2_with fail
      go_ret
      rw [HF.out]
      exact ⟨rfl, rfl⟩

set_option maxHeartbeats 1000000 in
theorem rquoted_any (s : List UInt8) (w : World) (hs : s.length ≤ 1000000) : Calls Tryz.prog 79 #[sv s] w fun e w' => e = .returned (.bool (quotedL s)) ∧ w = w' := by
  by_cases h2 : s.length < 2
  · have HF := Lib.hid (show quotedL s = false by unfold quotedL; rw [decide_eq_false (by omega : ¬ 2 ≤ s.length)]; simp)
    go_enter Tryz.func79, Tryz.ntmps79
    go_wp2_with fail
    go_ret
    rw [HF.out]
    exact ⟨rfl, rfl⟩
  have hsl : 2 ≤ s.length := by omega
  clear h2
  have hz : s.length - 1 < s.length := by omega
  obtain ⟨a, ha⟩ : ∃ a, (s.getD 0 0).toNat = a := ⟨_, rfl⟩
  have has : (((str s)[0]'(by simp [ByteArray.size]; omega)).toNat) = a := by rw [str_getD s 0 (by omega), ha]
  obtain ⟨z, hzz⟩ : ∃ z, (s.getD (s.length - 1) 0).toNat = z := ⟨_, rfl⟩
  have hzs : (((str s)[s.length - 1]'(by simpa [ByteArray.size] using hz)).toNat) = z := by rw [str_getD s _ hz, hzz]
  by_cases a34 : a = 34
  · by_cases z34 : z = 34
    · rcases marks s 34 34 with ⟨h, _⟩ | ⟨t, rfl, _, h, _⟩ | ⟨t, rfl, _, _⟩
      · exfalso
        cases s with
        | nil => simp at hsl
        | cons x t => exact h (by simp only [List.head?_cons]; exact congrArg some (UInt8.toNat_inj.1 (by have : x.toNat = a := ha; rw [this, a34]; rfl)))
      · exfalso
        refine h ?_
        have ht : 0 < t.length := by simp at hsl; omega
        rw [List.getLast?_eq_getElem?, List.getElem?_eq_getElem (by omega)]
        refine congrArg some (UInt8.toNat_inj.1 ?_)
        rw [z34] at hzz
        rw [← getD_str t _ (by omega)]
        have e : (34 :: t).getD ((34 :: t).length - 1) 0 = t.getD (t.length - 1) 0 := by
          rw [List.length_cons, Nat.add_sub_cancel]
          conv => lhs; rw [show t.length = (t.length - 1) + 1 by omega]
          rfl
        rw [e] at hzz
        exact hzz
      · exact rquoted_in t _ rfl w hs
    · have HF := Lib.hid (show quotedL s = false by
        have : (s.getLast? == some 34) = false := by
          rw [beq_eq_false_iff_ne, List.getLast?_eq_getElem?, List.getElem?_eq_getElem hz, ← getD_str s _ hz]
          intro e
          simp only [Option.some.injEq] at e
          rw [e] at hzz; exact z34 hzz.symm
        unfold quotedL; rw [this]; simp)
      have ea : ((a : Int) != 34) = false := by rw [a34]; rfl
      have ez : ((z : Int) != 34) = true := by rw [bne_iff_ne]; omega
      clear ha hzz a34 z34
      go_enter Tryz.func79, Tryz.ntmps79
      go_wp2_with fail
      go_ret
      rw [HF.out]
      exact ⟨rfl, rfl⟩
  · have HF := Lib.hid (show quotedL s = false by
      refine quoted_no1 fun e => ?_
      cases s with
      | nil => simp at e
      | cons x t =>
        simp only [List.head?_cons, Option.some.injEq] at e
        rw [e] at ha; exact a34 ha.symm)
    have ea : ((a : Int) != 34) = true := by rw [bne_iff_ne]; omega
    clear ha hzz a34
    go_enter Tryz.func79, Tryz.ntmps79
    go_wp2_with fail
    go_ret
    rw [HF.out]
    exact ⟨rfl, rfl⟩
end Go.Proofs.YtbmjmiioobgbfaaGreatDoor
