/-
  The contracts of package addr's May, isEnd, Path, Unpath, Show, Same.
-/
import Derived.Test.YtbmjmiioobgbfaaGreatDoorAPars
namespace Go.Proofs.YtbmjmiioobgbfaaGreatDoor
set_option linter.unusedSimpArgs false
set_option linter.unusedVariables false
open Go Go.RowKit Go.Shelf
set_option maxRecDepth 100000

theorem may_amay (s : List UInt8) (w : World) (hs : s.length ≤ 1000000) (hM : ML w) : Calls Tryz.prog 38 #[sv s] w fun e w' => e = .returned (.bool (amayL s)) ∧ Below w.heap.size w w' := by
  cases hp : parseL s with
  | none =>
    have HF := Lib.hid (show amayL s = false by unfold amayL; rw [hp]; rfl)
    have HP := Lib.hid hp
    clear hp
    go_enter Tryz.func38, Tryz.ntmps38
    go_wp2_with fail
    refine (parse_any s _ hs hM).mono ?_
    rintro e w1 ⟨rfl, hb⟩
    rw [HP.out]
    have HB := Lib.hid hb
    clear hb
    unfold parseV
    go_wp2_with fail
    go_ret
    rw [HF.out]
    exact ⟨rfl, HB.out⟩
  | some p =>
    obtain ⟨a, d⟩ := p
    have HF := Lib.hid (show amayL s = true by unfold amayL; rw [hp]; rfl)
    have HP := Lib.hid hp
    clear hp
    go_enter Tryz.func38, Tryz.ntmps38
    go_wp2_with fail
    refine (parse_any s _ hs hM).mono ?_
    rintro e w1 ⟨rfl, hb⟩
    rw [HP.out]
    have HB := Lib.hid hb
    clear hb
    unfold parseV
    go_wp2_with fail
    go_ret
    rw [HF.out]
    exact ⟨rfl, HB.out⟩

theorem isEnd_any (s : List UInt8) (w : World) (hs : s.length ≤ 1000000) (hM : ML w) : Calls Tryz.prog 43 #[sv s] w fun e w' => e = .returned (.bool (endL s)) ∧ Below w.heap.size w w' := by
  cases s with
  | nil =>
    go_enter Tryz.func43, Tryz.ntmps43
    go_wp2_with fail
    go_ret
    exact ⟨rfl, Below.refl _ _⟩
  | cons x t =>
    obtain ⟨s, hs'⟩ : ∃ s, s = x :: t := ⟨_, rfl⟩
    have HF := Lib.hid (show endL s = amayL s by rw [hs']; rfl)
    have h0 : s.isEmpty = false := by rw [hs']; rfl
    rw [← hs'] at hs ⊢
    clear hs'
    go_enter Tryz.func43, Tryz.ntmps43
    go_wp2_with fail
    refine (may_amay s _ hs hM).mono ?_
    rintro e w1 ⟨rfl, hb⟩
    have HB := Lib.hid hb
    clear hb
    go_wp2_with fail
    go_ret
    rw [HF.out]
    exact ⟨rfl, HB.out⟩

theorem path_text (s : List UInt8) : ({ data := #[60] } : ByteArray) ++ str s ++ { data := #[62] } = str (60 :: (s ++ [62])) := by
  apply ByteArray.ext
  simp [str, ByteArray.data_append]

theorem path_any (s : List UInt8) (w : World) (hs : s.length ≤ 1000000) (hM : ML w) : Calls Tryz.prog 39 #[sv s] w fun e w' => e = .returned (sv (pathL s)) ∧ Below w.heap.size w w' := by
  cases hp : endL s with
  | true =>
    have HF := Lib.hid (show pathL s = 60 :: (s ++ [62]) by unfold pathL; rw [hp]; rfl)
    have HP := Lib.hid hp
    clear hp
    go_enter Tryz.func39, Tryz.ntmps39
    go_wp2_with fail
    refine (isEnd_any s _ hs hM).mono ?_
    rintro e w1 ⟨rfl, hb⟩
    rw [HP.out]
    have HB := Lib.hid hb
    clear hb
    go_wp2_with fail
    go_ret
    rw [HF.out]
    exact ⟨by rw [path_text]; rfl, HB.out⟩
  | false =>
    have HF := Lib.hid (show pathL s = [] by unfold pathL; rw [hp]; rfl)
    have HP := Lib.hid hp
    clear hp
    go_enter Tryz.func39, Tryz.ntmps39
    go_wp2_with fail
    refine (isEnd_any s _ hs hM).mono ?_
    rintro e w1 ⟨rfl, hb⟩
    rw [HP.out]
    have HB := Lib.hid hb
    clear hb
    go_wp2_with fail
    go_ret
    rw [HF.out]
    exact ⟨rfl, HB.out⟩

def unpathV (r : Option (List UInt8)) : Value := match r with
  | some q => .tuple #[sv q, .int .i64 0]
  | none => .tuple #[sv [], .int .i64 4]
theorem unpath_no1 {s : List UInt8} (h : s.head? ≠ some 60) : unpathL s = none := by
  unfold unpathL
  have : (s.head? == some 60) = false := by simpa using h
  rw [this]; rfl
theorem unpath_no2 {t : List UInt8} (h : t.getLast? ≠ some 62) : unpathL (60 :: t) = none := by
  cases t with
  | nil => rfl
  | cons x u =>
    unfold unpathL
    have : ((60 :: x :: u).getLast? == some 62) = false := by
      rw [List.getLast?_cons_cons]; simpa using h
    rw [this]; simp
theorem unpath_in (t : List UInt8) : unpathL (60 :: (t ++ [62])) = if endL t then some t else none := by
  unfold unpathL
  simp [List.getLast?_cons]

set_option maxHeartbeats 1000000 in
theorem unpath_any (s : List UInt8) (w : World) (hs : s.length ≤ 1000000) (hM : ML w) : Calls Tryz.prog 37 #[sv s] w fun e w' => e = .returned (unpathV (unpathL s)) ∧ Below w.heap.size w w' := by
  have HM := Lib.hid hM
  clear hM
  rcases marks s 60 62 with ⟨h, hp⟩ | ⟨t, rfl, hp, h, hq⟩ | ⟨t, rfl, hp, hq⟩
  · have HF := Lib.hid (unpath_no1 h)
    have HP := Lib.hid hp
    clear h hp
    obtain ⟨u, hu⟩ : ∃ u, u = sufV s 62 := ⟨_, rfl⟩
    have HU := Lib.hid hu
    clear hu
    have hsh : ∃ x b, u = .tuple #[sv x, .bool b] := ⟨_, _, HU.out⟩
    obtain ⟨x, b, rfl⟩ := hsh
    go_enter Tryz.func37, Tryz.ntmps37
    go_wp2_with fail
    refine (cutpre_any s 60 _).mono ?_
    rintro e w1 ⟨rfl, rfl⟩
    rw [HP.out]
    go_wp2_with fail
    refine (cutsuf_any s 62 _ (by omega)).mono ?_
    rintro e w1 ⟨rfl, rfl⟩
    rw [← HU.out]
    go_wp2_with fail
    go_ret2
    rw [HF.out]
    exact ⟨rfl, Below.refl _ _⟩
  · have HF := Lib.hid (unpath_no2 h)
    have HP := Lib.hid hp
    have HQ := Lib.hid hq
    have ht : t.length ≤ 1000000 := by simp at hs; omega
    obtain ⟨s, hs'⟩ : ∃ s, s = 60 :: t := ⟨_, rfl⟩
    rw [← hs'] at HF HP ⊢
    clear h hp hq hs hs'
    go_enter Tryz.func37, Tryz.ntmps37
    go_wp2_with fail
    refine (cutpre_any s 60 _).mono ?_
    rintro e w1 ⟨rfl, rfl⟩
    rw [HP.out]
    go_wp2_with fail
    refine (cutsuf_any t 62 _ (by omega)).mono ?_
    rintro e w1 ⟨rfl, rfl⟩
    rw [HQ.out]
    go_wp2_with fail
    go_ret2
    rw [HF.out]
    exact ⟨rfl, Below.refl _ _⟩
  · have HR := Lib.hid (unpath_in t)
    have HP := Lib.hid hp
    have HQ := Lib.hid hq
    have ht : t.length ≤ 1000000 := by simp at hs; omega
    have htl : (t ++ [62]).length ≤ 1000000 := by simp at hs ⊢; omega
    obtain ⟨s, hs'⟩ : ∃ s, s = 60 :: (t ++ [62]) := ⟨_, rfl⟩
    obtain ⟨v, hv'⟩ : ∃ v, v = t ++ [62] := ⟨_, rfl⟩
    rw [← hs'] at HR HP ⊢
    rw [← hv'] at HP HQ htl
    clear hp hq hs hs' hv'
    cases he : endL t with
    | false =>
      have HE := Lib.hid he
      have HF := Lib.hid (show unpathL s = none by rw [HR.out, he]; rfl)
      clear he
      go_enter Tryz.func37, Tryz.ntmps37
      go_wp2_with fail
      refine (cutpre_any s 60 _).mono ?_
      rintro e w1 ⟨rfl, rfl⟩
      rw [HP.out]
      go_wp2_with fail
      refine (cutsuf_any v 62 _ (by omega)).mono ?_
      rintro e w1 ⟨rfl, rfl⟩
      rw [HQ.out]
      go_wp2_with fail
      refine (isEnd_any t _ ht HM.out).mono ?_
      rintro e w2 ⟨rfl, hb⟩
      rw [HE.out]
      have HB := Lib.hid hb
      clear hb
      go_wp2_with fail
      go_ret2
      rw [HF.out]
      exact ⟨rfl, HB.out⟩
    | true =>
      have HE := Lib.hid he
      have HF := Lib.hid (show unpathL s = some t by rw [HR.out, he]; rfl)
      clear he
      go_enter Tryz.func37, Tryz.ntmps37
      go_wp2_with fail
      refine (cutpre_any s 60 _).mono ?_
      rintro e w1 ⟨rfl, rfl⟩
      rw [HP.out]
      go_wp2_with fail
      refine (cutsuf_any v 62 _ (by omega)).mono ?_
      rintro e w1 ⟨rfl, rfl⟩
      rw [HQ.out]
      go_wp2_with fail
      refine (isEnd_any t _ ht HM.out).mono ?_
      rintro e w2 ⟨rfl, hb⟩
      rw [HE.out]
      have HB := Lib.hid hb
      clear hb
      go_wp2_with fail
      refine (clone_any (str t) _ (by simp [ByteArray.size]; omega)).mono ?_
      rintro e w3 ⟨rfl, hb3⟩
      have HB3 := Lib.hid (HB.out.trans (hb3.mono HB.out.size))
      clear hb3
      go_wp2_with fail
      go_ret2
      rw [HF.out]
      exact ⟨rfl, HB3.out⟩

theorem show_text (a b : List UInt8) : str a ++ { data := #[64] } ++ str b = str (a ++ 64 :: b) := by
  apply ByteArray.ext
  simp [str, ByteArray.data_append]
/-- What Show asks: that something is parsed, and its domain. -/
theorem show_is (a b : List UInt8) : showL a b = match parseL (a ++ 64 :: b) with | some (_, d) => if d == b then a ++ 64 :: b else [] | none => [] := by
  unfold showL
  cases h : parseL (a ++ 64 :: b) with
  | none => simp
  | some p =>
    obtain ⟨l, d⟩ := p
    by_cases hd : d = b
    · subst hd
      obtain ⟨x, h1, h2, h3, h4⟩ := parse_some.1 h
      have hn : ∀ c ∈ d, c ≠ 64 := may_no_at (fold_is h4)
      have := (cutA_is (a := a) hn).symm.trans h1
      simp only [Option.some.injEq, Prod.mk.injEq] at this
      obtain ⟨rfl, rfl⟩ := this
      simp
    · have h1 : (d == b) = false := by simpa using hd
      simp only [h1, Bool.false_eq_true, if_false]
      rw [if_neg]
      intro e
      simp only [Option.some.injEq, Prod.mk.injEq] at e
      exact hd e.2

theorem parse_ne {s l d : List UInt8} (h : parseL s = some (l, d)) : l.isEmpty = false := by
  have := (localL_ne (parse_is h).1).1
  cases l with
  | nil => exact absurd rfl this
  | cons x t => rfl

end Go.Proofs.YtbmjmiioobgbfaaGreatDoor
