/-
  The contracts of package addr's Parse, May, isEnd, Path, Unpath, Show, Same.
-/
import Derived.Test.YtbmjmiioobgbfaaGreatDoorALocM
namespace Go.Proofs.YtbmjmiioobgbfaaGreatDoor
set_option linter.unusedSimpArgs false
set_option linter.unusedVariables false
open Go Go.RowKit Go.Shelf
set_option maxRecDepth 100000

def parseV (r : Option (List UInt8 × List UInt8)) : Value := match r with
  | some (a, d) => .tuple #[sv a, sv d, .int .i64 0]
  | none => .tuple #[sv [], sv [], .int .i64 4]

theorem data_getD (s : List UInt8) {j : Nat} (hj : j < s.length) : (str s).data[j]! = s.getD j 0 := by
  rw [getD_str s j hj]
  simp [hj]
theorem last_at {s : List UInt8} : Lib.lastIndexByte (str s) 64 = match cutA s with | some (a, _) => (a.length : Int) | none => -1 := by
  have hz : (str s).size = s.length := by simp [ByteArray.size]
  have h64 : (64 : UInt8).toNat = 64 := rfl
  unfold Lib.lastIndexByte
  rw [hz]
  rcases Lib.lastIdx_spec (str s) 64 s.length with ⟨h1, h2⟩ | ⟨i, hi, h1, h2, h3⟩
  · rw [h1]
    have : cutA s = none := cutA_none.2 fun c hc e => by
      obtain ⟨j, hj, rfl⟩ := List.getElem_of_mem hc
      refine h2 j hj ?_
      rw [data_getD s hj, getD_str s j hj, e]
      rfl
    rw [this]
  · rw [h1]
    have hb : s[i] = 64 := by
      rw [data_getD s hi, getD_str s i hi] at h2
      exact UInt8.toNat_inj.1 (by omega)
    have e : s = s.take i ++ 64 :: s.drop (i + 1) := by
      conv => lhs; rw [← List.take_append_drop i s, List.drop_eq_getElem_cons hi, hb]
    have hn : ∀ c ∈ s.drop (i + 1), c ≠ 64 := by
      intro c hc e
      obtain ⟨j, hj, rfl⟩ := List.getElem_of_mem hc
      rw [List.length_drop] at hj
      rw [List.getElem_drop] at e
      refine h3 (i + 1 + j) (by omega) (by omega) ?_
      rw [data_getD s (by omega), getD_str s _ (by omega), e]
      rfl
    have : cutA s = some (s.take i, s.drop (i + 1)) := cutA_some.2 ⟨e, hn⟩
    rw [this]
    simp; omega
theorem last_call (s : List UInt8) (w : World) (hs : s.length ≤ 1000000) : Calls Tryz.prog 70 #[sv s, .string { data := #[64] }] w fun e w' => e = .returned (.int .i64 (match cutA s with | some (a, _) => (a.length : Int) | none => -1)) ∧ w = w' := by
  have := Tryz.strings_LastIndex_one (str s) { data := #[64] } rfl (by simp [ByteArray.size]; omega) w
  refine this.mono fun _ _ ⟨h1, h2⟩ => ⟨?_, h2.symm⟩
  rw [h1, ← last_at]
  rfl
theorem hassuf_any (l : List UInt8) (c : UInt8) (w : World) (hl : l.length ≤ 140737488351232) : Calls Tryz.prog 72 #[sv l, .string ⟨#[c]⟩] w fun e w' => e = .returned (.bool (l.getLast? == some c)) ∧ w = w' := by
  have := Tryz.strings_HasSuffix (str l) ⟨#[c]⟩ w (by simp [ByteArray.size]; omega)
  have e1 : (str l).data.toList = l := by simp
  have e2 : (⟨#[c]⟩ : ByteArray).data.toList = [c] := rfl
  rw [e1, e2, has_suf] at this
  exact this.mono fun _ _ ⟨h1, h2⟩ => ⟨h1, h2.symm⟩

theorem parse_cut {s a b : List UInt8} (h : cutA s = some (a, b)) : parseL s = if localL a && !(s.getLast? == some 46) then (foldL b).map (fun d => (a, d)) else none := by unfold parseL; rw [h]
theorem cut_extract {s a b : List UInt8} (h : cutA s = some (a, b)) : (str s).extract 0 a.length = str a ∧ (str s).extract (a.length + 1) s.length = str b ∧ a.length + 1 + b.length = s.length := by
  obtain ⟨rfl, _⟩ := cutA_of h
  refine ⟨by rw [str_extract]; simp, ?_, by simp; omega⟩
  rw [str_extract, List.take_of_length_le (Nat.le_refl _)]
  congr 1
  rw [show a ++ 64 :: b = (a ++ [64]) ++ b by simp]
  exact List.drop_left' (by simp)

set_option maxHeartbeats 2000000 in
theorem parse_any (s : List UInt8) (w : World) (hs : s.length ≤ 1000000) (hM : ML w) : Calls Tryz.prog 36 #[sv s] w fun e w' => e = .returned (parseV (parseL s)) ∧ Below w.heap.size w w' := by
  have HM := Lib.hid hM
  clear hM
  cases hc : cutA s with
  | none =>
    have HF := Lib.hid (show parseL s = none by unfold parseL; rw [hc])
    have HC := Lib.hid hc
    clear hc
    go_enter Tryz.func36, Tryz.ntmps36
    go_wp2_with fail
    refine (last_call s _ hs).mono ?_
    rintro e w1 ⟨rfl, rfl⟩
    rw [HC.out]
    go_wp2_with fail
    refine bodyPost_ret (v := .tuple #[sv [], sv [], .int .i64 4]) (by simp [results, Tryz.results36, go_sem]) rfl ⟨by rw [HF.out]; rfl, Below.refl _ _⟩
  | some p =>
    obtain ⟨a, b⟩ := p
    obtain ⟨x1, x2, x3⟩ := cut_extract hc
    have HP := Lib.hid (parse_cut hc)
    have HC := Lib.hid hc
    have X1 := Lib.hid x1
    have X2 := Lib.hid x2
    have hal : a.length ≤ 1000000 := by omega
    have hbl : b.length ≤ 1000000 := by omega
    have has : a.length + 1 ≤ s.length := by omega
    obtain ⟨d, hd⟩ : ∃ d, d = (s.getLast? == some 46) := ⟨_, rfl⟩
    rw [← hd] at HP
    have HD := Lib.hid hd
    clear hc x1 x2 x3 hd
    cases hl : localL a with
    | false =>
      have HF := Lib.hid (show parseL s = none by rw [HP.out, hl]; rfl)
      have HL := Lib.hid hl
      clear hl
      go_enter Tryz.func36, Tryz.ntmps36
      go_wp2_with fail
      refine (last_call s _ hs).mono ?_
      rintro e w1 ⟨rfl, rfl⟩
      rw [HC.out]
      go_wp2_with fail
      rw [X1.out]
      refine (isLocal_any a _ (by omega)).mono ?_
      rintro e w1 ⟨rfl, hb⟩
      rw [HL.out]
      have HB := Lib.hid hb
      clear hb
      go_wp2_with fail
      refine bodyPost_ret (v := .tuple #[sv [], sv [], .int .i64 4]) (by simp [results, Tryz.results36, go_sem]) rfl ⟨by rw [HF.out]; rfl, HB.out⟩
    | true =>
      have HL := Lib.hid hl
      cases d with
      | true =>
        have HF := Lib.hid (show parseL s = none by rw [HP.out]; simp)
        clear hl
        go_enter Tryz.func36, Tryz.ntmps36
        go_wp2_with fail
        refine (last_call s _ hs).mono ?_
        rintro e w1 ⟨rfl, rfl⟩
        rw [HC.out]
        go_wp2_with fail
        rw [X1.out]
        refine (isLocal_any a _ (by omega)).mono ?_
        rintro e w1 ⟨rfl, hb⟩
        rw [HL.out]
        have HB := Lib.hid hb
        clear hb
        go_wp2_with fail
        refine (hassuf_any s 46 _ (by omega)).mono ?_
        rintro e w2 ⟨rfl, rfl⟩
        rw [← HD.out]
        go_wp2_with fail
        refine bodyPost_ret (v := .tuple #[sv [], sv [], .int .i64 4]) (by simp [results, Tryz.results36, go_sem]) rfl ⟨by rw [HF.out]; rfl, HB.out⟩
      | false =>
        have HP2 := Lib.hid (show parseL s = (foldL b).map (fun d => (a, d)) by rw [HP.out, hl]; rfl)
        clear hl HP
        cases hf : foldL b with
        | none =>
          have HF := Lib.hid hf
          clear hf
          go_enter Tryz.func36, Tryz.ntmps36
          go_wp2_with fail
          refine (last_call s _ hs).mono ?_
          rintro e w1 ⟨rfl, rfl⟩
          rw [HC.out]
          go_wp2_with fail
          rw [X1.out]
          refine (isLocal_any a _ (by omega)).mono ?_
          rintro e w1 ⟨rfl, hb⟩
          rw [HL.out]
          have HB := Lib.hid hb
          clear hb
          go_wp2_with fail
          refine (hassuf_any s 46 _ (by omega)).mono ?_
          rintro e w2 ⟨rfl, rfl⟩
          rw [← HD.out]
          go_wp2_with fail
          rw [X2.out]
          refine (fold_any b _ hbl (HM.out.step HB.out)).mono ?_
          rintro e w2 ⟨rfl, hb2⟩
          rw [HF.out]
          have HB2 := Lib.hid (HB.out.trans (hb2.mono HB.out.size))
          clear hb2
          unfold foldV
          go_wp2_with fail
          refine bodyPost_ret (v := .tuple #[sv [], sv [], .int .i64 4]) (by simp [results, Tryz.results36, go_sem]) rfl ⟨by rw [HP2.out, HF.out]; rfl, HB2.out⟩
        | some n =>
          have HF := Lib.hid hf
          clear hf
          go_enter Tryz.func36, Tryz.ntmps36
          go_wp2_with fail
          refine (last_call s _ hs).mono ?_
          rintro e w1 ⟨rfl, rfl⟩
          rw [HC.out]
          go_wp2_with fail
          rw [X1.out]
          refine (isLocal_any a _ (by omega)).mono ?_
          rintro e w1 ⟨rfl, hb⟩
          rw [HL.out]
          have HB := Lib.hid hb
          clear hb
          go_wp2_with fail
          refine (hassuf_any s 46 _ (by omega)).mono ?_
          rintro e w2 ⟨rfl, rfl⟩
          rw [← HD.out]
          go_wp2_with fail
          rw [X2.out]
          refine (fold_any b _ hbl (HM.out.step HB.out)).mono ?_
          rintro e w2 ⟨rfl, hb2⟩
          rw [HF.out]
          have HB2 := Lib.hid (HB.out.trans (hb2.mono HB.out.size))
          clear hb2
          unfold foldV
          go_wp2_with fail
          rw [X1.out]
          refine (clone_any (str a) _ (by simp [ByteArray.size]; omega)).mono ?_
          rintro e w3 ⟨rfl, hb3⟩
          have HB3 := Lib.hid (HB2.out.trans (hb3.mono HB2.out.size))
          clear hb3
          go_wp2_with fail
          refine bodyPost_ret (v := .tuple #[sv a, sv n, .int .i64 0]) (by simp [results, Tryz.results36, go_sem]) rfl ⟨by rw [HP2.out, HF.out]; rfl, HB3.out⟩
end Go.Proofs.YtbmjmiioobgbfaaGreatDoor
