/-
  The contracts of the reference's Cut, May, Labels.
-/
import Derived.Test.YtoinicmhkfomjaaGreatDoorNRLab
import Derived.Outline
namespace Go.Proofs.YtoinicmhkfomjaaGreatDoor
set_option linter.unusedSimpArgs false
set_option linter.unusedVariables false
open Go Go.RowKit
set_option maxRecDepth 100000

theorem info_str : (Tryz.prog.info? 9).map (fun i => (i.zero, i.size, i.bytes)) = some (some (.string ⟨#[]⟩), 1, 16) := by kernel_rfl

/-- In a world behind w0, v is a row of the call's own that holds these texts. -/
def GT (w0 : World) (v : Value) (xs : List (List UInt8)) (w : World) : Prop := GV 9 w0 v (xs.map sv) w
theorem GT.nil (w : World) : GT w (.slice none 0 0) [] w := GV.nil _ _
theorem GT.below {w0 w : World} {v : Value} {xs : List (List UInt8)} (h : GT w0 v xs w) : Below w0.heap.size w0 w := h.1
theorem GT.form {w0 w : World} {v : Value} {xs : List (List UInt8)} (h : GT w0 v xs w) : ∃ A c, v = .slice A xs.length c := by have := GV.form h; simpa using this
theorem GT.behind {w0 w w' : World} {v : Value} {xs : List (List UInt8)} (h : GT w0 v xs w) (hb : Below w.heap.size w w') : GT w0 v xs w' := GV.behind h hb
theorem GT.first {w0 w1 w : World} {v : Value} {xs : List (List UInt8)} (h : GT w1 v xs w) (hb : Below w0.heap.size w0 w1) : GT w0 v xs w := by
  obtain ⟨h1, h2⟩ := h
  refine ⟨hb.trans (h1.mono hb.size), h2.1, ?_⟩
  rcases h2.2 with h | ⟨g, cap, cur, e1, e2, e3⟩
  · exact .inl h
  · exact .inr ⟨g, cap, cur, e1, Nat.le_trans hb.size e2, e3⟩
theorem GT.cell {w0 w : World} {A : Option Addr} {n c : Nat} {xs : List (List UInt8)} (h : GT w0 (.slice A n c) xs w) (hp : 0 < xs.length) :
    ∃ g, A = some ⟨g, 0, none⟩ ∧ w0.heap.size ≤ g ∧ g < w.heap.size ∧ (∀ j, j < xs.length → w.cell? ⟨g, j, none⟩ = some (sv (xs.getD j []))) ∧ ∀ j, j < xs.length → w.frozen? ⟨g, j, none⟩ = false := by
  obtain ⟨g, rfl, h1, h2, _⟩ := GV.cell h 0 (by simpa using hp)
  refine ⟨g, rfl, h1, h2, fun j hj => ?_, fun j hj => ?_⟩
  · obtain ⟨g', e, _, _, hc⟩ := GV.cell h j (by simpa using hj)
    obtain rfl : g = g' := by simpa using e
    rw [hc]
    simp [List.getElem?_eq_getElem hj]
  · obtain ⟨_, hw⟩ := h
    rcases hw.2 with ⟨h, _⟩ | ⟨g', cap', cur, e1, _, e2, _⟩
    · cases h
    · obtain ⟨rfl, _, _⟩ : g = g' ∧ _ ∧ _ := by simpa using e1
      exact freeAt e2 j

theorem gt_append {w0 w1 : World} {v : Value} {xs : List (List UInt8)} (h : GT w0 v xs w1) (hlen : xs.length ≤ 1000000000)
    {ops : Array Oper} {rest : List Oper} {o : Oper} {a : Act} {Q : Exit → Act → World → Prop} (x : List UInt8) (C : Array Value) (hC : C.toList = [sv x])
    (s y : Operand) (hgd : o.guard = none) (ho : o.op = .call { callee := .builtin .append, args := #[s, y], argTypes := #[25, 25] }) (hs : a.eval s = v) (c : Nat) (hx : a.eval y = .slice (some ⟨w1.heap.size, 0, none⟩) 1 c)
    (k : ∀ g cap w', GT w0 (.slice (some ⟨g, 0, none⟩) (xs.length + 1) cap) (xs ++ [x]) w' → wpList Tryz.prog ops Q rest (a.put o.dst (.slice (some ⟨g, 0, none⟩) (xs.length + 1) cap)) w') :
    wpList Tryz.prog ops Q (o :: rest) a (w1.alloc (.cells C 9)) := by
  refine gv_append Tryz.underlying25 info_str rfl h (by decide) (by simpa using hlen) [sv x] C hC (by simp) (by simp [Value.oneCell']) s y hgd ho hs c (by simpa using hx) fun g cap w' hg => ?_
  have := k g cap w' (by unfold GT; simpa using hg)
  simpa using this

/-- How far the reference's Cut has come: at byte i, a part begun at byte f. -/
def CutAt (s : List UInt8) (i f : Nat) (done : List (List UInt8)) : Prop :=
  (i ≤ s.length ∧ f ≤ i ∧ cutD s = done ++ cutD (s.drop f) ∧ ∀ c ∈ (s.take i).drop f, c ≠ 46) ∨ (i = s.length + 1 ∧ done = cutD s)

theorem cutAt_len {s : List UInt8} {i f : Nat} {done : List (List UInt8)} (h : CutAt s i f done) : done.length ≤ s.length + 1 := by
  have hl := cutD_len s
  rcases h with ⟨_, _, h, _⟩ | ⟨_, h⟩
  · rw [h, List.length_append] at hl; omega
  · rw [h]; exact hl

theorem cutAt_skip {s : List UInt8} {i f : Nat} {done : List (List UInt8)} (h : CutAt s i f done) (hi : i < s.length) (hc : s.getD i 0 ≠ 46) : CutAt s (i + 1) f done := by
  rcases h with ⟨h1, h2, h3, h4⟩ | ⟨h, _⟩
  · refine .inl ⟨by omega, by omega, h3, fun c hcm => ?_⟩
    rw [List.take_succ_eq_append_getElem hi, List.drop_append_of_le_length (by simp; omega)] at hcm
    rcases List.mem_append.1 hcm with hcm | hcm
    · exact h4 c hcm
    · obtain rfl : c = s[i] := by simpa using hcm
      rw [← getD_str s i hi]; exact hc
  · omega

theorem drop_split {s : List UInt8} {i f : Nat} (hf : f ≤ i) (hi : i < s.length) (hc : s.getD i 0 = 46) : s.drop f = (s.take i).drop f ++ 46 :: s.drop (i + 1) := by
  have h1 : s = s.take i ++ s.drop i := (List.take_append_drop i s).symm
  have h2 : s.drop i = 46 :: s.drop (i + 1) := by rw [List.drop_eq_getElem_cons hi, ← getD_str s i hi, hc]
  conv => lhs; rw [h1]
  rw [List.drop_append_of_le_length (by simp; omega), h2]

theorem cutAt_dot {s : List UInt8} {i f : Nat} {done : List (List UInt8)} (h : CutAt s i f done) (hi : i < s.length) (hc : s.getD i 0 = 46) : CutAt s (i + 1) (i + 1) (done ++ [(s.take i).drop f]) := by
  rcases h with ⟨h1, h2, h3, h4⟩ | ⟨h, _⟩
  · refine .inl ⟨by omega, Nat.le_refl _, ?_, fun c hcm => ?_⟩
    · rw [h3, drop_split h2 hi hc, cutD_dot _ h4, List.append_assoc]; rfl
    · rw [List.drop_of_length_le (by simp; omega)] at hcm; cases hcm
  · omega

theorem cutAt_end {s : List UInt8} {f : Nat} {done : List (List UInt8)} (h : CutAt s s.length f done) : CutAt s (s.length + 1) (s.length + 1) (done ++ [(s.take s.length).drop f]) := by
  rcases h with ⟨h1, h2, h3, h4⟩ | ⟨h, _⟩
  · refine .inr ⟨rfl, ?_⟩
    rw [List.take_of_length_le (Nat.le_refl _)] at h4 ⊢
    rw [h3, cutD_plain h4]
  · omega

/-- What the reference's Cut leaves. -/
def RowPost (w : World) (xs : List (List UInt8)) (e : Ending) (w' : World) : Prop := ∃ v, e = .returned v ∧ GT w v xs w'

set_option maxHeartbeats 4000000 in
theorem rcut_any (s : List UInt8) (w : World) (hs : s.length ≤ 1000000) : Calls Tryz.prog 116 #[.string (str s)] w (RowPost w (cutD s)) := by
  have HG := Lib.hid (GT.nil w)
  go_enter Tryz.func116, Tryz.ntmps116
  go_wp2_with fail
  go_loopw [3, 4, 5] (fun v f i wr => ∃ (k j : Nat) (done : List (List UInt8)), k ≤ s.length + 1 ∧ j ≤ s.length + 1 ∧ i = .int .i64 k ∧ f = .int .i64 j ∧ CutAt s k j done ∧ GT w v done wr) (fun _ _ i _ => s.length + 1 - (intOf i).toNat)
  case atStart => exact ⟨0, 0, [], by omega, by omega, rfl, rfl, .inl ⟨Nat.zero_le _, Nat.le_refl _, by simp, by simp⟩, HG.out⟩
  case round =>
    obtain ⟨k, j, done, hk, hj, rfl, rfl, hat, hg⟩ := hrel
    have hdl := cutAt_len hat
    obtain ⟨A, cp, rfl⟩ := hg.form
    have HA := Lib.hid hat
    have HGk := Lib.hid hg
    clear hat hg
    by_cases hle : k ≤ s.length
    · have hjk : j ≤ k := by
        rcases HA.out with ⟨_, h, _⟩ | ⟨h, _⟩ <;> omega
      by_cases hlt : k < s.length
      · have hne : ((k : Int) == (s.length : Int)) = false := by rw [beq_eq_false_iff_ne]; omega
        obtain ⟨c, hc⟩ : ∃ c, (s.getD k 0).toNat = c := ⟨_, rfl⟩
        have hcs : (((str s)[k]'(by simpa [ByteArray.size] using hlt)).toNat) = c := by rw [str_getD s k hlt, hc]
        by_cases h46 : c = 46
        · have hd : s.getD k 0 = 46 := UInt8.toNat_inj.1 (by rw [hc, h46]; rfl)
          have HN := Lib.hid (cutAt_dot HA.out hlt hd)
          have e46 : ((c : Int) == 46) = true := by rw [h46]; rfl
          clear hc h46 hd
          go_wp2_with (first | (at_builtin; refine gt_append HGk.out (by omega) ((s.take k).drop j) _ ?hC (.tmp 22) (.tmp 27) rfl rfl rfl _ rfl ?_; rotate_left; intro g cap w' hg) | fail)
          case hC => simp [str_extract]
          refine ⟨⟨k + 1, k + 1, _, by omega, by omega, by go_num, by go_num, HN.out, hg⟩, ?_⟩
          simp [intOf]; omega
        · have HN := Lib.hid (cutAt_skip HA.out hlt (fun e => h46 (by rw [← hc, e]; rfl)))
          have e46 : ((c : Int) == 46) = false := by rw [beq_eq_false_iff_ne]; omega
          clear hc h46
          go_wp2
          go_roundw
          case rel => exact ⟨k + 1, j, done, by omega, by omega, by go_num, rfl, HN.out, HGk.out⟩
          case measure => simp [intOf]; omega
      · obtain rfl : k = s.length := by omega
        have hne : ((s.length : Int) == (s.length : Int)) = true := by simp
        have HN := Lib.hid (cutAt_end HA.out)
        go_wp2_with (first | (at_builtin; refine gt_append HGk.out (by omega) ((s.take s.length).drop j) _ ?hC (.tmp 22) (.tmp 27) rfl rfl rfl _ rfl ?_; rotate_left; intro g cap w' hg) | fail)
        case hC => simp [str_extract]
        refine ⟨⟨s.length + 1, s.length + 1, _, by omega, by omega, by go_num, by go_num, HN.out, hg⟩, ?_⟩
        simp [intOf]
    · obtain rfl : k = s.length + 1 := by omega
      have HD := Lib.hid (show done = cutD s by rcases HA.out with ⟨h, _⟩ | ⟨_, h⟩; · omega
                                                · exact h)
      have hgt : ¬ ((s.length : Int) + 1 ≤ s.length) := by omega
      go_wp2
      go_ret
      exact ⟨_, rfl, by rw [← HD.out]; exact HGk.out⟩

theorem getLastD_getD {l : List (List UInt8)} (_h : l ≠ []) : l.getLastD [] = l.getD (l.length - 1) [] := by
  rw [List.getD_eq_getElem?_getD, ← List.getLast?_eq_getElem?, List.getLastD_eq_getLast?]

theorem may_all {s : List UInt8} (h1 : s.length ≤ 253) (h2 : ((cutD s).getD ((cutD s).length - 1) []).all digC = false) : mayL s = (cutD s).all isLab := by
  unfold mayL
  rw [getLastD_getD (cutD_ne s), decide_eq_true h1]
  rw [← Bool.not_eq_true', List.not_all_eq_any_not] at h2
  rw [h2]; simp
theorem may_digits {s : List UInt8} (h2 : ((cutD s).getD ((cutD s).length - 1) []).all digC = true) : mayL s = false := by
  unfold mayL
  rw [getLastD_getD (cutD_ne s)]
  have : (!((cutD s).getD ((cutD s).length - 1) []).all digC) = false := by rw [h2]; rfl
  rw [List.not_all_eq_any_not] at this
  rw [this]; simp

theorem labs_next {l : List (List UInt8)} {k : Nat} (ha : ∀ j, j < k → isLab (l.getD j []) = true) (h : isLab (l.getD k []) = true) : ∀ j, j < k + 1 → isLab (l.getD j []) = true := by
  intro j hj
  by_cases e : j = k
  · rw [e]; exact h
  · exact ha j (by omega)
theorem labs_all {l : List (List UInt8)} (ha : ∀ j, j < l.length → isLab (l.getD j []) = true) : l.all isLab = true := by
  rw [List.all_eq_true]
  intro c hc
  obtain ⟨k, hk, rfl⟩ := List.getElem_of_mem hc
  have := ha k hk
  rwa [List.getD_eq_getElem?_getD, List.getElem?_eq_getElem hk] at this
theorem labs_not {l : List (List UInt8)} {k : Nat} (hk : k < l.length) (h : isLab (l.getD k []) = false) : l.all isLab = false := by
  rw [List.all_eq_false]
  refine ⟨l.getD k [], ?_, by rw [h]; simp⟩
  rw [List.getD_eq_getElem?_getD, List.getElem?_eq_getElem hk]
  exact List.getElem_mem hk

set_option maxHeartbeats 4000000 in
theorem rmay_any (s : List UInt8) (w : World) (hs : s.length ≤ 1000000) : Calls Tryz.prog 103 #[.string (str s)] w fun e w' => e = .returned (.bool (mayL s)) ∧ Below w.heap.size w w' := by
  by_cases h253 : 253 < s.length
  · have HF := Lib.hid (not_may_long h253)
    have e253 : decide (253 < (s.length : Int)) = true := decide_eq_true (by omega)
    go_enter Tryz.func103, Tryz.ntmps103
    go_wp2_with fail
    refine (rcut_any s w hs).mono ?_
    rintro e w1 ⟨v, rfl, hg⟩
    have HG := Lib.hid hg
    clear hg
    go_wp2_with fail
    go_ret
    rw [HF.out]
    exact ⟨rfl, HG.out.below⟩
  have h253' : s.length ≤ 253 := by omega
  have e253 : decide (253 < (s.length : Int)) = false := decide_eq_false (by omega)
  clear h253
  have hne := List.length_pos_iff.2 (cutD_ne s)
  have hle := cutD_len s
  obtain ⟨l, hl⟩ : ∃ l, l = cutD s := ⟨_, rfl⟩
  have hpart : ∀ k, k < l.length → (l.getD k []).length ≤ 1000000 := fun k hk => by
    have : l.getD k [] ∈ cutD s := by rw [← hl, List.getD_eq_getElem?_getD, List.getElem?_eq_getElem hk]; exact List.getElem_mem hk
    have := cutD_part _ s (Nat.le_refl _) this
    omega
  rw [← hl] at hne hle
  have HP := Lib.hid hpart
  have HL := Lib.hid hl
  clear hpart hl
  obtain ⟨z, hz⟩ : ∃ z, z = l.getD (l.length - 1) [] := ⟨_, rfl⟩
  have hzl : z.length ≤ 1000000 := by rw [hz]; exact HP.out _ (by omega)
  have HZ := Lib.hid hz
  clear hz
  cases hd : z.all digC with
  | true =>
    have HF := Lib.hid (may_digits (s := s) (by rw [← HL.out, ← HZ.out]; exact hd))
    have HD := Lib.hid hd
    clear hd
    go_enter Tryz.func103, Tryz.ntmps103
    go_wp2_with fail
    refine (rcut_any s w hs).mono ?_
    rintro e w1 ⟨v, rfl, hg⟩
    rw [← HL.out] at hg
    obtain ⟨A, cp, rfl⟩ := hg.form
    obtain ⟨g, rfl, _, _, hc, _⟩ := hg.cell hne
    have c0 := hc (l.length - 1) (by omega)
    rw [← HZ.out] at c0
    have HG := Lib.hid hg
    clear hg hc
    go_wp2_with fail
    refine (rdigits_any z _ hzl).mono ?_
    rintro e w2 ⟨rfl, rfl⟩
    rw [HD.out]
    go_wp2_with fail
    go_ret
    rw [HF.out]
    exact ⟨rfl, HG.out.below⟩
  | false =>
    have HF := Lib.hid (may_all (s := s) h253' (by rw [← HL.out, ← HZ.out]; exact hd))
    have HD := Lib.hid hd
    clear hd
    go_enter Tryz.func103, Tryz.ntmps103
    go_wp2_with fail
    refine (rcut_any s w hs).mono ?_
    rintro e w1 ⟨v, rfl, hg⟩
    rw [← HL.out] at hg
    obtain ⟨A, cp, rfl⟩ := hg.form
    obtain ⟨g, rfl, _, _, hc, _⟩ := hg.cell hne
    have c0 := hc (l.length - 1) (by omega)
    rw [← HZ.out] at c0
    have HG := Lib.hid hg
    have HC := Lib.hid hc
    clear hg hc
    go_wp2_with fail
    refine (rdigits_any z _ hzl).mono ?_
    rintro e w2 ⟨rfl, rfl⟩
    rw [HD.out]
    go_wp2_with fail
    go_loop [4] (fun i => ∃ k : Nat, k ≤ l.length ∧ i = .int .i64 k ∧ ∀ j, j < k → isLab (l.getD j []) = true) (fun i => l.length - (intOf i).toNat)
    case atStart => exact ⟨0, Nat.zero_le _, rfl, fun j hj => absurd hj (by omega)⟩
    case round =>
      obtain ⟨k, hk, rfl, ha⟩ := hrel
      have HA := Lib.hid ha
      clear ha c0
      by_cases hlt : k < l.length
      · have ck := HC.out k hlt
        obtain ⟨x, hx⟩ : ∃ x, x = l.getD k [] := ⟨_, rfl⟩
        have hxl : x.length ≤ 1000000 := by rw [hx]; exact HP.out _ hlt
        rw [← hx] at ck
        have HX := Lib.hid hx
        clear hx
        cases hlab : isLab x with
        | true =>
          have HU := Lib.hid (labs_next HA.out (by rw [← HX.out]; exact hlab))
          have HY := Lib.hid hlab
          clear hlab
          go_wp2_with fail
          refine (rlabel_any x _ hxl).mono ?_
          rintro e w2 ⟨rfl, rfl⟩
          rw [HY.out]
          go_wp2_with fail
          go_round
          case rel => exact ⟨k + 1, by omega, by go_num, HU.out⟩
          case measure => simp [intOf]; omega
        | false =>
          have HU := Lib.hid (labs_not hlt (by rw [← HX.out]; exact hlab))
          have HY := Lib.hid hlab
          clear hlab
          go_wp2_with fail
          refine (rlabel_any x _ hxl).mono ?_
          rintro e w2 ⟨rfl, rfl⟩
          rw [HY.out]
          go_wp2_with fail
          go_ret
          rw [HF.out, ← HL.out, HU.out]
          exact ⟨rfl, HG.out.below⟩
      · obtain rfl : k = l.length := by omega
        have HY := Lib.hid (labs_all HA.out)
        go_wp2
        go_ret
        rw [HF.out, ← HL.out, HY.out]
        exact ⟨rfl, HG.out.below⟩

end Go.Proofs.YtoinicmhkfomjaaGreatDoor
