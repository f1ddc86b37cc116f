/-
  The contracts of the reference's digit, letter, label, digits.
  The contracts of the reference's Cut, May, Labels.
  The contract of the reference's Labels.
-/
import Derived.Test.YtnaoandleelbkaaGreatDoorNPm
import Derived.Test.YtnaoandleelbkaaGreatDoorBase
import Derived.Outline
namespace Go.Proofs.YtnaoandleelbkaaGreatDoor
set_option linter.unusedSimpArgs false
set_option linter.unusedVariables false
open Go Go.RowKit
set_option maxRecDepth 100000

theorem rdigit_yes (c : Nat) (w : World) (h1 : 48 ≤ c) (h2 : c ≤ 57) : Calls Tryz.prog 203 #[.int .u8 (c : Int)] w fun e w' => e = .returned (.bool true) ∧ w = w' := by
  go_enter Tryz.func203, Tryz.ntmps203
  go_wp2
  go_ret
  exact ⟨by first | (simp; done) | (simp; omega), rfl⟩
theorem rdigit_no (c : Nat) (w : World) (h : c < 48 ∨ 57 < c) : Calls Tryz.prog 203 #[.int .u8 (c : Int)] w fun e w' => e = .returned (.bool false) ∧ w = w' := by
  rcases h with h | h
  all_goals
    go_enter Tryz.func203, Tryz.ntmps203
    go_wp2
    go_ret
    exact ⟨by first | (simp; done) | (simp; omega), rfl⟩
theorem rletter_yes (c : Nat) (w : World) (h1 : 97 ≤ c) (h2 : c ≤ 122) : Calls Tryz.prog 204 #[.int .u8 (c : Int)] w fun e w' => e = .returned (.bool true) ∧ w = w' := by
  go_enter Tryz.func204, Tryz.ntmps204
  go_wp2
  go_ret
  exact ⟨by first | (simp; done) | (simp; omega), rfl⟩
theorem rletter_no (c : Nat) (w : World) (h : c < 97 ∨ 122 < c) : Calls Tryz.prog 204 #[.int .u8 (c : Int)] w fun e w' => e = .returned (.bool false) ∧ w = w' := by
  rcases h with h | h
  all_goals
    go_enter Tryz.func204, Tryz.ntmps204
    go_wp2
    go_ret
    exact ⟨by first | (simp; done) | (simp; omega), rfl⟩

theorem digC_nat {b : UInt8} {c : Nat} (hc : b.toNat = c) : digC b = decide (48 ≤ c ∧ c ≤ 57) := by
  unfold digC
  rw [← hc, Bool.eq_iff_iff, Bool.and_eq_true, decide_eq_true_eq, decide_eq_true_eq, decide_eq_true_eq, UInt8.le_iff_toNat_le, UInt8.le_iff_toNat_le]
  exact Iff.rfl
theorem lowC_nat {b : UInt8} {c : Nat} (hc : b.toNat = c) : lowC b = decide (97 ≤ c ∧ c ≤ 122) := by
  unfold lowC
  rw [← hc, Bool.eq_iff_iff, Bool.and_eq_true, decide_eq_true_eq, decide_eq_true_eq, decide_eq_true_eq, UInt8.le_iff_toNat_le, UInt8.le_iff_toNat_le]
  exact Iff.rfl
theorem eq45_nat {b : UInt8} {c : Nat} (hc : b.toNat = c) : (b == 45) = decide (c = 45) := by
  rw [← hc, Bool.eq_iff_iff, beq_iff_eq, decide_eq_true_eq, ← UInt8.toNat_inj]
  exact Iff.rfl
theorem labC_nat {b : UInt8} {c : Nat} (hc : b.toNat = c) : labC b = (decide (97 ≤ c ∧ c ≤ 122) || decide (48 ≤ c ∧ c ≤ 57) || decide (c = 45)) := by
  unfold labC; rw [lowC_nat hc, digC_nat hc, eq45_nat hc]

theorem all_upto {l : List UInt8} {p : UInt8 → Bool} (h : ∀ j, j < l.length → p (l.getD j 0) = true) : l.all p = true := by
  rw [List.all_eq_true]
  intro c hc
  obtain ⟨k, hk, rfl⟩ := List.getElem_of_mem hc
  rw [← getD_str l k hk]; exact h k hk
theorem all_not {l : List UInt8} {p : UInt8 → Bool} {j : Nat} (hj : j < l.length) (h : p (l.getD j 0) = false) : l.all p = false := by
  rw [List.all_eq_false]
  exact ⟨l.getD j 0, by rw [getD_str l j hj]; exact List.getElem_mem hj, by rw [h]; simp⟩
theorem upto_next {l : List UInt8} {p : UInt8 → Bool} {k : Nat} (ha : ∀ j, j < k → p (l.getD j 0) = true) (h : p (l.getD k 0) = true) : ∀ j, j < k + 1 → p (l.getD j 0) = true := by
  intro j hj
  by_cases e : j = k
  · rw [e]; exact h
  · exact ha j (by omega)

set_option maxHeartbeats 1000000 in
theorem rdigits_any (l : List UInt8) (w : World) (hl : l.length ≤ 1000000) : Calls Tryz.prog 176 #[.string (str l)] w fun e w' => e = .returned (.bool (l.all digC)) ∧ w = w' := by
  go_enter Tryz.func176, Tryz.ntmps176
  go_wp2_with fail
  go_loop [3] (fun i => ∃ k : Nat, k ≤ l.length ∧ i = .int .i64 k ∧ ∀ j, j < k → digC (l.getD j 0) = true) (fun i => l.length - (intOf i).toNat)
  case atStart => exact ⟨0, Nat.zero_le _, rfl, fun j hj => absurd hj (by omega)⟩
  case round =>
    obtain ⟨k, hk, rfl, ha⟩ := hrel
    have HA := Lib.hid ha
    clear ha
    by_cases hlt : k < l.length
    · obtain ⟨c, hc⟩ : ∃ c, (l.getD k 0).toNat = c := ⟨_, rfl⟩
      have hcs : (((str l)[k]'(by simpa [ByteArray.size] using hlt)).toNat) = c := by rw [str_getD l k hlt, hc]
      by_cases h : 48 ≤ c ∧ c ≤ 57
      · have HU := Lib.hid (upto_next HA.out (by rw [digC_nat hc]; exact decide_eq_true h))
        obtain ⟨h1, h2⟩ := h
        clear hc
        go_wp2_with (go_at_call 203; refine (rdigit_yes _ _ h1 h2).mono ?_; rintro e w' ⟨rfl, rfl⟩)
        go_round
        case rel => exact ⟨k + 1, by omega, by go_num, HU.out⟩
        case measure => simp [intOf]; omega
      · have HF := Lib.hid (all_not (p := digC) hlt (by rw [digC_nat hc]; exact decide_eq_false h))
        have h' : c < 48 ∨ 57 < c := by omega
        have H' := Lib.hid h'
        clear hc h h'
        go_wp2_with (go_at_call 203; refine (rdigit_no _ _ H'.out).mono ?_; rintro e w' ⟨rfl, rfl⟩)
        go_ret
        rw [HF.out]
        exact ⟨rfl, rfl⟩
    · obtain rfl : k = l.length := by omega
      have HY := Lib.hid (all_upto HA.out)
      go_wp2
      go_ret
      rw [HY.out]
      exact ⟨rfl, rfl⟩

theorem head_getD (l : List UInt8) : l.headD 0 = l.getD 0 0 := by cases l <;> rfl
theorem last_getD (l : List UInt8) : l.getLastD 0 = l.getD (l.length - 1) 0 := by
  rw [List.getD_eq_getElem?_getD, ← List.getLast?_eq_getElem?, List.getLastD_eq_getLast?]

set_option maxHeartbeats 4000000 in
theorem rlabel_any (l : List UInt8) (w : World) (hl : l.length ≤ 1000000) : Calls Tryz.prog 177 #[.string (str l)] w fun e w' => e = .returned (.bool (isLab l)) ∧ w = w' := by
  by_cases h0 : l = []
  · subst h0
    go_enter Tryz.func177, Tryz.ntmps177
    go_wp2
    go_ret
    exact ⟨rfl, rfl⟩
  have hp : 0 < l.length := List.length_pos_iff.2 h0
  have hem : l.isEmpty = false := by simpa using h0
  have hn0 : ((l.length : Int) == 0) = false := by rw [beq_eq_false_iff_ne]; omega
  clear h0
  by_cases h63 : 63 < l.length
  · have HF := Lib.hid (show isLab l = false by unfold isLab; rw [hem, decide_eq_false (by omega)]; rfl)
    go_enter Tryz.func177, Tryz.ntmps177
    go_wp2
    go_ret
    rw [HF.out]
    exact ⟨rfl, rfl⟩
  have h63' : l.length ≤ 63 := by omega
  clear h63
  obtain ⟨a, ha⟩ : ∃ a, (l.getD 0 0).toNat = a := ⟨_, rfl⟩
  have has : (((str l)[0]'(by simpa [ByteArray.size] using hp)).toNat) = a := by rw [str_getD l 0 hp, ha]
  obtain ⟨z, hz⟩ : ∃ z, (l.getD (l.length - 1) 0).toNat = z := ⟨_, rfl⟩
  have hzl : l.length - 1 < l.length := by omega
  have hzs : (((str l)[l.length - 1]'(by simpa [ByteArray.size] using hzl)).toNat) = z := by rw [str_getD l _ hzl, hz]
  by_cases a45 : a = 45
  · have HF := Lib.hid (show isLab l = false by
      have : (l.headD 0 != 45) = false := by rw [head_getD, bne, eq45_nat ha, decide_eq_true a45]; rfl
      unfold isLab; rw [this]; simp)
    have e45 : ((a : Int) == 45) = true := by rw [a45]; rfl
    clear ha hz a45
    go_enter Tryz.func177, Tryz.ntmps177
    go_wp2
    go_ret
    rw [HF.out]
    exact ⟨rfl, rfl⟩
  have ea : ((a : Int) == 45) = false := by rw [beq_eq_false_iff_ne]; omega
  have A1 := Lib.hid (show (l.headD 0 != 45) = true by rw [head_getD, bne, eq45_nat ha, decide_eq_false a45]; rfl)
  clear ha a45
  by_cases z45 : z = 45
  · have HF := Lib.hid (show isLab l = false by
      have : (l.getLastD 0 != 45) = false := by rw [last_getD, bne, eq45_nat hz, decide_eq_true z45]; rfl
      unfold isLab; rw [this]; simp)
    have e45 : ((z : Int) == 45) = true := by rw [z45]; rfl
    clear hz z45
    go_enter Tryz.func177, Tryz.ntmps177
    go_wp2
    go_ret
    rw [HF.out]
    exact ⟨rfl, rfl⟩
  have ez : ((z : Int) == 45) = false := by rw [beq_eq_false_iff_ne]; omega
  have Z1 := Lib.hid (show (l.getLastD 0 != 45) = true by rw [last_getD, bne, eq45_nat hz, decide_eq_false z45]; rfl)
  clear hz z45
  have HN := Lib.hid (show isLab l = l.all labC by unfold isLab; rw [hem, decide_eq_true h63', A1.out, Z1.out]; simp)
  go_enter Tryz.func177, Tryz.ntmps177
  go_wp2_with fail
  go_loop [3] (fun i => ∃ k : Nat, k ≤ l.length ∧ i = .int .i64 k ∧ ∀ j, j < k → labC (l.getD j 0) = true) (fun i => l.length - (intOf i).toNat)
  case atStart => exact ⟨0, Nat.zero_le _, rfl, fun j hj => absurd hj (by omega)⟩
  case round =>
    obtain ⟨k, hk, rfl, ha⟩ := hrel
    have HA := Lib.hid ha
    clear ha
    by_cases hlt : k < l.length
    · obtain ⟨c, hc⟩ : ∃ c, (l.getD k 0).toNat = c := ⟨_, rfl⟩
      have hcs : (((str l)[k]'(by simpa [ByteArray.size] using hlt)).toNat) = c := by rw [str_getD l k hlt, hc]
      clear has hzs ea ez
      by_cases h : 48 ≤ c ∧ c ≤ 57
      · have HU := Lib.hid (upto_next HA.out (by rw [labC_nat hc, decide_eq_true h]; simp))
        obtain ⟨h1, h2⟩ := h
        clear hc
        go_wp2_with (go_at_call 203; refine (rdigit_yes _ _ h1 h2).mono ?_; rintro e w' ⟨rfl, rfl⟩)
        go_round
        case rel => exact ⟨k + 1, by omega, by go_num, HU.out⟩
        case measure => simp [intOf]; omega
      have h' : c < 48 ∨ 57 < c := by omega
      have HD := Lib.hid h'
      have hnd := Lib.hid (show decide (48 ≤ c ∧ c ≤ 57) = false from decide_eq_false h)
      clear h h'
      by_cases h : 97 ≤ c ∧ c ≤ 122
      · have HU := Lib.hid (upto_next HA.out (by rw [labC_nat hc, decide_eq_true h]; simp))
        obtain ⟨h1, h2⟩ := h
        clear hc
        go_wp2_with (first | (go_at_call 203; refine (rdigit_no _ _ HD.out).mono ?_; rintro e w' ⟨rfl, rfl⟩) | (go_at_call 204; refine (rletter_yes _ _ h1 h2).mono ?_; rintro e w' ⟨rfl, rfl⟩))
        go_round
        case rel => exact ⟨k + 1, by omega, by go_num, HU.out⟩
        case measure => simp [intOf]; omega
      have h' : c < 97 ∨ 122 < c := by omega
      have HL := Lib.hid h'
      have hnl := Lib.hid (show decide (97 ≤ c ∧ c ≤ 122) = false from decide_eq_false h)
      clear h h'
      by_cases h : c = 45
      · have HU := Lib.hid (upto_next HA.out (by rw [labC_nat hc, decide_eq_true h]; simp))
        have e1 : ((c : Int) != 45) = false := by rw [h]; rfl
        clear hc h
        go_wp2_with (first | (go_at_call 203; refine (rdigit_no _ _ HD.out).mono ?_; rintro e w' ⟨rfl, rfl⟩) | (go_at_call 204; refine (rletter_no _ _ HL.out).mono ?_; rintro e w' ⟨rfl, rfl⟩))
        go_round
        case rel => exact ⟨k + 1, by omega, by go_num, HU.out⟩
        case measure => simp [intOf]; omega
      · have HF := Lib.hid (all_not (p := labC) hlt (by rw [labC_nat hc, hnd.out, hnl.out, decide_eq_false h]; rfl))
        have e1 : ((c : Int) != 45) = true := by rw [bne_iff_ne]; omega
        clear hc h
        go_wp2_with (first | (go_at_call 203; refine (rdigit_no _ _ HD.out).mono ?_; rintro e w' ⟨rfl, rfl⟩) | (go_at_call 204; refine (rletter_no _ _ HL.out).mono ?_; rintro e w' ⟨rfl, rfl⟩))
        go_ret
        rw [HN.out, HF.out]
        exact ⟨rfl, rfl⟩
    · obtain rfl : k = l.length := by omega
      have HY := Lib.hid (all_upto HA.out)
      clear has hzs ea ez
      go_wp2
      go_ret
      rw [HN.out, HY.out]
      exact ⟨rfl, rfl⟩
end Go.Proofs.YtnaoandleelbkaaGreatDoor

namespace Go.Proofs.YtnaoandleelbkaaGreatDoor
set_option linter.unusedSimpArgs false
set_option linter.unusedVariables false
open Go Go.RowKit
set_option maxRecDepth 100000

theorem info_str : (Tryz.prog.info? 9).map (fun i => (i.zero, i.size, i.bytes)) = some (some (.string ⟨#[]⟩), 1, 16) := by kernel_rfl

/-- In a world behind w0, v is a row of the call's own that holds these texts. -/
def GT (w0 : World) (v : Value) (xs : List (List UInt8)) (w : World) : Prop := GV 9 w0 v (xs.map sv) w
theorem GT.nil (w : World) : GT w (.slice none 0 0) [] w := GV.nil _ _
theorem GT.below {w0 w : World} {v : Value} {xs : List (List UInt8)} (h : GT w0 v xs w) : Below w0.heap.size w0 w := h.1
theorem GT.form {w0 w : World} {v : Value} {xs : List (List UInt8)} (h : GT w0 v xs w) : ∃ A c, v = .slice A xs.length c := by have := GV.form h; simpa using this
theorem GT.behind {w0 w w' : World} {v : Value} {xs : List (List UInt8)} (h : GT w0 v xs w) (hb : Below w.heap.size w w') : GT w0 v xs w' := GV.behind h hb
theorem GT.first {w0 w1 w : World} {v : Value} {xs : List (List UInt8)} (h : GT w1 v xs w) (hb : Below w0.heap.size w0 w1) : GT w0 v xs w := by
  obtain ⟨h1, h2⟩ := h
  refine ⟨hb.trans (h1.mono hb.size), h2.1, ?_⟩
  rcases h2.2 with h | ⟨g, cap, cur, e1, e2, e3⟩
  · exact .inl h
  · exact .inr ⟨g, cap, cur, e1, Nat.le_trans hb.size e2, e3⟩
theorem GT.cell {w0 w : World} {A : Option Addr} {n c : Nat} {xs : List (List UInt8)} (h : GT w0 (.slice A n c) xs w) (hp : 0 < xs.length) :
    ∃ g, A = some ⟨g, 0, none⟩ ∧ w0.heap.size ≤ g ∧ g < w.heap.size ∧ (∀ j, j < xs.length → w.cell? ⟨g, j, none⟩ = some (sv (xs.getD j []))) ∧ ∀ j, j < xs.length → w.frozen? ⟨g, j, none⟩ = false := by
  obtain ⟨g, rfl, h1, h2, _⟩ := GV.cell h 0 (by simpa using hp)
  refine ⟨g, rfl, h1, h2, fun j hj => ?_, fun j hj => ?_⟩
  · obtain ⟨g', e, _, _, hc⟩ := GV.cell h j (by simpa using hj)
    obtain rfl : g = g' := by simpa using e
    rw [hc]
    simp [List.getElem?_eq_getElem hj]
  · obtain ⟨_, hw⟩ := h
    rcases hw.2 with ⟨h, _⟩ | ⟨g', cap', cur, e1, _, e2, _⟩
    · cases h
    · obtain ⟨rfl, _, _⟩ : g = g' ∧ _ ∧ _ := by simpa using e1
      exact freeAt e2 j

theorem gt_append {w0 w1 : World} {v : Value} {xs : List (List UInt8)} (h : GT w0 v xs w1) (hlen : xs.length ≤ 1000000000)
    {ops : Array Oper} {rest : List Oper} {o : Oper} {a : Act} {Q : Exit → Act → World → Prop} (x : List UInt8) (C : Array Value) (hC : C.toList = [sv x])
    (s y : Operand) (hgd : o.guard = none) (ho : o.op = .call { callee := .builtin .append, args := #[s, y], argTypes := #[25, 25] }) (hs : a.eval s = v) (c : Nat) (hx : a.eval y = .slice (some ⟨w1.heap.size, 0, none⟩) 1 c)
    (k : ∀ g cap w', GT w0 (.slice (some ⟨g, 0, none⟩) (xs.length + 1) cap) (xs ++ [x]) w' → wpList Tryz.prog ops Q rest (a.put o.dst (.slice (some ⟨g, 0, none⟩) (xs.length + 1) cap)) w') :
    wpList Tryz.prog ops Q (o :: rest) a (w1.alloc (.cells C 9)) := by
  refine gv_append Tryz.underlying25 info_str rfl h (by decide) (by simpa using hlen) [sv x] C hC (by simp) (by simp [Value.oneCell']) s y hgd ho hs c (by simpa using hx) fun g cap w' hg => ?_
  have := k g cap w' (by unfold GT; simpa using hg)
  simpa using this

/-- How far the reference's Cut has come: at byte i, a part begun at byte f. -/
def CutAt (s : List UInt8) (i f : Nat) (done : List (List UInt8)) : Prop :=
  (i ≤ s.length ∧ f ≤ i ∧ cutD s = done ++ cutD (s.drop f) ∧ ∀ c ∈ (s.take i).drop f, c ≠ 46) ∨ (i = s.length + 1 ∧ done = cutD s)

theorem cutAt_len {s : List UInt8} {i f : Nat} {done : List (List UInt8)} (h : CutAt s i f done) : done.length ≤ s.length + 1 := by
  have hl := cutD_len s
  rcases h with ⟨_, _, h, _⟩ | ⟨_, h⟩
  · rw [h, List.length_append] at hl; omega
  · rw [h]; exact hl

theorem cutAt_skip {s : List UInt8} {i f : Nat} {done : List (List UInt8)} (h : CutAt s i f done) (hi : i < s.length) (hc : s.getD i 0 ≠ 46) : CutAt s (i + 1) f done := by
  rcases h with ⟨h1, h2, h3, h4⟩ | ⟨h, _⟩
  · refine .inl ⟨by omega, by omega, h3, fun c hcm => ?_⟩
    rw [List.take_succ_eq_append_getElem hi, List.drop_append_of_le_length (by simp; omega)] at hcm
    rcases List.mem_append.1 hcm with hcm | hcm
    · exact h4 c hcm
    · obtain rfl : c = s[i] := by simpa using hcm
      rw [← getD_str s i hi]; exact hc
  · omega

theorem drop_split {s : List UInt8} {i f : Nat} (hf : f ≤ i) (hi : i < s.length) (hc : s.getD i 0 = 46) : s.drop f = (s.take i).drop f ++ 46 :: s.drop (i + 1) := by
  have h1 : s = s.take i ++ s.drop i := (List.take_append_drop i s).symm
  have h2 : s.drop i = 46 :: s.drop (i + 1) := by rw [List.drop_eq_getElem_cons hi, ← getD_str s i hi, hc]
  conv => lhs; rw [h1]
  rw [List.drop_append_of_le_length (by simp; omega), h2]

theorem cutAt_dot {s : List UInt8} {i f : Nat} {done : List (List UInt8)} (h : CutAt s i f done) (hi : i < s.length) (hc : s.getD i 0 = 46) : CutAt s (i + 1) (i + 1) (done ++ [(s.take i).drop f]) := by
  rcases h with ⟨h1, h2, h3, h4⟩ | ⟨h, _⟩
  · refine .inl ⟨by omega, Nat.le_refl _, ?_, fun c hcm => ?_⟩
    · rw [h3, drop_split h2 hi hc, cutD_dot _ h4, List.append_assoc]; rfl
    · rw [List.drop_of_length_le (by simp; omega)] at hcm; cases hcm
  · omega

theorem cutAt_end {s : List UInt8} {f : Nat} {done : List (List UInt8)} (h : CutAt s s.length f done) : CutAt s (s.length + 1) (s.length + 1) (done ++ [(s.take s.length).drop f]) := by
  rcases h with ⟨h1, h2, h3, h4⟩ | ⟨h, _⟩
  · refine .inr ⟨rfl, ?_⟩
    rw [List.take_of_length_le (Nat.le_refl _)] at h4 ⊢
    rw [h3, cutD_plain h4]
  · omega

/-- What the reference's Cut leaves. -/
def RowPost (w : World) (xs : List (List UInt8)) (e : Ending) (w' : World) : Prop := ∃ v, e = .returned v ∧ GT w v xs w'

set_option maxHeartbeats 4000000 in
theorem rcut_any (s : List UInt8) (w : World) (hs : s.length ≤ 1000000) : Calls Tryz.prog 175 #[.string (str s)] w (RowPost w (cutD s)) := by
  have HG := Lib.hid (GT.nil w)
  go_enter Tryz.func175, Tryz.ntmps175
  go_wp2_with fail
  go_loopw [3, 4, 5] (fun v f i wr => ∃ (k j : Nat) (done : List (List UInt8)), k ≤ s.length + 1 ∧ j ≤ s.length + 1 ∧ i = .int .i64 k ∧ f = .int .i64 j ∧ CutAt s k j done ∧ GT w v done wr) (fun _ _ i _ => s.length + 1 - (intOf i).toNat)
  case atStart => exact ⟨0, 0, [], by omega, by omega, rfl, rfl, .inl ⟨Nat.zero_le _, Nat.le_refl _, by simp, by simp⟩, HG.out⟩
  case round =>
    obtain ⟨k, j, done, hk, hj, rfl, rfl, hat, hg⟩ := hrel
    have hdl := cutAt_len hat
    obtain ⟨A, cp, rfl⟩ := hg.form
    have HA := Lib.hid hat
    have HGk := Lib.hid hg
    clear hat hg
    by_cases hle : k ≤ s.length
    · have hjk : j ≤ k := by
        rcases HA.out with ⟨_, h, _⟩ | ⟨h, _⟩ <;> omega
      by_cases hlt : k < s.length
      · have hne : ((k : Int) == (s.length : Int)) = false := by rw [beq_eq_false_iff_ne]; omega
        obtain ⟨c, hc⟩ : ∃ c, (s.getD k 0).toNat = c := ⟨_, rfl⟩
        have hcs : (((str s)[k]'(by simpa [ByteArray.size] using hlt)).toNat) = c := by rw [str_getD s k hlt, hc]
        by_cases h46 : c = 46
        · have hd : s.getD k 0 = 46 := UInt8.toNat_inj.1 (by rw [hc, h46]; rfl)
          have HN := Lib.hid (cutAt_dot HA.out hlt hd)
          have e46 : ((c : Int) == 46) = true := by rw [h46]; rfl
          clear hc h46 hd
          go_wp2_with (first | (at_builtin; refine gt_append HGk.out (by omega) ((s.take k).drop j) _ ?hC (.tmp 22) (.tmp 27) rfl rfl rfl _ rfl ?_; rotate_left; intro g cap w' hg) | fail)
          case hC => simp [str_extract]
          refine ⟨⟨k + 1, k + 1, _, by omega, by omega, by go_num, by go_num, HN.out, hg⟩, ?_⟩
          simp [intOf]; omega
        · have HN := Lib.hid (cutAt_skip HA.out hlt (fun e => h46 (by rw [← hc, e]; rfl)))
          have e46 : ((c : Int) == 46) = false := by rw [beq_eq_false_iff_ne]; omega
          clear hc h46
          go_wp2
          go_roundw
          case rel => exact ⟨k + 1, j, done, by omega, by omega, by go_num, rfl, HN.out, HGk.out⟩
          case measure => simp [intOf]; omega
      · obtain rfl : k = s.length := by omega
        have hne : ((s.length : Int) == (s.length : Int)) = true := by simp
        have HN := Lib.hid (cutAt_end HA.out)
        go_wp2_with (first | (at_builtin; refine gt_append HGk.out (by omega) ((s.take s.length).drop j) _ ?hC (.tmp 22) (.tmp 27) rfl rfl rfl _ rfl ?_; rotate_left; intro g cap w' hg) | fail)
        case hC => simp [str_extract]
        refine ⟨⟨s.length + 1, s.length + 1, _, by omega, by omega, by go_num, by go_num, HN.out, hg⟩, ?_⟩
        simp [intOf]
    · obtain rfl : k = s.length + 1 := by omega
      have HD := Lib.hid (show done = cutD s by rcases HA.out with ⟨h, _⟩ | ⟨_, h⟩; · omega
                                                · exact h)
      have hgt : ¬ ((s.length : Int) + 1 ≤ s.length) := by omega
      go_wp2
      go_ret
      exact ⟨_, rfl, by rw [← HD.out]; exact HGk.out⟩

theorem getLastD_getD {l : List (List UInt8)} (_h : l ≠ []) : l.getLastD [] = l.getD (l.length - 1) [] := by
  rw [List.getD_eq_getElem?_getD, ← List.getLast?_eq_getElem?, List.getLastD_eq_getLast?]

theorem may_all {s : List UInt8} (h1 : s.length ≤ 253) (h2 : ((cutD s).getD ((cutD s).length - 1) []).all digC = false) : mayL s = (cutD s).all isLab := by
  unfold mayL
  rw [getLastD_getD (cutD_ne s), decide_eq_true h1]
  rw [← Bool.not_eq_true', List.not_all_eq_any_not] at h2
  rw [h2]; simp
theorem may_digits {s : List UInt8} (h2 : ((cutD s).getD ((cutD s).length - 1) []).all digC = true) : mayL s = false := by
  unfold mayL
  rw [getLastD_getD (cutD_ne s)]
  have : (!((cutD s).getD ((cutD s).length - 1) []).all digC) = false := by rw [h2]; rfl
  rw [List.not_all_eq_any_not] at this
  rw [this]; simp

theorem labs_next {l : List (List UInt8)} {k : Nat} (ha : ∀ j, j < k → isLab (l.getD j []) = true) (h : isLab (l.getD k []) = true) : ∀ j, j < k + 1 → isLab (l.getD j []) = true := by
  intro j hj
  by_cases e : j = k
  · rw [e]; exact h
  · exact ha j (by omega)
theorem labs_all {l : List (List UInt8)} (ha : ∀ j, j < l.length → isLab (l.getD j []) = true) : l.all isLab = true := by
  rw [List.all_eq_true]
  intro c hc
  obtain ⟨k, hk, rfl⟩ := List.getElem_of_mem hc
  have := ha k hk
  rwa [List.getD_eq_getElem?_getD, List.getElem?_eq_getElem hk] at this
theorem labs_not {l : List (List UInt8)} {k : Nat} (hk : k < l.length) (h : isLab (l.getD k []) = false) : l.all isLab = false := by
  rw [List.all_eq_false]
  refine ⟨l.getD k [], ?_, by rw [h]; simp⟩
  rw [List.getD_eq_getElem?_getD, List.getElem?_eq_getElem hk]
  exact List.getElem_mem hk

set_option maxHeartbeats 4000000 in
theorem rmay_any (s : List UInt8) (w : World) (hs : s.length ≤ 1000000) : Calls Tryz.prog 133 #[.string (str s)] w fun e w' => e = .returned (.bool (mayL s)) ∧ Below w.heap.size w w' := by
  by_cases h253 : 253 < s.length
  · have HF := Lib.hid (not_may_long h253)
    have e253 : decide (253 < (s.length : Int)) = true := decide_eq_true (by omega)
    go_enter Tryz.func133, Tryz.ntmps133
    go_wp2_with fail
    refine (rcut_any s w hs).mono ?_
    rintro e w1 ⟨v, rfl, hg⟩
    have HG := Lib.hid hg
    clear hg
    go_wp2_with fail
    go_ret
    rw [HF.out]
    exact ⟨rfl, HG.out.below⟩
  have h253' : s.length ≤ 253 := by omega
  have e253 : decide (253 < (s.length : Int)) = false := decide_eq_false (by omega)
  clear h253
  have hne := List.length_pos_iff.2 (cutD_ne s)
  have hle := cutD_len s
  obtain ⟨l, hl⟩ : ∃ l, l = cutD s := ⟨_, rfl⟩
  have hpart : ∀ k, k < l.length → (l.getD k []).length ≤ 1000000 := fun k hk => by
    have : l.getD k [] ∈ cutD s := by rw [← hl, List.getD_eq_getElem?_getD, List.getElem?_eq_getElem hk]; exact List.getElem_mem hk
    have := cutD_part _ s (Nat.le_refl _) this
    omega
  rw [← hl] at hne hle
  have HP := Lib.hid hpart
  have HL := Lib.hid hl
  clear hpart hl
  obtain ⟨z, hz⟩ : ∃ z, z = l.getD (l.length - 1) [] := ⟨_, rfl⟩
  have hzl : z.length ≤ 1000000 := by rw [hz]; exact HP.out _ (by omega)
  have HZ := Lib.hid hz
  clear hz
  cases hd : z.all digC with
  | true =>
    have HF := Lib.hid (may_digits (s := s) (by rw [← HL.out, ← HZ.out]; exact hd))
    have HD := Lib.hid hd
    clear hd
    go_enter Tryz.func133, Tryz.ntmps133
    go_wp2_with fail
    refine (rcut_any s w hs).mono ?_
    rintro e w1 ⟨v, rfl, hg⟩
    rw [← HL.out] at hg
    obtain ⟨A, cp, rfl⟩ := hg.form
    obtain ⟨g, rfl, _, _, hc, _⟩ := hg.cell hne
    have c0 := hc (l.length - 1) (by omega)
    rw [← HZ.out] at c0
    have HG := Lib.hid hg
    clear hg hc
    go_wp2_with fail
    refine (rdigits_any z _ hzl).mono ?_
    rintro e w2 ⟨rfl, rfl⟩
    rw [HD.out]
    go_wp2_with fail
    go_ret
    rw [HF.out]
    exact ⟨rfl, HG.out.below⟩
  | false =>
    have HF := Lib.hid (may_all (s := s) h253' (by rw [← HL.out, ← HZ.out]; exact hd))
    have HD := Lib.hid hd
    clear hd
    go_enter Tryz.func133, Tryz.ntmps133
    go_wp2_with fail
    refine (rcut_any s w hs).mono ?_
    rintro e w1 ⟨v, rfl, hg⟩
    rw [← HL.out] at hg
    obtain ⟨A, cp, rfl⟩ := hg.form
    obtain ⟨g, rfl, _, _, hc, _⟩ := hg.cell hne
    have c0 := hc (l.length - 1) (by omega)
    rw [← HZ.out] at c0
    have HG := Lib.hid hg
    have HC := Lib.hid hc
    clear hg hc
    go_wp2_with fail
    refine (rdigits_any z _ hzl).mono ?_
    rintro e w2 ⟨rfl, rfl⟩
    rw [HD.out]
    go_wp2_with fail
    go_loop [4] (fun i => ∃ k : Nat, k ≤ l.length ∧ i = .int .i64 k ∧ ∀ j, j < k → isLab (l.getD j []) = true) (fun i => l.length - (intOf i).toNat)
    case atStart => exact ⟨0, Nat.zero_le _, rfl, fun j hj => absurd hj (by omega)⟩
    case round =>
      obtain ⟨k, hk, rfl, ha⟩ := hrel
      have HA := Lib.hid ha
      clear ha c0
      by_cases hlt : k < l.length
      · have ck := HC.out k hlt
        obtain ⟨x, hx⟩ : ∃ x, x = l.getD k [] := ⟨_, rfl⟩
        have hxl : x.length ≤ 1000000 := by rw [hx]; exact HP.out _ hlt
        rw [← hx] at ck
        have HX := Lib.hid hx
        clear hx
        cases hlab : isLab x with
        | true =>
          have HU := Lib.hid (labs_next HA.out (by rw [← HX.out]; exact hlab))
          have HY := Lib.hid hlab
          clear hlab
          go_wp2_with fail
          refine (rlabel_any x _ hxl).mono ?_
          rintro e w2 ⟨rfl, rfl⟩
          rw [HY.out]
          go_wp2_with fail
          go_round
          case rel => exact ⟨k + 1, by omega, by go_num, HU.out⟩
          case measure => simp [intOf]; omega
        | false =>
          have HU := Lib.hid (labs_not hlt (by rw [← HX.out]; exact hlab))
          have HY := Lib.hid hlab
          clear hlab
          go_wp2_with fail
          refine (rlabel_any x _ hxl).mono ?_
          rintro e w2 ⟨rfl, rfl⟩
          rw [HY.out]
          go_wp2_with fail
          go_ret
          rw [HF.out, ← HL.out, HU.out]
          exact ⟨rfl, HG.out.below⟩
      · obtain rfl : k = l.length := by omega
        have HY := Lib.hid (labs_all HA.out)
        go_wp2
        go_ret
        rw [HF.out, ← HL.out, HY.out]
        exact ⟨rfl, HG.out.below⟩

end Go.Proofs.YtnaoandleelbkaaGreatDoor

namespace Go.Proofs.YtnaoandleelbkaaGreatDoor
set_option linter.unusedSimpArgs false
set_option linter.unusedVariables false
open Go Go.RowKit
set_option maxRecDepth 100000

theorem rlabels_any (s : List UInt8) (w : World) (hs : s.length ≤ 1000000) : Calls Tryz.prog 148 #[.string (str s)] w (RowPost w (labelsL s)) := by
  cases hm : mayL s with
  | false =>
    have HY := Lib.hid hm
    have HF := Lib.hid (show labelsL s = [] by unfold labelsL; rw [hm]; rfl)
    clear hm
    go_enter Tryz.func148, Tryz.ntmps148
    go_wp2_with fail
    refine (rmay_any s _ hs).mono ?_
    rintro e w2 ⟨rfl, hb⟩
    rw [HY.out]
    have HB := Lib.hid hb
    clear hb
    go_wp2_with fail
    go_ret
    rw [HF.out]
    exact ⟨_, rfl, (GT.nil w2).first HB.out⟩
  | true =>
    have HY := Lib.hid hm
    have HF := Lib.hid (show labelsL s = cutD s by unfold labelsL; rw [hm]; rfl)
    clear hm
    go_enter Tryz.func148, Tryz.ntmps148
    go_wp2_with fail
    refine (rmay_any s _ hs).mono ?_
    rintro e w2 ⟨rfl, hb⟩
    rw [HY.out]
    have HB := Lib.hid hb
    clear hb
    go_wp2_with fail
    refine (rcut_any s _ hs).mono ?_
    rintro e w3 ⟨v, rfl, hg⟩
    have HG := Lib.hid (hg.first HB.out)
    obtain ⟨A, cp, rfl⟩ := hg.form
    clear hg
    go_wp2_with fail
    go_ret
    rw [HF.out]
    exact ⟨_, rfl, HG.out⟩
end Go.Proofs.YtnaoandleelbkaaGreatDoor
