/-
  The contracts of head.isName, head.isValue, head.Show.
-/
import Derived.Test.YtkffdhdhjfbhjaaDoorHLike
import Derived.Test.YtkffdhdhjfbhjaaDoorShelf
namespace Go.Proofs.YtkffdhdhjfbhjaaDoor
set_option linter.unusedSimpArgs false
set_option linter.unusedVariables false
open Go Go.RowKit Go.Shelf
set_option maxRecDepth 100000

theorem okN_no {b : UInt8} {x : Nat} (hx : b.toNat = x) (h : x ≤ 32 ∨ 126 < x ∨ x = 58) : okN b = false := by
  unfold okN
  rcases h with h | h | h
  · have : ¬ (32 < b) := by rw [UInt8.lt_iff_toNat_lt, hx]; show ¬ (32 < x); omega
    simp [this]
  · have : ¬ (b ≤ 126) := by rw [UInt8.le_iff_toNat_le, hx]; show ¬ (x ≤ 126); omega
    simp [this]
  · have : b = 58 := UInt8.toNat_inj.1 (by rw [hx, h]; rfl)
    simp [this]
theorem okN_yes {b : UInt8} {x : Nat} (hx : b.toNat = x) (h1 : 32 < x) (h2 : x ≤ 126) (h3 : x ≠ 58) : okN b = true := by
  unfold okN
  have a1 : 32 < b := by rw [UInt8.lt_iff_toNat_lt, hx]; exact h1
  have a2 : b ≤ 126 := by rw [UInt8.le_iff_toNat_le, hx]; exact h2
  have a3 : (b == 58) = false := by rw [beq_eq_false_iff_ne]; intro e; apply h3; rw [← hx, e]; rfl
  rw [decide_eq_true a1, decide_eq_true a2, a3]; rfl
theorem okV_no {b : UInt8} {x : Nat} (hx : b.toNat = x) (h0 : x ≠ 9) (h : x < 32 ∨ 126 < x) : okV b = false := by
  unfold okV
  have a3 : (b == 9) = false := by rw [beq_eq_false_iff_ne]; intro e; apply h0; rw [← hx, e]; rfl
  rw [a3]
  rcases h with h | h
  · have : ¬ (32 ≤ b) := by rw [UInt8.le_iff_toNat_le, hx]; show ¬ (32 ≤ x); omega
    simp [this]
  · have : ¬ (b ≤ 126) := by rw [UInt8.le_iff_toNat_le, hx]; show ¬ (x ≤ 126); omega
    simp [this]
theorem okV_yes {b : UInt8} {x : Nat} (hx : b.toNat = x) (h : x = 9 ∨ (32 ≤ x ∧ x ≤ 126)) : okV b = true := by
  unfold okV
  rcases h with h | ⟨h1, h2⟩
  · have : b = 9 := UInt8.toNat_inj.1 (by rw [hx, h]; rfl)
    rw [this]; rfl
  · have a1 : 32 ≤ b := by rw [UInt8.le_iff_toNat_le, hx]; exact h1
    have a2 : b ≤ 126 := by rw [UInt8.le_iff_toNat_le, hx]; exact h2
    rw [decide_eq_true a1, decide_eq_true a2]; simp
theorem all_no {p : UInt8 → Bool} {s : List UInt8} {k : Nat} (hk : k < s.length) (h : p (s.getD k 0) = false) : s.all p = false := by
  rw [List.all_eq_false]
  refine ⟨s[k], List.getElem_mem hk, ?_⟩
  rw [← getD_str s k hk, h]; simp
theorem all_yes {p : UInt8 → Bool} {s : List UInt8} (h : ∀ j, j < s.length → p (s.getD j 0) = true) : s.all p = true := by
  rw [List.all_eq_true]
  intro c hc
  obtain ⟨k, hk, rfl⟩ := List.getElem_of_mem hc
  have := h k hk
  rwa [getD_str s k hk] at this
theorem upto_next {p : UInt8 → Bool} {s : List UInt8} {k : Nat} (h : ∀ j, j < k → p (s.getD j 0) = true) (hk : p (s.getD k 0) = true) : ∀ j, j < k + 1 → p (s.getD j 0) = true := fun j hj => by
  by_cases e : j = k
  · rw [e]; exact hk
  · exact h j (by omega)

set_option maxHeartbeats 2000000 in
theorem isName_any (s : List UInt8) (w : World) (hs : s.length ≤ 1000000) :
    Calls Tryd.prog 34 #[sv s] w fun e w' => e = .returned (.bool (nameB s)) ∧ Below w.heap.size w w' := by
  have HB := Lib.hid (Below.refl w.heap.size w)
  go_enter Tryd.func34, Tryd.ntmps34
  go_wp2_with fail
  go_loopw [3, 4, 7] (fun _ _ i wr => ∃ k : Nat, k ≤ s.length ∧ i = .int .i64 k ∧ (∀ j, j < k → okN (s.getD j 0) = true) ∧ Below w.heap.size w wr) (fun _ _ i _ => s.length - (intOf i).toNat)
  case atStart => exact ⟨0, Nat.zero_le _, rfl, fun j hj => absurd hj (by omega), HB.out⟩
  case round =>
    obtain ⟨k, hk, rfl, ht, hbl⟩ := hrel
    have HT := Lib.hid ht
    have HL := Lib.hid hbl
    clear ht hbl
    by_cases hlt : k < s.length
    · obtain ⟨x, hx⟩ : ∃ x, (s.getD k 0).toNat = x := ⟨_, rfl⟩
      have hxs : (((str s)[k]'(by simpa [ByteArray.size] using hlt)).toNat) = x := by rw [str_getD s k hlt, hx]
      have HF := Lib.hid (fun h => show nameB s = false by unfold nameB; rw [all_no hlt (okN_no hx h)]; rfl)
      have HY := Lib.hid (fun h1 h2 h3 => upto_next HT.out (okN_yes hx h1 h2 h3))
      clear hx
      by_cases h1 : x ≤ 32
      · go_wp2_with fail
        go_ret
        rw [HF.out (.inl h1)]
        exact ⟨rfl, HL.out⟩
      · by_cases h2 : 126 < x
        · go_wp2_with fail
          go_ret
          rw [HF.out (.inr (.inl h2))]
          exact ⟨rfl, HL.out⟩
        · by_cases h3 : x = 58
          · subst h3
            go_wp2_with fail
            go_ret
            rw [HF.out (.inr (.inr trivial))]
            exact ⟨rfl, HL.out⟩
          · have e3 : ((x : Int) == ((({ data := #[58] } : ByteArray)[0]'(by decide)).toNat : Int)) = false := by
              have e4 : ((({ data := #[58] } : ByteArray)[0]'(by decide)).toNat : Int) = 58 := rfl
              rw [e4, beq_eq_false_iff_ne]; omega
            go_wp2_with fail
            go_roundw
            case rel => exact ⟨k + 1, by omega, by go_num, HY.out (by omega) (by omega) h3, HL.out⟩
            case measure => simp [intOf]; omega
    · obtain rfl : k = s.length := by omega
      by_cases h0 : s = []
      · subst h0
        go_wp2_with fail
        go_ret
        exact ⟨rfl, HL.out⟩
      · have HN := Lib.hid (show nameB s = true by unfold nameB; rw [all_yes HT.out]; simpa using h0)
        have e0 : (s != []) = true := by simpa using h0
        go_wp2_with fail
        go_ret
        rw [HN.out]
        refine ⟨?_, HL.out⟩
        congr 2
        simpa using h0

theorem Tryd.info256 : (Tryd.prog.info? 88).map (fun i => (i.zero, i.size)) = some (some (.agg (Array.replicate 256 (.bool false))), 256) := by kernel_rfl

theorem onB_has (c : UInt8) : ([32, 9] : List UInt8).contains c = onB c := by
  unfold onB
  simp [List.contains, List.elem]
  cases (c == 32) <;> cases (c == 9) <;> rfl
theorem trimS_is (l : List UInt8) : Lib.trimS l [32, 9] = trimL l := by
  unfold Lib.trimS Lib.trimRightS Lib.trimLeftS trimL
  simp only [onB_has]

theorem trim_any (l : List UInt8) (w : World) (hl : l.length ≤ 1000000) :
    Calls Tryd.prog 50 #[sv l, .string { data := #[32, 9] }] w fun e w' => e = .returned (sv (trimL l)) ∧ Below w.heap.size w w' := by
  have e1 : (str l).data.toList = l := by simp
  have := Any.strings_Trim_laid Tryd.lays160 Tryd.info256 (str l) { data := #[32, 9] } w (by simp [ByteArray.size]; omega) (by decide) (ascii_of_all (by decide))
  rw [e1, show ({ data := #[32, 9] } : ByteArray).data.toList = [32, 9] from rfl, trimS_is] at this
  exact this

set_option maxHeartbeats 2000000 in
theorem isValue_any (s : List UInt8) (w : World) (hs : s.length ≤ 1000000) :
    Calls Tryd.prog 35 #[sv s] w fun e w' => e = .returned (.bool (valB s)) ∧ Below w.heap.size w w' := by
  have HB := Lib.hid (Below.refl w.heap.size w)
  go_enter Tryd.func35, Tryd.ntmps35
  go_wp2_with fail
  go_loopw [3, 4, 7] (fun _ _ i wr => ∃ k : Nat, k ≤ s.length ∧ i = .int .i64 k ∧ (∀ j, j < k → okV (s.getD j 0) = true) ∧ Below w.heap.size w wr) (fun _ _ i _ => s.length - (intOf i).toNat)
  case atStart => exact ⟨0, Nat.zero_le _, rfl, fun j hj => absurd hj (by omega), HB.out⟩
  case round =>
    obtain ⟨k, hk, rfl, ht, hbl⟩ := hrel
    have HT := Lib.hid ht
    have HL := Lib.hid hbl
    clear ht hbl
    by_cases hlt : k < s.length
    · obtain ⟨x, hx⟩ : ∃ x, (s.getD k 0).toNat = x := ⟨_, rfl⟩
      have hxs : (((str s)[k]'(by simpa [ByteArray.size] using hlt)).toNat) = x := by rw [str_getD s k hlt, hx]
      have HF := Lib.hid (fun h0 h => show valB s = false by unfold valB; rw [all_no hlt (okV_no hx h0 h)]; rfl)
      have HY := Lib.hid (fun h => upto_next HT.out (okV_yes hx h))
      clear hx
      by_cases h0 : x = 9
      · subst h0
        go_wp2_with fail
        go_roundw
        case rel => exact ⟨k + 1, by omega, by go_num, HY.out (.inl rfl), HL.out⟩
        case measure => simp [intOf]; omega
      · have e0 : ((x : Int) != 9) = true := by rw [bne_iff_ne]; omega
        by_cases h1 : x < 32
        · go_wp2_with fail
          go_ret
          rw [HF.out h0 (.inl h1)]
          exact ⟨rfl, HL.out⟩
        · by_cases h2 : 126 < x
          · go_wp2_with fail
            go_ret
            rw [HF.out h0 (.inr h2)]
            exact ⟨rfl, HL.out⟩
          · go_wp2_with fail
            go_roundw
            case rel => exact ⟨k + 1, by omega, by go_num, HY.out (.inr ⟨by omega, by omega⟩), HL.out⟩
            case measure => simp [intOf]; omega
    · obtain rfl : k = s.length := by omega
      obtain ⟨t, ht⟩ : ∃ t, t = trimL s := ⟨_, rfl⟩
      have HV := Lib.hid (show valB s = (t == s) by unfold valB; rw [all_yes HT.out, ht]; rfl)
      have HTR := Lib.hid (trim_any s wr hs)
      rw [← ht] at HTR
      clear ht
      go_wp2_with fail
      refine HTR.out.mono ?_
      rintro e w2 ⟨rfl, hb2⟩
      have HB2 := Lib.hid hb2
      clear hb2
      go_wp2_with fail
      go_ret
      rw [HV.out]
      refine ⟨?_, HL.out.trans (HB2.out.mono HL.out.size)⟩
      congr 2
end Go.Proofs.YtkffdhdhjfbhjaaDoor
