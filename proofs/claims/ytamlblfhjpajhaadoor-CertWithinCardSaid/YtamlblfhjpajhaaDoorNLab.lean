/-
  The contract of package name's isLabel: what it tells of any text is isLab of its bytes.
-/
import Derived.WalkMore
import Derived.ScopeJumps
import Derived.Test.YtamlblfhjpajhaaDoorNPure2
import Derived.Test.YtamlblfhjpajhaaDoorBase
namespace Go.Proofs.YtamlblfhjpajhaaDoor
set_option linter.unusedSimpArgs false
set_option linter.unusedVariables false
open Go Go.RowKit
set_option maxRecDepth 100000

/-- May this byte stand here? -/
def okAt (l : List UInt8) (k : Nat) : Bool := lowC (l.getD k 0) || digC (l.getD k 0) || (l.getD k 0 == 45 && decide (0 < k) && decide (k + 1 < l.length))

theorem isLab_yes {l : List UInt8} (h0 : l ≠ []) (h1 : l.length ≤ 63) (h : ∀ k, k < l.length → okAt l k = true) : isLab l = true := by
  have hp : 0 < l.length := List.length_pos_iff.2 h0
  have a0 := h 0 hp
  have an := h (l.length - 1) (by omega)
  have ha : l.all labC = true := by
    rw [List.all_eq_true]
    intro c hc
    obtain ⟨k, hk, rfl⟩ := List.getElem_of_mem hc
    have := h k hk
    unfold okAt at this
    rw [getD_str l k hk] at this
    unfold labC
    revert this
    generalize lowC l[k] = a; generalize digC l[k] = b; generalize (l[k] == 45) = d
    cases a <;> cases b <;> cases d <;> simp
  have e0 : (l.headD 0 == 45) = false := by
    cases l with
    | nil => exact absurd rfl h0
    | cons c t =>
      cases e : (c == 45) with
      | false => exact e
      | true =>
        obtain rfl : c = 45 := by simpa using e
        simp [okAt, lowC, digC] at a0
  have e1 : (l.getLastD 0 == 45) = false := by
    have : l.getLastD 0 = l.getD (l.length - 1) 0 := by
      rw [List.getD_eq_getElem?_getD, ← List.getLast?_eq_getElem?, List.getLastD_eq_getLast?]
    rw [this]
    cases e : (l.getD (l.length - 1) 0 == 45) with
    | false => rfl
    | true =>
      have e' : l.getD (l.length - 1) 0 = 45 := by simpa using e
      unfold okAt at an
      rw [e'] at an
      have : ¬ (l.length - 1 + 1 < l.length) := by omega
      simp [lowC, digC, this] at an
  have e0' : (l.headD 0 != 45) = true := by simp only [bne, e0, Bool.not_false]
  have e1' : (l.getLastD 0 != 45) = true := by simp only [bne, e1, Bool.not_false]
  unfold isLab
  rw [ha, e0', e1', decide_eq_true h1]
  simpa using h0

theorem isLab_no {l : List UInt8} {k : Nat} (hk : k < l.length) (h : okAt l k = false) : isLab l = false := by
  cases e : isLab l with
  | false => rfl
  | true =>
    exfalso
    unfold isLab at e
    simp only [Bool.and_eq_true, decide_eq_true_eq, List.all_eq_true] at e
    obtain ⟨⟨⟨⟨_, _⟩, e3⟩, e4⟩, e5⟩ := e
    have h3 := e3 l[k] (List.getElem_mem hk)
    unfold okAt at h
    rw [getD_str l k hk] at h
    unfold labC at h3
    have h6 : (l[k] == 45) = true ∧ (decide (0 < k) && decide (k + 1 < l.length)) = false := by
      revert h h3
      generalize lowC l[k] = a; generalize digC l[k] = b; generalize (l[k] == 45) = d; generalize decide (0 < k) = x; generalize decide (k + 1 < l.length) = y
      cases a <;> cases b <;> cases d <;> cases x <;> cases y <;> simp
    obtain ⟨h6, h7⟩ := h6
    have h6' : l[k] = 45 := by simpa using h6
    by_cases k0 : k = 0
    · subst k0
      cases l with
      | nil => simp at hk
      | cons c t => simp at h6' e4; exact e4 h6'
    · have hl : k = l.length - 1 := by
        simp at h7
        have := h7 (by omega)
        omega
      have : l.getLastD 0 = l[k] := by
        rw [List.getLastD_eq_getLast?, List.getLast?_eq_getElem?, ← hl, List.getElem?_eq_getElem hk]; rfl
      rw [this, h6'] at e5
      simp at e5

theorem okAt_low {l : List UInt8} {k c : Nat} (hc : (l.getD k 0).toNat = c) (h1 : 97 ≤ c) (h2 : c ≤ 122) : okAt l k = true := by
  have : lowC (l.getD k 0) = true := by
    unfold lowC
    rw [Bool.and_eq_true, decide_eq_true_eq, decide_eq_true_eq, UInt8.le_iff_toNat_le, UInt8.le_iff_toNat_le, hc]
    exact ⟨h1, h2⟩
  unfold okAt; rw [this]; rfl
theorem okAt_dig {l : List UInt8} {k c : Nat} (hc : (l.getD k 0).toNat = c) (h1 : 48 ≤ c) (h2 : c ≤ 57) : okAt l k = true := by
  have : digC (l.getD k 0) = true := by
    unfold digC
    rw [Bool.and_eq_true, decide_eq_true_eq, decide_eq_true_eq, UInt8.le_iff_toNat_le, UInt8.le_iff_toNat_le, hc]
    exact ⟨h1, h2⟩
  unfold okAt; rw [this]; simp
theorem okAt_mid {l : List UInt8} {k c : Nat} (hc : (l.getD k 0).toNat = c) (h : c = 45) (h1 : 0 < k) (h2 : k + 1 < l.length) : okAt l k = true := by
  have : l.getD k 0 = 45 := UInt8.toNat_inj.1 (by rw [hc, h]; rfl)
  unfold okAt; rw [this]; simp [h1, h2]
theorem okAt_not {l : List UInt8} {k c : Nat} (hc : (l.getD k 0).toNat = c) (h : c < 97 ∨ 122 < c) (h' : c < 48 ∨ 57 < c) (h1 : c ≠ 45 ∨ k = 0 ∨ l.length ≤ k + 1) : okAt l k = false := by
  have a : lowC (l.getD k 0) = false := by
    unfold lowC
    rw [Bool.and_eq_false_iff, decide_eq_false_iff_not, decide_eq_false_iff_not, UInt8.le_iff_toNat_le, UInt8.le_iff_toNat_le, hc]
    show ¬ 97 ≤ c ∨ ¬ c ≤ 122
    omega
  have b : digC (l.getD k 0) = false := by
    unfold digC
    rw [Bool.and_eq_false_iff, decide_eq_false_iff_not, decide_eq_false_iff_not, UInt8.le_iff_toNat_le, UInt8.le_iff_toNat_le, hc]
    show ¬ 48 ≤ c ∨ ¬ c ≤ 57
    omega
  unfold okAt
  rw [a, b]
  rcases h1 with h1 | h1 | h1
  · have : (l.getD k 0 == 45) = false := by
      rw [beq_eq_false_iff_ne]; intro e; rw [e] at hc; exact h1 hc.symm
    rw [this]; rfl
  · subst h1; simp
  · have : decide (k + 1 < l.length) = false := decide_eq_false (by omega)
    rw [this]; simp

/-- At a jump to the label at the end. -/
def AtNone (l : List UInt8) (w : World) (a : Act) (w' : World) : Prop := w = w' ∧ isLab l = false ∧ ∃ u3 u4 u5 u6 u7 u8 u9 u10 u11 u12 u13 u14 u15 u16 u17 u18 u19 u20 u21 u22 u23 u24 u25 u26 u27 u28 u29 u30 u31 u32 u33 u34 u35 u36 u37 u38 u39 u40 u41 u42 u43 u44 u45 u46 u47 : Value, a = { tmps := #[.string (str l), undef, .bool false, u3, u4, u5, u6, u7, u8, u9, u10, u11, u12, u13, u14, u15, u16, u17, u18, u19, u20, u21, u22, u23, u24, u25, u26, u27, u28, u29, u30, u31, u32, u33, u34, u35, u36, u37, u38, u39, u40, u41, u42, u43, u44, u45, u46, u47], defers := [] }

theorem jump_ret {l : Nat} {J : Act → World → Prop} {Q : Exit → Act → World → Prop} {a : Act} {w : World} : Exit.jump l J Q .ret a w = Q .ret a w := rfl

theorem upto_all {l : List UInt8} {k : Nat} (ha : ∀ j, j < k → okAt l j = true) (h : okAt l k = true) : ∀ j, j < k + 1 → okAt l j = true := by
  intro j hj
  by_cases e : j = k
  · rw [e]; exact h
  · exact ha j (by omega)

set_option maxHeartbeats 4000000 in
theorem isLabel_any (l : List UInt8) (w : World) (hl : l.length ≤ 1000000) : Calls Tryd.prog 55 #[.string (str l)] w fun e w' => e = .returned (.bool (isLab l)) ∧ w = w' := by
  go_enter Tryd.func55, Tryd.ntmps55
  go_wp2_with fail
  refine wp_scope_jumps 0 (AtNone l w) (fun _ _ => 0) rfl ?_ ?_
  rotate_left
  · rintro a w' ⟨rfl, hn, u3, u4, u5, u6, u7, u8, u9, u10, u11, u12, u13, u14, u15, u16, u17, u18, u19, u20, u21, u22, u23, u24, u25, u26, u27, u28, u29, u30, u31, u32, u33, u34, u35, u36, u37, u38, u39, u40, u41, u42, u43, u44, u45, u46, u47, rfl⟩
    have HN := Lib.hid hn
    clear hn
    go_wp2
    rw [jump_ret]
    go_ret
    rw [HN.out]
    exact ⟨rfl, rfl⟩
  · by_cases h0 : l = []
    · subst h0
      go_wp2
      go_step3
      refine And.intro rfl ?_
      exact ⟨rfl, rfl, by (repeat apply Exists.intro); rfl⟩
    have hp : 0 < l.length := List.length_pos_iff.2 h0
    have hem : l.isEmpty = false := by simpa using h0
    have H0 := Lib.hid h0
    clear h0
    by_cases h63 : 63 < l.length
    · have HF := Lib.hid (show isLab l = false by unfold isLab; rw [hem, decide_eq_false (by omega)]; rfl)
      go_wp2
      go_step3
      (refine And.intro rfl ?_; exact ⟨rfl, HF.out, by (repeat apply Exists.intro); rfl⟩)
    have h63' : l.length ≤ 63 := by omega
    clear h63
    have e63 : decide (63 < (l.length : Int)) = false := decide_eq_false (by omega)
    go_wp2_with fail
    go_loop [14] (fun i => ∃ k : Nat, k ≤ l.length ∧ i = .int .i64 k ∧ ∀ j, j < k → okAt l j = true) (fun i => l.length - (intOf i).toNat)
    case atStart => exact ⟨0, Nat.zero_le _, rfl, fun j hj => absurd hj (by omega)⟩
    case round =>
      obtain ⟨k, hk, rfl, ha⟩ := hrel
      have HA := Lib.hid ha
      clear ha
      by_cases hlt : k < l.length
      · obtain ⟨c, hc⟩ : ∃ c, (l.getD k 0).toNat = c := ⟨_, rfl⟩
        have hcs : (((str l)[k]'(by simpa [ByteArray.size] using hlt)).toNat) = c := by rw [str_getD l k hlt, hc]
        have hc256 : c < 256 := by rw [← hc]; exact UInt8.toNat_lt _
        have HC := Lib.hid hc
        clear hc
        by_cases c1 : 97 ≤ c ∧ c ≤ 122
        · obtain ⟨c1, c2⟩ := c1
          have HU := Lib.hid (upto_all HA.out (okAt_low HC.out c1 c2))
          go_wp2
          go_round
          case rel => exact ⟨k + 1, by omega, by go_num, HU.out⟩
          case measure => simp [intOf]; omega
        by_cases d1 : 48 ≤ c ∧ c ≤ 57
        · obtain ⟨d1, d2⟩ := d1
          have HU := Lib.hid (upto_all HA.out (okAt_dig HC.out d1 d2))
          have c1' : c < 97 := by omega
          clear c1
          go_wp2
          go_round
          case rel => exact ⟨k + 1, by omega, by go_num, HU.out⟩
          case measure => simp [intOf]; omega
        by_cases m : c = 45
        · have hc1 : c < 97 := by omega
          have hc2 : c < 48 := by omega
          have e45 : ((c : Int) == 45) = true := by rw [m]; rfl
          by_cases k0 : k = 0
          · have HF := Lib.hid (isLab_no hlt (okAt_not HC.out (by omega) (by omega) (.inr (.inl k0))))
            have k0' : k < 1 := by omega
            clear c1 d1 m k0
            go_wp2
            go_step3
            (refine And.intro rfl ?_; exact ⟨rfl, HF.out, by (repeat apply Exists.intro); rfl⟩)
          · have k1 : 0 < k := by omega
            clear k0
            by_cases kn : k + 1 < l.length
            · have HU := Lib.hid (upto_all HA.out (okAt_mid HC.out m k1 kn))
              clear c1 d1 m
              go_wp2
              go_round
              case rel => exact ⟨k + 1, by omega, by go_num, HU.out⟩
              case measure => simp [intOf]; omega
            · have HF := Lib.hid (isLab_no hlt (okAt_not HC.out (by omega) (by omega) (.inr (.inr (by omega)))))
              have kn' : l.length ≤ k + 1 := by omega
              clear c1 d1 m kn
              go_wp2
              go_step3
              (refine And.intro rfl ?_; exact ⟨rfl, HF.out, by (repeat apply Exists.intro); rfl⟩)
        · have HF := Lib.hid (isLab_no hlt (okAt_not HC.out (by omega) (by omega) (.inl m)))
          have e45 : ((c : Int) == 45) = false := by rw [beq_eq_false_iff_ne]; omega
          clear m
          rcases (show 122 < c ∨ (57 < c ∧ c < 97) ∨ c < 48 by omega) with h | ⟨h, h'⟩ | h
          all_goals
            clear c1 d1
            go_wp2
            go_step3
            (refine And.intro rfl ?_; exact ⟨rfl, HF.out, by (repeat apply Exists.intro); rfl⟩)
      · obtain rfl : k = l.length := by omega
        have HY := Lib.hid (isLab_yes H0.out h63' HA.out)
        go_wp2
        rw [jump_ret]
        go_ret
        rw [HY.out]
        exact ⟨rfl, rfl⟩
end Go.Proofs.YtamlblfhjpajhaaDoor
