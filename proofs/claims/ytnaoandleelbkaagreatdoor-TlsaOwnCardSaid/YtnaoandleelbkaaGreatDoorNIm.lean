/-
  The contract of package name's isLabel: what it tells of any text is isLab of its bytes.
  The iterator over what stands between a text's dots ('labels'): its contract, in the form of a loop over an iterator whose body may leave early.
  The text is shorter than 100000 bytes; it stands in box Bs.
  The contract of package name's May.
-/
import Derived.WalkMore
import Derived.ScopeJumps
import Derived.Test.YtnaoandleelbkaaGreatDoorNPm
import Derived.Test.YtnaoandleelbkaaGreatDoorBase
import Derived.RangeFuncNested
import Derived.RangeFuncBound
import Derived.RangeFuncCalls
import Derived.RangeFuncLeaves
import Derived.Shelf.Abstract
import Derived.Shelf.RegionOpen
import Derived.OwnWalkIn
import Derived.TacticsInMore
import Derived.LoopNIn
import Derived.LoopIn
import Derived.Test.YtnaoandleelbkaaGreatDoorShelf
import Derived.Outline
namespace Go.Proofs.YtnaoandleelbkaaGreatDoor
set_option linter.unusedSimpArgs false
set_option linter.unusedVariables false
open Go Go.RowKit
set_option maxRecDepth 100000

/-- May this byte stand here? -/
def okAt (l : List UInt8) (k : Nat) : Bool := lowC (l.getD k 0) || digC (l.getD k 0) || (l.getD k 0 == 45 && decide (0 < k) && decide (k + 1 < l.length))

theorem isLab_yes {l : List UInt8} (h0 : l ≠ []) (h1 : l.length ≤ 63) (h : ∀ k, k < l.length → okAt l k = true) : isLab l = true := by
  have hp : 0 < l.length := List.length_pos_iff.2 h0
  have a0 := h 0 hp
  have an := h (l.length - 1) (by omega)
  have ha : l.all labC = true := by
    rw [List.all_eq_true]
    intro c hc
    obtain ⟨k, hk, rfl⟩ := List.getElem_of_mem hc
    have := h k hk
    unfold okAt at this
    rw [getD_str l k hk] at this
    unfold labC
    revert this
    generalize lowC l[k] = a; generalize digC l[k] = b; generalize (l[k] == 45) = d
    cases a <;> cases b <;> cases d <;> simp
  have e0 : (l.headD 0 == 45) = false := by
    cases l with
    | nil => exact absurd rfl h0
    | cons c t =>
      cases e : (c == 45) with
      | false => exact e
      | true =>
        obtain rfl : c = 45 := by simpa using e
        simp [okAt, lowC, digC] at a0
  have e1 : (l.getLastD 0 == 45) = false := by
    have : l.getLastD 0 = l.getD (l.length - 1) 0 := by
      rw [List.getD_eq_getElem?_getD, ← List.getLast?_eq_getElem?, List.getLastD_eq_getLast?]
    rw [this]
    cases e : (l.getD (l.length - 1) 0 == 45) with
    | false => rfl
    | true =>
      have e' : l.getD (l.length - 1) 0 = 45 := by simpa using e
      unfold okAt at an
      rw [e'] at an
      have : ¬ (l.length - 1 + 1 < l.length) := by omega
      simp [lowC, digC, this] at an
  have e0' : (l.headD 0 != 45) = true := by simp only [bne, e0, Bool.not_false]
  have e1' : (l.getLastD 0 != 45) = true := by simp only [bne, e1, Bool.not_false]
  unfold isLab
  rw [ha, e0', e1', decide_eq_true h1]
  simpa using h0

theorem isLab_no {l : List UInt8} {k : Nat} (hk : k < l.length) (h : okAt l k = false) : isLab l = false := by
  cases e : isLab l with
  | false => rfl
  | true =>
    exfalso
    unfold isLab at e
    simp only [Bool.and_eq_true, decide_eq_true_eq, List.all_eq_true] at e
    obtain ⟨⟨⟨⟨_, _⟩, e3⟩, e4⟩, e5⟩ := e
    have h3 := e3 l[k] (List.getElem_mem hk)
    unfold okAt at h
    rw [getD_str l k hk] at h
    unfold labC at h3
    have h6 : (l[k] == 45) = true ∧ (decide (0 < k) && decide (k + 1 < l.length)) = false := by
      revert h h3
      generalize lowC l[k] = a; generalize digC l[k] = b; generalize (l[k] == 45) = d; generalize decide (0 < k) = x; generalize decide (k + 1 < l.length) = y
      cases a <;> cases b <;> cases d <;> cases x <;> cases y <;> simp
    obtain ⟨h6, h7⟩ := h6
    have h6' : l[k] = 45 := by simpa using h6
    by_cases k0 : k = 0
    · subst k0
      cases l with
      | nil => simp at hk
      | cons c t => simp at h6' e4; exact e4 h6'
    · have hl : k = l.length - 1 := by
        simp at h7
        have := h7 (by omega)
        omega
      have : l.getLastD 0 = l[k] := by
        rw [List.getLastD_eq_getLast?, List.getLast?_eq_getElem?, ← hl, List.getElem?_eq_getElem hk]; rfl
      rw [this, h6'] at e5
      simp at e5

theorem okAt_low {l : List UInt8} {k c : Nat} (hc : (l.getD k 0).toNat = c) (h1 : 97 ≤ c) (h2 : c ≤ 122) : okAt l k = true := by
  have : lowC (l.getD k 0) = true := by
    unfold lowC
    rw [Bool.and_eq_true, decide_eq_true_eq, decide_eq_true_eq, UInt8.le_iff_toNat_le, UInt8.le_iff_toNat_le, hc]
    exact ⟨h1, h2⟩
  unfold okAt; rw [this]; rfl
theorem okAt_dig {l : List UInt8} {k c : Nat} (hc : (l.getD k 0).toNat = c) (h1 : 48 ≤ c) (h2 : c ≤ 57) : okAt l k = true := by
  have : digC (l.getD k 0) = true := by
    unfold digC
    rw [Bool.and_eq_true, decide_eq_true_eq, decide_eq_true_eq, UInt8.le_iff_toNat_le, UInt8.le_iff_toNat_le, hc]
    exact ⟨h1, h2⟩
  unfold okAt; rw [this]; simp
theorem okAt_mid {l : List UInt8} {k c : Nat} (hc : (l.getD k 0).toNat = c) (h : c = 45) (h1 : 0 < k) (h2 : k + 1 < l.length) : okAt l k = true := by
  have : l.getD k 0 = 45 := UInt8.toNat_inj.1 (by rw [hc, h]; rfl)
  unfold okAt; rw [this]; simp [h1, h2]
theorem okAt_not {l : List UInt8} {k c : Nat} (hc : (l.getD k 0).toNat = c) (h : c < 97 ∨ 122 < c) (h' : c < 48 ∨ 57 < c) (h1 : c ≠ 45 ∨ k = 0 ∨ l.length ≤ k + 1) : okAt l k = false := by
  have a : lowC (l.getD k 0) = false := by
    unfold lowC
    rw [Bool.and_eq_false_iff, decide_eq_false_iff_not, decide_eq_false_iff_not, UInt8.le_iff_toNat_le, UInt8.le_iff_toNat_le, hc]
    show ¬ 97 ≤ c ∨ ¬ c ≤ 122
    omega
  have b : digC (l.getD k 0) = false := by
    unfold digC
    rw [Bool.and_eq_false_iff, decide_eq_false_iff_not, decide_eq_false_iff_not, UInt8.le_iff_toNat_le, UInt8.le_iff_toNat_le, hc]
    show ¬ 48 ≤ c ∨ ¬ c ≤ 57
    omega
  unfold okAt
  rw [a, b]
  rcases h1 with h1 | h1 | h1
  · have : (l.getD k 0 == 45) = false := by
      rw [beq_eq_false_iff_ne]; intro e; rw [e] at hc; exact h1 hc.symm
    rw [this]; rfl
  · subst h1; simp
  · have : decide (k + 1 < l.length) = false := decide_eq_false (by omega)
    rw [this]; simp

/-- At a jump to the label at the end. -/
def AtNone (l : List UInt8) (w : World) (a : Act) (w' : World) : Prop := w = w' ∧ isLab l = false ∧ ∃ u3 u4 u5 u6 u7 u8 u9 u10 u11 u12 u13 u14 u15 u16 u17 u18 u19 u20 u21 u22 u23 u24 u25 u26 u27 u28 u29 u30 u31 u32 u33 u34 u35 u36 u37 u38 u39 u40 u41 u42 u43 u44 u45 u46 u47 : Value, a = { tmps := #[.string (str l), undef, .bool false, u3, u4, u5, u6, u7, u8, u9, u10, u11, u12, u13, u14, u15, u16, u17, u18, u19, u20, u21, u22, u23, u24, u25, u26, u27, u28, u29, u30, u31, u32, u33, u34, u35, u36, u37, u38, u39, u40, u41, u42, u43, u44, u45, u46, u47], defers := [] }

theorem jump_ret {l : Nat} {J : Act → World → Prop} {Q : Exit → Act → World → Prop} {a : Act} {w : World} : Exit.jump l J Q .ret a w = Q .ret a w := rfl

theorem upto_all {l : List UInt8} {k : Nat} (ha : ∀ j, j < k → okAt l j = true) (h : okAt l k = true) : ∀ j, j < k + 1 → okAt l j = true := by
  intro j hj
  by_cases e : j = k
  · rw [e]; exact h
  · exact ha j (by omega)

set_option maxHeartbeats 4000000 in
theorem isLabel_any (l : List UInt8) (w : World) (hl : l.length ≤ 1000000) : Calls Tryz.prog 180 #[.string (str l)] w fun e w' => e = .returned (.bool (isLab l)) ∧ w = w' := by
  go_enter Tryz.func180, Tryz.ntmps180
  go_wp2_with fail
  refine wp_scope_jumps 0 (AtNone l w) (fun _ _ => 0) rfl ?_ ?_
  rotate_left
  · rintro a w' ⟨rfl, hn, u3, u4, u5, u6, u7, u8, u9, u10, u11, u12, u13, u14, u15, u16, u17, u18, u19, u20, u21, u22, u23, u24, u25, u26, u27, u28, u29, u30, u31, u32, u33, u34, u35, u36, u37, u38, u39, u40, u41, u42, u43, u44, u45, u46, u47, rfl⟩
    have HN := Lib.hid hn
    clear hn
    go_wp2
    rw [jump_ret]
    go_ret
    rw [HN.out]
    exact ⟨rfl, rfl⟩
  · by_cases h0 : l = []
    · subst h0
      go_wp2
      go_step3
      refine And.intro rfl ?_
      exact ⟨rfl, rfl, by (repeat apply Exists.intro); rfl⟩
    have hp : 0 < l.length := List.length_pos_iff.2 h0
    have hem : l.isEmpty = false := by simpa using h0
    have H0 := Lib.hid h0
    clear h0
    by_cases h63 : 63 < l.length
    · have HF := Lib.hid (show isLab l = false by unfold isLab; rw [hem, decide_eq_false (by omega)]; rfl)
      go_wp2
      go_step3
      (refine And.intro rfl ?_; exact ⟨rfl, HF.out, by (repeat apply Exists.intro); rfl⟩)
    have h63' : l.length ≤ 63 := by omega
    clear h63
    have e63 : decide (63 < (l.length : Int)) = false := decide_eq_false (by omega)
    go_wp2_with fail
    go_loop [14] (fun i => ∃ k : Nat, k ≤ l.length ∧ i = .int .i64 k ∧ ∀ j, j < k → okAt l j = true) (fun i => l.length - (intOf i).toNat)
    case atStart => exact ⟨0, Nat.zero_le _, rfl, fun j hj => absurd hj (by omega)⟩
    case round =>
      obtain ⟨k, hk, rfl, ha⟩ := hrel
      have HA := Lib.hid ha
      clear ha
      by_cases hlt : k < l.length
      · obtain ⟨c, hc⟩ : ∃ c, (l.getD k 0).toNat = c := ⟨_, rfl⟩
        have hcs : (((str l)[k]'(by simpa [ByteArray.size] using hlt)).toNat) = c := by rw [str_getD l k hlt, hc]
        have hc256 : c < 256 := by rw [← hc]; exact UInt8.toNat_lt _
        have HC := Lib.hid hc
        clear hc
        by_cases c1 : 97 ≤ c ∧ c ≤ 122
        · obtain ⟨c1, c2⟩ := c1
          have HU := Lib.hid (upto_all HA.out (okAt_low HC.out c1 c2))
          go_wp2
          go_round
          case rel => exact ⟨k + 1, by omega, by go_num, HU.out⟩
          case measure => simp [intOf]; omega
        by_cases d1 : 48 ≤ c ∧ c ≤ 57
        · obtain ⟨d1, d2⟩ := d1
          have HU := Lib.hid (upto_all HA.out (okAt_dig HC.out d1 d2))
          have c1' : c < 97 := by omega
          clear c1
          go_wp2
          go_round
          case rel => exact ⟨k + 1, by omega, by go_num, HU.out⟩
          case measure => simp [intOf]; omega
        by_cases m : c = 45
        · have hc1 : c < 97 := by omega
          have hc2 : c < 48 := by omega
          have e45 : ((c : Int) == 45) = true := by rw [m]; rfl
          by_cases k0 : k = 0
          · have HF := Lib.hid (isLab_no hlt (okAt_not HC.out (by omega) (by omega) (.inr (.inl k0))))
            have k0' : k < 1 := by omega
            clear c1 d1 m k0
            go_wp2
            go_step3
            (refine And.intro rfl ?_; exact ⟨rfl, HF.out, by (repeat apply Exists.intro); rfl⟩)
          · have k1 : 0 < k := by omega
            clear k0
            by_cases kn : k + 1 < l.length
            · have HU := Lib.hid (upto_all HA.out (okAt_mid HC.out m k1 kn))
              clear c1 d1 m
              go_wp2
              go_round
              case rel => exact ⟨k + 1, by omega, by go_num, HU.out⟩
              case measure => simp [intOf]; omega
            · have HF := Lib.hid (isLab_no hlt (okAt_not HC.out (by omega) (by omega) (.inr (.inr (by omega)))))
              have kn' : l.length ≤ k + 1 := by omega
              clear c1 d1 m kn
              go_wp2
              go_step3
              (refine And.intro rfl ?_; exact ⟨rfl, HF.out, by (repeat apply Exists.intro); rfl⟩)
        · have HF := Lib.hid (isLab_no hlt (okAt_not HC.out (by omega) (by omega) (.inl m)))
          have e45 : ((c : Int) == 45) = false := by rw [beq_eq_false_iff_ne]; omega
          clear m
          rcases (show 122 < c ∨ (57 < c ∧ c < 97) ∨ c < 48 by omega) with h | ⟨h, h'⟩ | h
          all_goals
            clear c1 d1
            go_wp2
            go_step3
            (refine And.intro rfl ?_; exact ⟨rfl, HF.out, by (repeat apply Exists.intro); rfl⟩)
      · obtain rfl : k = l.length := by omega
        have HY := Lib.hid (isLab_yes H0.out h63' HA.out)
        go_wp2
        rw [jump_ret]
        go_ret
        rw [HY.out]
        exact ⟨rfl, rfl⟩
end Go.Proofs.YtnaoandleelbkaaGreatDoor

namespace Go.Proofs.YtnaoandleelbkaaGreatDoor
set_option linter.unusedSimpArgs false
set_option linter.unusedVariables false
open Go Go.RowKit Go.Shelf
set_option maxRecDepth 100000
attribute [local go_sem] Oper.semAt_some

/-- The library's variable holds some number. -/
def ML (w : World) : Prop := ∃ m : Int, w.cell? ⟨3, 0, none⟩ = some (.int .i64 m)
theorem ML.below {n : Nat} {w w' : World} (h : ML w) (hb : Below n w w') (hn : 3 < n) : ML w' := by
  obtain ⟨m, h⟩ := h
  exact ⟨m, (hb.cell (p := ⟨3, 0, none⟩) hn).trans h⟩
theorem ML.lt {w : World} (h : ML w) : 3 < w.heap.size := by
  obtain ⟨m, h⟩ := h
  rcases Nat.lt_or_ge 3 w.heap.size with hlt | hge
  · exact hlt
  · simp [World.cell?, Array.getElem?_eq_none hge] at h
theorem ML.step {w w' : World} (h : ML w) (hb : Below w.heap.size w w') : ML w' := h.below hb h.lt
theorem ML.drewN {w : World} (h : ML w) (k : Nat) : ML (w.drewN k) := h

theorem occ_one (s : List UInt8) (j : Nat) : Lib.occAt s [46] j = (s[j]? == some 46) := by
  unfold Lib.occAt
  rcases Nat.lt_or_ge j s.length with h | h
  · rw [List.getElem?_eq_getElem h, List.drop_eq_getElem_cons h]
    generalize s[j] = c
    generalize List.drop (j + 1) s = t
    show ((46 : UInt8) == c && List.isPrefixOf [] t) = (some c == some 46)
    rw [show List.isPrefixOf [] t = true by cases t <;> rfl, Bool.and_true, Option.some_beq_some, BEq.comm]
  · rw [List.getElem?_eq_none h, List.drop_eq_nil_of_le h]; rfl

theorem cut_nodot {s : List UInt8} (h : ∀ c ∈ s, c ≠ 46) : Lib.cut s [46] = (s, [], false) := by
  have : Lib.index s [46] = -1 := Lib.index_none fun j _ => by
    rw [occ_one]
    rcases Nat.lt_or_ge j s.length with hj | hj
    · rw [List.getElem?_eq_getElem hj]
      have := h s[j] (List.getElem_mem hj)
      simp [this]
    · rw [List.getElem?_eq_none hj]; rfl
  unfold Lib.cut
  rw [this, if_neg (by omega)]

theorem cut_dot {a : List UInt8} (t : List UInt8) (h : ∀ c ∈ a, c ≠ 46) : Lib.cut (a ++ 46 :: t) [46] = (a, t, true) := by
  have : Lib.index (a ++ 46 :: t) [46] = a.length := Lib.index_first (by simp) (by rw [occ_one]; simp) fun j hj => by
    rw [occ_one, List.getElem?_append_left hj, List.getElem?_eq_getElem hj]
    have := h a[j] (List.getElem_mem hj)
    simp [this]
  unfold Lib.cut
  rw [this, if_pos (by omega)]
  simp

theorem grownBy_drewN (w : World) (n : Nat) (row : Option Nat) : w.grownBy (w.drewN n) row := ⟨rfl, rfl, rfl, Nat.le_refl _, fun _ _ _ => rfl⟩

/-- Cut's contract where what it tells is known. -/
theorem cutd_call (p : List UInt8) (w : World) (hp : p.length ≤ 1000000) (hm : ML w) {a b : List UInt8} {c : Bool} (h : Lib.cut p [46] = (a, b, c)) :
    Calls Tryz.prog 182 #[.string (str p), .string { data := #[46] }] w fun e w' => e = .returned (.tuple #[.string (str a), .string (str b), .bool c]) ∧ ∃ n, w' = w.drewN n := by
  obtain ⟨mx, hm⟩ := hm
  have := Tryz.strings_Cut (str p) { data := #[46] } mx w (by simp [ByteArray.size]; omega) hm
  have e1 : (str p).data.toList = p := by simp
  have e2 : (⟨#[46]⟩ : ByteArray).data.toList = [46] := rfl
  rw [e1, e2, h] at this
  exact this

/-- A part of a text: what the iterator hands over. -/
abbrev Part := { x : List UInt8 // x.length ≤ 100000 }
def vals (l : List Part) : List (List UInt8) := l.map (·.1)
theorem vals_snoc (l : List Part) (x : Part) : vals (l ++ [x]) = vals l ++ [x.1] := by simp [vals]

def leftM : Value → Value → Nat
  | .string s, .bool true => s.size + 1
  | _, _ => 0

/-- What has come, and what is left. -/
def Come (s0 : List UInt8) (pre : List Part) (rest : List UInt8) (more : Bool) : Prop := if more then vals pre ++ cutD rest = cutD s0 else vals pre = cutD s0

set_option maxHeartbeats 2000000 in
theorem labels1_in (l Bs n₀ : Nat) (s0 : List UInt8) (hs : s0.length ≤ 100000) (hn0 : 3 < n₀) (J Jx : List Part → World → Prop) (W : World) (hJ : AbidesFrom W.heap.size J)
    (hY : ∀ pre x W1, J pre W1 → pre.length < (cutD s0).length → YieldAt Fence.wide 1 Tryz.prog l #[.string (str x.1)] W1 fun e W' =>
      (e = .returned (.bool true) ∧ J (pre ++ [x]) W' ∧ Below n₀ W1 W') ∨ (e = .returned (.bool false) ∧ Jx (pre ++ [x]) W'))
    (hM : ML W) (hB : W.cell? ⟨Bs, 0, none⟩ = some (sv s0)) (h0 : J [] W) :
    CallsIn Fence.wide 2 Tryz.prog 206 #[.func (.yield l) #[] #[], .pointer (some ⟨Bs, 0, none⟩)] W fun e W' => (∃ v, e = .returned v) ∧ ((∃ xs, vals xs = cutD s0 ∧ J xs W') ∨ (∃ pre, vals pre <+: cutD s0 ∧ Jx pre W')) := by
  have hd : ∀ pre (A : World) k, J pre A → J pre (A.drewN k) := fun pre A k h => hJ _ _ _ none h (grownBy_drewN _ _ _) (fun r e => by cases e)
  have HD := Lib.hid hd
  have HYY := Lib.hid hY
  have H0 := Lib.hid h0
  clear hJ hd hY h0
  refine callsIn_of_wp Tryz.func206 rfl trivial ?_ rfl
  simp only [Tryz.ntmps206, List.size_toArray, List.length_cons, List.length_nil, Nat.reduceAdd, Nat.reduceSub, Array.replicate_succ, Array.replicate_zero, List.push_toArray, List.append_toArray, List.nil_append, List.cons_append]
  gi_wp2
  gi_loopw [3, 4] (fun r m wr => ∃ (pre : List Part) (rest : List UInt8) (more : Bool), r = .string (str rest) ∧ m = .bool more ∧ rest.length ≤ s0.length ∧ Come s0 pre rest more ∧ J pre wr ∧ ML wr) (fun r m _ => leftM r m)
  case atStart => exact ⟨[], s0, true, rfl, rfl, Nat.le_refl _, by simp [Come, vals], H0.out, hM⟩
  case round =>
    obtain ⟨pre, rest, more, rfl, rfl, hlen, hcome, hj, hml⟩ := hrel
    have HC := Lib.hid hcome
    have HJ := Lib.hid hj
    have HM := Lib.hid hml
    clear hcome hj hml hB
    cases more with
    | false =>
      gi_wp2
      go_end0
      exact ⟨⟨_, rfl⟩, .inl ⟨pre, by have := HC.out; simpa [Come] using this, HJ.out⟩⟩
    | true =>
      have hpl : pre.length < (cutD s0).length := by
        have h1 := HC.out
        unfold Come at h1
        rw [if_pos rfl] at h1
        have h2 := cutD_ne rest
        rw [← h1]
        cases e : cutD rest with
        | nil => exact absurd e h2
        | cons a r => simp [vals]
      rcases dot_cases rest with ⟨_, h2, _⟩ | ⟨a, t, h1, h2, _, _⟩
      · have hcut := Lib.hid (cut_nodot h2)
        have HN := Lib.hid (show Come s0 (pre ++ [⟨rest, by omega⟩]) [] false by
          have h1 := HC.out
          unfold Come at h1 ⊢
          rw [if_pos rfl, cutD_plain h2] at h1
          rw [vals_snoc]
          simpa using h1)
        clear h2
        gi_wp2_with (refine ⟨trivial, ?_⟩; gi_at_call 182; refine (callsIn_wide.2 (cutd_call _ _ (by omega) HM.out hcut.out)).mono ?_; rintro e w' ⟨rfl, n, rfl⟩)
        obtain ⟨fn, tmps, assign, body, hy, hR⟩ := HYY.out pre ⟨rest, by omega⟩ (wr.drewN n) (HD.out _ _ _ HJ.out) hpl
        dsimp only at hy
        rw [hy]
        gi_wp2
        refine hR.mono ?_
        rintro e W3 (⟨rfl, hJ3, hk3⟩ | ⟨rfl, hJ3⟩)
        · have HJ3 := Lib.hid hJ3
          have HM3 := Lib.hid ((HM.out.drewN n).below hk3 hn0)
          clear hJ3 hk3
          gi_wp2
          go_roundw
          case rel => exact ⟨_, [], false, rfl, rfl, Nat.zero_le _, HN.out, HJ3.out, HM3.out⟩
          case measure => simp [leftM]
        · have HJ3 := Lib.hid hJ3
          clear hJ3
          gi_wp2
          refine bodyPost_ret (results_none rfl _ _ _) rfl ?_
          exact ⟨⟨_, rfl⟩, .inr ⟨_, by have := HN.out; unfold Come at this; simp only [Bool.false_eq_true, if_false] at this; rw [this]; exact List.prefix_refl _, HJ3.out⟩⟩
      · have hcut := Lib.hid (show Lib.cut rest [46] = (a, t, true) by rw [h1]; exact cut_dot t h2)
        have hal : a.length + t.length + 1 = rest.length := by rw [h1]; simp; omega
        have htl : t.length < rest.length := by omega
        have hal' : a.length ≤ 100000 := by omega
        have HN := Lib.hid (show Come s0 (pre ++ [⟨a, hal'⟩]) t true by
          have h3 := HC.out
          unfold Come at h3 ⊢
          rw [if_pos rfl, h1, cutD_dot t h2] at h3
          rw [vals_snoc, if_pos rfl, List.append_assoc]
          exact h3)
        clear h1 h2 hal
        gi_wp2_with (refine ⟨trivial, ?_⟩; gi_at_call 182; refine (callsIn_wide.2 (cutd_call _ _ (by omega) HM.out hcut.out)).mono ?_; rintro e w' ⟨rfl, n, rfl⟩)
        obtain ⟨fn, tmps, assign, body, hy, hR⟩ := HYY.out pre ⟨a, hal'⟩ (wr.drewN n) (HD.out _ _ _ HJ.out) hpl
        dsimp only at hy
        rw [hy]
        gi_wp2
        refine hR.mono ?_
        rintro e W3 (⟨rfl, hJ3, hk3⟩ | ⟨rfl, hJ3⟩)
        · have HJ3 := Lib.hid hJ3
          have HM3 := Lib.hid ((HM.out.drewN n).below hk3 hn0)
          clear hJ3 hk3
          gi_wp2
          go_roundw
          case rel => exact ⟨_, t, true, rfl, rfl, by omega, HN.out, HJ3.out, HM3.out⟩
          case measure => simp [leftM, ByteArray.size]; omega
        · have HJ3 := Lib.hid hJ3
          clear hJ3
          gi_wp2
          refine bodyPost_ret (results_none rfl _ _ _) rfl ?_
          exact ⟨⟨_, rfl⟩, .inr ⟨_, by have := HN.out; unfold Come at this; rw [if_pos rfl] at this; exact ⟨_, this⟩, HJ3.out⟩⟩

theorem labels_any (s : ByteArray) (w : World) :
    Calls Tryz.prog 179 #[.string s] w fun e w' => e = .returned (.func (.func 206) #[] #[.pointer (some ⟨w.heap.size, 0, none⟩)]) ∧ w' = w.alloc (.cells #[.string s] 9) := by
  go_enter Tryz.func179, Tryz.ntmps179
  go_wp2
  go_ret
  exact ⟨rfl, rfl⟩

theorem clone_any (s : ByteArray) (w : World) (hlim : s.size ≤ 281474976710656) :
    Calls Tryz.prog 69 #[.string s] w fun e w' => e = .returned (.string s) ∧ Below w.heap.size w w' := by
  go_enter Tryz.func69, Tryz.ntmps69
  go_wp2_with (go_at_call 123; refine (Tryz.stringslite_Clone _ _ hlim).mono ?_; rintro e w' ⟨rfl, hb⟩)
  go_ret
  exact ⟨rfl, hb⟩

/-- The iterator, as a loop's law wants it. -/
theorem labels_stops (Bs n₀ : Nat) (s0 : List UInt8) (hs : s0.length ≤ 100000) (hn0 : 3 < n₀) (w : World) (hM : ML w) (hBw : Bs < w.heap.size) (hB : w.cell? ⟨Bs, 0, none⟩ = some (sv s0)) :
    SeqStopsK Fence.wide 2 Tryz.prog 206 #[.pointer (some ⟨Bs, 0, none⟩)] (fun x : Part => #[Value.string (str x.1)]) (Below n₀) (fun xs => vals xs = cutD s0) (fun pre => vals pre <+: cutD s0) (cutD s0).length w :=
  fun l J Jx W hW hJ _ hY h0 => labels1_in l Bs n₀ s0 hs hn0 J Jx W hJ hY (hM.step hW) ((hW.cell (p := ⟨Bs, 0, none⟩) hBw).trans hB) h0
end Go.Proofs.YtnaoandleelbkaaGreatDoor

namespace Go.Proofs.YtnaoandleelbkaaGreatDoor
set_option linter.unusedSimpArgs false
set_option linter.unusedVariables false
open Go Go.RowKit Go.Shelf
set_option maxRecDepth 100000
attribute [local go_sem] Oper.semAt_some

/-- A body that ends, or returns, and never panics. -/
def calmly (Q : Exit → Act → World → Prop) : Exit → Act → World → Prop
  | .normal, a, w => Q .normal a w
  | .ret, a, w => Q .ret a w
  | _, _, _ => False

theorem wpIn_calmly {F : Fence} {n : Nat} {P : Program} {c : Code} {Q : Exit → Act → World → Prop} {a : Act} {w : World} (h : c.wpIn F n P (calmly Q) a w) : c.wpIn F n P Q a w :=
  wpIn_mono h fun e _ _ hq => match e, hq with
    | .normal, h => h
    | .ret, h => h
    | .panic _, h => h.elim
    | .outgrown, h => h.elim
    | .exit _, h => h.elim
    | .goto _, h => h.elim

theorem not_may_long' (s : List UInt8) (w : World) (hs : s.length ≤ 1000000) (h : 253 < s.length) : Calls Tryz.prog 144 #[.string (str s)] w fun e w' => e = .returned (.bool (mayL s)) ∧ Below w.heap.size w w' := by
  have HF := Lib.hid (not_may_long h)
  go_enter Tryz.func144, Tryz.ntmps144
  go_wp2
  exact bodyPost_ret (v := .bool false) (by simp [results, Tryz.results144, go_sem]) rfl ⟨by rw [HF.out], (Below.refl _ _).alloc (Nat.le_refl _) _⟩

/-! ### What Trim leaves -/
def digsL : List UInt8 := [48, 49, 50, 51, 52, 53, 54, 55, 56, 57]
theorem digs_contains (c : UInt8) : digsL.contains c = digC c := by
  have key : ∀ n : Fin 256, digsL.contains (UInt8.ofNat n) = digC (UInt8.ofNat n) := by decide +kernel
  have := key ⟨c.toNat, c.toNat_lt⟩
  simpa using this

theorem dropWhile_nil {p : UInt8 → Bool} {l : List UInt8} (h : ∀ c ∈ l, p c = true) : l.dropWhile p = [] := by
  induction l with
  | nil => rfl
  | cons x t ih => rw [List.dropWhile_cons, h x (by simp)]; simpa using ih fun c hc => h c (by simp [hc])

theorem trim_nil {l : List UInt8} (h : l.all digC = true) : Lib.trimS l digsL = [] := by
  have : l.reverse.dropWhile (digsL.contains ·) = [] := by
    refine dropWhile_nil fun c hc => ?_
    rw [digs_contains]
    exact List.all_eq_true.1 h c (by simpa using hc)
  unfold Lib.trimS Lib.trimRightS Lib.trimLeftS
  rw [this]; rfl

theorem mem_dropWhile {p : UInt8 → Bool} {l : List UInt8} {c : UInt8} (h : c ∈ l) (hp : p c = false) : c ∈ l.dropWhile p := by
  induction l with
  | nil => cases h
  | cons x t ih =>
    rw [List.dropWhile_cons]
    cases hx : p x with
    | true =>
      rcases List.mem_cons.1 h with rfl | h
      · rw [hx] at hp; cases hp
      · simpa using ih h
    | false => simpa using h

theorem trim_some {l : List UInt8} (h : l.all digC = false) : Lib.trimS l digsL ≠ [] := by
  obtain ⟨c, hc, hd⟩ := List.all_eq_false.1 h
  have hd' : digsL.contains c = false := by rw [digs_contains]; simpa using hd
  have h1 : c ∈ Lib.trimS l digsL := by
    unfold Lib.trimS Lib.trimRightS Lib.trimLeftS
    exact mem_dropWhile (p := (digsL.contains ·)) (by simpa using mem_dropWhile (p := (digsL.contains ·)) (l := l.reverse) (by simpa using hc) hd') hd'
  intro e
  rw [e] at h1
  cases h1

theorem Tryz.info256 : (Tryz.prog.info? 209).map (fun i => (i.zero, i.size)) = some (some (.agg (Array.replicate 256 (.bool false))), 256) := by kernel_rfl
theorem trim_call (l : List UInt8) (w : World) (hl : l.length ≤ 1000000) {r : List UInt8} (h : Lib.trimS l digsL = r) :
    Calls Tryz.prog 181 #[.string (str l), .string { data := #[48, 49, 50, 51, 52, 53, 54, 55, 56, 57] }] w fun e w' => e = .returned (sv r) ∧ Below w.heap.size w w' := by
  have := Any.strings_Trim_laid Tryz.lays160 Tryz.info256 (str l) { data := #[48, 49, 50, 51, 52, 53, 54, 55, 56, 57] } w (by simp [ByteArray.size]; omega) (by decide) (ascii_of_all (by decide))
  have e1 : (str l).data.toList = l := by simp
  have e2 : (⟨#[48, 49, 50, 51, 52, 53, 54, 55, 56, 57]⟩ : ByteArray).data.toList = digsL := rfl
  rw [e1, e2, h] at this
  exact this

/-! ### The worlds of the walk -/
/-- Between two rounds. -/
def MayI (w : World) (pre : List Part) (W : World) : Prop :=
  (Boxed W w.heap.size 4 (.bool false) ∧ Boxed W (w.heap.size + 1) 9 (sv ((vals pre).getLastD [])) ∧ ∀ x ∈ vals pre, isLab x = true) ∧ Below w.heap.size w W
/-- A round has left. -/
def MayX (w : World) (c : Code) (pre : List Part) (W : World) : Prop :=
  (c = .ret ∧ Boxed W w.heap.size 4 (.bool false) ∧ ∃ x ∈ vals pre, isLab x = false) ∧ Below w.heap.size w W

theorem mayI_from {w : World} {B : Nat} (hB : w.heap.size + 2 ≤ B) : OwnFrom B (MayI w) := by
  rintro pre W W' row ⟨⟨h1, h2, h3⟩, hb⟩ hg hr
  have ne : ∀ k, k < B → some k ≠ row := fun k hk e => by have := (hr k e.symm).1; omega
  exact ⟨⟨h1.kept hg (ne _ (by omega)), h2.kept hg (ne _ (by omega)), h3⟩, hb.grown hg hb.size fun k e => by have := (hr k e).1; omega⟩
theorem mayX_from {w : World} {B : Nat} (hB : w.heap.size + 2 ≤ B) (c : Code) : OwnFrom B (MayX w c) := by
  rintro pre W W' row ⟨⟨h1, h2, h3⟩, hb⟩ hg hr
  have ne : ∀ k, k < B → some k ≠ row := fun k hk e => by have := (hr k e.symm).1; omega
  exact ⟨⟨h1, h2.kept hg (ne _ (by omega)), h3⟩, hb.grown hg hb.size fun k e => by have := (hr k e).1; omega⟩

theorem grownBelow {W W' : World} (h : Below W.heap.size W W') (row : Option Nat) : W.grownBy W' row := ⟨h.os, h.tape, h.output, h.size, fun k hk _ => h.block k hk⟩

theorem result_world {w W w1 : World} {D : Nat} {t : TypeId} {u : Value} (hB : Below w.heap.size w W) (hD : w.heap.size < D) (hDW : W.heap[D]? = some (.deferred (some []))) (b0 : Boxed W w.heap.size t u) (hb1 : Below W.heap.size W w1) (v : Value) :
    (w1.setCell ⟨w.heap.size, 0, none⟩ v).heap[D]? = some (.deferred (some [])) ∧
    ((w1.setCell ⟨w.heap.size, 0, none⟩ v).putObj D (.deferred none)).cell? ⟨w.heap.size, 0, none⟩ = some v ∧
    Below w.heap.size w ((w1.setCell ⟨w.heap.size, 0, none⟩ v).putObj D (.deferred none)) := by
  have hlt := (Array.getElem?_eq_some_iff.1 hDW).1
  have b1 : Boxed w1 w.heap.size t u := b0.kept (grownBelow hb1 none) (by simp)
  have hX : (w1.setCell ⟨w.heap.size, 0, none⟩ v).heap[D]? = some (.deferred (some [])) := by
    rw [heap_setCell_other _ _ _ _ (by show D ≠ w.heap.size; omega), hb1.block D hlt, hDW]
  refine ⟨hX, ?_, ?_⟩
  · exact ((b1.set v).kept (grownBy_putObj' _ D _) (by simp; omega)).cell
  · have h1 : Below w.heap.size w w1 := hB.trans (hb1.mono hB.size)
    have h2 := h1.setCell (p := ⟨w.heap.size, 0, none⟩) (Nat.le_refl _) v
    exact h2.trans (belowK_b (w := w) (Nat.le_refl _) _ D _ _ (by omega) hX rfl rfl)

set_option maxHeartbeats 2000000 in
theorem may_short (s : List UInt8) (w : World) (hs : s.length ≤ 253) (hM : ML w) : Calls Tryz.prog 144 #[.string (str s)] w fun e w' => e = .returned (.bool (mayL s)) ∧ Below w.heap.size w w' := by
  have HM := Lib.hid hM
  have H0 := Lib.hid hM.lt
  clear hM
  have e253 : decide (253 < (s.length : Int)) = false := decide_eq_false (by omega)
  refine (callsIn_wide (n := 3)).1 ?_
  refine callsIn_of_wp_marks Tryz.func144 rfl trivial (wpIn_calmly ?_) rfl
  simp only [Tryz.ntmps144, List.size_toArray, List.length_cons, List.length_nil, Nat.reduceAdd, Nat.reduceSub, Array.replicate_succ, Array.replicate_zero, List.push_toArray, List.append_toArray, List.nil_append, List.cons_append]
  gi_wp2_with (refine ⟨trivial, ?_⟩; gi_at_call 179; refine (callsIn_wide.2 (labels_any _ _)).mono ?_; rintro e w' ⟨rfl, rfl⟩)
  obtain ⟨Wl, hWl⟩ : ∃ Wl, Wl = ((w.alloc (.cells #[.bool false] 4)).alloc (.cells #[.string { data := #[] }] 9)).alloc (.cells #[.string (str s)] 9) := ⟨_, rfl⟩
  rw [← hWl]
  have hsz : Wl.heap.size = w.heap.size + 3 := by rw [hWl]; simp
  have hbel : Below w.heap.size w Wl := by rw [hWl]; exact (((Below.refl _ w).alloc (Nat.le_refl _) _).alloc (by simp) _).alloc (by simp; omega) _
  have b0 : Boxed Wl w.heap.size 4 (.bool false) := by rw [hWl]; exact ((Boxed.new w _ _).alloc _).alloc _
  have b1 : Boxed Wl (w.heap.size + 1) 9 (sv []) := by rw [hWl]; have := Boxed.new (w.alloc (.cells #[.bool false] 4)) 9 (sv []); rw [World.size_alloc] at this; exact this.alloc _
  have b2 : Boxed Wl (w.heap.size + 1 + 1) 9 (sv s) := by rw [hWl]; have := Boxed.new ((w.alloc (.cells #[.bool false] 4)).alloc (.cells #[.string { data := #[] }] 9)) 9 (sv s); rw [World.size_alloc, World.size_alloc] at this; exact this
  refine wpIn_rangeFunc_ownF (α := Part) (w := Wl) rfl (by omega) (gf := 206) (lb := #[.pointer (some ⟨w.heap.size + 1 + 1, 0, none⟩)]) rfl trivial (enters_of Tryz.func206 (by kernel_rfl) rfl)
    (labels_stops (w.heap.size + 1 + 1) w.heap.size s (by omega) H0.out Wl (HM.out.step hbel) (by omega) b2.cell) belowK_t (belowK_b (by omega)) (Below.refl _ _) (fun _ => rfl)
    (MayI w) (MayX w) (mayI_from (by omega)) (mayX_from (by omega)) ⟨⟨b0, b1, by simp [vals]⟩, hbel⟩
    (fun x => { tmps := #[.string (str s), undef, .pointer (some ⟨w.heap.size, 0, none⟩), .pointer (some ⟨w.heap.size + 1, 0, none⟩), .string (str x.1), .string (str s), .int .i64 s.length, .bool false, .string (str s), .func (.func 206) #[] #[.pointer (some ⟨w.heap.size + 1 + 1, 0, none⟩)], .string (str x.1), undef, undef, undef, undef, undef, undef, undef], defers := [] }) ?assign ?body ?done ?stop
  case assign =>
    intro l x W K hK
    gi_wp2
    exact hK
  case body =>
    rintro l pre ⟨x, hx⟩ W ⟨⟨h1, h2, h3⟩, hb⟩ _
    have c0 := h1.cell
    have f0 := h1.frozen
    have c1 := h2.cell
    have f1 := h2.frozen
    have HA := Lib.hid h3
    have HB := Lib.hid hb
    have K1 := Lib.hid h1
    have K2 := Lib.hid h2
    have hxl : x.length ≤ 1000000 := by omega
    clear h1 h2 h3 hb
    cases hL : isLab x with
    | true =>
      have HL := Lib.hid hL
      clear hL
      gi_wp2_with (refine ⟨trivial, ?_⟩; gi_at_call 180; refine (CallsIn.inRound l (callsIn_wide.2 (isLabel_any _ _ hxl))).mono ?_; rintro e w' ⟨rfl, rfl⟩; rw [HL.out])
      refine ⟨KeepsOthers.setCell _ _ _, (Below.refl _ W).setCell (p := ⟨w.heap.size + 1, 0, none⟩) (Nat.le_succ _) _, ⟨K1.out.kept (grownBy_setCell' W _ _) (by simp), ?_, ?_⟩, HB.out.setCell (p := ⟨w.heap.size + 1, 0, none⟩) (Nat.le_succ _) _⟩
      · have e : (vals (pre ++ [⟨x, hx⟩])).getLastD [] = x := by rw [vals_snoc]; simp
        rw [e]
        exact K2.out.set _
      · intro y hy
        rw [vals_snoc] at hy
        rcases List.mem_append.1 hy with hy | hy
        · exact HA.out y hy
        · obtain rfl : y = x := by simpa using hy
          exact HL.out
    | false =>
      have HL := Lib.hid hL
      clear hL
      gi_wp2_with (refine ⟨trivial, ?_⟩; gi_at_call 180; refine (CallsIn.inRound l (callsIn_wide.2 (isLabel_any _ _ hxl))).mono ?_; rintro e w' ⟨rfl, rfl⟩; rw [HL.out])
      exact ⟨KeepsOthers.setCell _ _ _, ⟨rfl, K1.out.set _, x, by rw [vals_snoc]; simp, HL.out⟩, HB.out.setCell (p := ⟨w.heap.size, 0, none⟩) (Nat.le_refl _) _⟩
  case done =>
    rintro D xs W hD hxs ⟨⟨h1, h2, h3⟩, hb⟩ hK
    rw [hsz] at hD
    have hm : mayL s = !((cutD s).getLastD []).all digC := by
      have e1 : (cutD s).all isLab = true := by rw [← hxs, List.all_eq_true]; exact h3
      unfold mayL
      rw [e1, decide_eq_true hs, List.not_all_eq_any_not]
      rfl
    obtain ⟨z, hz⟩ : ∃ z, z = (cutD s).getLastD [] := ⟨_, rfl⟩
    have hzl : z.length ≤ 1000000 := by
      have hne := cutD_ne s
      have hmem : z ∈ cutD s := by
        rw [hz, List.getLastD_eq_getLast?, List.getLast?_eq_some_getLast hne]
        exact List.getLast_mem hne
      have := cutD_part _ s (Nat.le_refl _) hmem
      omega
    rw [hxs, ← hz] at h2
    rw [← hz] at hm
    have c0 := h1.cell
    have f0 := h1.frozen
    have c1 := h2.cell
    have f1 := h2.frozen
    have kk : ∀ w1, Below W.heap.size W w1 → w1.cell? ⟨w.heap.size, 0, none⟩ = some (.bool false) ∧ w1.frozen? ⟨w.heap.size, 0, none⟩ = false := fun w1 hb => by
      have g := grownBelow hb none
      exact ⟨(h1.kept g (by simp)).cell, (h1.kept g (by simp)).frozen⟩
    have KK := Lib.hid kk
    have HN := Lib.hid hm
    have HB := Lib.hid hb
    have K1 := Lib.hid h1
    have HK := Lib.hid hK
    clear kk hm hb h1 h2 h3 hK hz hxs b0 b1 b2 hbel hWl
    cases hd : z.all digC with
    | true =>
      have HT := Lib.hid (trim_nil hd)
      have HD := Lib.hid hd
      clear hd
      gi_wp2_with (refine ⟨trivial, ?_⟩; gi_at_call 181; refine (callsIn_wide.2 (trim_call _ _ hzl HT.out)).mono ?_; rintro e w1 ⟨rfl, hb1⟩; obtain ⟨d0, d1⟩ := KK.out w1 hb1; have HB1 := Lib.hid hb1; clear hb1)
      obtain ⟨hXD, hcell, hbel⟩ := result_world HB.out (by omega) HK.out K1.out HB1.out (.bool false)
      refine ⟨by simp, .inl ⟨_, _, rfl, run_takeDeferred hXD, ?_⟩⟩
      exact ⟨.bool false, by simp [results, Tryz.results144, go_sem, hcell], by rw [HN.out, HD.out]; rfl, hbel⟩
    | false =>
      obtain ⟨r, hr⟩ : ∃ r, Lib.trimS z digsL = r := ⟨_, rfl⟩
      have hrn : r ≠ [] := by rw [← hr]; exact trim_some hd
      have hre : r.isEmpty = false := by simpa using hrn
      have HT := Lib.hid hr
      have HD := Lib.hid hd
      have HRN := Lib.hid hrn
      clear hd hr hrn
      gi_wp2_with (refine ⟨trivial, ?_⟩; gi_at_call 181; refine (callsIn_wide.2 (trim_call _ _ hzl HT.out)).mono ?_; rintro e w1 ⟨rfl, hb1⟩; obtain ⟨d0, d1⟩ := KK.out w1 hb1; have HB1 := Lib.hid hb1; clear hb1)
      obtain ⟨hXD, hcell, hbel⟩ := result_world HB.out (by omega) HK.out K1.out HB1.out (.bool true)
      refine ⟨by simp, .inl ⟨_, _, rfl, run_takeDeferred hXD, ?_⟩⟩
      exact ⟨.bool true, by simp [results, Tryz.results144, go_sem, hcell], by rw [HN.out, HD.out]; rfl, hbel⟩
  case stop =>
    rintro D c pre W hD hp ⟨⟨rfl, h1, h2⟩, hb⟩ hK
    rw [hsz] at hD
    have HN := Lib.hid (show mayL s = false by
      obtain ⟨x, hx, hl⟩ := h2
      have : (cutD s).all isLab = false := List.all_eq_false.2 ⟨x, hp.subset hx, by rw [hl]; simp⟩
      unfold mayL
      rw [this]; simp)
    have hcell := ((h1.kept (grownBy_putObj' W D (.deferred none)) (by simp; omega)).cell)
    have hbel' := hb.trans (belowK_b (w := w) (Nat.le_refl _) W D _ (.deferred none) (by omega) hK rfl rfl)
    gi_wp2
    refine ⟨by simp, .inl ⟨_, _, rfl, run_takeDeferred hK, ?_⟩⟩
    exact ⟨.bool false, by simp [results, Tryz.results144, go_sem, hcell], by rw [HN.out], hbel'⟩

theorem may_any (s : List UInt8) (w : World) (hs : s.length ≤ 1000000) (hM : ML w) : Calls Tryz.prog 144 #[.string (str s)] w fun e w' => e = .returned (.bool (mayL s)) ∧ Below w.heap.size w w' := by
  by_cases h : 253 < s.length
  · exact not_may_long' s w hs h
  · exact may_short s w (by omega) hM
end Go.Proofs.YtnaoandleelbkaaGreatDoor
