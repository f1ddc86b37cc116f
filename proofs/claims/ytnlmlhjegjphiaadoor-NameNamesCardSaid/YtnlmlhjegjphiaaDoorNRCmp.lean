/-
  The contracts of the reference's Compare, Fold, and of the row's comparison (Same).
-/
import Derived.Deep.QuietTactic
import Derived.BigQuiet
import Derived.Test.YtnlmlhjegjphiaaDoorNRRest
namespace Go.Proofs.YtnlmlhjegjphiaaDoor
open Go Go.RowKit
set_option maxRecDepth 100000

theorem below_drewN {n : Nat} {w w' : World} (h : Below n w w') (k : Nat) : Below n w (w'.drewN k) := ⟨h.os, h.tape, h.output, h.size, h.block⟩

theorem cmp_common : ∀ (k : Nat) (a b : List UInt8), a.take k = b.take k → k ≤ a.length → k ≤ b.length → Lib.compareBytes a b = Lib.compareBytes (a.drop k) (b.drop k)
  | 0, _, _, _, _, _ => rfl
  | k + 1, [], _, _, h, _ => by simp at h
  | k + 1, _ :: _, [], _, _, h => by simp at h
  | k + 1, x :: a, y :: b, h, h1, h2 => by
    simp only [List.take_succ_cons, List.cons.injEq] at h
    obtain ⟨rfl, h⟩ := h
    have hx : ¬ x < x := UInt8.lt_irrefl x
    show Lib.compareBytes (x :: a) (x :: b) = Lib.compareBytes (a.drop k) (b.drop k)
    have e : Lib.compareBytes (x :: a) (x :: b) = Lib.compareBytes a b := by
      rw [Lib.compareBytes, if_neg hx, if_neg hx]
    rw [e]
    exact cmp_common k a b h (by simpa using h1) (by simpa using h2)

theorem cmp_at {a b : List UInt8} {k : Nat} (h : a.take k = b.take k) (h1 : k < a.length) (h2 : k < b.length) :
    ((a.getD k 0).toNat < (b.getD k 0).toNat → Lib.compareBytes a b = -1) ∧ ((b.getD k 0).toNat < (a.getD k 0).toNat → Lib.compareBytes a b = 1) := by
  rw [cmp_common k a b h (by omega) (by omega), List.drop_eq_getElem_cons h1, List.drop_eq_getElem_cons h2, getD_str a k h1, getD_str b k h2]
  constructor
  · intro h
    unfold Lib.compareBytes
    rw [if_pos (UInt8.lt_iff_toNat_lt.2 h)]
  · intro h
    unfold Lib.compareBytes
    rw [if_neg (fun h' => by have := UInt8.lt_iff_toNat_lt.1 h'; omega), if_pos (UInt8.lt_iff_toNat_lt.2 h)]

theorem cmp_end {a b : List UInt8} {k : Nat} (h : a.take k = b.take k) (h1 : k ≤ a.length) (h2 : k ≤ b.length) (h3 : k = a.length ∨ k = b.length) :
    Lib.compareBytes a b = if a.length < b.length then -1 else if b.length < a.length then 1 else 0 := by
  rw [cmp_common k a b h h1 h2]
  rcases h3 with h3 | h3
  · rw [List.drop_of_length_le (by omega)]
    by_cases e : a.length < b.length
    · rw [if_pos e, List.drop_eq_getElem_cons (show k < b.length by omega)]; rfl
    · rw [if_neg e, if_neg (by omega), List.drop_of_length_le (by omega)]; rfl
  · rw [List.drop_of_length_le (l := b) (by omega)]
    by_cases e : b.length < a.length
    · rw [if_neg (by omega), if_pos e, List.drop_eq_getElem_cons (show k < a.length by omega)]; rfl
    · rw [if_neg (by omega), if_neg e, List.drop_of_length_le (by omega)]; rfl

theorem take_next {a b : List UInt8} {k : Nat} (h : a.take k = b.take k) (h1 : k < a.length) (h2 : k < b.length) (he : a.getD k 0 = b.getD k 0) : a.take (k + 1) = b.take (k + 1) := by
  rw [List.take_succ_eq_append_getElem h1, List.take_succ_eq_append_getElem h2, h, ← getD_str a k h1, ← getD_str b k h2, he]

set_option maxHeartbeats 4000000 in
theorem rcompare_any (a b : List UInt8) (w : World) (ha : a.length ≤ 1000000) (_hb : b.length ≤ 1000000) : Calls Tryd.prog 28 #[.string (str a), .string (str b)] w fun e w' => e = .returned (.int .i64 (Lib.compareBytes a b)) ∧ Below w.heap.size w w' := by
  have HB := Lib.hid (Below.refl w.heap.size w)
  go_enter Tryd.func28, Tryd.ntmps28
  go_wp2_with fail
  go_loopw [5] (fun i wr => ∃ k : Nat, k ≤ a.length ∧ k ≤ b.length ∧ i = .int .i64 k ∧ a.take k = b.take k ∧ Below w.heap.size w wr) (fun i _ => a.length - (intOf i).toNat)
  case atStart => exact ⟨0, Nat.zero_le _, Nat.zero_le _, rfl, rfl, HB.out⟩
  case round =>
    obtain ⟨k, hk1, hk2, rfl, ht, hbl⟩ := hrel
    have HT := Lib.hid ht
    have HL := Lib.hid hbl
    clear ht hbl
    by_cases hlt : k < a.length ∧ k < b.length
    · obtain ⟨h1, h2⟩ := hlt
      obtain ⟨x, hx⟩ : ∃ x, (a.getD k 0).toNat = x := ⟨_, rfl⟩
      obtain ⟨y, hy⟩ : ∃ y, (b.getD k 0).toNat = y := ⟨_, rfl⟩
      have hxs : (((str a)[k]'(by simpa [ByteArray.size] using h1)).toNat) = x := by rw [str_getD a k h1, hx]
      have hys : (((str b)[k]'(by simpa [ByteArray.size] using h2)).toNat) = y := by rw [str_getD b k h2, hy]
      have HC := Lib.hid (cmp_at HT.out h1 h2)
      rw [hx, hy] at HC
      by_cases hxy : x = y
      · have HN := Lib.hid (take_next HT.out h1 h2 (UInt8.toNat_inj.1 (by rw [hx, hy, hxy])))
        have ene : ((x : Int) != (y : Int)) = false := by rw [hxy]; simp
        clear hx hy hxy
        go_wp2_with fail
        go_quiet (fail)
        go_wp2_with fail
        go_roundw
        case rel => exact ⟨k + 1, by omega, by omega, by go_num, HN.out, below_drewN HL.out _⟩
        case measure => simp [intOf]; omega
      · have ene : ((x : Int) != (y : Int)) = true := by rw [bne_iff_ne]; omega
        clear hx hy
        by_cases hl : x < y
        · have HF := Lib.hid (HC.out.1 hl)
          have el : decide (x < y) = true := decide_eq_true hl
          clear hxy hl
          go_wp2_with fail
          go_quiet (fail)
          generalize hW : wr.drewN nq = W2
          have HL2 := Lib.hid (show Below w.heap.size w W2 by rw [← hW]; exact below_drewN HL.out _)
          clear hW
          go_wp2_with fail
          go_quiet (fail)
          go_wp2_with fail
          go_ret
          rw [HF.out]
          exact ⟨rfl, below_drewN HL2.out _⟩
        · have HF := Lib.hid (HC.out.2 (by omega))
          have el : decide (x < y) = false := decide_eq_false hl
          clear hxy hl
          go_wp2_with fail
          go_quiet (fail)
          generalize hW : wr.drewN nq = W2
          have HL2 := Lib.hid (show Below w.heap.size w W2 by rw [← hW]; exact below_drewN HL.out _)
          clear hW
          go_wp2_with fail
          go_quiet (fail)
          go_wp2_with fail
          go_ret
          rw [HF.out]
          exact ⟨rfl, below_drewN HL2.out _⟩
    · have HE := Lib.hid (cmp_end HT.out hk1 hk2 (by omega))
      rcases (show (k = a.length ∧ a.length < b.length) ∨ (k = a.length ∧ a.length = b.length) ∨ (k = b.length ∧ b.length < a.length) by omega) with ⟨h1, h2⟩ | ⟨h1, h2⟩ | ⟨h1, h2⟩
      · obtain rfl : k = a.length := h1
        rw [if_pos h2] at HE
        have e1 : decide (a.length < b.length) = true := decide_eq_true (by omega)
        clear hlt
        go_wp2_with fail
        go_ret
        rw [HE.out]
        exact ⟨rfl, HL.out⟩
      · obtain rfl : k = a.length := h1
        rw [if_neg (by omega), if_neg (by omega)] at HE
        have e1 : decide (a.length < b.length) = false := decide_eq_false (by omega)
        have e2 : decide (b.length < a.length) = false := decide_eq_false (by omega)
        have h4 : (b.length : Int) ≤ (a.length : Int) := by omega
        clear hlt h2
        go_wp2_with fail
        go_ret
        rw [HE.out]
        exact ⟨rfl, HL.out⟩
      · obtain rfl : k = b.length := h1
        rw [if_neg (by omega), if_pos h2] at HE
        have e1 : decide (a.length < b.length) = false := decide_eq_false (by omega)
        have e2 : decide (b.length < a.length) = true := decide_eq_true (by omega)
        clear hlt
        go_wp2_with fail
        go_ret
        rw [HE.out]
        exact ⟨rfl, HL.out⟩

/-- A row of texts, as a slice's value names it. -/
def RowIs (w : World) (v : Value) (xs : List (List UInt8)) : Prop :=
  ∃ A c, v = .slice A xs.length c ∧ (0 < xs.length → ∃ g, A = some ⟨g, 0, none⟩ ∧ g < w.heap.size ∧ (∀ j, j < xs.length → w.cell? ⟨g, j, none⟩ = some (sv (xs.getD j []))) ∧ ∀ j, j < xs.length → w.frozen? ⟨g, j, none⟩ = false)
theorem GT.row {w0 w : World} {v : Value} {xs : List (List UInt8)} (h : GT w0 v xs w) : RowIs w v xs := by
  obtain ⟨A, c, rfl⟩ := h.form
  refine ⟨A, c, rfl, fun hp => ?_⟩
  obtain ⟨g, e, _, hl, hc, hf⟩ := h.cell hp
  exact ⟨g, e, hl, hc, hf⟩
theorem RowIs.step {w w' : World} {v : Value} {xs : List (List UInt8)} (h : RowIs w v xs) (hb : Below w.heap.size w w') : RowIs w' v xs := by
  obtain ⟨A, c, rfl, h⟩ := h
  refine ⟨A, c, rfl, fun hp => ?_⟩
  obtain ⟨g, e, hl, hc, hf⟩ := h hp
  exact ⟨g, e, Nat.lt_of_lt_of_le hl hb.size, fun j hj => (hb.cell (p := ⟨g, j, none⟩) hl).trans (hc j hj), fun j hj => (hb.frozen (p := ⟨g, j, none⟩) hl).trans (hf j hj)⟩

theorem rows_next {xs ys : List (List UInt8)} {k : Nat} (ha : ∀ j, j < k → xs.getD j [] = ys.getD j []) (h : xs.getD k [] = ys.getD k []) : ∀ j, j < k + 1 → xs.getD j [] = ys.getD j [] := by
  intro j hj
  by_cases e : j = k
  · rw [e]; exact h
  · exact ha j (by omega)
theorem rows_eq {xs ys : List (List UInt8)} (hl : xs.length = ys.length) (ha : ∀ j, j < xs.length → xs.getD j [] = ys.getD j []) : xs = ys := by
  refine List.ext_getElem hl fun j h1 h2 => ?_
  have := ha j h1
  rwa [List.getD_eq_getElem?_getD, List.getD_eq_getElem?_getD, List.getElem?_eq_getElem h1, List.getElem?_eq_getElem h2] at this

set_option maxHeartbeats 4000000 in
theorem same_any (xs ys : List (List UInt8)) (v u : Value) (w : World) (hx : RowIs w v xs) (hy : RowIs w u ys) (hxl : xs.length ≤ 1000000) (hyl : ys.length ≤ 1000000) :
    Calls Tryd.prog 23 #[v, u] w fun e w' => e = .returned (.bool (xs == ys)) ∧ Below w.heap.size w w' := by
  obtain ⟨A, c, rfl, hx⟩ := hx
  obtain ⟨B, d, rfl, hy⟩ := hy
  by_cases hl : xs.length = ys.length
  · have hne : ((xs.length : Int) != (ys.length : Int)) = false := by rw [hl]; simp
    have HX := Lib.hid hx
    have HY := Lib.hid hy
    have HLL := Lib.hid hl
    have HB := Lib.hid (Below.refl w.heap.size w)
    clear hx hy hl
    go_enter Tryd.func23, Tryd.ntmps23
    go_wp2_with fail
    go_loopw [5] (fun i wr => ∃ k : Nat, k ≤ xs.length ∧ i = .int .i64 k ∧ (∀ j, j < k → xs.getD j [] = ys.getD j []) ∧ Below w.heap.size w wr) (fun i _ => xs.length - (intOf i).toNat)
    case atStart => exact ⟨0, Nat.zero_le _, rfl, fun j hj => absurd hj (by omega), HB.out⟩
    case round =>
      obtain ⟨k, hk, rfl, ha, hbl⟩ := hrel
      have HA := Lib.hid ha
      have HL := Lib.hid hbl
      clear ha hbl
      by_cases hlt : k < xs.length
      · have hlt2 : k < ys.length := by have := HLL.out; omega
        obtain ⟨g, rfl, hg, hc, _⟩ := HX.out (by omega)
        obtain ⟨g2, rfl, hg2, hc2, _⟩ := HY.out (by omega)
        obtain ⟨x, hxe⟩ : ∃ x, x = xs.getD k [] := ⟨_, rfl⟩
        obtain ⟨y, hye⟩ : ∃ y, y = ys.getD k [] := ⟨_, rfl⟩
        have c1 : wr.cell? ⟨g, k, none⟩ = some (sv x) := by rw [hxe]; exact (HL.out.cell (p := ⟨g, k, none⟩) hg).trans (hc k hlt)
        have c2 : wr.cell? ⟨g2, k, none⟩ = some (sv y) := by rw [hye]; exact (HL.out.cell (p := ⟨g2, k, none⟩) hg2).trans (hc2 k hlt2)
        have HXE := Lib.hid hxe
        have HYE := Lib.hid hye
        clear hxe hye hc hc2
        by_cases hxy : x = y
        · have HN := Lib.hid (rows_next HA.out (by rw [← HXE.out, ← HYE.out, hxy]))
          subst hxy
          go_wp2_with fail
          go_quiet (fail)
          go_wp2_with fail
          go_roundw
          case rel => exact ⟨k + 1, by omega, by go_num, HN.out, below_drewN HL.out _⟩
          case measure => simp [intOf]; omega
        · have HF := Lib.hid (show (xs == ys) = false by
            rw [beq_eq_false_iff_ne]; intro e; exact hxy (by rw [HXE.out, HYE.out, e]))
          have e1 : (x == y) = false := by simpa using hxy
          have e2 : (x != y) = true := by simpa using hxy
          have HXY := Lib.hid hxy
          clear hxy
          go_wp2_with fail
          go_quiet (fail)
          go_wp2_with fail
          go_ret
          rw [HF.out]
          exact ⟨rfl, below_drewN HL.out _⟩
      · obtain rfl : k = xs.length := by omega
        have HE := Lib.hid (show (xs == ys) = true by rw [beq_iff_eq]; exact rows_eq HLL.out HA.out)
        go_wp2_with fail
        go_ret
        rw [HE.out]
        exact ⟨rfl, HL.out⟩
  · have hne : ((xs.length : Int) != (ys.length : Int)) = true := by rw [bne_iff_ne]; omega
    have HF := Lib.hid (show (xs == ys) = false by rw [beq_eq_false_iff_ne]; intro e; exact hl (by rw [e]))
    clear hx hy hl
    go_enter Tryd.func23, Tryd.ntmps23
    go_wp2_with fail
    go_ret
    rw [HF.out]
    exact ⟨rfl, Below.refl _ _⟩
end Go.Proofs.YtnlmlhjegjphiaaDoor
