/-
  Contracts of package cmd's Same and Get; slices.Equal at parameters.
-/
import Derived.Deep.QuietTactic
import Derived.BigQuiet
import Derived.Test.YtbmjmiioobgbfaaGreatDoorKMay
namespace Go.Proofs.YtbmjmiioobgbfaaGreatDoor
open Go Go.RowKit Go.Shelf
set_option maxRecDepth 100000
set_option linter.unusedSimpArgs false
set_option linter.unusedVariables false

theorem rowsP_eq {xs ys : List PM} (hl : xs.length = ys.length) (ha : ∀ j, j < xs.length → xs.getD j pm0 = ys.getD j pm0) : xs = ys := by
  refine List.ext_getElem hl fun j h1 h2 => ?_
  have := ha j h1
  rwa [pm_getD h1, pm_getD h2] at this

set_option maxHeartbeats 4000000 in
theorem equal_any (xs ys : List PM) (v u : Value) (w : World) (hx : PR w v xs) (hy : PR w u ys) (hxl : xs.length ≤ 1000000) (hyl : ys.length ≤ 1000000) :
    Calls Tryz.prog 53 #[v, u] w fun e w' => e = .returned (.bool (xs == ys)) ∧ Below w.heap.size w w' := by
  have HX := Lib.hid hx
  have HY := Lib.hid hy
  obtain ⟨A, c, rfl⟩ := hx.form
  obtain ⟨B, d, rfl⟩ := hy.form
  clear hx hy
  by_cases hl : xs.length = ys.length
  · have hne : ((xs.length : Int) != (ys.length : Int)) = false := by rw [hl]; simp
    have HLL := Lib.hid hl
    have HB := Lib.hid (Below.refl w.heap.size w)
    clear hl
    go_enter Tryz.func53, Tryz.ntmps53
    go_wp2_with fail
    go_loopw [5, 13] (fun _ i wr => ∃ k : Nat, k ≤ xs.length ∧ i = .int .i64 k ∧ (∀ j, j < k → xs.getD j pm0 = ys.getD j pm0) ∧ Below w.heap.size w wr) (fun _ i _ => xs.length - (intOf i).toNat)
    case atStart => exact ⟨0, Nat.zero_le _, rfl, fun j hj => absurd hj (by omega), HB.out⟩
    case round =>
      obtain ⟨k, hk, rfl, ha, hbl⟩ := hrel
      have HA := Lib.hid ha
      have HL := Lib.hid hbl
      clear ha hbl
      by_cases hlt : k < xs.length
      · have hlt2 : k < ys.length := by have := HLL.out; omega
        obtain ⟨g, o, rfl, hg, a0, a1⟩ := PR.at (HX.out.step HL.out) hlt
        obtain ⟨g2, o2, rfl, hg2, b0, b1⟩ := PR.at (HY.out.step HL.out) hlt2
        obtain ⟨p, hp⟩ : ∃ p, p = xs.getD k pm0 := ⟨_, rfl⟩
        obtain ⟨q, hq⟩ : ∃ q, q = ys.getD k pm0 := ⟨_, rfl⟩
        rw [← hp] at a0 a1
        rw [← hq] at b0 b1
        have HP := Lib.hid hp
        have HQ := Lib.hid hq
        obtain ⟨n, x⟩ := p
        obtain ⟨m, y⟩ := q
        dsimp only at a0 a1 b0 b1
        have hk1 : (0 : Int) ≤ (k : Int) := by omega
        have hk2 : (k : Int) < (xs.length : Int) := by omega
        have hk3 : (k : Int) < (ys.length : Int) := by omega
        clear hp hq
        by_cases hnm : n = m
        · by_cases hxy : x = y
          · have HN := Lib.hid (show ∀ j, j < k + 1 → xs.getD j pm0 = ys.getD j pm0 from fun j hj => by
              by_cases e : j = k
              · rw [e, ← HP.out, ← HQ.out, hnm, hxy]
              · exact HA.out j (by omega))
            subst hnm hxy
            go_wp2_with fail
            go_quiet (fail)
            go_wp2_with fail
            go_roundw
            case rel => exact ⟨k + 1, by omega, by go_num, HN.out, below_drewN HL.out _⟩
            case measure => simp [intOf]; omega
          · have HF := Lib.hid (show (xs == ys) = false by
              rw [beq_eq_false_iff_ne]; intro e; rw [e, ← HQ.out] at HP; have := HP.out; simp only [Prod.mk.injEq] at this; exact hxy this.2)
            have e1 : (x == y) = false := by simpa using hxy
            have e2 : (x != y) = true := by simpa using hxy
            subst hnm
            clear hxy
            go_wp2_with fail
            go_quiet (fail)
            go_wp2_with fail
            go_ret
            rw [HF.out]
            exact ⟨rfl, below_drewN HL.out _⟩
        · have HF := Lib.hid (show (xs == ys) = false by
            rw [beq_eq_false_iff_ne]; intro e; rw [e, ← HQ.out] at HP; have := HP.out; simp only [Prod.mk.injEq] at this; exact hnm this.1)
          have e1 : (n == m) = false := by simpa using hnm
          have e2 : (n != m) = true := by simpa using hnm
          clear hnm
          go_wp2_with fail
          go_quiet (fail)
          go_wp2_with fail
          go_ret
          rw [HF.out]
          exact ⟨rfl, below_drewN HL.out _⟩
      · obtain rfl : k = xs.length := by omega
        have HE := Lib.hid (show (xs == ys) = true by rw [beq_iff_eq]; exact rowsP_eq HLL.out HA.out)
        go_wp2_with fail
        go_ret
        rw [HE.out]
        exact ⟨rfl, HL.out⟩
  · have hne : ((xs.length : Int) != (ys.length : Int)) = true := by rw [bne_iff_ne]; omega
    have HF := Lib.hid (show (xs == ys) = false by rw [beq_eq_false_iff_ne]; intro e; exact hl (by rw [e]))
    clear hl
    go_enter Tryz.func53, Tryz.ntmps53
    go_wp2_with fail
    go_ret
    rw [HF.out]
    exact ⟨rfl, Below.refl _ _⟩

def sameK (a b : Cm) : Bool := a.verb == b.verb && (a.arg == b.arg && a.ps == b.ps)
theorem sameK_iff (a b : Cm) : sameK a b = true ↔ a = b := by
  obtain ⟨v, x, p⟩ := a
  obtain ⟨v', x', p'⟩ := b
  unfold sameK
  simp

set_option maxHeartbeats 2000000 in
theorem sameK_any (a b : Cm) (u v : Value) (w : World) (hu : PR w u a.ps) (hv : PR w v b.ps) (hal : a.ps.length ≤ 1000000) (hbl : b.ps.length ≤ 1000000) :
    Calls Tryz.prog 17 #[cmV a u, cmV b v] w fun e w' => e = .returned (.bool (sameK a b)) ∧ Below w.heap.size w w' := by
  obtain ⟨va, xa, pa⟩ := a
  obtain ⟨vb, xb, pb⟩ := b
  dsimp only at hu hv hal hbl ⊢
  have HU := Lib.hid hu
  have HV := Lib.hid hv
  obtain ⟨A, c, rfl⟩ := hu.form
  obtain ⟨B, d, rfl⟩ := hv.form
  clear hu hv
  have HB0 := Lib.hid ((below_alloc w (.cells #[.int .u8 (va : Int), sv xa, .slice A pa.length c] 41)).trans ((below_alloc (w.alloc (.cells #[.int .u8 (va : Int), sv xa, .slice A pa.length c] 41)) (.cells #[.int .u8 (vb : Int), sv xb, .slice B pb.length d] 41)).mono (by simp)))
  have HS := Lib.hid (show sameK ⟨va, xa, pa⟩ ⟨vb, xb, pb⟩ = (va == vb && (xa == xb && pa == pb)) from rfl)
  by_cases h1 : va = vb
  · by_cases h2 : xa = xb
    · have HF := Lib.hid (show sameK ⟨va, xa, pa⟩ ⟨vb, xb, pb⟩ = (pa == pb) by rw [HS.out, h1, h2]; simp)
      subst h1 h2
      go_enter Tryz.func17, Tryz.ntmps17
      go_wp2_with fail
      refine (equal_any pa pb _ _ _ (HU.out.step HB0.out) (HV.out.step HB0.out) hal hbl).mono ?_
      rintro e w1 ⟨rfl, hb1⟩
      have HB1 := Lib.hid (HB0.out.trans (hb1.mono HB0.out.size))
      clear hb1
      go_wp2
      go_ret
      rw [HF.out]
      exact ⟨rfl, HB1.out⟩
    · have HF := Lib.hid (show sameK ⟨va, xa, pa⟩ ⟨vb, xb, pb⟩ = false by
        rw [HS.out, show (xa == xb) = false by simpa using h2]; simp)
      have e2 : (xa == xb) = false := by simpa using h2
      subst h1
      clear h2
      go_enter Tryz.func17, Tryz.ntmps17
      go_wp2
      go_ret
      rw [HF.out]
      exact ⟨rfl, HB0.out⟩
  · have HF := Lib.hid (show sameK ⟨va, xa, pa⟩ ⟨vb, xb, pb⟩ = false by
      rw [HS.out, show (va == vb) = false by simpa using h1]; simp)
    have e1 : ((va : Int) == (vb : Int)) = false := by rw [beq_eq_false_iff_ne]; omega
    clear h1
    go_enter Tryz.func17, Tryz.ntmps17
    go_wp2
    go_ret
    rw [HF.out]
    exact ⟨rfl, HB0.out⟩

/-! ### Get -/
/-- The value of the first parameter of that name. -/
def getP (l : List PM) (n : List UInt8) : List UInt8 × Bool := if findP l n < 0 then ([], false) else ((l.getD (findP l n).toNat pm0).2, true)

set_option maxHeartbeats 2000000 in
theorem getK_any (a : Cm) (n : List UInt8) (u : Value) (w : World) (hu : PR w u a.ps) (hal : a.ps.length ≤ 1000000) (hx : ∀ p ∈ a.ps, p.2.length ≤ 1000000) :
    Calls Tryz.prog 25 #[cmV a u, sv n] w fun e w' => e = .returned (.tuple #[sv (getP a.ps n).1, .bool (getP a.ps n).2]) ∧ Below w.heap.size w w' := by
  obtain ⟨va, xa, ps⟩ := a
  dsimp only at hu hal hx ⊢
  have HU := Lib.hid hu
  obtain ⟨A, c, rfl⟩ := hu.form
  clear hu
  have HB0 := Lib.hid (below_alloc w (.cells #[.int .u8 (va : Int), sv xa, .slice A ps.length c] 41))
  have HQ := Lib.hid (heap_alloc_new w (.cells #[.int .u8 (va : Int), sv xa, .slice A ps.length c] 41))
  obtain ⟨r, hr⟩ : ∃ r, r = findP ps n := ⟨_, rfl⟩
  have hrr : -1 ≤ r ∧ r < ps.length := by rw [hr]; exact findP_range _ _
  have HG := Lib.hid (show getP ps n = if r < 0 then ([], false) else ((ps.getD r.toNat pm0).2, true) by unfold getP; rw [hr])
  have HR := Lib.hid hr
  clear hr
  obtain ⟨r1, r2⟩ := hrr
  by_cases hneg : r < 0
  · have HF := Lib.hid (show getP ps n = ([], false) by rw [HG.out, if_pos hneg])
    go_enter Tryz.func25, Tryz.ntmps25
    go_wp2_with fail
    refine (find_any ps _ n _ (HU.out.step HB0.out) hal).mono ?_
    rintro e w1 ⟨rfl, hb1⟩
    rw [← HR.out]
    have HB1 := Lib.hid (HB0.out.trans (hb1.mono HB0.out.size))
    clear hb1
    go_wp2
    go_ret2
    rw [HF.out]
    exact ⟨rfl, HB1.out⟩
  · obtain ⟨k, rfl⟩ : ∃ k : Nat, r = (k : Int) := ⟨r.toNat, by omega⟩
    have hk : k < ps.length := by omega
    have HF := Lib.hid (show getP ps n = ((ps.getD k pm0).2, true) by rw [HG.out, if_neg hneg]; rfl)
    obtain ⟨p, hp⟩ : ∃ p, p = ps.getD k pm0 := ⟨_, rfl⟩
    have hpl : p.2.length ≤ 1000000 := hx p (by rw [hp]; exact pm_mem hk)
    have HP := Lib.hid hp
    rw [← hp] at HF
    clear hp hneg
    go_enter Tryz.func25, Tryz.ntmps25
    go_wp2_with fail
    refine (find_any ps _ n _ (HU.out.step HB0.out) hal).mono ?_
    rintro e w1 ⟨rfl, hb1⟩
    rw [← HR.out]
    have HB1 := Lib.hid (HB0.out.trans (hb1.mono HB0.out.size))
    have hq := blk_below HQ.out hb1
    have q2 : w1.cell? ⟨w.heap.size, 2, none⟩ = some (.slice A ps.length c) := by rw [cellAt hq]; rfl
    obtain ⟨g, o, rfl, hg, a0, a1⟩ := PR.at (HU.out.step HB1.out) hk
    rw [← HP.out] at a1
    clear hb1 hq a0
    go_wp2_with fail
    refine (clone_any (str p.2) _ (by simp [ByteArray.size]; omega)).mono ?_
    rintro e w2 ⟨rfl, hb2⟩
    have HB2 := Lib.hid (HB1.out.trans (hb2.mono HB1.out.size))
    clear hb2
    go_wp2
    go_ret2
    rw [HF.out]
    exact ⟨rfl, HB2.out⟩
end Go.Proofs.YtbmjmiioobgbfaaGreatDoor
