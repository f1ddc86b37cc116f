/-
  The walk of NameRow.
-/
import Derived.WalkLawsBesides
import Derived.Test.YtnlmlhjegjphiaaDoorNAwake
namespace Go.Proofs.YtnlmlhjegjphiaaDoor
open Go Go.RowKit
set_option maxRecDepth 100000

theorem bytesLess_cmp : ∀ (a b : List UInt8), Op.bytesLess a b = decide (Lib.compareBytes a b < 0)
  | [], [] => rfl
  | _ :: _, [] => rfl
  | [], _ :: _ => rfl
  | x :: a, y :: b => by
    unfold Op.bytesLess Lib.compareBytes
    rw [bytesLess_cmp a b]
    by_cases h1 : x < y
    · simp [h1]
    · by_cases h2 : y < x
      · have : ¬ x = y := fun e => by subst e; exact h1 h2
        simp [h1, h2, this]
      · have e : x = y := UInt8.le_antisymm (UInt8.not_lt.1 h2) (UInt8.not_lt.1 h1)
        simp [e]

theorem nameRow_long (a b c : List UInt8) (w : World) (ha : a.length ≤ 140737488351232) (hb : b.length ≤ 140737488351232) (hc : c.length ≤ 140737488351232) (h : 5000 < a.length + b.length + c.length) (hM : ML w) :
    Calls Tryd.prog 9 #[.string (str a), .string (str b), .string (str c)] w fun e w' => e = .returned (.bool true) ∧ Below w.heap.size w w' := by
  have B0 := BL.start hM
  have h' : (5000 : Int) < (a.length : Int) + (b.length : Int) + (c.length : Int) := by omega
  clear hM h
  go_enter Tryd.func9, Tryd.ntmps9
  go_wp2_with fail
  refine (awake_bl _ B0).mono ?_
  rintro e w1 ⟨rfl, B1⟩
  have HB := Lib.hid B1.below
  go_wp2
  go_ret
  exact ⟨rfl, HB.out⟩

set_option maxHeartbeats 4000000 in
theorem nameRow_short (a b c : List UInt8) (w : World) (h : a.length + b.length + c.length ≤ 5000) (hM : ML w) :
    Calls Tryd.prog 9 #[.string (str a), .string (str b), .string (str c)] w fun e w' => e = .returned (.bool true) ∧ Below w.heap.size w w' := by
  have B0 := BL.start hM
  have h' : (a.length : Int) + (b.length : Int) + (c.length : Int) ≤ 5000 := by omega
  have h1 : a.length ≤ 5000 := by omega
  have h2 : b.length ≤ 5000 := by omega
  have h3 : c.length ≤ 5000 := by omega
  clear hM h
  obtain ⟨x, hx⟩ : ∃ x, Lib.compareBytes a b = x := ⟨_, rfl⟩
  obtain ⟨y, hy⟩ : ∃ y, Lib.compareBytes b c = y := ⟨_, rfl⟩
  obtain ⟨z, hz⟩ : ∃ z, Lib.compareBytes a c = z := ⟨_, rfl⟩
  have hxb := cmp_bound a b
  rw [hx] at hxb
  have hba : Lib.compareBytes b a = -x := by rw [cmp_swap, hx]
  have ht := cmp_trans a b c
  rw [hx, hy, hz] at ht
  have HX := Lib.hid hx
  have HY := Lib.hid hy
  have HZ := Lib.hid hz
  have HBA := Lib.hid hba
  have HT := Lib.hid ht
  rcases (show x = -1 ∨ x = 0 ∨ x = 1 by omega) with rfl | rfl | rfl
  · have hne : a ≠ b := fun e => by have := (cmp_zero a b).2 e; rw [hx] at this; cases this
    have eab : (a == b) = false := by simpa using hne
    have ebl : Op.bytesLess a b = true := by rw [bytesLess_cmp, hx]; rfl
    clear hx hy hz hba ht hxb hne
    by_cases hy0 : 0 < y
    · have ey : decide (0 < y) = true := decide_eq_true hy0
      clear hy0
      go_enter Tryd.func9, Tryd.ntmps9
      go_wp2_with fail
      refine (awake_bl _ B0).mono ?_
      rintro e w1 ⟨rfl, B1⟩
      go_wp2_with fail
      refine (bl_compare HX.out B1).mono ?_
      rintro e w2 ⟨rfl, B2⟩
      go_wp2_with fail
      refine (bl_compare HY.out B2).mono ?_
      rintro e w3 ⟨rfl, B3⟩
      go_wp2_with fail
      refine (bl_compare HZ.out B3).mono ?_
      rintro e w4 ⟨rfl, B4⟩
      go_wp2_with fail
      refine (bl_compare HBA.out B4).mono ?_
      rintro e w5 ⟨rfl, B5⟩
      have HB := Lib.hid B5.below
      go_wp2_with fail
      go_ret
      exact ⟨rfl, HB.out⟩
    · have ey : decide (0 < y) = false := decide_eq_false hy0
      have ez : decide (z ≤ 0) = true := decide_eq_true (HT.out (by omega) (by omega))
      have hy1 : y ≤ 0 := by omega
      clear hy0
      go_enter Tryd.func9, Tryd.ntmps9
      go_wp2_with fail
      refine (awake_bl _ B0).mono ?_
      rintro e w1 ⟨rfl, B1⟩
      go_wp2_with fail
      refine (bl_compare HX.out B1).mono ?_
      rintro e w2 ⟨rfl, B2⟩
      go_wp2_with fail
      refine (bl_compare HY.out B2).mono ?_
      rintro e w3 ⟨rfl, B3⟩
      go_wp2_with fail
      refine (bl_compare HZ.out B3).mono ?_
      rintro e w4 ⟨rfl, B4⟩
      go_wp2_with fail
      refine (bl_compare HBA.out B4).mono ?_
      rintro e w5 ⟨rfl, B5⟩
      have HB := Lib.hid B5.below
      go_wp2_with fail
      go_ret
      exact ⟨rfl, HB.out⟩
  · have he : a = b := (cmp_zero a b).1 hx
    have eab : (a == b) = true := by simpa using he
    have ebl : Op.bytesLess a b = false := by rw [bytesLess_cmp, hx]; rfl
    have HE := Lib.hid he
    clear hx hy hz hba ht hxb he
    by_cases hy0 : 0 < y
    · have ey : decide (0 < y) = true := decide_eq_true hy0
      clear hy0
      go_enter Tryd.func9, Tryd.ntmps9
      go_wp2_with fail
      refine (awake_bl _ B0).mono ?_
      rintro e w1 ⟨rfl, B1⟩
      go_wp2_with fail
      refine (bl_compare HX.out B1).mono ?_
      rintro e w2 ⟨rfl, B2⟩
      go_wp2_with fail
      refine (bl_compare HY.out B2).mono ?_
      rintro e w3 ⟨rfl, B3⟩
      go_wp2_with fail
      refine (bl_compare HZ.out B3).mono ?_
      rintro e w4 ⟨rfl, B4⟩
      go_wp2_with fail
      refine (bl_compare HBA.out B4).mono ?_
      rintro e w5 ⟨rfl, B5⟩
      have HB := Lib.hid B5.below
      go_wp2_with fail
      go_ret
      exact ⟨rfl, HB.out⟩
    · have ey : decide (0 < y) = false := decide_eq_false hy0
      have ez : decide (z ≤ 0) = true := decide_eq_true (HT.out (by omega) (by omega))
      have hy1 : y ≤ 0 := by omega
      clear hy0
      go_enter Tryd.func9, Tryd.ntmps9
      go_wp2_with fail
      refine (awake_bl _ B0).mono ?_
      rintro e w1 ⟨rfl, B1⟩
      go_wp2_with fail
      refine (bl_compare HX.out B1).mono ?_
      rintro e w2 ⟨rfl, B2⟩
      go_wp2_with fail
      refine (bl_compare HY.out B2).mono ?_
      rintro e w3 ⟨rfl, B3⟩
      go_wp2_with fail
      refine (bl_compare HZ.out B3).mono ?_
      rintro e w4 ⟨rfl, B4⟩
      go_wp2_with fail
      refine (bl_compare HBA.out B4).mono ?_
      rintro e w5 ⟨rfl, B5⟩
      have HB := Lib.hid B5.below
      go_wp2_with fail
      go_ret
      exact ⟨rfl, HB.out⟩
  · have hne : a ≠ b := fun e => by have := (cmp_zero a b).2 e; rw [hx] at this; cases this
    have eab : (a == b) = false := by simpa using hne
    have ebl : Op.bytesLess a b = false := by rw [bytesLess_cmp, hx]; rfl
    clear hx hy hz hba ht hxb hne
    go_enter Tryd.func9, Tryd.ntmps9
    go_wp2_with fail
    refine (awake_bl _ B0).mono ?_
    rintro e w1 ⟨rfl, B1⟩
    go_wp2_with fail
    refine (bl_compare HX.out B1).mono ?_
    rintro e w2 ⟨rfl, B2⟩
    go_wp2_with fail
    refine (bl_compare HY.out B2).mono ?_
    rintro e w3 ⟨rfl, B3⟩
    go_wp2_with fail
    refine (bl_compare HZ.out B3).mono ?_
    rintro e w4 ⟨rfl, B4⟩
    go_wp2_with fail
    refine (bl_compare HBA.out B4).mono ?_
    rintro e w5 ⟨rfl, B5⟩
    have HB := Lib.hid B5.below
    go_wp2_with fail
    go_ret
    exact ⟨rfl, HB.out⟩

theorem nameRow_walk (a b c : ByteArray) (ha : a.data.size ≤ 140737488351232) (hb : b.data.size ≤ 140737488351232) (hc : c.data.size ≤ 140737488351232) (w : World) (hM : ML w) :
    Calls Tryd.prog 9 #[.string a, .string b, .string c] w fun e w' => e = .returned (.bool true) ∧ Below w.heap.size w w' := by
  obtain ⟨a, rfl, _⟩ := to_str a
  obtain ⟨b, rfl, _⟩ := to_str b
  obtain ⟨c, rfl, _⟩ := to_str c
  have ha' : a.length ≤ 140737488351232 := by simpa using ha
  have hb' : b.length ≤ 140737488351232 := by simpa using hb
  have hc' : c.length ≤ 140737488351232 := by simpa using hc
  by_cases h : 5000 < a.length + b.length + c.length
  · exact nameRow_long a b c w ha' hb' hc' h hM
  · exact nameRow_short a b c w (by omega) hM
end Go.Proofs.YtnlmlhjegjphiaaDoor
