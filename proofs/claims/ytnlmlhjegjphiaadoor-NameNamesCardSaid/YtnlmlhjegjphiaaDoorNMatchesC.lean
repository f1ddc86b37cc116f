/-
  The walk of NameMatches.
-/
import Derived.Test.YtnlmlhjegjphiaaDoorNRCmp
import Derived.Test.YtnlmlhjegjphiaaDoorNAwake
namespace Go.Proofs.YtnlmlhjegjphiaaDoor
open Go Go.RowKit
set_option maxRecDepth 100000

/-- A contract of the reference's, where what it tells is known. -/
theorem blr {w0 w : World} {f : Nat} {args : Array Value} {α : Type} {V : α → Value} {x y : α} (h : Calls Tryd.prog f args w fun e w' => e = .returned (V x) ∧ Below w.heap.size w w') (e : x = y) (hb : BL w0 w) :
    Calls Tryd.prog f args w fun e w' => e = .returned (V y) ∧ BL w0 w' := e ▸ bl h hb

theorem nameMatches_long (a b : List UInt8) (w : World) (ha : a.length ≤ 140737488351232) (hb : b.length ≤ 140737488351232) (h : 5000 < a.length + b.length) (hM : ML w) :
    Calls Tryd.prog 5 #[.string (str a), .string (str b)] w fun e w' => e = .returned (.bool true) ∧ Below w.heap.size w w' := by
  have B0 := BL.start hM
  have h' : (5000 : Int) < (a.length : Int) + (b.length : Int) := by omega
  clear hM h
  go_enter Tryd.func5, Tryd.ntmps5
  go_wp2_with fail
  refine (awake_bl _ B0).mono ?_
  rintro e w1 ⟨rfl, B1⟩
  have HB := Lib.hid B1.below
  go_wp2
  go_ret
  exact ⟨rfl, HB.out⟩

set_option maxHeartbeats 4000000 in
theorem nameMatches_short (a b : List UInt8) (w : World) (h : a.length + b.length ≤ 5000) (hM : ML w) :
    Calls Tryd.prog 5 #[.string (str a), .string (str b)] w fun e w' => e = .returned (.bool true) ∧ Below w.heap.size w w' := by
  have B0 := BL.start hM
  have h0 : (a.length : Int) + (b.length : Int) ≤ 5000 := by omega
  have h1 : a.length ≤ 1000000 := by omega
  have h2 : b.length ≤ 1000000 := by omega
  have h3 : a.length ≤ 5000 := by omega
  have h4 : b.length ≤ 5000 := by omega
  clear hM h
  obtain ⟨p, hp⟩ : ∃ p, patL a = p := ⟨_, rfl⟩
  obtain ⟨m, hm⟩ : ∃ m, matchL a b = m := ⟨_, rfl⟩
  obtain ⟨c, hc⟩ : ∃ c, Lib.compareBytes a b = c := ⟨_, rfl⟩
  have HP := Lib.hid hp
  have HM := Lib.hid hm
  have HC := Lib.hid hc
  clear hp hm hc
  cases hu : underL a b with
  | none =>
    have HU := Lib.hid hu
    clear hu
    go_enter Tryd.func5, Tryd.ntmps5
    go_wp2_with fail
    refine (bl_under HU.out h1 h2 B0).mono ?_
    rintro e w1 ⟨rfl, B1⟩
    unfold optV
    go_wp2_with fail
    refine (blr (V := optV) (runder_any a b _ h1 h2) HU.out B1).mono ?_
    rintro e w2 ⟨rfl, B2⟩
    unfold optV
    go_wp2_with fail
    refine (bl_pattern HP.out h1 B2).mono ?_
    rintro e w3 ⟨rfl, B3⟩
    go_wp2_with fail
    refine (blr (V := .bool) (rpattern_any a _ h1) HP.out B3).mono ?_
    rintro e w4 ⟨rfl, B4⟩
    go_wp2_with fail
    refine (bl_match HM.out h1 h2 B4).mono ?_
    rintro e w5 ⟨rfl, B5⟩
    go_wp2_with fail
    refine (blr (V := .bool) (rmatch_any a b _ h1 h2) HM.out B5).mono ?_
    rintro e w6 ⟨rfl, B6⟩
    go_wp2_with fail
    refine (bl_compare HC.out B6).mono ?_
    rintro e w7 ⟨rfl, B7⟩
    go_wp2_with fail
    refine (blr (V := Value.int .i64) (rcompare_any a b _ h1 h2) HC.out B7).mono ?_
    rintro e w8 ⟨rfl, B8⟩
    go_wp2_with fail
    refine (awake_bl _ B8).mono ?_
    rintro e w9 ⟨rfl, B9⟩
    have HB := Lib.hid B9.below
    go_wp2_with fail
    go_ret
    exact ⟨rfl, HB.out⟩
  | some u =>
    have HU := Lib.hid hu
    clear hu
    go_enter Tryd.func5, Tryd.ntmps5
    go_wp2_with fail
    refine (bl_under HU.out h1 h2 B0).mono ?_
    rintro e w1 ⟨rfl, B1⟩
    unfold optV
    go_wp2_with fail
    refine (blr (V := optV) (runder_any a b _ h1 h2) HU.out B1).mono ?_
    rintro e w2 ⟨rfl, B2⟩
    unfold optV
    go_wp2_with fail
    refine (bl_pattern HP.out h1 B2).mono ?_
    rintro e w3 ⟨rfl, B3⟩
    go_wp2_with fail
    refine (blr (V := .bool) (rpattern_any a _ h1) HP.out B3).mono ?_
    rintro e w4 ⟨rfl, B4⟩
    go_wp2_with fail
    refine (bl_match HM.out h1 h2 B4).mono ?_
    rintro e w5 ⟨rfl, B5⟩
    go_wp2_with fail
    refine (blr (V := .bool) (rmatch_any a b _ h1 h2) HM.out B5).mono ?_
    rintro e w6 ⟨rfl, B6⟩
    go_wp2_with fail
    refine (bl_compare HC.out B6).mono ?_
    rintro e w7 ⟨rfl, B7⟩
    go_wp2_with fail
    refine (blr (V := Value.int .i64) (rcompare_any a b _ h1 h2) HC.out B7).mono ?_
    rintro e w8 ⟨rfl, B8⟩
    go_wp2_with fail
    refine (awake_bl _ B8).mono ?_
    rintro e w9 ⟨rfl, B9⟩
    have HB := Lib.hid B9.below
    go_wp2_with fail
    go_ret
    exact ⟨rfl, HB.out⟩

theorem nameMatches_walk (a b : ByteArray) (ha : a.data.size ≤ 140737488351232) (hb : b.data.size ≤ 140737488351232) (w : World) (hM : ML w) :
    Calls Tryd.prog 5 #[.string a, .string b] w fun e w' => e = .returned (.bool true) ∧ Below w.heap.size w w' := by
  obtain ⟨a, rfl, _⟩ := to_str a
  obtain ⟨b, rfl, _⟩ := to_str b
  have ha' : a.length ≤ 140737488351232 := by simpa using ha
  have hb' : b.length ≤ 140737488351232 := by simpa using hb
  by_cases h : 5000 < a.length + b.length
  · exact nameMatches_long a b w ha' hb' h hM
  · exact nameMatches_short a b w (by omega) hM
end Go.Proofs.YtnlmlhjegjphiaaDoor
