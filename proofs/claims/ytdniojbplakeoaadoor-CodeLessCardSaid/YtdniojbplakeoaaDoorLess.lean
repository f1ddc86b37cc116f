/-
  The walk of CodeLess.
-/
import Derived.Lib.ItoaLen
import Derived.Test.YtdniojbplakeoaaDoorWorks
namespace Go.Proofs.YtdniojbplakeoaaDoor
open Go Go.RowKit
set_option maxRecDepth 100000

theorem itoa_nat (n : Nat) : Lib.itoa (n : Int) = Lib.decDigits n := by unfold Lib.itoa; rw [if_neg (by omega)]; simp

theorem less_neg (n m : Int) (w : World) (h : n < 0 ∨ m < 0) (hw : LW w) :
    Calls Tryd.prog 9 #[.int .i64 n, .int .i64 m] w fun e w' => e = .returned (.bool true) ∧ Below w.heap.size w w' := by
  have HL := Lib.hid hw
  clear hw
  by_cases hn : n < 0
  · have h1 : decide (n < 0) = true := by simpa using hn
    clear h
    go_enter Tryd.func9, Tryd.ntmps9
    go_wp2_with fail
    refine (works_any w HL.out).mono ?_
    rintro e w1 ⟨rfl, hb⟩
    have HB := Lib.hid hb
    clear hb
    go_wp2_with fail
    refine (works_any w1 (HL.out.below HB.out)).mono ?_
    rintro e w2 ⟨rfl, hb⟩
    have HB2 := Lib.hid (HB.out.trans (hb.mono HB.out.size))
    clear hb
    go_wp2
    go_ret
    exact ⟨rfl, HB2.out⟩
  · have hm : m < 0 := by omega
    have h1 : decide (n < 0) = false := by simpa using hn
    have h2 : decide (m < 0) = true := by simpa using hm
    clear h
    go_enter Tryd.func9, Tryd.ntmps9
    go_wp2_with fail
    refine (works_any w HL.out).mono ?_
    rintro e w1 ⟨rfl, hb⟩
    have HB := Lib.hid hb
    clear hb
    go_wp2_with fail
    refine (works_any w1 (HL.out.below HB.out)).mono ?_
    rintro e w2 ⟨rfl, hb⟩
    have HB2 := Lib.hid (HB.out.trans (hb.mono HB.out.size))
    clear hb
    go_wp2
    go_ret
    exact ⟨rfl, HB2.out⟩

theorem less_pos (n m : Nat) (w : World) (hn : (n : Int) ≤ 9223372036854775807) (hm : (m : Int) ≤ 9223372036854775807) (hw : LW w) :
    Calls Tryd.prog 9 #[.int .i64 n, .int .i64 m] w fun e w' => e = .returned (.bool true) ∧ Below w.heap.size w w' := by
  have HL := Lib.hid hw
  have HLD := Lib.hid (less_dec n m)
  have h1 : decide ((n : Int) < 0) = false := by simp
  have h2 : decide ((m : Int) < 0) = false := by simp
  have HSN := Lib.hid (fun (W : World) (h : LW W) => show_of (itoa_nat n) (by omega) hn W h)
  have HSM := Lib.hid (fun (W : World) (h : LW W) => show_of (itoa_nat m) (by omega) hm W h)
  have hla := Lib.decDigits_length n
  have hlb := Lib.decDigits_length m
  have ha : (Lib.decDigits n).length ≤ 20 := by rw [hla]; exact Lib.nDigits_le20 n (by omega)
  have hb : (Lib.decDigits m).length ≤ 20 := by rw [hlb]; exact Lib.nDigits_le20 m (by omega)
  clear hw hla hlb
  generalize Lib.decDigits n = a at *
  generalize Lib.decDigits m = b at *
  go_enter Tryd.func9, Tryd.ntmps9
  go_wp2_with fail
  refine (works_any w HL.out).mono ?_
  rintro e w1 ⟨rfl, hb⟩
  have HB := Lib.hid hb
  have HL1 := Lib.hid (HL.out.below hb)
  clear hb
  go_wp2_with fail
  refine (HSN.out w1 HL1.out).mono ?_
  rintro e w2 ⟨rfl, hb⟩
  have HB2 := Lib.hid (HB.out.trans (hb.mono HB.out.size))
  have HL2 := Lib.hid (HL1.out.below hb)
  clear hb
  go_wp2_with fail
  refine (HSM.out w2 HL2.out).mono ?_
  rintro e w3 ⟨rfl, hb⟩
  have HB3 := Lib.hid (HB2.out.trans (hb.mono HB2.out.size))
  clear hb
  go_wp2
  all_goals go_ret
  all_goals refine ⟨?_, HB3.out⟩
  · have e : a.length = b.length := by omega
    have hk := HLD.out
    rw [lessB, if_pos e] at hk
    have h0 : ¬ a.length < b.length := by omega
    simp [hk, h0]
  · have e : ¬ a.length = b.length := by omega
    have hk := HLD.out
    rw [lessB, if_neg e] at hk
    simp [hk]
  · have e : ¬ a.length = b.length := by omega
    have h0 : a.length < b.length := by omega
    have hk := HLD.out
    rw [lessB, if_neg e, decide_eq_true h0] at hk
    simp [← hk]
end Go.Proofs.YtdniojbplakeoaaDoor
