/-
  CodeSum of 400 bytes at most.
-/
import Derived.Test.YtdniojbplakeoaaDoorRSum
namespace Go.Proofs.YtdniojbplakeoaaDoor
open Go Go.RowKit
set_option maxRecDepth 100000

theorem codeSum_short (s : List UInt8) (w : World) (hl : ¬ 400 < s.length) (hw : LW w) :
    Calls Tryd.prog 6 #[.string (str s)] w fun e w' => e = .returned (.bool true) ∧ Below w.heap.size w w' := by
  have B0 := BL.start hw
  clear hw
  have hli : ¬ ((400 : Int) < (s.length : Int)) := by omega
  obtain ⟨t, ht⟩ : ∃ t, sumP s = t := ⟨_, rfl⟩
  have H1 := Lib.hid (fun (W : World) (B : BL w W) => bl_sum_of ht (by omega) B)
  have H2 := Lib.hid (show ∀ W : World, BL w W → Calls Tryd.prog 26 #[.string (str s)] W fun e w' => e = .returned (sv t) ∧ BL w w' from fun W B => bl (by rw [← ht]; exact rsum_any s W (by omega)) B)
  clear ht
  go_enter Tryd.func6, Tryd.ntmps6
  go_wp2_with fail
  refine (H1.out _ B0).mono ?_
  rintro e w1 ⟨rfl, B1⟩
  go_wp2_with fail
  refine (H2.out _ B1).mono ?_
  rintro e w2 ⟨rfl, B2⟩
  go_wp2_with fail
  refine (bl_works B2).mono ?_
  rintro e w3 ⟨rfl, B3⟩
  go_wp2
  go_ret
  exact ⟨rfl, B3.below⟩
end Go.Proofs.YtdniojbplakeoaaDoor
