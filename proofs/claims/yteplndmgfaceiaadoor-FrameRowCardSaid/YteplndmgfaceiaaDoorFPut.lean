/-
  Package frame's Put, Many.
-/
import Derived.Test.YteplndmgfaceiaaDoorFFramed
namespace Go.Proofs.YteplndmgfaceiaaDoor
set_option linter.unusedSimpArgs false
set_option linter.unusedVariables false
open Go Go.RowKit
set_option maxRecDepth 100000

set_option maxHeartbeats 2000000 in
theorem put_top {w : World} (a p : Int) (s : List UInt8) (hs : s.length ≤ 9223372036854775807) : Calls Tryd.prog 10 #[.int .i64 a, .int .i64 p, sv s] w fun e w' => e = .returned (.tuple #[sv (putL a p s), .int .i64 (putE a p s.length)]) ∧ Below w.heap.size w w' := by
  have MA := fun W => may_any a p W
  cases hm : mayB a p with
  | false =>
    rw [hm] at MA
    have HE := Lib.hid (show putE a p s.length = 1 by simp [putE, hm])
    have HL := Lib.hid (show putL a p s = [] by rw [putL, HE.out]; rfl)
    go_enter Tryd.func10, Tryd.ntmps10
    go_wp2_with (go_at_call 24; refine (MA _).mono ?_; rintro e w9 ⟨rfl, rfl⟩)
    go_ret2
    exact ⟨by rw [HE.out, HL.out]; rfl, Below.refl _ _⟩
  | true =>
    rw [hm] at MA
    by_cases h : s.length ≤ 112
    · have h' : ¬ ((112 : Int) < (s.length : Int)) := by omega
      have HE := Lib.hid (show putE a p s.length = 0 by simp [putE, hm, h])
      have HL := Lib.hid (show putL a p s = frL a.toNat p.toNat s by rw [putL, HE.out]; rfl)
      obtain ⟨n, q, rfl, rfl, _, h2, h3⟩ := mayB_nat hm
      have FR := fun W => @framed_any W n q s h2 (by omega) h
      go_enter Tryd.func10, Tryd.ntmps10
      go_wp2_with (first | (go_at_call 24; refine (MA _).mono ?_; rintro e w9 ⟨rfl, rfl⟩) | (go_at_call 25; refine (FR _).mono ?_; rintro e w9 ⟨rfl, hb⟩))
      go_ret2
      exact ⟨by rw [HE.out, HL.out]; rfl, hb⟩
    · have h' : (112 : Int) < (s.length : Int) := by omega
      have HE := Lib.hid (show putE a p s.length = 40 by simp [putE, hm, h])
      have HL := Lib.hid (show putL a p s = [] by rw [putL, HE.out]; rfl)
      go_enter Tryd.func10, Tryd.ntmps10
      go_wp2_with (go_at_call 24; refine (MA _).mono ?_; rintro e w9 ⟨rfl, rfl⟩)
      go_ret2
      exact ⟨by rw [HE.out, HL.out]; rfl, Below.refl _ _⟩
theorem many_eq {n : Nat} (h : n ≤ 9223372036854775807) : (n : Int) / 112 + ((n : Int) % 112 + 6 + 112 - 1) / 112 = (manyN n : Nat) := by unfold manyN; omega
set_option maxHeartbeats 2000000 in
theorem many_top {w : World} (z : Int) (h0 : -9223372036854775808 ≤ z) (h1 : z ≤ 9223372036854775807) : Calls Tryd.prog 19 #[.int .i64 z] w fun e w' => e = .returned (.int .i64 (manyI z)) ∧ w = w' := by
  by_cases h : z < 0
  · have HE := Lib.hid (show manyI z = 0 by simp [manyI, h])
    go_enter Tryd.func19, Tryd.ntmps19
    go_wp2_with fail
    go_ret
    exact ⟨by rw [HE.out]; rfl, rfl⟩
  · obtain ⟨n, rfl⟩ : ∃ n : Nat, z = n := ⟨z.toNat, by omega⟩
    have HE := Lib.hid (show manyI (n : Int) = manyN n by unfold manyI; rw [if_neg (by omega)]; simp)
    have HM := Lib.hid (many_eq (n := n) (by omega))
    go_enter Tryd.func19, Tryd.ntmps19
    go_wp2_with fail
    go_ret
    refine ⟨?_, rfl⟩
    rw [HE.out, ← HM.out]
    rfl
end Go.Proofs.YteplndmgfaceiaaDoor
