/-
  DerOne, walked.
-/
import Derived.Test.YtablllincjoabaaELaw
namespace Go.Proofs.Ytablllincjoabaa
set_option linter.unusedSimpArgs false
set_option linter.unusedVariables false
open Go Go.RowKit
set_option maxRecDepth 100000

/-- Two things lie behind w. -/
def I2 (w : World) (k : Nat) (t : UInt8) (v : List UInt8) (u : UInt8) (x : List UInt8) (W : World) : Prop := IB W k t v ∧ IB W (k + 1) u x ∧ Bh w W
theorem I2.step {w W W' : World} {k : Nat} {t u : UInt8} {v x : List UInt8} (h : I2 w k t v u x W) (hb : Below W.heap.size W W') : I2 w k t v u x W' := ⟨h.1.below hb h.1.lt, h.2.1.below hb h.2.1.lt, h.2.2.step hb⟩
theorem I2.cells {w W : World} {k : Nat} {t u : UInt8} {v x : List UInt8} (h : I2 w k t v u x W) : W.cell? ⟨k, 0, none⟩ = some (.int .u8 (t.toNat : Int)) ∧ W.cell? ⟨k, 1, none⟩ = some (sv v) ∧ W.cell? ⟨k + 1, 0, none⟩ = some (.int .u8 (u.toNat : Int)) ∧ W.cell? ⟨k + 1, 1, none⟩ = some (sv x) := ⟨h.1.c0, h.1.c1, h.2.1.c0, h.2.1.c1⟩
theorem I2.new (w : World) (t u : UInt8) (v x : List UInt8) : I2 w w.heap.size t v u x ((w.alloc (.cells #[.int .u8 (t.toNat : Int), sv v] 29)).alloc (.cells #[.int .u8 (u.toNat : Int), sv x] 29)) := by
  have h1 := IB.new w t v
  have h2 := IB.new (w.alloc (.cells #[.int .u8 (t.toNat : Int), sv v] 29)) u x
  rw [World.size_alloc] at h2
  exact ⟨h1.below (below_alloc _ _) h1.lt, h2, (below_alloc w _).trans ((below_alloc _ _).mono (by simp))⟩

set_option maxHeartbeats 8000000 in
theorem derOne_walk (t : UInt8) (v : List UInt8) (u : UInt8) (x : List UInt8) (hv : v.length ≤ 140737488351232) (hx : x.length ≤ 140737488351232) {w : World} :
    Calls Try.prog 6 #[itv t v, itv u x] w fun e w' => e = .returned (.bool true) ∧ Below w.heap.size w w' := by
  have hI := I2.new w t u v x
  obtain ⟨k, hk⟩ : ∃ k, k = w.heap.size := ⟨_, rfl⟩
  obtain ⟨W1, hW⟩ : ∃ W1, W1 = (w.alloc (.cells #[.int .u8 (t.toNat : Int), sv v] 29)).alloc (.cells #[.int .u8 (u.toNat : Int), sv x] 29) := ⟨_, rfl⟩
  rw [← hW, ← hk] at hI
  have HI := Lib.hid hI
  obtain ⟨c0, c1, c2, c3⟩ := hI.cells
  have HW := Lib.hid hW
  have HK := Lib.hid hk
  have HAW := Lib.hid (fun W (h : I2 w k t v u x W) => show Calls Try.prog 9 #[] W (fun e w' => e = .returned (.bool true) ∧ I2 w k t v u x w') from (awake_any W).mono fun e w' ⟨h1, h2⟩ => ⟨h1, h.step h2⟩)
  clear hI hW hk
  by_cases hl : 70000 < v.length ∨ 70000 < x.length
  · unfold itv
    rcases Nat.lt_or_ge 70000 v.length with h | h
    · clear hl
      go_enter Try.func6, Try.ntmps6
      go_wp2_with fail
      rw [← HW.out, ← HK.out]
      go_wp2_with (go_at_call 9; refine (HAW.out _ HI.out).mono ?_; rintro e w1 ⟨rfl, hi⟩)
      go_ret
      exact ⟨rfl, hi.2.2⟩
    · have h2 : 70000 < x.length := by omega
      clear hl
      go_enter Try.func6, Try.ntmps6
      go_wp2_with fail
      rw [← HW.out, ← HK.out]
      go_wp2_with (go_at_call 9; refine (HAW.out _ HI.out).mono ?_; rintro e w1 ⟨rfl, hi⟩)
      go_ret
      exact ⟨rfl, hi.2.2⟩
  · have l1 : ¬ 70000 < v.length := fun h => hl (.inl h)
    have l2 : ¬ 70000 < x.length := fun h => hl (.inr h)
    have hA := putL_le t v
    have hB := putL_le u x
    have P1 := Lib.hid (fun W (h : I2 w k t v u x W) => show Calls Try.prog 10 #[.agg #[.int .u8 (t.toNat : Int), sv v]] W (fun e w' => e = .returned (.tuple #[sv (putL t v), .int .i64 (putE t v : Nat)]) ∧ I2 w k t v u x w') from (@put_any W t v (by omega)).mono fun e w' ⟨h1, h2⟩ => ⟨h1, h.step h2⟩)
    have P2 := Lib.hid (fun W (h : I2 w k t v u x W) => show Calls Try.prog 10 #[.agg #[.int .u8 (u.toNat : Int), sv x]] W (fun e w' => e = .returned (.tuple #[sv (putL u x), .int .i64 (putE u x : Nat)]) ∧ I2 w k t v u x w') from (@put_any W u x (by omega)).mono fun e w' ⟨h1, h2⟩ => ⟨h1, h.step h2⟩)
    obtain ⟨A, hAe⟩ : ∃ A, A = putL t v := ⟨_, rfl⟩
    obtain ⟨B, hBe⟩ : ∃ A, A = putL u x := ⟨_, rfl⟩
    obtain ⟨E, hE⟩ : ∃ A, A = putE t v := ⟨_, rfl⟩
    obtain ⟨F, hF⟩ : ∃ A, A = putE u x := ⟨_, rfl⟩
    rw [← hAe] at hA
    rw [← hBe] at hB
    rw [← hAe, ← hE] at P1
    rw [← hBe, ← hF] at P2
    have hzA := str_size A
    have hzB := str_size B
    clear hl
    rcases putB_cases t v with ⟨e1, e2, e3, e4⟩ | ⟨e1, e2⟩
    · rw [← hE] at e1
      rw [← hAe] at e2
      rcases putB_cases u x with ⟨f1, f2, f3, f4⟩ | ⟨f1, f2⟩
      · rw [← hF] at f1
        rw [← hBe] at f2
        have hPB : A <+: B → t = u ∧ v = x := fun h => put_begins e3 e4 f3 f4 (by rw [← e2, ← f2]; exact h)
        by_cases hs : t = u ∧ v = x
        · obtain ⟨rfl, rfl⟩ := hs
          have hAB : B = A := by rw [hAe, hBe]
          subst hAB
          have hex : (str B).extract 0 B.length = str B := by rw [str_extract]; simp
          have f1' : F = 0 := f1
          subst f1'
          subst e1
          clear hPB e2 e3 e4 f2 f3 f4 hAe hBe hE hF
          unfold itv
          go_enter Try.func6, Try.ntmps6
          go_wp2_with fail
          rw [← HW.out, ← HK.out]
          go_wp2_with (first
        | (go_at_call 9; refine (HAW.out _ HI.out).mono ?_; rintro e w1 ⟨rfl, hi1⟩; have HI1 := Lib.hid hi1; obtain ⟨d0, d1, d2, d3⟩ := hi1.cells; clear hi1)
        | (go_at_call 10; with_reducible refine (P2.out _ HI2.out).mono ?_; rintro e w3 ⟨rfl, hi3⟩; have HI3 := Lib.hid hi3; obtain ⟨g0, g1, g2, g3⟩ := hi3.cells; clear hi3)
        | (go_at_call 10; with_reducible refine (P1.out _ HI1.out).mono ?_; rintro e w2 ⟨rfl, hi2⟩; have HI2 := Lib.hid hi2; obtain ⟨f0, f1, f2, f3⟩ := hi2.cells; clear hi2))
          go_ret
          exact ⟨rfl, HI3.out.2.2⟩
        · have hnp : ¬ A <+: B := fun h => hs (hPB h)
          have hAB : (A == B) = false := by rw [beq_eq_false_iff_ne]; intro e; exact hnp (by rw [e]; exact List.prefix_refl _)
          have hex : (str B).extract 0 A.length = str (B.take A.length) := by rw [str_extract]; simp
          have htk : (B.take A.length == A) = false := by
            rw [beq_eq_false_iff_ne]; intro e; exact hnp (List.prefix_iff_eq_take.2 e.symm)
          subst e1
          subst f1
          clear hPB e2 e3 e4 f2 f3 f4 hAe hBe hE hF hnp
          by_cases hll : A.length ≤ B.length
          · by_cases ht : t = u
            · have hvx : (v == x) = false := by rw [beq_eq_false_iff_ne]; intro e; exact hs ⟨ht, e⟩
              subst ht
              clear hs
              unfold itv
              go_enter Try.func6, Try.ntmps6
              go_wp2_with fail
              rw [← HW.out, ← HK.out]
              go_wp2_with (first
        | (go_at_call 9; refine (HAW.out _ HI.out).mono ?_; rintro e w1 ⟨rfl, hi1⟩; have HI1 := Lib.hid hi1; obtain ⟨d0, d1, d2, d3⟩ := hi1.cells; clear hi1)
        | (go_at_call 10; with_reducible refine (P2.out _ HI2.out).mono ?_; rintro e w3 ⟨rfl, hi3⟩; have HI3 := Lib.hid hi3; obtain ⟨g0, g1, g2, g3⟩ := hi3.cells; clear hi3)
        | (go_at_call 10; with_reducible refine (P1.out _ HI1.out).mono ?_; rintro e w2 ⟨rfl, hi2⟩; have HI2 := Lib.hid hi2; obtain ⟨f0, f1, f2, f3⟩ := hi2.cells; clear hi2))
              go_ret
              exact ⟨rfl, HI3.out.2.2⟩
            · have htu : ¬ t.toNat = u.toNat := fun e => ht (UInt8.toNat_inj.1 e)
              clear hs ht
              unfold itv
              go_enter Try.func6, Try.ntmps6
              go_wp2_with fail
              rw [← HW.out, ← HK.out]
              go_wp2_with (first
        | (go_at_call 9; refine (HAW.out _ HI.out).mono ?_; rintro e w1 ⟨rfl, hi1⟩; have HI1 := Lib.hid hi1; obtain ⟨d0, d1, d2, d3⟩ := hi1.cells; clear hi1)
        | (go_at_call 10; with_reducible refine (P2.out _ HI2.out).mono ?_; rintro e w3 ⟨rfl, hi3⟩; have HI3 := Lib.hid hi3; obtain ⟨g0, g1, g2, g3⟩ := hi3.cells; clear hi3)
        | (go_at_call 10; with_reducible refine (P1.out _ HI1.out).mono ?_; rintro e w2 ⟨rfl, hi2⟩; have HI2 := Lib.hid hi2; obtain ⟨f0, f1, f2, f3⟩ := hi2.cells; clear hi2))
              go_ret
              exact ⟨rfl, HI3.out.2.2⟩
          · by_cases ht : t = u
            · have hvx : (v == x) = false := by rw [beq_eq_false_iff_ne]; intro e; exact hs ⟨ht, e⟩
              subst ht
              clear hs
              unfold itv
              go_enter Try.func6, Try.ntmps6
              go_wp2_with fail
              rw [← HW.out, ← HK.out]
              go_wp2_with (first
        | (go_at_call 9; refine (HAW.out _ HI.out).mono ?_; rintro e w1 ⟨rfl, hi1⟩; have HI1 := Lib.hid hi1; obtain ⟨d0, d1, d2, d3⟩ := hi1.cells; clear hi1)
        | (go_at_call 10; with_reducible refine (P2.out _ HI2.out).mono ?_; rintro e w3 ⟨rfl, hi3⟩; have HI3 := Lib.hid hi3; obtain ⟨g0, g1, g2, g3⟩ := hi3.cells; clear hi3)
        | (go_at_call 10; with_reducible refine (P1.out _ HI1.out).mono ?_; rintro e w2 ⟨rfl, hi2⟩; have HI2 := Lib.hid hi2; obtain ⟨f0, f1, f2, f3⟩ := hi2.cells; clear hi2))
              go_ret
              exact ⟨rfl, HI3.out.2.2⟩
            · have htu : ¬ t.toNat = u.toNat := fun e => ht (UInt8.toNat_inj.1 e)
              clear hs ht
              unfold itv
              go_enter Try.func6, Try.ntmps6
              go_wp2_with fail
              rw [← HW.out, ← HK.out]
              go_wp2_with (first
        | (go_at_call 9; refine (HAW.out _ HI.out).mono ?_; rintro e w1 ⟨rfl, hi1⟩; have HI1 := Lib.hid hi1; obtain ⟨d0, d1, d2, d3⟩ := hi1.cells; clear hi1)
        | (go_at_call 10; with_reducible refine (P2.out _ HI2.out).mono ?_; rintro e w3 ⟨rfl, hi3⟩; have HI3 := Lib.hid hi3; obtain ⟨g0, g1, g2, g3⟩ := hi3.cells; clear hi3)
        | (go_at_call 10; with_reducible refine (P1.out _ HI1.out).mono ?_; rintro e w2 ⟨rfl, hi2⟩; have HI2 := Lib.hid hi2; obtain ⟨f0, f1, f2, f3⟩ := hi2.cells; clear hi2))
              go_ret
              exact ⟨rfl, HI3.out.2.2⟩
      · rw [← hF] at f1
        have hAn : A.isEmpty = false := by
          have := putT_ne t v
          rw [← e2] at this
          cases A with
          | nil => simp at this
          | cons _ _ => rfl
        subst e1
        clear e2 e3 e4 f2 hAe hBe hE hF
        unfold itv
        go_enter Try.func6, Try.ntmps6
        go_wp2_with fail
        rw [← HW.out, ← HK.out]
        go_wp2_with (first
        | (go_at_call 9; refine (HAW.out _ HI.out).mono ?_; rintro e w1 ⟨rfl, hi1⟩; have HI1 := Lib.hid hi1; obtain ⟨d0, d1, d2, d3⟩ := hi1.cells; clear hi1)
        | (go_at_call 10; with_reducible refine (P2.out _ HI2.out).mono ?_; rintro e w3 ⟨rfl, hi3⟩; have HI3 := Lib.hid hi3; obtain ⟨g0, g1, g2, g3⟩ := hi3.cells; clear hi3)
        | (go_at_call 10; with_reducible refine (P1.out _ HI1.out).mono ?_; rintro e w2 ⟨rfl, hi2⟩; have HI2 := Lib.hid hi2; obtain ⟨f0, f1, f2, f3⟩ := hi2.cells; clear hi2))
        go_ret
        exact ⟨rfl, HI3.out.2.2⟩
    · rw [← hE] at e1
      rw [← hAe] at e2
      subst e2
      have hE0 : ((E : Int) != 0) = true := by rw [bne_iff_ne]; omega
      clear hAe hBe hE hF hzA
      unfold itv
      go_enter Try.func6, Try.ntmps6
      go_wp2_with fail
      rw [← HW.out, ← HK.out]
      go_wp2_with (first
        | (go_at_call 9; refine (HAW.out _ HI.out).mono ?_; rintro e w1 ⟨rfl, hi1⟩; have HI1 := Lib.hid hi1; obtain ⟨d0, d1, d2, d3⟩ := hi1.cells; clear hi1)
        | (go_at_call 10; with_reducible refine (P2.out _ HI2.out).mono ?_; rintro e w3 ⟨rfl, hi3⟩; have HI3 := Lib.hid hi3; obtain ⟨g0, g1, g2, g3⟩ := hi3.cells; clear hi3)
        | (go_at_call 10; with_reducible refine (P1.out _ HI1.out).mono ?_; rintro e w2 ⟨rfl, hi2⟩; have HI2 := Lib.hid hi2; obtain ⟨f0, f1, f2, f3⟩ := hi2.cells; clear hi2))
      go_ret
      exact ⟨rfl, HI3.out.2.2⟩
end Go.Proofs.Ytablllincjoabaa
