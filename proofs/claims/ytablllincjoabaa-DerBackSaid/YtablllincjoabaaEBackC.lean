/-
  DerBack, walked.
-/
import Derived.Test.YtablllincjoabaaELaw
namespace Go.Proofs.Ytablllincjoabaa
set_option linter.unusedSimpArgs false
set_option linter.unusedVariables false
open Go Go.RowKit
set_option maxRecDepth 100000

/-- A thing lies behind w. -/
def I1 (w : World) (k : Nat) (t : UInt8) (v : List UInt8) (W : World) : Prop := IB W k t v ∧ Bh w W
theorem I1.step {w W W' : World} {k : Nat} {t : UInt8} {v : List UInt8} (h : I1 w k t v W) (hb : Below W.heap.size W W') : I1 w k t v W' := ⟨h.1.below hb h.1.lt, h.2.step hb⟩
theorem I1.new (w : World) (t : UInt8) (v : List UInt8) : I1 w w.heap.size t v (w.alloc (.cells #[.int .u8 (t.toNat : Int), sv v] 29)) := ⟨IB.new w t v, below_alloc _ _⟩

theorem I1.cells {w W : World} {k : Nat} {t : UInt8} {v : List UInt8} (h : I1 w k t v W) : W.cell? ⟨k, 0, none⟩ = some (.int .u8 (t.toNat : Int)) ∧ W.cell? ⟨k, 1, none⟩ = some (sv v) ∧ k < W.heap.size := ⟨h.1.c0, h.1.c1, h.1.lt⟩
theorem I1.alloc {w W : World} {k : Nat} {t : UInt8} {v : List UInt8} (h : I1 w k t v W) (o : Obj) : I1 w k t v (W.alloc o) := h.step (below_alloc _ _)
set_option maxHeartbeats 8000000 in
theorem derBack_walk (t : UInt8) (v : List UInt8) (s : List UInt8) (hv : v.length ≤ 140737488351232) (hs : s.length ≤ 140737488351232) {w : World} :
    Calls Try.prog 5 #[itv t v, sv s] w fun e w' => e = .returned (.bool true) ∧ Below w.heap.size w w' := by
  have hI := I1.new w t v
  obtain ⟨k, hk⟩ : ∃ k, k = w.heap.size := ⟨_, rfl⟩
  obtain ⟨W1, hW⟩ : ∃ W1, W1 = w.alloc (.cells #[.int .u8 (t.toNat : Int), sv v] 29) := ⟨_, rfl⟩
  rw [← hW, ← hk] at hI
  have HI := Lib.hid hI
  have c0 := hI.1.c0
  have c1 := hI.1.c1
  have HW := Lib.hid hW
  have HK := Lib.hid hk
  have hzs := str_size s
  have HAW := Lib.hid (fun W (h : I1 w k t v W) => show Calls Try.prog 9 #[] W (fun e w' => e = .returned (.bool true) ∧ I1 w k t v w') from (awake_any W).mono fun e w' ⟨h1, h2⟩ => ⟨h1, h.step h2⟩)
  clear hI hW hk
  by_cases hl : 70000 < v.length ∨ 70000 < s.length
  · unfold itv
    rcases Nat.lt_or_ge 70000 v.length with h | h
    · clear hl
      go_enter Try.func5, Try.ntmps5
      go_wp2_with fail
      rw [← HW.out, ← HK.out]
      go_wp2_with (go_at_call 9; refine (HAW.out _ HI.out).mono ?_; rintro e w1 ⟨rfl, hi⟩)
      go_ret
      exact ⟨rfl, hi.2⟩
    · have h2 : 70000 < s.length := by omega
      clear hl
      go_enter Try.func5, Try.ntmps5
      go_wp2_with fail
      rw [← HW.out, ← HK.out]
      go_wp2_with (go_at_call 9; refine (HAW.out _ HI.out).mono ?_; rintro e w1 ⟨rfl, hi⟩)
      go_ret
      exact ⟨rfl, hi.2⟩
  · have l1 : ¬ 70000 < v.length := fun h => hl (.inl h)
    have l2 : ¬ 70000 < s.length := fun h => hl (.inr h)
    have hA := putL_le t v
    have P1 := Lib.hid (fun W (h : I1 w k t v W) => show Calls Try.prog 10 #[.agg #[.int .u8 (t.toNat : Int), sv v]] W (fun e w' => e = .returned (.tuple #[sv (putL t v), .int .i64 (putE t v : Nat)]) ∧ I1 w k t v w') from (@put_any W t v (by omega)).mono fun e w' ⟨h1, h2⟩ => ⟨h1, h.step h2⟩)
    have G2 : ∀ W (h : I1 w k t v W), Calls Try.prog 12 #[sv s] W (fun e w' => e = .returned (cutV (cutP s)) ∧ I1 w k t v w') := fun W h => (@get_any W s (by omega)).mono fun e w' ⟨h1, h2⟩ => ⟨h1, h.step h2⟩
    have G1 : putE t v = 0 → ∀ W (h : I1 w k t v W), Calls Try.prog 12 #[sv (putL t v ++ s)] W (fun e w' => e = .returned (.tuple #[.agg #[.int .u8 (t.toNat : Int), sv v], sv s, .int .i64 0]) ∧ I1 w k t v w') := fun he W h => by
      rcases putB_cases t v with ⟨e1, e2, e3, e4⟩ | ⟨e1, e2⟩
      · have := @get_any W (putL t v ++ s) (by simp; omega)
        rw [e2, cutP_put t v s e3 e4] at this
        rw [e2]
        exact this.mono fun e w' ⟨h1, h2⟩ => ⟨h1, h.step h2⟩
      · exact absurd he e1
    obtain ⟨A, hAe⟩ : ∃ A, A = putL t v := ⟨_, rfl⟩
    obtain ⟨E, hE⟩ : ∃ A, A = putE t v := ⟨_, rfl⟩
    rw [← hAe] at hA
    rw [← hAe, ← hE] at P1
    rw [← hE, ← hAe] at G1
    have hzA := str_size A
    have hcat : str A ++ str s = str (A ++ s) := str_append A s
    have hal : A.length ≤ 70004 := by omega
    clear hl hAe hE hA
    -- what is got of s
    have key : ∀ (q : Rd (Tv × List UInt8)), q = cutP s → Calls Try.prog 5 #[itv t v, sv s] w fun e w' => e = .returned (.bool true) ∧ Below w.heap.size w w' := by
      intro q hq
      rw [← hq] at G2
      cases q with
      | er x =>
        have HX := cutP_er hq.symm
        have hx0 : ((x : Int) != 0) = true := by rw [bne_iff_ne]; omega
        have hx1 : ¬ x = 0 := by omega
        have G2' := Lib.hid (fun W (h : I1 w k t v W) => show Calls Try.prog 12 #[sv s] W (fun e w' => e = .returned (.tuple #[.agg #[.int .u8 0, sv []], sv [], .int .i64 (x : Int)]) ∧ I1 w k t v w') from G2 W h)
        clear G2 HX hq
        by_cases h0 : E = 0
        · subst h0
          have G1' := Lib.hid (G1 rfl)
          clear G1
          unfold itv
          have hi := HI.out
          go_enter Try.func5, Try.ntmps5
          go_wp2_with fail
          rw [← HW.out, ← HK.out]
          go_wp2_with (first
            | (go_at_call 9; with_reducible refine (HAW.out _ (by first | assumption | exact I1.alloc (by assumption) _)).mono ?_; rintro e w1 ⟨rfl, hi⟩; obtain ⟨q0, q1, q2⟩ := hi.cells)
            | (go_at_call 10; with_reducible refine (P1.out _ (by first | assumption | exact I1.alloc (by assumption) _)).mono ?_; rintro e w1 ⟨rfl, hi⟩; obtain ⟨q0, q1, q2⟩ := hi.cells)
            | (go_at_call 12; with_reducible refine (G1'.out _ (by first | assumption | exact I1.alloc (by assumption) _)).mono ?_; rintro e w1 ⟨rfl, hi⟩; obtain ⟨q0, q1, q2⟩ := hi.cells)
            | (go_at_call 12; with_reducible refine (G2'.out _ (by first | assumption | exact I1.alloc (by assumption) _)).mono ?_; rintro e w1 ⟨rfl, hi⟩; obtain ⟨q0, q1, q2⟩ := hi.cells))
          go_ret
          refine ⟨rfl, (show I1 w k t v _ from by first | assumption | exact I1.alloc (by assumption) _).2⟩
        · have h0' : ((E : Int) == 0) = false := by rw [beq_eq_false_iff_ne]; omega
          clear G1
          unfold itv
          have hi := HI.out
          go_enter Try.func5, Try.ntmps5
          go_wp2_with fail
          rw [← HW.out, ← HK.out]
          go_wp2_with (first
            | (go_at_call 9; with_reducible refine (HAW.out _ (by first | assumption | exact I1.alloc (by assumption) _)).mono ?_; rintro e w1 ⟨rfl, hi⟩; obtain ⟨q0, q1, q2⟩ := hi.cells)
            | (go_at_call 10; with_reducible refine (P1.out _ (by first | assumption | exact I1.alloc (by assumption) _)).mono ?_; rintro e w1 ⟨rfl, hi⟩; obtain ⟨q0, q1, q2⟩ := hi.cells)
            | (go_at_call 12; with_reducible refine (G2'.out _ (by first | assumption | exact I1.alloc (by assumption) _)).mono ?_; rintro e w1 ⟨rfl, hi⟩; obtain ⟨q0, q1, q2⟩ := hi.cells))
          go_ret
          refine ⟨rfl, (show I1 w k t v _ from by first | assumption | exact I1.alloc (by assumption) _).2⟩
      | ok p =>
        obtain ⟨⟨u, x⟩, r⟩ := p
        obtain ⟨h1, h2, h3⟩ := cutP_ok hq.symm
        obtain ⟨e1, e2⟩ := putE_ok (t := u) (v := x) h1 h2
        have hxl := (cutP_len hq.symm).1
        have P2 := Lib.hid (fun W (h : I1 w k t v W) => show Calls Try.prog 10 #[.agg #[.int .u8 (u.toNat : Int), sv x]] W (fun e w' => e = .returned (.tuple #[sv (putT u x), .int .i64 0]) ∧ I1 w k t v w') from (@put_any W u x (by omega)).mono fun e w' ⟨h1, h2⟩ => ⟨by rw [e1, e2] at h1; exact h1, h.step h2⟩)
        have G2' := Lib.hid (fun W (h : I1 w k t v W) => show Calls Try.prog 12 #[sv s] W (fun e w' => e = .returned (.tuple #[.agg #[.int .u8 (u.toNat : Int), sv x], sv r, .int .i64 0]) ∧ I1 w k t v w') from G2 W h)
        obtain ⟨B, hB⟩ : ∃ B, B = putT u x := ⟨_, rfl⟩
        rw [← hB] at P2 h3
        have hBl : B.length ≤ s.length := by rw [h3]; simp
        have hcat2 : str B ++ str r = str s := by rw [h3]; exact str_append B r
        have hzB := str_size B
        have hlen : B.length + r.length = s.length := by rw [h3]; simp
        clear G2 hq h1 h2 h3 e1 e2 hB
        by_cases h0 : E = 0
        · subst h0
          have G1' := Lib.hid (G1 rfl)
          clear G1
          unfold itv
          have hi := HI.out
          go_enter Try.func5, Try.ntmps5
          go_wp2_with fail
          rw [← HW.out, ← HK.out]
          go_wp2_with (first
            | (go_at_call 9; with_reducible refine (HAW.out _ (by first | assumption | exact I1.alloc (by assumption) _)).mono ?_; rintro e w1 ⟨rfl, hi⟩; obtain ⟨q0, q1, q2⟩ := hi.cells)
            | (go_at_call 10; with_reducible refine (P1.out _ (by first | assumption | exact I1.alloc (by assumption) _)).mono ?_; rintro e w1 ⟨rfl, hi⟩; obtain ⟨q0, q1, q2⟩ := hi.cells)
            | (go_at_call 10; with_reducible refine (P2.out _ (by first | assumption | exact I1.alloc (by assumption) _)).mono ?_; rintro e w1 ⟨rfl, hi⟩; obtain ⟨q0, q1, q2⟩ := hi.cells)
            | (go_at_call 12; with_reducible refine (G1'.out _ (by first | assumption | exact I1.alloc (by assumption) _)).mono ?_; rintro e w1 ⟨rfl, hi⟩; obtain ⟨q0, q1, q2⟩ := hi.cells)
            | (go_at_call 12; with_reducible refine (G2'.out _ (by first | assumption | exact I1.alloc (by assumption) _)).mono ?_; rintro e w1 ⟨rfl, hi⟩; obtain ⟨q0, q1, q2⟩ := hi.cells))
          go_ret
          refine ⟨rfl, (show I1 w k t v _ from by first | assumption | exact I1.alloc (by assumption) _).2⟩
        · have h0' : ((E : Int) == 0) = false := by rw [beq_eq_false_iff_ne]; omega
          clear G1
          unfold itv
          have hi := HI.out
          go_enter Try.func5, Try.ntmps5
          go_wp2_with fail
          rw [← HW.out, ← HK.out]
          go_wp2_with (first
            | (go_at_call 9; with_reducible refine (HAW.out _ (by first | assumption | exact I1.alloc (by assumption) _)).mono ?_; rintro e w1 ⟨rfl, hi⟩; obtain ⟨q0, q1, q2⟩ := hi.cells)
            | (go_at_call 10; with_reducible refine (P1.out _ (by first | assumption | exact I1.alloc (by assumption) _)).mono ?_; rintro e w1 ⟨rfl, hi⟩; obtain ⟨q0, q1, q2⟩ := hi.cells)
            | (go_at_call 10; with_reducible refine (P2.out _ (by first | assumption | exact I1.alloc (by assumption) _)).mono ?_; rintro e w1 ⟨rfl, hi⟩; obtain ⟨q0, q1, q2⟩ := hi.cells)
            | (go_at_call 12; with_reducible refine (G2'.out _ (by first | assumption | exact I1.alloc (by assumption) _)).mono ?_; rintro e w1 ⟨rfl, hi⟩; obtain ⟨q0, q1, q2⟩ := hi.cells))
          go_ret
          refine ⟨rfl, (show I1 w k t v _ from by first | assumption | exact I1.alloc (by assumption) _).2⟩
    exact key _ rfl
end Go.Proofs.Ytablllincjoabaa
