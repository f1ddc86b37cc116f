/-
  FrameTells: the walk.
-/
import Derived.Test.YteplndmgfaceiaaDoorFLaw
import Derived.Test.YteplndmgfaceiaaDoorFRGet
namespace Go.Proofs.YteplndmgfaceiaaDoor
set_option linter.unusedSimpArgs false
set_option linter.unusedVariables false
open Go Go.RowKit
set_option maxRecDepth 100000

theorem putL_le (a p : Int) (s : List UInt8) : (putL a p s).length ≤ 128 := by
  unfold putL
  split
  · rename_i h
    rw [frL_length (putE_ok.1 h).2]
    exact Nat.le_refl _
  · simp

set_option maxHeartbeats 4000000 in
theorem frameTells_walk (a p : Int) (s x : List UInt8) (wa : (Lit.int .i64 a).wf = true) (wp : (Lit.int .i64 p).wf = true)
    (hs : s.length ≤ 140737488351232) (hx : x.length ≤ 140737488351232) {w : World} (hM : ML w) :
    Calls Tryd.prog 3 #[.int .i64 a, .int .i64 p, sv s, sv x] w fun e w' => e = .returned (.bool true) ∧ Below w.heap.size w w' := by
  have AW := fun W => awake_any W
  clear wa wp
  by_cases h1 : (5000 : Int) < (s.length : Int)
  · go_enter Tryd.func3, Tryd.ntmps3
    go_wp2_with (go_at_call 9; with_reducible refine (AW _).mono ?_; rintro e w1 ⟨rfl, hb1⟩)
    go_ret
    exact ⟨rfl, hb1⟩
  · by_cases h2 : (5000 : Int) < (x.length : Int)
    · go_enter Tryd.func3, Tryd.ntmps3
      go_wp2_with (go_at_call 9; with_reducible refine (AW _).mono ?_; rintro e w1 ⟨rfl, hb1⟩)
      go_ret
      exact ⟨rfl, hb1⟩
    · have P1 := fun W => @put_top W a p s (by omega)
      have P2 := fun W => @rput_any W a p s (by omega)
      have hPl := putL_le a p s
      obtain ⟨E1, hE1⟩ : ∃ e, e = putE a p s.length := ⟨_, rfl⟩
      obtain ⟨X, hX⟩ : ∃ e, e = putL a p s := ⟨_, rfl⟩
      rw [← hE1, ← hX] at P1 P2
      rw [← hX] at hPl
      have G1 := fun W (T : List UInt8) (h : T.length ≤ 5000) => @get_any W T (by omega)
      have G2 := fun W (T : List UInt8) (h : T.length ≤ 5000) => @rget_any W T (by omega)
      have A1 := fun W (T : List UInt8) (h : T.length ≤ 5000) => @age_top W T (by omega)
      have A2 := fun W (T : List UInt8) (h : T.length ≤ 5000) => @rage_any W T (by omega)
      clear hE1 hX
      go_enter Tryd.func3, Tryd.ntmps3
      go_wp2_with (first | (go_at_call 10; with_reducible refine (P1 _).mono ?_; rintro e w1 ⟨rfl, hb1⟩) | (go_at_call 11; with_reducible refine (P2 _).mono ?_; rintro e w2 ⟨rfl, hb2⟩))
      have hB0 := hb1.trans (hb2.mono hb1.size)
      have t2 : TB (w2.alloc (.cells #[sv x, sv X] 9)) w2.heap.size [x, X] := heap_alloc_new w2 _
      have hB2 := hB0.alloc hB0.size (.cells #[sv x, sv X] 9)
      obtain ⟨g, hg⟩ : ∃ g, g = w2.heap.size := ⟨_, rfl⟩
      rw [← hg] at t2 ⊢
      generalize w2.alloc (.cells #[sv x, sv X] 9) = w3 at t2 hB2 ⊢
      have T2 := Lib.hid t2
      have HB2 := Lib.hid hB2
      clear hg t2 hB2 hB0 hb1 hb2 P1 P2
      go_loopw [58] (fun i wr => ∃ k : Nat, k ≤ 2 ∧ i = .int .i64 k ∧ TB wr g [x, X] ∧ Below w.heap.size w wr) (fun i _ => 2 - (intOf i).toNat)
      case atStart => exact ⟨0, by omega, rfl, T2.out, HB2.out⟩
      case round =>
        obtain ⟨k, hk, rfl, ht, hbl⟩ := hrel
        have HT := Lib.hid ht
        have HBL := Lib.hid hbl
        clear hbl
        by_cases hlt : k < 2
        · have hlt' : (k : Int) < 2 := by omega
          have c1 := ht.cell (j := k) (by simpa using hlt)
          have hTl : ([x, X].getD k []).length ≤ 5000 := by
            match k, hlt with
            | 0, _ => show x.length ≤ 5000; omega
            | 1, _ => show X.length ≤ 5000; omega
          obtain ⟨T, hT⟩ : ∃ T, T = [x, X].getD k [] := ⟨_, rfl⟩
          rw [← hT] at c1 hTl
          have GT1 := fun W => G1 W T hTl
          have GT2 := fun W => G2 W T hTl
          have AT1 := fun W => A1 W T hTl
          have AT2 := fun W => A2 W T hTl
          generalize agL T = ag at GT1 GT2
          generalize plL T = pl at GT1 GT2
          generalize bodL T = bo at GT1 GT2
          generalize isB T = is at GT1 GT2
          generalize oldL T = old at AT1 AT2
          clear hT ht G1 G2 A1 A2 hTl
          go_wp2_with (first
            | (go_at_call 12; with_reducible refine (GT1 _).mono ?_; rintro e w4 ⟨rfl, hb4⟩)
            | (go_at_call 13; with_reducible refine (GT2 _).mono ?_; rintro e w5 ⟨rfl, hb5⟩)
            | (go_at_call 14; with_reducible refine (AT1 _).mono ?_; rintro e w6 ⟨rfl, hb6⟩)
            | (go_at_call 15; with_reducible refine (AT2 _).mono ?_; rintro e w7 ⟨rfl, hb7⟩))
          go_roundw
          case rel =>
            have q4 := hb4
            have q5 := q4.trans (hb5.mono q4.size)
            have q6 := q5.trans (hb6.mono q5.size)
            have q7 := q6.trans (hb7.mono q6.size)
            exact ⟨k + 1, by omega, by go_num, HT.out.below q7, HBL.out.trans (q7.mono HBL.out.size)⟩
          case measure => simp [intOf]; omega
        · have hlt' : ¬ (k : Int) < 2 := by omega
          obtain rfl : k = 2 := by omega
          clear ht G1 G2 A1 A2
          go_wp2_with (go_at_call 9; with_reducible refine (AW _).mono ?_; rintro e w9 ⟨rfl, hb9⟩)
          go_ret
          exact ⟨rfl, HBL.out.trans (hb9.mono HBL.out.size)⟩
end Go.Proofs.YteplndmgfaceiaaDoor
