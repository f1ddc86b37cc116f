/-
  The walk of StuffNames.
-/
import Derived.Test.YtjbjbbbhcncfnaaSPartsC
namespace Go.Proofs.Ytjbjbbbhcncfnaa
open Go Go.RowKit Go.Shelf
set_option maxRecDepth 100000

abbrev SRow := List UInt8 × List UInt8 × List UInt8 × Int
def snA : List (List UInt8) := [[97], [13], [10], [97, 13, 10, 98], [13, 10, 46], [97, 10, 13]]
def snB : List SRow := [([46, 13, 10], [], [], 0), ([46, 13, 10, 46, 13, 10], [], [46, 13, 10], 0), ([46, 46, 46, 13, 10, 46, 13, 10], [46, 46, 13, 10], [], 0), ([46, 46, 13, 10, 46, 13, 10], [46, 13, 10], [], 0), ([10, 46, 13, 10, 46, 13, 10], [10, 46, 13, 10], [], 0), ([97, 10, 46, 10, 13, 10, 46, 13, 10, 13], [97, 10, 46, 10, 13, 10], [13], 0), ([], [], [], 8), ([46], [], [], 8), ([46, 13], [], [], 8), ([46, 120], [], [], 8), ([46, 10, 13, 10], [], [], 4), ([46, 13, 13, 10, 46, 13, 10], [], [], 4), ([97, 13, 10, 46, 98, 13, 10], [], [], 4)]
theorem snA_ok : ∀ k, k < 6 → stuffL (snA.getD k []) = [] ∧ stuffE (snA.getD k []) = 4 ∧ (snA.getD k []).length ≤ 10 := by decide +kernel
theorem snB_ok : ∀ k, k < 13 → unsT (snB.getD k ([], [], [], 0)).1 = (snB.getD k ([], [], [], 0)).2.1 ∧ unsR (snB.getD k ([], [], [], 0)).1 = (snB.getD k ([], [], [], 0)).2.2.1 ∧ unsE (snB.getD k ([], [], [], 0)).1 = (snB.getD k ([], [], [], 0)).2.2.2 ∧ (snB.getD k ([], [], [], 0)).1.length ≤ 20 := by decide +kernel
abbrev snCA : Array Value := #[sv [97], sv [13], sv [10], sv [97, 13, 10, 98], sv [13, 10, 46], sv [97, 10, 13]]
abbrev snCB : Array Value := #[sv [46, 13, 10], sv [], sv [], .int .i64 0, sv [46, 13, 10, 46, 13, 10], sv [], sv [46, 13, 10], .int .i64 0, sv [46, 46, 46, 13, 10, 46, 13, 10], sv [46, 46, 13, 10], sv [], .int .i64 0, sv [46, 46, 13, 10, 46, 13, 10], sv [46, 13, 10], sv [], .int .i64 0, sv [10, 46, 13, 10, 46, 13, 10], sv [10, 46, 13, 10], sv [], .int .i64 0, sv [97, 10, 46, 10, 13, 10, 46, 13, 10, 13], sv [97, 10, 46, 10, 13, 10], sv [13], .int .i64 0, sv [], sv [], sv [], .int .i64 8, sv [46], sv [], sv [], .int .i64 8, sv [46, 13], sv [], sv [], .int .i64 8, sv [46, 120], sv [], sv [], .int .i64 8, sv [46, 10, 13, 10], sv [], sv [], .int .i64 4, sv [46, 13, 13, 10, 46, 13, 10], sv [], sv [], .int .i64 4, sv [97, 13, 10, 46, 98, 13, 10], sv [], sv [], .int .i64 4]
theorem snCA_at : ∀ k, k < 6 → snCA[k]? = some (sv (snA.getD k [])) := by
  intro k hk
  match k, hk with
  | 0, _ => rfl
  | 1, _ => rfl
  | 2, _ => rfl
  | 3, _ => rfl
  | 4, _ => rfl
  | 5, _ => rfl
theorem snCB_at : ∀ k, k < 13 → snCB[k * 4]? = some (sv (snB.getD k ([], [], [], 0)).1) ∧ snCB[k * 4 + 1]? = some (sv (snB.getD k ([], [], [], 0)).2.1) ∧ snCB[k * 4 + 2]? = some (sv (snB.getD k ([], [], [], 0)).2.2.1) ∧ snCB[k * 4 + 3]? = some (.int .i64 (snB.getD k ([], [], [], 0)).2.2.2) := by
  intro k hk
  match k, hk with
  | 0, _ => exact ⟨rfl, rfl, rfl, rfl⟩
  | 1, _ => exact ⟨rfl, rfl, rfl, rfl⟩
  | 2, _ => exact ⟨rfl, rfl, rfl, rfl⟩
  | 3, _ => exact ⟨rfl, rfl, rfl, rfl⟩
  | 4, _ => exact ⟨rfl, rfl, rfl, rfl⟩
  | 5, _ => exact ⟨rfl, rfl, rfl, rfl⟩
  | 6, _ => exact ⟨rfl, rfl, rfl, rfl⟩
  | 7, _ => exact ⟨rfl, rfl, rfl, rfl⟩
  | 8, _ => exact ⟨rfl, rfl, rfl, rfl⟩
  | 9, _ => exact ⟨rfl, rfl, rfl, rfl⟩
  | 10, _ => exact ⟨rfl, rfl, rfl, rfl⟩
  | 11, _ => exact ⟨rfl, rfl, rfl, rfl⟩
  | 12, _ => exact ⟨rfl, rfl, rfl, rfl⟩

theorem BL.trans {a b c : World} (h : BL a b) (h' : BL b c) : BL a c := ⟨h.1.trans (h'.1.mono h.1.size), h'.2⟩

set_option maxHeartbeats 16000000 in
theorem stuffNames_walk (w : World) (hM : ML w) :
    Calls Try.prog 3 #[] w fun e w' => e = .returned (.bool true) ∧ Below w.heap.size w w' := by
  have HB0 := BL.start hM
  clear hM
  go_enter Try.func3, Try.ntmps3
  go_wp2_with fail
  refine (worksB HB0).mono ?_
  rintro e w1 ⟨rfl, h1⟩
  go_wp2_with fail
  obtain ⟨W1, hW1⟩ : ∃ W1, W1 = w1.alloc (.cells snCA 9) := ⟨_, rfl⟩
  have hc1 : ∀ k, k < 6 → W1.cell? ⟨w1.heap.size, k, none⟩ = some (sv (snA.getD k [])) := fun k hk => by
    rw [hW1, cellAt (heap_alloc_new w1 _)]; exact snCA_at k hk
  have hb1 : BL w W1 := by rw [hW1]; exact h1.alloc _
  have hlt1 : w1.heap.size < W1.heap.size := by rw [hW1]; simp
  rw [← hW1]
  have HC1 := Lib.hid hc1
  obtain ⟨b1, hb⟩ : ∃ b, b = w1.heap.size := ⟨_, rfl⟩
  rw [← hb] at HC1 hlt1 ⊢
  clear hW1 h1 hc1 HB0 hb
  go_loopw [14] (fun i wr => ∃ k : Nat, k ≤ 6 ∧ i = .int .i64 k ∧ BL W1 wr) (fun i _ => 6 - (intOf i).toNat)
  case atStart => exact ⟨0, by omega, rfl, BL.start hb1.2⟩
  case round =>
    obtain ⟨k, hk, rfl, hbr⟩ := hrel
    by_cases hlt : k < 6
    · have q0 := (hbr.1.cell (p := ⟨b1, k, none⟩) hlt1).trans (HC1.out k hlt)
      obtain ⟨p1, p2, p3⟩ := snA_ok k hlt
      obtain ⟨s, hs⟩ : ∃ s, s = snA.getD k [] := ⟨_, rfl⟩
      rw [← hs] at q0 p1 p2 p3
      have HS := Lib.hid (stuffB hbr s (by omega) p1 p2)
      have hk2 : (k : Int) < 6 := by omega
      clear hs p1 p2
      go_wp2_with fail
      refine HS.out.mono ?_
      rintro e w2 ⟨rfl, h2⟩
      go_wp2_with fail
      go_roundw
      case rel => exact ⟨k + 1, by omega, by go_num, h2⟩
      case measure => simp [intOf]; omega
    · obtain rfl : k = 6 := by omega
      have hb2 : BL w wr := hb1.trans hbr
      clear hbr hb1 HC1 hlt hk
      go_wp2_with fail
      obtain ⟨W2, hW2⟩ : ∃ W2, W2 = wr.alloc (.cells snCB 27) := ⟨_, rfl⟩
      have hc2 : ∀ k, k < 13 → W2.cell? ⟨wr.heap.size, k * 4, none⟩ = some (sv (snB.getD k ([], [], [], 0)).1) ∧ W2.cell? ⟨wr.heap.size, k * 4 + 1, none⟩ = some (sv (snB.getD k ([], [], [], 0)).2.1) ∧ W2.cell? ⟨wr.heap.size, k * 4 + 2, none⟩ = some (sv (snB.getD k ([], [], [], 0)).2.2.1) ∧ W2.cell? ⟨wr.heap.size, k * 4 + 3, none⟩ = some (.int .i64 (snB.getD k ([], [], [], 0)).2.2.2) := fun k hk => by
        rw [hW2, cellAt (heap_alloc_new wr _), cellAt (heap_alloc_new wr _), cellAt (heap_alloc_new wr _), cellAt (heap_alloc_new wr _)]; exact snCB_at k hk
      have hb3 : BL w W2 := by rw [hW2]; exact hb2.alloc _
      have hlt2 : wr.heap.size < W2.heap.size := by rw [hW2]; simp
      rw [← hW2]
      have HC2 := Lib.hid hc2
      obtain ⟨b2, hb⟩ : ∃ b, b = wr.heap.size := ⟨_, rfl⟩
      rw [← hb] at HC2 hlt2 ⊢
      clear hW2 hc2 hb2 hb
      rw [show ((6 : Nat) : Int) = 6 from rfl]
      go_loopw [45] (fun i wr => ∃ k : Nat, k ≤ 13 ∧ i = .int .i64 k ∧ BL W2 wr) (fun i _ => 13 - (intOf i).toNat)
      case atStart => exact ⟨0, by omega, rfl, BL.start hb3.2⟩
      case round =>
        obtain ⟨k, hk, rfl, hbr⟩ := hrel
        by_cases hlt : k < 13
        · obtain ⟨r0, r1, r2, r3⟩ := HC2.out k hlt
          have q0 := (hbr.1.cell (p := ⟨b2, k * 4, none⟩) hlt2).trans r0
          have q1 := (hbr.1.cell (p := ⟨b2, k * 4 + 1, none⟩) hlt2).trans r1
          have q2 := (hbr.1.cell (p := ⟨b2, k * 4 + 2, none⟩) hlt2).trans r2
          have q3 := (hbr.1.cell (p := ⟨b2, k * 4 + 3, none⟩) hlt2).trans r3
          obtain ⟨p1, p2, p3, p4⟩ := snB_ok k hlt
          obtain ⟨s, hs⟩ : ∃ s, s = (snB.getD k ([], [], [], 0)).1 := ⟨_, rfl⟩
          obtain ⟨t, ht⟩ : ∃ s, s = (snB.getD k ([], [], [], 0)).2.1 := ⟨_, rfl⟩
          obtain ⟨r, hr⟩ : ∃ s, s = (snB.getD k ([], [], [], 0)).2.2.1 := ⟨_, rfl⟩
          obtain ⟨n, hn⟩ : ∃ s, s = (snB.getD k ([], [], [], 0)).2.2.2 := ⟨_, rfl⟩
          rw [← hs] at q0 p1 p2 p3 p4
          rw [← ht] at q1 p1
          rw [← hr] at q2 p2
          rw [← hn] at q3 p3
          have hk2 : (k : Int) < 13 := by omega
          have hbx := hbr.alloc (.cells #[sv s, sv t, sv r, .int .i64 n] 27)
          obtain ⟨X, hX⟩ : ∃ X, X = wr.alloc (.cells #[sv s, sv t, sv r, .int .i64 n] 27) := ⟨_, rfl⟩
          have hX4 : X.heap[wr.heap.size]? = some (.cells #[sv s, sv t, sv r, .int .i64 n] 27 (0, 0)) := by rw [hX]; exact heap_alloc_new wr _
          have HX4 := Lib.hid hX4
          rw [← hX] at hbx
          have HS := Lib.hid (unstuffB (BL.start hbx.2) s (by omega) p1 p2 p3)
          clear hs ht hr hn p1 p2 p3 r0 r1 r2 r3 hX4
          go_wp2_with fail
          rw [← hX]
          refine HS.out.mono ?_
          rintro e w2 ⟨rfl, h2⟩
          have hX5 := (h2.1.block _ (lt_of_blk HX4.out)).trans HX4.out
          have g0 := cellAt hX5 0
          have g1 := cellAt hX5 1
          have g2 := cellAt hX5 2
          have g3 := cellAt hX5 3
          simp only [List.getElem?_toArray, List.getElem?_cons_zero, List.getElem?_cons_succ] at g0 g1 g2 g3
          have h3 := hbx.trans h2
          clear hX hX5 h2 hbx q0 q1 q2 q3
          go_wp2_with fail
          go_roundw
          case rel => exact ⟨k + 1, by omega, by go_num, h3⟩
          case measure => simp [intOf]; omega
        · obtain rfl : k = 13 := by omega
          have h0 : BL w wr := hb3.trans hbr
          clear hbr hb3 HC2 hlt hk
          go_wp2_with fail
          refine (dotsB h0 [] (by decide) (n := 0) (by decide +kernel)).mono ?_
          rintro e v1 ⟨rfl, d1⟩
          go_wp2_with fail
          refine (dotsB d1 [46] (by decide) (n := 1) (by decide +kernel)).mono ?_
          rintro e v2 ⟨rfl, d2⟩
          go_wp2_with fail
          refine (dotsB d2 [46, 13, 10, 97, 13, 10, 46, 46, 13, 10, 46, 120] (by decide) (n := 3) (by decide +kernel)).mono ?_
          rintro e v3 ⟨rfl, d3⟩
          go_wp2_with fail
          refine (dotsB d3 [10, 46] (by decide) (n := 0) (by decide +kernel)).mono ?_
          rintro e v4 ⟨rfl, d4⟩
          go_wp2_with fail
          refine (wholeB d4 [97, 13, 10, 46, 13, 10, 98] (by decide) (b := true) (by decide +kernel)).mono ?_
          rintro e v5 ⟨rfl, d5⟩
          go_wp2_with fail
          refine (wholeB d5 [] (by decide) (b := false) (by decide +kernel)).mono ?_
          rintro e v6 ⟨rfl, d6⟩
          go_wp2_with fail
          refine (wholeB d6 [97, 46, 13, 10] (by decide) (b := false) (by decide +kernel)).mono ?_
          rintro e v7 ⟨rfl, d7⟩
          go_wp2_with fail
          refine (wholeB d7 [46, 10] (by decide) (b := false) (by decide +kernel)).mono ?_
          rintro e v8 ⟨rfl, d8⟩
          go_wp2_with fail
          refine (wholeB d8 [10, 46, 13, 10] (by decide) (b := false) (by decide +kernel)).mono ?_
          rintro e v9 ⟨rfl, d9⟩
          go_wp2_with fail
          refine (wholeB d9 [46, 46, 13, 10] (by decide) (b := false) (by decide +kernel)).mono ?_
          rintro e v10 ⟨rfl, d10⟩
          go_wp2
          go_ret
          exact ⟨rfl, d10.1⟩
end Go.Proofs.Ytjbjbbbhcncfnaa
