/-
  The law's awake: true, in any world of the law's.
-/
import Derived.Test.YtkffdhdhjfbhjaaDoorHAwake
namespace Go.Proofs.YtkffdhdhjfbhjaaDoor
set_option linter.unusedSimpArgs false
set_option linter.unusedVariables false
open Go Go.RowKit Go.Shelf
set_option maxRecDepth 100000

theorem aw1 : fieldsL [65, 58, 32, 98, 13, 10, 32, 99, 13, 10, 82, 101, 99, 101, 105, 118, 101, 100, 58, 120, 13, 10, 13, 10, 68, 58, 32, 101, 13, 10] = [([65], [98, 32, 99]), ([82, 101, 99, 101, 105, 118, 101, 100], [120])] := by decide +kernel
theorem aw2 : hopsL [65, 58, 32, 98, 13, 10, 32, 99, 13, 10, 82, 101, 99, 101, 105, 118, 101, 100, 58, 120, 13, 10, 13, 10, 68, 58, 32, 101, 13, 10] = 1 := by decide +kernel
theorem aw3 : bodyL [65, 58, 32, 98, 13, 10, 32, 99, 13, 10, 82, 101, 99, 101, 105, 118, 101, 100, 58, 120, 13, 10, 13, 10, 68, 58, 32, 101, 13, 10] = [68, 58, 32, 101, 13, 10] := by decide +kernel
theorem aw4 : plainL [116, 108, 115, 45, 114, 101, 113, 117, 105, 114, 101, 100, 58, 32, 78, 79, 13, 10] = true := by decide +kernel
theorem aw5 : plainL [84, 76, 83, 45, 82, 101, 113, 117, 105, 114, 101, 100, 58, 32, 78, 111, 13, 10, 84, 76, 83, 45, 82, 101, 113, 117, 105, 114, 101, 100, 58, 32, 78, 111, 13, 10] = false := by decide +kernel
theorem aw6 : fieldsL [65, 58, 32, 98, 13, 10, 110, 111, 32, 102, 105, 101, 108, 100, 13, 10, 67, 58, 32, 100, 13, 10] = [([65], [98])] := by decide +kernel
theorem aw7 : fieldsL [32, 120, 13, 10, 65, 58, 32, 98, 13, 10] = [] := by decide +kernel
theorem aw8 : showL ([65], [98]) = ([65, 58, 32, 98], 0) := by decide +kernel
theorem aw9 : showL ([65, 32], [98]) = ([], 4) := by decide +kernel

theorem tr_block {W : World} {g n c : Nat} {ps : List FP} {cs : Array Value} {T : TypeId} (h : W.heap[g]? = some (.cells cs T (0, 0))) (hn : n = ps.length * 2) (hc : ∀ j, j < ps.length → cs[j * 2]? = some (sv (ps.getD j pm0).1) ∧ cs[j * 2 + 1]? = some (sv (ps.getD j pm0).2)) : TR W (.slice (some ⟨g, 0, none⟩) n c) ps := by
  refine ⟨_, c, by rw [hn], fun _ => ⟨g, 0, rfl, lt_of_blk h, fun j hj => ?_⟩⟩
  rw [Nat.zero_add, cellAt h, cellAt h]
  exact hc j hj
theorem tr_one (W : World) (a b : List UInt8) (T : TypeId) : TR (W.alloc (.cells #[sv a, sv b] T)) (.slice (some ⟨W.heap.size, 0, none⟩) 2 2) [(a, b)] :=
  tr_block (heap_alloc_new W _) rfl (fun j hj => by
    obtain rfl : j = 0 := by simpa using hj
    exact ⟨rfl, rfl⟩)
theorem tr_two (W : World) (a b a' b' : List UInt8) (T : TypeId) : TR (W.alloc (.cells #[sv a, sv b, sv a', sv b'] T)) (.slice (some ⟨W.heap.size, 0, none⟩) 4 4) [(a, b), (a', b')] :=
  tr_block (heap_alloc_new W _) rfl (fun j hj => by
    have : j < 2 := hj
    rcases (show j = 0 ∨ j = 1 by omega) with rfl | rfl
    · exact ⟨rfl, rfl⟩
    · exact ⟨rfl, rfl⟩)

theorem hopsB {w0 w : World} (h : BL w0 w) (s : List UInt8) (hs : s.length ≤ 1000000) {n : Nat} (hn : hopsL s = n) : Calls Tryd.prog 14 #[sv s] w fun e w' => e = .returned (.int .i64 (n : Int)) ∧ BL w0 w' := by
  subst hn
  exact (hops_any s w hs h.2).mono fun e w' ⟨h1, h2⟩ => ⟨h1, h.step h2⟩
theorem bodyB {w0 w : World} (h : BL w0 w) (s : List UInt8) (hs : s.length ≤ 1000000) {r : List UInt8} (hn : bodyL s = r) : Calls Tryd.prog 11 #[sv s] w fun e w' => e = .returned (sv r) ∧ BL w0 w' := by
  subst hn
  exact (body_any s w hs h.2).mono fun e w' ⟨h1, h2⟩ => ⟨h1, h.step h2⟩
theorem plainB {w0 w : World} (h : BL w0 w) (s : List UInt8) (hs : s.length ≤ 1000000) {r : Bool} (hn : plainL s = r) : Calls Tryd.prog 12 #[sv s] w fun e w' => e = .returned (.bool r) ∧ BL w0 w' := by
  subst hn
  exact (plain_any s w hs h.2).mono fun e w' ⟨h1, h2⟩ => ⟨h1, h.step h2⟩
theorem likeBB {w0 w : World} (h : BL w0 w) (a b : List UInt8) (ha : a.length ≤ 1000000) (hb : b.length ≤ 1000000) {r : Bool} (hn : likeB a b = r) : Calls Tryd.prog 15 #[sv a, sv b] w fun e w' => e = .returned (.bool r) ∧ BL w0 w' := by
  subst hn
  exact (like_any a b w ha hb).mono fun e w' ⟨h1, h2⟩ => ⟨h1, h.step h2⟩
theorem showB {w0 w : World} (h : BL w0 w) (a b : List UInt8) (ha : a.length ≤ 1000000) (hb : b.length ≤ 1000000) {r : List UInt8} {e0 : Int} (hn : showL (a, b) = (r, e0)) : Calls Tryd.prog 13 #[.agg #[sv a, sv b]] w fun e w' => e = .returned (.tuple #[sv r, .int .i64 e0]) ∧ BL w0 w' := by
  have := show_any (a, b) w ha hb
  rw [hn] at this
  exact this.mono fun e w' ⟨h1, h2⟩ => ⟨h1, h.step h2⟩

set_option maxHeartbeats 4000000 in
theorem awake_any {w0 w : World} (h : BL w0 w) : Calls Tryd.prog 9 #[] w fun e w' => e = .returned (.bool true) ∧ BL w0 w' := by
  have H := Lib.hid h
  clear h
  go_enter Tryd.func9, Tryd.ntmps9
  go_wp2_with fail
  refine (showB H.out [65] [98] (by decide) (by decide) aw8).mono ?_
  rintro e w1 ⟨rfl, h1⟩
  have H1 := Lib.hid h1
  clear h1
  go_wp2_with fail
  refine (showB H1.out [65, 32] [98] (by decide) (by decide) aw9).mono ?_
  rintro e w2 ⟨rfl, h2⟩
  have H2 := Lib.hid h2
  clear h2
  go_wp2_with fail
  refine (are_any [65, 58, 32, 98, 13, 10, 32, 99, 13, 10, 82, 101, 99, 101, 105, 118, 101, 100, 58, 120, 13, 10, 13, 10, 68, 58, 32, 101, 13, 10] [([65], [98, 32, 99]), ([82, 101, 99, 101, 105, 118, 101, 100], [120])] _ _ _ (BL.alloc H2.out _) (by decide) aw1 (tr_two _ _ _ _ _ _)).mono ?_
  rintro e w3 ⟨rfl, h3⟩
  have H3 := Lib.hid h3
  clear h3
  go_wp2_with fail
  refine (hopsB H3.out [65, 58, 32, 98, 13, 10, 32, 99, 13, 10, 82, 101, 99, 101, 105, 118, 101, 100, 58, 120, 13, 10, 13, 10, 68, 58, 32, 101, 13, 10] (by decide) aw2).mono ?_
  rintro e w4 ⟨rfl, h4⟩
  have H4 := Lib.hid h4
  clear h4
  go_wp2_with fail
  refine (bodyB H4.out [65, 58, 32, 98, 13, 10, 32, 99, 13, 10, 82, 101, 99, 101, 105, 118, 101, 100, 58, 120, 13, 10, 13, 10, 68, 58, 32, 101, 13, 10] (by decide) aw3).mono ?_
  rintro e w5 ⟨rfl, h5⟩
  have H5 := Lib.hid h5
  clear h5
  go_wp2_with fail
  refine (plainB H5.out [116, 108, 115, 45, 114, 101, 113, 117, 105, 114, 101, 100, 58, 32, 78, 79, 13, 10] (by decide) aw4).mono ?_
  rintro e w6 ⟨rfl, h6⟩
  have H6 := Lib.hid h6
  clear h6
  go_wp2_with fail
  refine (plainB H6.out [84, 76, 83, 45, 82, 101, 113, 117, 105, 114, 101, 100, 58, 32, 78, 111, 13, 10, 84, 76, 83, 45, 82, 101, 113, 117, 105, 114, 101, 100, 58, 32, 78, 111, 13, 10] (by decide) aw5).mono ?_
  rintro e w7 ⟨rfl, h7⟩
  have H7 := Lib.hid h7
  clear h7
  go_wp2_with fail
  refine (are_any [65, 58, 32, 98, 13, 10, 110, 111, 32, 102, 105, 101, 108, 100, 13, 10, 67, 58, 32, 100, 13, 10] [([65], [98])] _ _ _ (BL.alloc H7.out _) (by decide) aw6 (tr_one _ _ _ _)).mono ?_
  rintro e w8 ⟨rfl, h8⟩
  have H8 := Lib.hid h8
  clear h8
  go_wp2_with fail
  refine (are_any [32, 120, 13, 10, 65, 58, 32, 98, 13, 10] [] _ _ _ H8.out (by decide) aw7 (TR.nil _)).mono ?_
  rintro e w9 ⟨rfl, h9⟩
  have H9 := Lib.hid h9
  clear h9
  go_wp2_with fail
  go_ret
  exact ⟨rfl, H9.out⟩
end Go.Proofs.YtkffdhdhjfbhjaaDoor
