/-
  The contract of package cmd's read, where no parameters are read.
-/
import Derived.BigRegion
import Derived.Test.YtifmnlcggokfkaaGreatDoorKRow
import Derived.Test.YtifmnlcggokfkaaGreatDoorKIter2
namespace Go.Proofs.YtifmnlcggokfkaaGreatDoor
open Go Go.RowKit Go.Shelf
set_option maxRecDepth 100000

/-- What read leaves. -/
def RdPost (w : World) (line : List UInt8) (e : Ending) (w' : World) : Prop :=
  ∃ u, e = .returned (.tuple #[cmV (readK line).1 u, sv (readK line).2]) ∧ Below w.heap.size w w' ∧ PO 26 w.heap.size w' u (readK line).1.ps

theorem rd_world {w W : World} {n0 : Nat} {v0 v1 v2 r0 : Value} {C S : TypeId} (hc : W.heap[n0]? = some (.cells #[v0, v1, v2] C (0, 0))) (hr : W.heap[n0 + 1]? = some (.cells #[r0] S (0, 0))) (hb : Below n0 w W) (x0 x1 x2 y : Value) :
    ((((W.setCell ⟨n0, 0, none⟩ x0).setCell ⟨n0, 1, none⟩ x1).setCell ⟨n0, 2, none⟩ x2).setCell ⟨n0 + 1, 0, none⟩ y).heap[n0]? = some (.cells #[x0, x1, x2] C (0, 0)) ∧
    ((((W.setCell ⟨n0, 0, none⟩ x0).setCell ⟨n0, 1, none⟩ x1).setCell ⟨n0, 2, none⟩ x2).setCell ⟨n0 + 1, 0, none⟩ y).cell? ⟨n0 + 1, 0, none⟩ = some y ∧
    Below n0 w ((((W.setCell ⟨n0, 0, none⟩ x0).setCell ⟨n0, 1, none⟩ x1).setCell ⟨n0, 2, none⟩ x2).setCell ⟨n0 + 1, 0, none⟩ y) := by
  refine ⟨?_, ?_, ?_⟩
  · simp [World.setCell, Array.getElem?_modify, hc]
  · have h1 : ((((W.setCell ⟨n0, 0, none⟩ x0).setCell ⟨n0, 1, none⟩ x1).setCell ⟨n0, 2, none⟩ x2).setCell ⟨n0 + 1, 0, none⟩ y).heap[n0 + 1]? = some (.cells #[y] S (0, 0)) := by
      simp [World.setCell, Array.getElem?_modify, hr]
    rw [cellAt h1]; rfl
  · exact (((hb.setCell (p := ⟨n0, 0, none⟩) (Nat.le_refl _) _).setCell (p := ⟨n0, 1, none⟩) (Nat.le_refl _) _).setCell (p := ⟨n0, 2, none⟩) (Nat.le_refl _) _).setCell (p := ⟨n0 + 1, 0, none⟩) (Nat.le_succ _) _

/-- The two boxes of read. -/
structure RB2 (w : World) (a b c r : Value) (W : World) : Prop where
  bl : BK w W
  cc : W.heap[w.heap.size]? = some (.cells #[a, b, c] 29 (0, 0))
  rr : W.heap[w.heap.size + 1]? = some (.cells #[r] 9 (0, 0))
theorem RB2.step {w W W' : World} {a b c r : Value} (h : RB2 w a b c r W) (hb : Below W.heap.size W W') : RB2 w a b c r W' := ⟨h.bl.step hb, blk_below h.cc hb, blk_below h.rr hb⟩
theorem RB2.drew {w W : World} {a b c r : Value} (h : RB2 w a b c r W) : RB2 w a b c r W.drew := ⟨h.bl.drew, h.cc, h.rr⟩
theorem RB2.facts {w W : World} {a b c r : Value} (h : RB2 w a b c r W) :
    W.cell? ⟨w.heap.size, 0, none⟩ = some a ∧ W.cell? ⟨w.heap.size, 1, none⟩ = some b ∧ W.cell? ⟨w.heap.size, 2, none⟩ = some c ∧ W.cell? ⟨w.heap.size + 1, 0, none⟩ = some r ∧
    W.frozen? ⟨w.heap.size, 0, none⟩ = false ∧ W.frozen? ⟨w.heap.size, 1, none⟩ = false ∧ W.frozen? ⟨w.heap.size, 2, none⟩ = false ∧ W.frozen? ⟨w.heap.size + 1, 0, none⟩ = false :=
  ⟨by rw [cellAt h.cc]; rfl, by rw [cellAt h.cc]; rfl, by rw [cellAt h.cc]; rfl, by rw [cellAt h.rr]; rfl, freeAt h.cc 0, freeAt h.cc 1, freeAt h.cc 2, freeAt h.rr 0⟩
theorem RB2.put {w W : World} {a b c r : Value} (hL : LW w) (h : RB2 w a b c r W) (x : List UInt8) : RB2 w a b c (sv x) (W.setCell ⟨w.heap.size + 1, 0, none⟩ (sv x)) := by
  have hb := h.bl.below.setCell (p := ⟨w.heap.size + 1, 0, none⟩) (Nat.le_succ _) (sv x)
  refine ⟨⟨hb, hL.below hb⟩, ?_, ?_⟩
  · rw [heap_set_ne _ (by omega)]; exact h.cc
  · simp [World.setCell, Array.getElem?_modify, h.rr]
theorem rb2_start {w : World} (hL : LW w) : RB2 w (.int .u8 0) (sv []) (.slice none 0 0) (sv []) ((w.alloc (.cells #[.int .u8 0, sv [], .slice none 0 0] 29)).alloc (.cells #[sv []] 9)) := by
  refine ⟨((BK.start hL).alloc _).alloc _, ?_, ?_⟩
  · exact (Lib.alloc_old _ _ _ (by simp)).trans (heap_alloc_new w _)
  · have := heap_alloc_new (w.alloc (.cells #[.int .u8 0, sv [], .slice none 0 0] 29)) (.cells #[sv []] 9)
    rw [World.size_alloc] at this
    exact this
theorem load_text {W : World} {g : Nat} {s : List UInt8} (h : W.cell? ⟨g, 0, none⟩ = some (sv s)) : (loadVar 9 ⟨g, 0, none⟩).run Tryz.prog W = .ok (sv s) W := by
  simp [go_sem, h]
/-- read's end. -/
theorem rd_end {w W : World} {line : List UInt8} {a b c r : Value} {tmps : Array Value} (h : RB2 w a b c r W) {v : Nat} {x y : List UInt8} {ps : List PM} {u : Value}
    (hk : readK line = (⟨v, x, ps⟩, y)) (hp : tmps.getD 2 undef = .pointer (some ⟨w.heap.size, 0, none⟩)) (hq : tmps.getD 3 undef = .pointer (some ⟨w.heap.size + 1, 0, none⟩))
    (hu : PO 26 w.heap.size ((((W.setCell ⟨w.heap.size, 0, none⟩ (.int .u8 (v : Int))).setCell ⟨w.heap.size, 1, none⟩ (sv x)).setCell ⟨w.heap.size, 2, none⟩ u).setCell ⟨w.heap.size + 1, 0, none⟩ (sv y)) u ps) :
    bodyPost Tryz.prog Tryz.f42 (RdPost w line) .ret { tmps := tmps, defers := [] } ((((W.setCell ⟨w.heap.size, 0, none⟩ (.int .u8 (v : Int))).setCell ⟨w.heap.size, 1, none⟩ (sv x)).setCell ⟨w.heap.size, 2, none⟩ u).setCell ⟨w.heap.size + 1, 0, none⟩ (sv y)) := by
  obtain ⟨h1, h2, h3⟩ := rd_world h.cc h.rr h.bl.below (.int .u8 (v : Int)) (sv x) u (sv y)
  refine bodyPost_ret (v := .tuple #[cmV ⟨v, x, ps⟩ u, sv y]) (results_row_cell (p := 2) (q := 3) (fr := (0, 0)) Tryz.results42 _ _ w.heap.size (w.heap.size + 1) 29 _ _ _ hp h1 Tryz.underlying29 rfl (by kernel_rfl) hq (load_text h2)) rfl ⟨u, ?_, h3, ?_⟩
  · rw [hk]
  · rw [hk]; exact hu

set_option maxHeartbeats 4000000 in
theorem read_ehlo (line : List UInt8) (w : World) (hs : line.length ≤ 100000) (hL : LW w) (h1 : (cutH line).1 = 1) : Calls Tryz.prog 42 #[sv line] w (RdPost w line) := by
  obtain ⟨r, hr⟩ : ∃ r, r = (cutH line).2 := ⟨_, rfl⟩
  have hc : cutH line = (1, r) := by rw [hr, ← h1]
  have HC := Lib.hid hc
  have HK := Lib.hid (show readK line = (⟨1, r, []⟩, []) by unfold readK; rw [hc]; rfl)
  have HL := Lib.hid hL
  have H0 := Lib.hid (rb2_start hL)
  have hrl : r.length ≤ 100000 := by
    rw [hr]
    rcases cutH_cases line with ⟨v, _, _, _, h2⟩ | ⟨_, h2⟩
    · rw [h2, List.length_drop]; omega
    · rw [h2]; exact hs
  clear hr h1 hc hL
  go_enter Tryz.func42, Tryz.ntmps42
  go_wp2_with fail
  refine (cutHead_any line _ (by omega) H0.out.bl.lw).mono ?_
  rintro e w1 ⟨rfl, hb1⟩
  rw [HC.out]
  have H1 := Lib.hid (H0.out.step hb1)
  clear hb1
  obtain ⟨c0, c1, c2, d0, f0, f1, f2, g0⟩ := H1.out.facts
  have H2 := Lib.hid (H1.out.put HL.out r)
  go_wp2_with fail
  clear c0 c1 c2 d0 f0 f1 f2 g0
  refine (clone_any (str r) _ (by simp [ByteArray.size]; omega)).mono ?_
  rintro e w2 ⟨rfl, hb2⟩
  have H3 := Lib.hid (H2.out.step hb2)
  clear hb2
  obtain ⟨c0, c1, c2, d0, f0, f1, f2, g0⟩ := H3.out.facts
  go_wp2_with fail
  exact rd_end H3.out HK.out rfl rfl (PO.nil _ _ _)

set_option maxHeartbeats 4000000 in
theorem read_bare (line : List UInt8) (w : World) (hs : line.length ≤ 100000) (hL : LW w) (h1 : (cutH line).1 ≠ 1) (hp : pathV (cutH line).1 = false) : Calls Tryz.prog 42 #[sv line] w (RdPost w line) := by
  obtain ⟨r, hr⟩ : ∃ r, r = (cutH line).2 := ⟨_, rfl⟩
  obtain ⟨v, hv⟩ : ∃ v, v = (cutH line).1 := ⟨_, rfl⟩
  rw [← hv] at h1 hp
  have hc : cutH line = (v, r) := by rw [hr, hv]
  have HC := Lib.hid hc
  have HP := Lib.hid hp
  have HK := Lib.hid (show readK line = (⟨v, [], []⟩, r) by unfold readK; rw [hc]; dsimp only; rw [if_neg h1, hp]; rfl)
  have HL := Lib.hid hL
  have H0 := Lib.hid (rb2_start hL)
  have e1 : ((v : Int) == 1) = false := by rw [beq_eq_false_iff_ne]; omega
  clear hr hv h1 hc hL hp
  go_enter Tryz.func42, Tryz.ntmps42
  go_wp2_with fail
  refine (cutHead_any line _ (by omega) H0.out.bl.lw).mono ?_
  rintro e w1 ⟨rfl, hb1⟩
  rw [HC.out]
  have H1 := Lib.hid (H0.out.step hb1)
  clear hb1
  obtain ⟨c0, c1, c2, d0, f0, f1, f2, g0⟩ := H1.out.facts
  have H2 := Lib.hid (H1.out.put HL.out r)
  go_wp2_with fail
  clear c0 c1 c2 d0 f0 f1 f2 g0
  refine (hasPath_any v _).mono ?_
  rintro e w2 ⟨rfl, rfl⟩
  rw [HP.out]
  obtain ⟨wa, hwa⟩ : ∃ wa, wa = w1.setCell ⟨w.heap.size + 1, 0, none⟩ (sv r) := ⟨_, rfl⟩
  rw [← hwa] at H2 ⊢
  clear hwa
  have H3 := Lib.hid H2.out.drew
  obtain ⟨c0, c1, c2, d0, f0, f1, f2, g0⟩ := H2.out.facts
  go_wp2_with fail
  go_region
  all_goals (try go_wp2_with fail)
  all_goals first
    | exact rd_end H2.out HK.out rfl rfl (PO.nil _ _ _)
    | exact rd_end H3.out HK.out rfl rfl (PO.nil _ _ _)

set_option maxHeartbeats 4000000 in
theorem read_none (line : List UInt8) (w : World) (hs : line.length ≤ 100000) (hL : LW w) (h1 : (cutH line).1 ≠ 1) (hp : pathV (cutH line).1 = true) (hq : cutP (cutH line).2 = none) : Calls Tryz.prog 42 #[sv line] w (RdPost w line) := by
  obtain ⟨r, hr⟩ : ∃ r, r = (cutH line).2 := ⟨_, rfl⟩
  obtain ⟨v, hv⟩ : ∃ v, v = (cutH line).1 := ⟨_, rfl⟩
  rw [← hv] at h1 hp
  rw [← hr] at hq
  have hrl : r.length ≤ 100000 := by
    rw [hr]
    rcases cutH_cases line with ⟨v, _, _, _, h2⟩ | ⟨_, h2⟩
    · rw [h2, List.length_drop]; omega
    · rw [h2]; exact hs
  have hc : cutH line = (v, r) := by rw [hr, hv]
  have HC := Lib.hid hc
  have HP := Lib.hid hp
  have HQ := Lib.hid hq
  have HK := Lib.hid (show readK line = (⟨0, [], []⟩, r) by unfold readK; rw [hc]; dsimp only; rw [if_neg h1, hp, if_pos rfl, hq])
  have HL := Lib.hid hL
  have H0 := Lib.hid (rb2_start hL)
  have e1 : ((v : Int) == 1) = false := by rw [beq_eq_false_iff_ne]; omega
  clear hr hv h1 hc hL hp hq
  go_enter Tryz.func42, Tryz.ntmps42
  go_wp2_with fail
  refine (cutHead_any line _ (by omega) H0.out.bl.lw).mono ?_
  rintro e w1 ⟨rfl, hb1⟩
  rw [HC.out]
  have H1 := Lib.hid (H0.out.step hb1)
  clear hb1
  obtain ⟨c0, c1, c2, d0, f0, f1, f2, g0⟩ := H1.out.facts
  have H2 := Lib.hid (H1.out.put HL.out r)
  go_wp2_with fail
  clear c0 c1 c2 d0 f0 f1 f2 g0
  refine (hasPath_any v _).mono ?_
  rintro e w2 ⟨rfl, rfl⟩
  rw [HP.out]
  obtain ⟨wa, hwa⟩ : ∃ wa, wa = w1.setCell ⟨w.heap.size + 1, 0, none⟩ (sv r) := ⟨_, rfl⟩
  rw [← hwa] at H2 ⊢
  clear hwa
  obtain ⟨c0, c1, c2, d0, f0, f1, f2, g0⟩ := H2.out.facts
  go_wp2_with fail
  refine (cutPath_any r _ (by omega) H2.out.bl.ml).mono ?_
  rintro e w3 ⟨rfl, hb3⟩
  rw [HQ.out]
  clear c0 c1 c2 d0 f0 f1 f2 g0
  have H4 := Lib.hid (H2.out.step hb3)
  clear hb3
  obtain ⟨c0, c1, c2, d0, f0, f1, f2, g0⟩ := H4.out.facts
  unfold cutPV
  have H5 := Lib.hid (H4.out.put HL.out r)
  have H6 := Lib.hid H5.out.drew
  go_wp2_with fail
  go_region
  all_goals (try go_wp2_with fail)
  all_goals first
    | exact rd_end H5.out HK.out rfl rfl (PO.nil _ _ _)
    | exact rd_end H6.out HK.out rfl rfl (PO.nil _ _ _)
end Go.Proofs.YtifmnlcggokfkaaGreatDoor
