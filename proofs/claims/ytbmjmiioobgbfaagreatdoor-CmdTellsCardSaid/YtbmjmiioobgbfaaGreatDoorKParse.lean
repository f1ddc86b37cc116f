/-
  The contract of package cmd's Parse.
-/
import Derived.Test.YtbmjmiioobgbfaaGreatDoorKReadM
namespace Go.Proofs.YtbmjmiioobgbfaaGreatDoor
open Go Go.RowKit Go.Shelf
set_option maxRecDepth 100000
set_option linter.unusedSimpArgs false
set_option linter.unusedVariables false

theorem wordP_small {s : List UInt8} {p : PM} (h : wordP s = some p) : p.1.length ≤ s.length ∧ p.2.length ≤ s.length := by
  unfold wordP at h
  split at h
  · simp only [Option.some.injEq] at h
    subst h
    have := untilB_len s 61
    refine ⟨by rw [List.length_map]; exact this, by rw [List.length_tail, List.length_drop]; omega⟩
  · cases h
theorem stepP_small {s r : List UInt8} {p : PM} (h : stepP s = some (p, r)) : p.1.length ≤ s.length ∧ p.2.length ≤ s.length := by
  cases s with
  | nil => cases h
  | cons c t =>
    rw [stepP_cons] at h
    split at h
    · cases hw : wordP (untilB t 32) with
      | none => rw [hw] at h; cases h
      | some q =>
        rw [hw] at h
        simp only [Option.map_some, Option.some.injEq, Prod.mk.injEq] at h
        obtain ⟨rfl, _⟩ := h
        have := wordP_small hw
        have := untilB_len t 32
        simp; omega
    · cases h
theorem parsP_small : ∀ (n : Nat) (s : List UInt8), s.length ≤ n → (parsP s).1.length ≤ s.length ∧ ∀ p ∈ (parsP s).1, p.1.length ≤ s.length ∧ p.2.length ≤ s.length := by
  intro n
  induction n with
  | zero =>
    intro s hs
    obtain rfl : s = [] := List.length_eq_zero_iff.1 (by omega)
    rw [parsP_none rfl]; simp
  | succ n ih =>
    intro s hs
    cases h : stepP s with
    | none => rw [parsP_none h]; simp
    | some x =>
      obtain ⟨p, r⟩ := x
      have hl := stepP_len h
      have hsm := stepP_small h
      obtain ⟨i1, i2⟩ := ih r (by omega)
      rw [parsP_some h]
      refine ⟨by simp; omega, fun q hq => ?_⟩
      rcases List.mem_cons.1 hq with rfl | hq
      · exact hsm
      · have := i2 q hq
        omega
theorem cutH_small (s : List UInt8) : (cutH s).1 ≤ 6 ∧ (cutH s).2.length ≤ s.length := by
  rcases cutH_cases s with ⟨v, h1, h6, _, h2⟩ | ⟨_, h2⟩
  · rw [h2, List.length_drop]; omega
  · rw [h2]; exact ⟨by omega, Nat.le_refl _⟩
theorem read_small (line : List UInt8) : (readK line).1.verb < 256 ∧ (readK line).1.arg.length ≤ line.length ∧ (readK line).1.ps.length ≤ line.length ∧ (∀ p ∈ (readK line).1.ps, p.1.length ≤ line.length ∧ p.2.length ≤ line.length) ∧ (readK line).2.length ≤ line.length := by
  obtain ⟨h1, h2⟩ := cutH_small line
  unfold readK
  cases hh : cutH line with
  | mk v r =>
  rw [hh] at h1 h2
  dsimp only at h1 h2 ⊢
  split
  · exact ⟨by first | (simp; done) | (simp; omega), h2, by simp, by simp, by simp⟩
  · split
    · cases hc : cutP r with
      | none => dsimp only; exact ⟨by simp, by simp, by simp, by simp, h2⟩
      | some x =>
        obtain ⟨a, b⟩ := x
        have hl := congrArg List.length (cutP_some hc).2
        simp at hl
        obtain ⟨i1, i2⟩ := parsP_small b.length b (Nat.le_refl _)
        dsimp only
        refine ⟨by omega, by omega, by omega, fun p hp => ?_, ?_⟩
        · have := i2 p hp; omega
        · have : (parsP b).2.length ≤ b.length := by
            have key : ∀ (n : Nat) (s : List UInt8), s.length ≤ n → (parsP s).2.length ≤ s.length := by
              intro n
              induction n with
              | zero =>
                intro s hs
                obtain rfl : s = [] := List.length_eq_zero_iff.1 (by omega)
                rw [parsP_none rfl]; simp
              | succ n ih =>
                intro s hs
                cases h : stepP s with
                | none => rw [parsP_none h]; simp
                | some x =>
                  obtain ⟨p, r⟩ := x
                  have hl := stepP_len h
                  have := ih r (by omega)
                  rw [parsP_some h]
                  dsimp only
                  omega
            exact key _ b (Nat.le_refl _)
          omega
    · exact ⟨by simp; omega, by simp, by simp, by simp, h2⟩
theorem parse_small (line : List UInt8) : (parseK line).1.verb < 256 ∧ (parseK line).1.arg.length ≤ line.length ∧ (parseK line).1.ps.length ≤ line.length ∧ ∀ p ∈ (parseK line).1.ps, p.1.length ≤ line.length ∧ p.2.length ≤ line.length := by
  obtain ⟨h1, h2, h3, h4, _⟩ := read_small line
  unfold parseK
  split
  · exact ⟨by simp, by simp, by simp, by simp⟩
  · split
    · exact ⟨h1, h2, h3, h4⟩
    · exact ⟨by simp, by simp, by simp, by simp⟩

/-- What Parse leaves. -/
def PaPost (w : World) (line : List UInt8) (e : Ending) (w' : World) : Prop :=
  ∃ u, e = .returned (.tuple #[cmV (parseK line).1 u, .int .i64 ((parseK line).2 : Int)]) ∧ Below w.heap.size w w' ∧ PO 38 w.heap.size w' u (parseK line).1.ps

theorem put_world {w W : World} {n0 : Nat} {v0 v1 v2 : Value} {C : TypeId} (hc : W.heap[n0]? = some (.cells #[v0, v1, v2] C (0, 0))) (hb : Below n0 w W) (x0 x1 x2 : Value) :
    (((W.setCell ⟨n0, 0, none⟩ x0).setCell ⟨n0, 1, none⟩ x1).setCell ⟨n0, 2, none⟩ x2).heap[n0]? = some (.cells #[x0, x1, x2] C (0, 0)) ∧
    Below n0 w (((W.setCell ⟨n0, 0, none⟩ x0).setCell ⟨n0, 1, none⟩ x1).setCell ⟨n0, 2, none⟩ x2) := by
  refine ⟨?_, ?_⟩
  · simp [World.setCell, Array.getElem?_modify, hc]
  · exact ((hb.setCell (p := ⟨n0, 0, none⟩) (Nat.le_refl _) _).setCell (p := ⟨n0, 1, none⟩) (Nat.le_refl _) _).setCell (p := ⟨n0, 2, none⟩) (Nat.le_refl _) _
theorem PO.put3 {e : TypeId} {base n0 : Nat} {w : World} {v : Value} {ps : List PM} (h : PO e base w v ps) (hn : n0 < base) (x y z : Value) : PO e base (((w.setCell ⟨n0, 0, none⟩ x).setCell ⟨n0, 1, none⟩ y).setCell ⟨n0, 2, none⟩ z) v ps := by
  have q : ∀ k, v.ownBlock = some k → n0 < k := fun k e => by have := (h.lt e).1; omega
  exact ((h.set (fun k e => by have := q k e; omega) x).set (fun k e => by have := q k e; omega) y).set (fun k e => by have := q k e; omega) z
abbrev zC : Array Value := #[.int .u8 0, sv [], .slice none 0 0]

theorem parse_long (line : List UInt8) (w : World) (h : 510 < line.length) : Calls Tryz.prog 16 #[sv line] w (PaPost w line) := by
  have HF := Lib.hid (show parseK line = (cm0, 40) by unfold parseK; rw [if_pos h])
  have HW := Lib.hid (And.intro (heap_alloc_new w (.cells zC 41)) (below_alloc w (.cells zC 41)))
  go_enter Tryz.func16, Tryz.ntmps16
  go_wp2_with fail
  refine bodyPost_ret (v := .tuple #[.agg zC, .int .i64 40]) (results_row_tmp (p := 2) (u := 3) (fr := (0, 0)) Tryz.results16 _ _ w.heap.size 41 _ _ rfl HW.out.1 Tryz.underlying41 rfl (by kernel_rfl)) rfl ⟨.slice none 0 0, ?_, HW.out.2, ?_⟩
  · rw [HF.out]; rfl
  · rw [HF.out]; exact PO.nil _ _ _

set_option maxHeartbeats 4000000 in
theorem parse_short (line : List UInt8) (w : World) (h : line.length ≤ 510) (hL : LW w) : Calls Tryz.prog 16 #[sv line] w (PaPost w line) := by
  have HK := Lib.hid (show parseK line = if (readK line).2.isEmpty && mayK (readK line).1 then ((readK line).1, 0) else (cm0, 4) by unfold parseK; rw [if_neg (by omega)])
  obtain ⟨s1, s2, s3, s4, s5⟩ := read_small line
  have HL := Lib.hid (hL.below (below_alloc w (.cells zC 41)))
  have hblk := heap_alloc_new w (.cells zC 41)
  have HZ := Lib.hid hblk
  have HB0 := Lib.hid (below_alloc w (.cells zC 41))
  obtain ⟨c, hc⟩ : ∃ c, c = (readK line).1 := ⟨_, rfl⟩
  obtain ⟨r, hr⟩ : ∃ r, r = (readK line).2 := ⟨_, rfl⟩
  have HP := Lib.hid (show ∀ W, LW W → Calls Tryz.prog 52 #[sv line] W fun e w' => ∃ A cap, e = .returned (.tuple #[cmV c (.slice A c.ps.length cap), sv r]) ∧ Below W.heap.size W w' ∧ PO 38 W.heap.size w' (.slice A c.ps.length cap) c.ps from fun W hW => by
    refine (read_any line W (by omega) hW).mono ?_
    rintro e w' ⟨u, rfl, h1, h2⟩
    obtain ⟨A, cap, rfl⟩ := h2.form
    rw [hc, hr]
    exact ⟨A, cap, rfl, h1, h2⟩)
  rw [← hc, ← hr] at HK
  rw [← hc] at s1 s2 s3 s4
  clear hL hblk hc hr
  obtain ⟨v, a, ps⟩ := c
  dsimp only at s1 s2 s3 s4 HP
  go_enter Tryz.func16, Tryz.ntmps16
  go_wp2_with fail
  refine (HP.out _ HL.out).mono ?_
  rintro e w1 ⟨A, cap, rfl, hb1, hpo⟩
  have HB1 := Lib.hid (HB0.out.trans (hb1.mono HB0.out.size))
  have HLW1 := Lib.hid (HL.out.below hb1)
  have hz1 := blk_below HZ.out hb1
  have hpo2 := hpo.below (below_alloc w1 (.cells #[.int .u8 (v : Int), sv a, .slice A ps.length cap] 41))
  have hz2 := blk_below hz1 (below_alloc w1 (.cells #[.int .u8 (v : Int), sv a, .slice A ps.length cap] 41))
  have hq2 := heap_alloc_new w1 (.cells #[.int .u8 (v : Int), sv a, .slice A ps.length cap] 41)
  have HB2 := Lib.hid (HB1.out.trans ((below_alloc w1 (.cells #[.int .u8 (v : Int), sv a, .slice A ps.length cap] 41)).mono HB1.out.size))
  have HL2 := Lib.hid (HLW1.out.below (below_alloc w1 (.cells #[.int .u8 (v : Int), sv a, .slice A ps.length cap] 41)))
  have HZ1 := Lib.hid hz1
  have HPO := Lib.hid hpo2
  have HZ2 := Lib.hid hz2
  have HQ2 := Lib.hid hq2
  have l1 : w.heap.size < w1.heap.size := lt_of_blk hz1
  clear hb1 hpo hz1 hpo2 hz2 hq2
  cases r with
  | cons x t =>
    have HF := Lib.hid (show parseK line = (cm0, 4) by rw [HK.out]; rfl)
    have hz1 := HZ1.out
    have c0 : w1.cell? ⟨w.heap.size, 0, none⟩ = some (.int .u8 0) := by rw [cellAt hz1]; rfl
    have c1 : w1.cell? ⟨w.heap.size, 1, none⟩ = some (sv []) := by rw [cellAt hz1]; rfl
    have c2 : w1.cell? ⟨w.heap.size, 2, none⟩ = some (.slice none 0 0) := by rw [cellAt hz1]; rfl
    have f0 := freeAt hz1 0
    have f1 := freeAt hz1 1
    have f2 := freeAt hz1 2
    obtain ⟨y1, y2⟩ := put_world (w := w) hz1 HB1.out (.int .u8 0) (sv []) (.slice none 0 0)
    have HW := Lib.hid (And.intro ((Lib.alloc_old _ (.cells #[.int .u8 (v : Int), sv a, .slice A ps.length cap] 41) _ (lt_of_blk y1)).trans y1) (y2.trans ((below_alloc _ (.cells #[.int .u8 (v : Int), sv a, .slice A ps.length cap] 41)).mono y2.size)))
    clear y1 y2
    have hemp : (x :: t).isEmpty = false := rfl
    clear hz1
    obtain ⟨r, hrt⟩ : ∃ r, r = x :: t := ⟨_, rfl⟩
    rw [← hrt] at hemp ⊢
    go_wp2_with fail
    refine bodyPost_ret (v := .tuple #[.agg zC, .int .i64 4]) (results_row_tmp (p := 2) (u := 3) (fr := (0, 0)) Tryz.results16 _ _ w.heap.size 41 _ _ rfl HW.out.1 Tryz.underlying41 rfl (by kernel_rfl)) rfl ⟨.slice none 0 0, ?_, HW.out.2, ?_⟩
    · rw [HF.out]; rfl
    · rw [HF.out]; exact PO.nil _ _ _
  | nil =>
    have HPR := Lib.hid HPO.out.pr
    obtain ⟨m, hm⟩ : ∃ m, m = mayK ⟨v, a, ps⟩ := ⟨_, rfl⟩
    rw [← hm] at HK
    have HM := Lib.hid (show ∀ W, Below (w1.alloc (.cells #[.int .u8 (v : Int), sv a, .slice A ps.length cap] 41)).heap.size (w1.alloc (.cells #[.int .u8 (v : Int), sv a, .slice A ps.length cap] 41)) W → Calls Tryz.prog 21 #[.agg #[.int .u8 (v : Int), sv a, .slice A ps.length cap]] W fun e w' => e = .returned (.bool m) ∧ Below W.heap.size W w' from fun W hW => by
      rw [hm]
      exact mayK_any ⟨v, a, ps⟩ _ W (HPR.out.step hW) s1 (by dsimp only; omega) (by dsimp only; omega) (fun p hp => by have := s4 p hp; omega) (HL2.out.below hW).ml)
    clear hm
    go_wp2_with fail
    refine (HM.out _ (Below.refl _ _)).mono ?_
    rintro e w2 ⟨rfl, hb2⟩
    have hz2 := blk_below HZ2.out hb2
    have hq2 := blk_below HQ2.out hb2
    have HPO3 := Lib.hid (HPO.out.below hb2)
    have HB3 := Lib.hid (HB2.out.trans (hb2.mono HB2.out.size))
    have c0 : w2.cell? ⟨w.heap.size, 0, none⟩ = some (.int .u8 0) := by rw [cellAt hz2]; rfl
    have c1 : w2.cell? ⟨w.heap.size, 1, none⟩ = some (sv []) := by rw [cellAt hz2]; rfl
    have c2 : w2.cell? ⟨w.heap.size, 2, none⟩ = some (.slice none 0 0) := by rw [cellAt hz2]; rfl
    have q0 : w2.cell? ⟨w1.heap.size, 0, none⟩ = some (.int .u8 (v : Int)) := by rw [cellAt hq2]; rfl
    have q1 : w2.cell? ⟨w1.heap.size, 1, none⟩ = some (sv a) := by rw [cellAt hq2]; rfl
    have q2 : w2.cell? ⟨w1.heap.size, 2, none⟩ = some (.slice A ps.length cap) := by rw [cellAt hq2]; rfl
    have f0 := freeAt hz2 0
    have f1 := freeAt hz2 1
    have f2 := freeAt hz2 2
    have HZ3 := Lib.hid hz2
    clear hb2 hz2 hq2
    cases m with
    | false =>
      have HF := Lib.hid (show parseK line = (cm0, 4) by rw [HK.out]; rfl)
      have HW := Lib.hid (put_world (w := w) HZ3.out HB3.out (.int .u8 0) (sv []) (.slice none 0 0))
      go_wp2_with fail
      refine bodyPost_ret (v := .tuple #[.agg zC, .int .i64 4]) (results_row_tmp (p := 2) (u := 3) (fr := (0, 0)) Tryz.results16 _ _ w.heap.size 41 _ _ rfl HW.out.1 Tryz.underlying41 rfl (by kernel_rfl)) rfl ⟨.slice none 0 0, ?_, HW.out.2, ?_⟩
      · rw [HF.out]; rfl
      · rw [HF.out]; exact PO.nil _ _ _
    | true =>
      have HF := Lib.hid (show parseK line = (⟨v, a, ps⟩, 0) by rw [HK.out]; rfl)
      have HW := Lib.hid (put_world (w := w) HZ3.out HB3.out (.int .u8 (v : Int)) (sv a) (.slice A ps.length cap))
      have HPO4 := Lib.hid (HPO3.out.put3 (n0 := w.heap.size) (by simp) (.int .u8 (v : Int)) (sv a) (.slice A ps.length cap))
      go_wp2_with fail
      refine bodyPost_ret (v := .tuple #[cmV ⟨v, a, ps⟩ (.slice A ps.length cap), .int .i64 0]) (results_row_tmp (p := 2) (u := 3) (fr := (0, 0)) Tryz.results16 _ _ w.heap.size 41 _ _ rfl HW.out.1 Tryz.underlying41 rfl (by kernel_rfl)) rfl ⟨.slice A ps.length cap, ?_, HW.out.2, ?_⟩
      · rw [HF.out]; rfl
      · rw [HF.out]; exact HPO4.out.lower (by simp)

theorem parseK_any (line : List UInt8) (w : World) (hL : LW w) : Calls Tryz.prog 16 #[sv line] w (PaPost w line) := by
  by_cases h : 510 < line.length
  · exact parse_long line w h
  · exact parse_short line w (by omega) hL
end Go.Proofs.YtbmjmiioobgbfaaGreatDoor
