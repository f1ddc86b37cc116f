/-
  The reference's great and line.
-/
import Derived.Test.YtanfonpbnamjmaaDoorCLong
import Derived.Test.YtanfonpbnamjmaaDoorDRShow
namespace Go.Proofs.YtanfonpbnamjmaaDoor
open Go Go.RowKit Go.Shelf
set_option maxRecDepth 100000

set_option maxHeartbeats 2000000 in
theorem rgreat_any (s : List UInt8) (w : World) (hs : s.length ≤ 1000000) : Calls Tryd.prog 97 #[sv s] w fun e w' => e = .returned (sv (greatL s)) ∧ Below w.heap.size w w' := by
  obtain ⟨g, cap, W, hrun, hrb⟩ := rb_bytes w w (Below.refl _ _) s hs
  have h0 : RB w g cap (half s 0) W := by rw [half_zero]; exact hrb
  have H0 := Lib.hid h0
  have HF := Lib.hid (fun W' (h : RB w g cap (half s s.length) W') => h.text (n := s.length) (by rw [half_len]))
  clear hrb h0
  go_enter Tryd.func97, Tryd.ntmps97
  go_wp2_with fail
  clear hrun
  go_loopw [4] (fun i wr => ∃ j : Nat, j ≤ s.length ∧ i = .int .i64 j ∧ RB w g cap (half s j) wr) (fun i _ => s.length - (intOf i).toNat)
  case atStart => exact ⟨0, Nat.zero_le _, rfl, H0.out⟩
  case round =>
    obtain ⟨j, hj, rfl, hb⟩ := hrel
    have HB := Lib.hid hb
    by_cases hlt : j < s.length
    · have hc := hb.cell j (by rw [half_len]; exact hlt)
      rw [half_at hlt] at hc
      obtain ⟨c, hcd⟩ : ∃ c, c = (s.getD j 0).toNat := ⟨_, rfl⟩
      have hc1 : wr.cell? ⟨g, j, none⟩ = some (.int .u8 (c : Int)) := by rw [hc, hcd]; rfl
      have hf := hb.free j (by have := hb.ok; rw [half_len] at this; omega)
      rcases (show (97 ≤ c ∧ c ≤ 122) ∨ c < 97 ∨ (97 ≤ c ∧ 122 < c) by omega) with ⟨h1, h2⟩ | h1 | ⟨h1, h2⟩
      · have hz : (c : Int) - 32 = ((upB (s.getD j 0)).toNat : Int) := by
          unfold upB
          rw [← hcd, if_pos ⟨h1, h2⟩, UInt8.toNat_ofNat_of_lt' (by show c - 32 < 256; omega)]
          omega
        have hn : RB w g cap (half s (j + 1)) (wr.setCell ⟨g, j, none⟩ (.int .u8 ((c : Int) - 32))) := by
          rw [← half_step hlt]
          exact hb.set (by rw [half_len]; exact hlt) _ hz
        have HN := Lib.hid hn
        clear hb hc hz hn hcd
        go_wp2_with fail
        go_roundw
        case rel => exact ⟨j + 1, by omega, by go_num, HN.out⟩
        case measure => simp [intOf]; omega
      all_goals
        have he : upB (s.getD j 0) = s.getD j 0 := by unfold upB; rw [← hcd, if_neg (by omega)]
        have HN := Lib.hid (show RB w g cap (half s (j + 1)) wr by rw [← half_same hlt he]; exact hb)
        have h256 : c < 256 := by rw [hcd]; exact (s.getD j 0).toNat_lt
        clear hb hc he hcd
        go_wp2_with fail
        go_roundw
        case rel => exact ⟨j + 1, by omega, by go_num, HN.out⟩
        case measure => simp [intOf]; omega
    · obtain rfl : j = s.length := by omega
      have ht := (HF.out) wr hb
      rw [half_end] at ht
      have HL := Lib.hid hb.below
      clear hb
      go_wp2_with fail
      go_ret
      exact ⟨rfl, HL.out⟩

/-! ### line -/
def CB5 (w : World) (b : Nat) (c : Cp) : Prop := w.heap[b]? = some (.cells (cpL c) 55 (0, 0))
/-- The seven cells of the result written, behind whatever. -/
theorem seven5 {w W : World} {k1 : Nat} {c : Cp} (h : CB5 W k1 cp0) (hb : Below w.heap.size w W) (hu : w.heap.size ≤ k1) :
    CB5 (((((((W.setCell ⟨k1, 0, none⟩ (.bool c.st)).setCell ⟨k1, 1, none⟩ (.bool c.pi)).setCell ⟨k1, 2, none⟩ (.bool c.rq)).setCell ⟨k1, 3, none⟩ (.bool c.ds)).setCell ⟨k1, 4, none⟩ (.bool c.eb)).setCell ⟨k1, 5, none⟩ (.bool c.sz)).setCell ⟨k1, 6, none⟩ (.int .i64 c.mo)) k1 c ∧
    Below w.heap.size w (((((((W.setCell ⟨k1, 0, none⟩ (.bool c.st)).setCell ⟨k1, 1, none⟩ (.bool c.pi)).setCell ⟨k1, 2, none⟩ (.bool c.rq)).setCell ⟨k1, 3, none⟩ (.bool c.ds)).setCell ⟨k1, 4, none⟩ (.bool c.eb)).setCell ⟨k1, 5, none⟩ (.bool c.sz)).setCell ⟨k1, 6, none⟩ (.int .i64 c.mo)) :=
  ⟨(blk_set (blk_set (blk_set (blk_set (blk_set (blk_set (blk_set h 0 _) 1 _) 2 _) 3 _) 4 _) 5 _) 6 _).trans rfl,
    ((((((hb.setCell (p := ⟨k1, 0, none⟩) hu _).setCell (p := ⟨k1, 1, none⟩) hu _).setCell (p := ⟨k1, 2, none⟩) hu _).setCell (p := ⟨k1, 3, none⟩) hu _).setCell (p := ⟨k1, 4, none⟩) hu _).setCell (p := ⟨k1, 5, none⟩) hu _).setCell (p := ⟨k1, 6, none⟩) hu _⟩
theorem cbC5 {W : World} {k : Nat} {c : Cp} (h : CB5 W k c) :
    W.cell? ⟨k, 0, none⟩ = some (.bool c.st) ∧ W.cell? ⟨k, 1, none⟩ = some (.bool c.pi) ∧ W.cell? ⟨k, 2, none⟩ = some (.bool c.rq) ∧ W.cell? ⟨k, 3, none⟩ = some (.bool c.ds) ∧ W.cell? ⟨k, 4, none⟩ = some (.bool c.eb) ∧ W.cell? ⟨k, 5, none⟩ = some (.bool c.sz) ∧ W.cell? ⟨k, 6, none⟩ = some (.int .i64 c.mo) :=
  ⟨by rw [cellAt h]; rfl, by rw [cellAt h]; rfl, by rw [cellAt h]; rfl, by rw [cellAt h]; rfl, by rw [cellAt h]; rfl, by rw [cellAt h]; rfl, by rw [cellAt h]; rfl⟩
end Go.Proofs.YtanfonpbnamjmaaDoor
