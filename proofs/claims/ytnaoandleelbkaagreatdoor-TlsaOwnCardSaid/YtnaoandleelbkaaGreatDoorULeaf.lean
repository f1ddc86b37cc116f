/-
  The contracts of isNumbered, Usable, and what a Selector takes, a Match makes.
-/
import Derived.Test.YtnaoandleelbkaaGreatDoorUPm
import Derived.Test.YtnaoandleelbkaaGreatDoorJPm
namespace Go.Proofs.YtnaoandleelbkaaGreatDoor
set_option linter.unusedSimpArgs false
set_option linter.unusedVariables false
open Go Go.RowKit
set_option maxRecDepth 100000

def rcV (r : Rc) : Value := .agg #[.int .u8 (r.us : Int), .int .u8 (r.se : Int), .int .u8 (r.ma : Int), sv r.da]
abbrev cellsR (r : Rc) : Obj := .cells #[.int .u8 (r.us : Int), .int .u8 (r.se : Int), .int .u8 (r.ma : Int), sv r.da] 65
/-- A box with a record. -/
def RB (W : World) (k : Nat) (r : Rc) : Prop := W.heap[k]? = some (.cells #[.int .u8 (r.us : Int), .int .u8 (r.se : Int), .int .u8 (r.ma : Int), sv r.da] 65 (0, 0))
theorem RB.lt {W : World} {k : Nat} {r : Rc} (h : RB W k r) : k < W.heap.size := lt_of_blk h
theorem RB.new (W : World) (r : Rc) : RB (W.alloc (cellsR r)) W.heap.size r := heap_alloc_new W _
theorem RB.step {W W' : World} {k : Nat} {r : Rc} (h : RB W k r) (hb : Below W.heap.size W W') : RB W' k r := (hb.block k h.lt).trans h
theorem RB.c0 {W : World} {k : Nat} {r : Rc} (h : RB W k r) : W.cell? ⟨k, 0, none⟩ = some (.int .u8 (r.us : Int)) := by rw [cellAt h]; rfl
theorem RB.c1 {W : World} {k : Nat} {r : Rc} (h : RB W k r) : W.cell? ⟨k, 1, none⟩ = some (.int .u8 (r.se : Int)) := by rw [cellAt h]; rfl
theorem RB.c2 {W : World} {k : Nat} {r : Rc} (h : RB W k r) : W.cell? ⟨k, 2, none⟩ = some (.int .u8 (r.ma : Int)) := by rw [cellAt h]; rfl
theorem RB.c3 {W : World} {k : Nat} {r : Rc} (h : RB W k r) : W.cell? ⟨k, 3, none⟩ = some (sv r.da) := by rw [cellAt h]; rfl
theorem RB.free {W : World} {k : Nat} {r : Rc} (h : RB W k r) (j : Nat) : W.frozen? ⟨k, j, none⟩ = false := freeAt h j

theorem numB_int (u s m : Nat) : numB u s m = (((u : Int) == 2 || (u : Int) == 3) && decide ((s : Int) < 2) && decide ((m : Int) < 2)) := by
  unfold numB
  have h1 : ((u : Int) == 2) = (u == 2) := by rw [Bool.eq_iff_iff]; simp; omega
  have h2 : ((u : Int) == 3) = (u == 3) := by rw [Bool.eq_iff_iff]; simp; omega
  rw [h1, h2]
  congr 1
  · congr 1
    rw [Bool.eq_iff_iff]; simp; omega
  · rw [Bool.eq_iff_iff]; simp; omega
set_option maxHeartbeats 4000000 in
theorem isnum_u {w : World} (r : Rc) : Calls Tryz.prog 95 #[.agg #[.int .u8 (r.us : Int), .int .u8 (r.se : Int), .int .u8 (r.ma : Int), sv r.da]] w fun e w' => e = .returned (.bool (numB r.us r.se r.ma)) ∧ Below w.heap.size w w' := by
  obtain ⟨u, s, m, d⟩ := r
  have hn := numB_int u s m
  simp only
  obtain ⟨q, hq⟩ : ∃ q, q = numB u s m := ⟨_, rfl⟩
  rw [← hq] at hn ⊢
  have HN := Lib.hid hn
  clear hn hq
  obtain ⟨b1, hb1⟩ : ∃ b, ((u : Int) == 2) = b := ⟨_, rfl⟩
  obtain ⟨b2, hb2⟩ : ∃ b, ((u : Int) == 3) = b := ⟨_, rfl⟩
  obtain ⟨b3, hb3⟩ : ∃ b, decide ((s : Int) < 2) = b := ⟨_, rfl⟩
  obtain ⟨b4, hb4⟩ : ∃ b, decide ((m : Int) < 2) = b := ⟨_, rfl⟩
  rw [hb1, hb2, hb3, hb4] at HN
  cases b1 <;> cases b2 <;> cases b3 <;> cases b4 <;>
  · go_enter Tryz.func95, Tryz.ntmps95
    go_wp2_with fail
    go_ret
    rw [HN.out]
    exact ⟨rfl, below_alloc _ _⟩
set_option maxHeartbeats 4000000 in
theorem usable_any {w : World} (r : Rc) : Calls Tryz.prog 46 #[.agg #[.int .u8 (r.us : Int), .int .u8 (r.se : Int), .int .u8 (r.ma : Int), sv r.da]] w fun e w' => e = .returned (.bool (usableB r)) ∧ Below w.heap.size w w' := by
  have hR := RB.new w r
  have HS := Lib.hid (fun W : World => @isnum_u W r)
  obtain ⟨u, s, m, d⟩ := r
  have hz := str_size d
  have HR := Lib.hid hR
  have HB0 := Lib.hid (below_alloc w (cellsR ⟨u, s, m, d⟩))
  simp only at HS
  obtain ⟨b, hb⟩ : ∃ b, b = numB u s m := ⟨_, rfl⟩
  have HU := Lib.hid (show usableB ⟨u, s, m, d⟩ = if (m : Int) == 1 then b && (d.length : Int) == 32 else b && (!d.isEmpty) && decide ((d.length : Int) ≤ 512) by
    unfold usableB
    rw [← hb]
    simp only
    by_cases hm : m = 1
    · subst hm
      simp only [beq_self_eq_true, if_true]
      rw [if_pos (by rfl)]
      congr 1
      rw [Bool.eq_iff_iff]; simp; omega
    · rw [if_neg (by simpa using hm), if_neg (by simp; omega)]
      congr 1
      rw [Bool.eq_iff_iff]; simp; omega)
  rw [← hb] at HS
  obtain ⟨q, hq⟩ : ∃ q, q = usableB ⟨u, s, m, d⟩ := ⟨_, rfl⟩
  rw [← hq] at HU
  show Calls Tryz.prog 46 _ w fun e w' => e = .returned (.bool (usableB ⟨u, s, m, d⟩)) ∧ Below w.heap.size w w'
  rw [← hq]
  clear hR hb hq
  obtain ⟨b1, hb1⟩ : ∃ b, ((m : Int) == 1) = b := ⟨_, rfl⟩
  rw [hb1] at HU
  cases b1 with
  | true =>
    obtain ⟨b2, hb2⟩ : ∃ b, ((d.length : Int) == 32) = b := ⟨_, rfl⟩
    rw [hb2] at HU
    cases b <;> cases b2 <;>
    · go_enter Tryz.func46, Tryz.ntmps46
      go_wp2_with (go_at_call 95; refine (HS.out _).mono ?_; rintro e w1 ⟨rfl, h1⟩; have c3 := (HR.out.step h1).c3; have H1 := Lib.hid h1; clear h1)
      go_ret
      rw [HU.out]
      exact ⟨rfl, HB0.out.trans (H1.out.mono HB0.out.size)⟩
  | false =>
    obtain ⟨b2, hb2⟩ : ∃ b, decide ((d.length : Int) ≤ 512) = b := ⟨_, rfl⟩
    rw [hb2] at HU
    by_cases hd : d = []
    · subst hd
      cases b <;> cases b2 <;>
      · go_enter Tryz.func46, Tryz.ntmps46
        go_wp2_with (go_at_call 95; refine (HS.out _).mono ?_; rintro e w1 ⟨rfl, h1⟩; have c3 := (HR.out.step h1).c3; have H1 := Lib.hid h1; clear h1)
        go_ret
        rw [HU.out]
        exact ⟨rfl, HB0.out.trans (H1.out.mono HB0.out.size)⟩
    · have hde : d.isEmpty = false := by simpa using hd
      rw [hde] at HU
      cases b <;> cases b2 <;>
      · go_enter Tryz.func46, Tryz.ntmps46
        go_wp2_with (go_at_call 95; refine (HS.out _).mono ?_; rintro e w1 ⟨rfl, h1⟩; have c3 := (HR.out.step h1).c3; have H1 := Lib.hid h1; clear h1)
        go_ret
        rw [HU.out]
        exact ⟨rfl, HB0.out.trans (H1.out.mono HB0.out.size)⟩
end Go.Proofs.YtnaoandleelbkaaGreatDoor
