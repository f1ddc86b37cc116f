/-
  The contracts of the laws' own functions 'same', 'copies', 'mail'.
-/
import Derived.Deep.QuietTactic
import Derived.BigQuiet
import Derived.Laws.NewBlocks
import Derived.Test.YtbmjmiioobgbfaaGreatDoorAWork
import Derived.Test.YtbmjmiioobgbfaaGreatDoorADoms
namespace Go.Proofs.YtbmjmiioobgbfaaGreatDoor
open Go Go.RowKit
set_option maxRecDepth 100000

set_option maxHeartbeats 4000000 in
theorem lsame_any (xs ys : List (List UInt8)) (v u : Value) (w : World) (hx : RowIs w v xs) (hy : RowIs w u ys) (hxl : xs.length ≤ 1000000) (hyl : ys.length ≤ 1000000) :
    Calls Tryz.prog 11 #[v, u] w fun e w' => e = .returned (.bool (xs == ys)) ∧ Below w.heap.size w w' := by
  obtain ⟨A, c, rfl, hx⟩ := hx
  obtain ⟨B, d, rfl, hy⟩ := hy
  by_cases hl : xs.length = ys.length
  · have hne : ((xs.length : Int) != (ys.length : Int)) = false := by rw [hl]; simp
    have HX := Lib.hid hx
    have HY := Lib.hid hy
    have HLL := Lib.hid hl
    have HB := Lib.hid (Below.refl w.heap.size w)
    clear hx hy hl
    go_enter Tryz.func11, Tryz.ntmps11
    go_wp2_with fail
    go_loopw [5] (fun i wr => ∃ k : Nat, k ≤ xs.length ∧ i = .int .i64 k ∧ (∀ j, j < k → xs.getD j [] = ys.getD j []) ∧ Below w.heap.size w wr) (fun i _ => xs.length - (intOf i).toNat)
    case atStart => exact ⟨0, Nat.zero_le _, rfl, fun j hj => absurd hj (by omega), HB.out⟩
    case round =>
      obtain ⟨k, hk, rfl, ha, hbl⟩ := hrel
      have HA := Lib.hid ha
      have HL := Lib.hid hbl
      clear ha hbl
      by_cases hlt : k < xs.length
      · have hlt2 : k < ys.length := by have := HLL.out; omega
        obtain ⟨g, rfl, hg, hc, _⟩ := HX.out (by omega)
        obtain ⟨g2, rfl, hg2, hc2, _⟩ := HY.out (by omega)
        obtain ⟨x, hxe⟩ : ∃ x, x = xs.getD k [] := ⟨_, rfl⟩
        obtain ⟨y, hye⟩ : ∃ y, y = ys.getD k [] := ⟨_, rfl⟩
        have c1 : wr.cell? ⟨g, k, none⟩ = some (sv x) := by rw [hxe]; exact (HL.out.cell (p := ⟨g, k, none⟩) hg).trans (hc k hlt)
        have c2 : wr.cell? ⟨g2, k, none⟩ = some (sv y) := by rw [hye]; exact (HL.out.cell (p := ⟨g2, k, none⟩) hg2).trans (hc2 k hlt2)
        have HXE := Lib.hid hxe
        have HYE := Lib.hid hye
        clear hxe hye hc hc2
        by_cases hxy : x = y
        · have HN := Lib.hid (rows_next HA.out (by rw [← HXE.out, ← HYE.out, hxy]))
          subst hxy
          go_wp2_with fail
          go_quiet (fail)
          go_wp2_with fail
          go_roundw
          case rel => exact ⟨k + 1, by omega, by go_num, HN.out, below_drewN HL.out _⟩
          case measure => simp [intOf]; omega
        · have HF := Lib.hid (show (xs == ys) = false by
            rw [beq_eq_false_iff_ne]; intro e; exact hxy (by rw [HXE.out, HYE.out, e]))
          have e1 : (x == y) = false := by simpa using hxy
          have e2 : (x != y) = true := by simpa using hxy
          have HXY := Lib.hid hxy
          clear hxy
          go_wp2_with fail
          go_quiet (fail)
          go_wp2_with fail
          go_ret
          rw [HF.out]
          exact ⟨rfl, below_drewN HL.out _⟩
      · obtain rfl : k = xs.length := by omega
        have HE := Lib.hid (show (xs == ys) = true by rw [beq_iff_eq]; exact rows_eq HLL.out HA.out)
        go_wp2_with fail
        go_ret
        rw [HE.out]
        exact ⟨rfl, HL.out⟩
  · have hne : ((xs.length : Int) != (ys.length : Int)) = true := by rw [bne_iff_ne]; omega
    have HF := Lib.hid (show (xs == ys) = false by rw [beq_eq_false_iff_ne]; intro e; exact hl (by rw [e]))
    clear hx hy hl
    go_enter Tryz.func11, Tryz.ntmps11
    go_wp2_with fail
    go_ret
    rw [HF.out]
    exact ⟨rfl, Below.refl _ _⟩

/-- A row of texts lies there still. -/
def RB (w : World) (g : Nat) (L : List (List UInt8)) (W : World) : Prop := BL w W ∧ W.heap[g]? = some (.cells (L.map sv).toArray 9 (0, 0))
theorem RB.drew {w W : World} {g : Nat} {L : List (List UInt8)} (h : RB w g L W) : RB w g L W.drew := ⟨h.1.drew, h.2⟩
theorem rb {w W : World} {g : Nat} {L : List (List UInt8)} {f : Nat} {args : Array Value} {v : Value} (h : Calls Tryz.prog f args W fun e w' => e = .returned v ∧ Below W.heap.size W w') (hb : RB w g L W) :
    Calls Tryz.prog f args W fun e w' => e = .returned v ∧ RB w g L w' := h.mono fun _ _ ⟨he, h⟩ => ⟨he, hb.1.step h, (h.block g (lt_of_blk hb.2)).trans hb.2⟩
theorem RB.cell {w W : World} {g : Nat} {L : List (List UInt8)} (h : RB w g L W) {k : Nat} {x : List UInt8} (hk : k < L.length) (hx : L.getD k [] = x) : W.cell? ⟨g, k, none⟩ = some (.string (str x)) := by rw [← hx]; exact lit_cell h.2 hk

/-! ### copies -/
def copiesL (s : List UInt8) : Nat → List UInt8
  | 0 => []
  | n + 1 => copiesL s n ++ s
theorem copiesL_len (s : List UInt8) : ∀ n, (copiesL s n).length = n * s.length
  | 0 => by simp [copiesL]
  | n + 1 => by rw [copiesL, List.length_append, copiesL_len s n, Nat.succ_mul]

def frL : List UInt8 := [102, 64, 97, 46, 101, 120, 97, 109, 112, 108, 101]
def toL : List UInt8 := [116, 64, 98, 46, 101, 120, 97, 109, 112, 108, 101]
/-- A block of recipients is a row of them. -/
def rcCells : List RC → List Value
  | [] => []
  | r :: t => sv r.1 :: .bool r.2 :: rcCells t
theorem rcCells_at : ∀ (rs : List RC) (j : Nat), j < rs.length → (rcCells rs)[j * 2]? = some (sv (rs.getD j rc0).1) ∧ (rcCells rs)[j * 2 + 1]? = some (.bool (rs.getD j rc0).2)
  | [], j, h => absurd h (by simp)
  | r :: t, 0, _ => ⟨rfl, rfl⟩
  | r :: t, j + 1, h => by
    have := rcCells_at t j (by simpa using h)
    have e1 : (j + 1) * 2 = j * 2 + 2 := by omega
    rw [e1]
    simpa [rcCells] using this
theorem rc_row {w : World} {g c : Nat} {rs : List RC} (h : w.heap[g]? = some (.cells (rcCells rs).toArray 31 (0, 0))) : RcIs w (.slice (some ⟨g, 0, none⟩) rs.length c) rs := by
  refine ⟨_, c, rfl, fun _ => ⟨g, 0, rfl, lt_of_blk h, fun j hj => ?_⟩⟩
  obtain ⟨h1, h2⟩ := rcCells_at rs j hj
  rw [Nat.zero_add, cellAt h, cellAt h]
  exact ⟨by simpa using h1, by simpa using h2⟩

/-- A mail that 'mail' makes. -/
def MailPost (w : World) (s : List UInt8) (e : Ending) (w' : World) : Prop := ∃ A c, e = .returned (mailV frL (.slice A 1 c) false [] s) ∧ RcIs w' (.slice A 1 c) [(toL, false)] ∧ Below w.heap.size w w'
end Go.Proofs.YtbmjmiioobgbfaaGreatDoor
