/-
  The reference's disk: as it lies; did, Fail, Read.
-/
import Derived.Test.YtechpecnanodfaaDKept1
namespace Go.Proofs.Ytechpecnanodfaa
open Go Go.RowKit Go.Maps
set_option maxRecDepth 100000
set_option linter.unusedSimpArgs false
set_option linter.unusedVariables false

def rCells (n g1 c1 g2 c2 g3 c3 N : Nat) (left : Int) (fails off : Bool) : Array Value := #[.slice (some ⟨g1, 0, none⟩) n c1, .slice (some ⟨g2, 0, none⟩) n c2, .slice (some ⟨g3, 0, none⟩) n c3, .int .i64 (N : Int), .int .i64 left, .bool fails, .bool off]
/-- What is left, and whether it is counted. -/
structure RL (S : DS) (left : Int) (fails : Bool) : Prop where
  b : (-9223372036854775808 : Int) ≤ left ∧ left ≤ 9223372036854775807
  on : S.off = false → fails = decide (0 < S.left) ∧ (0 < S.left → left = S.left)
/-- The reference's disk lies at block q, its rows at g1, g2, g3. -/
structure RD (w : World) (q g1 g2 g3 : Nat) (S : DS) : Prop where
  ok : S.Ok
  box : ∃ c1 c2 c3 left fails, w.heap[q]? = some (.cells (rCells S.was.length g1 c1 g2 c2 g3 c3 S.ops left fails S.off) 78 (0, 0)) ∧ XR w 9 g1 c1 (txs S.was) ∧ XR w 9 g2 c2 (txs S.now) ∧ XR w 4 g3 c3 (bls S.wet) ∧ RL S left fails
  ne : q ≠ g1 ∧ q ≠ g2 ∧ q ≠ g3 ∧ g1 ≠ g2 ∧ g1 ≠ g3 ∧ g2 ≠ g3
theorem RD.lts {w : World} {q g1 g2 g3 : Nat} {S : DS} (h : RD w q g1 g2 g3 S) : ∀ b ∈ [q, g1, g2, g3], b < w.heap.size := fun b hb => by
  obtain ⟨c1, c2, c3, left, fails, hq, h1, h2, h3, _⟩ := h.box
  simp at hb
  rcases hb with rfl | rfl | rfl | rfl
  · exact lt_of_blk hq
  · exact h1.lt
  · exact h2.lt
  · exact h3.lt
theorem RD.of_blocks {w w' : World} {q g1 g2 g3 : Nat} {S : DS} (h : RD w q g1 g2 g3 S) (hb : ∀ b ∈ [q, g1, g2, g3], w'.heap[b]? = w.heap[b]?) : RD w' q g1 g2 g3 S := by
  obtain ⟨c1, c2, c3, left, fails, hq, h1, h2, h3, hr⟩ := h.box
  exact ⟨h.ok, ⟨c1, c2, c3, left, fails, (hb q (by simp)).trans hq, h1.of_block (hb g1 (by simp)), h2.of_block (hb g2 (by simp)), h3.of_block (hb g3 (by simp)), hr⟩, h.ne⟩
/-- .. as a thing. -/
def rdOb (q g1 g2 g3 : Nat) (S : DS) : Ob := ⟨[q, g1, g2, g3], fun w => RD w q g1 g2 g3 S⟩
theorem rdOb_stays (q g1 g2 g3 : Nat) (S : DS) : (rdOb q g1 g2 g3 S).Stays := fun W W' h hP => RD.of_blocks (w := W) hP (fun b hb => (h b hb).2)
theorem RL.did {S T : DS} {left : Int} {fails : Bool} (h : RL S left fails) (ho : S.off = false) (h2 : T.left = if 0 < S.left then S.left - 1 else S.left) (h3 : T.off = if 0 < S.left then decide (S.left = 1) else S.off) :
    RL T (if fails then left - 1 else left) fails ∧ (if fails then left - 1 == 0 else false) = T.off := by
  obtain ⟨e1, e2⟩ := h.on ho
  have hb := h.b
  by_cases hl : 0 < S.left
  · have e3 := e2 hl
    rw [if_pos hl] at h2 h3
    have hf : fails = true := by rw [e1]; simpa using hl
    subst hf
    simp only [if_true]
    refine ⟨⟨by omega, fun hT => ⟨?_, fun _ => by omega⟩⟩, ?_⟩
    · rw [h3] at hT
      have : S.left ≠ 1 := by simpa using hT
      symm; simp; omega
    · rw [h3, e3]
      by_cases e : S.left = 1
      · rw [e]; rfl
      · rw [decide_eq_false e, beq_eq_false_iff_ne]; omega
  · rw [if_neg hl] at h2 h3
    have hf : fails = false := by rw [e1]; simpa using hl
    subst hf
    simp only [Bool.false_eq_true, if_false]
    exact ⟨⟨hb, fun _ => ⟨by rw [h2]; simpa using (by omega : S.left ≤ 0), fun h => by omega⟩⟩, by rw [h3, ho]⟩

section
variable {w : World} {q n g1 c1 g2 c2 g3 c3 N : Nat} {left : Int} {fails off : Bool} (hg : w.heap[q]? = some (.cells (rCells n g1 c1 g2 c2 g3 c3 N left fails off) 78 (0, 0)))
include hg
set_option maxHeartbeats 1000000 in
theorem did_r (hN : N < 4611686018427387904) (hl : fails = true → 0 < left ∧ left ≤ 9223372036854775807) :
    Calls Try.prog 49 #[dp q] w fun e w' => e = .returned (.tuple #[]) ∧ w'.heap[q]? = some (.cells (rCells n g1 c1 g2 c2 g3 c3 (N + 1) (if fails then left - 1 else left) fails (if fails then left - 1 == 0 else off)) 78 (0, 0)) ∧ Kp [q] w w' := by
  have k3 : w.cell? ⟨q, 3, none⟩ = some (.int .i64 (N : Int)) := cellAt hg 3
  have k4 : w.cell? ⟨q, 4, none⟩ = some (.int .i64 left) := cellAt hg 4
  have k5 : w.cell? ⟨q, 5, none⟩ = some (.bool fails) := cellAt hg 5
  have k6 : w.cell? ⟨q, 6, none⟩ = some (.bool off) := cellAt hg 6
  have f3 := freeAt hg 3
  have f4 := freeAt hg 4
  have f6 := freeAt hg 6
  have hw : IntKind.i64.wrap ((N : Int) + 1) = (N : Int) + 1 := IntWalk.i64_in _ (by omega)
  have HG := Lib.hid hg
  clear hg
  go_enter Try.func49, Try.ntmps49
  cases fails with
  | false =>
    clear hl
    go_wp2_with fail
    go_end0
    exact ⟨rfl, by rw [blk_set HG.out]; simp [rCells], (Kp.refl _ _).setCell (by simp) _⟩
  | true =>
    have hl' := hl rfl
    have hw2 : IntKind.i64.wrap (left - 1) = left - 1 := IntWalk.i64_in _ (by omega)
    clear hl hl'
    go_wp2_with fail
    go_end0
    exact ⟨rfl, by rw [blk_set (blk_set (blk_set HG.out 3 _) 4 _) 6 _]; simp [rCells], (((Kp.refl _ _).setCell (by simp) _).setCell (by simp) _).setCell (by simp) _⟩
set_option maxHeartbeats 1000000 in
theorem fail_r {a : Int} :
    Calls Try.prog 41 #[dp q, .int .i64 a] w fun e w' => e = .returned (.tuple #[]) ∧ w'.heap[q]? = some (.cells (rCells n g1 c1 g2 c2 g3 c3 N a (decide (0 < a)) off) 78 (0, 0)) ∧ Kp [q] w w' := by
  have k4 : w.cell? ⟨q, 4, none⟩ = some (.int .i64 left) := cellAt hg 4
  have k5 : w.cell? ⟨q, 5, none⟩ = some (.bool fails) := cellAt hg 5
  have f4 := freeAt hg 4
  have f5 := freeAt hg 5
  have HG := Lib.hid hg
  clear hg
  go_enter Try.func41, Try.ntmps41
  go_wp2_with fail
  go_end0
  exact ⟨rfl, by rw [blk_set (blk_set HG.out 5 _) 4 _]; simp [rCells], ((Kp.refl _ _).setCell (by simp) _).setCell (by simp) _⟩
end
end Go.Proofs.Ytechpecnanodfaa
