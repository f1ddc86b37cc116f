/-
  The laws' two and works.
  The laws' works.
-/
import Derived.Test.YthfnncahmccgkaaGreatDoorDObs
namespace Go.Proofs.YthfnncahmccgkaaGreatDoor
open Go Go.RowKit Go.Maps
set_option maxRecDepth 100000
set_option linter.unusedSimpArgs false
set_option linter.unusedVariables false

section
variable {w0 w : World} {os : List Ob} (h : Obs w0 w os)
include h
theorem new_o {n : Nat} (h1 : 1 ≤ n) (h2 : n ≤ 1024) : Calls Tryz.prog 14 #[.int .i64 (n : Int)] w fun e w' => ∃ p bl bd, e = .returned (.tuple #[dp p, .int .i64 0]) ∧ Obs w0 w' (os ++ [pdOb p bl bd (DS.new n)]) :=
  (new_any h1 h2).mono fun e w' ⟨p, bl, bd, he, hP, hb, h1, h2, h3⟩ => ⟨p, bl, bd, he, h.addD hP hb ⟨h1, h2, h3⟩⟩
theorem copy_o {p bl bd : Nat} {S : DS} (i : Nat) (hi : os[i]? = some (pdOb p bl bd S)) : Calls Tryz.prog 21 #[dp p] w fun e w' => ∃ q cl cd, e = .returned (dp q) ∧ Obs w0 w' (os ++ [pdOb q cl cd S]) :=
  (copy_any (h.get hi)).mono fun e w' ⟨p, bl, bd, he, hP, hb, h1, h2, h3⟩ => ⟨p, bl, bd, he, h.addD hP hb ⟨h1, h2, h3⟩⟩
end

/-- The disk of the examples. -/
def tw1 : DS := (DS.new 2).wr 0 (fullL 97)
def tw2 : DS := tw1.sync
def tw3 : DS := tw2.wr 0 (fullL 98)
def twoS : DS := tw3.wr 1 (fullL 98)
theorem tw_ops : (DS.new 2).ops < 4611686018427387904 ∧ tw1.ops < 4611686018427387904 ∧ tw2.ops < 4611686018427387904 ∧ tw3.ops < 4611686018427387904 := by decide +kernel

end Go.Proofs.YthfnncahmccgkaaGreatDoor

namespace Go.Proofs.YthfnncahmccgkaaGreatDoor
open Go Go.RowKit Go.Maps
set_option maxRecDepth 100000
set_option linter.unusedSimpArgs false
set_option linter.unusedVariables false

theorem dirty_o {w0 w : World} {os : List Ob} (h : Obs w0 w os) {p bl bd : Nat} {S : DS} (i : Nat) (hi : os[i]? = some (pdOb p bl bd S)) :
    Calls Tryz.prog 44 #[dp p] w fun e w' => ∃ A c, e = .returned (.slice A (dL S.wet).length c) ∧ IR w' A (dL S.wet) ∧ (∀ a, A = some a → w.heap.size ≤ a.block) ∧ Below w.heap.size w w' :=
  (dirty_any (h.get hi)).mono fun e w' ⟨v, he, hr, hb⟩ => by
    obtain ⟨A, c, rfl, hI, hA⟩ := row_form hr
    exact ⟨A, c, he, hI, hA, hb⟩
theorem IR.lit (w : World) (L : List Int) : IR (w.alloc (.cells (L.map encZ).toArray 3)) (some ⟨w.heap.size, 0, none⟩) L := fun j hj =>
  ⟨w.heap.size, 0, rfl, by simp, by rw [cellAt (heap_alloc_new w _)]; simp [List.getElem?_map, List.getD_eq_getElem?_getD, List.getElem?_eq_getElem hj]⟩

def wD1 : DS := twoS.fail 1
def wD2 : DS := wD1.sync
def wC2 : DS := wD1.wr 0 (fullL 99)
def wC3 : DS := wC2.sync
def wC4 : DS := wC3.boot [5]
def wD4 : DS := wD2.boot []
theorem works_facts : twoS.ops = 4 ∧ dL twoS.wet = [0, 1] ∧ wD1.offE = 0 ∧ wD2.off = true ∧ wD2.wrE 0 (fullL 99) = 42 ∧ wD1.wrE 0 (fullL 99) = 0 ∧ wC2.off = true ∧ wC2.offE = 42 ∧ wC3.bootE = 0 ∧
    isD wC4 0 ((fullL 99).take 5 ++ (fullL 97).drop 5) = true ∧ isD wC4 1 (fullL 0) = true ∧ wD2.bootE = 0 ∧ isD wD4 0 (fullL 98) = true ∧ isD wD4 1 (fullL 98) = true ∧ wD2.wr 0 (fullL 99) = wD2 := by
  refine ⟨by decide +kernel, by decide +kernel, by decide +kernel, by decide +kernel, by decide +kernel, by decide +kernel, by decide +kernel, by decide +kernel, by decide +kernel, by decide +kernel, by decide +kernel, by decide +kernel, by decide +kernel, by decide +kernel, ?_⟩
  unfold DS.wr
  rw [if_neg (by decide +kernel)]
theorem works_ops : wD1.ops < 4611686018427387904 ∧ wD2.ops < 4611686018427387904 ∧ wC2.ops < 4611686018427387904 := by decide +kernel

end Go.Proofs.YthfnncahmccgkaaGreatDoor

