/-
  The laws' helper other: the same letters, but for great and small ones before a place.
-/
import Derived.Test.YtbmjmiioobgbfaaGreatDoorKLaw1
namespace Go.Proofs.YtbmjmiioobgbfaaGreatDoor
open Go Go.RowKit Go.Shelf
set_option maxRecDepth 100000
set_option linter.unusedSimpArgs false
set_option linter.unusedVariables false

/-- The same letters; the same text from place n on. -/
def Sim (s : List UInt8) (n : Nat) (t : List UInt8) : Prop := t.length = s.length ∧ gr t = gr s ∧ t.drop n = s.drop n
theorem Sim.set {s t : List UInt8} {n k : Nat} {x : UInt8} (h : Sim s n t) (hk : k < s.length) (hn : k < n) (hx : greatC x = greatC (t.getD k 0)) : Sim s n (t.set k x) := by
  obtain ⟨h1, h2, h3⟩ := h
  refine ⟨by rw [List.length_set]; exact h1, ?_, by rw [List.drop_set_of_lt hn]; exact h3⟩
  rw [← h2]
  unfold gr
  apply List.ext_getElem (by simp)
  intro i a1 a2
  rw [List.getElem_map, List.getElem_map, List.getElem_set]
  split
  · rename_i hi
    subst hi
    rw [hx, List.getD_eq_getElem?_getD, List.getElem?_eq_getElem (by rw [h1]; exact hk)]
    rfl
  · rfl
theorem great_flip {b x : UInt8} {c d : Nat} (hb : b.toNat = c) (hx : x.toNat = d) (h : (97 ≤ c ∧ c ≤ 122 ∧ d + 32 = c) ∨ (65 ≤ c ∧ c ≤ 90 ∧ d = c + 32)) : greatC x = greatC b := by
  rcases h with ⟨h1, h2, h3⟩ | ⟨h1, h2, h3⟩
  · obtain ⟨e1, e2⟩ := greatC_small hb h1 h2
    rw [e1, greatC_other hx (by omega)]
    apply UInt8.toNat_inj.1
    rw [e2]; omega
  · obtain ⟨e1, e2⟩ := greatC_small hx (by omega) (by omega)
    rw [e1, greatC_other hb (by omega)]
    apply UInt8.toNat_inj.1
    rw [e2]; omega
theorem flip_all : ∀ x : _root_.Fin 256, (97 ≤ x.1 → x.1 ≤ 122 → bits BinOp.xor .u8 (x.1 : Int) 32 = ((x.1 - 32 : Nat) : Int)) ∧ (65 ≤ x.1 → x.1 ≤ 90 → bits BinOp.xor .u8 (x.1 : Int) 32 = ((x.1 + 32 : Nat) : Int)) := by decide +kernel
def OtPost (w : World) (s : List UInt8) (n : Nat) (e : Ending) (w' : World) : Prop := ∃ t, e = .returned (sv t) ∧ Sim s n t ∧ Below w.heap.size w w'

end Go.Proofs.YtbmjmiioobgbfaaGreatDoor
