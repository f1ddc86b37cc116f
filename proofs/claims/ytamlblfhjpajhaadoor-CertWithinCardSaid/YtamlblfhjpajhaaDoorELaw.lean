/-
  What the laws' walks share: contracts in worlds behind the first one.
-/
import Derived.Test.YtamlblfhjpajhaaDoorEAwake
namespace Go.Proofs.YtamlblfhjpajhaaDoor
set_option linter.unusedSimpArgs false
set_option linter.unusedVariables false
open Go Go.RowKit
set_option maxRecDepth 100000

/-- W lies behind w. -/
abbrev Bh (w W : World) : Prop := Below w.heap.size w W
theorem Bh.step {w W W' : World} (h : Bh w W) (h2 : Below W.heap.size W W') : Bh w W' := h.trans (h2.mono h.size)
theorem putB_cases (t : UInt8) (v : List UInt8) : (putE t v = 0 ∧ putL t v = putT t v ∧ tagB t = true ∧ v.length ≤ 65535) ∨ (putE t v ≠ 0 ∧ putL t v = []) := by
  cases ht : tagB t with
  | false =>
    right
    have : putE t v = 4 := by unfold putE; rw [if_pos ht]
    exact ⟨by omega, by unfold putL; rw [if_neg (by omega)]⟩
  | true =>
    by_cases hl : 65535 < v.length
    · right
      have : putE t v = 40 := by unfold putE; rw [if_neg (by rw [ht]; simp), if_pos hl]
      exact ⟨by omega, by unfold putL; rw [if_neg (by omega)]⟩
    · left
      obtain ⟨h1, h2⟩ := putE_ok (t := t) (v := v) ht (by omega)
      exact ⟨h1, h2, rfl, by omega⟩
theorem putT_ne (t : UInt8) (v : List UInt8) : 2 ≤ (putT t v).length := by
  have h1 := putT_length t v
  have h2 := lenL_length v.length
  omega
theorem putL_le (t : UInt8) (v : List UInt8) : (putL t v).length ≤ v.length + 4 := by
  rcases putB_cases t v with ⟨_, h, _⟩ | ⟨_, h⟩
  · rw [h, putT_length]; have := lenL_length v.length; omega
  · rw [h]; simp
end Go.Proofs.YtamlblfhjpajhaaDoor
