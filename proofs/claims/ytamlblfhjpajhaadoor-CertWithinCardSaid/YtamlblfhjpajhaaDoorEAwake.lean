/-
  The laws' own awake: the examples.
-/
import Derived.Test.YtamlblfhjpajhaaDoorEWrong
namespace Go.Proofs.YtamlblfhjpajhaaDoor
set_option linter.unusedSimpArgs false
set_option linter.unusedVariables false
open Go Go.RowKit
set_option maxRecDepth 100000

theorem putE_ok {t : UInt8} {v : List UInt8} (ht : tagB t = true) (hv : v.length ≤ 65535) : putE t v = 0 ∧ putL t v = putT t v := by
  have : putE t v = 0 := by unfold putE; rw [if_neg (by rw [ht]; simp), if_neg (by omega)]
  exact ⟨this, by unfold putL; rw [if_pos this]⟩
end Go.Proofs.YtamlblfhjpajhaaDoor
