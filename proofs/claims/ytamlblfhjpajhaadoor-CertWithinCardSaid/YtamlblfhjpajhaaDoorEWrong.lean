/-
  The contracts of Get, whole; of the laws' wrong.
-/
import Derived.Test.YtamlblfhjpajhaaDoorEGet
namespace Go.Proofs.YtamlblfhjpajhaaDoor
set_option linter.unusedSimpArgs false
set_option linter.unusedVariables false
open Go Go.RowKit
set_option maxRecDepth 100000

theorem get_any {w : World} (s : List UInt8) (hs : s.length ≤ 281474976710656) :
    Calls Tryd.prog 45 #[sv s] w fun e w' => e = .returned (cutV (cutP s)) ∧ Below w.heap.size w w' := by
  have hc := fun W => @cut_any W s (by omega)
  cases h : cutP s with
  | er x =>
    rw [h] at hc
    exact get_of (r := []) (t := 0) (v := []) (e := (x : Int)) (by simp) rfl hc
  | ok p =>
    obtain ⟨⟨t, v⟩, r⟩ := p
    rw [h] at hc
    have := cutP_len h
    exact get_of (r := r) (t := t) (v := v) (e := 0) (by omega) rfl hc
def wrongE (s : List UInt8) : Int := match cutP s with
  | .er e => (e : Int)
  | .ok _ => 0

end Go.Proofs.YtamlblfhjpajhaaDoor
