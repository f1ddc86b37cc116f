/-
  The contracts of Get, whole; of the laws' wrong.
-/
import Derived.Test.YtablllincjoabaaEGet
namespace Go.Proofs.Ytablllincjoabaa
set_option linter.unusedSimpArgs false
set_option linter.unusedVariables false
open Go Go.RowKit
set_option maxRecDepth 100000

theorem get_any {w : World} (s : List UInt8) (hs : s.length ≤ 281474976710656) :
    Calls Try.prog 12 #[sv s] w fun e w' => e = .returned (cutV (cutP s)) ∧ Below w.heap.size w w' := by
  have hc := fun W => @cut_any W s (by omega)
  cases h : cutP s with
  | er x =>
    rw [h] at hc
    exact get_of (r := []) (t := 0) (v := []) (e := (x : Int)) (by simp) rfl hc
  | ok p =>
    obtain ⟨⟨t, v⟩, r⟩ := p
    rw [h] at hc
    have := cutP_len h
    exact get_of (r := r) (t := t) (v := v) (e := 0) (by omega) rfl hc
def wrongE (s : List UInt8) : Int := match cutP s with
  | .er e => (e : Int)
  | .ok _ => 0

set_option maxHeartbeats 4000000 in
theorem wrong_any {w : World} (s : List UInt8) (hs : s.length ≤ 281474976710656) :
    Calls Try.prog 13 #[sv s] w fun e w' => e = .returned (.int .i64 (wrongE s)) ∧ Below w.heap.size w w' := by
  have hg := fun W => @get_any W s hs
  cases h : cutP s with
  | er x =>
    rw [h] at hg
    have HG := Lib.hid (fun W => show Calls Try.prog 12 #[sv s] W (fun e w' => e = .returned (.tuple #[.agg #[.int .u8 0, sv []], sv [], .int .i64 (x : Int)]) ∧ Below W.heap.size W w') from hg W)
    have HE := Lib.hid (show wrongE s = (x : Int) by unfold wrongE; rw [h])
    clear hg h hs
    go_enter Try.func13, Try.ntmps13
    go_wp2_with (go_at_call 12; refine (HG.out _).mono ?_; rintro e w1 ⟨rfl, hb1⟩)
    go_ret
    rw [HE.out]
    exact ⟨rfl, hb1.trans ((below_alloc _ _).mono hb1.size)⟩
  | ok p =>
    obtain ⟨⟨t, v⟩, r⟩ := p
    rw [h] at hg
    have HG := Lib.hid (fun W => show Calls Try.prog 12 #[sv s] W (fun e w' => e = .returned (.tuple #[.agg #[.int .u8 (t.toNat : Int), sv v], sv r, .int .i64 0]) ∧ Below W.heap.size W w') from hg W)
    have HE := Lib.hid (show wrongE s = 0 by unfold wrongE; rw [h])
    clear hg h hs
    go_enter Try.func13, Try.ntmps13
    go_wp2_with (go_at_call 12; refine (HG.out _).mono ?_; rintro e w1 ⟨rfl, hb1⟩)
    all_goals
      go_ret
      rw [HE.out]
      exact ⟨rfl, hb1.trans ((below_alloc _ _).mono hb1.size)⟩
end Go.Proofs.Ytablllincjoabaa
