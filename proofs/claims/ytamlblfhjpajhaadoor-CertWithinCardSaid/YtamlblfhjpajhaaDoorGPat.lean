/-
  The contract of package name's Pattern.
-/
import Derived.Test.YtamlblfhjpajhaaDoorNMay
namespace Go.Proofs.YtamlblfhjpajhaaDoor
set_option linter.unusedSimpArgs false
set_option linter.unusedVariables false
open Go Go.RowKit Go.Shelf
set_option maxRecDepth 100000

theorem pattern_any (s : List UInt8) (w : World) (hs : s.length ≤ 1000000) (hM : ML w) : Calls Tryd.prog 28 #[.string (str s)] w fun e w' => e = .returned (.bool (patL s)) ∧ Below w.heap.size w w' := by
  have HM := Lib.hid hM
  clear hM
  obtain ⟨b, hb⟩ : ∃ b, b = bareL s := ⟨_, rfl⟩
  have hbl : b.length ≤ 1000000 := by
    rw [hb]; unfold bareL
    split
    · rw [List.length_drop]; omega
    · exact hs
  have hc := Tryd.strings_TrimPrefix (str s) { data := #[42, 46] } w
  have e1 : (str s).data.toList = s := by simp
  have e2 : (⟨#[42, 46]⟩ : ByteArray).data.toList = [42, 46] := rfl
  rw [e1, e2, show Lib.trimPrefix s [42, 46] = b by rw [hb]; rfl] at hc
  have HC := Lib.hid hc
  have HB := Lib.hid (show patL s = mayL b by unfold patL; rw [← hb])
  clear hc hb e1 e2
  go_enter Tryd.func28, Tryd.ntmps28
  go_wp2_with fail
  refine HC.out.mono ?_
  rintro e w1 ⟨rfl, rfl⟩
  go_wp2_with fail
  refine (may_any b _ hbl HM.out).mono ?_
  rintro e w2 ⟨rfl, hb2⟩
  have HB2 := Lib.hid hb2
  clear hb2
  go_wp2_with fail
  go_ret
  rw [HB.out]
  exact ⟨rfl, HB2.out⟩
end Go.Proofs.YtamlblfhjpajhaaDoor
