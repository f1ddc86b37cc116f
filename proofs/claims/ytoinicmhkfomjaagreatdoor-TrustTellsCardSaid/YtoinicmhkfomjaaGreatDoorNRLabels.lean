/-
  The contract of the reference's Labels.
-/
import Derived.Test.YtoinicmhkfomjaaGreatDoorNRCut
namespace Go.Proofs.YtoinicmhkfomjaaGreatDoor
set_option linter.unusedSimpArgs false
set_option linter.unusedVariables false
open Go Go.RowKit
set_option maxRecDepth 100000

theorem rlabels_any (s : List UInt8) (w : World) (hs : s.length ≤ 1000000) : Calls Tryz.prog 80 #[.string (str s)] w (RowPost w (labelsL s)) := by
  cases hm : mayL s with
  | false =>
    have HY := Lib.hid hm
    have HF := Lib.hid (show labelsL s = [] by unfold labelsL; rw [hm]; rfl)
    clear hm
    go_enter Tryz.func80, Tryz.ntmps80
    go_wp2_with fail
    refine (rmay_any s _ hs).mono ?_
    rintro e w2 ⟨rfl, hb⟩
    rw [HY.out]
    have HB := Lib.hid hb
    clear hb
    go_wp2_with fail
    go_ret
    rw [HF.out]
    exact ⟨_, rfl, (GT.nil w2).first HB.out⟩
  | true =>
    have HY := Lib.hid hm
    have HF := Lib.hid (show labelsL s = cutD s by unfold labelsL; rw [hm]; rfl)
    clear hm
    go_enter Tryz.func80, Tryz.ntmps80
    go_wp2_with fail
    refine (rmay_any s _ hs).mono ?_
    rintro e w2 ⟨rfl, hb⟩
    rw [HY.out]
    have HB := Lib.hid hb
    clear hb
    go_wp2_with fail
    refine (rcut_any s _ hs).mono ?_
    rintro e w3 ⟨v, rfl, hg⟩
    have HG := Lib.hid (hg.first HB.out)
    obtain ⟨A, cp, rfl⟩ := hg.form
    clear hg
    go_wp2_with fail
    go_ret
    rw [HF.out]
    exact ⟨_, rfl, HG.out⟩
end Go.Proofs.YtoinicmhkfomjaaGreatDoor
