/-
  What CmdNames names: its rows, and what of them is so.
-/
import Derived.Test.YtbmjmiioobgbfaaGreatDoorKPure4
import Derived.Test.YtbmjmiioobgbfaaGreatDoorKMany
namespace Go.Proofs.YtbmjmiioobgbfaaGreatDoor
open Go Go.RowKit Go.Shelf
set_option maxRecDepth 100000
set_option linter.unusedSimpArgs false
set_option linter.unusedVariables false

abbrev RowN := List UInt8 × Cm
def nmRows : List RowN := [
  ([69, 72, 76, 79, 32, 97], ⟨1, [97], []⟩),
  ([115, 84, 97, 82, 116, 84, 76, 83], ⟨2, [], []⟩),
  ([100, 97, 116, 97], ⟨5, [], []⟩),
  ([81, 117, 105, 116], ⟨6, [], []⟩),
  ([109, 97, 105, 108, 32, 102, 114, 111, 109, 58, 60, 62], ⟨3, [], []⟩),
  ([82, 67, 80, 84, 32, 84, 79, 58, 60, 65, 64, 66, 46, 99, 62], ⟨4, [65, 64, 66, 46, 99], []⟩),
  ([77, 65, 73, 76, 32, 70, 82, 79, 77, 58, 60, 34, 97, 62, 32, 98, 34, 64, 99, 62, 32, 115, 105, 122, 101, 61, 53, 32, 88], ⟨3, [34, 97, 62, 32, 98, 34, 64, 99], [([83, 73, 90, 69], [53]), ([88], [])]⟩),
  ([82, 67, 80, 84, 32, 84, 79, 58, 60, 34, 64, 62, 34, 64, 99, 62, 32, 97, 49, 61, 126, 33], ⟨4, [34, 64, 62, 34, 64, 99], [([65, 49], [126, 33])]⟩)]
def nmBad : List (List UInt8) := [
  [],
  [69, 72, 76, 79],
  [69, 72, 76, 79, 32],
  [69, 72, 76, 79, 32, 65],
  [69, 72, 76, 79, 32, 97, 32],
  [69, 72, 76, 79, 32, 32, 97],
  [72, 69, 76, 79, 32, 97],
  [83, 84, 65, 82, 84, 84, 76, 83, 32, 120],
  [32, 68, 65, 84, 65],
  [68, 65, 84, 65, 13],
  [81, 85, 73, 84, 88],
  [77, 65, 73, 76, 32, 70, 82, 79, 77, 58],
  [77, 65, 73, 76, 32, 70, 82, 79, 77, 58, 97, 64, 98],
  [77, 65, 73, 76, 32, 70, 82, 79, 77, 58, 60, 97, 64, 98],
  [77, 65, 73, 76, 32, 70, 82, 79, 77, 58, 60, 97, 62],
  [77, 65, 73, 76, 32, 32, 70, 82, 79, 77, 58, 60, 97, 64, 98, 62],
  [77, 65, 73, 76, 32, 70, 82, 79, 77, 58, 60, 97, 64, 98, 62, 88],
  [77, 65, 73, 76, 32, 70, 82, 79, 77, 58, 60, 97, 64, 98, 62, 32],
  [77, 65, 73, 76, 32, 70, 82, 79, 77, 58, 60, 97, 64, 98, 62, 32, 32, 88],
  [77, 65, 73, 76, 32, 70, 82, 79, 77, 58, 60, 97, 64, 98, 62, 32, 88, 32],
  [77, 65, 73, 76, 32, 70, 82, 79, 77, 58, 60, 97, 64, 98, 62, 32, 88, 61],
  [77, 65, 73, 76, 32, 70, 82, 79, 77, 58, 60, 97, 64, 98, 62, 32, 61, 88],
  [77, 65, 73, 76, 32, 70, 82, 79, 77, 58, 60, 97, 64, 98, 62, 32, 88, 61, 97, 61, 98],
  [77, 65, 73, 76, 32, 70, 82, 79, 77, 58, 60, 97, 64, 98, 62, 32, 49, 88],
  [77, 65, 73, 76, 32, 70, 82, 79, 77, 58, 60, 97, 64, 98, 62, 32, 88, 45, 89],
  [77, 65, 73, 76, 32, 70, 82, 79, 77, 58, 60, 97, 64, 98, 62, 32, 88, 61, 127],
  [77, 65, 73, 76, 32, 70, 82, 79, 77, 58, 60, 97, 64, 98, 62, 32, 88, 32, 120],
  [77, 65, 73, 76, 32, 70, 82, 79, 77, 58, 60, 97, 64, 98, 62, 32, 65, 32, 66, 32, 67, 32, 68, 32, 69, 32, 70, 32, 71, 32, 72, 32, 73],
  [82, 67, 80, 84, 32, 84, 79, 58, 60, 97, 64, 98, 62, 32] ++ List.replicate 33 65,
  [78, 79, 79, 80]]
def nmCms : List Cm := [
  ⟨0, [], []⟩,
  ⟨7, [], []⟩,
  ⟨1, [], []⟩,
  ⟨1, [97], [([88], [])]⟩,
  ⟨5, [97], []⟩,
  ⟨6, [], [([88], [])]⟩,
  ⟨4, [], []⟩,
  ⟨3, [97], []⟩,
  ⟨3, [], [([120], [])]⟩,
  ⟨3, [], [([], [])]⟩,
  ⟨3, [], [([88], []), ([88], [49])]⟩,
  ⟨3, [], [([88], [32])]⟩]
theorem nm_rows : nmRows.all (fun r => decide (parseK r.1 = (r.2, 0))) = true := by decide +kernel
theorem nm_bad : nmBad.all (fun s => decide ((parseK s).2 = 4)) = true := by decide +kernel
theorem nm_cms : nmCms.all (fun c => !mayK c) = true := by decide +kernel
theorem nm_ok1 : (parseK [77, 65, 73, 76, 32, 70, 82, 79, 77, 58, 60, 97, 64, 98, 62, 32, 65, 32, 66, 32, 67, 32, 68, 32, 69, 32, 70, 32, 71, 32, 72]).2 = 0 := by decide +kernel
theorem nm_ok2 : (parseK ([82, 67, 80, 84, 32, 84, 79, 58, 60, 97, 64, 98, 62, 32] ++ List.replicate 32 65)).2 = 0 := by decide +kernel
abbrev cmX (n : Nat) : Cm := ⟨3, [], [([88], List.replicate n 121)]⟩
theorem nm_long1 : showK (cmX 495) = (shownK (cmX 495), 0) ∧ (shownK (cmX 495)).length = 510 ∧ (parseK (shownK (cmX 495))).2 = 0 ∧ (parseK (shownK (cmX 495) ++ [121])).2 = 40 := by decide +kernel
theorem nm_long2 : showK (cmX 496) = ([], 40) := by decide +kernel
theorem nm_long3 : (parseK (List.replicate 511 120)).2 = 40 := by decide +kernel
theorem mail_neg (c : Cp) (f env : List UInt8) (req : Bool) : mailK c f (-1) req env = (cm0, 4) := by unfold mailK; rw [if_pos (by decide)]
theorem mail_env (c : Cp) (f env : List UInt8) (size : Int) (req : Bool) (h : envC env = false) : mailK c f size req env = (cm0, 4) := by
  unfold mailK
  split
  · rfl
  · rw [h]; rfl
theorem nm_env1 : envC [97, 32, 98] = false := by decide +kernel
theorem nm_env2 : envC (List.replicate 33 97) = false := by decide +kernel
theorem nm_mail4 : mailK cpAll [97] 0 false [] = (cm0, 4) := by
  have e : mailC cpAll [97] 0 false [] = ⟨3, [97], [(wSZ, [48])]⟩ := by unfold mailC mailPs; rw [itoa_0]; rfl
  unfold mailK
  rw [e, show mayK ⟨3, [97], [(wSZ, [48])]⟩ = false by decide +kernel]
  rfl
theorem nm_rcpt : rcptK cpAll [] false = (cm0, 4) := by decide +kernel
abbrev ps6 : List PM := [(wSZ, [48]), (wEN, List.replicate 32 97)]
theorem nm_mail6 : mailK cpAll [] 0 false (List.replicate 32 97) = (⟨3, [], ps6⟩, 0) := by
  have e : mailC cpAll [] 0 false (List.replicate 32 97) = ⟨3, [], ps6⟩ := by unfold mailC mailPs; rw [itoa_0]; rfl
  unfold mailK
  rw [e, show (envC (List.replicate 32 97) && mayK ⟨3, [], ps6⟩) = true by decide +kernel]
  rfl
theorem nm_get1 : getP ps6 wSZ = ([48], true) := by decide +kernel
theorem nm_get2 : getP ps6 wRT = ([], false) := by decide +kernel
theorem nm_get3 : getP ps6 [115, 105, 122, 101] = ([], false) := by decide +kernel
theorem sm_6 : SM ⟨3, [], ps6⟩ := ⟨by decide, by decide, by decide, by decide⟩
theorem sm_x1 : SM (cmX 495) := ⟨by decide, by decide, by decide, by simp [cmX]⟩
theorem sm_x2 : SM (cmX 496) := ⟨by decide, by decide, by decide, by simp [cmX]⟩
theorem sm_cms : ∀ c ∈ nmCms, SM c := by
  have h : nmCms.all (fun c => decide (c.verb < 256) && decide (c.arg.length ≤ 6000) && decide (c.ps.length ≤ 1200) && c.ps.all (fun p => decide (p.1.length ≤ 6000) && decide (p.2.length ≤ 6000))) = true := by decide +kernel
  intro c hc
  have := List.all_eq_true.1 h c hc
  simp only [Bool.and_eq_true, decide_eq_true_eq, List.all_eq_true] at this
  exact ⟨this.1.1.1, this.1.1.2, this.1.2, this.2⟩
theorem nm_rows_small : ∀ r ∈ nmRows, r.1.length ≤ 510 := by
  have h : nmRows.all (fun r => decide (r.1.length ≤ 510)) = true := by decide +kernel
  intro r hr
  simpa using List.all_eq_true.1 h r hr
end Go.Proofs.YtbmjmiioobgbfaaGreatDoor
