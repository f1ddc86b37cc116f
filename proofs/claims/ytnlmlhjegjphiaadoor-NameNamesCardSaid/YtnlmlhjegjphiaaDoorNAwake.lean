/-
  The contract of the laws' own function 'awake': the chapter's examples: it returns true.
-/
import Derived.Test.YtnlmlhjegjphiaaDoorNCarry
namespace Go.Proofs.YtnlmlhjegjphiaaDoor
open Go Go.RowKit
set_option maxRecDepth 100000

def badL : List (List UInt8) := [[97, 46, 46, 98], [45, 97, 46, 98], [97, 46, 98, 45], [], [97, 46, 49], [49, 46, 50, 46, 51, 46, 52]]
theorem bad_all : ∀ x ∈ badL, mayL x = false ∧ x.length ≤ 1000000 := by decide +kernel
theorem aw1 : foldL [77, 120, 49, 46, 69, 120, 97, 109, 112, 108, 101, 46, 67, 79, 77, 46] = some [109, 120, 49, 46, 101, 120, 97, 109, 112, 108, 101, 46, 99, 111, 109] := by decide +kernel
theorem aw2 : underL [95, 109, 116, 97, 45, 115, 116, 115, 46] [101, 120, 97, 109, 112, 108, 101, 46, 99, 111, 109] = some [95, 109, 116, 97, 45, 115, 116, 115, 46, 101, 120, 97, 109, 112, 108, 101, 46, 99, 111, 109] := by decide +kernel
theorem aw3 : mayL [109, 120, 49, 46, 101, 120, 97, 109, 112, 108, 101, 46, 99, 111, 109] = true := by decide +kernel
theorem aw4 : mayL [120, 110, 45, 45, 98, 99, 104, 101, 114, 45, 107, 118, 97, 46, 101, 120, 97, 109, 112, 108, 101] = true := by decide +kernel
theorem aw5 : mayL [108, 111, 99, 97, 108, 104, 111, 115, 116] = true := by decide +kernel
theorem aw6 : matchL [42, 46, 101, 120, 97, 109, 112, 108, 101, 46, 99, 111, 109] [97, 46, 101, 120, 97, 109, 112, 108, 101, 46, 99, 111, 109] = true := by decide +kernel
theorem aw7 : matchL [42, 46, 101, 120, 97, 109, 112, 108, 101, 46, 99, 111, 109] [101, 120, 97, 109, 112, 108, 101, 46, 99, 111, 109] = false := by decide +kernel
theorem aw8 : matchL [42, 46, 101, 120, 97, 109, 112, 108, 101, 46, 99, 111, 109] [97, 46, 98, 46, 101, 120, 97, 109, 112, 108, 101, 46, 99, 111, 109] = false := by decide +kernel

set_option maxHeartbeats 4000000 in
theorem awake_bl {w0 : World} (w : World) (B0 : BL w0 w) : Calls Tryd.prog 11 #[] w fun e w' => e = .returned (.bool true) ∧ BL w0 w' := by
  go_enter Tryd.func11, Tryd.ntmps11
  go_wp2_with fail
  refine (bl_fold aw1 (by decide) B0).mono ?_
  rintro e w1 ⟨rfl, B1⟩
  unfold foldV
  go_wp2_with fail
  refine (bl_under aw2 (by decide) (by decide) B1).mono ?_
  rintro e w2 ⟨rfl, B2⟩
  unfold optV
  go_wp2_with fail
  have hw' : w2.alloc (.cells #[.string { data := #[97, 46, 46, 98] }, .string { data := #[45, 97, 46, 98] }, .string { data := #[97, 46, 98, 45] }, .string { data := #[] }, .string { data := #[97, 46, 49] }, .string { data := #[49, 46, 50, 46, 51, 46, 52] }] 9) = w2.alloc (.cells (badL.map sv).toArray 9) := rfl
  rw [hw']
  obtain ⟨wa, hwa⟩ : ∃ wa, wa = w2.alloc (.cells (badL.map sv).toArray 9) := ⟨_, rfl⟩
  rw [← hwa]
  obtain ⟨g, hg⟩ : ∃ g, g = w2.heap.size := ⟨_, rfl⟩
  rw [← hg]
  have BA : BL w0 wa := by rw [hwa]; exact B2.alloc _
  have HG := Lib.hid (show wa.heap[g]? = some (.cells (badL.map sv).toArray 9 (0, 0)) by rw [hwa, hg]; exact heap_alloc_new _ _)
  clear hw' hwa hg
  go_loopw [17] (fun i wr => ∃ k : Nat, k ≤ 6 ∧ i = .int .i64 k ∧ wr.heap[g]? = some (.cells (badL.map sv).toArray 9 (0, 0)) ∧ BL w0 wr) (fun i _ => 6 - (intOf i).toNat)
  case atStart => exact ⟨0, by omega, rfl, HG.out, BA⟩
  case round =>
    obtain ⟨k, hk, rfl, hr, hb⟩ := hrel
    have HR := Lib.hid hr
    clear hr
    by_cases hlt : k < 6
    · have hc := lit_cell HR.out (k := k) (by exact hlt)
      have hx := bad_all _ (getD_mem (xs := badL) (k := k) (by exact hlt))
      obtain ⟨x, hxx⟩ : ∃ x, x = badL.getD k [] := ⟨_, rfl⟩
      rw [← hxx] at hc hx
      have HX := Lib.hid hx
      clear hx hxx
      go_wp2_with fail
      refine (blk (may_any x _ HX.out.2 hb.ml) hb).mono ?_
      rintro e w3 ⟨rfl, hbb, hkk⟩
      rw [HX.out.1]
      have HR2 := Lib.hid (show w3.heap[g]? = some (.cells (badL.map sv).toArray 9 (0, 0)) from (hkk _ (lt_of_blk HR.out)).trans HR.out)
      clear hkk hc
      go_wp2
      go_roundw
      case rel => exact ⟨k + 1, by omega, by go_num, HR2.out, hbb⟩
      case measure => simp [intOf]; omega
    · obtain rfl : k = 6 := by omega
      go_wp2_with fail
      refine (bl_may aw3 (by decide) hb).mono ?_
      rintro e v0 ⟨rfl, C0⟩
      go_wp2_with fail
      refine (bl_may aw4 (by decide) C0).mono ?_
      rintro e v1 ⟨rfl, C1⟩
      go_wp2_with fail
      refine (bl_may aw5 (by decide) C1).mono ?_
      rintro e v2 ⟨rfl, C2⟩
      go_wp2_with fail
      refine (bl_match aw6 (by decide) (by decide) C2).mono ?_
      rintro e v3 ⟨rfl, C3⟩
      go_wp2_with fail
      refine (bl_match aw7 (by decide) (by decide) C3).mono ?_
      rintro e v4 ⟨rfl, C4⟩
      go_wp2_with fail
      refine (bl_match aw8 (by decide) (by decide) C4).mono ?_
      rintro e v5 ⟨rfl, C5⟩
      have HF := Lib.hid C5
      go_wp2
      go_ret
      exact ⟨rfl, HF.out⟩
end Go.Proofs.YtnlmlhjegjphiaaDoor
