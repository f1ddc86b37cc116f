/-
  The walk of AddrNames.
-/
import Derived.Test.YtpgnmdpoifbngaaDoorABackC
import Derived.Test.YtpgnmdpoifbngaaDoorAMails
namespace Go.Proofs.YtpgnmdpoifbngaaDoor
open Go Go.RowKit
set_option maxRecDepth 100000

def yesL : List (List UInt8) := [[33, 35, 36, 37, 38, 39, 42, 43, 45, 47, 61, 63, 94, 95, 123, 124, 125, 126, 96, 64, 98, 46, 101, 120, 97, 109, 112, 108, 101], [97, 46, 98, 46, 99, 64, 98], [34, 34, 64, 98, 46, 101, 120, 97, 109, 112, 108, 101], [34, 64, 34, 64, 98, 46, 101, 120, 97, 109, 112, 108, 101], [34, 92, 34, 92, 92, 34, 64, 98, 46, 101, 120, 97, 109, 112, 108, 101], copiesL [97] 64 ++ [64, 98, 46, 101, 120, 97, 109, 112, 108, 101], [65, 64, 66, 46, 69, 120, 97, 109, 112, 108, 101]]
def noL : List (List UInt8) := [[], [97], [97, 64, 98, 64, 99, 46, 101, 120, 97, 109, 112, 108, 101], [97, 46, 64, 98, 46, 101, 120, 97, 109, 112, 108, 101], [34, 97, 92, 34, 64, 98, 46, 101, 120, 97, 109, 112, 108, 101], [34, 97, 34, 98, 34, 64, 98, 46, 101, 120, 97, 109, 112, 108, 101], [34, 97, 127, 34, 64, 98, 46, 101, 120, 97, 109, 112, 108, 101], [34, 97, 9, 98, 34, 64, 98, 46, 101, 120, 97, 109, 112, 108, 101], [40, 97, 41, 64, 98, 46, 101, 120, 97, 109, 112, 108, 101], [97, 92, 98, 64, 98, 46, 101, 120, 97, 109, 112, 108, 101], copiesL [97] 65 ++ [64, 98, 46, 101, 120, 97, 109, 112, 108, 101], [97, 64, 45, 98, 46, 101, 120, 97, 109, 112, 108, 101], [97, 64, 98, 46, 46, 101, 120, 97, 109, 112, 108, 101], [97, 64, 91, 49, 46, 50, 46, 51, 46, 52, 93], [233, 64, 98, 46, 101, 120, 97, 109, 112, 108, 101], [97, 64, 98, 46, 101, 120, 97, 109, 112, 108, 101, 32]]
def unL : List (List UInt8) := [[], [60], [62], [97, 64, 98, 46, 101, 120, 97, 109, 112, 108, 101], [60, 97, 64, 98, 46, 101, 120, 97, 109, 112, 108, 101], [97, 64, 98, 46, 101, 120, 97, 109, 112, 108, 101, 62], [60, 60, 97, 64, 98, 46, 101, 120, 97, 109, 112, 108, 101, 62, 62], [60, 32, 62]]
theorem yes_all : ∀ x ∈ yesL, amayL x = true ∧ x.length ≤ 1000 := by decide +kernel
theorem no_all : ∀ x ∈ noL, parseL x = none ∧ x.length ≤ 1000 := by decide +kernel
theorem un_all : ∀ x ∈ unL, unpathL x = none ∧ x.length ≤ 1000 := by decide +kernel
theorem no_first : ∀ k, k < 16 → (noL.getD k []).isEmpty = decide (k = 0) := by decide +kernel

theorem nm1 : pathL [] = [60, 62] := by decide +kernel
theorem nm2 : showL [97] [98, 46, 101, 120, 97, 109, 112, 108, 101] = [97, 64, 98, 46, 101, 120, 97, 109, 112, 108, 101] := by decide +kernel
theorem nm3 : showL [97] [66, 46, 101, 120, 97, 109, 112, 108, 101] = [] := by decide +kernel
theorem nm4 : showL [97, 64, 98] [99, 46, 101, 120, 97, 109, 112, 108, 101] = [] := by decide +kernel
theorem nm5 : showL [] [99, 46, 101, 120, 97, 109, 112, 108, 101] = [] := by decide +kernel
theorem nm6 : sameL [97, 64, 66, 46, 101, 120, 97, 109, 112, 108, 101] [97, 64, 98, 46, 101, 120, 97, 109, 112, 108, 101] = true := by decide +kernel
theorem nm7 : sameL [65, 64, 98, 46, 101, 120, 97, 109, 112, 108, 101] [97, 64, 98, 46, 101, 120, 97, 109, 112, 108, 101] = false := by decide +kernel
theorem nm8 : sameL [] [] = false := by decide +kernel
theorem nm9 : sameL [97] [97] = false := by decide +kernel

/-- The text of so many letters a, and what stands behind. -/
theorem copies_text (n : Nat) : str (copiesL [97] n) ++ { data := #[64, 98, 46, 101, 120, 97, 109, 112, 108, 101] } = str (copiesL [97] n ++ [64, 98, 46, 101, 120, 97, 109, 112, 108, 101]) := by
  apply ByteArray.ext
  simp [str, ByteArray.data_append]

set_option maxHeartbeats 8000000 in
theorem addrNames_walk (w : World) (hM : ML w) : Calls Tryd.prog 3 #[] w fun e w' => e = .returned (.bool true) ∧ Below w.heap.size w w' := by
  have B0 := BL.start hM
  have HM0 := Lib.hid hM
  clear hM
  obtain ⟨z, hz⟩ : ∃ z, z = copiesL [97] 64 ++ [64, 98, 46, 101, 120, 97, 109, 112, 108, 101] := ⟨_, rfl⟩
  have x1 : str (copiesL [97] 64) ++ { data := #[64, 98, 46, 101, 120, 97, 109, 112, 108, 101] } = str z := by rw [hz]; exact copies_text 64
  have Y1 := Lib.hid (show ∀ x ∈ [[33, 35, 36, 37, 38, 39, 42, 43, 45, 47, 61, 63, 94, 95, 123, 124, 125, 126, 96, 64, 98, 46, 101, 120, 97, 109, 112, 108, 101], [97, 46, 98, 46, 99, 64, 98], [34, 34, 64, 98, 46, 101, 120, 97, 109, 112, 108, 101], [34, 64, 34, 64, 98, 46, 101, 120, 97, 109, 112, 108, 101], [34, 92, 34, 92, 92, 34, 64, 98, 46, 101, 120, 97, 109, 112, 108, 101], z, [65, 64, 66, 46, 69, 120, 97, 109, 112, 108, 101]], amayL x = true ∧ x.length ≤ 1000 by rw [hz]; exact yes_all)
  clear hz
  go_enter Tryd.func3, Tryd.ntmps3
  go_wp2_with fail
  refine (works_bl _ B0).mono ?_
  rintro e w1 ⟨rfl, B1⟩
  go_wp2_with fail
  refine (copies_any [97] 64 _ (by simp) (by omega)).mono ?_
  rintro e w2 ⟨rfl, rfl⟩
  go_wp2_with fail
  rw [show w1.alloc (.cells #[.string { data := #[33, 35, 36, 37, 38, 39, 42, 43, 45, 47, 61, 63, 94, 95, 123, 124, 125, 126, 96, 64, 98, 46, 101, 120, 97, 109, 112, 108, 101] }, .string { data := #[97, 46, 98, 46, 99, 64, 98] }, .string { data := #[34, 34, 64, 98, 46, 101, 120, 97, 109, 112, 108, 101] }, .string { data := #[34, 64, 34, 64, 98, 46, 101, 120, 97, 109, 112, 108, 101] }, .string { data := #[34, 92, 34, 92, 92, 34, 64, 98, 46, 101, 120, 97, 109, 112, 108, 101] }, .string (str z), .string { data := #[65, 64, 66, 46, 69, 120, 97, 109, 112, 108, 101] }] 9) = w1.alloc (.cells ([[33, 35, 36, 37, 38, 39, 42, 43, 45, 47, 61, 63, 94, 95, 123, 124, 125, 126, 96, 64, 98, 46, 101, 120, 97, 109, 112, 108, 101], [97, 46, 98, 46, 99, 64, 98], [34, 34, 64, 98, 46, 101, 120, 97, 109, 112, 108, 101], [34, 64, 34, 64, 98, 46, 101, 120, 97, 109, 112, 108, 101], [34, 92, 34, 92, 92, 34, 64, 98, 46, 101, 120, 97, 109, 112, 108, 101], z, [65, 64, 66, 46, 69, 120, 97, 109, 112, 108, 101]].map sv).toArray 9) from rfl]
  obtain ⟨L, hL⟩ : ∃ L, L = [[33, 35, 36, 37, 38, 39, 42, 43, 45, 47, 61, 63, 94, 95, 123, 124, 125, 126, 96, 64, 98, 46, 101, 120, 97, 109, 112, 108, 101], [97, 46, 98, 46, 99, 64, 98], [34, 34, 64, 98, 46, 101, 120, 97, 109, 112, 108, 101], [34, 64, 34, 64, 98, 46, 101, 120, 97, 109, 112, 108, 101], [34, 92, 34, 92, 92, 34, 64, 98, 46, 101, 120, 97, 109, 112, 108, 101], z, [65, 64, 66, 46, 69, 120, 97, 109, 112, 108, 101]] := ⟨_, rfl⟩
  have HLN := Lib.hid (show L.length = 7 by rw [hL]; rfl)
  rw [← hL] at Y1 ⊢
  obtain ⟨wa, hwa⟩ : ∃ wa, wa = w1.alloc (.cells (L.map sv).toArray 9) := ⟨_, rfl⟩
  rw [← hwa]
  obtain ⟨g, hg⟩ : ∃ g, g = w1.heap.size := ⟨_, rfl⟩
  rw [← hg]
  have HAA := Lib.hid (show RB w g L wa from ⟨by rw [hwa]; exact B1.alloc _, by rw [hwa, hg]; exact heap_alloc_new _ _⟩)
  clear hwa hg hL B0 B1 x1
  go_loopw [22] (fun i wr => ∃ k : Nat, k ≤ 7 ∧ i = .int .i64 k ∧ RB w g L wr) (fun i _ => 7 - (intOf i).toNat)
  case atStart => exact ⟨0, by omega, rfl, HAA.out⟩
  case round =>
    obtain ⟨k, hk, rfl, hr⟩ := hrel
    by_cases hlt : k < 7
    · obtain ⟨x, hx⟩ : ∃ x, L.getD k [] = x := ⟨_, rfl⟩
      have hkl : k < L.length := by rw [HLN.out]; exact hlt
      have hy := Y1.out _ (getD_mem hkl)
      rw [hx] at hy
      have hxl : x.length ≤ 1000000 := by omega
      have HM := Lib.hid hy.1
      have c0 := hr.cell hkl hx
      have xp := path_text x
      have HP := Lib.hid (show pathL x = 60 :: (x ++ [62]) by unfold pathL endL; rw [hy.1]; simp)
      obtain ⟨p, hp⟩ : ∃ p, p = 60 :: (x ++ [62]) := ⟨_, rfl⟩
      rw [← hp] at xp HP
      clear hy hx hkl hp
      go_wp2_with fail
      refine (rb (may_amay x _ hxl hr.1.ml) hr).mono ?_
      rintro e w4 ⟨rfl, hr4⟩
      rw [HM.out]
      clear c0 hr
      go_wp2_with fail
      refine (rb (path_any x _ hxl hr4.1.ml) hr4).mono ?_
      rintro e w5 ⟨rfl, hr5⟩
      rw [HP.out]
      have HR := Lib.hid hr5
      clear hr4 hr5
      go_wp2_with fail
      go_roundw
      case rel => exact ⟨k + 1, by omega, by go_num, HR.out⟩
      case measure => simp [intOf]; omega
    · obtain rfl : k = 7 := by omega
      rw [show ((7 : Nat) : Int) = 7 from rfl]
      obtain ⟨z, hz⟩ : ∃ z, z = copiesL [97] 65 ++ [64, 98, 46, 101, 120, 97, 109, 112, 108, 101] := ⟨_, rfl⟩
      have x1 : str (copiesL [97] 65) ++ { data := #[64, 98, 46, 101, 120, 97, 109, 112, 108, 101] } = str z := by rw [hz]; exact copies_text 65
      have Y2 := Lib.hid (show ∀ x ∈ [[], [97], [97, 64, 98, 64, 99, 46, 101, 120, 97, 109, 112, 108, 101], [97, 46, 64, 98, 46, 101, 120, 97, 109, 112, 108, 101], [34, 97, 92, 34, 64, 98, 46, 101, 120, 97, 109, 112, 108, 101], [34, 97, 34, 98, 34, 64, 98, 46, 101, 120, 97, 109, 112, 108, 101], [34, 97, 127, 34, 64, 98, 46, 101, 120, 97, 109, 112, 108, 101], [34, 97, 9, 98, 34, 64, 98, 46, 101, 120, 97, 109, 112, 108, 101], [40, 97, 41, 64, 98, 46, 101, 120, 97, 109, 112, 108, 101], [97, 92, 98, 64, 98, 46, 101, 120, 97, 109, 112, 108, 101], z, [97, 64, 45, 98, 46, 101, 120, 97, 109, 112, 108, 101], [97, 64, 98, 46, 46, 101, 120, 97, 109, 112, 108, 101], [97, 64, 91, 49, 46, 50, 46, 51, 46, 52, 93], [233, 64, 98, 46, 101, 120, 97, 109, 112, 108, 101], [97, 64, 98, 46, 101, 120, 97, 109, 112, 108, 101, 32]], parseL x = none ∧ x.length ≤ 1000 by rw [hz]; exact no_all)
      have Y3 := Lib.hid (show ∀ k, k < 16 → ([[], [97], [97, 64, 98, 64, 99, 46, 101, 120, 97, 109, 112, 108, 101], [97, 46, 64, 98, 46, 101, 120, 97, 109, 112, 108, 101], [34, 97, 92, 34, 64, 98, 46, 101, 120, 97, 109, 112, 108, 101], [34, 97, 34, 98, 34, 64, 98, 46, 101, 120, 97, 109, 112, 108, 101], [34, 97, 127, 34, 64, 98, 46, 101, 120, 97, 109, 112, 108, 101], [34, 97, 9, 98, 34, 64, 98, 46, 101, 120, 97, 109, 112, 108, 101], [40, 97, 41, 64, 98, 46, 101, 120, 97, 109, 112, 108, 101], [97, 92, 98, 64, 98, 46, 101, 120, 97, 109, 112, 108, 101], z, [97, 64, 45, 98, 46, 101, 120, 97, 109, 112, 108, 101], [97, 64, 98, 46, 46, 101, 120, 97, 109, 112, 108, 101], [97, 64, 91, 49, 46, 50, 46, 51, 46, 52, 93], [233, 64, 98, 46, 101, 120, 97, 109, 112, 108, 101], [97, 64, 98, 46, 101, 120, 97, 109, 112, 108, 101, 32]].getD k []).isEmpty = decide (k = 0) by rw [hz]; exact no_first)
      have B2 := hr.1
      clear hz Y1 HLN HAA hr
      go_wp2_with fail
      refine (copies_any [97] 65 _ (by simp) (by omega)).mono ?_
      rintro e w2 ⟨rfl, rfl⟩
      go_wp2_with fail
      rw [show wr.alloc (.cells #[.string { data := #[] }, .string { data := #[97] }, .string { data := #[97, 64, 98, 64, 99, 46, 101, 120, 97, 109, 112, 108, 101] }, .string { data := #[97, 46, 64, 98, 46, 101, 120, 97, 109, 112, 108, 101] }, .string { data := #[34, 97, 92, 34, 64, 98, 46, 101, 120, 97, 109, 112, 108, 101] }, .string { data := #[34, 97, 34, 98, 34, 64, 98, 46, 101, 120, 97, 109, 112, 108, 101] }, .string { data := #[34, 97, 127, 34, 64, 98, 46, 101, 120, 97, 109, 112, 108, 101] }, .string { data := #[34, 97, 9, 98, 34, 64, 98, 46, 101, 120, 97, 109, 112, 108, 101] }, .string { data := #[40, 97, 41, 64, 98, 46, 101, 120, 97, 109, 112, 108, 101] }, .string { data := #[97, 92, 98, 64, 98, 46, 101, 120, 97, 109, 112, 108, 101] }, .string (str z), .string { data := #[97, 64, 45, 98, 46, 101, 120, 97, 109, 112, 108, 101] }, .string { data := #[97, 64, 98, 46, 46, 101, 120, 97, 109, 112, 108, 101] }, .string { data := #[97, 64, 91, 49, 46, 50, 46, 51, 46, 52, 93] }, .string { data := #[233, 64, 98, 46, 101, 120, 97, 109, 112, 108, 101] }, .string { data := #[97, 64, 98, 46, 101, 120, 97, 109, 112, 108, 101, 32] }] 9) = wr.alloc (.cells ([[], [97], [97, 64, 98, 64, 99, 46, 101, 120, 97, 109, 112, 108, 101], [97, 46, 64, 98, 46, 101, 120, 97, 109, 112, 108, 101], [34, 97, 92, 34, 64, 98, 46, 101, 120, 97, 109, 112, 108, 101], [34, 97, 34, 98, 34, 64, 98, 46, 101, 120, 97, 109, 112, 108, 101], [34, 97, 127, 34, 64, 98, 46, 101, 120, 97, 109, 112, 108, 101], [34, 97, 9, 98, 34, 64, 98, 46, 101, 120, 97, 109, 112, 108, 101], [40, 97, 41, 64, 98, 46, 101, 120, 97, 109, 112, 108, 101], [97, 92, 98, 64, 98, 46, 101, 120, 97, 109, 112, 108, 101], z, [97, 64, 45, 98, 46, 101, 120, 97, 109, 112, 108, 101], [97, 64, 98, 46, 46, 101, 120, 97, 109, 112, 108, 101], [97, 64, 91, 49, 46, 50, 46, 51, 46, 52, 93], [233, 64, 98, 46, 101, 120, 97, 109, 112, 108, 101], [97, 64, 98, 46, 101, 120, 97, 109, 112, 108, 101, 32]].map sv).toArray 9) from rfl]
      obtain ⟨L2, hL⟩ : ∃ L, L = [[], [97], [97, 64, 98, 64, 99, 46, 101, 120, 97, 109, 112, 108, 101], [97, 46, 64, 98, 46, 101, 120, 97, 109, 112, 108, 101], [34, 97, 92, 34, 64, 98, 46, 101, 120, 97, 109, 112, 108, 101], [34, 97, 34, 98, 34, 64, 98, 46, 101, 120, 97, 109, 112, 108, 101], [34, 97, 127, 34, 64, 98, 46, 101, 120, 97, 109, 112, 108, 101], [34, 97, 9, 98, 34, 64, 98, 46, 101, 120, 97, 109, 112, 108, 101], [40, 97, 41, 64, 98, 46, 101, 120, 97, 109, 112, 108, 101], [97, 92, 98, 64, 98, 46, 101, 120, 97, 109, 112, 108, 101], z, [97, 64, 45, 98, 46, 101, 120, 97, 109, 112, 108, 101], [97, 64, 98, 46, 46, 101, 120, 97, 109, 112, 108, 101], [97, 64, 91, 49, 46, 50, 46, 51, 46, 52, 93], [233, 64, 98, 46, 101, 120, 97, 109, 112, 108, 101], [97, 64, 98, 46, 101, 120, 97, 109, 112, 108, 101, 32]] := ⟨_, rfl⟩
      have HLN := Lib.hid (show L2.length = 16 by rw [hL]; rfl)
      rw [← hL] at Y2 Y3 ⊢
      obtain ⟨wa, hwa⟩ : ∃ wa, wa = wr.alloc (.cells (L2.map sv).toArray 9) := ⟨_, rfl⟩
      rw [← hwa]
      obtain ⟨g2, hg⟩ : ∃ g, g = wr.heap.size := ⟨_, rfl⟩
      rw [← hg]
      have HAA := Lib.hid (show RB w g2 L2 wa from ⟨by rw [hwa]; exact B2.alloc _, by rw [hwa, hg]; exact heap_alloc_new _ _⟩)
      clear hwa hg hL B2 x1
      obtain ⟨wo, rfl⟩ : ∃ wo : World, wo = wr := ⟨_, rfl⟩
      go_loopw [42] (fun i wr => ∃ k : Nat, k ≤ 16 ∧ i = .int .i64 k ∧ RB w g2 L2 wr) (fun i _ => 16 - (intOf i).toNat)
      case atStart => exact ⟨0, by omega, rfl, HAA.out⟩
      case round =>
        obtain ⟨k, hk, rfl, hr⟩ := hrel
        by_cases hlt : k < 16
        · obtain ⟨x, hx⟩ : ∃ x, L2.getD k [] = x := ⟨_, rfl⟩
          have hkl : k < L2.length := by rw [HLN.out]; exact hlt
          have hy := Y2.out _ (getD_mem hkl)
          have he := Y3.out k hlt
          rw [hx] at hy he
          have hxl : x.length ≤ 1000000 := by omega
          have HP := Lib.hid hy.1
          have HM := Lib.hid (show amayL x = false by unfold amayL; rw [hy.1]; rfl)
          have c0 := hr.cell hkl hx
          have xp := path_text x
          obtain ⟨p, hp⟩ : ∃ p, p = 60 :: (x ++ [62]) := ⟨_, rfl⟩
          have hpl : p.length ≤ 1000000 := by rw [hp]; simp; omega
          have HU := Lib.hid (show unpathL p = if endL x then some x else none by rw [hp]; exact unpath_in x)
          rw [← hp] at xp
          clear hx hkl hp
          by_cases k0 : k = 0
          · subst k0
            rw [decide_eq_true rfl] at he
            obtain rfl : x = [] := by simpa using he
            have HU2 := Lib.hid (show unpathL p = some [] from HU.out)
            clear he hy
            go_wp2_with fail
            refine (rb (parse_any [] _ (by decide) hr.1.ml) hr).mono ?_
            rintro e w4 ⟨rfl, hr4⟩
            rw [HP.out]
            unfold parseV
            clear c0 hr
            go_wp2_with fail
            refine (rb (unpath_any p _ hpl hr4.1.ml) hr4).mono ?_
            rintro e w5 ⟨rfl, hr5⟩
            rw [HU2.out]
            unfold unpathV
            clear hr4
            go_wp2_with fail
            refine (rb (may_amay [] _ (by decide) hr5.1.ml) hr5).mono ?_
            rintro e w6 ⟨rfl, hr6⟩
            rw [HM.out]
            have HR := Lib.hid hr6
            clear hr5 hr6
            go_wp2_with fail
            go_roundw
            case rel => exact ⟨0 + 1, by omega, by go_num, HR.out⟩
            case measure => simp [intOf]
          · rw [decide_eq_false k0] at he
            have HE := Lib.hid (show endL x = false by unfold endL; rw [he, HM.out]; rfl)
            have HU2 := Lib.hid (show unpathL p = none by rw [HU.out, HE.out]; rfl)
            have HPA := Lib.hid (show pathL x = [] by unfold pathL; rw [HE.out]; rfl)
            clear hy k0
            go_wp2_with fail
            refine (rb (parse_any x _ hxl hr.1.ml) hr).mono ?_
            rintro e w4 ⟨rfl, hr4⟩
            rw [HP.out]
            unfold parseV
            clear c0 hr
            go_wp2_with fail
            refine (rb (unpath_any p _ hpl hr4.1.ml) hr4).mono ?_
            rintro e w5 ⟨rfl, hr5⟩
            rw [HU2.out]
            unfold unpathV
            clear hr4
            go_wp2_with fail
            refine (rb (may_amay x _ hxl hr5.1.ml) hr5).mono ?_
            rintro e w6 ⟨rfl, hr6⟩
            rw [HM.out]
            clear hr5
            go_wp2_with fail
            refine (rb (path_any x _ hxl hr6.1.ml) hr6).mono ?_
            rintro e w7 ⟨rfl, hr7⟩
            rw [HPA.out]
            have HR := Lib.hid hr7
            clear hr6 hr7
            go_wp2_with fail
            go_roundw
            case rel => exact ⟨k + 1, by omega, by go_num, HR.out⟩
            case measure => simp [intOf]; omega
        · obtain rfl : k = 16 := by omega
          rw [show ((16 : Nat) : Int) = 16 from rfl]
          have Y4 := Lib.hid un_all
          have B3 := hr.1
          clear Y2 Y3 HLN HAA hr
          go_wp2_with fail
          rw [show wr.alloc (.cells #[.string { data := #[] }, .string { data := #[60] }, .string { data := #[62] }, .string { data := #[97, 64, 98, 46, 101, 120, 97, 109, 112, 108, 101] }, .string { data := #[60, 97, 64, 98, 46, 101, 120, 97, 109, 112, 108, 101] }, .string { data := #[97, 64, 98, 46, 101, 120, 97, 109, 112, 108, 101, 62] }, .string { data := #[60, 60, 97, 64, 98, 46, 101, 120, 97, 109, 112, 108, 101, 62, 62] }, .string { data := #[60, 32, 62] }] 9) = wr.alloc (.cells (unL.map sv).toArray 9) from rfl]
          obtain ⟨L3, hL⟩ : ∃ L, L = unL := ⟨_, rfl⟩
          have HLN := Lib.hid (show L3.length = 8 by rw [hL]; rfl)
          rw [← hL] at Y4 ⊢
          obtain ⟨wa, hwa⟩ : ∃ wa, wa = wr.alloc (.cells (L3.map sv).toArray 9) := ⟨_, rfl⟩
          rw [← hwa]
          obtain ⟨g3, hg⟩ : ∃ g, g = wr.heap.size := ⟨_, rfl⟩
          rw [← hg]
          have HAA := Lib.hid (show RB w g3 L3 wa from ⟨by rw [hwa]; exact B3.alloc _, by rw [hwa, hg]; exact heap_alloc_new _ _⟩)
          clear hwa hg hL B3
          obtain ⟨wp, rfl⟩ : ∃ wp : World, wp = wr := ⟨_, rfl⟩
          go_loopw [93] (fun i wr => ∃ k : Nat, k ≤ 8 ∧ i = .int .i64 k ∧ RB w g3 L3 wr) (fun i _ => 8 - (intOf i).toNat)
          case atStart => exact ⟨0, by omega, rfl, HAA.out⟩
          case round =>
            obtain ⟨k, hk, rfl, hr⟩ := hrel
            by_cases hlt : k < 8
            · obtain ⟨x, hx⟩ : ∃ x, L3.getD k [] = x := ⟨_, rfl⟩
              have hkl : k < L3.length := by rw [HLN.out]; exact hlt
              have hy := Y4.out _ (getD_mem hkl)
              rw [hx] at hy
              have hxl : x.length ≤ 1000000 := by omega
              have HU := Lib.hid hy.1
              have c0 := hr.cell hkl hx
              clear hx hkl hy
              go_wp2_with fail
              refine (rb (unpath_any x _ hxl hr.1.ml) hr).mono ?_
              rintro e w4 ⟨rfl, hr4⟩
              rw [HU.out]
              unfold unpathV
              have HR := Lib.hid hr4
              clear c0 hr hr4
              go_wp2_with fail
              go_roundw
              case rel => exact ⟨k + 1, by omega, by go_num, HR.out⟩
              case measure => simp [intOf]; omega
            · obtain rfl : k = 8 := by omega
              have B4 := hr.1
              clear Y4 HLN HAA hr
              go_wp2_with fail
              refine (bl_path nm1 (by decide) B4).mono ?_
              rintro e v1 ⟨rfl, B5⟩
              go_wp2_with fail
              refine (bl_show nm2 (by decide) (by decide) B5).mono ?_
              rintro e v2 ⟨rfl, B6⟩
              go_wp2_with fail
              refine (bl_show nm3 (by decide) (by decide) B6).mono ?_
              rintro e v3 ⟨rfl, B7⟩
              go_wp2_with fail
              refine (bl_show nm4 (by decide) (by decide) B7).mono ?_
              rintro e v4 ⟨rfl, B8⟩
              go_wp2_with fail
              refine (bl_show nm5 (by decide) (by decide) B8).mono ?_
              rintro e v5 ⟨rfl, B9⟩
              go_wp2_with fail
              refine (bl_same nm6 (by decide) (by decide) B9).mono ?_
              rintro e v6 ⟨rfl, B10⟩
              go_wp2_with fail
              refine (bl_same nm7 (by decide) (by decide) B10).mono ?_
              rintro e v7 ⟨rfl, B11⟩
              go_wp2_with fail
              refine (bl_same nm8 (by decide) (by decide) B11).mono ?_
              rintro e v8 ⟨rfl, B12⟩
              go_wp2_with fail
              refine (bl_same nm9 (by decide) (by decide) B12).mono ?_
              rintro e v9 ⟨rfl, B13⟩
              go_wp2_with fail
              refine (mails_bl _ HM0.out B13).mono ?_
              rintro e v10 ⟨rfl, B14⟩
              have HB := Lib.hid B14.below
              go_wp2_with fail
              go_ret
              exact ⟨rfl, HB.out⟩
end Go.Proofs.YtpgnmdpoifbngaaDoor
