/-
  works's contract: the examples are as they are told; and the closed values that it, and CodeNames, compare.
-/
import Derived.WalkLawsBesides
import Derived.Test.YtdniojbplakeoaaDoorSum
namespace Go.Proofs.YtdniojbplakeoaaDoor
open Go Go.RowKit
set_option maxRecDepth 100000

theorem hex_of {x t : List UInt8} (h : hexL x = t) (hx : x.length ≤ 100000) (w : World) : Calls Tryd.prog 12 #[.string { data := x.toArray }] w fun e w' => e = .returned (.string { data := t.toArray }) ∧ Below w.heap.size w w' := by
  have := hex_any x w hx
  rwa [h] at this
theorem base_of {x t : List UInt8} (h : b64L x = t) (hx : x.length ≤ 100000) (w : World) : Calls Tryd.prog 18 #[.string { data := x.toArray }] w fun e w' => e = .returned (.string { data := t.toArray }) ∧ Below w.heap.size w w' := by
  have := base_any x w hx
  rwa [h] at this
theorem unhex_none {x : List UInt8} (h : unhexL x = none) (hx : x.length ≤ 100000) (w : World) : Calls Tryd.prog 14 #[.string { data := x.toArray }] w fun e w' => e = .returned (.tuple #[.string { data := #[] }, .int .i64 4]) ∧ Below w.heap.size w w' := by
  have := unhex_any x w hx
  rwa [h] at this
theorem unbase_none {x : List UInt8} (h : unb64L x = none) (hx : x.length ≤ 100000) (w : World) : Calls Tryd.prog 15 #[.string { data := x.toArray }] w fun e w' => e = .returned (.tuple #[.string { data := #[] }, .int .i64 4]) ∧ Below w.heap.size w w' := by
  have := unbase_any x w hx
  rwa [h] at this
theorem num_of {x : List UInt8} {most a b : Int} (h : numR x most = (a, b)) (hx : x.length ≤ 100000) (h0 : -9223372036854775808 ≤ most) (h1 : most ≤ 9223372036854775807) (w : World) (hw : LW w) :
    Calls Tryd.prog 16 #[.string { data := x.toArray }, .int .i64 most] w fun e w' => e = .returned (.tuple #[.int .i64 a, .int .i64 b]) ∧ Below w.heap.size w w' := by
  have := num_any x most w (by omega) h0 h1 hw
  unfold numV at this
  rwa [h] at this
theorem show_of {n : Int} {t : List UInt8} (h : Lib.itoa n = t) (h0 : -9223372036854775808 ≤ n) (h1 : n ≤ 9223372036854775807) (w : World) (hw : LW w) :
    Calls Tryd.prog 17 #[.int .i64 n] w fun e w' => e = .returned (.string { data := t.toArray }) ∧ Below w.heap.size w w' := by
  have := show_any n w h0 h1 hw
  rwa [h] at this
theorem sum_of {x t : List UInt8} (h : sumP x = t) (hx : x.length ≤ 100000) (w : World) (hw : LW w) : Calls Tryd.prog 13 #[.string { data := x.toArray }] w fun e w' => e = .returned (.string { data := t.toArray }) ∧ Below w.heap.size w w' := by
  have := sum_any x w hx hw
  rwa [h] at this

theorem w_unhex : unhexL [48, 65] = none := by decide +kernel
theorem w_unbase : unb64L [89, 82, 61, 61] = none := by decide +kernel
theorem w_num1 : numR [49, 48] 9 = (0, 40) := by decide +kernel
theorem w_num2 : numR [48, 49, 48] 99 = (0, 4) := by decide +kernel
theorem w_hex : hexL [0, 171] = [48, 48, 97, 98] := by decide +kernel
theorem w_b1 : b64L [97] = [89, 81, 61, 61] := by decide +kernel
theorem w_b2 : b64L [97, 98, 99] = [89, 87, 74, 106] := by decide +kernel
theorem w_show : Lib.itoa (-5) = [45, 53] := by
  unfold Lib.itoa
  rw [if_pos (by decide)]
  rw [Lib.decDigits, dif_pos (by decide)]
  rfl
theorem w_sum_abc : sumP [97, 98, 99] = [186, 120, 22, 191, 143, 1, 207, 234, 65, 65, 64, 222, 93, 174, 34, 35, 176, 3, 97, 163, 150, 23, 122, 156, 180, 16, 255, 97, 242, 0, 21, 173] := by decide +kernel
theorem w_hex_abc : hexL [186, 120, 22, 191, 143, 1, 207, 234, 65, 65, 64, 222, 93, 174, 34, 35, 176, 3, 97, 163, 150, 23, 122, 156, 180, 16, 255, 97, 242, 0, 21, 173] = [98, 97, 55, 56, 49, 54, 98, 102, 56, 102, 48, 49, 99, 102, 101, 97, 52, 49, 52, 49, 52, 48, 100, 101, 53, 100, 97, 101, 50, 50, 50, 51, 98, 48, 48, 51, 54, 49, 97, 51, 57, 54, 49, 55, 55, 97, 57, 99, 98, 52, 49, 48, 102, 102, 54, 49, 102, 50, 48, 48, 49, 53, 97, 100] := by decide +kernel
theorem w_sum_none : sumP [] = [227, 176, 196, 66, 152, 252, 28, 20, 154, 251, 244, 200, 153, 111, 185, 36, 39, 174, 65, 228, 100, 155, 147, 76, 164, 149, 153, 27, 120, 82, 184, 85] := by decide +kernel
theorem w_hex_none : hexL [227, 176, 196, 66, 152, 252, 28, 20, 154, 251, 244, 200, 153, 111, 185, 36, 39, 174, 65, 228, 100, 155, 147, 76, 164, 149, 153, 27, 120, 82, 184, 85] = [101, 51, 98, 48, 99, 52, 52, 50, 57, 56, 102, 99, 49, 99, 49, 52, 57, 97, 102, 98, 102, 52, 99, 56, 57, 57, 54, 102, 98, 57, 50, 52, 50, 55, 97, 101, 52, 49, 101, 52, 54, 52, 57, 98, 57, 51, 52, 99, 97, 52, 57, 53, 57, 57, 49, 98, 55, 56, 53, 50, 98, 56, 53, 53] := by decide +kernel

set_option maxHeartbeats 2000000 in
theorem works_any (w : World) (hw : LW w) : Calls Tryd.prog 11 #[] w fun e w' => e = .returned (.bool true) ∧ Below w.heap.size w w' := by
  have HB0 := Lib.hid (Below.refl w.heap.size w)
  have HL0 := Lib.hid hw
  clear hw
  go_enter Tryd.func11, Tryd.ntmps11
  go_wp2_with fail
  refine (unhex_none w_unhex (by decide) _).mono ?_
  rintro e w1 ⟨rfl, hb⟩
  have HB1 := Lib.hid (HB0.out.trans (hb.mono HB0.out.size))
  have HL1 := Lib.hid (HL0.out.below hb)
  clear hb
  go_wp2_with fail
  refine (unbase_none w_unbase (by decide) _).mono ?_
  rintro e w2 ⟨rfl, hb⟩
  have HB2 := Lib.hid (HB1.out.trans (hb.mono HB1.out.size))
  have HL2 := Lib.hid (HL1.out.below hb)
  clear hb
  go_wp2_with fail
  refine (num_of w_num1 (by decide) (by decide) (by decide) _ HL2.out).mono ?_
  rintro e w3 ⟨rfl, hb⟩
  have HB3 := Lib.hid (HB2.out.trans (hb.mono HB2.out.size))
  have HL3 := Lib.hid (HL2.out.below hb)
  clear hb
  go_wp2_with fail
  refine (num_of w_num2 (by decide) (by decide) (by decide) _ HL3.out).mono ?_
  rintro e w4 ⟨rfl, hb⟩
  have HB4 := Lib.hid (HB3.out.trans (hb.mono HB3.out.size))
  have HL4 := Lib.hid (HL3.out.below hb)
  clear hb
  go_wp2_with fail
  refine (hex_of w_hex (by decide) _).mono ?_
  rintro e w5 ⟨rfl, hb⟩
  have HB5 := Lib.hid (HB4.out.trans (hb.mono HB4.out.size))
  have HL5 := Lib.hid (HL4.out.below hb)
  clear hb
  go_wp2_with fail
  refine (base_of w_b1 (by decide) _).mono ?_
  rintro e w6 ⟨rfl, hb⟩
  have HB6 := Lib.hid (HB5.out.trans (hb.mono HB5.out.size))
  have HL6 := Lib.hid (HL5.out.below hb)
  clear hb
  go_wp2_with fail
  refine (base_of w_b2 (by decide) _).mono ?_
  rintro e w7 ⟨rfl, hb⟩
  have HB7 := Lib.hid (HB6.out.trans (hb.mono HB6.out.size))
  have HL7 := Lib.hid (HL6.out.below hb)
  clear hb
  go_wp2_with fail
  refine (show_of w_show (by decide) (by decide) _ HL7.out).mono ?_
  rintro e w8 ⟨rfl, hb⟩
  have HB8 := Lib.hid (HB7.out.trans (hb.mono HB7.out.size))
  have HL8 := Lib.hid (HL7.out.below hb)
  clear hb
  go_wp2_with fail
  refine (sum_of w_sum_abc (by decide) _ HL8.out).mono ?_
  rintro e w9 ⟨rfl, hb⟩
  have HB9 := Lib.hid (HB8.out.trans (hb.mono HB8.out.size))
  have HL9 := Lib.hid (HL8.out.below hb)
  clear hb
  go_wp2_with fail
  refine (hex_of w_hex_abc (by decide) _).mono ?_
  rintro e w10 ⟨rfl, hb⟩
  have HB10 := Lib.hid (HB9.out.trans (hb.mono HB9.out.size))
  have HL10 := Lib.hid (HL9.out.below hb)
  clear hb
  go_wp2_with fail
  refine (sum_of w_sum_none (by decide) _ HL10.out).mono ?_
  rintro e w11 ⟨rfl, hb⟩
  have HB11 := Lib.hid (HB10.out.trans (hb.mono HB10.out.size))
  have HL11 := Lib.hid (HL10.out.below hb)
  clear hb
  go_wp2_with fail
  refine (hex_of w_hex_none (by decide) _).mono ?_
  rintro e w12 ⟨rfl, hb⟩
  have HB12 := Lib.hid (HB11.out.trans (hb.mono HB11.out.size))
  have HL12 := Lib.hid (HL11.out.below hb)
  clear hb
  go_wp2
  go_ret
  exact ⟨rfl, HB12.out⟩
end Go.Proofs.YtdniojbplakeoaaDoor
