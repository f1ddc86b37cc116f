/-
  CapsNames's walk (a closed law).
-/
import Derived.Deep.QuietTactic
import Derived.BigQuiet
import Derived.Deep.RegionHeld3
import Derived.Test.YtanfonpbnamjmaaDoorTextStep
import Derived.Test.YtanfonpbnamjmaaDoorCUnion
namespace Go.Proofs.YtanfonpbnamjmaaDoor
open Go Go.RowKit Go.Shelf
set_option maxRecDepth 100000

def six6 : List (List UInt8) := [[115, 116, 97, 114, 116, 116, 108, 115], [80, 105, 112, 101, 108, 105, 110, 105, 110, 103], [114, 101, 113, 117, 105, 114, 101, 84, 76, 83], [100, 115, 110], [56, 98, 105, 116, 109, 105, 109, 101], [115, 105, 122, 101, 32, 55]]
def no13 : List (List UInt8) := [[], [32], [83, 84, 65, 82, 84, 84, 76, 83, 32], [32, 83, 84, 65, 82, 84, 84, 76, 83], [83, 84, 65, 82, 84, 84, 76, 83, 88], [83, 73, 90, 69, 32], [83, 73, 90, 69, 32, 120], [83, 73, 90, 69, 32, 45, 49], [83, 73, 90, 69, 32, 49, 32, 50], [80, 73, 80, 69, 76, 73, 78, 73, 78, 71, 32, 49], [68, 83, 78, 9], [56, 66, 73, 84, 77, 73, 77, 69, 61, 49], [255]]
def zer3 : List (List UInt8) := [[83, 73, 90, 69, 32, 48], [83, 73, 90, 69, 32, 53], [83, 73, 90, 69, 32, 54]]
def cpAll : Cp := ⟨true, true, true, true, true, true, 7⟩
def want7 : List (List UInt8) := [[104], [80, 73, 80, 69, 76, 73, 78, 73, 78, 71], [83, 73, 90, 69, 32, 55], [83, 84, 65, 82, 84, 84, 76, 83], [82, 69, 81, 85, 73, 82, 69, 84, 76, 83], [68, 83, 78], [56, 66, 73, 84, 77, 73, 77, 69]]
theorem six6_is : sayC six6 = cpAll := by decide +kernel
theorem no13_is : ∀ k, k < 13 → sayC [no13.getD k []] = cp0 := by decide +kernel
theorem no13_len : ∀ k, k < 13 → (no13.getD k []).length ≤ 1000000 := by decide +kernel
theorem zer3_is : sayC zer3 = ⟨false, false, false, false, false, true, 5⟩ := by decide +kernel
theorem top_is : sayC [[83, 73, 90, 69, 32, 49, 48, 57, 57, 53, 49, 49, 54, 50, 55, 55, 55, 54]] = ⟨false, false, false, false, false, true, 1099511627776⟩ := by decide +kernel
theorem over_is : sayC [[83, 73, 90, 69, 32, 49, 48, 57, 57, 53, 49, 49, 54, 50, 55, 55, 55, 55]] = ⟨false, false, false, false, false, true, 0⟩ := by decide +kernel
theorem nines_is : sayC [[83, 73, 90, 69, 32, 57, 57, 57, 57, 57, 57, 57, 57, 57, 57, 57, 57, 57, 57, 57, 57, 57, 57, 57, 57, 57, 57, 57]] = ⟨false, false, false, false, false, true, 0⟩ := by decide +kernel
theorem size7 : sizeT 7 = [83, 73, 90, 69, 32, 55] := by
  unfold sizeT
  rw [show mayN 7 = true by decide, if_pos rfl, itoa_pos (by decide), show (7 : Int).toNat = 7 from rfl, Lib.decDigits, dif_pos (by decide)]
  rfl
theorem want7_is : textsR [104] cpAll = want7 := by
  unfold textsR sixT cpAll opt
  simp only [if_true, size7]
  rfl
theorem one_is : textsR [] ⟨false, false, false, false, false, false, 5⟩ = [[]] := rfl
theorem two_is : textsR [] ⟨false, false, false, false, false, true, -5⟩ = [[], wSZ] := rfl
theorem two_is2 : textsR [] ⟨false, false, false, false, false, true, 1099511627777⟩ = [[], wSZ] := rfl
theorem uni_is : unionC ⟨false, false, false, true, false, false, 3⟩ ⟨false, false, false, false, false, true, 4⟩ = ⟨false, false, false, true, false, true, 3⟩ := by decide

theorem field_most (m : Int) (W : World) : (Instr.field 50 (.agg #[.bool false, .bool false, .bool false, .bool false, .bool false, .bool true, .int .i64 m]) 6).run Tryd.prog W = .ok (.int .i64 m) W := by
  unfold Instr.field
  go_simp
  simp [asAgg, Result.andThen]
theorem of_lit {X W : World} {g n c : Nat} {C : Array Value} {R : Array Value} {c0 : Cp} (xs : List (List UInt8)) (hX : LW X) (h : SV X W) (hg : W.heap[g]? = some (.cells C 9 (0, 0))) (hC : C = (xs.map sv).toArray) (hn : n = xs.length) (hl : ∀ x ∈ xs, x.length ≤ 1000000) (hm : xs.length ≤ 2000) (hs : sayC xs = c0) (hR : R = cpL c0) :
    Calls Tryd.prog 28 #[.slice (some ⟨g, 0, none⟩) n c] W fun e W' => e = .returned (.agg R) ∧ SV X W' := by
  subst hC; subst hs; subst hR
  exact (lof_any xs _ W (lit_sr hg hn c) hl hm (hX.below h)).mono fun e W' ⟨he, hb⟩ => ⟨he, SV.step h hb⟩

theorem ofcap_lit {X W : World} {g n : Nat} {C R : Array Value} {c0 : Cp} (xs : List (List UInt8)) (code : Int) (hX : LW X) (h : SV X W) (hg : W.heap[g]? = some (.cells C 9 (0, 0))) (hC : C = (xs.map sv).toArray) (hn : n = xs.length) (hl : ∀ x ∈ xs, x.length ≤ 1000000) (hm : xs.length ≤ 1000000) (hs : ofC code xs = c0) (hR : R = cpL c0) :
    Calls Tryd.prog 29 #[.agg #[.int .i64 code, .string { data := #[] }, .slice (some ⟨g, 0, none⟩) n n]] W fun e W' => e = .returned (.agg R) ∧ SV X W' := by
  subst hs; subst hR
  exact (of_any code { data := #[] } _ xs W (owns_sw (lit_row (base := 0) hC hg (Nat.zero_le _) hm hn)) hl (hX.below h)).mono fun e W' ⟨he, hb⟩ => ⟨he, SV.step h hb⟩
/-- What Texts tells, as a row of its own. -/
theorem texts_row {X W : World} {C : Array Value} {h0 : ByteArray} (host : List UInt8) (c : Cp) {xs : List (List UInt8)} (hX : LW X) (h : SV X W) (hh : host.length ≤ 1000000) (h1 : -9223372036854775808 ≤ c.mo) (h2 : c.mo ≤ 9223372036854775807) (hC : C = cpL c) (hx : textsR host c = xs) (hp : 0 < xs.length) (he : h0 = str host) :
    Calls Tryd.prog 30 #[.string h0, .agg C] W fun e W' => ∃ g cap, e = .returned (.slice (some ⟨g, 0, none⟩) xs.length cap) ∧ SV X W' ∧ g < W'.heap.size ∧ ∀ k, ∀ hk : k < xs.length, W'.cell? ⟨g, k, none⟩ = some (sv xs[k]) := by
  subst hC; subst hx; subst he
  refine (texts_any host c W hh h1 h2 (hX.below h)).mono ?_
  rintro e W' ⟨v, rfl, hb, hown⟩
  obtain ⟨g, cap, rfl, _, hl⟩ := hown.form hp
  obtain ⟨_, _, _, _, _, hc, _⟩ := owns_cells hown
  exact ⟨g, cap, rfl, SV.step h hb, hl, hc⟩

set_option maxHeartbeats 64000000 in
theorem capsNames_walk (w : World) (hw : LW w) : Calls Tryd.prog 5 #[] w fun e w' => e = .returned (.bool true) ∧ Below w.heap.size w w' := by
  have HW := Lib.hid hw
  have hfm := field_most 1099511627776
  clear hw
  go_enter Tryd.func5, Tryd.ntmps5
  go_wp2_with fail
  obtain ⟨k1, hk1⟩ : ∃ k, k = w.heap.size := ⟨_, rfl⟩
  obtain ⟨X, hX⟩ : ∃ X, X = w.alloc (Obj.cells #[.bool true, .bool true, .bool true, .bool true, .bool true, .bool true, .int .i64 7] 50) := ⟨_, rfl⟩
  rw [← hX, ← hk1]
  have hbX : Below w.heap.size w X := by rw [hX]; exact below_alloc _ _
  have hblk : X.heap[k1]? = some (.cells #[.bool true, .bool true, .bool true, .bool true, .bool true, .bool true, .int .i64 7] 50 (0, 0)) := by rw [hX, hk1]; exact heap_alloc_new w _
  have HBX := Lib.hid hbX
  have HLX := Lib.hid (HW.out.below hbX)
  have HC := Lib.hid (show ∀ W, SV X W → W.cell? ⟨k1, 0, none⟩ = some (.bool true) ∧ W.cell? ⟨k1, 1, none⟩ = some (.bool true) ∧ W.cell? ⟨k1, 2, none⟩ = some (.bool true) ∧ W.cell? ⟨k1, 3, none⟩ = some (.bool true) ∧ W.cell? ⟨k1, 4, none⟩ = some (.bool true) ∧ W.cell? ⟨k1, 5, none⟩ = some (.bool true) ∧ W.cell? ⟨k1, 6, none⟩ = some (.int .i64 7) from fun W h => by
    have hz := blk_below hblk h
    exact ⟨by rw [cellAt hz]; rfl, by rw [cellAt hz]; rfl, by rw [cellAt hz]; rfl, by rw [cellAt hz]; rfl, by rw [cellAt hz]; rfl, by rw [cellAt hz]; rfl, by rw [cellAt hz]; rfl⟩)
  have HWK := Lib.hid (show ∀ W, SV X W → Calls Tryd.prog 27 #[] W fun e W' => e = .returned (.bool true) ∧ SV X W' from fun W h => (works_any W (HLX.out.below h)).mono fun _ _ ⟨h1, h2⟩ => ⟨h1, SV.step h h2⟩)
  have HON := Lib.hid (show ∀ W, SV X W → Calls Tryd.prog 28 #[.slice none 0 0] W fun e W' => e = .returned (.agg #[.bool false, .bool false, .bool false, .bool false, .bool false, .bool false, .int .i64 0]) ∧ SV X W' from fun W h => (lof_any [] _ W ⟨none, 0, rfl, .inl rfl⟩ (by simp) (by simp) (HLX.out.below h)).mono fun _ _ ⟨h1, h2⟩ => ⟨h1, SV.step h h2⟩)
  have HOZ := Lib.hid (show ∀ (z : Int) W, SV X W → Calls Tryd.prog 29 #[.agg #[.int .i64 z, .string { data := #[] }, .slice none 0 0]] W fun e W' => e = .returned (.agg #[.bool false, .bool false, .bool false, .bool false, .bool false, .bool false, .int .i64 0]) ∧ SV X W' from fun z W h => (of_zero z { data := #[] } none 0 0 W (.inr rfl)).mono fun _ _ ⟨h1, h2⟩ => ⟨h1, SV.step h h2⟩)
  have hs0 : SV X X := SV.refl _
  have hc0 := HC.out _ hs0
  clear hX hk1 hbX hblk
  go_region_held3 (fun W => SV X W ∧ W.cell? ⟨k1, 0, none⟩ = some (.bool true) ∧ W.cell? ⟨k1, 1, none⟩ = some (.bool true) ∧ W.cell? ⟨k1, 2, none⟩ = some (.bool true) ∧ W.cell? ⟨k1, 3, none⟩ = some (.bool true) ∧ W.cell? ⟨k1, 4, none⟩ = some (.bool true) ∧ W.cell? ⟨k1, 5, none⟩ = some (.bool true) ∧ W.cell? ⟨k1, 6, none⟩ = some (.int .i64 7))
    (first | exact ⟨by assumption, HC.out _ (by assumption)⟩ | exact ⟨(by (repeat first | assumption | apply SV.drew | apply SV.alloc)), HC.out _ (by (repeat first | assumption | apply SV.drew | apply SV.alloc))⟩)
    (first
      | (go_at_call 27; with_reducible refine (HWK.out _ (by (repeat first | assumption | apply SV.drew | apply SV.alloc))).mono ?_; rintro e1 w8 ⟨rfl, hR⟩)
      | (go_at_call 29; with_reducible refine (HOZ.out _ _ (by (repeat first | assumption | apply SV.drew | apply SV.alloc))).mono ?_; rintro e1 w8 ⟨rfl, hR⟩)
      | (go_at_call 28; with_reducible refine (HON.out _ (by (repeat first | assumption | apply SV.drew | apply SV.alloc))).mono ?_; rintro e1 w8 ⟨rfl, hR⟩)
      | (go_at_call 28; refine (of_lit (R := #[.bool true, .bool true, .bool true, .bool true, .bool true, .bool true, .int .i64 7]) six6 HLX.out (by (repeat first | assumption | apply SV.drew | apply SV.alloc)) (by first | exact heap_at_alloc _ _ | (rw [heap_drew]; exact heap_at_alloc _ _)) rfl rfl (by decide) (by decide) six6_is rfl).mono ?_; rintro e1 w8 ⟨rfl, hR⟩))
  all_goals
    have HR := Lib.hid hR
    clear hR hs0 hc0 HWK HON HOZ
    go_wp2_with fail
    obtain ⟨g, hg⟩ : ∃ g, g = w8.heap.size := ⟨_, rfl⟩
    obtain ⟨Y, hY⟩ : ∃ Y, Y = w8.alloc (Obj.cells #[.string { data := #[] }, .string { data := #[32] }, .string { data := #[83, 84, 65, 82, 84, 84, 76, 83, 32] }, .string { data := #[32, 83, 84, 65, 82, 84, 84, 76, 83] }, .string { data := #[83, 84, 65, 82, 84, 84, 76, 83, 88] }, .string { data := #[83, 73, 90, 69, 32] }, .string { data := #[83, 73, 90, 69, 32, 120] }, .string { data := #[83, 73, 90, 69, 32, 45, 49] }, .string { data := #[83, 73, 90, 69, 32, 49, 32, 50] }, .string { data := #[80, 73, 80, 69, 76, 73, 78, 73, 78, 71, 32, 49] }, .string { data := #[68, 83, 78, 9] }, .string { data := #[56, 66, 73, 84, 77, 73, 77, 69, 61, 49] }, .string { data := #[255] }] 9) := ⟨_, rfl⟩
    rw [← hg, ← hY]
    have HYX := Lib.hid (show SV X Y by rw [hY]; exact HR.out.alloc _)
    have HYB := Lib.hid (show Y.heap[g]? = some (.cells (no13.map sv).toArray 9 (0, 0)) by rw [hY, hg]; exact heap_alloc_new w8 _)
    have HY0 := Lib.hid (SV.refl Y)
    clear hg hY
    go_loopw [3, 35] (fun _ i wr => ∃ k : Nat, k ≤ 13 ∧ i = .int .i64 k ∧ SV Y wr) (fun _ i _ => 13 - (intOf i).toNat)
    case atStart => exact ⟨0, Nat.zero_le _, rfl, HY0.out⟩
    case round =>
      obtain ⟨k, hk, rfl, hy⟩ := hrel
      by_cases hlt : k < 13
      · obtain ⟨x, hx⟩ : ∃ x, x = no13.getD k [] := ⟨_, rfl⟩
        have c1 : wr.cell? ⟨g, k, none⟩ = some (sv x) := by
          rw [cellAt (blk_below HYB.out hy), hx]
          have : no13.length = 13 := rfl
          simp [List.getD_eq_getElem?_getD, List.getElem?_map, List.getElem?_eq_getElem (show k < no13.length by omega)]
        have HXS := Lib.hid (show sayC [x] = cp0 by rw [hx]; exact no13_is k hlt)
        have HXL := Lib.hid (show x.length ≤ 1000000 by rw [hx]; exact no13_len k hlt)
        have HYW := Lib.hid hy
        clear hx hy
        go_wp2_with fail
        refine (of_lit (X := Y) (R := #[.bool false, .bool false, .bool false, .bool false, .bool false, .bool false, .int .i64 0]) [x] (HLX.out.below HYX.out) (HYW.out.alloc _) (heap_at_alloc _ _) rfl rfl (fun y hy => by simp only [List.mem_singleton] at hy; rw [hy]; exact HXL.out) (by simp) HXS.out rfl).mono ?_
        rintro e w9 ⟨rfl, hR9⟩
        have HR9 := Lib.hid hR9
        clear hR9
        go_wp2_with fail
        go_roundw
        case rel => exact ⟨k + 1, by omega, by go_num, HR9.out⟩
        case measure => simp [intOf]; omega
      · obtain rfl : k = 13 := by omega
        rw [show ((13 : Nat) : Int) = 13 from rfl]
        have HV := Lib.hid (show SV X wr from SV.step HYX.out hy)
        clear hy hk hlt
        go_wp2_with fail
        refine (of_lit (X := X) (R := #[.bool false, .bool false, .bool false, .bool false, .bool false, .bool true, .int .i64 5]) zer3 HLX.out (HV.out.alloc _) (heap_at_alloc _ _) rfl rfl (by decide) (by decide) zer3_is rfl).mono ?_
        rintro e v1 ⟨rfl, hR1⟩
        have HV1 := Lib.hid hR1
        clear hR1
        go_wp2_with fail
        refine (of_lit (X := X) (R := #[.bool false, .bool false, .bool false, .bool false, .bool false, .bool true, .int .i64 1099511627776]) [[83, 73, 90, 69, 32, 49, 48, 57, 57, 53, 49, 49, 54, 50, 55, 55, 55, 54]] HLX.out (HV1.out.alloc _) (heap_at_alloc _ _) rfl rfl (by decide) (by decide) top_is rfl).mono ?_
        rintro e v2 ⟨rfl, hR1⟩
        have HV2 := Lib.hid hR1
        clear hR1
        go_wp2_with fail
        refine (of_lit (X := X) (R := #[.bool false, .bool false, .bool false, .bool false, .bool false, .bool true, .int .i64 0]) [[83, 73, 90, 69, 32, 49, 48, 57, 57, 53, 49, 49, 54, 50, 55, 55, 55, 55]] HLX.out (HV2.out.alloc _) (heap_at_alloc _ _) rfl rfl (by decide) (by decide) over_is rfl).mono ?_
        rintro e v3 ⟨rfl, hR1⟩
        have HV3 := Lib.hid hR1
        clear hR1
        go_wp2_with fail
        refine (of_lit (X := X) (R := #[.bool false, .bool false, .bool false, .bool false, .bool false, .bool true, .int .i64 0]) [[83, 73, 90, 69, 32, 57, 57, 57, 57, 57, 57, 57, 57, 57, 57, 57, 57, 57, 57, 57, 57, 57, 57, 57, 57, 57, 57, 57]] HLX.out (HV3.out.alloc _) (heap_at_alloc _ _) rfl rfl (by decide) (by decide) nines_is rfl).mono ?_
        rintro e v4 ⟨rfl, hR1⟩
        have HV4 := Lib.hid hR1
        clear hR1
        go_wp2_with fail
        refine (ofcap_lit (X := X) (R := #[.bool false, .bool false, .bool false, .bool false, .bool false, .bool false, .int .i64 0]) [[97], [68, 83, 78]] 251 HLX.out (HV4.out.alloc _) (heap_at_alloc _ _) rfl rfl (by decide) (by decide) (show ofC 251 _ = cp0 from rfl) rfl).mono ?_
        rintro e v5 ⟨rfl, hR1⟩
        have HV5 := Lib.hid hR1
        clear hR1
        go_wp2_with fail
        refine (ofcap_lit (X := X) (R := #[.bool false, .bool false, .bool false, .bool false, .bool false, .bool false, .int .i64 0]) [[68, 83, 78]] 250 HLX.out (HV5.out.alloc _) (heap_at_alloc _ _) rfl rfl (by decide) (by decide) (show ofC 250 _ = cp0 from rfl) rfl).mono ?_
        rintro e v6 ⟨rfl, hR1⟩
        have hz := HC.out _ hR1
        have HV6 := Lib.hid hR1
        clear hR1
        go_wp2_with fail
        refine (texts_row (X := X) [104] cpAll HLX.out HV6.out (by decide) (by decide) (by decide) rfl want7_is (by decide) rfl).mono ?_
        rintro e v7 ⟨gl, capl, rfl, hR1, hgl, hcl⟩
        have HV7 := Lib.hid hR1
        have HGL := Lib.hid hgl
        have HCL := Lib.hid hcl
        rw [show want7.length = 7 from rfl]
        clear hR1 hgl hcl hz
        go_wp2_with fail
        obtain ⟨gw, hgw⟩ : ∃ g, g = v7.heap.size := ⟨_, rfl⟩
        obtain ⟨V8, hV8⟩ : ∃ Y, Y = v7.alloc (Obj.cells #[.string { data := #[104] }, .string { data := #[80, 73, 80, 69, 76, 73, 78, 73, 78, 71] }, .string { data := #[83, 73, 90, 69, 32, 55] }, .string { data := #[83, 84, 65, 82, 84, 84, 76, 83] }, .string { data := #[82, 69, 81, 85, 73, 82, 69, 84, 76, 83] }, .string { data := #[68, 83, 78] }, .string { data := #[56, 66, 73, 84, 77, 73, 77, 69] }] 9) := ⟨_, rfl⟩
        rw [← hgw, ← hV8]
        have HV8 := Lib.hid (show SV X V8 by rw [hV8]; exact HV7.out.alloc _)
        have HW8 := Lib.hid (show V8.heap[gw]? = some (.cells (want7.map sv).toArray 9 (0, 0)) by rw [hV8, hgw]; exact heap_alloc_new v7 _)
        have HL8 := Lib.hid (show gl < V8.heap.size ∧ ∀ k, ∀ hk : k < want7.length, V8.cell? ⟨gl, k, none⟩ = some (sv want7[k]) from
          ⟨by have := HGL.out; rw [hV8]; simp; omega, fun k hk => by rw [hV8]; exact ((below_alloc v7 _).cell (p := ⟨gl, k, none⟩) HGL.out).trans (HCL.out k hk)⟩)
        have H80 := Lib.hid (SV.refl V8)
        clear hgw hV8
        go_loopw [6] (fun i wr => ∃ k : Nat, k ≤ 7 ∧ i = .int .i64 k ∧ SV V8 wr) (fun i _ => 7 - (intOf i).toNat)
        case atStart => exact ⟨0, Nat.zero_le _, rfl, H80.out⟩
        case round =>
          obtain ⟨k, hk, rfl, hy⟩ := hrel
          by_cases hlt : k < 7
          · obtain ⟨x, hx⟩ : ∃ x, x = want7[k]'hlt := ⟨_, rfl⟩
            have c1 : wr.cell? ⟨gw, k, none⟩ = some (sv x) := by
              rw [cellAt (blk_below HW8.out hy), hx]
              simp [List.getElem?_map, List.getElem?_eq_getElem (show k < want7.length from hlt)]
              rfl
            have c2 : wr.cell? ⟨gl, k, none⟩ = some (sv x) := by
              rw [hx]
              exact (Below.cell hy (p := ⟨gl, k, none⟩) HL8.out.1).trans (HL8.out.2 k hlt)
            have HYW := Lib.hid hy
            clear hx hy
            go_wp2_with fail
            go_quiet (fail)
            all_goals (try go_wp2_with fail)
            exact ⟨⟨k + 1, by omega, by go_num, HYW.out.step (below_drewN (Below.refl _ _) _)⟩, by simp [intOf]; omega⟩
          · obtain rfl : k = 7 := by omega
            rw [show ((7 : Nat) : Int) = 7 from rfl]
            have HV9 := Lib.hid (show SV X wr from SV.step HV8.out hy)
            clear hy hk hlt
            go_wp2_with fail
            refine (texts_row (X := X) [] ⟨false, false, false, false, false, false, 5⟩ HLX.out HV9.out (by decide) (by decide) (by decide) rfl one_is (by decide) rfl).mono ?_
            rintro e u1 ⟨g1, cap1, rfl, hR1, hg1, hc1⟩
            have HU1 := Lib.hid hR1
            clear hR1 hc1
            go_wp2_with fail
            refine (texts_row (X := X) [] ⟨false, false, false, false, false, true, -5⟩ HLX.out HU1.out (by decide) (by decide) (by decide) rfl two_is (by decide) rfl).mono ?_
            rintro e u2 ⟨g2, cap2, rfl, hR1, hg2, hc2⟩
            have HU2 := Lib.hid hR1
            have d2 : u2.cell? ⟨g2, 1, none⟩ = some (sv wSZ) := hc2 1 (by decide)
            clear hR1 hc2 hg1 hg2
            go_wp2_with fail
            refine (texts_row (X := X) [] ⟨false, false, false, false, false, true, 1099511627777⟩ HLX.out HU2.out (by decide) (by decide) (by decide) rfl two_is2 (by decide) rfl).mono ?_
            rintro e u3 ⟨g3, cap3, rfl, hR1, hg3, hc3⟩
            have HU3 := Lib.hid hR1
            have d3 : u3.cell? ⟨g3, 1, none⟩ = some (sv wSZ) := hc3 1 (by decide)
            clear hR1 hc3 hg3 d2
            go_wp2_with fail
            have hu := union_any ⟨false, false, false, true, false, false, 3⟩ ⟨false, false, false, false, false, true, 4⟩ u3
            rw [uni_is] at hu
            have HUU := Lib.hid hu
            clear hu
            refine (HUU.out).mono ?_
            rintro e u4 ⟨rfl, hb⟩
            have HB4 := Lib.hid (HBX.out.trans (Below.mono (SV.step HU3.out hb) HBX.out.size))
            clear hb
            unfold ofV cpL
            go_wp2_with fail
            go_ret
            exact ⟨rfl, HB4.out⟩
end Go.Proofs.YtanfonpbnamjmaaDoor
