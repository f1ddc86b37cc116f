/-
  The walk of CodeNames.
-/
import Derived.Test.YtdniojbplakeoaaDoorCarry
namespace Go.Proofs.YtdniojbplakeoaaDoor
open Go Go.RowKit
set_option maxRecDepth 100000

theorem n_sum : sumP [97, 98, 99, 100, 98, 99, 100, 101, 99, 100, 101, 102, 100, 101, 102, 103, 101, 102, 103, 104, 102, 103, 104, 105, 103, 104, 105, 106, 104, 105, 106, 107, 105, 106, 107, 108, 106, 107, 108, 109, 107, 108, 109, 110, 108, 109, 110, 111, 109, 110, 111, 112, 110, 111, 112, 113] = [36, 141, 106, 97, 210, 6, 56, 184, 229, 192, 38, 147, 12, 62, 96, 57, 163, 60, 228, 89, 100, 255, 33, 103, 246, 236, 237, 212, 25, 219, 6, 193] := by decide +kernel
theorem n_hex : hexL [36, 141, 106, 97, 210, 6, 56, 184, 229, 192, 38, 147, 12, 62, 96, 57, 163, 60, 228, 89, 100, 255, 33, 103, 246, 236, 237, 212, 25, 219, 6, 193] = [50, 52, 56, 100, 54, 97, 54, 49, 100, 50, 48, 54, 51, 56, 98, 56, 101, 53, 99, 48, 50, 54, 57, 51, 48, 99, 51, 101, 54, 48, 51, 57, 97, 51, 51, 99, 101, 52, 53, 57, 54, 52, 102, 102, 50, 49, 54, 55, 102, 54, 101, 99, 101, 100, 100, 52, 49, 57, 100, 98, 48, 54, 99, 49] := by decide +kernel
def unL : List (List UInt8) := [[48], [48, 103], [65, 66], [97, 98, 99], [48, 120], [32, 48], [255, 255]]
def ubL : List (List UInt8) := [[89], [89, 81], [89, 81, 61], [89, 81, 61, 61, 61], [61, 61, 61, 61], [89, 61, 61, 61], [89, 81, 61, 61, 89, 81, 61, 61], [89, 87, 74, 106, 61], [89, 87, 61, 106], [89, 32, 81, 61, 61], [45, 95, 45, 95], [89, 87, 74, 106, 89], [89, 87, 70, 61], [255, 81, 61, 61]]
def nuL : List (List UInt8) := [[], [45, 49], [43, 49], [48, 48], [32, 49], [49, 32], [49, 95, 48], [48, 120, 49], [255]]
theorem un_all : ∀ x ∈ unL, unhexL x = none ∧ x.length ≤ 100000 := by decide +kernel
theorem ub_all : ∀ x ∈ ubL, unb64L x = none ∧ x.length ≤ 100000 := by decide +kernel
theorem nu_all : ∀ x ∈ nuL, numR x 1099511627776 = (0, 4) ∧ x.length ≤ 100000 := by decide +kernel
theorem n_num0 : numR [57, 50, 50, 51, 51, 55, 50, 48, 51, 54, 56, 53, 52, 55, 55, 53, 56, 48, 55] 9223372036854775807 = (9223372036854775807, 0) := by decide +kernel
theorem n_num1 : numR [57, 50, 50, 51, 51, 55, 50, 48, 51, 54, 56, 53, 52, 55, 55, 53, 56, 48, 56] 9223372036854775807 = (0, 40) := by decide +kernel
theorem n_num2 : numR [57, 57, 57, 57, 57, 57, 57, 57, 57, 57, 57, 57, 57, 57, 57, 57, 57, 57, 57, 57, 57, 57, 57] 9223372036854775807 = (0, 40) := by decide +kernel
theorem n_num3 : numR [48] (-1) = (0, 40) := by decide +kernel
theorem n_num4 : numR [48] 0 = (0, 0) := by decide +kernel
theorem n_num5 : numR [49] 0 = (0, 40) := by decide +kernel
theorem n_ub : unb64L [] = some [] := by decide +kernel
theorem n_un : unhexL [] = some [] := by decide +kernel
theorem dec_max : Lib.decDigits 9223372036854775807 = [57, 50, 50, 51, 51, 55, 50, 48, 51, 54, 56, 53, 52, 55, 55, 53, 56, 48, 55] := by
  have h := dec_val (s := [57, 50, 50, 51, 51, 55, 50, 48, 51, 54, 56, 53, 52, 55, 55, 53, 56, 48, 55]) (by decide +kernel)
  rwa [show valR [57, 50, 50, 51, 51, 55, 50, 48, 51, 54, 56, 53, 52, 55, 55, 53, 56, 48, 55] = 9223372036854775807 by decide +kernel] at h
theorem dec_min : Lib.decDigits 9223372036854775808 = [57, 50, 50, 51, 51, 55, 50, 48, 51, 54, 56, 53, 52, 55, 55, 53, 56, 48, 56] := by
  have h := dec_val (s := [57, 50, 50, 51, 51, 55, 50, 48, 51, 54, 56, 53, 52, 55, 55, 53, 56, 48, 56]) (by decide +kernel)
  rwa [show valR [57, 50, 50, 51, 51, 55, 50, 48, 51, 54, 56, 53, 52, 55, 55, 53, 56, 48, 56] = 9223372036854775808 by decide +kernel] at h
theorem n_show1 : Lib.itoa 9223372036854775807 = [57, 50, 50, 51, 51, 55, 50, 48, 51, 54, 56, 53, 52, 55, 55, 53, 56, 48, 55] := by
  unfold Lib.itoa
  rw [if_neg (by decide)]
  exact dec_max
theorem n_show2 : Lib.itoa (-9223372036854775808) = [45, 57, 50, 50, 51, 51, 55, 50, 48, 51, 54, 56, 53, 52, 55, 55, 53, 56, 48, 56] := by
  unfold Lib.itoa
  rw [if_pos (by decide)]
  exact congrArg (45 :: ·) dec_min
theorem n_show3 : Lib.itoa 0 = [48] := by
  unfold Lib.itoa
  rw [if_neg (by decide)]
  have h := dec_val (s := [48]) (by decide +kernel)
  rwa [show valR [48] = 0 by decide +kernel] at h
theorem n_b1 : b64L [97, 98] = [89, 87, 73, 61] := by decide +kernel
theorem n_b2 : b64L [255, 255, 254] = [47, 47, 47, 43] := by decide +kernel

/-- The same, with what lies below kept. -/
theorem blk {w0 w : World} {f : Nat} {args : Array Value} {v : Value} (h : Calls Tryd.prog f args w fun e w' => e = .returned v ∧ Below w.heap.size w w') (hb : BL w0 w) :
    Calls Tryd.prog f args w fun e w' => e = .returned v ∧ (BL w0 w' ∧ ∀ g, g < w.heap.size → w'.heap[g]? = w.heap[g]?) := h.mono fun _ _ ⟨he, h⟩ => ⟨he, hb.step h, fun g hg => h.block g hg⟩

/-- A literal of texts, in a world behind. -/
theorem lit_cell {w : World} {g k : Nat} {xs : List (List UInt8)} (h : w.heap[g]? = some (.cells (xs.map sv).toArray 9 (0, 0))) (hk : k < xs.length) : w.cell? ⟨g, k, none⟩ = some (sv (xs.getD k [])) := by
  rw [cellAt h]
  simp [List.getD_eq_getElem?_getD, hk]
theorem getD_mem {xs : List (List UInt8)} {k : Nat} (hk : k < xs.length) : xs.getD k [] ∈ xs := by
  rw [List.getD_eq_getElem?_getD, List.getElem?_eq_getElem hk]
  exact List.getElem_mem hk

set_option maxHeartbeats 4000000 in
theorem codeNames_walk (w : World) (hw : LW w) : Calls Tryd.prog 3 #[] w fun e w' => e = .returned (.bool true) ∧ Below w.heap.size w w' := by
  have B0 := BL.start hw
  clear hw
  go_enter Tryd.func3, Tryd.ntmps3
  go_wp2_with fail
  refine (bl_works B0).mono ?_
  rintro e w1 ⟨rfl, B1⟩
  go_wp2_with fail
  refine (bl_sum_of n_sum (by decide) B1).mono ?_
  rintro e w2 ⟨rfl, B2⟩
  go_wp2_with fail
  refine (bl_hex_of n_hex (by decide) B2).mono ?_
  rintro e w3 ⟨rfl, B3⟩
  go_wp2_with fail
  have hw' : w3.alloc (.cells #[.string { data := #[48] }, .string { data := #[48, 103] }, .string { data := #[65, 66] }, .string { data := #[97, 98, 99] }, .string { data := #[48, 120] }, .string { data := #[32, 48] }, .string { data := #[255, 255] }] 9) = w3.alloc (.cells (unL.map sv).toArray 9) := rfl
  rw [hw']
  obtain ⟨wa1, hwa⟩ : ∃ wa, wa = w3.alloc (.cells (unL.map sv).toArray 9) := ⟨_, rfl⟩
  rw [← hwa]
  obtain ⟨g1, hg⟩ : ∃ g, g = w3.heap.size := ⟨_, rfl⟩
  rw [← hg]
  have BA : BL w wa1 := by rw [hwa]; exact B3.alloc _
  have HG := Lib.hid (show wa1.heap[g1]? = some (.cells (unL.map sv).toArray 9 (0, 0)) by rw [hwa, hg]; exact heap_alloc_new _ _)
  clear hw' hwa hg
  skip
  go_loopw [38] (fun i wr => ∃ k : Nat, k ≤ 7 ∧ i = .int .i64 k ∧ wr.heap[g1]? = some (.cells (unL.map sv).toArray 9 (0, 0)) ∧ BL w wr) (fun i _ => 7 - (intOf i).toNat)
  case atStart => exact ⟨0, by omega, rfl, HG.out, BA⟩
  case round =>
    obtain ⟨k, hk, rfl, hr, hb⟩ := hrel
    have HR := Lib.hid hr
    clear hr
    by_cases hlt : k < 7
    · have hc := lit_cell HR.out (k := k) (by exact hlt)
      have hx := un_all _ (getD_mem (xs := unL) (k := k) (by exact hlt))
      obtain ⟨x, hxx⟩ : ∃ x, x = unL.getD k [] := ⟨_, rfl⟩
      rw [← hxx] at hc hx
      have HX := Lib.hid hx
      clear hx hxx
      go_wp2_with fail
      refine (blk (unhex_none HX.out.1 HX.out.2 _) hb).mono ?_
      rintro e w2 ⟨rfl, hbb, hkk⟩
      have HR2 := Lib.hid (show w2.heap[g1]? = some (.cells (unL.map sv).toArray 9 (0, 0)) from (hkk _ (lt_of_blk HR.out)).trans HR.out)
      clear hkk hc
      go_wp2
      go_roundw
      case rel => exact ⟨k + 1, by omega, by go_num, HR2.out, hbb⟩
      case measure => simp [intOf]; omega
    · obtain rfl : k = 7 := by omega
      obtain ⟨wz1, hwz⟩ : ∃ wz, wz = wr := ⟨_, rfl⟩
      rw [← hwz] at hb ⊢
      have Bz1 := hb
      clear hb hwz
      go_wp2_with fail
      have hw' : wz1.alloc (.cells #[.string { data := #[89] }, .string { data := #[89, 81] }, .string { data := #[89, 81, 61] }, .string { data := #[89, 81, 61, 61, 61] }, .string { data := #[61, 61, 61, 61] }, .string { data := #[89, 61, 61, 61] }, .string { data := #[89, 81, 61, 61, 89, 81, 61, 61] }, .string { data := #[89, 87, 74, 106, 61] }, .string { data := #[89, 87, 61, 106] }, .string { data := #[89, 32, 81, 61, 61] }, .string { data := #[45, 95, 45, 95] }, .string { data := #[89, 87, 74, 106, 89] }, .string { data := #[89, 87, 70, 61] }, .string { data := #[255, 81, 61, 61] }] 9) = wz1.alloc (.cells (ubL.map sv).toArray 9) := rfl
      rw [hw']
      obtain ⟨wa2, hwa⟩ : ∃ wa, wa = wz1.alloc (.cells (ubL.map sv).toArray 9) := ⟨_, rfl⟩
      rw [← hwa]
      obtain ⟨g2, hg⟩ : ∃ g, g = wz1.heap.size := ⟨_, rfl⟩
      rw [← hg]
      have BA : BL w wa2 := by rw [hwa]; exact Bz1.alloc _
      have HG := Lib.hid (show wa2.heap[g2]? = some (.cells (ubL.map sv).toArray 9 (0, 0)) by rw [hwa, hg]; exact heap_alloc_new _ _)
      clear hw' hwa hg
      rw [show (((7 : Nat)) : Int) = 7 from rfl]
      go_loopw [56] (fun i wr => ∃ k : Nat, k ≤ 14 ∧ i = .int .i64 k ∧ wr.heap[g2]? = some (.cells (ubL.map sv).toArray 9 (0, 0)) ∧ BL w wr) (fun i _ => 14 - (intOf i).toNat)
      case atStart => exact ⟨0, by omega, rfl, HG.out, BA⟩
      case round =>
        obtain ⟨k, hk, rfl, hr, hb⟩ := hrel
        have HR := Lib.hid hr
        clear hr
        by_cases hlt : k < 14
        · have hc := lit_cell HR.out (k := k) (by exact hlt)
          have hx := ub_all _ (getD_mem (xs := ubL) (k := k) (by exact hlt))
          obtain ⟨x, hxx⟩ : ∃ x, x = ubL.getD k [] := ⟨_, rfl⟩
          rw [← hxx] at hc hx
          have HX := Lib.hid hx
          clear hx hxx
          go_wp2_with fail
          refine (blk (unbase_none HX.out.1 HX.out.2 _) hb).mono ?_
          rintro e w2 ⟨rfl, hbb, hkk⟩
          have HR2 := Lib.hid (show w2.heap[g2]? = some (.cells (ubL.map sv).toArray 9 (0, 0)) from (hkk _ (lt_of_blk HR.out)).trans HR.out)
          clear hkk hc
          go_wp2
          go_roundw
          case rel => exact ⟨k + 1, by omega, by go_num, HR2.out, hbb⟩
          case measure => simp [intOf]; omega
        · obtain rfl : k = 14 := by omega
          obtain ⟨wz2, hwz⟩ : ∃ wz, wz = wr := ⟨_, rfl⟩
          rw [← hwz] at hb ⊢
          have Bz2 := hb
          clear hb hwz
          go_wp2_with fail
          have hw' : wz2.alloc (.cells #[.string { data := #[] }, .string { data := #[45, 49] }, .string { data := #[43, 49] }, .string { data := #[48, 48] }, .string { data := #[32, 49] }, .string { data := #[49, 32] }, .string { data := #[49, 95, 48] }, .string { data := #[48, 120, 49] }, .string { data := #[255] }] 9) = wz2.alloc (.cells (nuL.map sv).toArray 9) := rfl
          rw [hw']
          obtain ⟨wa3, hwa⟩ : ∃ wa, wa = wz2.alloc (.cells (nuL.map sv).toArray 9) := ⟨_, rfl⟩
          rw [← hwa]
          obtain ⟨g3, hg⟩ : ∃ g, g = wz2.heap.size := ⟨_, rfl⟩
          rw [← hg]
          have BA : BL w wa3 := by rw [hwa]; exact Bz2.alloc _
          have HG := Lib.hid (show wa3.heap[g3]? = some (.cells (nuL.map sv).toArray 9 (0, 0)) by rw [hwa, hg]; exact heap_alloc_new _ _)
          clear hw' hwa hg
          rw [show (((14 : Nat)) : Int) = 14 from rfl]
          go_loopw [74] (fun i wr => ∃ k : Nat, k ≤ 9 ∧ i = .int .i64 k ∧ wr.heap[g3]? = some (.cells (nuL.map sv).toArray 9 (0, 0)) ∧ BL w wr) (fun i _ => 9 - (intOf i).toNat)
          case atStart => exact ⟨0, by omega, rfl, HG.out, BA⟩
          case round =>
            obtain ⟨k, hk, rfl, hr, hb⟩ := hrel
            have HR := Lib.hid hr
            clear hr
            by_cases hlt : k < 9
            · have hc := lit_cell HR.out (k := k) (by exact hlt)
              have hx := nu_all _ (getD_mem (xs := nuL) (k := k) (by exact hlt))
              obtain ⟨x, hxx⟩ : ∃ x, x = nuL.getD k [] := ⟨_, rfl⟩
              rw [← hxx] at hc hx
              have HX := Lib.hid hx
              clear hx hxx
              go_wp2_with fail
              refine (blk (num_of HX.out.1 HX.out.2 (by decide) (by decide) _ hb.lw) hb).mono ?_
              rintro e w2 ⟨rfl, hbb, hkk⟩
              have HR2 := Lib.hid (show w2.heap[g3]? = some (.cells (nuL.map sv).toArray 9 (0, 0)) from (hkk _ (lt_of_blk HR.out)).trans HR.out)
              clear hkk hc
              go_wp2
              go_roundw
              case rel => exact ⟨k + 1, by omega, by go_num, HR2.out, hbb⟩
              case measure => simp [intOf]; omega
            · obtain rfl : k = 9 := by omega
              obtain ⟨wz3, hwz⟩ : ∃ wz, wz = wr := ⟨_, rfl⟩
              rw [← hwz] at hb ⊢
              have Bz3 := hb
              clear hb hwz
              go_wp2_with fail
              refine (bl_num_of n_num0 (by decide) (by decide) (by decide) Bz3).mono ?_
              rintro e v0 ⟨rfl, C0⟩
              go_wp2_with fail
              refine (bl_num_of n_num1 (by decide) (by decide) (by decide) C0).mono ?_
              rintro e v1 ⟨rfl, C1⟩
              go_wp2_with fail
              refine (bl_num_of n_num2 (by decide) (by decide) (by decide) C1).mono ?_
              rintro e v2 ⟨rfl, C2⟩
              go_wp2_with fail
              refine (bl_num_of n_num3 (by decide) (by decide) (by decide) C2).mono ?_
              rintro e v3 ⟨rfl, C3⟩
              go_wp2_with fail
              refine (bl_num_of n_num4 (by decide) (by decide) (by decide) C3).mono ?_
              rintro e v4 ⟨rfl, C4⟩
              go_wp2_with fail
              refine (bl_num_of n_num5 (by decide) (by decide) (by decide) C4).mono ?_
              rintro e v5 ⟨rfl, C5⟩
              go_wp2_with fail
              refine (bl_unbase_of n_ub (by decide) C5).mono ?_
              rintro e v6 ⟨rfl, C6⟩
              unfold resO
              go_wp2_with fail
              refine (bl_unhex_of n_un (by decide) C6).mono ?_
              rintro e v7 ⟨rfl, C7⟩
              unfold resO
              go_wp2_with fail
              refine (bl_show_of n_show1 (by decide) (by decide) C7).mono ?_
              rintro e v8 ⟨rfl, C8⟩
              go_wp2_with fail
              refine (bl_show_of n_show2 (by decide) (by decide) C8).mono ?_
              rintro e v9 ⟨rfl, C9⟩
              go_wp2_with fail
              refine (bl_show_of n_show3 (by decide) (by decide) C9).mono ?_
              rintro e v10 ⟨rfl, C10⟩
              go_wp2_with fail
              refine (bl_base_of n_b1 (by decide) C10).mono ?_
              rintro e v11 ⟨rfl, C11⟩
              go_wp2_with fail
              refine (bl_base_of n_b2 (by decide) C11).mono ?_
              rintro e v12 ⟨rfl, C12⟩
              have HF := Lib.hid C12.below
              go_wp2
              go_ret
              exact ⟨rfl, HF.out⟩
end Go.Proofs.YtdniojbplakeoaaDoor
