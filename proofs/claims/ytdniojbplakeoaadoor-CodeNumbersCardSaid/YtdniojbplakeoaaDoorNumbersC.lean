/-
  The walk of CodeNumbers.
-/
import Derived.Test.YtdniojbplakeoaaDoorOne
namespace Go.Proofs.YtdniojbplakeoaaDoor
open Go Go.RowKit
set_option maxRecDepth 100000

theorem codeNumbers_long (n : Int) (s : List UInt8) (most : Int) (w : World) (hs : s.length ≤ 140737488351232) (hl : 9000 ≤ minSum [s]) (hw : LW w) :
    Calls Tryd.prog 5 #[.int .i64 n, .string (str s), .int .i64 most] w fun e w' => e = .returned (.bool true) ∧ Below w.heap.size w w' := by
  have B0 := BL.start hw
  have HLL := Lib.hid (fun (W : World) (h : BL w W) => bl_long_one s W hs h)
  rw [decide_eq_true hl] at HLL
  clear hw hl
  go_enter Tryd.func5, Tryd.ntmps5
  go_wp2_with fail
  refine (HLL.out w B0).mono ?_
  rintro e w1 ⟨rfl, B1⟩
  go_wp2_with fail
  refine (bl_works B1).mono ?_
  rintro e w2 ⟨rfl, B2⟩
  go_wp2
  go_ret
  exact ⟨rfl, B2.below⟩

set_option maxHeartbeats 2000000 in
theorem codeNumbers_short (n : Int) (s : List UInt8) (most : Int) (w : World) (hl : minSum [s] < 9000) (h0 : -9223372036854775808 ≤ n) (h1 : n ≤ 9223372036854775807) (m0 : -9223372036854775808 ≤ most) (m1 : most ≤ 9223372036854775807) (hw : LW w) :
    Calls Tryd.prog 5 #[.int .i64 n, .string (str s), .int .i64 most] w fun e w' => e = .returned (.bool true) ∧ Below w.heap.size w w' := by
  have hsum : min s.length 9000 + 0 < 9000 := hl
  have hs : s.length < 9000 := by omega
  have B0 := BL.start hw
  have HLL := Lib.hid (fun (W : World) (h : BL w W) => bl_long_one s W (by omega) h)
  rw [decide_eq_false (by omega)] at HLL
  have hil : (Lib.itoa n).length ≤ 21 := Lib.itoa_length_le n h0 h1
  have HS1 := Lib.hid (fun (W : World) (h : BL w W) => bl_show n h0 h1 h)
  have HS2 := Lib.hid (fun (W : World) (h : BL w W) => bl (rshow_any n W h0 h1) h)
  have h48 : ({ data := #[48] } : ByteArray) ++ str s = str (48 :: s) := str_append [48] s
  obtain ⟨x3, hx3⟩ : ∃ x, x = Lib.itoa n := ⟨_, rfl⟩
  rw [← hx3] at hil HS1 HS2
  have HX := Lib.hid (show ∀ x ∈ [s, x3, 48 :: s], x.length ≤ 100000 by
    intro x hx
    simp only [List.mem_cons, List.not_mem_nil, or_false] at hx
    rcases hx with rfl | rfl | rfl
    · omega
    · omega
    · simp; omega)
  clear hx3 hw hl hsum hil
  go_enter Tryd.func5, Tryd.ntmps5
  go_wp2_with fail
  refine (HLL.out w B0).mono ?_
  rintro e w1 ⟨rfl, B1⟩
  go_wp2_with fail
  refine (HS1.out w1 B1).mono ?_
  rintro e w3 ⟨rfl, B3⟩
  go_wp2_with fail
  rw [show w3.alloc (.cells #[.string (str s), sv x3, .string (str (48 :: s))] 9) = w3.alloc (.cells ([s, x3, 48 :: s].map sv).toArray 9) from rfl]
  obtain ⟨L, hL⟩ : ∃ L, L = [s, x3, 48 :: s] := ⟨_, rfl⟩
  have hLn : L.length = 3 := by rw [hL]; rfl
  rw [← hL] at HX ⊢
  obtain ⟨wa1, hwa⟩ : ∃ wa, wa = w3.alloc (.cells (L.map sv).toArray 9) := ⟨_, rfl⟩
  rw [← hwa]
  obtain ⟨g1, hg⟩ : ∃ g, g = w3.heap.size := ⟨_, rfl⟩
  rw [← hg]
  have BA : BL w wa1 := by rw [hwa]; exact B3.alloc _
  have HG := Lib.hid (show wa1.heap[g1]? = some (.cells (L.map sv).toArray 9 (0, 0)) by rw [hwa, hg]; exact heap_alloc_new _ _)
  clear hwa hg hL h48
  go_loopw [8] (fun i wr => ∃ k : Nat, k ≤ 3 ∧ i = .int .i64 k ∧ wr.heap[g1]? = some (.cells (L.map sv).toArray 9 (0, 0)) ∧ BL w wr) (fun i _ => 3 - (intOf i).toNat)
  case atStart => exact ⟨0, by omega, rfl, HG.out, BA⟩
  case round =>
    obtain ⟨k, hk, rfl, hr, hb⟩ := hrel
    have HR := Lib.hid hr
    clear hr
    by_cases hlt : k < 3
    · have hc := rowc HR.out (k := k) (by omega)
      have hx := HX.out _ (rowm (xs := L) (k := k) (by omega))
      obtain ⟨x, hxx⟩ : ∃ x, x = L.getD k [] := ⟨_, rfl⟩
      rw [← hxx] at hc hx
      obtain ⟨a, ha⟩ : ∃ a, a = (numR x most).1 := ⟨_, rfl⟩
      obtain ⟨b, hbb⟩ : ∃ b, b = (numR x most).2 := ⟨_, rfl⟩
      have HN1 := Lib.hid (fun (W : World) (h : BL w W) => bk (num_any x most W (by omega) m0 m1 h.lw) h)
      have HN2 := Lib.hid (fun (W : World) (h : BL w W) => bk (of_same (rnum_any x most W (by omega) m0 m1)) h)
      unfold numV at HN1 HN2
      rw [← ha, ← hbb] at HN1 HN2
      clear hx hxx ha hbb
      go_wp2_with fail
      refine (HN1.out _ hb).mono ?_
      rintro e w4 ⟨rfl, hb4, hkk⟩
      have HR2 := Lib.hid (show w4.heap[g1]? = some (.cells (L.map sv).toArray 9 (0, 0)) from (hkk _ (rowl HR.out)).trans HR.out)
      have hc4 : w4.cell? ⟨g1, k, none⟩ = some (.string (str x)) := by rw [← World.cell?_of_block (hkk g1 (rowl HR.out))] at hc; exact hc
      clear hkk hc
      go_wp2_with fail
      refine (HN2.out _ hb4).mono ?_
      rintro e w5 ⟨rfl, hb5, hkk⟩
      have HR3 := Lib.hid (show w5.heap[g1]? = some (.cells (L.map sv).toArray 9 (0, 0)) from (hkk _ (rowl HR2.out)).trans HR2.out)
      clear hkk hc4
      go_wp2
      go_roundw
      case rel => exact ⟨k + 1, by omega, by go_num, HR3.out, hb5⟩
      case measure => simp [intOf]; omega
    · obtain rfl : k = 3 := by omega
      go_wp2_with fail
      refine (HS1.out _ hb).mono ?_
      rintro e v1 ⟨rfl, C1⟩
      go_wp2_with fail
      refine (HS2.out _ C1).mono ?_
      rintro e v2 ⟨rfl, C2⟩
      go_wp2_with fail
      refine (bl_works C2).mono ?_
      rintro e v3 ⟨rfl, C3⟩
      go_wp2
      go_ret
      exact ⟨rfl, C3.below⟩
end Go.Proofs.YtdniojbplakeoaaDoor
