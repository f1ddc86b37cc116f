/-
  The walk of CodeTells.
-/
import Derived.Deep.RegionWith
import Derived.Deep.CutRange
import Derived.Test.YtdniojbplakeoaaDoorRUnbase
namespace Go.Proofs.YtdniojbplakeoaaDoor
open Go Go.RowKit
set_option maxRecDepth 100000

theorem codeTells_long (s : List UInt8) (w : World) (hs : s.length ≤ 140737488351232) (hl : 9000 ≤ minSum [s]) (hw : LW w) :
    Calls Tryd.prog 4 #[.string (str s)] w fun e w' => e = .returned (.bool true) ∧ Below w.heap.size w w' := by
  have B0 := BL.start hw
  have HLL := Lib.hid (fun (W : World) (h : BL w W) => bl_long_one s W hs h)
  rw [decide_eq_true hl] at HLL
  clear hw hl
  go_enter Tryd.func4, Tryd.ntmps4
  go_wp2_with fail
  refine (HLL.out w B0).mono ?_
  rintro e w1 ⟨rfl, B1⟩
  go_wp2_with fail
  refine (bl_works B1).mono ?_
  rintro e w2 ⟨rfl, B2⟩
  go_wp2
  go_ret
  exact ⟨rfl, B2.below⟩

/-- A row of texts lies there still. -/
def RB (w : World) (g : Nat) (L : List (List UInt8)) (W : World) : Prop := BL w W ∧ W.heap[g]? = some (.cells (L.map sv).toArray 9 (0, 0))
theorem RB.drew {w W : World} {g : Nat} {L : List (List UInt8)} (h : RB w g L W) : RB w g L W.drew := ⟨h.1.drew, h.2⟩
theorem rb {w W : World} {g : Nat} {L : List (List UInt8)} {f : Nat} {args : Array Value} {v : Value} (h : Calls Tryd.prog f args W fun e w' => e = .returned v ∧ Below W.heap.size W w') (hb : RB w g L W) :
    Calls Tryd.prog f args W fun e w' => e = .returned v ∧ RB w g L w' := h.mono fun _ _ ⟨he, h⟩ => ⟨he, hb.1.step h, (h.block g (rowl hb.2)).trans hb.2⟩
theorem RB.cell {w W : World} {g : Nat} {L : List (List UInt8)} (h : RB w g L W) {k : Nat} {x : List UInt8} (hk : k < L.length) (hx : L.getD k [] = x) : W.cell? ⟨g, k, none⟩ = some (.string (str x)) := by rw [← hx]; exact rowc h.2 hk

theorem res_pair (r : Option (List UInt8)) : ∃ (a : List UInt8) (e : Int), resO r = .tuple #[.string (str a), .int .i64 e] := by
  cases r with
  | none => exact ⟨[], 4, rfl⟩
  | some x => exact ⟨x, 0, rfl⟩

set_option maxHeartbeats 4000000 in
theorem codeTells_short (s : List UInt8) (w : World) (hl : minSum [s] < 9000) (hw : LW w) :
    Calls Tryd.prog 4 #[.string (str s)] w fun e w' => e = .returned (.bool true) ∧ Below w.heap.size w w' := by
  have hsum : min s.length 9000 + 0 < 9000 := hl
  have hs : s.length < 9000 := by omega
  have B0 := BL.start hw
  have HLL := Lib.hid (fun (W : World) (h : BL w W) => bl_long_one s W (by omega) h)
  rw [decide_eq_false (by omega)] at HLL
  have HS1 := Lib.hid (fun (W : World) (h : BL w W) => bl_hex s (by omega) h)
  have HS2 := Lib.hid (fun (W : World) (h : BL w W) => bl_base s (by omega) h)
  have HR1 := fun (g : Nat) (L : List (List UInt8)) (W : World) (h : RB w g L W) => rb (rhex_any s W (by omega)) h
  have HR2 := fun (g : Nat) (L : List (List UInt8)) (W : World) (h : RB w g L W) => rb (rbase_any s W (by omega)) h
  have hxl : (hexL s).length ≤ 100000 := by rw [hex_length]; omega
  have hyl : (b64L s).length ≤ 100000 := by rw [b64_length]; omega
  obtain ⟨x, hx⟩ : ∃ x, x = hexL s := ⟨_, rfl⟩
  obtain ⟨y, hy⟩ : ∃ y, y = b64L s := ⟨_, rfl⟩
  rw [← hx] at HS1 HR1 hxl
  rw [← hy] at HS2 HR2 hyl
  have HX := Lib.hid (show ∀ t ∈ [s, x, y], t.length ≤ 100000 by
    intro t ht
    simp only [List.mem_cons, List.not_mem_nil, or_false] at ht
    rcases ht with rfl | rfl | rfl
    · omega
    · exact hxl
    · exact hyl)
  clear hx hy hw hl hsum hxl hyl
  go_enter Tryd.func4, Tryd.ntmps4
  go_wp2_with fail
  refine (HLL.out w B0).mono ?_
  rintro e w1 ⟨rfl, B1⟩
  go_wp2_with fail
  refine (HS1.out w1 B1).mono ?_
  rintro e w2 ⟨rfl, B2⟩
  go_wp2_with fail
  refine (HS2.out w2 B2).mono ?_
  rintro e w3 ⟨rfl, B3⟩
  go_upto_region 4 with (fail)
  rw [show w3.alloc (.cells #[.string (str s), sv x, sv y] 9) = w3.alloc (.cells ([s, x, y].map sv).toArray 9) from rfl]
  obtain ⟨L, hL⟩ : ∃ L, L = [s, x, y] := ⟨_, rfl⟩
  have hLn : L.length = 3 := by rw [hL]; rfl
  have hL1 : L.getD 1 [] = x := by rw [hL]; rfl
  have hL2 : L.getD 2 [] = y := by rw [hL]; rfl
  rw [← hL] at HX ⊢
  obtain ⟨wa, hwa⟩ : ∃ wa, wa = w3.alloc (.cells (L.map sv).toArray 9) := ⟨_, rfl⟩
  rw [← hwa]
  obtain ⟨g, hg⟩ : ∃ g, g = w3.heap.size := ⟨_, rfl⟩
  rw [← hg]
  have HA := Lib.hid (show RB w g L wa from ⟨by rw [hwa]; exact B3.alloc _, by rw [hwa, hg]; exact heap_alloc_new _ _⟩)
  have HQ1 := Lib.hid (HR1 g L)
  have HQ2 := Lib.hid (HR2 g L)
  have H1 := Lib.hid (fun (W : World) (h : RB w g L W) => h.cell (k := 1) (by omega) hL1)
  have H2 := Lib.hid (fun (W : World) (h : RB w g L W) => h.cell (k := 2) (by omega) hL2)
  clear hwa hg hL HR1 HR2 B0 B1 B2 B3 hL1 hL2
  have c1 := H1.out _ HA.out
  have c2 := H2.out _ HA.out
  go_cut [36] from 23 to 36 (fun v wr => v = .bool false ∧ RB w g L wr)
  case first =>
    go_region_with (first
      | (go_at_call 20; refine (HQ1.out _ (by first | exact HA.out | exact HA.out.drew | assumption | exact RB.drew (by assumption))).mono ?_; rintro e w' ⟨rfl, hR⟩; have d1 := H1.out _ hR; have d2 := H2.out _ hR)
      | (go_at_call 21; refine (HQ2.out _ (by first | assumption | exact RB.drew (by assumption) | exact HA.out | exact HA.out.drew)).mono ?_; rintro e w' ⟨rfl, hR⟩; have d1 := H1.out _ hR; have d2 := H2.out _ hR))
    all_goals (try go_wp2)
    all_goals go_meet
    all_goals (case rel => exact ⟨rfl, by assumption⟩)
  case rest =>
    obtain ⟨rfl, hR⟩ := hcut
    have HR := Lib.hid hR
    clear c1 c2 hR HA H1 H2 HQ1 HQ2 HS1 HS2 HLL
    go_wp2_with fail
    go_loopw [4] (fun i wr => ∃ k : Nat, k ≤ 3 ∧ i = .int .i64 k ∧ RB w g L wr) (fun i _ => 3 - (intOf i).toNat)
    case atStart => exact ⟨0, by omega, rfl, HR.out⟩
    case round =>
      obtain ⟨k, hk, rfl, hr⟩ := hrel
      by_cases hlt : k < 3
      · obtain ⟨t, ht⟩ : ∃ t, L.getD k [] = t := ⟨_, rfl⟩
        have hkl : k < L.length := by omega
        have htl : t.length ≤ 100000 := by rw [← ht]; exact HX.out _ (rowm hkl)
        have HC := Lib.hid (fun (W : World) (h : RB w g L W) => h.cell hkl ht)
        have C1 := fun (W : World) (h : RB w g L W) => rb (unhex_any t W htl) h
        have C2 := fun (W : World) (h : RB w g L W) => rb (runhex_any t W htl) h
        have C3 := fun (W : World) (h : RB w g L W) => rb (unbase_any t W htl) h
        have C4 := fun (W : World) (h : RB w g L W) => rb (runbase_any t W htl) h
        obtain ⟨a, e, hae⟩ := res_pair (unhexL t)
        obtain ⟨b, f, hbf⟩ := res_pair (unb64L t)
        rw [hae] at C1 C2
        rw [hbf] at C3 C4
        have D1 := Lib.hid C1
        have D2 := Lib.hid C2
        have D3 := Lib.hid C3
        have D4 := Lib.hid C4
        have c0 := HC.out _ hr
        clear C1 C2 C3 C4 hae hbf htl hkl ht HR
        go_wp2_with fail
        refine (D1.out _ hr).mono ?_
        rintro e1 w4 ⟨rfl, hr4⟩
        have c4 := HC.out _ hr4
        clear c0 hr
        go_wp2_with fail
        refine (D2.out _ hr4).mono ?_
        rintro e1 w5 ⟨rfl, hr5⟩
        have c5 := HC.out _ hr5
        clear c4 hr4
        go_wp2_with fail
        refine (D3.out _ hr5).mono ?_
        rintro e1 w6 ⟨rfl, hr6⟩
        have c6 := HC.out _ hr6
        clear c5 hr5
        go_wp2_with fail
        refine (D4.out _ hr6).mono ?_
        rintro e1 w7 ⟨rfl, hr7⟩
        clear c6 hr6
        go_wp2
        go_roundw
        case rel => exact ⟨k + 1, by omega, by go_num, hr7⟩
        case measure => simp [intOf]; omega
      · obtain rfl : k = 3 := by omega
        have HB := Lib.hid hr.1
        clear hr HR
        go_wp2_with fail
        refine (bl_works HB.out).mono ?_
        rintro e1 w4 ⟨rfl, C1⟩
        go_wp2
        go_ret
        exact ⟨rfl, C1.below⟩
end Go.Proofs.YtdniojbplakeoaaDoor
