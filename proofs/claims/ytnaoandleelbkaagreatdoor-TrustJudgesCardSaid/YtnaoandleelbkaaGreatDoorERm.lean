/-
  The reference's lengths.
  The reference's Put.
-/
import Derived.Test.YtnaoandleelbkaaGreatDoorEWm
import Derived.Test.YtnaoandleelbkaaGreatDoorEPut
import Derived.Deep.RegionHeld3
namespace Go.Proofs.YtnaoandleelbkaaGreatDoor
set_option linter.unusedSimpArgs false
set_option linter.unusedVariables false
open Go Go.RowKit
set_option maxRecDepth 100000

set_option maxHeartbeats 2000000 in
theorem rlong_any {w : World} (n : Nat) (hn : n ≤ 65535) : Calls Tryz.prog 137 #[.int .i64 (n : Int)] w fun e w' => e = .returned (sv (lenL n)) ∧ Below w.heap.size w w' := by
  have BY := Lib.hid (fun W (z : Nat) => @byte1_any W (z : Int) (UInt8.ofNat (z % 256)) (by constructor; omega; simp))
  have B129 := Lib.hid (fun W => @byte1_any W 129 129 (by decide))
  have B130 := Lib.hid (fun W => @byte1_any W 130 130 (by decide))
  by_cases h1 : n < 128
  · have HL := Lib.hid (show lenL n = [UInt8.ofNat (n % 256)] by unfold lenL; rw [if_pos (by omega), Nat.mod_eq_of_lt (by omega)])
    have h1' : (n : Int) < 128 := by omega
    go_enter Tryz.func137, Tryz.ntmps137
    go_wp2_with (go_at_call 131; refine (BY.out _ n).mono ?_; rintro e w1 ⟨rfl, hb⟩)
    go_ret
    rw [HL.out]
    exact ⟨rfl, hb⟩
  · have h1' : ¬ (n : Int) < 128 := by omega
    by_cases h2 : n < 256
    · have HL := Lib.hid (show lenL n = [129] ++ [UInt8.ofNat (n % 256)] by unfold lenL; rw [if_neg (by omega), if_pos (by omega), Nat.mod_eq_of_lt (by omega)]; rfl)
      have h2' : (n : Int) < 256 := by omega
      have HA := Lib.hid (str_appendE [129] [UInt8.ofNat (n % 256)])
      have hz1 := str_size [129]
      have hz2 := str_size [UInt8.ofNat (n % 256)]
      go_enter Tryz.func137, Tryz.ntmps137
      go_wp2_with (first
        | (go_at_call 131; with_reducible refine (B129.out _).mono ?_; rintro e w1 ⟨rfl, hb1⟩)
        | (go_at_call 131; with_reducible refine (BY.out _ n).mono ?_; rintro e w2 ⟨rfl, hb2⟩))
      go_ret
      rw [HL.out]
      exact ⟨by show Ending.returned (.string (str [129] ++ str _)) = _; rw [HA.out], hb1.trans (hb2.mono hb1.size)⟩
    · have h2' : ¬ (n : Int) < 256 := by omega
      obtain ⟨m, hm⟩ : ∃ m, m = n / 256 := ⟨_, rfl⟩
      have hd1 : (n : Int) / 256 = (m : Int) := by omega
      have hd2 : (n : Int).tdiv 256 = (m : Int) := by rw [Int.tdiv_eq_ediv_of_nonneg (by omega), hd1]
      have hm2 : m < 256 := by omega
      have HL := Lib.hid (show lenL n = [130] ++ [UInt8.ofNat (m % 256)] ++ [UInt8.ofNat (n % 256)] by
        unfold lenL
        rw [if_neg (by omega), if_neg (by omega), ← hm, Nat.mod_eq_of_lt hm2]
        show [130, _, _] = [130, _, _]
        congr 2
        apply congrArg (· :: [])
        exact u8_eq (by simp))
      have HA := Lib.hid (str_appendE [130] [UInt8.ofNat (m % 256)])
      have HA2 := Lib.hid (str_appendE ([130] ++ [UInt8.ofNat (m % 256)]) [UInt8.ofNat (n % 256)])
      have hwm : IntKind.i64.wrap (m : Int) = (m : Int) := IntWalk.i64_in _ (by omega)
      clear hm
      go_enter Tryz.func137, Tryz.ntmps137
      go_wp2_with (first
        | (go_at_call 131; with_reducible refine (B130.out _).mono ?_; rintro e w1 ⟨rfl, hb1⟩)
        | (go_at_call 131; with_reducible refine (BY.out _ m).mono ?_; rintro e w2 ⟨rfl, hb2⟩)
        | (go_at_call 131; with_reducible refine (BY.out _ n).mono ?_; rintro e w3 ⟨rfl, hb3⟩))
      go_ret
      rw [HL.out]
      exact ⟨by show Ending.returned (.string (str [130] ++ str _ ++ str _)) = _; rw [HA.out, HA2.out], (hb1.trans (hb2.mono hb1.size)).trans (hb3.mono (hb1.trans (hb2.mono hb1.size)).size)⟩
end Go.Proofs.YtnaoandleelbkaaGreatDoor

namespace Go.Proofs.YtnaoandleelbkaaGreatDoor
set_option linter.unusedSimpArgs false
set_option linter.unusedVariables false
open Go Go.RowKit
set_option maxRecDepth 100000

/-- A box with a thing of the reference's. -/
def RIB (w : World) (k : Nat) (t : UInt8) (v : List UInt8) : Prop := w.heap[k]? = some (.cells #[.int .u8 (t.toNat : Int), sv v] 89 (0, 0))
theorem RIB.lt {w : World} {k : Nat} {t : UInt8} {v : List UInt8} (h : RIB w k t v) : k < w.heap.size := lt_of_blk h
theorem RIB.c0 {w : World} {k : Nat} {t : UInt8} {v : List UInt8} (h : RIB w k t v) : w.cell? ⟨k, 0, none⟩ = some (.int .u8 (t.toNat : Int)) := by rw [cellAt h]; rfl
theorem RIB.c1 {w : World} {k : Nat} {t : UInt8} {v : List UInt8} (h : RIB w k t v) : w.cell? ⟨k, 1, none⟩ = some (sv v) := by rw [cellAt h]; rfl
theorem RIB.new (w : World) (t : UInt8) (v : List UInt8) : RIB (w.alloc (.cells #[.int .u8 (t.toNat : Int), sv v] 89)) w.heap.size t v := heap_alloc_new w _
theorem RIB.step {w w' : World} {k : Nat} {t : UInt8} {v : List UInt8} (h : RIB w k t v) (hb : Below w.heap.size w w') : RIB w' k t v := (hb.block k h.lt).trans h
set_option maxHeartbeats 4000000 in
/-- Of a tag that may be. -/
theorem rput_any {w : World} (t : UInt8) (v : List UInt8) (ht : tagB t = true) (hv : v.length ≤ 65535) : Calls Tryz.prog 130 #[.agg #[.int .u8 (t.toNat : Int), sv v]] w fun e w' => e = .returned (.tuple #[sv (putT t v), .int .i64 0]) ∧ Below w.heap.size w w' := by
  have BT := Lib.hid (fun W => @byte1_any W (t.toNat : Int) t (by constructor; omega; have := t.toNat_lt; omega))
  have HLO := Lib.hid (fun W => @rlong_any W v.length hv)
  have ht2 : t.toNat % 32 ≠ 31 := by unfold tagB at ht; simpa using ht
  have ht3 : ¬ ((t.toNat : Int) % 32 = 31) := by omega
  have ht4 : ¬ ((t.toNat : Int).tmod 32 = 31) := by rw [Int.tmod_eq_emod_of_nonneg (by omega)]; exact ht3
  have ht5 : IntKind.i64.wrap (t.toNat : Int) = (t.toNat : Int) := by have := t.toNat_lt; simp [IntKind.wrap, IntKind.bits, IntKind.signed]; omega
  have hv2 : ¬ (65535 : Int) < (v.length : Int) := by omega
  have HP := Lib.hid (show putT t v = [t] ++ lenL v.length ++ v from by simp [putT])
  have hll := lenL_length v.length
  obtain ⟨L, hL⟩ : ∃ L, L = lenL v.length := ⟨_, rfl⟩
  rw [← hL] at HLO HP hll
  obtain ⟨T, hT⟩ : ∃ T, T = [t] := ⟨_, rfl⟩
  obtain ⟨X, hX⟩ : ∃ X, X = T ++ L := ⟨_, rfl⟩
  obtain ⟨Y, hY⟩ : ∃ Y, Y = X ++ v := ⟨_, rfl⟩
  have hA : str T ++ str L = str X := by rw [hX]; exact str_appendE T L
  have hA2 : str X ++ str v = str Y := by rw [hY]; exact str_appendE X v
  have hz1 := str_size v
  have hz2 := str_size L
  have hz3 := str_size T
  have hz4 := str_size X
  have hTl : T.length = 1 := by rw [hT]; rfl
  have hXl : X.length = T.length + L.length := by rw [hX, List.length_append]
  have hl1 : ¬ 9223372036854775807 < T.length + L.length := by omega
  have hl2 : ¬ 9223372036854775807 < X.length + v.length := by omega
  rw [← hT] at BT HP
  rw [← hX, ← hY] at HP
  clear hTl hXl hT hX hY
  have HS0 := Lib.hid (show RIB (w.alloc (.cells #[.int .u8 (t.toNat : Int), sv v] 89)).drew w.heap.size t v ∧ Below w.heap.size w (w.alloc (.cells #[.int .u8 (t.toNat : Int), sv v] 89)).drew from ⟨(RIB.new w t v).step (Below.refl _ _).drew, (below_alloc _ _).drew⟩)
  clear hL ht hv
  go_enter Tryz.func130, Tryz.ntmps130
  go_wp2_with fail
  refine wp_region_held_drew (S := fun W => RIB W w.heap.size t v ∧ Below w.heap.size w W) (by kernel_rfl) HS0.out (fun hHeld => ?_)
  refine wpAnyH_take (i := 0) (v := ?vv0_1) rfl (by kernel_rfl) (by kernel_rfl) (by kernel_rfl) (fun _ _ _ h => h) (Or.inl ⟨by rfl, ?hy0_1⟩) (by assumption) ?rest0_1
  case hy0_1 => (intro w' hSw; (try dsimp only at hSw); go_simp; try with_reducible rfl)
  try simp only [List.getElem_toArray, List.getElem_cons_zero, List.getElem_cons_succ, Act.put, List.setIfInBounds_toArray, List.set_cons_zero, List.set_cons_succ]
  refine wpAnyH_take (i := 1) (v := .int .u8 (t.toNat : Int)) rfl (by kernel_rfl) (by kernel_rfl) (by kernel_rfl) (fun _ _ _ h => h) (Or.inl ⟨by rfl, fun w' hSw => exec_load1 w' rfl rfl hSw.1.c0 Tryz.underlying5 rfl⟩) (by assumption) ?_
  try simp only [List.getElem_toArray, List.getElem_cons_zero, List.getElem_cons_succ, Act.put, List.setIfInBounds_toArray, List.set_cons_zero, List.set_cons_succ]
  refine wpAnyH_take (i := 2) (v := ?vv2_1) rfl (by kernel_rfl) (by kernel_rfl) (by kernel_rfl) (fun _ _ _ h => h) (Or.inl ⟨by rfl, ?hy2_1⟩) (by assumption) ?rest2_1
  case hy2_1 => (intro w' hSw; (try dsimp only at hSw); go_simp; try with_reducible rfl)
  try simp only [List.getElem_toArray, List.getElem_cons_zero, List.getElem_cons_succ, Act.put, List.setIfInBounds_toArray, List.set_cons_zero, List.set_cons_succ]
  refine wpAnyH_take (i := 4) (v := ?vv4_1) rfl (by kernel_rfl) (by kernel_rfl) (by kernel_rfl) (fun _ _ _ h => h) (Or.inl ⟨by rfl, ?hy4_1⟩) (by assumption) ?rest4_1
  case hy4_1 => (intro w' hSw; (try dsimp only at hSw); go_simp; try with_reducible rfl)
  try simp only [List.getElem_toArray, List.getElem_cons_zero, List.getElem_cons_succ, Act.put, List.setIfInBounds_toArray, List.set_cons_zero, List.set_cons_succ]
  refine wpAnyH_take (i := 5) (v := sv v) rfl (by kernel_rfl) (by kernel_rfl) (by kernel_rfl) (fun _ _ _ h => h) (Or.inl ⟨by rfl, fun w' hSw => exec_load1 w' rfl rfl hSw.1.c1 Tryz.underlying9 rfl⟩) (by assumption) ?_
  try simp only [List.getElem_toArray, List.getElem_cons_zero, List.getElem_cons_succ, Act.put, List.setIfInBounds_toArray, List.set_cons_zero, List.set_cons_succ]
  refine wpAnyH_take (i := 6) (v := ?vv6_1) rfl (by kernel_rfl) (by kernel_rfl) (by kernel_rfl) (fun _ _ _ h => h) (Or.inl ⟨by rfl, ?hy6_1⟩) (by assumption) ?rest6_1
  case hy6_1 => (intro w' hSw; (try dsimp only at hSw); go_simp; try with_reducible rfl)
  try simp only [List.getElem_toArray, List.getElem_cons_zero, List.getElem_cons_succ, Act.put, List.setIfInBounds_toArray, List.set_cons_zero, List.set_cons_succ]
  refine wpAnyH_take (i := 9) (v := ?vv9_1) rfl (by kernel_rfl) (by kernel_rfl) (by kernel_rfl) (fun _ _ _ h => h) (Or.inl ⟨by rfl, ?hy9_1⟩) (by assumption) ?rest9_1
  case hy9_1 => (intro w' hSw; (try dsimp only at hSw); go_simp; try with_reducible rfl)
  try simp only [List.getElem_toArray, List.getElem_cons_zero, List.getElem_cons_succ, Act.put, List.setIfInBounds_toArray, List.set_cons_zero, List.set_cons_succ]
  refine wpAnyH_take (i := 10) (v := sv v) rfl (by kernel_rfl) (by kernel_rfl) (by kernel_rfl) (fun _ _ _ h => h) (Or.inl ⟨by rfl, fun w' hSw => exec_load1 w' rfl rfl hSw.1.c1 Tryz.underlying9 rfl⟩) (by assumption) ?_
  try simp only [List.getElem_toArray, List.getElem_cons_zero, List.getElem_cons_succ, Act.put, List.setIfInBounds_toArray, List.set_cons_zero, List.set_cons_succ]
  refine wpAnyH_ready (rs := [3]) (by kernel_rfl) (by simp) ?_
  refine AllReadyH.cons rfl (fun K hK => ?_) AllReadyH.nil
  go_simp
  go_at_call 131
  refine (BT.out _).mono ?_
  rintro e w1 ⟨rfl, hb1⟩
  have HS1 := Lib.hid (show RIB w1 w.heap.size t v ∧ Below w.heap.size w w1 from ⟨hHeld.1.step hb1, hHeld.2.trans (hb1.mono hHeld.2.size)⟩)
  clear hb1
  refine hK.out _ _ HS1.out (fun hHeld => ?_)
  clear hK K
  try simp only [List.getElem_toArray, List.getElem_cons_zero, List.getElem_cons_succ, Act.put, List.setIfInBounds_toArray, List.set_cons_zero, List.set_cons_succ]
  refine wpAnyH_ready (rs := [7]) (by kernel_rfl) (by simp) ?_
  refine AllReadyH.cons rfl (fun K hK => ?_) AllReadyH.nil
  go_simp
  go_at_call 137
  refine (HLO.out _).mono ?_
  rintro e w2 ⟨rfl, hb2⟩
  have HS2 := Lib.hid (show RIB w2 w.heap.size t v ∧ Below w.heap.size w w2 from ⟨hHeld.1.step hb2, hHeld.2.trans (hb2.mono hHeld.2.size)⟩)
  clear hb2
  refine hK.out _ _ HS2.out (fun hHeld => ?_)
  clear hK K
  try simp only [List.getElem_toArray, List.getElem_cons_zero, List.getElem_cons_succ, Act.put, List.setIfInBounds_toArray, List.set_cons_zero, List.set_cons_succ]
  refine wpAnyH_take (i := 8) (v := ?vv8_1) rfl (by kernel_rfl) (by kernel_rfl) (by kernel_rfl) (fun _ _ _ h => h) (Or.inl ⟨by rfl, ?hy8_1⟩) (by assumption) ?rest8_1
  case hy8_1 => (intro w' hSw; (try dsimp only at hSw); go_simp; try with_reducible rfl)
  try simp only [List.getElem_toArray, List.getElem_cons_zero, List.getElem_cons_succ, Act.put, List.setIfInBounds_toArray, List.set_cons_zero, List.set_cons_succ]
  refine wpAnyH_take (i := 11) (v := ?vv11_1) rfl (by kernel_rfl) (by kernel_rfl) (by kernel_rfl) (fun _ _ _ h => h) (Or.inl ⟨by rfl, ?hy11_1⟩) (by assumption) ?rest11_1
  case hy11_1 => (intro w' hSw; (try dsimp only at hSw); go_simp; try with_reducible rfl)
  try simp only [List.getElem_toArray, List.getElem_cons_zero, List.getElem_cons_succ, Act.put, List.setIfInBounds_toArray, List.set_cons_zero, List.set_cons_succ]
  refine wpAnyH_take (i := 12) (v := ?vv12_1) rfl (by kernel_rfl) (by kernel_rfl) (by kernel_rfl) (fun _ _ _ h => h) (Or.inl ⟨by rfl, ?hy12_1⟩) (by assumption) ?rest12_1
  case hy12_1 => (intro w' hSw; (try dsimp only at hSw); go_simp; try with_reducible rfl)
  try simp only [List.getElem_toArray, List.getElem_cons_zero, List.getElem_cons_succ, Act.put, List.setIfInBounds_toArray, List.set_cons_zero, List.set_cons_succ]
  refine wpAnyH_take (i := 13) (v := ?vv13_1) rfl (by kernel_rfl) (by kernel_rfl) (by kernel_rfl) (fun _ _ _ h => h) (Or.inl ⟨by rfl, ?hy13_1⟩) (by assumption) ?rest13_1
  case hy13_1 => (intro w' hSw; (try dsimp only at hSw); go_simp; try with_reducible rfl)
  try simp only [List.getElem_toArray, List.getElem_cons_zero, List.getElem_cons_succ, Act.put, List.setIfInBounds_toArray, List.set_cons_zero, List.set_cons_succ]
  refine wpAnyH_done (by kernel_rfl) ?_ _
  go_wp2_with fail
  go_ret2
  rw [HP.out]
  exact ⟨rfl, HS2.out.2⟩
end Go.Proofs.YtnaoandleelbkaaGreatDoor
