/-
  The reference's Put.
-/
import Derived.Test.YtoinicmhkfomjaaGreatDoorERLong
import Derived.Test.YtoinicmhkfomjaaGreatDoorEPut
import Derived.Deep.RegionHeld3
namespace Go.Proofs.YtoinicmhkfomjaaGreatDoor
set_option linter.unusedSimpArgs false
set_option linter.unusedVariables false
open Go Go.RowKit
set_option maxRecDepth 100000

/-- A box with a thing of the reference's. -/
def RIB (w : World) (k : Nat) (t : UInt8) (v : List UInt8) : Prop := w.heap[k]? = some (.cells #[.int .u8 (t.toNat : Int), sv v] 80 (0, 0))
theorem RIB.lt {w : World} {k : Nat} {t : UInt8} {v : List UInt8} (h : RIB w k t v) : k < w.heap.size := lt_of_blk h
theorem RIB.c0 {w : World} {k : Nat} {t : UInt8} {v : List UInt8} (h : RIB w k t v) : w.cell? ⟨k, 0, none⟩ = some (.int .u8 (t.toNat : Int)) := by rw [cellAt h]; rfl
theorem RIB.c1 {w : World} {k : Nat} {t : UInt8} {v : List UInt8} (h : RIB w k t v) : w.cell? ⟨k, 1, none⟩ = some (sv v) := by rw [cellAt h]; rfl
theorem RIB.new (w : World) (t : UInt8) (v : List UInt8) : RIB (w.alloc (.cells #[.int .u8 (t.toNat : Int), sv v] 80)) w.heap.size t v := heap_alloc_new w _
theorem RIB.step {w w' : World} {k : Nat} {t : UInt8} {v : List UInt8} (h : RIB w k t v) (hb : Below w.heap.size w w') : RIB w' k t v := (hb.block k h.lt).trans h
set_option maxHeartbeats 4000000 in
/-- Of a tag that may be. -/
theorem rput_any {w : World} (t : UInt8) (v : List UInt8) (ht : tagB t = true) (hv : v.length ≤ 65535) : Calls Tryz.prog 100 #[.agg #[.int .u8 (t.toNat : Int), sv v]] w fun e w' => e = .returned (.tuple #[sv (putT t v), .int .i64 0]) ∧ Below w.heap.size w w' := by
  have BT := Lib.hid (fun W => @byte1_any W (t.toNat : Int) t (by constructor; omega; have := t.toNat_lt; omega))
  have HLO := Lib.hid (fun W => @rlong_any W v.length hv)
  have ht2 : t.toNat % 32 ≠ 31 := by unfold tagB at ht; simpa using ht
  have ht3 : ¬ ((t.toNat : Int) % 32 = 31) := by omega
  have ht4 : ¬ ((t.toNat : Int).tmod 32 = 31) := by rw [Int.tmod_eq_emod_of_nonneg (by omega)]; exact ht3
  have ht5 : IntKind.i64.wrap (t.toNat : Int) = (t.toNat : Int) := by have := t.toNat_lt; simp [IntKind.wrap, IntKind.bits, IntKind.signed]; omega
  have hv2 : ¬ (65535 : Int) < (v.length : Int) := by omega
  have HP := Lib.hid (show putT t v = [t] ++ lenL v.length ++ v from by simp [putT])
  have hll := lenL_length v.length
  obtain ⟨L, hL⟩ : ∃ L, L = lenL v.length := ⟨_, rfl⟩
  rw [← hL] at HLO HP hll
  obtain ⟨T, hT⟩ : ∃ T, T = [t] := ⟨_, rfl⟩
  obtain ⟨X, hX⟩ : ∃ X, X = T ++ L := ⟨_, rfl⟩
  obtain ⟨Y, hY⟩ : ∃ Y, Y = X ++ v := ⟨_, rfl⟩
  have hA : str T ++ str L = str X := by rw [hX]; exact str_appendE T L
  have hA2 : str X ++ str v = str Y := by rw [hY]; exact str_appendE X v
  have hz1 := str_size v
  have hz2 := str_size L
  have hz3 := str_size T
  have hz4 := str_size X
  have hTl : T.length = 1 := by rw [hT]; rfl
  have hXl : X.length = T.length + L.length := by rw [hX, List.length_append]
  have hl1 : ¬ 9223372036854775807 < T.length + L.length := by omega
  have hl2 : ¬ 9223372036854775807 < X.length + v.length := by omega
  rw [← hT] at BT HP
  rw [← hX, ← hY] at HP
  clear hTl hXl hT hX hY
  have HS0 := Lib.hid (show RIB (w.alloc (.cells #[.int .u8 (t.toNat : Int), sv v] 80)).drew w.heap.size t v ∧ Below w.heap.size w (w.alloc (.cells #[.int .u8 (t.toNat : Int), sv v] 80)).drew from ⟨(RIB.new w t v).step (Below.refl _ _).drew, (below_alloc _ _).drew⟩)
  clear hL ht hv
  go_enter Tryz.func100, Tryz.ntmps100
  go_wp2_with fail
  refine wp_region_held_drew (S := fun W => RIB W w.heap.size t v ∧ Below w.heap.size w W) (by kernel_rfl) HS0.out (fun hHeld => ?_)
  refine wpAnyH_take (i := 0) (v := ?vv0_1) rfl (by kernel_rfl) (by kernel_rfl) (by kernel_rfl) (fun _ _ _ h => h) (Or.inl ⟨by rfl, ?hy0_1⟩) (by assumption) ?rest0_1
  case hy0_1 => (intro w' hSw; (try dsimp only at hSw); go_simp; try with_reducible rfl)
  try simp only [List.getElem_toArray, List.getElem_cons_zero, List.getElem_cons_succ, Act.put, List.setIfInBounds_toArray, List.set_cons_zero, List.set_cons_succ]
  refine wpAnyH_take (i := 1) (v := .int .u8 (t.toNat : Int)) rfl (by kernel_rfl) (by kernel_rfl) (by kernel_rfl) (fun _ _ _ h => h) (Or.inl ⟨by rfl, fun w' hSw => exec_load1 w' rfl rfl hSw.1.c0 Tryz.underlying5 rfl⟩) (by assumption) ?_
  try simp only [List.getElem_toArray, List.getElem_cons_zero, List.getElem_cons_succ, Act.put, List.setIfInBounds_toArray, List.set_cons_zero, List.set_cons_succ]
  refine wpAnyH_take (i := 2) (v := ?vv2_1) rfl (by kernel_rfl) (by kernel_rfl) (by kernel_rfl) (fun _ _ _ h => h) (Or.inl ⟨by rfl, ?hy2_1⟩) (by assumption) ?rest2_1
  case hy2_1 => (intro w' hSw; (try dsimp only at hSw); go_simp; try with_reducible rfl)
  try simp only [List.getElem_toArray, List.getElem_cons_zero, List.getElem_cons_succ, Act.put, List.setIfInBounds_toArray, List.set_cons_zero, List.set_cons_succ]
  refine wpAnyH_take (i := 4) (v := ?vv4_1) rfl (by kernel_rfl) (by kernel_rfl) (by kernel_rfl) (fun _ _ _ h => h) (Or.inl ⟨by rfl, ?hy4_1⟩) (by assumption) ?rest4_1
  case hy4_1 => (intro w' hSw; (try dsimp only at hSw); go_simp; try with_reducible rfl)
  try simp only [List.getElem_toArray, List.getElem_cons_zero, List.getElem_cons_succ, Act.put, List.setIfInBounds_toArray, List.set_cons_zero, List.set_cons_succ]
  refine wpAnyH_take (i := 5) (v := sv v) rfl (by kernel_rfl) (by kernel_rfl) (by kernel_rfl) (fun _ _ _ h => h) (Or.inl ⟨by rfl, fun w' hSw => exec_load1 w' rfl rfl hSw.1.c1 Tryz.underlying9 rfl⟩) (by assumption) ?_
  try simp only [List.getElem_toArray, List.getElem_cons_zero, List.getElem_cons_succ, Act.put, List.setIfInBounds_toArray, List.set_cons_zero, List.set_cons_succ]
  refine wpAnyH_take (i := 6) (v := ?vv6_1) rfl (by kernel_rfl) (by kernel_rfl) (by kernel_rfl) (fun _ _ _ h => h) (Or.inl ⟨by rfl, ?hy6_1⟩) (by assumption) ?rest6_1
  case hy6_1 => (intro w' hSw; (try dsimp only at hSw); go_simp; try with_reducible rfl)
  try simp only [List.getElem_toArray, List.getElem_cons_zero, List.getElem_cons_succ, Act.put, List.setIfInBounds_toArray, List.set_cons_zero, List.set_cons_succ]
  refine wpAnyH_take (i := 9) (v := ?vv9_1) rfl (by kernel_rfl) (by kernel_rfl) (by kernel_rfl) (fun _ _ _ h => h) (Or.inl ⟨by rfl, ?hy9_1⟩) (by assumption) ?rest9_1
  case hy9_1 => (intro w' hSw; (try dsimp only at hSw); go_simp; try with_reducible rfl)
  try simp only [List.getElem_toArray, List.getElem_cons_zero, List.getElem_cons_succ, Act.put, List.setIfInBounds_toArray, List.set_cons_zero, List.set_cons_succ]
  refine wpAnyH_take (i := 10) (v := sv v) rfl (by kernel_rfl) (by kernel_rfl) (by kernel_rfl) (fun _ _ _ h => h) (Or.inl ⟨by rfl, fun w' hSw => exec_load1 w' rfl rfl hSw.1.c1 Tryz.underlying9 rfl⟩) (by assumption) ?_
  try simp only [List.getElem_toArray, List.getElem_cons_zero, List.getElem_cons_succ, Act.put, List.setIfInBounds_toArray, List.set_cons_zero, List.set_cons_succ]
  refine wpAnyH_ready (rs := [3]) (by kernel_rfl) (by simp) ?_
  refine AllReadyH.cons rfl (fun K hK => ?_) AllReadyH.nil
  go_simp
  go_at_call 101
  refine (BT.out _).mono ?_
  rintro e w1 ⟨rfl, hb1⟩
  have HS1 := Lib.hid (show RIB w1 w.heap.size t v ∧ Below w.heap.size w w1 from ⟨hHeld.1.step hb1, hHeld.2.trans (hb1.mono hHeld.2.size)⟩)
  clear hb1
  refine hK.out _ _ HS1.out (fun hHeld => ?_)
  clear hK K
  try simp only [List.getElem_toArray, List.getElem_cons_zero, List.getElem_cons_succ, Act.put, List.setIfInBounds_toArray, List.set_cons_zero, List.set_cons_succ]
  refine wpAnyH_ready (rs := [7]) (by kernel_rfl) (by simp) ?_
  refine AllReadyH.cons rfl (fun K hK => ?_) AllReadyH.nil
  go_simp
  go_at_call 107
  refine (HLO.out _).mono ?_
  rintro e w2 ⟨rfl, hb2⟩
  have HS2 := Lib.hid (show RIB w2 w.heap.size t v ∧ Below w.heap.size w w2 from ⟨hHeld.1.step hb2, hHeld.2.trans (hb2.mono hHeld.2.size)⟩)
  clear hb2
  refine hK.out _ _ HS2.out (fun hHeld => ?_)
  clear hK K
  try simp only [List.getElem_toArray, List.getElem_cons_zero, List.getElem_cons_succ, Act.put, List.setIfInBounds_toArray, List.set_cons_zero, List.set_cons_succ]
  refine wpAnyH_take (i := 8) (v := ?vv8_1) rfl (by kernel_rfl) (by kernel_rfl) (by kernel_rfl) (fun _ _ _ h => h) (Or.inl ⟨by rfl, ?hy8_1⟩) (by assumption) ?rest8_1
  case hy8_1 => (intro w' hSw; (try dsimp only at hSw); go_simp; try with_reducible rfl)
  try simp only [List.getElem_toArray, List.getElem_cons_zero, List.getElem_cons_succ, Act.put, List.setIfInBounds_toArray, List.set_cons_zero, List.set_cons_succ]
  refine wpAnyH_take (i := 11) (v := ?vv11_1) rfl (by kernel_rfl) (by kernel_rfl) (by kernel_rfl) (fun _ _ _ h => h) (Or.inl ⟨by rfl, ?hy11_1⟩) (by assumption) ?rest11_1
  case hy11_1 => (intro w' hSw; (try dsimp only at hSw); go_simp; try with_reducible rfl)
  try simp only [List.getElem_toArray, List.getElem_cons_zero, List.getElem_cons_succ, Act.put, List.setIfInBounds_toArray, List.set_cons_zero, List.set_cons_succ]
  refine wpAnyH_take (i := 12) (v := ?vv12_1) rfl (by kernel_rfl) (by kernel_rfl) (by kernel_rfl) (fun _ _ _ h => h) (Or.inl ⟨by rfl, ?hy12_1⟩) (by assumption) ?rest12_1
  case hy12_1 => (intro w' hSw; (try dsimp only at hSw); go_simp; try with_reducible rfl)
  try simp only [List.getElem_toArray, List.getElem_cons_zero, List.getElem_cons_succ, Act.put, List.setIfInBounds_toArray, List.set_cons_zero, List.set_cons_succ]
  refine wpAnyH_take (i := 13) (v := ?vv13_1) rfl (by kernel_rfl) (by kernel_rfl) (by kernel_rfl) (fun _ _ _ h => h) (Or.inl ⟨by rfl, ?hy13_1⟩) (by assumption) ?rest13_1
  case hy13_1 => (intro w' hSw; (try dsimp only at hSw); go_simp; try with_reducible rfl)
  try simp only [List.getElem_toArray, List.getElem_cons_zero, List.getElem_cons_succ, Act.put, List.setIfInBounds_toArray, List.set_cons_zero, List.set_cons_succ]
  refine wpAnyH_done (by kernel_rfl) ?_ _
  go_wp2_with fail
  go_ret2
  rw [HP.out]
  exact ⟨rfl, HS2.out.2⟩
end Go.Proofs.YtoinicmhkfomjaaGreatDoor
