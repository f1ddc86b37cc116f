/-
  The contract of Put.
-/
import Derived.Deep.RegionHeld3
import Derived.Test.YtnaoandleelbkaaGreatDoorEBm
namespace Go.Proofs.YtnaoandleelbkaaGreatDoor
set_option linter.unusedSimpArgs false
set_option linter.unusedVariables false
open Go Go.RowKit
set_option maxRecDepth 100000

/-- A thing, as a value. -/
def itv (t : UInt8) (v : List UInt8) : Value := .agg #[.int .u8 (t.toNat : Int), sv v]
/-- Block k holds a thing. -/
def IB (w : World) (k : Nat) (t : UInt8) (v : List UInt8) : Prop := w.heap[k]? = some (.cells #[.int .u8 (t.toNat : Int), sv v] 143 (0, 0))
theorem IB.lt {w : World} {k : Nat} {t : UInt8} {v : List UInt8} (h : IB w k t v) : k < w.heap.size := lt_of_blk h
theorem IB.c0 {w : World} {k : Nat} {t : UInt8} {v : List UInt8} (h : IB w k t v) : w.cell? ⟨k, 0, none⟩ = some (.int .u8 (t.toNat : Int)) := by rw [cellAt h]; rfl
theorem IB.c1 {w : World} {k : Nat} {t : UInt8} {v : List UInt8} (h : IB w k t v) : w.cell? ⟨k, 1, none⟩ = some (sv v) := by rw [cellAt h]; rfl
theorem IB.new (w : World) (t : UInt8) (v : List UInt8) : IB (w.alloc (.cells #[.int .u8 (t.toNat : Int), sv v] 143)) w.heap.size t v := heap_alloc_new w _
theorem IB.below {w w' : World} {k n : Nat} {t : UInt8} {v : List UInt8} (h : IB w k t v) (hb : Below n w w') (hn : k < n) : IB w' k t v := (hb.block k hn).trans h

theorem AB.drew {w : World} {g : Nat} {T : TypeId} {l : List UInt8} (h : AB w g T l) : AB w.drew g T l := h
theorem ab_one (W : World) (t : UInt8) : AB (W.alloc (.cells #[.int .u8 (t.toNat : Int)] 5)).drew W.heap.size 5 [t] := AB.new W _ [t]
section
variable {P : Program} (w : World) {o : Oper} {a : Act}
theorem exec_load1 {t : TypeId} {x : Operand} (ho : o.op = .load t x) {b i : Nat} (hd : a.eval x = .pointer (some ⟨b, i, none⟩)) {v : Value} (hc : w.cell? ⟨b, i, none⟩ = some v) {d : TypeDesc} (hu : P.underlying t = some d) (hn : (match d with | .struct _ | .array _ _ => true | _ => false) = false) :
    (execOp a.eval o).run P w = .ok (.value v) w := by
  unfold execOp
  have hagg : (isAgg t).run P w = .ok false w := by
    unfold isAgg
    rw [Sem.run_bind, run_underlying hu w]
    cases d <;> simp_all
  simp [ho, hd, Instr.loadAt, Instr.sureAddr, loadVar, hagg, run_load, hc]
end
set_option maxHeartbeats 4000000 in
theorem put_any {w : World} (t : UInt8) (v : List UInt8) (hv : v.length ≤ 9223372036854775807) :
    Calls Tryz.prog 118 #[itv t v] w fun e w' => e = .returned (.tuple #[sv (putL t v), .int .i64 (putE t v : Nat)]) ∧ Below w.heap.size w w' := by
  have HT := Lib.hid (fun W => @isTag_any W t)
  have hB := below_alloc w (.cells #[.int .u8 (t.toNat : Int), sv v] 143)
  have hI := IB.new w t v
  obtain ⟨W1, hW⟩ : ∃ W1, W1 = w.alloc (.cells #[.int .u8 (t.toNat : Int), sv v] 143) := ⟨_, rfl⟩
  obtain ⟨k, hk⟩ : ∃ k, k = w.heap.size := ⟨_, rfl⟩
  rw [← hW] at hB hI
  rw [← hk] at hI
  have HB := Lib.hid hB
  have HI := Lib.hid hI
  have HW := Lib.hid hW
  have HK := Lib.hid hk
  have c0 := hI.c0
  have c1 := hI.c1
  clear hB hI hW hk
  cases ht : tagB t with
  | false =>
    have HE := Lib.hid (show putE t v = 4 by unfold putE; rw [if_pos ht])
    have HL := Lib.hid (show putL t v = [] by unfold putL; rw [HE.out]; rfl)
    rw [HE.out, HL.out]
    rw [ht] at HT
    clear ht
    unfold itv
    go_enter Tryz.func118, Tryz.ntmps118
    go_wp2_with fail
    rw [← HW.out, ← HK.out]
    go_wp2_with (go_at_call 168; refine (HT.out _).mono ?_; rintro e w1 ⟨rfl, rfl⟩)
    go_ret2
    exact ⟨rfl, HB.out⟩
  | true =>
    rw [ht] at HT
    by_cases hl : 65535 < v.length
    · have HE := Lib.hid (show putE t v = 40 by unfold putE; rw [if_neg (by rw [ht]; simp), if_pos hl])
      have HL := Lib.hid (show putL t v = [] by unfold putL; rw [HE.out]; rfl)
      rw [HE.out, HL.out]
      have hl' : (65535 : Int) < (v.length : Int) := by omega
      clear ht
      unfold itv
      go_enter Tryz.func118, Tryz.ntmps118
      go_wp2_with fail
      rw [← HW.out, ← HK.out]
      go_wp2_with (go_at_call 168; refine (HT.out _).mono ?_; rintro e w1 ⟨rfl, rfl⟩)
      go_ret2
      exact ⟨rfl, HB.out⟩
    · have HE := Lib.hid (show putE t v = 0 by unfold putE; rw [if_neg (by rw [ht]; simp), if_neg hl])
      have HL := Lib.hid (show putL t v = putT t v by unfold putL; rw [HE.out]; rfl)
      rw [HE.out, HL.out]
      have hl' : ¬ (65535 : Int) < (v.length : Int) := by omega
      have HLE := Lib.hid (fun W => @length_any W v.length (by omega))
      have HLL := Lib.hid (lenL_length v.length)
      obtain ⟨L, hL⟩ : ∃ L, L = lenL v.length := ⟨_, rfl⟩
      have HO := Lib.hid (fun c => show Calls Tryz.prog 169 #[.slice (some ⟨W1.heap.size, 0, none⟩) 1 c] (W1.alloc (.cells #[.int .u8 (t.toNat : Int)] 5)).drew (fun e w' => e = .returned (sv [t]) ∧ Below W1.heap.size W1 w') from
        (octets_any [t] (ab_one W1 t) rfl).mono fun e w' ⟨he, hw⟩ => ⟨he, hw ▸ (below_alloc W1 _).drew⟩)
      have HPT := Lib.hid (show putT t v = t :: (L ++ v) by rw [hL]; rfl)
      rw [← hL] at HLE HLL
      have hll : L.length ≤ 3 := HLL.out.2
      have hvl : v.length ≤ 65535 := by omega
      have hkl : k < W1.heap.size := HI.out.lt
      have e1 : (W1.alloc (.cells #[.int .u8 (t.toNat : Int)] 5)).drew.cell? ⟨k, 1, none⟩ = some (sv v) := (HI.out.below ((below_alloc W1 _).drew) hkl).c1
      have hc1 : ¬ 9223372036854775807 < 1 + L.length := by omega
      have hc2 : ¬ 9223372036854775807 < 1 + L.length + v.length := by omega
      clear ht hL hl
      unfold itv
      go_enter Tryz.func118, Tryz.ntmps118
      go_wp2_with fail
      rw [← HW.out, ← HK.out]
      go_wp2_with (go_at_call 168; refine (HT.out _).mono ?_; rintro e w1 ⟨rfl, rfl⟩)
      refine wp_region_held_drew (S := fun W => Below W1.heap.size W1 W) (by kernel_rfl) (Below.refl _ _).drew (fun hHeld => ?_)
      refine wpAnyH_take (i := 0) (v := ?vv0_1) rfl (by kernel_rfl) (by kernel_rfl) (by kernel_rfl) (fun _ _ _ h => h) (Or.inl ⟨by rfl, ?hy0_1⟩) (by assumption) ?rest0_1
      case hy0_1 => (intro w' hSw; (try dsimp only at hSw); go_simp; try with_reducible rfl)
      try simp only [List.getElem_toArray, List.getElem_cons_zero, List.getElem_cons_succ, Act.put, List.setIfInBounds_toArray, List.set_cons_zero, List.set_cons_succ]
      refine wpAnyH_take (i := 1) (v := .int .u8 (t.toNat : Int)) rfl (by kernel_rfl) (by kernel_rfl) (by kernel_rfl) (fun _ _ _ h => h) (Or.inl ⟨by rfl, fun w' hSw => exec_load1 w' rfl rfl ((HI.out.below hSw HI.out.lt).c0) Tryz.underlying5 rfl⟩) (by assumption) ?_
      try simp only [List.getElem_toArray, List.getElem_cons_zero, List.getElem_cons_succ, Act.put, List.setIfInBounds_toArray, List.set_cons_zero, List.set_cons_succ]
      refine wpAnyH_take (i := 4) (v := ?vv4_1) rfl (by kernel_rfl) (by kernel_rfl) (by kernel_rfl) (fun _ _ _ h => h) (Or.inl ⟨by rfl, ?hy4_1⟩) (by assumption) ?rest4_1
      case hy4_1 => (intro w' hSw; (try dsimp only at hSw); go_simp; try with_reducible rfl)
      try simp only [List.getElem_toArray, List.getElem_cons_zero, List.getElem_cons_succ, Act.put, List.setIfInBounds_toArray, List.set_cons_zero, List.set_cons_succ]
      refine wpAnyH_take (i := 5) (v := sv v) rfl (by kernel_rfl) (by kernel_rfl) (by kernel_rfl) (fun _ _ _ h => h) (Or.inl ⟨by rfl, fun w' hSw => exec_load1 w' rfl rfl ((HI.out.below hSw HI.out.lt).c1) Tryz.underlying9 rfl⟩) (by assumption) ?_
      try simp only [List.getElem_toArray, List.getElem_cons_zero, List.getElem_cons_succ, Act.put, List.setIfInBounds_toArray, List.set_cons_zero, List.set_cons_succ]
      refine wpAnyH_take (i := 6) (v := ?vv6_1) rfl (by kernel_rfl) (by kernel_rfl) (by kernel_rfl) (fun _ _ _ h => h) (Or.inl ⟨by rfl, ?hy6_1⟩) (by assumption) ?rest6_1
      case hy6_1 => (intro w' hSw; (try dsimp only at hSw); go_simp; try with_reducible rfl)
      try simp only [List.getElem_toArray, List.getElem_cons_zero, List.getElem_cons_succ, Act.put, List.setIfInBounds_toArray, List.set_cons_zero, List.set_cons_succ]
      refine wpAnyH_take (i := 9) (v := ?vv9_1) rfl (by kernel_rfl) (by kernel_rfl) (by kernel_rfl) (fun _ _ _ h => h) (Or.inl ⟨by rfl, ?hy9_1⟩) (by assumption) ?rest9_1
      case hy9_1 => (intro w' hSw; (try dsimp only at hSw); go_simp; try with_reducible rfl)
      try simp only [List.getElem_toArray, List.getElem_cons_zero, List.getElem_cons_succ, Act.put, List.setIfInBounds_toArray, List.set_cons_zero, List.set_cons_succ]
      refine wpAnyH_take (i := 10) (v := sv v) rfl (by kernel_rfl) (by kernel_rfl) (by kernel_rfl) (fun _ _ _ h => h) (Or.inl ⟨by rfl, fun w' hSw => exec_load1 w' rfl rfl ((HI.out.below hSw HI.out.lt).c1) Tryz.underlying9 rfl⟩) (by assumption) ?_
      try simp only [List.getElem_toArray, List.getElem_cons_zero, List.getElem_cons_succ, Act.put, List.setIfInBounds_toArray, List.set_cons_zero, List.set_cons_succ]
      refine wpAnyH_ready (rs := [2]) (by kernel_rfl) (by simp) ?_
      refine AllReadyH.cons rfl (fun K hK => ?_) AllReadyH.nil
      go_simp
      refine hK.out _ _ (below_alloc W1 _).drew (fun hHeld => ?_)
      clear hK K
      try simp only [List.getElem_toArray, List.getElem_cons_zero, List.getElem_cons_succ, Act.put, List.setIfInBounds_toArray, List.set_cons_zero, List.set_cons_succ]
      refine wpAnyH_ready (rs := [3]) (by kernel_rfl) (by simp) ?_
      refine AllReadyH.cons rfl (fun K hK => ?_) AllReadyH.nil
      go_simp
      go_at_call 169
      refine (HO.out _).mono ?_
      rintro e w2 ⟨rfl, hb2⟩
      refine hK.out _ _ hb2 (fun hHeld => ?_)
      clear hK K
      try simp only [List.getElem_toArray, List.getElem_cons_zero, List.getElem_cons_succ, Act.put, List.setIfInBounds_toArray, List.set_cons_zero, List.set_cons_succ]
      refine wpAnyH_ready (rs := [7]) (by kernel_rfl) (by simp) ?_
      refine AllReadyH.cons rfl (fun K hK => ?_) AllReadyH.nil
      go_simp
      go_at_call 170
      refine (HLE.out _).mono ?_
      rintro e w3 ⟨rfl, hb3⟩
      refine hK.out _ _ (hb2.trans (hb3.mono hb2.size)) (fun hHeld => ?_)
      clear hK K
      try simp only [List.getElem_toArray, List.getElem_cons_zero, List.getElem_cons_succ, Act.put, List.setIfInBounds_toArray, List.set_cons_zero, List.set_cons_succ]
      refine wpAnyH_take (i := 8) (v := ?vv8_1) rfl (by kernel_rfl) (by kernel_rfl) (by kernel_rfl) (fun _ _ _ h => h) (Or.inl ⟨by rfl, ?hy8_1⟩) (by assumption) ?rest8_1
      case hy8_1 => (intro w' hSw; (try dsimp only at hSw); go_simp; try with_reducible rfl)
      try simp only [List.getElem_toArray, List.getElem_cons_zero, List.getElem_cons_succ, Act.put, List.setIfInBounds_toArray, List.set_cons_zero, List.set_cons_succ]
      refine wpAnyH_take (i := 11) (v := ?vv11_1) rfl (by kernel_rfl) (by kernel_rfl) (by kernel_rfl) (fun _ _ _ h => h) (Or.inl ⟨by rfl, ?hy11_1⟩) (by assumption) ?rest11_1
      case hy11_1 => (intro w' hSw; (try dsimp only at hSw); go_simp; try with_reducible rfl)
      try simp only [List.getElem_toArray, List.getElem_cons_zero, List.getElem_cons_succ, Act.put, List.setIfInBounds_toArray, List.set_cons_zero, List.set_cons_succ]
      refine wpAnyH_take (i := 12) (v := ?vv12_1) rfl (by kernel_rfl) (by kernel_rfl) (by kernel_rfl) (fun _ _ _ h => h) (Or.inl ⟨by rfl, ?hy12_1⟩) (by assumption) ?rest12_1
      case hy12_1 => (intro w' hSw; (try dsimp only at hSw); go_simp; try with_reducible rfl)
      try simp only [List.getElem_toArray, List.getElem_cons_zero, List.getElem_cons_succ, Act.put, List.setIfInBounds_toArray, List.set_cons_zero, List.set_cons_succ]
      refine wpAnyH_take (i := 13) (v := ?vv13_1) rfl (by kernel_rfl) (by kernel_rfl) (by kernel_rfl) (fun _ _ _ h => h) (Or.inl ⟨by rfl, ?hy13_1⟩) (by assumption) ?rest13_1
      case hy13_1 => (intro w' hSw; (try dsimp only at hSw); go_simp; try with_reducible rfl)
      try simp only [List.getElem_toArray, List.getElem_cons_zero, List.getElem_cons_succ, Act.put, List.setIfInBounds_toArray, List.set_cons_zero, List.set_cons_succ]
      refine wpAnyH_done (by kernel_rfl) ?_ _
      go_wp2_with fail
      trace_state
      go_ret2
      rw [HPT.out]
      exact ⟨rfl, HB.out.trans ((hb2.trans (hb3.mono hb2.size)).mono HB.out.size)⟩
end Go.Proofs.YtnaoandleelbkaaGreatDoor
