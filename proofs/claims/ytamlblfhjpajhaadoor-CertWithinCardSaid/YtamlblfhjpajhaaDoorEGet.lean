/-
  The contracts of Get; of the laws' wrong.
-/
import Derived.Test.YtamlblfhjpajhaaDoorECutP
namespace Go.Proofs.YtamlblfhjpajhaaDoor
set_option linter.unusedSimpArgs false
set_option linter.unusedVariables false
open Go Go.RowKit
set_option maxRecDepth 100000

section
variable {P : Program} (w : World) {o : Oper} {a : Act}
theorem exec_load_row {t : TypeId} {x : Operand} (ho : o.op = .load t x) {b : Nat} (hd : a.eval x = .pointer (some ⟨b, 0, none⟩)) {cs : Array Value} {ty : TypeId} {fr : Nat × Nat} (hc : w.heap[b]? = some (.cells cs ty fr)) {d : TypeDesc} (hu : P.underlying t = some d) (hn : (match d with | .struct _ | .array _ _ => true | _ => false) = true)
    (hi : (P.info? t).map (·.size) = some cs.size) : (execOp a.eval o).run P w = .ok (.value (.agg cs)) w := by
  unfold execOp
  simp [ho, hd, Instr.loadAt, Instr.sureAddr, run_loadVar_row w b ty t cs fr d hc hu hn hi]
end
theorem cutP_len {s r v : List UInt8} {t : UInt8} (h : cutP s = .ok ((t, v), r)) : r.length ≤ s.length ∧ v.length ≤ 65535 ∧ r.length + 2 ≤ s.length := by
  obtain ⟨h1, h2, rfl⟩ := cutP_ok h
  have h3 := putT_length t v
  have h4 := lenL_length v.length
  simp; omega
/-- At Get's end. -/
theorem get_end {w W : World} {k : Nat} {t : UInt8} {v : List UInt8} (hI : IB W k t v) (hB : Below w.heap.size w W) (tmps : Array Value) (r : List UInt8) (e : Int)
    (h2 : tmps.getD 2 undef = .pointer (some ⟨k, 0, none⟩)) (h3 : tmps.getD 3 undef = sv r) (h4 : tmps.getD 4 undef = .int .i64 e) {x : Rd (Tv × List UInt8)} (hx : cutV x = .tuple #[itv t v, sv r, .int .i64 e]) :
    bodyPost Tryd.prog Tryd.f45 (fun e w' => e = .returned (cutV x) ∧ Below w.heap.size w w') Exit.ret { tmps := tmps, defers := [] } W := by
  refine bodyPost_ret (v := .tuple #[itv t v, sv r, .int .i64 e]) ?_ rfl ⟨by rw [hx], hB⟩
  rw [results_row_tmp2 (p := 2) (u := 3) (v := 4) (fr := (0, 0)) Tryd.results45 tmps W k 58 _ _ h2 hI Tryd.underlying58 rfl (by kernel_rfl), h3, h4]
  rfl

/-- Get, of what cut tells. -/
theorem get_of {w : World} {s : List UInt8} {t : UInt8} {v r : List UInt8} {e : Int} (hr : r.length ≤ 281474976710656) {y : Rd (Tv × List UInt8)} (hy : cutV y = .tuple #[itv t v, sv r, .int .i64 e])
    (hcut : ∀ W, Calls Tryd.prog 58 #[sv s] W fun z w' => z = .returned (.tuple #[itv t v, sv r, .int .i64 e]) ∧ Below W.heap.size W w') :
    Calls Tryd.prog 45 #[sv s] w fun z w' => z = .returned (cutV y) ∧ Below w.heap.size w w' := by
  have hB := below_alloc w (.cells #[.int .u8 0, sv []] 58)
  have hI := IB.new w 0 []
  obtain ⟨W1, hW⟩ : ∃ W1, W1 = w.alloc (.cells #[.int .u8 0, sv []] 58) := ⟨_, rfl⟩
  obtain ⟨k, hk⟩ : ∃ k, k = w.heap.size := ⟨_, rfl⟩
  have hI' : IB W1 k 0 [] := by rw [hW, hk]; exact hI
  rw [← hW] at hB
  have HB := Lib.hid hB
  have HI := Lib.hid hI'
  have HW := Lib.hid hW
  have HK := Lib.hid hk
  have HKN := Lib.hid (show w.heap.size ≤ k by rw [hk]; exact Nat.le_refl _)
  have HY := Lib.hid hy
  have HC := Lib.hid hcut
  have HCL := Lib.hid (fun W => @clone_anyE W r hr)
  unfold itv at HC
  clear hI hI' hB hW hk hy hcut hr
  go_enter Tryd.func45, Tryd.ntmps45
  go_wp2_with (go_at_call 58; rw [← HW.out, ← HK.out]; refine (HC.out _).mono ?_; rintro z w2 ⟨rfl, hb2⟩; have hI2 := HI.out.below hb2 HI.out.lt; have HI2 := Lib.hid hI2; have d0 : w2.cell? ⟨k, 0, none⟩ = some (.int .u8 0) := hI2.c0; have d1 := hI2.c1; have g0 := hI2.free 0; have g1 := hI2.free 1; clear hI2)
  have hI3 := HI2.out.put t v
  have hB3 := below_put2 (HB.out.trans (hb2.mono HB.out.size)) HKN.out (.int .u8 (t.toNat : Int)) (sv v)
  generalize (w2.setCell ⟨k, 0, none⟩ (.int .u8 (t.toNat : Int))).setCell ⟨k, 1, none⟩ (sv v) = W3 at hI3 hB3 ⊢
  have HI3 := Lib.hid hI3
  have HB3 := Lib.hid hB3
  clear hI3 hB3 d0 d1 g0 g1 hb2
  refine wp_region_held_drew (S := fun W => IB W k t v ∧ Below w.heap.size w W) (by kernel_rfl) ⟨HI3.out, HB3.out.drew⟩ (fun hHeld => ?_)
  refine wpAnyH_take (i := 0) (v := itv t v) rfl (by kernel_rfl) (by kernel_rfl) (by kernel_rfl) (fun _ _ _ h => h) (Or.inl ⟨by rfl, fun w' hSw => exec_load_row w' rfl rfl hSw.1 Tryd.underlying58 rfl (by kernel_rfl)⟩) (by assumption) ?_
  try simp only [List.getElem_toArray, List.getElem_cons_zero, List.getElem_cons_succ, Act.put, List.setIfInBounds_toArray, List.set_cons_zero, List.set_cons_succ]
  refine wpAnyH_take (i := 1) (v := ?vv1_1) rfl (by kernel_rfl) (by kernel_rfl) (by kernel_rfl) (fun _ _ _ h => h) (Or.inl ⟨by rfl, ?hy1_1⟩) (by assumption) ?rest1_1
  case hy1_1 => (intro w' hSw; (try dsimp only at hSw); go_simp; try with_reducible rfl)
  try simp only [List.getElem_toArray, List.getElem_cons_zero, List.getElem_cons_succ, Act.put, List.setIfInBounds_toArray, List.set_cons_zero, List.set_cons_succ]
  refine wpAnyH_take (i := 3) (v := ?vv3_1) rfl (by kernel_rfl) (by kernel_rfl) (by kernel_rfl) (fun _ _ _ h => h) (Or.inl ⟨by rfl, ?hy3_1⟩) (by assumption) ?rest3_1
  case hy3_1 => (intro w' hSw; (try dsimp only at hSw); go_simp; try with_reducible rfl)
  try simp only [List.getElem_toArray, List.getElem_cons_zero, List.getElem_cons_succ, Act.put, List.setIfInBounds_toArray, List.set_cons_zero, List.set_cons_succ]
  refine wpAnyH_ready (rs := [2]) (by kernel_rfl) (by simp) ?_
  refine AllReadyH.cons rfl (fun K hK => ?_) AllReadyH.nil
  go_simp
  go_at_call 59
  refine (HCL.out _).mono ?_
  rintro z w5 ⟨rfl, hb5'⟩
  have hb5 : Below W3.heap.size W3 w5 := (Below.refl _ _).drew.trans (hb5'.mono (Nat.le_refl _))
  clear hb5'
  have hI5 := HI3.out.below hb5 HI3.out.lt
  have HI5 := Lib.hid hI5
  have hB5 := HB3.out.trans (hb5.mono HB3.out.size)
  have d0 := hI5.c0
  have d1 := hI5.c1
  have g0 := hI5.free 0
  have g1 := hI5.free 1
  clear hI5
  refine hK.out _ _ ⟨HI5.out, hB5⟩ (fun hHeld => ?_)
  clear hK K
  try simp only [List.getElem_toArray, List.getElem_cons_zero, List.getElem_cons_succ, Act.put, List.setIfInBounds_toArray, List.set_cons_zero, List.set_cons_succ]
  refine wpAnyH_ready (rs := [4]) (by kernel_rfl) (by simp) ?_
  refine AllReadyH.cons rfl (fun K hK => ?_) AllReadyH.nil
  unfold itv
  go_simp
  refine hK.out _ _ ⟨HI5.out.put t v, below_put2 hB5 HKN.out _ _⟩ (fun hHeld => ?_)
  clear hK K
  try simp only [List.getElem_toArray, List.getElem_cons_zero, List.getElem_cons_succ, Act.put, List.setIfInBounds_toArray, List.set_cons_zero, List.set_cons_succ]
  refine wpAnyH_take (i := 5) (v := ?vv5_1) rfl (by kernel_rfl) (by kernel_rfl) (by kernel_rfl) (fun _ _ _ h => h) (Or.inl ⟨by rfl, ?hy5_1⟩) (by assumption) ?rest5_1
  case hy5_1 => (intro w' hSw; (try dsimp only at hSw); go_simp; try with_reducible rfl)
  try simp only [List.getElem_toArray, List.getElem_cons_zero, List.getElem_cons_succ, Act.put, List.setIfInBounds_toArray, List.set_cons_zero, List.set_cons_succ]
  refine wpAnyH_take (i := 6) (v := ?vv6_1) rfl (by kernel_rfl) (by kernel_rfl) (by kernel_rfl) (fun _ _ _ h => h) (Or.inl ⟨by rfl, ?hy6_1⟩) (by assumption) ?rest6_1
  case hy6_1 => (intro w' hSw; (try dsimp only at hSw); go_simp; try with_reducible rfl)
  try simp only [List.getElem_toArray, List.getElem_cons_zero, List.getElem_cons_succ, Act.put, List.setIfInBounds_toArray, List.set_cons_zero, List.set_cons_succ]
  refine wpAnyH_done (by kernel_rfl) ?_ _
  go_wp2_with fail
  exact get_end (t := t) (v := v) (HI5.out.put t v) (below_put2 hB5 HKN.out _ _) _ r e rfl rfl rfl HY.out
end Go.Proofs.YtamlblfhjpajhaaDoor
