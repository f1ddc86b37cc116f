/-
  The laws' step.
-/
import Derived.Test.YtechpecnanodfaaDWorks2
namespace Go.Proofs.Ytechpecnanodfaa
open Go Go.RowKit Go.Maps
set_option maxRecDepth 100000
set_option linter.unusedSimpArgs false
set_option linter.unusedVariables false

section
variable {P : Program} (w : World) {o : Oper} {a : Act}
theorem exec_load1 {t : TypeId} {x : Operand} (ho : o.op = .load t x) {b i : Nat} (hd : a.eval x = .pointer (some ⟨b, i, none⟩)) {v : Value} (hc : w.cell? ⟨b, i, none⟩ = some v) {d : TypeDesc} (hu : P.underlying t = some d) (hn : (match d with | .struct _ | .array _ _ => true | _ => false) = false) :
    (execOp a.eval o).run P w = .ok (.value v) w := by
  unfold execOp
  have hagg : (isAgg t).run P w = .ok false w := by
    unfold isAgg
    rw [Sem.run_bind, run_underlying hu w]
    cases d <;> simp_all
  simp [ho, hd, Instr.loadAt, Instr.sureAddr, loadVar, hagg, run_load, hc]
theorem exec_load_row {t : TypeId} {x : Operand} (ho : o.op = .load t x) {b : Nat} (hd : a.eval x = .pointer (some ⟨b, 0, none⟩)) {cs : Array Value} {ty : TypeId} {fr : Nat × Nat} (hc : w.heap[b]? = some (.cells cs ty fr)) {d : TypeDesc} (hu : P.underlying t = some d) (hn : (match d with | .struct _ | .array _ _ => true | _ => false) = true)
    (hi : (P.info? t).map (·.size) = some cs.size) : (execOp a.eval o).run P w = .ok (.value (.agg cs)) w := by
  unfold execOp
  simp [ho, hd, Instr.loadAt, Instr.sureAddr, run_loadVar_row w b ty t cs fr d hc hu hn hi]
end
def stC (s : SD) : Array Value := #[.int .u8 (s.wh.toNat : Int), .int .i64 s.a, .int .u8 (s.y.toNat : Int), .int .i64 s.odd, .slice s.kA s.keep.length s.kc]
theorem stC_size {s : SD} : (Try.prog.info? 48).map (·.size) = some (stC s).size := by
  have h : (Try.prog.info? 48).map (·.size) = some 5 := by kernel_rfl
  rw [h]; rfl
/-- What a step does. -/
def DS.step (S : DS) (s : SD) : DS :=
  if s.wh = 0 then S.wr s.a (stB s.odd s.y) else if s.wh = 1 then S.sync else if s.wh = 2 then S.fail s.a else if s.wh = 3 then S.boot s.keep else S

theorem u8_ne {x y : UInt8} (h : x ≠ y) : ((x.toNat : Int) == (y.toNat : Int)) = false := by
  rw [beq_eq_false_iff_ne]
  intro e
  exact h (UInt8.toNat_inj.1 (by omega))

set_option maxHeartbeats 2000000 in
theorem step_o {w0 w : World} {os : List Ob} (h : Obs w0 w os) {p bl bd : Nat} {S : DS} (i : Nat) (hi : os[i]? = some (pdOb p bl bd S)) (hops : S.ops < 4611686018427387904) {s : SD} (hs : s.Ok w) (hkA : ∀ x, s.kA = some x → s.keep ≠ [] → x.block ∉ [p, bl, bd]) (hkl : s.keep.length ≤ 100000) :
    Calls Try.prog 30 #[dp p, s.val] w fun e w' => e = .returned (.tuple #[]) ∧ Obs w0 w' (os.set i (pdOb p bl bd (S.step s))) := by
  have CB := Lib.hid (fun W : World => bytes_any (w := W) s.wh s.a s.y (odd := s.odd) (.slice s.kA s.keep.length s.kc) rfl hs.odd)
  have hg := heap_alloc_new w (.cells (stC s) 48)
  have H1 := Lib.hid (h.alloc (.cells (stC s) 48))
  have HS := Lib.hid (hs.kp (Kp.of_below ((Below.refl _ _).alloc (Nat.le_refl _) (.cells (stC s) 48)) []) (by simp))
  have HST := Lib.hid (show S.step s = if s.wh = 0 then S.wr s.a (stB s.odd s.y) else if s.wh = 1 then S.sync else if s.wh = 2 then S.fail s.a else if s.wh = 3 then S.boot s.keep else S from rfl)
  have c0 : (w.alloc (.cells (stC s) 48)).cell? ⟨w.heap.size, 0, none⟩ = some (.int .u8 (s.wh.toNat : Int)) := cellAt hg 0
  have c1 : (w.alloc (.cells (stC s) 48)).cell? ⟨w.heap.size, 1, none⟩ = some (.int .i64 s.a) := cellAt hg 1
  have c4 : (w.alloc (.cells (stC s) 48)).cell? ⟨w.heap.size, 4, none⟩ = some (.slice s.kA s.keep.length s.kc) := cellAt hg 4
  have HNG0 := Lib.hid (show w.heap.size ∉ [p, bl, bd] from fun hm => by have := (h.get hi : PD w p bl bd S).lts _ hm; omega)
  clear h hs
  rw [show s.val = .agg (stC s) from rfl]
  go_enter Try.func30, Try.ntmps30
  go_upto_region 1 with fail
  generalize w.alloc (.cells (stC s) 48) = w1 at hg H1 HS c0 c1 c4 ⊢
  obtain ⟨g, hge⟩ : ∃ g, g = w.heap.size := ⟨_, rfl⟩
  rw [← hge] at hg c0 c1 c4 HNG0 ⊢
  have HNG := HNG0
  have HG := Lib.hid hg
  clear hge hg
  by_cases h0 : s.wh = 0
  · have e0 : (s.wh.toNat : Int) = 0 := by rw [h0]; rfl
    rw [e0] at c0
    have HR := Lib.hid (HST.out.trans (if_pos h0))
    clear e0 h0
    go_wp2_with fail
    refine wp_region_held_drew (S := fun W => W.heap[g]? = some (.cells (stC s) 48 (0, 0))) (by kernel_rfl) HG.out (fun hHeld => ?_)
    refine wpAnyH_take (i := 0) (v := ?vv0_1) rfl (by kernel_rfl) (by kernel_rfl) (by kernel_rfl) (fun _ _ _ h => h) (Or.inl ⟨by rfl, ?hy0_1⟩) (by assumption) ?rest0_1
    case hy0_1 => (intro w' hSw; (try dsimp only at hSw); go_simp; try with_reducible rfl)
    try simp only [List.getElem_toArray, List.getElem_cons_zero, List.getElem_cons_succ, Act.put, List.setIfInBounds_toArray, List.set_cons_zero, List.set_cons_succ]
    refine wpAnyH_take (i := 1) (v := ?vv1_1) rfl (by kernel_rfl) (by kernel_rfl) (by kernel_rfl) (fun _ _ _ h => h) (Or.inl ⟨by rfl, ?hy1_1⟩) (by assumption) ?rest1_1
    case hy1_1 => (intro w' hSw; (try dsimp only at hSw); go_simp; try with_reducible rfl)
    try simp only [List.getElem_toArray, List.getElem_cons_zero, List.getElem_cons_succ, Act.put, List.setIfInBounds_toArray, List.set_cons_zero, List.set_cons_succ]
    refine wpAnyH_take (i := 2) (v := .int .i64 s.a) rfl (by kernel_rfl) (by kernel_rfl) (by kernel_rfl) (fun _ _ _ h => h) (Or.inl ⟨by rfl, fun w' hSw => exec_load1 w' rfl rfl (cellAt hSw 1) Try.underlying3 rfl⟩) (by assumption) ?_
    try simp only [List.getElem_toArray, List.getElem_cons_zero, List.getElem_cons_succ, Act.put, List.setIfInBounds_toArray, List.set_cons_zero, List.set_cons_succ]
    refine wpAnyH_take (i := 3) (v := .agg (stC s)) rfl (by kernel_rfl) (by kernel_rfl) (by kernel_rfl) (fun _ _ _ h => h) (Or.inl ⟨by rfl, fun w' hSw => exec_load_row w' rfl rfl hSw Try.underlying48 rfl stC_size⟩) (by assumption) ?_
    try simp only [List.getElem_toArray, List.getElem_cons_zero, List.getElem_cons_succ, Act.put, List.setIfInBounds_toArray, List.set_cons_zero, List.set_cons_succ]
    refine wpAnyH_ready (rs := [4]) (by kernel_rfl) (by simp) ?_
    refine AllReadyH.cons rfl (fun K hK => ?_) AllReadyH.nil
    go_simp
    refine (CB.out _).mono ?_
    rintro e wa ⟨rfl, hb1⟩
    (try go_wp2_with fail)
    refine hK.out _ _ ((hb1.block g (lt_of_blk hHeld)).trans hHeld) (fun hHeld => ?_)
    clear hK K
    try simp only [List.getElem_toArray, List.getElem_cons_zero, List.getElem_cons_succ, Act.put, List.setIfInBounds_toArray, List.set_cons_zero, List.set_cons_succ]
    have K1 := Lib.hid (H1.out.drew.step hb1)
    refine wpAnyH_ready (rs := [5]) (by kernel_rfl) (by simp) ?_
    refine AllReadyH.cons rfl (fun K hK => ?_) AllReadyH.nil
    go_simp
    refine (write_any (K1.out.get hi) hops s.a (stB s.odd s.y) (by have := stB_le s.odd s.y; omega)).mono ?_
    rintro e wb ⟨rfl, hPb, hkb⟩
    (try go_wp2_with fail)
    refine hK.out _ _ ((hkb.block g (lt_of_blk hHeld) HNG.out).trans hHeld) (fun hHeld => ?_)
    clear hK K
    try simp only [List.getElem_toArray, List.getElem_cons_zero, List.getElem_cons_succ, Act.put, List.setIfInBounds_toArray, List.set_cons_zero, List.set_cons_succ]
    refine wpAnyH_done (by kernel_rfl) ?_ _
    go_wp2_with fail
    go_end0
    exact ⟨rfl, by rw [HR.out]; exact K1.out.turnD i hi hPb hkb⟩
  · have e0 : ((s.wh.toNat : Int) == 0) = false := u8_ne (y := 0) h0
    by_cases h1 : s.wh = 1
    · have e1 : (s.wh.toNat : Int) = 1 := by rw [h1]; rfl
      rw [e1] at c0 e0
      have HR := Lib.hid ((HST.out.trans (if_neg h0)).trans (if_pos h1))
      clear e1 h0 h1
      go_wp2_with (go_at_call 13; refine (sync_o H1.out i hi hops).mono ?_; rintro e wa ⟨rfl, h2⟩)
      go_end0
      exact ⟨rfl, by rw [HR.out]; exact h2⟩
    · have e1 : ((s.wh.toNat : Int) == 1) = false := u8_ne (y := 1) h1
      by_cases h2 : s.wh = 2
      · have e2 : (s.wh.toNat : Int) = 2 := by rw [h2]; rfl
        rw [e2] at c0 e0 e1
        have HR := Lib.hid (((HST.out.trans (if_neg h0)).trans (if_neg h1)).trans (if_pos h2))
        clear e2 h0 h1 h2
        go_wp2_with (go_at_call 8; refine (fail_o H1.out i hi HS.out.a).mono ?_; rintro e wa ⟨rfl, h2⟩)
        go_end0
        exact ⟨rfl, by rw [HR.out]; exact h2⟩
      · have e2 : ((s.wh.toNat : Int) == 2) = false := u8_ne (y := 2) h2
        by_cases h3 : s.wh = 3
        · have e3 : (s.wh.toNat : Int) = 3 := by rw [h3]; rfl
          rw [e3] at c0 e0 e1 e2
          have HR := Lib.hid ((((HST.out.trans (if_neg h0)).trans (if_neg h1)).trans (if_neg h2)).trans (if_pos h3))
          clear e3 h0 h1 h2 h3
          go_wp2_with (go_at_call 14; refine (boot_o H1.out i hi HS.out.ir hkA hkl).mono ?_; rintro e wa ⟨rfl, h2⟩)
          go_end0
          exact ⟨rfl, by rw [HR.out]; exact h2⟩
        · have e3 : ((s.wh.toNat : Int) == 3) = false := u8_ne (y := 3) h3
          have HR := Lib.hid ((((HST.out.trans (if_neg h0)).trans (if_neg h1)).trans (if_neg h2)).trans (if_neg h3))
          have HX := Lib.hid (show os.set i (pdOb p bl bd S) = os by
            refine List.ext_getElem? fun j => ?_
            rw [List.getElem?_set]
            have hil : i < os.length := (List.getElem?_eq_some_iff.1 hi).1
            by_cases e : i = j
            · subst e; rw [if_pos rfl, if_pos hil, hi]
            · rw [if_neg e])
          clear h0 h1 h2 h3
          generalize (s.wh.toNat : Int) = x at c0 e0 e1 e2 e3
          go_wp2_with fail
          go_end0
          exact ⟨rfl, by rw [HR.out, HX.out]; exact H1.out⟩
end Go.Proofs.Ytechpecnanodfaa

