/-
  settle: a sector is taken out of the dirty ones.
-/
import Derived.Deep.CutRange
import Derived.Test.YtechpecnanodfaaDRead
namespace Go.Proofs.Ytechpecnanodfaa
open Go Go.RowKit Go.Maps
set_option maxRecDepth 100000
set_option linter.unusedSimpArgs false
set_option linter.unusedVariables false

section
variable {P : Program} (w : World) {o : Oper} {a : Act}
theorem exec_lookup_run {t : TypeId} {m x : Operand} {c : Bool} (ho : o.op = .lookup t m x c) {v u : Value} (hd : a.eval m = v) (hs : a.eval x = u) {v' : Value}
    (hr : (Instr.lookup t v u c).run P w = .ok v' w) : (execOp a.eval o).run P w = .ok (.value v') w := by
  unfold execOp
  simp only [ho, Sem.run_bind, Sem.run_pure, Result.andThen_ok, hd, hs, hr]
theorem exec_load_cell {t : TypeId} {x : Operand} (ho : o.op = .load t x) {b i : Nat} (hd : a.eval x = .pointer (some ⟨b, i, none⟩)) {v : Value} (hc : w.cell? ⟨b, i, none⟩ = some v) {k e : TypeId} (hu : P.underlying t = some (.map k e)) :
    (execOp a.eval o).run P w = .ok (.value v) w := by
  unfold execOp
  have hagg : (isAgg t).run P w = .ok false w := by
    unfold isAgg
    rw [Sem.run_bind, run_underlying hu w]
    rfl
  simp [ho, hd, Instr.loadAt, Instr.sureAddr, loadVar, hagg, run_load, hc]
end
theorem below_setRow {n : Nat} {a w : World} (h : Below n a w) {g : Nat} (hg : n ≤ g) (cs : Array Value) : Below n a (w.setRow g cs) :=
  ⟨h.os, h.tape, h.output, by simpa using h.size, fun k hk => (setRow_other w g k cs (by omega)).trans (h.block k hk)⟩
theorem SB.setOther {w : World} {g k : Nat} {l : List UInt8} (h : SB w g l) (hne : g ≠ k) (cs : Array Value) : SB (w.setRow k cs) g l := ⟨(setRow_other w k g cs hne).trans h.1, h.2⟩
theorem SB.two (w : World) : SB (((w.alloc (.cells (cellsOf zrL).toArray 66)).alloc (.cells (cellsOf zrL).toArray 66)).drew) w.heap.size zrL ∧ SB (((w.alloc (.cells (cellsOf zrL).toArray 66)).alloc (.cells (cellsOf zrL).toArray 66)).drew) (w.heap.size + 1) zrL := by
  refine ⟨((SB.new w zrL_length).alloc _).drew, ?_⟩
  have := SB.new (w.alloc (.cells (cellsOf zrL).toArray 66)) zrL_length
  rw [World.size_alloc] at this
  exact this.drew
theorem sec_size {l : List UInt8} (h : l.length = 128) : (Try.prog.info? 66).map (·.size) = some (cellsOf l).toArray.size := by rw [z66]; simp [cellsOf_length, h]
theorem sec_old {l m : List UInt8} (h : l.length = 128) (h' : m.length = 128) : (cellsOf m).toArray.size = (cellsOf l).toArray.size := by simp [cellsOf_length, h, h']
theorem dirF_st {S : DS} (h : S.Ok) {i : Nat} (hi : i < S.was.length) (m : Nat) : dirF (S.st i m) = upd (dirF S) i none := by
  funext k
  unfold dirF upd
  simp only [DS.st, getD_set, List.length_set]
  have h3 := h.hn
  have h4 := h.hw
  by_cases hk : k = i
  · subst hk
    simp [hi, h3, h4]
  · rw [if_neg hk]
    by_cases hk0 : 0 ≤ k
    · have hne : ¬ i = k.toNat := by omega
      simp [hne]
    · simp [hk0]
theorem LasF_st {S : DS} (h : S.Ok) {i : Nat} (hi : i < S.was.length) (m : Nat) {F : Int → Option (List UInt8)} (hF : LasF S F) : LasF (S.st i m) (upd F i (some (spl m (S.now.getD i []) (S.was.getD i [])))) := by
  intro k
  unfold upd
  simp only [DS.st, getD_set, List.length_set]
  refine ⟨fun hk => ?_, fun hk => ?_⟩
  · by_cases e : k = i
    · subst e
      simp [hi]
    · rw [if_neg e, if_neg (fun q => e (by have := q.1; omega))]
      exact (hF k).1 hk
  · rw [if_neg (fun e => hk (by omega))]
    exact (hF k).2 hk

set_option maxHeartbeats 4000000 in
theorem settle_any {w : World} {p bl bd : Nat} {S : DS} (h : PD w p bl bd S) {i m : Nat} (hi : i < S.was.length) (hwet : S.wet.getD i false = true) (hm : m ≤ 128) :
    Calls Try.prog 34 #[dp p, .int .i64 (i : Int), .int .i64 (m : Int)] w fun e w' => e = .returned (.tuple #[]) ∧ PD w' p bl bd (S.st i m) ∧ Kp [p, bl, bd] w w' := by
  have hok := h.ok
  have hn2 := hok.n2
  have hw : (iK (i : Int)).wf = true := wfK (by omega) (by omega)
  have HH := Lib.hid h
  have hz := hz66
  have hd : dirF S i = some (S.now.getD i []) := by unfold dirF; rw [if_pos ⟨by omega, by omega, by simpa using hwet⟩]; rfl
  have hN : ∀ W, Below w.heap.size w W → (Instr.lookup 61 (.map (some bd)) (.int .i64 (i : Int)) false).run Try.prog W = .ok (sec (S.now.getD i [])) W := by
    intro W hW
    have := (HH.out.below hW).dir.look hw
    rwa [hd] at this
  have hL : ∀ W, Below w.heap.size w W → (Instr.lookup 61 (.map (some bl)) (.int .i64 (i : Int)) false).run Try.prog W = .ok (sec (S.was.getD i [])) W := by
    intro W hW
    obtain ⟨F, hF, hl⟩ := (HH.out.below hW).las
    rw [show S.was.getD i [] = (F i).getD zrL from ((hl i).1 ⟨by omega, by omega⟩).symm]
    exact hF.look hw
  have hNl : (S.now.getD i []).length = 128 := hok.now_len hi
  have hLl : (S.was.getD i []).length = 128 := hok.was_len hi
  have HST := Lib.hid (fun (W : World) (F : Int → Option (List UInt8)) => LasF_st (m := m) hok hi (F := F))
  have HDR := Lib.hid (dirF_st hok hi m)
  have HOS := Lib.hid (hok.st hi m)
  obtain ⟨sN, HSN⟩ : ∃ s, s = S.now.getD i [] := ⟨_, rfl⟩
  obtain ⟨sL, HSL⟩ : ∃ s, s = S.was.getD i [] := ⟨_, rfl⟩
  rw [← HSN] at hN hNl
  rw [← HSL] at hL hLl
  have HN := hN
  have HL := hL
  have HE := Lib.hid (And.intro HSN HSL)
  clear hN hL HSN HSL h hd hok
  go_enter Try.func34, Try.ntmps34
  go_wp2_with fail
  go_cut [6, 7] from 8 to 19 (fun v6 v7 W => ∃ g6 g7, v6 = dp g6 ∧ v7 = dp g7 ∧ SB W g6 sN ∧ SB W g7 sL ∧ g6 ≠ g7 ∧ w.heap.size ≤ g6 ∧ w.heap.size ≤ g7 ∧ Below w.heap.size w W)
  case first =>
      refine wp_region_held_drew (S := fun W => Below w.heap.size w W) (by kernel_rfl) (Below.refl _ _).drew (fun hHeld => ?_)
      have hR : ∀ W, Below w.heap.size w W → W.cell? ⟨p, 1, none⟩ = some (.map (some bl)) ∧ W.cell? ⟨p, 2, none⟩ = some (.map (some bd)) := fun W hW => by obtain ⟨d0, d1, d2, _⟩ := (HH.out.below hW).cells; exact ⟨d1, d2⟩
      refine wpAnyH_take (i := 0) (v := ?vv0_1) rfl (by kernel_rfl) (by kernel_rfl) (by kernel_rfl) (fun _ _ _ h => h) (Or.inl ⟨by rfl, ?hy0_1⟩) (by assumption) ?rest0_1
      case hy0_1 => (intro w' hSw; (try dsimp only at hSw); go_simp; try with_reducible rfl)
      try simp only [List.getElem_toArray, List.getElem_cons_zero, List.getElem_cons_succ, Act.put, List.setIfInBounds_toArray, List.set_cons_zero, List.set_cons_succ]
      refine wpAnyH_take (i := 1) (v := ?vv1_1) rfl (by kernel_rfl) (by kernel_rfl) (by kernel_rfl) (fun _ _ _ h => h) (Or.inl ⟨by rfl, ?hy1_1⟩) (by assumption) ?rest1_1
      case hy1_1 => (intro w' hSw; (try dsimp only at hSw); go_simp; try with_reducible rfl)
      try simp only [List.getElem_toArray, List.getElem_cons_zero, List.getElem_cons_succ, Act.put, List.setIfInBounds_toArray, List.set_cons_zero, List.set_cons_succ]
      refine wpAnyH_take (i := 2) (v := ?vv2_1) rfl (by kernel_rfl) (by kernel_rfl) (by kernel_rfl) (fun _ _ _ h => h) (Or.inl ⟨by rfl, ?hy2_1⟩) (by assumption) ?rest2_1
      case hy2_1 => (intro w' hSw; (try dsimp only at hSw); go_simp; try with_reducible rfl)
      try simp only [List.getElem_toArray, List.getElem_cons_zero, List.getElem_cons_succ, Act.put, List.setIfInBounds_toArray, List.set_cons_zero, List.set_cons_succ]
      refine wpAnyH_take (i := 3) (v := .map (some bd)) rfl (by kernel_rfl) (by kernel_rfl) (by kernel_rfl) (fun _ _ _ h => h) (Or.inl ⟨by rfl, fun w' hSw => exec_load_cell w' rfl rfl (hR w' hSw).2 Try.underlying61⟩) (by assumption) ?_
      try simp only [List.getElem_toArray, List.getElem_cons_zero, List.getElem_cons_succ, Act.put, List.setIfInBounds_toArray, List.set_cons_zero, List.set_cons_succ]
      refine wpAnyH_take (i := 4) (v := ?vv4_1) rfl (by kernel_rfl) (by kernel_rfl) (by kernel_rfl) (fun _ _ _ h => h) (Or.inl ⟨by rfl, ?hy4_1⟩) (by assumption) ?rest4_1
      case hy4_1 => (intro w' hSw; (try dsimp only at hSw); go_simp; try with_reducible rfl)
      try simp only [List.getElem_toArray, List.getElem_cons_zero, List.getElem_cons_succ, Act.put, List.setIfInBounds_toArray, List.set_cons_zero, List.set_cons_succ]
      refine wpAnyH_take (i := 5) (v := sec sN) rfl (by kernel_rfl) (by kernel_rfl) (by kernel_rfl) (fun _ _ _ h => h) (Or.inl ⟨by rfl, fun w' hSw => exec_lookup_run w' rfl rfl rfl (HN w' hSw)⟩) (by assumption) ?_
      try simp only [List.getElem_toArray, List.getElem_cons_zero, List.getElem_cons_succ, Act.put, List.setIfInBounds_toArray, List.set_cons_zero, List.set_cons_succ]
      refine wpAnyH_take (i := 6) (v := ?vv6_1) rfl (by kernel_rfl) (by kernel_rfl) (by kernel_rfl) (fun _ _ _ h => h) (Or.inl ⟨by rfl, ?hy6_1⟩) (by assumption) ?rest6_1
      case hy6_1 => (intro w' hSw; (try dsimp only at hSw); go_simp; try with_reducible rfl)
      try simp only [List.getElem_toArray, List.getElem_cons_zero, List.getElem_cons_succ, Act.put, List.setIfInBounds_toArray, List.set_cons_zero, List.set_cons_succ]
      refine wpAnyH_take (i := 7) (v := ?vv7_1) rfl (by kernel_rfl) (by kernel_rfl) (by kernel_rfl) (fun _ _ _ h => h) (Or.inl ⟨by rfl, ?hy7_1⟩) (by assumption) ?rest7_1
      case hy7_1 => (intro w' hSw; (try dsimp only at hSw); go_simp; try with_reducible rfl)
      try simp only [List.getElem_toArray, List.getElem_cons_zero, List.getElem_cons_succ, Act.put, List.setIfInBounds_toArray, List.set_cons_zero, List.set_cons_succ]
      refine wpAnyH_take (i := 8) (v := ?vv8_1) rfl (by kernel_rfl) (by kernel_rfl) (by kernel_rfl) (fun _ _ _ h => h) (Or.inl ⟨by rfl, ?hy8_1⟩) (by assumption) ?rest8_1
      case hy8_1 => (intro w' hSw; (try dsimp only at hSw); go_simp; try with_reducible rfl)
      try simp only [List.getElem_toArray, List.getElem_cons_zero, List.getElem_cons_succ, Act.put, List.setIfInBounds_toArray, List.set_cons_zero, List.set_cons_succ]
      refine wpAnyH_take (i := 9) (v := .map (some bl)) rfl (by kernel_rfl) (by kernel_rfl) (by kernel_rfl) (fun _ _ _ h => h) (Or.inl ⟨by rfl, fun w' hSw => exec_load_cell w' rfl rfl (hR w' hSw).1 Try.underlying61⟩) (by assumption) ?_
      try simp only [List.getElem_toArray, List.getElem_cons_zero, List.getElem_cons_succ, Act.put, List.setIfInBounds_toArray, List.set_cons_zero, List.set_cons_succ]
      refine wpAnyH_take (i := 10) (v := ?vv10_1) rfl (by kernel_rfl) (by kernel_rfl) (by kernel_rfl) (fun _ _ _ h => h) (Or.inl ⟨by rfl, ?hy10_1⟩) (by assumption) ?rest10_1
      case hy10_1 => (intro w' hSw; (try dsimp only at hSw); go_simp; try with_reducible rfl)
      try simp only [List.getElem_toArray, List.getElem_cons_zero, List.getElem_cons_succ, Act.put, List.setIfInBounds_toArray, List.set_cons_zero, List.set_cons_succ]
      refine wpAnyH_take (i := 11) (v := sec sL) rfl (by kernel_rfl) (by kernel_rfl) (by kernel_rfl) (fun _ _ _ h => h) (Or.inl ⟨by rfl, fun w' hSw => exec_lookup_run w' rfl rfl rfl (HL w' hSw)⟩) (by assumption) ?_
      try simp only [List.getElem_toArray, List.getElem_cons_zero, List.getElem_cons_succ, Act.put, List.setIfInBounds_toArray, List.set_cons_zero, List.set_cons_succ]
      refine wpAnyH_ready (rs := [12, 13]) (by kernel_rfl) (by simp) ?_
      refine AllReadyH.cons rfl (fun K hK => ?_) (AllReadyH.cons rfl (fun K hK => ?_) AllReadyH.nil)
      · go_simp
        refine hK.out _ _ (hHeld.alloc hHeld.size _) (fun hHeld => ?_)
        clear hK K
        try simp only [List.getElem_toArray, List.getElem_cons_zero, List.getElem_cons_succ, Act.put, List.setIfInBounds_toArray, List.set_cons_zero, List.set_cons_succ]
        refine wpAnyH_ready (rs := [13]) (by kernel_rfl) (by simp) ?_
        refine AllReadyH.cons rfl (fun K hK => ?_) AllReadyH.nil
        go_simp
        refine hK.out _ _ (hHeld.alloc hHeld.size _) (fun hHeld => ?_)
        clear hK K
        try simp only [List.getElem_toArray, List.getElem_cons_zero, List.getElem_cons_succ, Act.put, List.setIfInBounds_toArray, List.set_cons_zero, List.set_cons_succ]
        refine wpAnyH_ready (rs := [14]) (by kernel_rfl) (by simp) ?_
        refine AllReadyH.cons rfl (fun K hK => ?_) AllReadyH.nil
        rw [if_pos (by rfl)]
        refine wp_store_row _ _ _ rfl w.heap.size (cellsOf sN).toArray rfl rfl _ _ (SB.two w).1.1 (sec_size hNl) (sec_old hNl zrL_length) (cells_all sN) ?_
        refine hK.out _ _ (below_setRow hHeld (by omega) _) (fun hHeld => ?_)
        clear hK K
        try simp only [List.getElem_toArray, List.getElem_cons_zero, List.getElem_cons_succ, Act.put, List.setIfInBounds_toArray, List.set_cons_zero, List.set_cons_succ]
        refine wpAnyH_ready (rs := [15]) (by kernel_rfl) (by simp) ?_
        refine AllReadyH.cons rfl (fun K hK => ?_) AllReadyH.nil
        rw [if_pos (by rfl)]
        refine wp_store_row _ _ _ rfl (w.heap.size + 1) (cellsOf sL).toArray rfl rfl _ _ ((SB.two w).2.setOther (by omega) _).1 (sec_size hLl) (sec_old hLl zrL_length) (cells_all sL) ?_
        refine hK.out _ _ (below_setRow hHeld (by omega) _) (fun hHeld => ?_)
        clear hK K
        try simp only [List.getElem_toArray, List.getElem_cons_zero, List.getElem_cons_succ, Act.put, List.setIfInBounds_toArray, List.set_cons_zero, List.set_cons_succ]
        refine wpAnyH_done (by kernel_rfl) ?_ _
        go_wp2_with fail
        go_meet
        case rel => exact ⟨w.heap.size, (w.heap.size + 1), rfl, rfl, ((SB.two w).1.set hNl).setOther (by omega) _, ((SB.two w).2.setOther (by omega) _).set hLl, by omega, by omega, by omega, hHeld⟩
      · go_simp
        refine hK.out _ _ (hHeld.alloc hHeld.size _) (fun hHeld => ?_)
        clear hK K
        try simp only [List.getElem_toArray, List.getElem_cons_zero, List.getElem_cons_succ, Act.put, List.setIfInBounds_toArray, List.set_cons_zero, List.set_cons_succ]
        refine wpAnyH_ready (rs := [12]) (by kernel_rfl) (by simp) ?_
        refine AllReadyH.cons rfl (fun K hK => ?_) AllReadyH.nil
        go_simp
        refine hK.out _ _ (hHeld.alloc hHeld.size _) (fun hHeld => ?_)
        clear hK K
        try simp only [List.getElem_toArray, List.getElem_cons_zero, List.getElem_cons_succ, Act.put, List.setIfInBounds_toArray, List.set_cons_zero, List.set_cons_succ]
        refine wpAnyH_ready (rs := [14]) (by kernel_rfl) (by simp) ?_
        refine AllReadyH.cons rfl (fun K hK => ?_) AllReadyH.nil
        rw [if_pos (by rfl)]
        refine wp_store_row _ _ _ rfl (w.heap.size + 1) (cellsOf sN).toArray rfl rfl _ _ (SB.two w).2.1 (sec_size hNl) (sec_old hNl zrL_length) (cells_all sN) ?_
        refine hK.out _ _ (below_setRow hHeld (by omega) _) (fun hHeld => ?_)
        clear hK K
        try simp only [List.getElem_toArray, List.getElem_cons_zero, List.getElem_cons_succ, Act.put, List.setIfInBounds_toArray, List.set_cons_zero, List.set_cons_succ]
        refine wpAnyH_ready (rs := [15]) (by kernel_rfl) (by simp) ?_
        refine AllReadyH.cons rfl (fun K hK => ?_) AllReadyH.nil
        rw [if_pos (by rfl)]
        refine wp_store_row _ _ _ rfl w.heap.size (cellsOf sL).toArray rfl rfl _ _ ((SB.two w).1.setOther (by omega) _).1 (sec_size hLl) (sec_old hLl zrL_length) (cells_all sL) ?_
        refine hK.out _ _ (below_setRow hHeld (by omega) _) (fun hHeld => ?_)
        clear hK K
        try simp only [List.getElem_toArray, List.getElem_cons_zero, List.getElem_cons_succ, Act.put, List.setIfInBounds_toArray, List.set_cons_zero, List.set_cons_succ]
        refine wpAnyH_done (by kernel_rfl) ?_ _
        go_wp2_with fail
        go_meet
        case rel => exact ⟨(w.heap.size + 1), w.heap.size, rfl, rfl, ((SB.two w).2.set hNl).setOther (by omega) _, ((SB.two w).1.setOther (by omega) _).set hLl, by omega, by omega, by omega, hHeld⟩
  case rest =>
    obtain ⟨g6, g7, rfl, rfl, h6, h7, hne, hn6, hn7, hbl⟩ := hcut
    have H6 := Lib.hid h6
    have H7 := Lib.hid h7
    have HB := Lib.hid hbl
    have hm0 : (0 : Int) ≤ (m : Int) := by omega
    have hm1 : (m : Int) ≤ 128 := by omega
    clear h6 h7 hbl HN HL hz
    go_wp2_with fail
    go_still_tail 3, (by kernel_rfl)
    change wpList _ _ _ _ _ wc.drew
    refine wpList_builtin2_run _ rfl .copy Builtin.copy_ _ _ _ _ rfl (fun _ _ _ => rfl) _ _ rfl rfl (SB.part H7.out.drew H6.out.drew hm _ _ _) ?_
    have hsp := spl_len (m := m) hNl hLl
    have hS7 : SB (wc.drew.setRow g7 (cellsOf (spl m sN sL)).toArray) g7 (spl m sN sL) := H7.out.drew.set hsp
    have hB3 : Below w.heap.size w (wc.drew.setRow g7 (cellsOf (spl m sN sL)).toArray) := below_setRow HB.out.drew hn7 _
    generalize wc.drew.setRow g7 (cellsOf (spl m sN sL)).toArray = w3 at hS7 hB3 ⊢
    obtain ⟨d0, d1, d2, d3, d4, d5⟩ := (HH.out.below hB3).cells
    have HS7 := Lib.hid hS7
    have HB3 := Lib.hid hB3
    clear hS7 hB3 H6 H7 HB hm0 hm1
    go_wp2_with fail
    go_still_tail 6, (by kernel_rfl)
    refine wpStill_load_run w3.drew rfl _ _ rfl (.pointer (some ⟨g7, 0, none⟩)) rfl HS7.out.drew.loadAt ?_
    refine wpStill_nil ?_
    change wpList _ _ _ _ _ w3.drew
    have hP3 : PD w3.drew p bl bd S := HH.out.below HB3.out.drew
    obtain ⟨F, hF, hlF⟩ := hP3.las
    obtain ⟨w4, hup, hm4, ht4⟩ := hF.store (k := (i : Int)) (by omega) (by omega) hsp
    refine wpList_update_run _ rfl _ _ _ _ rfl _ _ _ rfl rfl rfl hup ?_
    have hk4 : Kp [bl] w3.drew w4 := (Kp.refl _ _).map ht4 (.inl (by simp))
    have hd4 : MP w4 bd (dirF S) := hP3.dir.kp hk4 (by simp; exact fun e => hP3.ne e.symm)
    have hb4 := (hk4.block p hP3.lt.1 (by simp; exact hP3.ne_l)).trans hP3.blk
    have c2 : w4.cell? ⟨p, 2, none⟩ = some (.map (some bd)) := cellAt hb4 2
    obtain ⟨w5, hdl, hm5, ht5⟩ := hd4.drop hw 0
    have hk5 : Kp [bd] w4 w5 := (Kp.refl _ _).map ht5 (.inl (by simp))
    have HFIN : PD w5 p bl bd (S.st i m) := by
      refine ⟨HOS.out, ?_, ⟨_, hm4.kp hk5 (by simp; exact hP3.ne), ?_⟩, by rw [HDR.out]; exact hm5, hP3.ne⟩
      · have := (hk5.block p (lt_of_blk hb4) (by simp; exact hP3.ne_d)).trans hb4
        rw [this]
        simp [dCells, DS.st]
      · rw [HE.out.1, HE.out.2]
        exact HST.out w _ hlF
    have HKF : Kp [p, bl, bd] w w5 := ((Kp.of_below HB3.out.drew _).trans hk4 (fun k hk _ => by simp at hk; simp [hk])).trans hk5 (fun k hk _ => by simp at hk; simp [hk])
    have HX := Lib.hid (And.intro HFIN HKF)
    clear HFIN HKF hk5 ht5 hm5 hd4 hk4 ht4 hm4 hup hF hlF hP3 d0 d1 d2 d3 d4 d5 hb4
    go_wp2_with fail
    go_end0
    exact ⟨rfl, HX.out.1, HX.out.2⟩
end Go.Proofs.Ytechpecnanodfaa

