/-
  Read of the program's disk.
  settle: a sector is taken out of the dirty ones.
  Copy of the program's disk.
  Sync, kept and Boot of the program's disk.
  kept and Boot of the program's disk.
-/
import Derived.Test.YthfnncahmccgkaaGreatDoorDPrM
import Derived.Deep.CutRange
namespace Go.Proofs.YthfnncahmccgkaaGreatDoor
open Go Go.RowKit Go.Maps
set_option maxRecDepth 100000
set_option linter.unusedSimpArgs false
set_option linter.unusedVariables false

theorem store_newC (W : World) {l : List UInt8} (hl : l.length = 128) : (storeCells ⟨W.heap.size, 0, none⟩ (cellsOf l)).run Tryz.prog (W.alloc (.cells (cellsOf zrL).toArray 92)) = .ok () (W.alloc (.cells (cellsOf l).toArray 92)) := by
  have := run_storeCells_new (P := Tryz.prog) W 92 (cellsOf zrL).toArray (cellsOf l).toArray (by rw [z66]; simp [cellsOf_length, hl]) (by simp [cellsOf_length, hl, zrL_length]) (cells_all l)
  simpa using this
theorem store_rowC {W : World} {g : Nat} {m l : List UInt8} (h : SB W g m) (hl : l.length = 128) : (storeCells ⟨g, 0, none⟩ (cellsOf l)).run Tryz.prog W = .ok () (W.setRow g (cellsOf l).toArray) := by
  have := run_storeCells_at Tryz.prog g 0 _ (cellsOf l) 0 _ W h.1 (by simp [cellsOf_length, hl, h.2]) (cellsOf_one l)
  rw [this]
  congr 2
  have hd : List.drop 128 (cellsOf m) = [] := List.drop_eq_nil_of_le (by simp [cellsOf_length, h.2])
  simp [cellsOf_length, hl, hd]

set_option maxHeartbeats 2000000 in
theorem read_any {w : World} {p bl bd : Nat} {S : DS} (h : PD w p bl bd S) (a : Int) :
    Calls Tryz.prog 59 #[dp p, .int .i64 a] w fun e w' => e = .returned (.tuple #[sv (S.rdV a), .int .i64 (S.rdE a)]) ∧ Below w.heap.size w w' := by
  obtain ⟨c0, c1, c2, c3, c4, c5⟩ := h.cells
  have HAS := fun W hW => has_any (w := W) (p := p) (bl := bl) (bd := bd) (S := S) hW a
  have HH := Lib.hid h
  have hz := hz66
  clear h
  go_enter Tryz.func59, Tryz.ntmps59
  cases hoff : S.off with
  | true =>
    rw [hoff] at c5
    go_wp2_with fail
    go_ret2
    exact ⟨by simp [DS.rdE, DS.rdV, hoff], Below.refl _ _⟩
  | false =>
    rw [hoff] at c5
    cases hha : S.has a with
    | false =>
      rw [hha] at HAS
      go_wp2_with (go_at_call 77; refine (HAS _ HH.out).mono ?_; rintro e w1 ⟨rfl, hb1⟩)
      go_ret2
      exact ⟨by simp [DS.rdE, DS.rdV, hoff, hha], hb1⟩
    | true =>
      rw [hha] at HAS
      obtain ⟨hh1, hh2⟩ := DS.has_iff.1 hha
      have hok := HH.out.ok
      have hn2 := hok.n2
      have hw := wfK hh1 (by omega : a < 1024)
      have hlk := fun W (hW : PD W p bl bd S) => hW.dir.look_ok hw
      have hfb : ∀ W, PD W p bl bd S → ∃ l : List UInt8, l.length = 128 ∧ (Instr.lookup 85 (.map (some bl)) (.int .i64 a) false).run Tryz.prog W = .ok (sec l) W ∧ l = S.was.getD a.toNat [] := by
        intro W hW
        obtain ⟨F, hF, hl⟩ := hW.las
        refine ⟨S.was.getD a.toNat [], hok.was_len (by omega), ?_, rfl⟩
        rw [← (hl a).1 ⟨hh1, hh2⟩]
        exact hF.look hw
      have hrd : S.rdV a = S.now.getD a.toNat [] := by simp [DS.rdV, DS.rdE, hoff, hha]
      have hre : S.rdE a = 0 := by simp [DS.rdE, hoff, hha]
      cases hwet : S.wet.getD a.toNat false with
      | true =>
        have hd : dirF S a = some (S.now.getD a.toNat []) := by unfold dirF; rw [if_pos ⟨hh1, hh2, hwet⟩]
        rw [hd] at hlk
        have hnl : (S.now.getD a.toNat []).length = 128 := hok.now_len (by omega)
        have HN := Lib.hid (show S.rdV a = _ from hrd)
        generalize S.now.getD a.toNat [] = l at hlk hnl HN
        simp only [Option.getD_some, Option.isSome_some] at hlk
        have hst := fun W => store_newC W hnl
        have hcl : (cellsOf l).length = 128 := by rw [cellsOf_length, hnl]
        have htx := fun W => (SB.new W hnl).text 128
        clear hfb hrd hd
        go_wp2_with (go_at_call 77; refine (HAS _ HH.out).mono ?_; rintro e w1 ⟨rfl, hb1⟩; obtain ⟨d0, d1, d2, d3, d4, d5⟩ := (HH.out.below hb1).cells; have hlk1 := hlk _ (HH.out.below hb1))
        go_ret2
        exact ⟨by rw [HN.out, hre]; rfl, hb1.alloc hb1.size _⟩
      | false =>
        have hd : dirF S a = none := by unfold dirF; rw [if_neg]; rintro ⟨_, _, h⟩; rw [hwet] at h; cases h
        rw [hd] at hlk
        simp only [Option.getD_none, Option.isSome_none] at hlk
        have hdr := hok.dry a.toNat hwet
        have hz128 := zrL_length
        have hst0 := fun W => store_newC W zrL_length
        have hcl0 : (cellsOf zrL).length = 128 := by rw [cellsOf_length, zrL_length]
        have HN := Lib.hid (show S.rdV a = _ from hrd.trans hdr)
        have hwl : (S.was.getD a.toNat []).length = 128 := hok.was_len (by omega)
        have hfb' : ∀ W, PD W p bl bd S → (Instr.lookup 85 (.map (some bl)) (.int .i64 a) false).run Tryz.prog W = .ok (sec (S.was.getD a.toNat [])) W := by
          intro W hW
          obtain ⟨l, h1, h2, h3⟩ := hfb W hW
          rw [← h3]; exact h2
        generalize S.was.getD a.toNat [] = l at hwl HN hfb'
        have hst := fun W => store_newC W hwl
        have hcl : (cellsOf l).length = 128 := by rw [cellsOf_length, hwl]
        have htx := fun W => (SB.new W hwl).text 128
        clear hfb hrd hd hdr
        go_wp2_with (go_at_call 77; refine (HAS _ HH.out).mono ?_; rintro e w1 ⟨rfl, hb1⟩; obtain ⟨d0, d1, d2, d3, d4, d5⟩ := (HH.out.below hb1).cells; have hlk1 := hlk _ (HH.out.below hb1); have hlk2 := hfb' _ ((HH.out.below hb1).below ((Below.refl _ w1).alloc (Nat.le_refl _) (.cells (cellsOf zrL).toArray 92))); have HB2 := Lib.hid hb1; have hp1 := (HH.out.below hb1).lt.1)
        go_ret2
        exact ⟨by rw [HN.out, hre]; rfl, hb1.alloc hb1.size _⟩
end Go.Proofs.YthfnncahmccgkaaGreatDoor

namespace Go.Proofs.YthfnncahmccgkaaGreatDoor
open Go Go.RowKit Go.Maps
set_option maxRecDepth 100000
set_option linter.unusedSimpArgs false
set_option linter.unusedVariables false

section
variable {P : Program} (w : World) {o : Oper} {a : Act}
theorem exec_lookup_run {t : TypeId} {m x : Operand} {c : Bool} (ho : o.op = .lookup t m x c) {v u : Value} (hd : a.eval m = v) (hs : a.eval x = u) {v' : Value}
    (hr : (Instr.lookup t v u c).run P w = .ok v' w) : (execOp a.eval o).run P w = .ok (.value v') w := by
  unfold execOp
  simp only [ho, Sem.run_bind, Sem.run_pure, Result.andThen_ok, hd, hs, hr]
theorem exec_load_cell {t : TypeId} {x : Operand} (ho : o.op = .load t x) {b i : Nat} (hd : a.eval x = .pointer (some ⟨b, i, none⟩)) {v : Value} (hc : w.cell? ⟨b, i, none⟩ = some v) {k e : TypeId} (hu : P.underlying t = some (.map k e)) :
    (execOp a.eval o).run P w = .ok (.value v) w := by
  unfold execOp
  have hagg : (isAgg t).run P w = .ok false w := by
    unfold isAgg
    rw [Sem.run_bind, run_underlying hu w]
    rfl
  simp [ho, hd, Instr.loadAt, Instr.sureAddr, loadVar, hagg, run_load, hc]
end
theorem below_setRow {n : Nat} {a w : World} (h : Below n a w) {g : Nat} (hg : n ≤ g) (cs : Array Value) : Below n a (w.setRow g cs) :=
  ⟨h.os, h.tape, h.output, by simpa using h.size, fun k hk => (setRow_other w g k cs (by omega)).trans (h.block k hk)⟩
theorem SB.setOther {w : World} {g k : Nat} {l : List UInt8} (h : SB w g l) (hne : g ≠ k) (cs : Array Value) : SB (w.setRow k cs) g l := ⟨(setRow_other w k g cs hne).trans h.1, h.2⟩
theorem SB.two (w : World) : SB (((w.alloc (.cells (cellsOf zrL).toArray 92)).alloc (.cells (cellsOf zrL).toArray 92)).drew) w.heap.size zrL ∧ SB (((w.alloc (.cells (cellsOf zrL).toArray 92)).alloc (.cells (cellsOf zrL).toArray 92)).drew) (w.heap.size + 1) zrL := by
  refine ⟨((SB.new w zrL_length).alloc _).drew, ?_⟩
  have := SB.new (w.alloc (.cells (cellsOf zrL).toArray 92)) zrL_length
  rw [World.size_alloc] at this
  exact this.drew
theorem sec_size {l : List UInt8} (h : l.length = 128) : (Tryz.prog.info? 92).map (·.size) = some (cellsOf l).toArray.size := by rw [z66]; simp [cellsOf_length, h]
theorem sec_old {l m : List UInt8} (h : l.length = 128) (h' : m.length = 128) : (cellsOf m).toArray.size = (cellsOf l).toArray.size := by simp [cellsOf_length, h, h']
theorem dirF_st {S : DS} (h : S.Ok) {i : Nat} (hi : i < S.was.length) (m : Nat) : dirF (S.st i m) = upd (dirF S) i none := by
  funext k
  unfold dirF upd
  simp only [DS.st, getD_set, List.length_set]
  have h3 := h.hn
  have h4 := h.hw
  by_cases hk : k = i
  · subst hk
    simp [hi, h3, h4]
  · rw [if_neg hk]
    by_cases hk0 : 0 ≤ k
    · have hne : ¬ i = k.toNat := by omega
      simp [hne]
    · simp [hk0]
theorem LasF_st {S : DS} (h : S.Ok) {i : Nat} (hi : i < S.was.length) (m : Nat) {F : Int → Option (List UInt8)} (hF : LasF S F) : LasF (S.st i m) (upd F i (some (spl m (S.now.getD i []) (S.was.getD i [])))) := by
  intro k
  unfold upd
  simp only [DS.st, getD_set, List.length_set]
  refine ⟨fun hk => ?_, fun hk => ?_⟩
  · by_cases e : k = i
    · subst e
      simp [hi]
    · rw [if_neg e, if_neg (fun q => e (by have := q.1; omega))]
      exact (hF k).1 hk
  · rw [if_neg (fun e => hk (by omega))]
    exact (hF k).2 hk

set_option maxHeartbeats 4000000 in
theorem settle_any {w : World} {p bl bd : Nat} {S : DS} (h : PD w p bl bd S) {i m : Nat} (hi : i < S.was.length) (hwet : S.wet.getD i false = true) (hm : m ≤ 128) :
    Calls Tryz.prog 45 #[dp p, .int .i64 (i : Int), .int .i64 (m : Int)] w fun e w' => e = .returned (.tuple #[]) ∧ PD w' p bl bd (S.st i m) ∧ Kp [p, bl, bd] w w' := by
  have hok := h.ok
  have hn2 := hok.n2
  have hw : (iK (i : Int)).wf = true := wfK (by omega) (by omega)
  have HH := Lib.hid h
  have hz := hz66
  have hd : dirF S i = some (S.now.getD i []) := by unfold dirF; rw [if_pos ⟨by omega, by omega, by simpa using hwet⟩]; rfl
  have hN : ∀ W, Below w.heap.size w W → (Instr.lookup 85 (.map (some bd)) (.int .i64 (i : Int)) false).run Tryz.prog W = .ok (sec (S.now.getD i [])) W := by
    intro W hW
    have := (HH.out.below hW).dir.look hw
    rwa [hd] at this
  have hL : ∀ W, Below w.heap.size w W → (Instr.lookup 85 (.map (some bl)) (.int .i64 (i : Int)) false).run Tryz.prog W = .ok (sec (S.was.getD i [])) W := by
    intro W hW
    obtain ⟨F, hF, hl⟩ := (HH.out.below hW).las
    rw [show S.was.getD i [] = (F i).getD zrL from ((hl i).1 ⟨by omega, by omega⟩).symm]
    exact hF.look hw
  have hNl : (S.now.getD i []).length = 128 := hok.now_len hi
  have hLl : (S.was.getD i []).length = 128 := hok.was_len hi
  have HST := Lib.hid (fun (W : World) (F : Int → Option (List UInt8)) => LasF_st (m := m) hok hi (F := F))
  have HDR := Lib.hid (dirF_st hok hi m)
  have HOS := Lib.hid (hok.st hi m)
  obtain ⟨sN, HSN⟩ : ∃ s, s = S.now.getD i [] := ⟨_, rfl⟩
  obtain ⟨sL, HSL⟩ : ∃ s, s = S.was.getD i [] := ⟨_, rfl⟩
  rw [← HSN] at hN hNl
  rw [← HSL] at hL hLl
  have HN := hN
  have HL := hL
  have HE := Lib.hid (And.intro HSN HSL)
  clear hN hL HSN HSL h hd hok
  go_enter Tryz.func45, Tryz.ntmps45
  go_wp2_with fail
  go_cut [6, 7] from 8 to 19 (fun v6 v7 W => ∃ g6 g7, v6 = dp g6 ∧ v7 = dp g7 ∧ SB W g6 sN ∧ SB W g7 sL ∧ g6 ≠ g7 ∧ w.heap.size ≤ g6 ∧ w.heap.size ≤ g7 ∧ Below w.heap.size w W)
  case first =>
      refine wp_region_held_drew (S := fun W => Below w.heap.size w W) (by kernel_rfl) (Below.refl _ _).drew (fun hHeld => ?_)
      have hR : ∀ W, Below w.heap.size w W → W.cell? ⟨p, 1, none⟩ = some (.map (some bl)) ∧ W.cell? ⟨p, 2, none⟩ = some (.map (some bd)) := fun W hW => by obtain ⟨d0, d1, d2, _⟩ := (HH.out.below hW).cells; exact ⟨d1, d2⟩
      refine wpAnyH_take (i := 0) (v := ?vv0_1) rfl (by kernel_rfl) (by kernel_rfl) (by kernel_rfl) (fun _ _ _ h => h) (Or.inl ⟨by rfl, ?hy0_1⟩) (by assumption) ?rest0_1
      case hy0_1 => (intro w' hSw; (try dsimp only at hSw); go_simp; try with_reducible rfl)
      try simp only [List.getElem_toArray, List.getElem_cons_zero, List.getElem_cons_succ, Act.put, List.setIfInBounds_toArray, List.set_cons_zero, List.set_cons_succ]
      refine wpAnyH_take (i := 1) (v := ?vv1_1) rfl (by kernel_rfl) (by kernel_rfl) (by kernel_rfl) (fun _ _ _ h => h) (Or.inl ⟨by rfl, ?hy1_1⟩) (by assumption) ?rest1_1
      case hy1_1 => (intro w' hSw; (try dsimp only at hSw); go_simp; try with_reducible rfl)
      try simp only [List.getElem_toArray, List.getElem_cons_zero, List.getElem_cons_succ, Act.put, List.setIfInBounds_toArray, List.set_cons_zero, List.set_cons_succ]
      refine wpAnyH_take (i := 2) (v := ?vv2_1) rfl (by kernel_rfl) (by kernel_rfl) (by kernel_rfl) (fun _ _ _ h => h) (Or.inl ⟨by rfl, ?hy2_1⟩) (by assumption) ?rest2_1
      case hy2_1 => (intro w' hSw; (try dsimp only at hSw); go_simp; try with_reducible rfl)
      try simp only [List.getElem_toArray, List.getElem_cons_zero, List.getElem_cons_succ, Act.put, List.setIfInBounds_toArray, List.set_cons_zero, List.set_cons_succ]
      refine wpAnyH_take (i := 3) (v := .map (some bd)) rfl (by kernel_rfl) (by kernel_rfl) (by kernel_rfl) (fun _ _ _ h => h) (Or.inl ⟨by rfl, fun w' hSw => exec_load_cell w' rfl rfl (hR w' hSw).2 Tryz.underlying85⟩) (by assumption) ?_
      try simp only [List.getElem_toArray, List.getElem_cons_zero, List.getElem_cons_succ, Act.put, List.setIfInBounds_toArray, List.set_cons_zero, List.set_cons_succ]
      refine wpAnyH_take (i := 4) (v := ?vv4_1) rfl (by kernel_rfl) (by kernel_rfl) (by kernel_rfl) (fun _ _ _ h => h) (Or.inl ⟨by rfl, ?hy4_1⟩) (by assumption) ?rest4_1
      case hy4_1 => (intro w' hSw; (try dsimp only at hSw); go_simp; try with_reducible rfl)
      try simp only [List.getElem_toArray, List.getElem_cons_zero, List.getElem_cons_succ, Act.put, List.setIfInBounds_toArray, List.set_cons_zero, List.set_cons_succ]
      refine wpAnyH_take (i := 5) (v := sec sN) rfl (by kernel_rfl) (by kernel_rfl) (by kernel_rfl) (fun _ _ _ h => h) (Or.inl ⟨by rfl, fun w' hSw => exec_lookup_run w' rfl rfl rfl (HN w' hSw)⟩) (by assumption) ?_
      try simp only [List.getElem_toArray, List.getElem_cons_zero, List.getElem_cons_succ, Act.put, List.setIfInBounds_toArray, List.set_cons_zero, List.set_cons_succ]
      refine wpAnyH_take (i := 6) (v := ?vv6_1) rfl (by kernel_rfl) (by kernel_rfl) (by kernel_rfl) (fun _ _ _ h => h) (Or.inl ⟨by rfl, ?hy6_1⟩) (by assumption) ?rest6_1
      case hy6_1 => (intro w' hSw; (try dsimp only at hSw); go_simp; try with_reducible rfl)
      try simp only [List.getElem_toArray, List.getElem_cons_zero, List.getElem_cons_succ, Act.put, List.setIfInBounds_toArray, List.set_cons_zero, List.set_cons_succ]
      refine wpAnyH_take (i := 7) (v := ?vv7_1) rfl (by kernel_rfl) (by kernel_rfl) (by kernel_rfl) (fun _ _ _ h => h) (Or.inl ⟨by rfl, ?hy7_1⟩) (by assumption) ?rest7_1
      case hy7_1 => (intro w' hSw; (try dsimp only at hSw); go_simp; try with_reducible rfl)
      try simp only [List.getElem_toArray, List.getElem_cons_zero, List.getElem_cons_succ, Act.put, List.setIfInBounds_toArray, List.set_cons_zero, List.set_cons_succ]
      refine wpAnyH_take (i := 8) (v := ?vv8_1) rfl (by kernel_rfl) (by kernel_rfl) (by kernel_rfl) (fun _ _ _ h => h) (Or.inl ⟨by rfl, ?hy8_1⟩) (by assumption) ?rest8_1
      case hy8_1 => (intro w' hSw; (try dsimp only at hSw); go_simp; try with_reducible rfl)
      try simp only [List.getElem_toArray, List.getElem_cons_zero, List.getElem_cons_succ, Act.put, List.setIfInBounds_toArray, List.set_cons_zero, List.set_cons_succ]
      refine wpAnyH_take (i := 9) (v := .map (some bl)) rfl (by kernel_rfl) (by kernel_rfl) (by kernel_rfl) (fun _ _ _ h => h) (Or.inl ⟨by rfl, fun w' hSw => exec_load_cell w' rfl rfl (hR w' hSw).1 Tryz.underlying85⟩) (by assumption) ?_
      try simp only [List.getElem_toArray, List.getElem_cons_zero, List.getElem_cons_succ, Act.put, List.setIfInBounds_toArray, List.set_cons_zero, List.set_cons_succ]
      refine wpAnyH_take (i := 10) (v := ?vv10_1) rfl (by kernel_rfl) (by kernel_rfl) (by kernel_rfl) (fun _ _ _ h => h) (Or.inl ⟨by rfl, ?hy10_1⟩) (by assumption) ?rest10_1
      case hy10_1 => (intro w' hSw; (try dsimp only at hSw); go_simp; try with_reducible rfl)
      try simp only [List.getElem_toArray, List.getElem_cons_zero, List.getElem_cons_succ, Act.put, List.setIfInBounds_toArray, List.set_cons_zero, List.set_cons_succ]
      refine wpAnyH_take (i := 11) (v := sec sL) rfl (by kernel_rfl) (by kernel_rfl) (by kernel_rfl) (fun _ _ _ h => h) (Or.inl ⟨by rfl, fun w' hSw => exec_lookup_run w' rfl rfl rfl (HL w' hSw)⟩) (by assumption) ?_
      try simp only [List.getElem_toArray, List.getElem_cons_zero, List.getElem_cons_succ, Act.put, List.setIfInBounds_toArray, List.set_cons_zero, List.set_cons_succ]
      refine wpAnyH_ready (rs := [12, 13]) (by kernel_rfl) (by simp) ?_
      refine AllReadyH.cons rfl (fun K hK => ?_) (AllReadyH.cons rfl (fun K hK => ?_) AllReadyH.nil)
      · go_simp
        refine hK.out _ _ (hHeld.alloc hHeld.size _) (fun hHeld => ?_)
        clear hK K
        try simp only [List.getElem_toArray, List.getElem_cons_zero, List.getElem_cons_succ, Act.put, List.setIfInBounds_toArray, List.set_cons_zero, List.set_cons_succ]
        refine wpAnyH_ready (rs := [13]) (by kernel_rfl) (by simp) ?_
        refine AllReadyH.cons rfl (fun K hK => ?_) AllReadyH.nil
        go_simp
        refine hK.out _ _ (hHeld.alloc hHeld.size _) (fun hHeld => ?_)
        clear hK K
        try simp only [List.getElem_toArray, List.getElem_cons_zero, List.getElem_cons_succ, Act.put, List.setIfInBounds_toArray, List.set_cons_zero, List.set_cons_succ]
        refine wpAnyH_ready (rs := [14]) (by kernel_rfl) (by simp) ?_
        refine AllReadyH.cons rfl (fun K hK => ?_) AllReadyH.nil
        rw [if_pos (by rfl)]
        refine wp_store_row _ _ _ rfl w.heap.size (cellsOf sN).toArray rfl rfl _ _ (SB.two w).1.1 (sec_size hNl) (sec_old hNl zrL_length) (cells_all sN) ?_
        refine hK.out _ _ (below_setRow hHeld (by omega) _) (fun hHeld => ?_)
        clear hK K
        try simp only [List.getElem_toArray, List.getElem_cons_zero, List.getElem_cons_succ, Act.put, List.setIfInBounds_toArray, List.set_cons_zero, List.set_cons_succ]
        refine wpAnyH_ready (rs := [15]) (by kernel_rfl) (by simp) ?_
        refine AllReadyH.cons rfl (fun K hK => ?_) AllReadyH.nil
        rw [if_pos (by rfl)]
        refine wp_store_row _ _ _ rfl (w.heap.size + 1) (cellsOf sL).toArray rfl rfl _ _ ((SB.two w).2.setOther (by omega) _).1 (sec_size hLl) (sec_old hLl zrL_length) (cells_all sL) ?_
        refine hK.out _ _ (below_setRow hHeld (by omega) _) (fun hHeld => ?_)
        clear hK K
        try simp only [List.getElem_toArray, List.getElem_cons_zero, List.getElem_cons_succ, Act.put, List.setIfInBounds_toArray, List.set_cons_zero, List.set_cons_succ]
        refine wpAnyH_done (by kernel_rfl) ?_ _
        go_wp2_with fail
        go_meet
        case rel => exact ⟨w.heap.size, (w.heap.size + 1), rfl, rfl, ((SB.two w).1.set hNl).setOther (by omega) _, ((SB.two w).2.setOther (by omega) _).set hLl, by omega, by omega, by omega, hHeld⟩
      · go_simp
        refine hK.out _ _ (hHeld.alloc hHeld.size _) (fun hHeld => ?_)
        clear hK K
        try simp only [List.getElem_toArray, List.getElem_cons_zero, List.getElem_cons_succ, Act.put, List.setIfInBounds_toArray, List.set_cons_zero, List.set_cons_succ]
        refine wpAnyH_ready (rs := [12]) (by kernel_rfl) (by simp) ?_
        refine AllReadyH.cons rfl (fun K hK => ?_) AllReadyH.nil
        go_simp
        refine hK.out _ _ (hHeld.alloc hHeld.size _) (fun hHeld => ?_)
        clear hK K
        try simp only [List.getElem_toArray, List.getElem_cons_zero, List.getElem_cons_succ, Act.put, List.setIfInBounds_toArray, List.set_cons_zero, List.set_cons_succ]
        refine wpAnyH_ready (rs := [14]) (by kernel_rfl) (by simp) ?_
        refine AllReadyH.cons rfl (fun K hK => ?_) AllReadyH.nil
        rw [if_pos (by rfl)]
        refine wp_store_row _ _ _ rfl (w.heap.size + 1) (cellsOf sN).toArray rfl rfl _ _ (SB.two w).2.1 (sec_size hNl) (sec_old hNl zrL_length) (cells_all sN) ?_
        refine hK.out _ _ (below_setRow hHeld (by omega) _) (fun hHeld => ?_)
        clear hK K
        try simp only [List.getElem_toArray, List.getElem_cons_zero, List.getElem_cons_succ, Act.put, List.setIfInBounds_toArray, List.set_cons_zero, List.set_cons_succ]
        refine wpAnyH_ready (rs := [15]) (by kernel_rfl) (by simp) ?_
        refine AllReadyH.cons rfl (fun K hK => ?_) AllReadyH.nil
        rw [if_pos (by rfl)]
        refine wp_store_row _ _ _ rfl w.heap.size (cellsOf sL).toArray rfl rfl _ _ ((SB.two w).1.setOther (by omega) _).1 (sec_size hLl) (sec_old hLl zrL_length) (cells_all sL) ?_
        refine hK.out _ _ (below_setRow hHeld (by omega) _) (fun hHeld => ?_)
        clear hK K
        try simp only [List.getElem_toArray, List.getElem_cons_zero, List.getElem_cons_succ, Act.put, List.setIfInBounds_toArray, List.set_cons_zero, List.set_cons_succ]
        refine wpAnyH_done (by kernel_rfl) ?_ _
        go_wp2_with fail
        go_meet
        case rel => exact ⟨(w.heap.size + 1), w.heap.size, rfl, rfl, ((SB.two w).2.set hNl).setOther (by omega) _, ((SB.two w).1.setOther (by omega) _).set hLl, by omega, by omega, by omega, hHeld⟩
  case rest =>
    obtain ⟨g6, g7, rfl, rfl, h6, h7, hne, hn6, hn7, hbl⟩ := hcut
    have H6 := Lib.hid h6
    have H7 := Lib.hid h7
    have HB := Lib.hid hbl
    have hm0 : (0 : Int) ≤ (m : Int) := by omega
    have hm1 : (m : Int) ≤ 128 := by omega
    clear h6 h7 hbl HN HL hz
    go_wp2_with fail
    go_still_tail 3, (by kernel_rfl)
    change wpList _ _ _ _ _ wc.drew
    refine wpList_builtin2_run _ rfl .copy Builtin.copy_ _ _ _ _ rfl (fun _ _ _ => rfl) _ _ rfl rfl (SB.part H7.out.drew H6.out.drew hm _ _ _) ?_
    have hsp := spl_len (m := m) hNl hLl
    have hS7 : SB (wc.drew.setRow g7 (cellsOf (spl m sN sL)).toArray) g7 (spl m sN sL) := H7.out.drew.set hsp
    have hB3 : Below w.heap.size w (wc.drew.setRow g7 (cellsOf (spl m sN sL)).toArray) := below_setRow HB.out.drew hn7 _
    generalize wc.drew.setRow g7 (cellsOf (spl m sN sL)).toArray = w3 at hS7 hB3 ⊢
    obtain ⟨d0, d1, d2, d3, d4, d5⟩ := (HH.out.below hB3).cells
    have HS7 := Lib.hid hS7
    have HB3 := Lib.hid hB3
    clear hS7 hB3 H6 H7 HB hm0 hm1
    go_wp2_with fail
    go_still_tail 6, (by kernel_rfl)
    refine wpStill_load_run w3.drew rfl _ _ rfl (.pointer (some ⟨g7, 0, none⟩)) rfl HS7.out.drew.loadAt ?_
    refine wpStill_nil ?_
    change wpList _ _ _ _ _ w3.drew
    have hP3 : PD w3.drew p bl bd S := HH.out.below HB3.out.drew
    obtain ⟨F, hF, hlF⟩ := hP3.las
    obtain ⟨w4, hup, hm4, ht4⟩ := hF.store (k := (i : Int)) (by omega) (by omega) hsp
    refine wpList_update_run _ rfl _ _ _ _ rfl _ _ _ rfl rfl rfl hup ?_
    have hk4 : Kp [bl] w3.drew w4 := (Kp.refl _ _).map ht4 (.inl (by simp))
    have hd4 : MP w4 bd (dirF S) := hP3.dir.kp hk4 (by simp; exact fun e => hP3.ne e.symm)
    have hb4 := (hk4.block p hP3.lt.1 (by simp; exact hP3.ne_l)).trans hP3.blk
    have c2 : w4.cell? ⟨p, 2, none⟩ = some (.map (some bd)) := cellAt hb4 2
    obtain ⟨w5, hdl, hm5, ht5⟩ := hd4.drop hw 0
    have hk5 : Kp [bd] w4 w5 := (Kp.refl _ _).map ht5 (.inl (by simp))
    have HFIN : PD w5 p bl bd (S.st i m) := by
      refine ⟨HOS.out, ?_, ⟨_, hm4.kp hk5 (by simp; exact hP3.ne), ?_⟩, by rw [HDR.out]; exact hm5, hP3.ne⟩
      · have := (hk5.block p (lt_of_blk hb4) (by simp; exact hP3.ne_d)).trans hb4
        rw [this]
        simp [dCells, DS.st]
      · rw [HE.out.1, HE.out.2]
        exact HST.out w _ hlF
    have HKF : Kp [p, bl, bd] w w5 := ((Kp.of_below HB3.out.drew _).trans hk4 (fun k hk _ => by simp at hk; simp [hk])).trans hk5 (fun k hk _ => by simp at hk; simp [hk])
    have HX := Lib.hid (And.intro HFIN HKF)
    clear HFIN HKF hk5 ht5 hm5 hd4 hk4 ht4 hm4 hup hF hlF hP3 d0 d1 d2 d3 d4 d5 hb4
    go_wp2_with fail
    go_end0
    exact ⟨rfl, HX.out.1, HX.out.2⟩
end Go.Proofs.YthfnncahmccgkaaGreatDoor


namespace Go.Proofs.YthfnncahmccgkaaGreatDoor
open Go Go.RowKit Go.Maps
set_option maxRecDepth 100000
set_option linter.unusedSimpArgs false
set_option linter.unusedVariables false

theorem clone_any {w : World} {b : Nat} {F : Int → Option (List UInt8)} (h : MP w b F) :
    Calls Tryz.prog 47 #[.map (some b)] w fun e w' => e = .returned (.map (some w.heap.size)) ∧ MP w' w.heap.size F ∧ Below w.heap.size w w' := by
  obtain ⟨D, hD, hF, hK⟩ := h
  refine (AnyW.maps_Clone_owns Tryz.cloneA 3 secR b 1024 D w hD).mono fun e w' ⟨h1, h2, h3, h4⟩ => ?_
  exact ⟨h1, ⟨D, h2, hF, hK⟩, h4⟩

set_option maxHeartbeats 4000000 in
theorem copy_any {w : World} {p bl bd : Nat} {S : DS} (h : PD w p bl bd S) :
    Calls Tryz.prog 21 #[dp p] w fun e w' => ∃ q cl cd, e = .returned (dp q) ∧ PD w' q cl cd S ∧ Below w.heap.size w w' ∧ w.heap.size ≤ q ∧ w.heap.size ≤ cl ∧ w.heap.size ≤ cd := by
  obtain ⟨c0, c1, c2, c3, c4, c5⟩ := h.cells
  have HH := Lib.hid h
  clear h
  go_enter Tryz.func21, Tryz.ntmps21
  go_wp2_with fail
  have hbk := heap_alloc_new w (.cells (dCells S bl bd) 87)
  have hb1 : Below w.heap.size w (w.alloc (.cells (dCells S bl bd) 87)) := (Below.refl _ _).alloc (Nat.le_refl _) _
  have hg1 : w.heap.size < (w.alloc (.cells (dCells S bl bd) 87)).heap.size := by simp
  generalize hw1 : w.alloc (.cells (dCells S bl bd) 87) = w1 at hbk hb1 hg1
  have hw1' := hw1
  unfold dCells at hw1'
  rw [hw1']
  obtain ⟨g, hg⟩ : ∃ g, g = w.heap.size := ⟨_, rfl⟩
  rw [← hg] at hbk hg1 ⊢
  have HGN := Lib.hid (show w.heap.size ≤ g by omega)
  have HBK := Lib.hid hbk
  have HB1 := Lib.hid hb1
  have HG1 := Lib.hid hg1
  clear hw1' hw1 hbk hb1 hg1 hg c0 c1 c2 c3 c4 c5
  refine wp_region_held_drew (S := fun W => Below w.heap.size w W ∧ g < W.heap.size) (by kernel_rfl) ⟨HB1.out.drew, HG1.out⟩ (fun hHeld => ?_)
  have hR : ∀ W, Below w.heap.size w W → W.cell? ⟨p, 1, none⟩ = some (.map (some bl)) ∧ W.cell? ⟨p, 2, none⟩ = some (.map (some bd)) := fun W hW => by obtain ⟨d0, d1, d2, _⟩ := (HH.out.below hW).cells; exact ⟨d1, d2⟩
  refine wpAnyH_take (i := 0) (v := ?vv0_1) rfl (by kernel_rfl) (by kernel_rfl) (by kernel_rfl) (fun _ _ _ h => h) (Or.inl ⟨by rfl, ?hy0_1⟩) (by assumption) ?rest0_1
  case hy0_1 => (intro w' hSw; (try dsimp only at hSw); go_simp; try with_reducible rfl)
  try simp only [List.getElem_toArray, List.getElem_cons_zero, List.getElem_cons_succ, Act.put, List.setIfInBounds_toArray, List.set_cons_zero, List.set_cons_succ]
  refine wpAnyH_take (i := 1) (v := ?vv1_1) rfl (by kernel_rfl) (by kernel_rfl) (by kernel_rfl) (fun _ _ _ h => h) (Or.inl ⟨by rfl, ?hy1_1⟩) (by assumption) ?rest1_1
  case hy1_1 => (intro w' hSw; (try dsimp only at hSw); go_simp; try with_reducible rfl)
  try simp only [List.getElem_toArray, List.getElem_cons_zero, List.getElem_cons_succ, Act.put, List.setIfInBounds_toArray, List.set_cons_zero, List.set_cons_succ]
  refine wpAnyH_take (i := 2) (v := ?vv2_1) rfl (by kernel_rfl) (by kernel_rfl) (by kernel_rfl) (fun _ _ _ h => h) (Or.inl ⟨by rfl, ?hy2_1⟩) (by assumption) ?rest2_1
  case hy2_1 => (intro w' hSw; (try dsimp only at hSw); go_simp; try with_reducible rfl)
  try simp only [List.getElem_toArray, List.getElem_cons_zero, List.getElem_cons_succ, Act.put, List.setIfInBounds_toArray, List.set_cons_zero, List.set_cons_succ]
  refine wpAnyH_take (i := 3) (v := .map (some bl)) rfl (by kernel_rfl) (by kernel_rfl) (by kernel_rfl) (fun _ _ _ h => h) (Or.inl ⟨by rfl, fun w' hSw => exec_load_cell w' rfl rfl (hR w' hSw.1).1 Tryz.underlying85⟩) (by assumption) ?_
  try simp only [List.getElem_toArray, List.getElem_cons_zero, List.getElem_cons_succ, Act.put, List.setIfInBounds_toArray, List.set_cons_zero, List.set_cons_succ]
  refine wpAnyH_take (i := 5) (v := ?vv5_1) rfl (by kernel_rfl) (by kernel_rfl) (by kernel_rfl) (fun _ _ _ h => h) (Or.inl ⟨by rfl, ?hy5_1⟩) (by assumption) ?rest5_1
  case hy5_1 => (intro w' hSw; (try dsimp only at hSw); go_simp; try with_reducible rfl)
  try simp only [List.getElem_toArray, List.getElem_cons_zero, List.getElem_cons_succ, Act.put, List.setIfInBounds_toArray, List.set_cons_zero, List.set_cons_succ]
  refine wpAnyH_take (i := 6) (v := ?vv6_1) rfl (by kernel_rfl) (by kernel_rfl) (by kernel_rfl) (fun _ _ _ h => h) (Or.inl ⟨by rfl, ?hy6_1⟩) (by assumption) ?rest6_1
  case hy6_1 => (intro w' hSw; (try dsimp only at hSw); go_simp; try with_reducible rfl)
  try simp only [List.getElem_toArray, List.getElem_cons_zero, List.getElem_cons_succ, Act.put, List.setIfInBounds_toArray, List.set_cons_zero, List.set_cons_succ]
  refine wpAnyH_take (i := 7) (v := ?vv7_1) rfl (by kernel_rfl) (by kernel_rfl) (by kernel_rfl) (fun _ _ _ h => h) (Or.inl ⟨by rfl, ?hy7_1⟩) (by assumption) ?rest7_1
  case hy7_1 => (intro w' hSw; (try dsimp only at hSw); go_simp; try with_reducible rfl)
  try simp only [List.getElem_toArray, List.getElem_cons_zero, List.getElem_cons_succ, Act.put, List.setIfInBounds_toArray, List.set_cons_zero, List.set_cons_succ]
  refine wpAnyH_take (i := 8) (v := .map (some bd)) rfl (by kernel_rfl) (by kernel_rfl) (by kernel_rfl) (fun _ _ _ h => h) (Or.inl ⟨by rfl, fun w' hSw => exec_load_cell w' rfl rfl (hR w' hSw.1).2 Tryz.underlying85⟩) (by assumption) ?_
  try simp only [List.getElem_toArray, List.getElem_cons_zero, List.getElem_cons_succ, Act.put, List.setIfInBounds_toArray, List.set_cons_zero, List.set_cons_succ]
  refine wpAnyH_ready (rs := [4]) (by kernel_rfl) (by simp) ?_
  refine AllReadyH.cons rfl (fun K hK => ?_) AllReadyH.nil
  rw [if_pos (by rfl)]
  obtain ⟨F, hF, hlF⟩ := (HH.out.below hHeld.1).las
  go_simp
  refine (clone_any hF).mono ?_
  rintro e1 wA ⟨rfl, hFA, hbA⟩
  (try go_wp2_with fail)
  refine hK.out _ _ ⟨hHeld.1.trans (hbA.mono hHeld.1.size), Nat.lt_of_lt_of_le hHeld.2 hbA.size⟩ (fun hHeld => ?_)
  clear hK K
  try simp only [List.getElem_toArray, List.getElem_cons_zero, List.getElem_cons_succ, Act.put, List.setIfInBounds_toArray, List.set_cons_zero, List.set_cons_succ]
  have hA1 : w1.heap.size ≤ w1.drew.heap.size := Nat.le_refl _
  refine wpAnyH_ready (rs := [9]) (by kernel_rfl) (by simp) ?_
  refine AllReadyH.cons rfl (fun K hK => ?_) AllReadyH.nil
  rw [if_pos (by rfl)]
  go_simp
  refine (clone_any (HH.out.below hHeld.1).dir).mono ?_
  rintro e1 wB ⟨rfl, hFB, hbB⟩
  (try go_wp2_with fail)
  refine hK.out _ _ ⟨hHeld.1.trans (hbB.mono hHeld.1.size), Nat.lt_of_lt_of_le hHeld.2 hbB.size⟩ (fun hHeld => ?_)
  clear hK K
  try simp only [List.getElem_toArray, List.getElem_cons_zero, List.getElem_cons_succ, Act.put, List.setIfInBounds_toArray, List.set_cons_zero, List.set_cons_succ]
  have hgB : wB.heap[g]? = some (.cells (dCells S bl bd) 87 (0, 0)) := (hbB.block g (Nat.lt_of_lt_of_le HG1.out hbA.size)).trans ((hbA.block g HG1.out).trans HBK.out)
  have c1 := cellAt hgB 1
  have f1 := freeAt hgB 1
  have c2 := cellAt hgB 2
  have f2 := freeAt hgB 2
  refine wpAnyH_take (i := 10) (v := ?vv10_1) rfl (by kernel_rfl) (by kernel_rfl) (by kernel_rfl) (fun _ _ _ h => h) (Or.inl ⟨by rfl, ?hy10_1⟩) (by assumption) ?rest10_1
  case hy10_1 => (intro w' hSw; (try dsimp only at hSw); go_simp; try with_reducible rfl)
  try simp only [List.getElem_toArray, List.getElem_cons_zero, List.getElem_cons_succ, Act.put, List.setIfInBounds_toArray, List.set_cons_zero, List.set_cons_succ]
  refine wpAnyH_ready (rs := [11]) (by kernel_rfl) (by simp) ?_
  refine AllReadyH.cons rfl (fun K hK => ?_) AllReadyH.nil
  go_simp
  refine hK.out _ _ ⟨hHeld.1.setCell HGN.out _, by simpa [World.setCell] using hHeld.2⟩ (fun hHeld => ?_)
  clear hK K
  try simp only [List.getElem_toArray, List.getElem_cons_zero, List.getElem_cons_succ, Act.put, List.setIfInBounds_toArray, List.set_cons_zero, List.set_cons_succ]
  refine wpAnyH_take (i := 12) (v := ?vv12_1) rfl (by kernel_rfl) (by kernel_rfl) (by kernel_rfl) (fun _ _ _ h => h) (Or.inl ⟨by rfl, ?hy12_1⟩) (by assumption) ?rest12_1
  case hy12_1 => (intro w' hSw; (try dsimp only at hSw); go_simp; try with_reducible rfl)
  try simp only [List.getElem_toArray, List.getElem_cons_zero, List.getElem_cons_succ, Act.put, List.setIfInBounds_toArray, List.set_cons_zero, List.set_cons_succ]
  refine wpAnyH_ready (rs := [13]) (by kernel_rfl) (by simp) ?_
  refine AllReadyH.cons rfl (fun K hK => ?_) AllReadyH.nil
  go_simp
  refine hK.out _ _ ⟨hHeld.1.setCell HGN.out _, by simpa [World.setCell] using hHeld.2⟩ (fun hHeld => ?_)
  clear hK K
  try simp only [List.getElem_toArray, List.getElem_cons_zero, List.getElem_cons_succ, Act.put, List.setIfInBounds_toArray, List.set_cons_zero, List.set_cons_succ]
  refine wpAnyH_done (by kernel_rfl) ?_ _
  go_wp2_with fail
  go_ret
  have hgF := blk_set (blk_set hgB 1 (.map (some w1.heap.size))) 2 (.map (some wA.heap.size))
  have hne : w1.heap.size ≠ wA.heap.size := by have := hFA.lt; have h2 : w1.drew.heap.size = w1.heap.size := rfl; omega
  have hBl := hHeld.1
  have hk2 : Kp [g] wB ((wB.setCell ⟨g, 1, none⟩ (.map (some w1.heap.size))).setCell ⟨g, 2, none⟩ (.map (some wA.heap.size))) := ((Kp.refl _ _).setCell (by simp) _).setCell (by simp) _
  have hnl : w.heap.size ≤ w1.heap.size := HB1.out.size
  refine ⟨g, w1.heap.size, wA.heap.size, rfl, ⟨HH.out.ok, ?_, ⟨F, ?_, hlF⟩, ?_, hne⟩, hBl, HGN.out, hnl, Nat.le_trans hnl hbA.size⟩
  · rw [hgF]; simp [dCells]
  · exact (hFA.kp (Kp.of_below hbB []) (by simp)).kp hk2 (by simp; have := HG1.out; show w1.heap.size ≠ g; omega)
  · exact hFB.kp hk2 (by simp; have := HG1.out; have := hbA.size; have h2 : w1.drew.heap.size = w1.heap.size := rfl; omega)
end Go.Proofs.YthfnncahmccgkaaGreatDoor


namespace Go.Proofs.YthfnncahmccgkaaGreatDoor
open Go Go.RowKit Go.Maps
set_option maxRecDepth 100000
set_option linter.unusedSimpArgs false
set_option linter.unusedVariables false

/-- Numbers that lie in a row. -/
def IR (w : World) (A : Option Addr) (L : List Int) : Prop := ∀ j, j < L.length → ∃ b o, A = some ⟨b, o, none⟩ ∧ b < w.heap.size ∧ w.cell? ⟨b, o + j, none⟩ = some (.int .i64 (L.getD j 0))
theorem IR.kp {w w' : World} {A : Option Addr} {L : List Int} {T : List Nat} (h : IR w A L) (hk : Kp T w w') (hs : ∀ a, A = some a → L ≠ [] → a.block ∉ T) : IR w' A L := fun j hj => by
  obtain ⟨b, o, hA, hb, hc⟩ := h j hj
  exact ⟨b, o, hA, Nat.lt_of_lt_of_le hb hk.size, (World.cell?_of_block (w := w) (hk.block b hb (hs _ hA (fun e => by rw [e] at hj; cases hj)))).trans hc⟩
theorem IR.below {w w' : World} {A : Option Addr} {L : List Int} (h : IR w A L) (hb : Below w.heap.size w w') : IR w' A L := h.kp (Kp.of_below hb []) (by simp)
theorem row_form {n : Nat} {w : World} {v : Value} {L : List Int} (h : w.ownsRow n 3 1 v L.length (L.map encZ)) : ∃ A c, v = .slice A L.length c ∧ IR w A L ∧ (∀ a, A = some a → n ≤ a.block) := by
  rcases h.2 with ⟨rfl, h0⟩ | ⟨g, cap, cur, rfl, hb, hg, _⟩
  · exact ⟨none, 0, by rw [h0], fun j hj => by omega, by simp⟩
  · refine ⟨some ⟨g, 0, none⟩, cap, rfl, fun j hj => ⟨g, 0, rfl, lt_of_blk hg, ?_⟩, fun a ha => by cases ha; exact hb⟩
    have := h.cells (g := g) rfl j (encZ (L.getD j 0)) (by simp [List.getElem?_map, List.getD_eq_getElem?_getD, List.getElem?_eq_getElem hj])
    have e1 : (⟨g, 0, none⟩ : Addr).add j = ⟨g, 0 + j, none⟩ := by unfold Addr.add; split <;> simp_all
    rwa [e1] at this

theorem getD_dL (wet : List Bool) (k : Nat) : (dL wet).getD k 0 = (((dirtyL wet).getD k 0 : Nat) : Int) := by
  unfold dL
  rw [List.getD_eq_getElem?_getD, List.getD_eq_getElem?_getD, List.getElem?_map]
  cases (dirtyL wet)[k]? <;> rfl
theorem drop_cons_getD {L : List Nat} {k : Nat} (h : k < L.length) : L.drop k = L.getD k 0 :: L.drop (k + 1) := by
  rw [List.drop_eq_getElem_cons h, List.getD_eq_getElem?_getD, List.getElem?_eq_getElem h]; rfl
theorem dirtyL_le {S : DS} (h : S.Ok) : (dirtyL S.wet).length ≤ 1024 := by
  have h1 := List.length_filter_le (fun i => S.wet.getD i false) (List.range S.wet.length)
  have h2 := h.hw
  have h3 := h.n2
  rw [List.length_range] at h1
  unfold dirtyL
  omega
/-- What is left of the dirty ones, behind k of them: they are dirty still. -/
structure Rem (S : DS) (kf : Nat → Nat) (k : Nat) (T : DS) : Prop where
  ok : T.Ok
  len : T.was.length = S.was.length
  eq : T.sts kf ((dirtyL S.wet).drop k) k = S.sts kf (dirtyL S.wet) 0
  wet : ∀ j ∈ (dirtyL S.wet).drop k, T.wet.getD j false = true
  off : T.off = S.off ∧ T.ops = S.ops
theorem Rem.start {S : DS} (h : S.Ok) (kf : Nat → Nat) : Rem S kf 0 S := ⟨h, rfl, rfl, fun j hj => (mem_dirtyL.1 hj).2, rfl, rfl⟩
theorem Rem.lt {S T : DS} {kf : Nat → Nat} {k : Nat} (h : Rem S kf k T) (hS : S.Ok) (hk : k < (dirtyL S.wet).length) : (dirtyL S.wet).getD k 0 < T.was.length ∧ T.wet.getD ((dirtyL S.wet).getD k 0) false = true := by
  have hm : (dirtyL S.wet).getD k 0 ∈ (dirtyL S.wet).drop k := by rw [drop_cons_getD hk]; simp
  exact ⟨by rw [h.len]; exact hS.dirty _ (List.mem_of_mem_drop hm), h.wet _ hm⟩
theorem Rem.step {S T : DS} {kf : Nat → Nat} {k : Nat} (h : Rem S kf k T) (hS : S.Ok) (hk : k < (dirtyL S.wet).length) : Rem S kf (k + 1) (T.st ((dirtyL S.wet).getD k 0) (kf k)) := by
  obtain ⟨h1, h2⟩ := h.lt hS hk
  have hd := drop_cons_getD hk
  have he := h.eq
  rw [hd, DS.sts] at he
  have hn : ((dirtyL S.wet).drop k).Nodup := (nodup_dirtyL S.wet).sublist (List.drop_sublist _ _)
  rw [hd, List.nodup_cons] at hn
  refine ⟨h.ok.st h1 _, by rw [DS.st_len, h.len], he, fun j hj => ?_, h.off⟩
  have hne : (dirtyL S.wet).getD k 0 ≠ j := fun e => hn.1 (e ▸ hj)
  simp only [DS.st, getD_set]
  rw [if_neg (fun q => hne q.1)]
  exact h.wet j (by rw [hd]; exact List.mem_cons_of_mem _ hj)
theorem Rem.done {S T : DS} {kf : Nat → Nat} {k : Nat} (h : Rem S kf k T) (hk : (dirtyL S.wet).length ≤ k) : T = S.sts kf (dirtyL S.wet) 0 := by
  have := h.eq
  rwa [List.drop_eq_nil_of_le hk] at this

set_option maxHeartbeats 4000000 in
theorem sync_any {w : World} {p bl bd : Nat} {S : DS} (h : PD w p bl bd S) (hops : S.ops < 4611686018427387904) :
    Calls Tryz.prog 32 #[dp p] w fun e w' => e = .returned (.int .i64 S.offE) ∧ PD w' p bl bd S.sync ∧ Kp [p, bl, bd] w w' := by
  obtain ⟨c0, c1, c2, c3, c4, c5⟩ := h.cells
  have HH := Lib.hid h
  have HDL0 := Lib.hid (dL_length S.wet)
  have hlt := h.lt
  clear h
  go_enter Tryz.func32, Tryz.ntmps32
  cases hoff : S.off with
  | true =>
    rw [hoff] at c5
    go_wp2_with fail
    go_ret
    exact ⟨by simp [DS.offE, hoff], by simp only [DS.sync, hoff]; exact HH.out, Kp.refl _ _⟩
  | false =>
    rw [hoff] at c5
    go_wp2_with (go_at_call 44; refine (dirty_any HH.out).mono ?_; rintro e w1 ⟨v, rfl, hrow, hb1⟩; obtain ⟨A, c, rfl, hir, hA⟩ := row_form hrow)
    have HIR := Lib.hid hir
    have HA := Lib.hid hA
    have HB1 := Lib.hid hb1
    have hsz := HB1.out.size
    have hmax : (dL S.wet).length ≤ 1024 := by
      rw [HDL0.out]
      exact dirtyL_le HH.out.ok
    have hdl := HDL0.out
    generalize hn : (dL S.wet).length = n at hmax hdl ⊢
    have HN := Lib.hid hn
    have HDL := Lib.hid hdl
    clear hir hA hb1 hrow hn hdl
    go_loopw [4, 16] (fun x kv wr => ∃ (k : Nat) (T : DS), kv = .int .i64 (k : Int) ∧ k ≤ n ∧ PD wr p bl bd T ∧ Rem S (fun _ => 128) k T ∧ Kp [p, bl, bd] w wr ∧ IR wr A (dL S.wet)) (fun _ kv _ => n - (intOf kv).toNat)
    case atStart => exact ⟨0, S, rfl, by omega, HH.out.below HB1.out, Rem.start HH.out.ok _, Kp.of_below HB1.out _, HIR.out⟩
    case round =>
      obtain ⟨k, T, rfl, hkn, hP, hR, hK, hI⟩ := hrel
      have HP := Lib.hid hP
      have HR := Lib.hid hR
      have HK := Lib.hid hK
      have HI := Lib.hid hI
      by_cases hk : k < n
      · obtain ⟨b, o, hAe, hb, hc⟩ := hI k (by rw [HN.out]; exact hk)
        rw [getD_dL] at hc
        obtain ⟨q1, q2⟩ := hR.lt HH.out.ok (by rw [← HDL.out]; exact hk)
        have HST := Lib.hid (hR.step HH.out.ok (by rw [← HDL.out]; exact hk))
        have cset := Lib.hid (settle_any hP q1 q2 (m := 128) (Nat.le_refl _))
        have HAB := Lib.hid (HA.out _ hAe)
        have hki : (k : Int) < (n : Int) := by omega
        have hwr : IntKind.i64.wrap ((k : Int) + 1) = (k : Int) + 1 := IntWalk.i64_in _ (by omega)
        have hfree : True := trivial
        generalize (dirtyL S.wet).getD k 0 = d at hc q1 q2 HST cset
        have HAE := Lib.hid hAe
        rw [hAe]
        clear hP hR hK hI hAe q1 q2 hb
        go_wp2_with (go_at_call 45; refine cset.out.mono ?_; rintro e w3 ⟨rfl, hP3, hk3⟩)
        go_roundw
        case rel =>
          refine ⟨k + 1, _, by go_num, by omega, hP3, HST.out, HK.out.trans hk3 (fun j hj _ => hj), ?_⟩
          rw [← HAE.out]
          refine HI.out.kp hk3 (fun a ha _ => ?_)
          have := HA.out a ha
          obtain ⟨l1, l2, l3⟩ := hlt
          simp
          omega
        case measure => simp [intOf]; omega
      · have hk2 : ¬ (k : Int) < (n : Int) := by omega
        have HD := Lib.hid (hR.done (by rw [← HDL.out]; omega))
        have cdone := Lib.hid (done_any hP (by rw [hR.off.2]; exact hops))
        clear hP hR hK hI
        go_wp2_with (go_at_call 60; refine cdone.out.mono ?_; rintro e w3 ⟨rfl, hP3, hk3⟩)
        go_ret
        refine ⟨by simp [DS.offE, hoff], ?_, HK.out.trans hk3 (fun j hj _ => by simp at hj; simp [hj])⟩
        unfold DS.sync
        rw [hoff, ← HD.out]
        exact hP3
end Go.Proofs.YthfnncahmccgkaaGreatDoor

namespace Go.Proofs.YthfnncahmccgkaaGreatDoor
open Go Go.RowKit Go.Maps
set_option maxRecDepth 100000
set_option linter.unusedSimpArgs false
set_option linter.unusedVariables false

theorem keptN_le (L : List Int) (k : Nat) : keptN L k ≤ 128 := by unfold keptN; split <;> omega
theorem kept_any {w : World} {A : Option Addr} {c k : Nat} {L : List Int} (h : IR w A L) (hk : k ≤ 100000) (hL : L.length ≤ 100000) :
    Calls Tryz.prog 46 #[.slice A L.length c, .int .i64 (k : Int)] w fun e w' => e = .returned (.int .i64 (keptN L k : Int)) ∧ Below w.heap.size w w' := by
  by_cases hlt : k < L.length
  · obtain ⟨b, o, rfl, hb, hc⟩ := h k hlt
    have h1 : (k : Int) < (L.length : Int) := by omega
    have hN := Lib.hid (show keptN L k = (min (max (L.getD k 0) 0) 128).toNat by simp only [keptN, if_pos hlt])
    have hx : ((min (max (L.getD k 0) 0) 128).toNat : Int) = min (max (L.getD k 0) 0) 128 := by omega
    have HX := Lib.hid hx
    clear hx hb h
    generalize L.getD k 0 = x at hc hN HX
    go_enter Tryz.func46, Tryz.ntmps46
    go_wp2_with fail
    go_ret
    exact ⟨by rw [hN.out, HX.out]; rfl, Below.refl _ _⟩
  · have h1 : ¬ (k : Int) < (L.length : Int) := by omega
    go_enter Tryz.func46, Tryz.ntmps46
    go_wp2_with fail
    go_ret
    exact ⟨by simp [keptN, hlt], Below.refl _ _⟩

set_option maxHeartbeats 4000000 in
theorem boot_any {w : World} {p bl bd : Nat} {S : DS} (h : PD w p bl bd S) {Ak : Option Addr} {ck : Nat} {L : List Int} (hL : IR w Ak L) (hLA : ∀ a, Ak = some a → L ≠ [] → a.block ∉ [p, bl, bd]) (hLl : L.length ≤ 100000) :
    Calls Tryz.prog 19 #[dp p, .slice Ak L.length ck] w fun e w' => e = .returned (.int .i64 S.bootE) ∧ PD w' p bl bd (S.boot L) ∧ Kp [p, bl, bd] w w' := by
  obtain ⟨c0, c1, c2, c3, c4, c5⟩ := h.cells
  have HH := Lib.hid h
  have HDL0 := Lib.hid (dL_length S.wet)
  have hlt := h.lt
  clear h
  go_enter Tryz.func19, Tryz.ntmps19
  cases hoff : S.off with
  | false =>
    rw [hoff] at c5
    go_wp2_with fail
    go_ret
    exact ⟨by simp [DS.bootE, hoff], by simp only [DS.boot, hoff]; exact HH.out, Kp.refl _ _⟩
  | true =>
    rw [hoff] at c5
    go_wp2_with (go_at_call 44; refine (dirty_any HH.out).mono ?_; rintro e w1 ⟨v, rfl, hrow, hb1⟩; obtain ⟨A, c, rfl, hir, hA⟩ := row_form hrow)
    have HIR := Lib.hid hir
    have HA := Lib.hid hA
    have HB1 := Lib.hid hb1
    have hsz := HB1.out.size
    have hmax : (dL S.wet).length ≤ 1024 := by
      rw [HDL0.out]
      exact dirtyL_le HH.out.ok
    have hdl := HDL0.out
    generalize hn : (dL S.wet).length = n at hmax hdl ⊢
    have HN := Lib.hid hn
    have HDL := Lib.hid hdl
    clear hir hA hb1 hrow hn hdl
    go_loopw [5, 6, 19] (fun x y kv wr => ∃ (k : Nat) (T : DS), kv = .int .i64 (k : Int) ∧ k ≤ n ∧ PD wr p bl bd T ∧ Rem S (keptN L) k T ∧ Kp [p, bl, bd] w wr ∧ IR wr A (dL S.wet)) (fun _ _ kv _ => n - (intOf kv).toNat)
    case atStart => exact ⟨0, S, rfl, by omega, HH.out.below HB1.out, Rem.start HH.out.ok _, Kp.of_below HB1.out _, HIR.out⟩
    case round =>
      obtain ⟨k, T, rfl, hkn, hP, hR, hK, hI⟩ := hrel
      have HP := Lib.hid hP
      have HR := Lib.hid hR
      have HK := Lib.hid hK
      have HI := Lib.hid hI
      by_cases hk : k < n
      · obtain ⟨b, o, hAe, hb, hc⟩ := hI k (by rw [HN.out]; exact hk)
        rw [getD_dL] at hc
        obtain ⟨q1, q2⟩ := hR.lt HH.out.ok (by rw [← HDL.out]; exact hk)
        have HST := Lib.hid (hR.step HH.out.ok (by rw [← HDL.out]; exact hk))
        have cset := Lib.hid (fun W (hW : PD W p bl bd T) => settle_any hW q1 q2 (m := keptN L k) (keptN_le L k))
        have hIk := hL.kp hK hLA
        have ckept := Lib.hid (kept_any (k := k) (c := ck) hIk (by omega) hLl)
        have HAB := Lib.hid (HA.out _ hAe)
        have hki : (k : Int) < (n : Int) := by omega
        have hwr : IntKind.i64.wrap ((k : Int) + 1) = (k : Int) + 1 := IntWalk.i64_in _ (by omega)
        have hfree : True := trivial
        generalize (dirtyL S.wet).getD k 0 = d at hc q1 q2 HST cset
        have HAE := Lib.hid hAe
        rw [hAe]
        clear hP hR hK hI hAe q1 q2 hb
        go_wp2_with (first
          | (go_at_call 46; refine ckept.out.mono ?_; rintro e w2 ⟨rfl, hb2⟩)
          | (go_at_call 45; refine (cset.out _ (HP.out.below hb2)).mono ?_; rintro e w3 ⟨rfl, hP3, hk3⟩))
        go_roundw
        case rel =>
          refine ⟨k + 1, _, by go_num, by omega, hP3, HST.out, HK.out.trans ((Kp.of_below hb2 _).trans hk3 (fun j hj _ => hj)) (fun j hj _ => hj), ?_⟩
          rw [← HAE.out]
          refine (HI.out.below hb2).kp hk3 (fun a ha _ => ?_)
          have := HA.out a ha
          obtain ⟨l1, l2, l3⟩ := hlt
          simp
          omega
        case measure => simp [intOf]; omega
      · have hk2 : ¬ (k : Int) < (n : Int) := by omega
        have HD := Lib.hid (hR.done (by rw [← HDL.out]; omega))
        obtain ⟨d0, d1, d2, d3, d4, d5⟩ := hP.cells
        have f4 := hP.free 4
        have f5 := hP.free 5
        clear hP hR hK hI
        go_wp2_with fail
        go_ret
        have hkf : Kp [p] wr ((wr.setCell ⟨p, 4, none⟩ (.int .i64 0)).setCell ⟨p, 5, none⟩ (.bool false)) := ((Kp.refl _ _).setCell (by simp) _).setCell (by simp) _
        refine ⟨by simp [DS.bootE, hoff], ?_, HK.out.trans hkf (fun j hj _ => by simp at hj; simp [hj])⟩
        have hb := HH.out.ok.boot L
        unfold DS.boot at hb ⊢
        rw [hoff] at hb ⊢
        simp only [if_true] at hb ⊢
        rw [← HD.out] at hb ⊢
        refine HP.out.turn hb rfl rfl rfl hkf ?_
        rw [blk_set (blk_set HP.out.blk 4 _) 5]
        simp [dCells]
end Go.Proofs.YthfnncahmccgkaaGreatDoor
