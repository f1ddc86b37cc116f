/-
  The contract of Make.
-/
import Derived.Laws.EntriesVeiled
import Derived.Deep.MidRow
import Derived.Test.YtnaoandleelbkaaGreatDoorULeaf
import Derived.Test.YtnaoandleelbkaaGreatDoorGDm
namespace Go.Proofs.YtnaoandleelbkaaGreatDoor
set_option linter.unusedSimpArgs false
set_option linter.unusedVariables false
open Go Go.RowKit
set_option maxRecDepth 100000

section
variable {P : Program} (w : World) {o : Oper} {a : Act}
theorem exec_load_midU {t : TypeId} {x : Operand} (ho : o.op = .load t x) {b i : Nat} (hd : a.eval x = .pointer (some ⟨b, i, none⟩)) {cs : Array Value} (hc : w.rangeAt b i cs.toList) {d : TypeDesc} (hu : P.underlying t = some d) (hn : d.isRow = true)
    (hi : (P.info? t).map (·.size) = some cs.size) : (execOp a.eval o).run P w = .ok (.value (.agg cs)) w := by
  unfold execOp
  have := run_loadVar_mid (P := P) w b i t cs.toList d hc hu hn (by rw [hi, Array.length_toList])
  simp [ho, hd, Instr.loadAt, Instr.sureAddr, this]
end
theorem CB.range {w : World} {g : Nat} {c : Ct} {v : Value} (h : CB w g c v) : w.rangeAt g 0 [sv c.key, sv c.sig, v, .int .i64 c.fr, .int .i64 c.un, .bool c.ca] := by
  intro j u hu
  match j, hu with
  | 0, hu => cases hu; exact h.c0
  | 1, hu => cases hu; exact h.c1
  | 2, hu => cases hu; exact h.c2
  | 3, hu => cases hu; exact h.c3
  | 4, hu => cases hu; exact h.c4
  | 5, hu => cases hu; exact h.c5
theorem RB.range {w : World} {g : Nat} {r : Rc} (h : RB w g r) : w.rangeAt g 0 [.int .u8 (r.us : Int), .int .u8 (r.se : Int), .int .u8 (r.ma : Int), sv r.da] := by
  intro j u hu
  match j, hu with
  | 0, hu => cases hu; exact h.c0
  | 1, hu => cases hu; exact h.c1
  | 2, hu => cases hu; exact h.c2
  | 3, hu => cases hu; exact h.c3
theorem RB.put3 {W : World} {k : Nat} {r : Rc} (h : RB W k r) (d : List UInt8) : RB (W.setCell ⟨k, 3, none⟩ (sv d)) k { r with da := d } := by
  unfold RB at *
  simp [World.setCell, Array.getElem?_modify, h]
theorem makes1_any {w : World} (x : List UInt8) : Calls Tryz.prog 150 #[sv x] w fun e w' => e = .returned (sv x) ∧ Below w.heap.size w w' := by
  go_enter Tryz.func150, Tryz.ntmps150
  go_wp2_with fail
  go_ret
  exact ⟨rfl, Below.refl _ _⟩
theorem takes1_any {w : World} (x : List UInt8) (c : Ct) (A : Option Addr) (m cp : Nat) (hx : x.length ≤ 281474976710656) (hM : ML w) : Calls Tryz.prog 151 #[sv x, .agg #[sv c.key, sv c.sig, .slice A m cp, .int .i64 c.fr, .int .i64 c.un, .bool c.ca]] w fun e w' => e = .returned (sv x) ∧ Below w.heap.size w w' := by
  have HS := Lib.hid (fun W : World => @clone_anyE W x hx)
  obtain ⟨key, sig, names, fr, un, ca⟩ := c
  have HB0 := Lib.hid (below_alloc w (cellsC ⟨key, sig, names, fr, un, ca⟩ (.slice A m cp)))
  simp only
  go_enter Tryz.func151, Tryz.ntmps151
  go_wp2_with (go_at_call 69; refine (HS.out _).mono ?_; rintro e w1 ⟨rfl, h1⟩; have H1 := Lib.hid h1; clear h1)
  go_ret
  exact ⟨rfl, HB0.out.trans (H1.out.mono HB0.out.size)⟩
theorem takes2_any {w : World} (x : List UInt8) (c : Ct) (A : Option Addr) (m cp : Nat) (hk : c.key.length ≤ 9223372036854775807) : Calls Tryz.prog 152 #[sv x, .agg #[sv c.key, sv c.sig, .slice A m cp, .int .i64 c.fr, .int .i64 c.un, .bool c.ca]] w fun e w' => e = .returned (sv (spkiL c.key)) ∧ Below w.heap.size w w' := by
  have HS := Lib.hid (fun W : World => @spki_any W c.key hk)
  obtain ⟨key, sig, names, fr, un, ca⟩ := c
  simp only at HS ⊢
  obtain ⟨t, ht⟩ : ∃ t, t = spkiL key := ⟨_, rfl⟩
  rw [← ht] at HS ⊢
  have HB0 := Lib.hid (below_alloc w (cellsC ⟨key, sig, names, fr, un, ca⟩ (.slice A m cp)))
  clear ht
  go_enter Tryz.func152, Tryz.ntmps152
  go_wp2_with (go_at_call 14; refine (HS.out _).mono ?_; rintro e w1 ⟨rfl, h1⟩; have H1 := Lib.hid h1; clear h1)
  go_ret
  exact ⟨rfl, HB0.out.trans (H1.out.mono HB0.out.size)⟩
theorem makes_any {w : World} : Calls Tryz.prog 96 #[] w fun e w' => e = .returned (.agg #[.func (.func 150) #[] #[], .func (.func 48) #[] #[]]) ∧ Below w.heap.size w w' := by
  go_enter Tryz.func96, Tryz.ntmps96
  go_wp2_with fail
  refine bodyPost_ret (results_cell_row (p := 0) (by kernel_rfl) _ _ w.heap.size 111 _ (0, 0) _ rfl (heap_alloc_new w _) Tryz.underlying111 rfl (by kernel_rfl)) rfl ⟨rfl, below_alloc _ _⟩
theorem takes_any {w : World} : Calls Tryz.prog 97 #[] w fun e w' => e = .returned (.agg #[.func (.func 151) #[] #[], .func (.func 152) #[] #[]]) ∧ Below w.heap.size w w' := by
  go_enter Tryz.func97, Tryz.ntmps97
  go_wp2_with fail
  refine bodyPost_ret (results_cell_row (p := 0) (by kernel_rfl) _ _ w.heap.size 114 _ (0, 0) _ rfl (heap_alloc_new w _) Tryz.underlying114 rfl (by kernel_rfl)) rfl ⟨rfl, below_alloc _ _⟩
theorem take_len {s : Nat} {x : List UInt8} {c : Ct} (h : decO x = some c) : (takeD s x c).length ≤ 100000 := by
  obtain ⟨h1, h2, _⟩ := decO_some h
  unfold takeD
  split
  · omega
  · rw [spki_form h2, form_length (key_lens h2).2]; have := (key_lens h2).2; omega
/-- What lies by in Make: its record, its certificate. -/
structure MK (w W : World) (k10 u s m : Nat) (c : Ct) (nv : Value) : Prop where
  bw : Below w.heap.size w W
  gw : GA w
  rb : ∃ d, RB W (w.heap.size + 1) ⟨u, s, m, d⟩
  r0 : RB W w.heap.size ⟨0, 0, 0, []⟩
  cb : CB W k10 c nv
  hk : w.heap.size + 1 < k10
theorem MK.ga {w W : World} {k10 u s m : Nat} {c : Ct} {nv : Value} (h : MK w W k10 u s m c nv) : GA W := h.gw.below h.bw
theorem MK.step {w W W' : World} {k10 u s m : Nat} {c : Ct} {nv : Value} (h : MK w W k10 u s m c nv) (hb : Below W.heap.size W W') : MK w W' k10 u s m c nv :=
  ⟨h.bw.trans (hb.mono h.bw.size), h.gw, by obtain ⟨d, hd⟩ := h.rb; exact ⟨d, hd.step hb⟩, h.r0.step hb, h.cb.step hb, h.hk⟩
theorem MK.put {w W : World} {k10 u s m : Nat} {c : Ct} {nv : Value} (h : MK w W k10 u s m c nv) (d : List UInt8) : MK w (W.setCell ⟨w.heap.size + 1, 3, none⟩ (sv d)) k10 u s m c nv :=
  ⟨h.bw.setCell (p := ⟨w.heap.size + 1, 3, none⟩) (Nat.le_succ _) _, h.gw, by obtain ⟨d0, hd⟩ := h.rb; exact ⟨d, hd.put3 d⟩, (heap_set_ne _ (by omega)).trans h.r0, (heap_set_ne _ (by have := h.hk; omega)).trans h.cb, h.hk⟩
theorem make_start (w : World) (u s m : Nat) (hw : GA w) : Ga w ((w.alloc (cellsR ⟨0, 0, 0, []⟩)).alloc (cellsR ⟨u, s, m, []⟩)) ∧ RB ((w.alloc (cellsR ⟨0, 0, 0, []⟩)).alloc (cellsR ⟨u, s, m, []⟩)) (w.heap.size + 1) ⟨u, s, m, []⟩ ∧ RB ((w.alloc (cellsR ⟨0, 0, 0, []⟩)).alloc (cellsR ⟨u, s, m, []⟩)) w.heap.size ⟨0, 0, 0, []⟩ :=
  ⟨((Ga.start hw).alloc _).alloc _, by rw [← World.size_alloc w (cellsR ⟨0, 0, 0, []⟩)]; exact RB.new _ _, (RB.new w _).step (below_alloc _ _)⟩
theorem make_mid {w W w1 : World} {u s m : Nat} {d : List UInt8} (hw : GA w) (hg : Ga w W) (h1 : RB w1 (w.heap.size + 1) ⟨u, s, m, d⟩) (h2 : RB w1 w.heap.size ⟨0, 0, 0, []⟩) (hb : Below W.heap.size W w1) (c : Ct) (nv : Value) : MK w (w1.alloc (cellsC c nv)) w1.heap.size u s m c nv :=
  ⟨((hg.step hb).alloc _).1, hw, ⟨d, h1.step (below_alloc _ _)⟩, h2.step (below_alloc _ _), CB.new _ _ _, h1.lt⟩
theorem W_is {W W0 : World} {f : FuncId} {a : Array Value} {Q : Ending → World → Prop} (h : W0 = W) (hc : Calls Tryz.prog f a W0 Q) : Calls Tryz.prog f a W Q := h ▸ hc
abbrev st4 (W : World) (k : Nat) (a b c d : Value) : World := (((W.setCell ⟨k, 0, none⟩ a).setCell ⟨k, 1, none⟩ b).setCell ⟨k, 2, none⟩ c).setCell ⟨k, 3, none⟩ d
theorem RB.put4 {W : World} {k : Nat} {r : Rc} (h : RB W k r) (q : Rc) : RB (st4 W k (.int .u8 (q.us : Int)) (.int .u8 (q.se : Int)) (.int .u8 (q.ma : Int)) (sv q.da)) k q := by
  unfold RB at *
  simp [st4, World.setCell, Array.getElem?_modify, h]
theorem below_put4 {w W : World} (hb : Below w.heap.size w W) {k : Nat} (hk : w.heap.size ≤ k) (a b c d : Value) : Below w.heap.size w (st4 W k a b c d) :=
  (((hb.setCell (p := ⟨k, 0, none⟩) hk a).setCell (p := ⟨k, 1, none⟩) hk b).setCell (p := ⟨k, 2, none⟩) hk c).setCell (p := ⟨k, 3, none⟩) hk d
theorem make_fin {w W : World} (hb : Below w.heap.size w W) {r0 r q : Rc} (h0 : RB W w.heap.size r0) (tm : Array Value) (h8 : tm.getD 8 undef = .pointer (some ⟨w.heap.size, 0, none⟩)) (hq : q = r) :
    bodyPost Tryz.prog Tryz.f47 (fun e w' => e = .returned (rcV q) ∧ Below w.heap.size w w') .ret { tmps := tm, defers := [] } (st4 W w.heap.size (.int .u8 (r.us : Int)) (.int .u8 (r.se : Int)) (.int .u8 (r.ma : Int)) (sv r.da)) :=
  bodyPost_ret (results_cell_row (p := 8) (by kernel_rfl) _ _ w.heap.size 65 _ (0, 0) _ h8 (h0.put4 r) Tryz.underlying65 rfl (by kernel_rfl)) rfl ⟨by rw [hq]; rfl, below_put4 hb (Nat.le_refl _) _ _ _ _⟩
theorem make_fin2 {w W : World} (hb : Below w.heap.size w W) {r0 r q : Rc} (h0 : RB W w.heap.size r0) (o : Obj) (tm : Array Value) (h8 : tm.getD 8 undef = .pointer (some ⟨w.heap.size, 0, none⟩)) (hq : q = r) :
    bodyPost Tryz.prog Tryz.f47 (fun e w' => e = .returned (rcV q) ∧ Below w.heap.size w w') .ret { tmps := tm, defers := [] } ((st4 W w.heap.size (.int .u8 (r.us : Int)) (.int .u8 (r.se : Int)) (.int .u8 (r.ma : Int)) (sv r.da)).alloc o) :=
  bodyPost_ret (results_cell_row (p := 8) (by kernel_rfl) _ _ w.heap.size 65 _ (0, 0) _ h8 ((h0.put4 r).step (below_alloc _ o)) Tryz.underlying65 rfl (by kernel_rfl)) rfl ⟨by rw [hq]; rfl, (below_put4 hb (Nat.le_refl _) _ _ _ _).alloc (by have := (below_put4 hb (Nat.le_refl _) (.int .u8 (r.us : Int)) (.int .u8 (r.se : Int)) (.int .u8 (r.ma : Int)) (sv r.da)).size; exact this) _⟩
set_option maxHeartbeats 8000000 in
theorem make_00 {w : World} (u : Nat) (x : List UInt8) (c : Ct) (hu : numB u 0 0 = true) (hd : decO x = some c) (hw : GA w) :
    Calls Tryz.prog 47 #[.int .u8 (u : Int), .int .u8 0, .int .u8 0, sv x] w fun e w' => e = .returned (rcV (makeR u 0 0 x)) ∧ Below w.heap.size w w' := by
  obtain ⟨hl, hmay, _, _, hde⟩ := decO_some hd
  have HXL := Lib.hid (show x.length ≤ 281474976710656 by omega)
  have HKL := Lib.hid (show c.key.length ≤ 9223372036854775807 by have := (key_lens hmay).2; omega)
  obtain ⟨t, ht⟩ : ∃ t, t = takeD 0 x c := ⟨_, rfl⟩
  have HTL := Lib.hid (show t.length ≤ 100000 by rw [ht]; exact take_len hd)
  obtain ⟨d, hdd⟩ : ∃ d, d = t := ⟨_, rfl⟩
  have HDT := Lib.hid (show makeR u 0 0 x = ⟨u, 0, 0, d⟩ by rw [hdd, ht]; unfold makeR dataR; rw [hd]; simp only [hu, if_true]; rfl)
  have HN := Lib.hid (fun W : World => show Calls Tryz.prog 95 #[.agg #[.int .u8 (u : Int), .int .u8 0, .int .u8 0, .string { data := #[] }]] W (fun e w' => e = .returned (.bool true) ∧ Below W.heap.size W w') by have := @isnum_u W ⟨u, 0, 0, []⟩; rw [show numB (⟨u, 0, 0, []⟩ : Rc).us (⟨u, 0, 0, []⟩ : Rc).se (⟨u, 0, 0, []⟩ : Rc).ma = true from hu] at this; exact this)
  have HMS := Lib.hid (fun W : World => @makes_any W)
  have HTS := Lib.hid (fun W : World => @takes_any W)
  have HDC := Lib.hid (fun (W : World) (h : GL W) => @decode_any W x (by omega) h)
  have hst := make_start w u 0 0 hw
  obtain ⟨W0, hW0⟩ : ∃ W0, W0 = (w.alloc (cellsR ⟨0, 0, 0, []⟩)).alloc (cellsR ⟨u, 0, 0, []⟩) := ⟨_, rfl⟩
  rw [← hW0] at hst
  have HST := Lib.hid hst
  have HW0 := Lib.hid hW0
  have HD := Lib.hid hd
  have HGW := Lib.hid hw
  clear hst hW0 hw hl hmay hde hd
  go_enter Tryz.func47, Tryz.ntmps47
  go_wp2_with fail
  refine Calls.mono (W_is HW0.out (HDC.out W0 HST.out.1.2.gl)) ?_
  rintro e w1 ⟨hb1, hm1⟩
  rw [HD.out] at hm1
  obtain ⟨A1, cp1, rfl, htw⟩ := hm1
  unfold certV
  have r1 := HST.out.2.1.step hb1
  have r2 := HST.out.2.2.step hb1
  have c0 := r1.c0
  have c1 := r1.c1
  have c2 := r1.c2
  have c3 := r1.c3
  have hk9 := r1.lt
  have HM1 := Lib.hid (make_mid HGW.out HST.out.1 r1 r2 hb1 c (.slice A1 c.names.length cp1))
  have HT := Lib.hid (fun (W : World) (h : ML W) => @takes1_any W x c A1 c.names.length cp1 HXL.out h)
  have HM := Lib.hid (fun (W : World) (h : LWc W) => @makes1_any W t)
  have ht2 : takeD 0 x c = x := rfl
  rw [ht2] at ht
  subst ht
  subst hdd
  clear htw r1 r2
  have i0 : ∀ w, (Instr.index 111 (.agg #[.func (.func 150) #[] #[], .func (.func 48) #[] #[]]) (.int .u8 0)).run Tryz.prog w = .ok (.func (.func 150) #[] #[]) w := fun _ => by kernel_rfl
  have i1 : ∀ w, (Instr.index 114 (.agg #[.func (.func 151) #[] #[], .func (.func 152) #[] #[]]) (.int .u8 0)).run Tryz.prog w = .ok (.func (.func 151) #[] #[]) w := fun _ => by kernel_rfl
  go_wp2_with (go_at_call 95; refine (HN.out _).mono ?_; rintro e w3 ⟨rfl, hb3⟩; have HMK := Lib.hid (HM1.out.step hb3); clear hb3)
  refine wp_region_held_drew (S := fun W => MK w W w1.heap.size u 0 0 c (.slice A1 c.names.length cp1)) (by kernel_rfl) (HMK.out.step (Below.refl _ _).drew) (fun hHeld => ?_)
  refine wpAnyH_take (i := 1) (v := ?vv1_1) rfl (by kernel_rfl) (by kernel_rfl) (by kernel_rfl) (fun _ _ _ h => h) (Or.inl ⟨by rfl, ?hy1_1⟩) (by assumption) ?rest1_1
  case hy1_1 => (intro w' hSw; (try dsimp only at hSw); go_simp; try with_reducible rfl)
  try simp only [List.getElem_toArray, List.getElem_cons_zero, List.getElem_cons_succ, Act.put, List.setIfInBounds_toArray, List.set_cons_zero, List.set_cons_succ]
  refine wpAnyH_take (i := 4) (v := ?vv4_1) rfl (by kernel_rfl) (by kernel_rfl) (by kernel_rfl) (fun _ _ _ h => h) (Or.inl ⟨by rfl, ?hy4_1⟩) (by assumption) ?rest4_1
  case hy4_1 => (intro w' hSw; (try dsimp only at hSw); go_simp; try with_reducible rfl)
  try simp only [List.getElem_toArray, List.getElem_cons_zero, List.getElem_cons_succ, Act.put, List.setIfInBounds_toArray, List.set_cons_zero, List.set_cons_succ]
  refine wpAnyH_take (i := 6) (v := ?vv6_1) rfl (by kernel_rfl) (by kernel_rfl) (by kernel_rfl) (fun _ _ _ h => h) (Or.inl ⟨by rfl, ?hy6_1⟩) (by assumption) ?rest6_1
  case hy6_1 => (intro w' hSw; (try dsimp only at hSw); go_simp; try with_reducible rfl)
  try simp only [List.getElem_toArray, List.getElem_cons_zero, List.getElem_cons_succ, Act.put, List.setIfInBounds_toArray, List.set_cons_zero, List.set_cons_succ]
  refine wpAnyH_take (i := 7) (v := .agg #[sv c.key, sv c.sig, .slice A1 c.names.length cp1, .int .i64 c.fr, .int .i64 c.un, .bool c.ca]) rfl (by kernel_rfl) (by kernel_rfl) (by kernel_rfl) (fun _ _ _ h => h) (Or.inl ⟨by rfl, fun w' hSw => exec_load_midU w' rfl rfl hSw.cb.range Tryz.underlying27 rfl (by kernel_rfl)⟩) (by assumption) ?_
  try simp only [List.getElem_toArray, List.getElem_cons_zero, List.getElem_cons_succ, Act.put, List.setIfInBounds_toArray, List.set_cons_zero, List.set_cons_succ]
  refine wpAnyH_ready (rs := [0]) (by kernel_rfl) (by simp) ?_
  refine AllReadyH.cons rfl (fun K hK => ?_) AllReadyH.nil
  go_simp
  go_at_call 96
  refine (HMS.out _).mono ?_
  rintro e w4 ⟨rfl, hb4⟩
  have hp9 := hHeld.step hb4
  refine hK.out _ _ hp9 (fun hHeld => ?_)
  clear hK K
  try simp only [List.getElem_toArray, List.getElem_cons_zero, List.getElem_cons_succ, Act.put, List.setIfInBounds_toArray, List.set_cons_zero, List.set_cons_succ]
  refine wpAnyH_take (i := 2) (v := ?vv2_1) rfl (by kernel_rfl) (by kernel_rfl) (by kernel_rfl) (fun _ _ _ h => h) (Or.inl ⟨by rfl, ?hy2_1⟩) (by assumption) ?rest2_1
  case hy2_1 => (intro w' hSw; (try dsimp only at hSw); go_simp; try with_reducible rfl)
  try simp only [List.getElem_toArray, List.getElem_cons_zero, List.getElem_cons_succ, Act.put, List.setIfInBounds_toArray, List.set_cons_zero, List.set_cons_succ]
  refine wpAnyH_ready (rs := [3]) (by kernel_rfl) (by simp) ?_
  refine AllReadyH.cons rfl (fun K hK => ?_) AllReadyH.nil
  go_simp
  go_at_call 97
  refine (HTS.out _).mono ?_
  rintro e w5 ⟨rfl, hb5⟩
  have hp9 := hHeld.step hb5
  refine hK.out _ _ hp9 (fun hHeld => ?_)
  clear hK K
  try simp only [List.getElem_toArray, List.getElem_cons_zero, List.getElem_cons_succ, Act.put, List.setIfInBounds_toArray, List.set_cons_zero, List.set_cons_succ]
  refine wpAnyH_take (i := 5) (v := ?vv5_1) rfl (by kernel_rfl) (by kernel_rfl) (by kernel_rfl) (fun _ _ _ h => h) (Or.inl ⟨by rfl, ?hy5_1⟩) (by assumption) ?rest5_1
  case hy5_1 => (intro w' hSw; (try dsimp only at hSw); go_simp; try with_reducible rfl)
  try simp only [List.getElem_toArray, List.getElem_cons_zero, List.getElem_cons_succ, Act.put, List.setIfInBounds_toArray, List.set_cons_zero, List.set_cons_succ]
  refine wpAnyH_ready (rs := [8]) (by kernel_rfl) (by simp) ?_
  refine AllReadyH.cons rfl (fun K hK => ?_) AllReadyH.nil
  go_simp
  go_at_call 151
  refine (HT.out _ hHeld.ga.ml).mono ?_
  rintro e w6 ⟨rfl, hb6⟩
  have hp9 := hHeld.step hb6
  refine hK.out _ _ hp9 (fun hHeld => ?_)
  clear hK K
  try simp only [List.getElem_toArray, List.getElem_cons_zero, List.getElem_cons_succ, Act.put, List.setIfInBounds_toArray, List.set_cons_zero, List.set_cons_succ]
  refine wpAnyH_ready (rs := [9]) (by kernel_rfl) (by simp) ?_
  refine AllReadyH.cons rfl (fun K hK => ?_) AllReadyH.nil
  go_simp
  go_at_call 150
  refine (HM.out _ hHeld.ga.lw).mono ?_
  rintro e w7 ⟨rfl, hb7⟩
  have hp9 := hHeld.step hb7
  obtain ⟨d0, hrb⟩ := hp9.rb
  have c3 := hrb.c3
  have f3 := hrb.free 3
  have HRB := Lib.hid (hrb.put3 d)
  have HP9 := Lib.hid (hp9.put d)
  refine hK.out _ _ hp9 (fun hHeld => ?_)
  clear hK K
  try simp only [List.getElem_toArray, List.getElem_cons_zero, List.getElem_cons_succ, Act.put, List.setIfInBounds_toArray, List.set_cons_zero, List.set_cons_succ]
  refine wpAnyH_take (i := 10) (v := ?vv10_1) rfl (by kernel_rfl) (by kernel_rfl) (by kernel_rfl) (fun _ _ _ h => h) (Or.inl ⟨by rfl, ?hy10_1⟩) (by assumption) ?rest10_1
  case hy10_1 => (intro w' hSw; (try dsimp only at hSw); go_simp; try with_reducible rfl)
  try simp only [List.getElem_toArray, List.getElem_cons_zero, List.getElem_cons_succ, Act.put, List.setIfInBounds_toArray, List.set_cons_zero, List.set_cons_succ]
  refine wpAnyH_ready (rs := [11]) (by kernel_rfl) (by simp) ?_
  refine AllReadyH.cons rfl (fun K hK => ?_) AllReadyH.nil
  go_simp
  refine hK.out _ _ HP9.out (fun hHeld => ?_)
  clear hK K
  try simp only [List.getElem_toArray, List.getElem_cons_zero, List.getElem_cons_succ, Act.put, List.setIfInBounds_toArray, List.set_cons_zero, List.set_cons_succ]
  refine wpAnyH_done (by kernel_rfl) ?_ _
  generalize w7.setCell ⟨w.heap.size + 1, 3, none⟩ (sv d) = w8 at HRB HP9 hHeld ⊢
  have q0 := HRB.out.c0
  have q1 := HRB.out.c1
  have q2 := HRB.out.c2
  have q3 := HRB.out.c3
  have z0 := HP9.out.r0.c0
  have z1 := HP9.out.r0.c1
  have z2 := HP9.out.r0.c2
  have z3 := HP9.out.r0.c3
  have y0 := HP9.out.r0.free 0
  have y1 := HP9.out.r0.free 1
  have y2 := HP9.out.r0.free 2
  have y3 := HP9.out.r0.free 3
  clear hHeld i0 i1
  go_wp2_with fail
  refine make_fin (r := ⟨u, 0, 0, d⟩) (q := makeR u 0 0 _) HP9.out.bw HP9.out.r0 _ ?_ HDT.out
  rfl
set_option maxHeartbeats 8000000 in
theorem make_01 {w : World} (u : Nat) (x : List UInt8) (c : Ct) (hu : numB u 0 1 = true) (hd : decO x = some c) (hw : GA w) :
    Calls Tryz.prog 47 #[.int .u8 (u : Int), .int .u8 0, .int .u8 1, sv x] w fun e w' => e = .returned (rcV (makeR u 0 1 x)) ∧ Below w.heap.size w w' := by
  obtain ⟨hl, hmay, _, _, hde⟩ := decO_some hd
  have HXL := Lib.hid (show x.length ≤ 281474976710656 by omega)
  have HKL := Lib.hid (show c.key.length ≤ 9223372036854775807 by have := (key_lens hmay).2; omega)
  obtain ⟨t, ht⟩ : ∃ t, t = takeD 0 x c := ⟨_, rfl⟩
  have HTL := Lib.hid (show t.length ≤ 100000 by rw [ht]; exact take_len hd)
  obtain ⟨d, hdd⟩ : ∃ d, d = sumP t := ⟨_, rfl⟩
  have HDT := Lib.hid (show makeR u 0 1 x = ⟨u, 0, 1, d⟩ by rw [hdd, ht]; unfold makeR dataR; rw [hd]; simp only [hu, if_true]; rfl)
  have HN := Lib.hid (fun W : World => show Calls Tryz.prog 95 #[.agg #[.int .u8 (u : Int), .int .u8 0, .int .u8 1, .string { data := #[] }]] W (fun e w' => e = .returned (.bool true) ∧ Below W.heap.size W w') by have := @isnum_u W ⟨u, 0, 1, []⟩; rw [show numB (⟨u, 0, 1, []⟩ : Rc).us (⟨u, 0, 1, []⟩ : Rc).se (⟨u, 0, 1, []⟩ : Rc).ma = true from hu] at this; exact this)
  have HMS := Lib.hid (fun W : World => @makes_any W)
  have HTS := Lib.hid (fun W : World => @takes_any W)
  have HDC := Lib.hid (fun (W : World) (h : GL W) => @decode_any W x (by omega) h)
  have hst := make_start w u 0 1 hw
  obtain ⟨W0, hW0⟩ : ∃ W0, W0 = (w.alloc (cellsR ⟨0, 0, 0, []⟩)).alloc (cellsR ⟨u, 0, 1, []⟩) := ⟨_, rfl⟩
  rw [← hW0] at hst
  have HST := Lib.hid hst
  have HW0 := Lib.hid hW0
  have HD := Lib.hid hd
  have HGW := Lib.hid hw
  clear hst hW0 hw hl hmay hde hd
  go_enter Tryz.func47, Tryz.ntmps47
  go_wp2_with fail
  refine Calls.mono (W_is HW0.out (HDC.out W0 HST.out.1.2.gl)) ?_
  rintro e w1 ⟨hb1, hm1⟩
  rw [HD.out] at hm1
  obtain ⟨A1, cp1, rfl, htw⟩ := hm1
  unfold certV
  have r1 := HST.out.2.1.step hb1
  have r2 := HST.out.2.2.step hb1
  have c0 := r1.c0
  have c1 := r1.c1
  have c2 := r1.c2
  have c3 := r1.c3
  have hk9 := r1.lt
  have HM1 := Lib.hid (make_mid HGW.out HST.out.1 r1 r2 hb1 c (.slice A1 c.names.length cp1))
  have HT := Lib.hid (fun (W : World) (h : ML W) => @takes1_any W x c A1 c.names.length cp1 HXL.out h)
  have HM := Lib.hid (fun (W : World) (h : LWc W) => sum_any t W HTL.out h)
  have ht2 : takeD 0 x c = x := rfl
  rw [ht2] at ht
  subst ht
  rw [← hdd] at HM; clear hdd
  clear htw r1 r2
  have i0 : ∀ w, (Instr.index 111 (.agg #[.func (.func 150) #[] #[], .func (.func 48) #[] #[]]) (.int .u8 1)).run Tryz.prog w = .ok (.func (.func 48) #[] #[]) w := fun _ => by kernel_rfl
  have i1 : ∀ w, (Instr.index 114 (.agg #[.func (.func 151) #[] #[], .func (.func 152) #[] #[]]) (.int .u8 0)).run Tryz.prog w = .ok (.func (.func 151) #[] #[]) w := fun _ => by kernel_rfl
  go_wp2_with (go_at_call 95; refine (HN.out _).mono ?_; rintro e w3 ⟨rfl, hb3⟩; have HMK := Lib.hid (HM1.out.step hb3); clear hb3)
  refine wp_region_held_drew (S := fun W => MK w W w1.heap.size u 0 1 c (.slice A1 c.names.length cp1)) (by kernel_rfl) (HMK.out.step (Below.refl _ _).drew) (fun hHeld => ?_)
  refine wpAnyH_take (i := 1) (v := ?vv1_2) rfl (by kernel_rfl) (by kernel_rfl) (by kernel_rfl) (fun _ _ _ h => h) (Or.inl ⟨by rfl, ?hy1_2⟩) (by assumption) ?rest1_2
  case hy1_2 => (intro w' hSw; (try dsimp only at hSw); go_simp; try with_reducible rfl)
  try simp only [List.getElem_toArray, List.getElem_cons_zero, List.getElem_cons_succ, Act.put, List.setIfInBounds_toArray, List.set_cons_zero, List.set_cons_succ]
  refine wpAnyH_take (i := 4) (v := ?vv4_2) rfl (by kernel_rfl) (by kernel_rfl) (by kernel_rfl) (fun _ _ _ h => h) (Or.inl ⟨by rfl, ?hy4_2⟩) (by assumption) ?rest4_2
  case hy4_2 => (intro w' hSw; (try dsimp only at hSw); go_simp; try with_reducible rfl)
  try simp only [List.getElem_toArray, List.getElem_cons_zero, List.getElem_cons_succ, Act.put, List.setIfInBounds_toArray, List.set_cons_zero, List.set_cons_succ]
  refine wpAnyH_take (i := 6) (v := ?vv6_2) rfl (by kernel_rfl) (by kernel_rfl) (by kernel_rfl) (fun _ _ _ h => h) (Or.inl ⟨by rfl, ?hy6_2⟩) (by assumption) ?rest6_2
  case hy6_2 => (intro w' hSw; (try dsimp only at hSw); go_simp; try with_reducible rfl)
  try simp only [List.getElem_toArray, List.getElem_cons_zero, List.getElem_cons_succ, Act.put, List.setIfInBounds_toArray, List.set_cons_zero, List.set_cons_succ]
  refine wpAnyH_take (i := 7) (v := .agg #[sv c.key, sv c.sig, .slice A1 c.names.length cp1, .int .i64 c.fr, .int .i64 c.un, .bool c.ca]) rfl (by kernel_rfl) (by kernel_rfl) (by kernel_rfl) (fun _ _ _ h => h) (Or.inl ⟨by rfl, fun w' hSw => exec_load_midU w' rfl rfl hSw.cb.range Tryz.underlying27 rfl (by kernel_rfl)⟩) (by assumption) ?_
  try simp only [List.getElem_toArray, List.getElem_cons_zero, List.getElem_cons_succ, Act.put, List.setIfInBounds_toArray, List.set_cons_zero, List.set_cons_succ]
  refine wpAnyH_ready (rs := [0]) (by kernel_rfl) (by simp) ?_
  refine AllReadyH.cons rfl (fun K hK => ?_) AllReadyH.nil
  go_simp
  go_at_call 96
  refine (HMS.out _).mono ?_
  rintro e w4 ⟨rfl, hb4⟩
  have hp9 := hHeld.step hb4
  refine hK.out _ _ hp9 (fun hHeld => ?_)
  clear hK K
  try simp only [List.getElem_toArray, List.getElem_cons_zero, List.getElem_cons_succ, Act.put, List.setIfInBounds_toArray, List.set_cons_zero, List.set_cons_succ]
  refine wpAnyH_take (i := 2) (v := ?vv2_2) rfl (by kernel_rfl) (by kernel_rfl) (by kernel_rfl) (fun _ _ _ h => h) (Or.inl ⟨by rfl, ?hy2_2⟩) (by assumption) ?rest2_2
  case hy2_2 => (intro w' hSw; (try dsimp only at hSw); go_simp; try with_reducible rfl)
  try simp only [List.getElem_toArray, List.getElem_cons_zero, List.getElem_cons_succ, Act.put, List.setIfInBounds_toArray, List.set_cons_zero, List.set_cons_succ]
  refine wpAnyH_ready (rs := [3]) (by kernel_rfl) (by simp) ?_
  refine AllReadyH.cons rfl (fun K hK => ?_) AllReadyH.nil
  go_simp
  go_at_call 97
  refine (HTS.out _).mono ?_
  rintro e w5 ⟨rfl, hb5⟩
  have hp9 := hHeld.step hb5
  refine hK.out _ _ hp9 (fun hHeld => ?_)
  clear hK K
  try simp only [List.getElem_toArray, List.getElem_cons_zero, List.getElem_cons_succ, Act.put, List.setIfInBounds_toArray, List.set_cons_zero, List.set_cons_succ]
  refine wpAnyH_take (i := 5) (v := ?vv5_2) rfl (by kernel_rfl) (by kernel_rfl) (by kernel_rfl) (fun _ _ _ h => h) (Or.inl ⟨by rfl, ?hy5_2⟩) (by assumption) ?rest5_2
  case hy5_2 => (intro w' hSw; (try dsimp only at hSw); go_simp; try with_reducible rfl)
  try simp only [List.getElem_toArray, List.getElem_cons_zero, List.getElem_cons_succ, Act.put, List.setIfInBounds_toArray, List.set_cons_zero, List.set_cons_succ]
  refine wpAnyH_ready (rs := [8]) (by kernel_rfl) (by simp) ?_
  refine AllReadyH.cons rfl (fun K hK => ?_) AllReadyH.nil
  go_simp
  go_at_call 151
  refine (HT.out _ hHeld.ga.ml).mono ?_
  rintro e w6 ⟨rfl, hb6⟩
  have hp9 := hHeld.step hb6
  refine hK.out _ _ hp9 (fun hHeld => ?_)
  clear hK K
  try simp only [List.getElem_toArray, List.getElem_cons_zero, List.getElem_cons_succ, Act.put, List.setIfInBounds_toArray, List.set_cons_zero, List.set_cons_succ]
  refine wpAnyH_ready (rs := [9]) (by kernel_rfl) (by simp) ?_
  refine AllReadyH.cons rfl (fun K hK => ?_) AllReadyH.nil
  go_simp
  go_at_call 48
  refine (HM.out _ hHeld.ga.lw).mono ?_
  rintro e w7 ⟨rfl, hb7⟩
  have hp9 := hHeld.step hb7
  obtain ⟨d0, hrb⟩ := hp9.rb
  have c3 := hrb.c3
  have f3 := hrb.free 3
  have HRB := Lib.hid (hrb.put3 d)
  have HP9 := Lib.hid (hp9.put d)
  refine hK.out _ _ hp9 (fun hHeld => ?_)
  clear hK K
  try simp only [List.getElem_toArray, List.getElem_cons_zero, List.getElem_cons_succ, Act.put, List.setIfInBounds_toArray, List.set_cons_zero, List.set_cons_succ]
  refine wpAnyH_take (i := 10) (v := ?vv10_2) rfl (by kernel_rfl) (by kernel_rfl) (by kernel_rfl) (fun _ _ _ h => h) (Or.inl ⟨by rfl, ?hy10_2⟩) (by assumption) ?rest10_2
  case hy10_2 => (intro w' hSw; (try dsimp only at hSw); go_simp; try with_reducible rfl)
  try simp only [List.getElem_toArray, List.getElem_cons_zero, List.getElem_cons_succ, Act.put, List.setIfInBounds_toArray, List.set_cons_zero, List.set_cons_succ]
  refine wpAnyH_ready (rs := [11]) (by kernel_rfl) (by simp) ?_
  refine AllReadyH.cons rfl (fun K hK => ?_) AllReadyH.nil
  go_simp
  refine hK.out _ _ HP9.out (fun hHeld => ?_)
  clear hK K
  try simp only [List.getElem_toArray, List.getElem_cons_zero, List.getElem_cons_succ, Act.put, List.setIfInBounds_toArray, List.set_cons_zero, List.set_cons_succ]
  refine wpAnyH_done (by kernel_rfl) ?_ _
  generalize w7.setCell ⟨w.heap.size + 1, 3, none⟩ (sv d) = w8 at HRB HP9 hHeld ⊢
  have q0 := HRB.out.c0
  have q1 := HRB.out.c1
  have q2 := HRB.out.c2
  have q3 := HRB.out.c3
  have z0 := HP9.out.r0.c0
  have z1 := HP9.out.r0.c1
  have z2 := HP9.out.r0.c2
  have z3 := HP9.out.r0.c3
  have y0 := HP9.out.r0.free 0
  have y1 := HP9.out.r0.free 1
  have y2 := HP9.out.r0.free 2
  have y3 := HP9.out.r0.free 3
  clear hHeld i0 i1
  go_wp2_with fail
  refine make_fin (r := ⟨u, 0, 1, d⟩) (q := makeR u 0 1 _) HP9.out.bw HP9.out.r0 _ ?_ HDT.out
  rfl
set_option maxHeartbeats 8000000 in
theorem make_10 {w : World} (u : Nat) (x : List UInt8) (c : Ct) (hu : numB u 1 0 = true) (hd : decO x = some c) (hw : GA w) :
    Calls Tryz.prog 47 #[.int .u8 (u : Int), .int .u8 1, .int .u8 0, sv x] w fun e w' => e = .returned (rcV (makeR u 1 0 x)) ∧ Below w.heap.size w w' := by
  obtain ⟨hl, hmay, _, _, hde⟩ := decO_some hd
  have HXL := Lib.hid (show x.length ≤ 281474976710656 by omega)
  have HKL := Lib.hid (show c.key.length ≤ 9223372036854775807 by have := (key_lens hmay).2; omega)
  obtain ⟨t, ht⟩ : ∃ t, t = takeD 1 x c := ⟨_, rfl⟩
  have HTL := Lib.hid (show t.length ≤ 100000 by rw [ht]; exact take_len hd)
  obtain ⟨d, hdd⟩ : ∃ d, d = t := ⟨_, rfl⟩
  have HDT := Lib.hid (show makeR u 1 0 x = ⟨u, 1, 0, d⟩ by rw [hdd, ht]; unfold makeR dataR; rw [hd]; simp only [hu, if_true]; rfl)
  have HN := Lib.hid (fun W : World => show Calls Tryz.prog 95 #[.agg #[.int .u8 (u : Int), .int .u8 1, .int .u8 0, .string { data := #[] }]] W (fun e w' => e = .returned (.bool true) ∧ Below W.heap.size W w') by have := @isnum_u W ⟨u, 1, 0, []⟩; rw [show numB (⟨u, 1, 0, []⟩ : Rc).us (⟨u, 1, 0, []⟩ : Rc).se (⟨u, 1, 0, []⟩ : Rc).ma = true from hu] at this; exact this)
  have HMS := Lib.hid (fun W : World => @makes_any W)
  have HTS := Lib.hid (fun W : World => @takes_any W)
  have HDC := Lib.hid (fun (W : World) (h : GL W) => @decode_any W x (by omega) h)
  have hst := make_start w u 1 0 hw
  obtain ⟨W0, hW0⟩ : ∃ W0, W0 = (w.alloc (cellsR ⟨0, 0, 0, []⟩)).alloc (cellsR ⟨u, 1, 0, []⟩) := ⟨_, rfl⟩
  rw [← hW0] at hst
  have HST := Lib.hid hst
  have HW0 := Lib.hid hW0
  have HD := Lib.hid hd
  have HGW := Lib.hid hw
  clear hst hW0 hw hl hmay hde hd
  go_enter Tryz.func47, Tryz.ntmps47
  go_wp2_with fail
  refine Calls.mono (W_is HW0.out (HDC.out W0 HST.out.1.2.gl)) ?_
  rintro e w1 ⟨hb1, hm1⟩
  rw [HD.out] at hm1
  obtain ⟨A1, cp1, rfl, htw⟩ := hm1
  unfold certV
  have r1 := HST.out.2.1.step hb1
  have r2 := HST.out.2.2.step hb1
  have c0 := r1.c0
  have c1 := r1.c1
  have c2 := r1.c2
  have c3 := r1.c3
  have hk9 := r1.lt
  have HM1 := Lib.hid (make_mid HGW.out HST.out.1 r1 r2 hb1 c (.slice A1 c.names.length cp1))
  have HT := Lib.hid (fun (W : World) (h : ML W) => @takes2_any W x c A1 c.names.length cp1 HKL.out)
  have HM := Lib.hid (fun (W : World) (h : LWc W) => @makes1_any W t)
  have ht2 : takeD 1 x c = spkiL c.key := rfl
  rw [ht2] at ht
  rw [← ht] at HT; clear ht
  subst hdd
  clear htw r1 r2
  have i0 : ∀ w, (Instr.index 111 (.agg #[.func (.func 150) #[] #[], .func (.func 48) #[] #[]]) (.int .u8 0)).run Tryz.prog w = .ok (.func (.func 150) #[] #[]) w := fun _ => by kernel_rfl
  have i1 : ∀ w, (Instr.index 114 (.agg #[.func (.func 151) #[] #[], .func (.func 152) #[] #[]]) (.int .u8 1)).run Tryz.prog w = .ok (.func (.func 152) #[] #[]) w := fun _ => by kernel_rfl
  go_wp2_with (go_at_call 95; refine (HN.out _).mono ?_; rintro e w3 ⟨rfl, hb3⟩; have HMK := Lib.hid (HM1.out.step hb3); clear hb3)
  refine wp_region_held_drew (S := fun W => MK w W w1.heap.size u 1 0 c (.slice A1 c.names.length cp1)) (by kernel_rfl) (HMK.out.step (Below.refl _ _).drew) (fun hHeld => ?_)
  refine wpAnyH_take (i := 1) (v := ?vv1_3) rfl (by kernel_rfl) (by kernel_rfl) (by kernel_rfl) (fun _ _ _ h => h) (Or.inl ⟨by rfl, ?hy1_3⟩) (by assumption) ?rest1_3
  case hy1_3 => (intro w' hSw; (try dsimp only at hSw); go_simp; try with_reducible rfl)
  try simp only [List.getElem_toArray, List.getElem_cons_zero, List.getElem_cons_succ, Act.put, List.setIfInBounds_toArray, List.set_cons_zero, List.set_cons_succ]
  refine wpAnyH_take (i := 4) (v := ?vv4_3) rfl (by kernel_rfl) (by kernel_rfl) (by kernel_rfl) (fun _ _ _ h => h) (Or.inl ⟨by rfl, ?hy4_3⟩) (by assumption) ?rest4_3
  case hy4_3 => (intro w' hSw; (try dsimp only at hSw); go_simp; try with_reducible rfl)
  try simp only [List.getElem_toArray, List.getElem_cons_zero, List.getElem_cons_succ, Act.put, List.setIfInBounds_toArray, List.set_cons_zero, List.set_cons_succ]
  refine wpAnyH_take (i := 6) (v := ?vv6_3) rfl (by kernel_rfl) (by kernel_rfl) (by kernel_rfl) (fun _ _ _ h => h) (Or.inl ⟨by rfl, ?hy6_3⟩) (by assumption) ?rest6_3
  case hy6_3 => (intro w' hSw; (try dsimp only at hSw); go_simp; try with_reducible rfl)
  try simp only [List.getElem_toArray, List.getElem_cons_zero, List.getElem_cons_succ, Act.put, List.setIfInBounds_toArray, List.set_cons_zero, List.set_cons_succ]
  refine wpAnyH_take (i := 7) (v := .agg #[sv c.key, sv c.sig, .slice A1 c.names.length cp1, .int .i64 c.fr, .int .i64 c.un, .bool c.ca]) rfl (by kernel_rfl) (by kernel_rfl) (by kernel_rfl) (fun _ _ _ h => h) (Or.inl ⟨by rfl, fun w' hSw => exec_load_midU w' rfl rfl hSw.cb.range Tryz.underlying27 rfl (by kernel_rfl)⟩) (by assumption) ?_
  try simp only [List.getElem_toArray, List.getElem_cons_zero, List.getElem_cons_succ, Act.put, List.setIfInBounds_toArray, List.set_cons_zero, List.set_cons_succ]
  refine wpAnyH_ready (rs := [0]) (by kernel_rfl) (by simp) ?_
  refine AllReadyH.cons rfl (fun K hK => ?_) AllReadyH.nil
  go_simp
  go_at_call 96
  refine (HMS.out _).mono ?_
  rintro e w4 ⟨rfl, hb4⟩
  have hp9 := hHeld.step hb4
  refine hK.out _ _ hp9 (fun hHeld => ?_)
  clear hK K
  try simp only [List.getElem_toArray, List.getElem_cons_zero, List.getElem_cons_succ, Act.put, List.setIfInBounds_toArray, List.set_cons_zero, List.set_cons_succ]
  refine wpAnyH_take (i := 2) (v := ?vv2_3) rfl (by kernel_rfl) (by kernel_rfl) (by kernel_rfl) (fun _ _ _ h => h) (Or.inl ⟨by rfl, ?hy2_3⟩) (by assumption) ?rest2_3
  case hy2_3 => (intro w' hSw; (try dsimp only at hSw); go_simp; try with_reducible rfl)
  try simp only [List.getElem_toArray, List.getElem_cons_zero, List.getElem_cons_succ, Act.put, List.setIfInBounds_toArray, List.set_cons_zero, List.set_cons_succ]
  refine wpAnyH_ready (rs := [3]) (by kernel_rfl) (by simp) ?_
  refine AllReadyH.cons rfl (fun K hK => ?_) AllReadyH.nil
  go_simp
  go_at_call 97
  refine (HTS.out _).mono ?_
  rintro e w5 ⟨rfl, hb5⟩
  have hp9 := hHeld.step hb5
  refine hK.out _ _ hp9 (fun hHeld => ?_)
  clear hK K
  try simp only [List.getElem_toArray, List.getElem_cons_zero, List.getElem_cons_succ, Act.put, List.setIfInBounds_toArray, List.set_cons_zero, List.set_cons_succ]
  refine wpAnyH_take (i := 5) (v := ?vv5_3) rfl (by kernel_rfl) (by kernel_rfl) (by kernel_rfl) (fun _ _ _ h => h) (Or.inl ⟨by rfl, ?hy5_3⟩) (by assumption) ?rest5_3
  case hy5_3 => (intro w' hSw; (try dsimp only at hSw); go_simp; try with_reducible rfl)
  try simp only [List.getElem_toArray, List.getElem_cons_zero, List.getElem_cons_succ, Act.put, List.setIfInBounds_toArray, List.set_cons_zero, List.set_cons_succ]
  refine wpAnyH_ready (rs := [8]) (by kernel_rfl) (by simp) ?_
  refine AllReadyH.cons rfl (fun K hK => ?_) AllReadyH.nil
  go_simp
  go_at_call 152
  refine (HT.out _ hHeld.ga.ml).mono ?_
  rintro e w6 ⟨rfl, hb6⟩
  have hp9 := hHeld.step hb6
  refine hK.out _ _ hp9 (fun hHeld => ?_)
  clear hK K
  try simp only [List.getElem_toArray, List.getElem_cons_zero, List.getElem_cons_succ, Act.put, List.setIfInBounds_toArray, List.set_cons_zero, List.set_cons_succ]
  refine wpAnyH_ready (rs := [9]) (by kernel_rfl) (by simp) ?_
  refine AllReadyH.cons rfl (fun K hK => ?_) AllReadyH.nil
  go_simp
  go_at_call 150
  refine (HM.out _ hHeld.ga.lw).mono ?_
  rintro e w7 ⟨rfl, hb7⟩
  have hp9 := hHeld.step hb7
  obtain ⟨d0, hrb⟩ := hp9.rb
  have c3 := hrb.c3
  have f3 := hrb.free 3
  have HRB := Lib.hid (hrb.put3 d)
  have HP9 := Lib.hid (hp9.put d)
  refine hK.out _ _ hp9 (fun hHeld => ?_)
  clear hK K
  try simp only [List.getElem_toArray, List.getElem_cons_zero, List.getElem_cons_succ, Act.put, List.setIfInBounds_toArray, List.set_cons_zero, List.set_cons_succ]
  refine wpAnyH_take (i := 10) (v := ?vv10_3) rfl (by kernel_rfl) (by kernel_rfl) (by kernel_rfl) (fun _ _ _ h => h) (Or.inl ⟨by rfl, ?hy10_3⟩) (by assumption) ?rest10_3
  case hy10_3 => (intro w' hSw; (try dsimp only at hSw); go_simp; try with_reducible rfl)
  try simp only [List.getElem_toArray, List.getElem_cons_zero, List.getElem_cons_succ, Act.put, List.setIfInBounds_toArray, List.set_cons_zero, List.set_cons_succ]
  refine wpAnyH_ready (rs := [11]) (by kernel_rfl) (by simp) ?_
  refine AllReadyH.cons rfl (fun K hK => ?_) AllReadyH.nil
  go_simp
  refine hK.out _ _ HP9.out (fun hHeld => ?_)
  clear hK K
  try simp only [List.getElem_toArray, List.getElem_cons_zero, List.getElem_cons_succ, Act.put, List.setIfInBounds_toArray, List.set_cons_zero, List.set_cons_succ]
  refine wpAnyH_done (by kernel_rfl) ?_ _
  generalize w7.setCell ⟨w.heap.size + 1, 3, none⟩ (sv d) = w8 at HRB HP9 hHeld ⊢
  have q0 := HRB.out.c0
  have q1 := HRB.out.c1
  have q2 := HRB.out.c2
  have q3 := HRB.out.c3
  have z0 := HP9.out.r0.c0
  have z1 := HP9.out.r0.c1
  have z2 := HP9.out.r0.c2
  have z3 := HP9.out.r0.c3
  have y0 := HP9.out.r0.free 0
  have y1 := HP9.out.r0.free 1
  have y2 := HP9.out.r0.free 2
  have y3 := HP9.out.r0.free 3
  clear hHeld i0 i1
  go_wp2_with fail
  refine make_fin (r := ⟨u, 1, 0, d⟩) (q := makeR u 1 0 _) HP9.out.bw HP9.out.r0 _ ?_ HDT.out
  rfl
set_option maxHeartbeats 8000000 in
theorem make_11 {w : World} (u : Nat) (x : List UInt8) (c : Ct) (hu : numB u 1 1 = true) (hd : decO x = some c) (hw : GA w) :
    Calls Tryz.prog 47 #[.int .u8 (u : Int), .int .u8 1, .int .u8 1, sv x] w fun e w' => e = .returned (rcV (makeR u 1 1 x)) ∧ Below w.heap.size w w' := by
  obtain ⟨hl, hmay, _, _, hde⟩ := decO_some hd
  have HXL := Lib.hid (show x.length ≤ 281474976710656 by omega)
  have HKL := Lib.hid (show c.key.length ≤ 9223372036854775807 by have := (key_lens hmay).2; omega)
  obtain ⟨t, ht⟩ : ∃ t, t = takeD 1 x c := ⟨_, rfl⟩
  have HTL := Lib.hid (show t.length ≤ 100000 by rw [ht]; exact take_len hd)
  obtain ⟨d, hdd⟩ : ∃ d, d = sumP t := ⟨_, rfl⟩
  have HDT := Lib.hid (show makeR u 1 1 x = ⟨u, 1, 1, d⟩ by rw [hdd, ht]; unfold makeR dataR; rw [hd]; simp only [hu, if_true]; rfl)
  have HN := Lib.hid (fun W : World => show Calls Tryz.prog 95 #[.agg #[.int .u8 (u : Int), .int .u8 1, .int .u8 1, .string { data := #[] }]] W (fun e w' => e = .returned (.bool true) ∧ Below W.heap.size W w') by have := @isnum_u W ⟨u, 1, 1, []⟩; rw [show numB (⟨u, 1, 1, []⟩ : Rc).us (⟨u, 1, 1, []⟩ : Rc).se (⟨u, 1, 1, []⟩ : Rc).ma = true from hu] at this; exact this)
  have HMS := Lib.hid (fun W : World => @makes_any W)
  have HTS := Lib.hid (fun W : World => @takes_any W)
  have HDC := Lib.hid (fun (W : World) (h : GL W) => @decode_any W x (by omega) h)
  have hst := make_start w u 1 1 hw
  obtain ⟨W0, hW0⟩ : ∃ W0, W0 = (w.alloc (cellsR ⟨0, 0, 0, []⟩)).alloc (cellsR ⟨u, 1, 1, []⟩) := ⟨_, rfl⟩
  rw [← hW0] at hst
  have HST := Lib.hid hst
  have HW0 := Lib.hid hW0
  have HD := Lib.hid hd
  have HGW := Lib.hid hw
  clear hst hW0 hw hl hmay hde hd
  go_enter Tryz.func47, Tryz.ntmps47
  go_wp2_with fail
  refine Calls.mono (W_is HW0.out (HDC.out W0 HST.out.1.2.gl)) ?_
  rintro e w1 ⟨hb1, hm1⟩
  rw [HD.out] at hm1
  obtain ⟨A1, cp1, rfl, htw⟩ := hm1
  unfold certV
  have r1 := HST.out.2.1.step hb1
  have r2 := HST.out.2.2.step hb1
  have c0 := r1.c0
  have c1 := r1.c1
  have c2 := r1.c2
  have c3 := r1.c3
  have hk9 := r1.lt
  have HM1 := Lib.hid (make_mid HGW.out HST.out.1 r1 r2 hb1 c (.slice A1 c.names.length cp1))
  have HT := Lib.hid (fun (W : World) (h : ML W) => @takes2_any W x c A1 c.names.length cp1 HKL.out)
  have HM := Lib.hid (fun (W : World) (h : LWc W) => sum_any t W HTL.out h)
  have ht2 : takeD 1 x c = spkiL c.key := rfl
  rw [ht2] at ht
  rw [← ht] at HT; clear ht
  rw [← hdd] at HM; clear hdd
  clear htw r1 r2
  have i0 : ∀ w, (Instr.index 111 (.agg #[.func (.func 150) #[] #[], .func (.func 48) #[] #[]]) (.int .u8 1)).run Tryz.prog w = .ok (.func (.func 48) #[] #[]) w := fun _ => by kernel_rfl
  have i1 : ∀ w, (Instr.index 114 (.agg #[.func (.func 151) #[] #[], .func (.func 152) #[] #[]]) (.int .u8 1)).run Tryz.prog w = .ok (.func (.func 152) #[] #[]) w := fun _ => by kernel_rfl
  go_wp2_with (go_at_call 95; refine (HN.out _).mono ?_; rintro e w3 ⟨rfl, hb3⟩; have HMK := Lib.hid (HM1.out.step hb3); clear hb3)
  refine wp_region_held_drew (S := fun W => MK w W w1.heap.size u 1 1 c (.slice A1 c.names.length cp1)) (by kernel_rfl) (HMK.out.step (Below.refl _ _).drew) (fun hHeld => ?_)
  refine wpAnyH_take (i := 1) (v := ?vv1_4) rfl (by kernel_rfl) (by kernel_rfl) (by kernel_rfl) (fun _ _ _ h => h) (Or.inl ⟨by rfl, ?hy1_4⟩) (by assumption) ?rest1_4
  case hy1_4 => (intro w' hSw; (try dsimp only at hSw); go_simp; try with_reducible rfl)
  try simp only [List.getElem_toArray, List.getElem_cons_zero, List.getElem_cons_succ, Act.put, List.setIfInBounds_toArray, List.set_cons_zero, List.set_cons_succ]
  refine wpAnyH_take (i := 4) (v := ?vv4_4) rfl (by kernel_rfl) (by kernel_rfl) (by kernel_rfl) (fun _ _ _ h => h) (Or.inl ⟨by rfl, ?hy4_4⟩) (by assumption) ?rest4_4
  case hy4_4 => (intro w' hSw; (try dsimp only at hSw); go_simp; try with_reducible rfl)
  try simp only [List.getElem_toArray, List.getElem_cons_zero, List.getElem_cons_succ, Act.put, List.setIfInBounds_toArray, List.set_cons_zero, List.set_cons_succ]
  refine wpAnyH_take (i := 6) (v := ?vv6_4) rfl (by kernel_rfl) (by kernel_rfl) (by kernel_rfl) (fun _ _ _ h => h) (Or.inl ⟨by rfl, ?hy6_4⟩) (by assumption) ?rest6_4
  case hy6_4 => (intro w' hSw; (try dsimp only at hSw); go_simp; try with_reducible rfl)
  try simp only [List.getElem_toArray, List.getElem_cons_zero, List.getElem_cons_succ, Act.put, List.setIfInBounds_toArray, List.set_cons_zero, List.set_cons_succ]
  refine wpAnyH_take (i := 7) (v := .agg #[sv c.key, sv c.sig, .slice A1 c.names.length cp1, .int .i64 c.fr, .int .i64 c.un, .bool c.ca]) rfl (by kernel_rfl) (by kernel_rfl) (by kernel_rfl) (fun _ _ _ h => h) (Or.inl ⟨by rfl, fun w' hSw => exec_load_midU w' rfl rfl hSw.cb.range Tryz.underlying27 rfl (by kernel_rfl)⟩) (by assumption) ?_
  try simp only [List.getElem_toArray, List.getElem_cons_zero, List.getElem_cons_succ, Act.put, List.setIfInBounds_toArray, List.set_cons_zero, List.set_cons_succ]
  refine wpAnyH_ready (rs := [0]) (by kernel_rfl) (by simp) ?_
  refine AllReadyH.cons rfl (fun K hK => ?_) AllReadyH.nil
  go_simp
  go_at_call 96
  refine (HMS.out _).mono ?_
  rintro e w4 ⟨rfl, hb4⟩
  have hp9 := hHeld.step hb4
  refine hK.out _ _ hp9 (fun hHeld => ?_)
  clear hK K
  try simp only [List.getElem_toArray, List.getElem_cons_zero, List.getElem_cons_succ, Act.put, List.setIfInBounds_toArray, List.set_cons_zero, List.set_cons_succ]
  refine wpAnyH_take (i := 2) (v := ?vv2_4) rfl (by kernel_rfl) (by kernel_rfl) (by kernel_rfl) (fun _ _ _ h => h) (Or.inl ⟨by rfl, ?hy2_4⟩) (by assumption) ?rest2_4
  case hy2_4 => (intro w' hSw; (try dsimp only at hSw); go_simp; try with_reducible rfl)
  try simp only [List.getElem_toArray, List.getElem_cons_zero, List.getElem_cons_succ, Act.put, List.setIfInBounds_toArray, List.set_cons_zero, List.set_cons_succ]
  refine wpAnyH_ready (rs := [3]) (by kernel_rfl) (by simp) ?_
  refine AllReadyH.cons rfl (fun K hK => ?_) AllReadyH.nil
  go_simp
  go_at_call 97
  refine (HTS.out _).mono ?_
  rintro e w5 ⟨rfl, hb5⟩
  have hp9 := hHeld.step hb5
  refine hK.out _ _ hp9 (fun hHeld => ?_)
  clear hK K
  try simp only [List.getElem_toArray, List.getElem_cons_zero, List.getElem_cons_succ, Act.put, List.setIfInBounds_toArray, List.set_cons_zero, List.set_cons_succ]
  refine wpAnyH_take (i := 5) (v := ?vv5_4) rfl (by kernel_rfl) (by kernel_rfl) (by kernel_rfl) (fun _ _ _ h => h) (Or.inl ⟨by rfl, ?hy5_4⟩) (by assumption) ?rest5_4
  case hy5_4 => (intro w' hSw; (try dsimp only at hSw); go_simp; try with_reducible rfl)
  try simp only [List.getElem_toArray, List.getElem_cons_zero, List.getElem_cons_succ, Act.put, List.setIfInBounds_toArray, List.set_cons_zero, List.set_cons_succ]
  refine wpAnyH_ready (rs := [8]) (by kernel_rfl) (by simp) ?_
  refine AllReadyH.cons rfl (fun K hK => ?_) AllReadyH.nil
  go_simp
  go_at_call 152
  refine (HT.out _ hHeld.ga.ml).mono ?_
  rintro e w6 ⟨rfl, hb6⟩
  have hp9 := hHeld.step hb6
  refine hK.out _ _ hp9 (fun hHeld => ?_)
  clear hK K
  try simp only [List.getElem_toArray, List.getElem_cons_zero, List.getElem_cons_succ, Act.put, List.setIfInBounds_toArray, List.set_cons_zero, List.set_cons_succ]
  refine wpAnyH_ready (rs := [9]) (by kernel_rfl) (by simp) ?_
  refine AllReadyH.cons rfl (fun K hK => ?_) AllReadyH.nil
  go_simp
  go_at_call 48
  refine (HM.out _ hHeld.ga.lw).mono ?_
  rintro e w7 ⟨rfl, hb7⟩
  have hp9 := hHeld.step hb7
  obtain ⟨d0, hrb⟩ := hp9.rb
  have c3 := hrb.c3
  have f3 := hrb.free 3
  have HRB := Lib.hid (hrb.put3 d)
  have HP9 := Lib.hid (hp9.put d)
  refine hK.out _ _ hp9 (fun hHeld => ?_)
  clear hK K
  try simp only [List.getElem_toArray, List.getElem_cons_zero, List.getElem_cons_succ, Act.put, List.setIfInBounds_toArray, List.set_cons_zero, List.set_cons_succ]
  refine wpAnyH_take (i := 10) (v := ?vv10_4) rfl (by kernel_rfl) (by kernel_rfl) (by kernel_rfl) (fun _ _ _ h => h) (Or.inl ⟨by rfl, ?hy10_4⟩) (by assumption) ?rest10_4
  case hy10_4 => (intro w' hSw; (try dsimp only at hSw); go_simp; try with_reducible rfl)
  try simp only [List.getElem_toArray, List.getElem_cons_zero, List.getElem_cons_succ, Act.put, List.setIfInBounds_toArray, List.set_cons_zero, List.set_cons_succ]
  refine wpAnyH_ready (rs := [11]) (by kernel_rfl) (by simp) ?_
  refine AllReadyH.cons rfl (fun K hK => ?_) AllReadyH.nil
  go_simp
  refine hK.out _ _ HP9.out (fun hHeld => ?_)
  clear hK K
  try simp only [List.getElem_toArray, List.getElem_cons_zero, List.getElem_cons_succ, Act.put, List.setIfInBounds_toArray, List.set_cons_zero, List.set_cons_succ]
  refine wpAnyH_done (by kernel_rfl) ?_ _
  generalize w7.setCell ⟨w.heap.size + 1, 3, none⟩ (sv d) = w8 at HRB HP9 hHeld ⊢
  have q0 := HRB.out.c0
  have q1 := HRB.out.c1
  have q2 := HRB.out.c2
  have q3 := HRB.out.c3
  have z0 := HP9.out.r0.c0
  have z1 := HP9.out.r0.c1
  have z2 := HP9.out.r0.c2
  have z3 := HP9.out.r0.c3
  have y0 := HP9.out.r0.free 0
  have y1 := HP9.out.r0.free 1
  have y2 := HP9.out.r0.free 2
  have y3 := HP9.out.r0.free 3
  clear hHeld i0 i1
  go_wp2_with fail
  refine make_fin (r := ⟨u, 1, 1, d⟩) (q := makeR u 1 1 _) HP9.out.bw HP9.out.r0 _ ?_ HDT.out
  rfl
theorem dec_error {s : List UInt8} (h : decO s = none) : ¬ decE s = 0 := by
  unfold decE
  split
  · decide
  · rw [h]; decide
set_option maxHeartbeats 8000000 in
theorem make_none {w : World} (u s m : Nat) (x : List UInt8) (hx : x.length ≤ 9223372036854775807) (hd : decO x = none) (hw : GA w) :
    Calls Tryz.prog 47 #[.int .u8 (u : Int), .int .u8 (s : Int), .int .u8 (m : Int), sv x] w fun e w' => e = .returned (rcV (makeR u s m x)) ∧ Below w.heap.size w w' := by
  have HDT := Lib.hid (show makeR u s m x = ⟨u, s, m, []⟩ by unfold makeR dataR; rw [hd])
  have HDC := Lib.hid (fun (W : World) (h : GL W) => @decode_any W x hx h)
  have hst := make_start w u s m hw
  obtain ⟨W0, hW0⟩ : ∃ W0, W0 = (w.alloc (cellsR ⟨0, 0, 0, []⟩)).alloc (cellsR ⟨u, s, m, []⟩) := ⟨_, rfl⟩
  rw [← hW0] at hst
  have HST := Lib.hid hst
  have HW0 := Lib.hid hW0
  have HD := Lib.hid hd
  have hne := dec_error hd
  obtain ⟨z, hz⟩ : ∃ z, z = decE x := ⟨_, rfl⟩
  rw [← hz] at hne
  have HZ := Lib.hid hz
  have hne' : ¬ (z : Int) = 0 := by omega
  have hne2 : ((z : Int) == 0) = false := by rw [beq_eq_false_iff_ne]; exact hne'
  clear hst hW0 hw hd hz hne
  go_enter Tryz.func47, Tryz.ntmps47
  go_wp2_with fail
  refine Calls.mono (W_is HW0.out (HDC.out W0 HST.out.1.2.gl)) ?_
  rintro e w1 ⟨hb1, hm1⟩
  rw [HD.out] at hm1
  subst hm1
  rw [← HZ.out]
  unfold certV
  have r1 := HST.out.2.1.step hb1
  have r2 := HST.out.2.2.step hb1
  have c0 := r1.c0
  have c1 := r1.c1
  have c2 := r1.c2
  have c3 := r1.c3
  have hk9 := r1.lt
  have z0 := r2.c0
  have z1 := r2.c1
  have z2 := r2.c2
  have z3 := r2.c3
  have y0 := r2.free 0
  have y1 := r2.free 1
  have y2 := r2.free 2
  have y3 := r2.free 3
  have hk8 := r2.lt
  have HB := Lib.hid (HST.out.1.step hb1).1
  have HR2 := Lib.hid r2
  clear r1 r2
  go_wp2_with fail
  refine make_fin2 (W := w1) (r := ⟨u, s, m, []⟩) (q := makeR u s m _) HB.out HR2.out _ _ ?_ HDT.out
  rfl
set_option maxHeartbeats 8000000 in
theorem make_num {w : World} (u s m : Nat) (x : List UInt8) (c : Ct) (hu : numB u s m = false) (hd : decO x = some c) (hw : GA w) :
    Calls Tryz.prog 47 #[.int .u8 (u : Int), .int .u8 (s : Int), .int .u8 (m : Int), sv x] w fun e w' => e = .returned (rcV (makeR u s m x)) ∧ Below w.heap.size w w' := by
  obtain ⟨hl, hmay, _, _, hde⟩ := decO_some hd
  have HDT := Lib.hid (show makeR u s m x = ⟨u, s, m, []⟩ by unfold makeR dataR; rw [hd]; simp [hu])
  have HN := Lib.hid (fun W : World => show Calls Tryz.prog 95 #[.agg #[.int .u8 (u : Int), .int .u8 (s : Int), .int .u8 (m : Int), .string { data := #[] }]] W (fun e w' => e = .returned (.bool false) ∧ Below W.heap.size W w') by have := @isnum_u W ⟨u, s, m, []⟩; rw [show numB (⟨u, s, m, []⟩ : Rc).us (⟨u, s, m, []⟩ : Rc).se (⟨u, s, m, []⟩ : Rc).ma = false from hu] at this; exact this)
  have HDC := Lib.hid (fun (W : World) (h : GL W) => @decode_any W x (by omega) h)
  have hst := make_start w u s m hw
  obtain ⟨W0, hW0⟩ : ∃ W0, W0 = (w.alloc (cellsR ⟨0, 0, 0, []⟩)).alloc (cellsR ⟨u, s, m, []⟩) := ⟨_, rfl⟩
  rw [← hW0] at hst
  have HST := Lib.hid hst
  have HW0 := Lib.hid hW0
  have HD := Lib.hid hd
  have HGW := Lib.hid hw
  clear hst hW0 hw hd hl hmay hde
  go_enter Tryz.func47, Tryz.ntmps47
  go_wp2_with fail
  refine Calls.mono (W_is HW0.out (HDC.out W0 HST.out.1.2.gl)) ?_
  rintro e w1 ⟨hb1, hm1⟩
  rw [HD.out] at hm1
  obtain ⟨A1, cp1, rfl, htw⟩ := hm1
  unfold certV
  have r1 := HST.out.2.1.step hb1
  have r2 := HST.out.2.2.step hb1
  have c0 := r1.c0
  have c1 := r1.c1
  have c2 := r1.c2
  have c3 := r1.c3
  have hk9 := r1.lt
  have HM1 := Lib.hid (make_mid HGW.out HST.out.1 r1 r2 hb1 c (.slice A1 c.names.length cp1))
  have HR9 := Lib.hid (r1.step (below_alloc w1 (cellsC c (.slice A1 c.names.length cp1))))
  clear htw r1 r2
  go_wp2_with (go_at_call 95; refine (HN.out _).mono ?_; rintro e w3 ⟨rfl, hb3⟩; have HMK := Lib.hid (HM1.out.step hb3); have r1 := HR9.out.step hb3; have r2 := HMK.out.r0; have q0 := r1.c0; have q1 := r1.c1; have q2 := r1.c2; have q3 := r1.c3; have z0 := r2.c0; have z1 := r2.c1; have z2 := r2.c2; have z3 := r2.c3; have y0 := r2.free 0; have y1 := r2.free 1; have y2 := r2.free 2; have y3 := r2.free 3; clear hb3)
  refine make_fin (W := w3) (r := ⟨u, s, m, []⟩) (q := makeR u s m _) HMK.out.bw HMK.out.r0 _ ?_ HDT.out
  rfl
theorem make_any {w : World} (u s m : Nat) (x : List UInt8) (hx : x.length ≤ 9223372036854775807) (hw : GA w) :
    Calls Tryz.prog 47 #[.int .u8 (u : Int), .int .u8 (s : Int), .int .u8 (m : Int), sv x] w fun e w' => e = .returned (rcV (makeR u s m x)) ∧ Below w.heap.size w w' := by
  cases hd : decO x with
  | none => exact make_none u s m x hx hd hw
  | some c =>
    cases hu : numB u s m with
    | false => exact make_num u s m x c hu hd hw
    | true =>
      obtain ⟨_, hs, hm⟩ := numB_iff.1 hu
      match s, hs, m, hm with
      | 0, _, 0, _ => exact make_00 u x c hu hd hw
      | 0, _, 1, _ => exact make_01 u x c hu hd hw
      | 1, _, 0, _ => exact make_10 u x c hu hd hw
      | 1, _, 1, _ => exact make_11 u x c hu hd hw
end Go.Proofs.YtnaoandleelbkaaGreatDoor
