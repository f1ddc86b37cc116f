/-
  A step of a room: an Add.
-/
import Derived.Test.YthfnncahmccgkaaGreatDoorLR6
import Derived.Test.YthfnncahmccgkaaGreatDoorLR5
namespace Go.Proofs.YthfnncahmccgkaaGreatDoor
open Go Go.RowKit Go.Maps
set_option maxRecDepth 100000
set_option linter.unusedSimpArgs false
set_option linter.unusedVariables false

theorem Obs.xc {w0 W : World} {os : List Ob} (h : Obs w0 W os) (i : Nat) {e : TypeId} {g : Nat} {v0 v1 : Value} (hi : os[i]? = some (xOb e g 2 [v0, v1])) : (W.cell? ⟨g, 0, none⟩ = some v0 ∧ W.cell? ⟨g, 1, none⟩ = some v1) ∧ W.frozen? ⟨g, 0, none⟩ = false ∧ W.frozen? ⟨g, 1, none⟩ = false := by
  have h0 := (h.get hi : XR W e g 2 [v0, v1]).cell (j := 0) (by simp)
  have h1 := (h.get hi : XR W e g 2 [v0, v1]).cell (j := 1) (by simp)
  exact ⟨⟨h0.1, h1.1⟩, h0.2, h1.2⟩

/-- Some of the things, in another order. -/
theorem Obs.pick {w0 W : World} {os os' : List Ob} (h : Obs w0 W os) (f : List Nat) (hd : f.Nodup) (hl : os'.length = f.length) (hs : ∀ j o, os'[j]? = some o → os[f.getD j 0]? = some o) : Obs w0 W os' :=
  h.sub (fun j => f.getD j 0) (fun i j hi hj e => by
    rw [hl] at hi hj
    simp only [List.getD_eq_getElem?_getD, List.getElem?_eq_getElem hi, List.getElem?_eq_getElem hj, Option.getD_some] at e
    exact (List.getElem_inj hd).1 e) hs

set_option maxHeartbeats 8000000 in
theorem does_add0 {w0 w : World} {p bl bd x g1 g2 g3 r gL gM n o : Nat} {S : DS} {a b : Option (Nat × Nat × LS)} (h : Obs w0 w (roomOs p bl bd x g1 g2 g3 r gL gM n S a b)) (ha : okO n (fL a)) (hb : okO n (fL b)) (hn : S.was.length = n) (ho : S.ops ≤ o) (ho2 : o ≤ 4611686018427370000) {t : S2} (ht : t.Ok w0) (hkl : t.keep.length ≤ 3000) (hsl : t.s.length ≤ 3000) (hw : t.wh = 1) (hkk : t.half % 2 = 0) :
    Calls Tryz.prog 24 #[dp r, t.val] w fun e w' => e = .returned (.bool true) ∧ RoomI w0 w' r n (o + 1100) := by
  have hops : S.ops < 4611686018427380000 := by omega
  have hops2 : S.ops < 4611686018427387904 := by omega
  have hg := heap_alloc_new w (.cells (s2C t) 61)
  have hO := h.add (sbOb w.heap.size t) (w' := w.alloc (.cells (s2C t) 61)) hg (sbOb_stays _ _) (below_alloc w _) (fun b hb => by simp [sbOb] at hb; subst hb; exact ⟨Nat.le_refl _, by simp⟩)
  obtain ⟨u, kk, hu, hu0, hu1, hmod, hk2, hkz⟩ := half_mod t.half ht.half
  have hwk : IntKind.i64.wrap (kk : Int) = (kk : Int) := IntWalk.i64_in _ (by omega)
  rw [show t.val = .agg (s2C t) from rfl]
  clear h
  go_enter Tryz.func24, Tryz.ntmps24
  go_upto_region 1 with fail
  generalize w.alloc (.cells (s2C t) 61) = w1 at hg hO ⊢
  generalize w.heap.size = B at hg hO ⊢
  have HO := Lib.hid hO
  have c0 : w1.cell? ⟨B, 0, none⟩ = some (.int .u8 (t.wh.toNat : Int)) := cellAt hg 0
  have c1 : w1.cell? ⟨B, 1, none⟩ = some (.int .i64 t.half) := cellAt hg 1
  have e0 : (t.wh.toNat : Int) = 1 := by rw [hw]; rfl
  rw [e0] at c0
  obtain rfl : kk = 0 := by omega
  have cr3 := (rm_cells hO.drop).2.2.2
  have HAB := Lib.hid (And.intro ha hb)
  have cm := (rm_at hO.drop (k := 0) (by omega)).2.1
  rw [show selR 0 a b = a from rfl] at cm
  have hS := (hO.get (i := 0) rfl : PD w1 p bl bd S).ok
  have hn2 := hS.n2
  have TX := Lib.hid (fun W => @text_any W t ht.many (by omega))
  have htl := t.txt_len
  have htl2 : t.txt.length ≤ 140737488351232 := by omega
  rcases a with _ | ⟨q, u2, l⟩
  · change w1.cell? ⟨gM, 0, none⟩ = some (.pointer none) at cm
    clear e0 hw hO hg ha hb ht hS htl htl2
    go_wp2_with fail
    go_ret
    exact ⟨rfl, p, bl, bd, x, g1, g2, g3, gL, gM, S, _, _, Obs.drop (o := sbOb B t) HO.out, HAB.out.1, HAB.out.2, hn, by omega⟩
  · change w1.cell? ⟨gM, 0, none⟩ = some (dp u2) at cm
    have hol : l.Ok n := ha q l rfl
    have holS : l.Ok S.was.length := by rw [hn]; exact hol
    have HR := Lib.hid (And.intro (addS_ok (s := t.txt) hS holS) (And.intro (addL_ok (s := t.txt) holS) (addS_ops (S := S) (l := l) (s := t.txt))))
    clear e0 hw hO hg ha hb ht hS htl
    go_wp2_with fail
    refine wp_region_held_drew (S := fun W => HoldR r p x gL gM B t W ∧ W.cell? ⟨gL, 0, none⟩ = some (dp q) ∧ W.cell? ⟨gM, 0, none⟩ = some (dp u2)) (by kernel_rfl) ⟨HO.out.drew.hold rfl rfl, (HO.out.drew.xc 3 rfl).1.1, (HO.out.drew.xc 4 rfl).1.1⟩ (fun hHeld => ?_)
    refine wpAnyH_take (i := 0) (v := ?vv0_1) rfl (by kernel_rfl) (by kernel_rfl) (by kernel_rfl) (fun _ _ _ h => h) (Or.inl ⟨by rfl, ?hy0_1⟩) (by assumption) ?rest0_1
    case hy0_1 => (intro w' hSw; (try dsimp only at hSw); go_simp; try with_reducible rfl)
    try simp only [List.getElem_toArray, List.getElem_cons_zero, List.getElem_cons_succ, Act.put, List.setIfInBounds_toArray, List.set_cons_zero, List.set_cons_succ]
    refine wpAnyH_take (i := 1) (v := ?vv1_1) rfl (by kernel_rfl) (by kernel_rfl) (by kernel_rfl) (fun _ _ _ h => h) (Or.inl ⟨by rfl, ?hy1_1⟩) (by assumption) ?rest1_1
    case hy1_1 => (intro w' hSw; (try dsimp only at hSw); go_simp; try with_reducible rfl)
    try simp only [List.getElem_toArray, List.getElem_cons_zero, List.getElem_cons_succ, Act.put, List.setIfInBounds_toArray, List.set_cons_zero, List.set_cons_succ]
    refine wpAnyH_take (i := 2) (v := ?vv2_1) rfl (by kernel_rfl) (by kernel_rfl) (by kernel_rfl) (fun _ _ _ h => h) (Or.inl ⟨by rfl, ?hy2_1⟩) (by assumption) ?rest2_1
    case hy2_1 => (intro w' hSw; (try dsimp only at hSw); go_simp; try with_reducible rfl)
    try simp only [List.getElem_toArray, List.getElem_cons_zero, List.getElem_cons_succ, Act.put, List.setIfInBounds_toArray, List.set_cons_zero, List.set_cons_succ]
    refine wpAnyH_take (i := 3) (v := .slice (some ⟨gL, 0, none⟩) 2 2) rfl (by kernel_rfl) (by kernel_rfl) (by kernel_rfl) (fun _ _ _ h => h) (Or.inl ⟨by rfl, fun w' hSw => exec_load1 w' rfl rfl hSw.1.c.2.2.1 Tryz.underlying55 rfl⟩) (by assumption) ?_
    try simp only [List.getElem_toArray, List.getElem_cons_zero, List.getElem_cons_succ, Act.put, List.setIfInBounds_toArray, List.set_cons_zero, List.set_cons_succ]
    refine wpAnyH_take (i := 4) (v := ?vv4_1) rfl (by kernel_rfl) (by kernel_rfl) (by kernel_rfl) (fun _ _ _ h => h) (Or.inl ⟨by rfl, ?hy4_1⟩) (by assumption) ?rest4_1
    case hy4_1 => (intro w' hSw; (try dsimp only at hSw); go_simp; try with_reducible rfl)
    try simp only [List.getElem_toArray, List.getElem_cons_zero, List.getElem_cons_succ, Act.put, List.setIfInBounds_toArray, List.set_cons_zero, List.set_cons_succ]
    refine wpAnyH_take (i := 5) (v := ?vv5_1) rfl (by kernel_rfl) (by kernel_rfl) (by kernel_rfl) (fun _ _ _ h => h) (Or.inl ⟨by rfl, ?hy5_1⟩) (by assumption) ?rest5_1
    case hy5_1 => (intro w' hSw; (try dsimp only at hSw); go_simp; try with_reducible rfl)
    try simp only [List.getElem_toArray, List.getElem_cons_zero, List.getElem_cons_succ, Act.put, List.setIfInBounds_toArray, List.set_cons_zero, List.set_cons_succ]
    refine wpAnyH_take (i := 6) (v := dp q) rfl (by kernel_rfl) (by kernel_rfl) (by kernel_rfl) (fun _ _ _ h => h) (Or.inl ⟨by rfl, fun w' hSw => exec_load1 w' rfl rfl hSw.2.1 Tryz.underlying22 rfl⟩) (by assumption) ?_
    try simp only [List.getElem_toArray, List.getElem_cons_zero, List.getElem_cons_succ, Act.put, List.setIfInBounds_toArray, List.set_cons_zero, List.set_cons_succ]
    refine wpAnyH_take (i := 7) (v := .agg (s2C t)) rfl (by kernel_rfl) (by kernel_rfl) (by kernel_rfl) (fun _ _ _ h => h) (Or.inl ⟨by rfl, fun w' hSw => exec_load_row w' rfl rfl hSw.1.2 Tryz.underlying61 rfl s2C_size⟩) (by assumption) ?_
    try simp only [List.getElem_toArray, List.getElem_cons_zero, List.getElem_cons_succ, Act.put, List.setIfInBounds_toArray, List.set_cons_zero, List.set_cons_succ]
    refine wpAnyH_take (i := 10) (v := ?vv10_1) rfl (by kernel_rfl) (by kernel_rfl) (by kernel_rfl) (fun _ _ _ h => h) (Or.inl ⟨by rfl, ?hy10_1⟩) (by assumption) ?rest10_1
    case hy10_1 => (intro w' hSw; (try dsimp only at hSw); go_simp; try with_reducible rfl)
    try simp only [List.getElem_toArray, List.getElem_cons_zero, List.getElem_cons_succ, Act.put, List.setIfInBounds_toArray, List.set_cons_zero, List.set_cons_succ]
    refine wpAnyH_take (i := 11) (v := ?vv11_1) rfl (by kernel_rfl) (by kernel_rfl) (by kernel_rfl) (fun _ _ _ h => h) (Or.inl ⟨by rfl, ?hy11_1⟩) (by assumption) ?rest11_1
    case hy11_1 => (intro w' hSw; (try dsimp only at hSw); go_simp; try with_reducible rfl)
    try simp only [List.getElem_toArray, List.getElem_cons_zero, List.getElem_cons_succ, Act.put, List.setIfInBounds_toArray, List.set_cons_zero, List.set_cons_succ]
    refine wpAnyH_take (i := 12) (v := ?vv12_1) rfl (by kernel_rfl) (by kernel_rfl) (by kernel_rfl) (fun _ _ _ h => h) (Or.inl ⟨by rfl, ?hy12_1⟩) (by assumption) ?rest12_1
    case hy12_1 => (intro w' hSw; (try dsimp only at hSw); go_simp; try with_reducible rfl)
    try simp only [List.getElem_toArray, List.getElem_cons_zero, List.getElem_cons_succ, Act.put, List.setIfInBounds_toArray, List.set_cons_zero, List.set_cons_succ]
    refine wpAnyH_take (i := 13) (v := .slice (some ⟨gM, 0, none⟩) 2 2) rfl (by kernel_rfl) (by kernel_rfl) (by kernel_rfl) (fun _ _ _ h => h) (Or.inl ⟨by rfl, fun w' hSw => exec_load1 w' rfl rfl hSw.1.c.2.2.2 Tryz.underlying56 rfl⟩) (by assumption) ?_
    try simp only [List.getElem_toArray, List.getElem_cons_zero, List.getElem_cons_succ, Act.put, List.setIfInBounds_toArray, List.set_cons_zero, List.set_cons_succ]
    refine wpAnyH_take (i := 14) (v := ?vv14_1) rfl (by kernel_rfl) (by kernel_rfl) (by kernel_rfl) (fun _ _ _ h => h) (Or.inl ⟨by rfl, ?hy14_1⟩) (by assumption) ?rest14_1
    case hy14_1 => (intro w' hSw; (try dsimp only at hSw); go_simp; try with_reducible rfl)
    try simp only [List.getElem_toArray, List.getElem_cons_zero, List.getElem_cons_succ, Act.put, List.setIfInBounds_toArray, List.set_cons_zero, List.set_cons_succ]
    refine wpAnyH_take (i := 15) (v := ?vv15_1) rfl (by kernel_rfl) (by kernel_rfl) (by kernel_rfl) (fun _ _ _ h => h) (Or.inl ⟨by rfl, ?hy15_1⟩) (by assumption) ?rest15_1
    case hy15_1 => (intro w' hSw; (try dsimp only at hSw); go_simp; try with_reducible rfl)
    try simp only [List.getElem_toArray, List.getElem_cons_zero, List.getElem_cons_succ, Act.put, List.setIfInBounds_toArray, List.set_cons_zero, List.set_cons_succ]
    refine wpAnyH_take (i := 16) (v := dp u2) rfl (by kernel_rfl) (by kernel_rfl) (by kernel_rfl) (fun _ _ _ h => h) (Or.inl ⟨by rfl, fun w' hSw => exec_load1 w' rfl rfl hSw.2.2 Tryz.underlying98 rfl⟩) (by assumption) ?_
    try simp only [List.getElem_toArray, List.getElem_cons_zero, List.getElem_cons_succ, Act.put, List.setIfInBounds_toArray, List.set_cons_zero, List.set_cons_succ]
    refine wpAnyH_take (i := 17) (v := .agg (s2C t)) rfl (by kernel_rfl) (by kernel_rfl) (by kernel_rfl) (fun _ _ _ h => h) (Or.inl ⟨by rfl, fun w' hSw => exec_load_row w' rfl rfl hSw.1.2 Tryz.underlying61 rfl s2C_size⟩) (by assumption) ?_
    try simp only [List.getElem_toArray, List.getElem_cons_zero, List.getElem_cons_succ, Act.put, List.setIfInBounds_toArray, List.set_cons_zero, List.set_cons_succ]
    refine wpAnyH_ready (rs := [8]) (by kernel_rfl) (by simp) ?_
    refine AllReadyH.cons rfl (fun K hK => ?_) AllReadyH.nil
    go_simp
    go_at_call 49
    refine (TX.out _).mono ?_
    rintro e1 w8 ⟨rfl, hb8⟩; have h8 := HO.out.drew.step hb8
    refine hK.out _ _ ⟨h8.hold rfl rfl, (h8.xc 3 rfl).1.1, (h8.xc 4 rfl).1.1⟩ (fun hHeld => ?_)
    clear hK K
    try simp only [List.getElem_toArray, List.getElem_cons_zero, List.getElem_cons_succ, Act.put, List.setIfInBounds_toArray, List.set_cons_zero, List.set_cons_succ]
    refine wpAnyH_ready (rs := [9]) (by kernel_rfl) (by simp) ?_
    refine AllReadyH.cons rfl (fun K hK => ?_) AllReadyH.nil
    go_simp
    go_at_call 11
    refine (add_o h8 0 rfl 5 (by decide) rfl holS hops t.txt htl2).mono ?_
    rintro e1 w9 ⟨rfl, h9⟩
    refine hK.out _ _ ⟨h9.hold rfl rfl, (h9.xc 3 rfl).1.1, (h9.xc 4 rfl).1.1⟩ (fun hHeld => ?_)
    clear hK K
    try simp only [List.getElem_toArray, List.getElem_cons_zero, List.getElem_cons_succ, Act.put, List.setIfInBounds_toArray, List.set_cons_zero, List.set_cons_succ]
    refine wpAnyH_ready (rs := [18]) (by kernel_rfl) (by simp) ?_
    refine AllReadyH.cons rfl (fun K hK => ?_) AllReadyH.nil
    go_simp
    go_at_call 49
    refine (TX.out _).mono ?_
    rintro e1 w10 ⟨rfl, hb10⟩; have h10 := h9.step hb10
    refine hK.out _ _ ⟨h10.hold rfl rfl, (h10.xc 3 rfl).1.1, (h10.xc 4 rfl).1.1⟩ (fun hHeld => ?_)
    clear hK K
    try simp only [List.getElem_toArray, List.getElem_cons_zero, List.getElem_cons_succ, Act.put, List.setIfInBounds_toArray, List.set_cons_zero, List.set_cons_succ]
    refine wpAnyH_ready (rs := [19]) (by kernel_rfl) (by simp) ?_
    refine AllReadyH.cons rfl (fun K hK => ?_) AllReadyH.nil
    go_simp
    go_at_call 51
    refine (addR_o h10 1 rfl 7 (by decide) rfl hn hol hops t.txt htl2).mono ?_
    rintro e1 w11 ⟨rfl, h11⟩
    refine hK.out _ _ ⟨h11.hold rfl rfl, (h11.xc 3 rfl).1.1, (h11.xc 4 rfl).1.1⟩ (fun hHeld => ?_)
    clear hK K
    try simp only [List.getElem_toArray, List.getElem_cons_zero, List.getElem_cons_succ, Act.put, List.setIfInBounds_toArray, List.set_cons_zero, List.set_cons_succ]
    refine wpAnyH_take (i := 20) (v := ?vv20_1) rfl (by kernel_rfl) (by kernel_rfl) (by kernel_rfl) (fun _ _ _ h => h) (Or.inl ⟨by rfl, ?hy20_1⟩) (by assumption) ?rest20_1
    case hy20_1 => (intro w' hSw; (try dsimp only at hSw); go_simp; try with_reducible rfl)
    try simp only [List.getElem_toArray, List.getElem_cons_zero, List.getElem_cons_succ, Act.put, List.setIfInBounds_toArray, List.set_cons_zero, List.set_cons_succ]
    refine wpAnyH_take (i := 21) (v := ?vv21_1) rfl (by kernel_rfl) (by kernel_rfl) (by kernel_rfl) (fun _ _ _ h => h) (Or.inl ⟨by rfl, ?hy21_1⟩) (by assumption) ?rest21_1
    case hy21_1 => (intro w' hSw; (try dsimp only at hSw); go_simp; try with_reducible rfl)
    try simp only [List.getElem_toArray, List.getElem_cons_zero, List.getElem_cons_succ, Act.put, List.setIfInBounds_toArray, List.set_cons_zero, List.set_cons_succ]
    refine wpAnyH_done (by kernel_rfl) ?_ _
    have H11 := Lib.hid h11
    clear h8 h9 h10 h11 hHeld
    go_wp2_with fail
    go_ret
    obtain ⟨⟨_, r2⟩, _, r3⟩ := HR.out
    exact ⟨by first | rfl | simp, p, bl, bd, x, g1, g2, g3, gL, gM, addS S l t.txt, (some (q, u2, addL S l t.txt)), b, Obs.drop (os := roomOs p bl bd x g1 g2 g3 r gL gM n (addS S l t.txt) (some (q, u2, addL S l t.txt)) b) (o := sbOb B t) H11.out, fun q' l' e => by cases e; rw [← hn]; exact HR.out.2.1, HAB.out.2, by rw [r2]; exact hn, by omega⟩

set_option maxHeartbeats 8000000 in
theorem does_add1 {w0 w : World} {p bl bd x g1 g2 g3 r gL gM n o : Nat} {S : DS} {a b : Option (Nat × Nat × LS)} (h : Obs w0 w (roomOs p bl bd x g1 g2 g3 r gL gM n S a b)) (ha : okO n (fL a)) (hb : okO n (fL b)) (hn : S.was.length = n) (ho : S.ops ≤ o) (ho2 : o ≤ 4611686018427370000) {t : S2} (ht : t.Ok w0) (hkl : t.keep.length ≤ 3000) (hsl : t.s.length ≤ 3000) (hw : t.wh = 1) (hkk : t.half % 2 = 1) :
    Calls Tryz.prog 24 #[dp r, t.val] w fun e w' => e = .returned (.bool true) ∧ RoomI w0 w' r n (o + 1100) := by
  have hops : S.ops < 4611686018427380000 := by omega
  have hops2 : S.ops < 4611686018427387904 := by omega
  have hg := heap_alloc_new w (.cells (s2C t) 61)
  have hO := h.add (sbOb w.heap.size t) (w' := w.alloc (.cells (s2C t) 61)) hg (sbOb_stays _ _) (below_alloc w _) (fun b hb => by simp [sbOb] at hb; subst hb; exact ⟨Nat.le_refl _, by simp⟩)
  obtain ⟨u, kk, hu, hu0, hu1, hmod, hk2, hkz⟩ := half_mod t.half ht.half
  have hwk : IntKind.i64.wrap (kk : Int) = (kk : Int) := IntWalk.i64_in _ (by omega)
  rw [show t.val = .agg (s2C t) from rfl]
  clear h
  go_enter Tryz.func24, Tryz.ntmps24
  go_upto_region 1 with fail
  generalize w.alloc (.cells (s2C t) 61) = w1 at hg hO ⊢
  generalize w.heap.size = B at hg hO ⊢
  have HO := Lib.hid hO
  have c0 : w1.cell? ⟨B, 0, none⟩ = some (.int .u8 (t.wh.toNat : Int)) := cellAt hg 0
  have c1 : w1.cell? ⟨B, 1, none⟩ = some (.int .i64 t.half) := cellAt hg 1
  have e0 : (t.wh.toNat : Int) = 1 := by rw [hw]; rfl
  rw [e0] at c0
  obtain rfl : kk = 1 := by omega
  have cr3 := (rm_cells hO.drop).2.2.2
  have HAB := Lib.hid (And.intro ha hb)
  have cm := (rm_at hO.drop (k := 1) (by omega)).2.1
  rw [show selR 1 a b = b from rfl] at cm
  have hS := (hO.get (i := 0) rfl : PD w1 p bl bd S).ok
  have hn2 := hS.n2
  have TX := Lib.hid (fun W => @text_any W t ht.many (by omega))
  have htl := t.txt_len
  have htl2 : t.txt.length ≤ 140737488351232 := by omega
  rcases b with _ | ⟨q, u2, l⟩
  · change w1.cell? ⟨gM, 1, none⟩ = some (.pointer none) at cm
    clear e0 hw hO hg ha hb ht hS htl htl2
    go_wp2_with fail
    go_ret
    exact ⟨rfl, p, bl, bd, x, g1, g2, g3, gL, gM, S, _, _, Obs.drop (o := sbOb B t) HO.out, HAB.out.1, HAB.out.2, hn, by omega⟩
  · change w1.cell? ⟨gM, 1, none⟩ = some (dp u2) at cm
    have hol : l.Ok n := hb q l rfl
    have holS : l.Ok S.was.length := by rw [hn]; exact hol
    have HR := Lib.hid (And.intro (addS_ok (s := t.txt) hS holS) (And.intro (addL_ok (s := t.txt) holS) (addS_ops (S := S) (l := l) (s := t.txt))))
    clear e0 hw hO hg ha hb ht hS htl
    go_wp2_with fail
    refine wp_region_held_drew (S := fun W => HoldR r p x gL gM B t W ∧ W.cell? ⟨gL, 1, none⟩ = some (dp q) ∧ W.cell? ⟨gM, 1, none⟩ = some (dp u2)) (by kernel_rfl) ⟨HO.out.drew.hold rfl rfl, (HO.out.drew.xc 3 rfl).1.2, (HO.out.drew.xc 4 rfl).1.2⟩ (fun hHeld => ?_)
    refine wpAnyH_take (i := 0) (v := ?vv0_2) rfl (by kernel_rfl) (by kernel_rfl) (by kernel_rfl) (fun _ _ _ h => h) (Or.inl ⟨by rfl, ?hy0_2⟩) (by assumption) ?rest0_2
    case hy0_2 => (intro w' hSw; (try dsimp only at hSw); go_simp; try with_reducible rfl)
    try simp only [List.getElem_toArray, List.getElem_cons_zero, List.getElem_cons_succ, Act.put, List.setIfInBounds_toArray, List.set_cons_zero, List.set_cons_succ]
    refine wpAnyH_take (i := 1) (v := ?vv1_2) rfl (by kernel_rfl) (by kernel_rfl) (by kernel_rfl) (fun _ _ _ h => h) (Or.inl ⟨by rfl, ?hy1_2⟩) (by assumption) ?rest1_2
    case hy1_2 => (intro w' hSw; (try dsimp only at hSw); go_simp; try with_reducible rfl)
    try simp only [List.getElem_toArray, List.getElem_cons_zero, List.getElem_cons_succ, Act.put, List.setIfInBounds_toArray, List.set_cons_zero, List.set_cons_succ]
    refine wpAnyH_take (i := 2) (v := ?vv2_2) rfl (by kernel_rfl) (by kernel_rfl) (by kernel_rfl) (fun _ _ _ h => h) (Or.inl ⟨by rfl, ?hy2_2⟩) (by assumption) ?rest2_2
    case hy2_2 => (intro w' hSw; (try dsimp only at hSw); go_simp; try with_reducible rfl)
    try simp only [List.getElem_toArray, List.getElem_cons_zero, List.getElem_cons_succ, Act.put, List.setIfInBounds_toArray, List.set_cons_zero, List.set_cons_succ]
    refine wpAnyH_take (i := 3) (v := .slice (some ⟨gL, 0, none⟩) 2 2) rfl (by kernel_rfl) (by kernel_rfl) (by kernel_rfl) (fun _ _ _ h => h) (Or.inl ⟨by rfl, fun w' hSw => exec_load1 w' rfl rfl hSw.1.c.2.2.1 Tryz.underlying55 rfl⟩) (by assumption) ?_
    try simp only [List.getElem_toArray, List.getElem_cons_zero, List.getElem_cons_succ, Act.put, List.setIfInBounds_toArray, List.set_cons_zero, List.set_cons_succ]
    refine wpAnyH_take (i := 4) (v := ?vv4_2) rfl (by kernel_rfl) (by kernel_rfl) (by kernel_rfl) (fun _ _ _ h => h) (Or.inl ⟨by rfl, ?hy4_2⟩) (by assumption) ?rest4_2
    case hy4_2 => (intro w' hSw; (try dsimp only at hSw); go_simp; try with_reducible rfl)
    try simp only [List.getElem_toArray, List.getElem_cons_zero, List.getElem_cons_succ, Act.put, List.setIfInBounds_toArray, List.set_cons_zero, List.set_cons_succ]
    refine wpAnyH_take (i := 5) (v := ?vv5_2) rfl (by kernel_rfl) (by kernel_rfl) (by kernel_rfl) (fun _ _ _ h => h) (Or.inl ⟨by rfl, ?hy5_2⟩) (by assumption) ?rest5_2
    case hy5_2 => (intro w' hSw; (try dsimp only at hSw); go_simp; try with_reducible rfl)
    try simp only [List.getElem_toArray, List.getElem_cons_zero, List.getElem_cons_succ, Act.put, List.setIfInBounds_toArray, List.set_cons_zero, List.set_cons_succ]
    refine wpAnyH_take (i := 6) (v := dp q) rfl (by kernel_rfl) (by kernel_rfl) (by kernel_rfl) (fun _ _ _ h => h) (Or.inl ⟨by rfl, fun w' hSw => exec_load1 w' rfl rfl hSw.2.1 Tryz.underlying22 rfl⟩) (by assumption) ?_
    try simp only [List.getElem_toArray, List.getElem_cons_zero, List.getElem_cons_succ, Act.put, List.setIfInBounds_toArray, List.set_cons_zero, List.set_cons_succ]
    refine wpAnyH_take (i := 7) (v := .agg (s2C t)) rfl (by kernel_rfl) (by kernel_rfl) (by kernel_rfl) (fun _ _ _ h => h) (Or.inl ⟨by rfl, fun w' hSw => exec_load_row w' rfl rfl hSw.1.2 Tryz.underlying61 rfl s2C_size⟩) (by assumption) ?_
    try simp only [List.getElem_toArray, List.getElem_cons_zero, List.getElem_cons_succ, Act.put, List.setIfInBounds_toArray, List.set_cons_zero, List.set_cons_succ]
    refine wpAnyH_take (i := 10) (v := ?vv10_2) rfl (by kernel_rfl) (by kernel_rfl) (by kernel_rfl) (fun _ _ _ h => h) (Or.inl ⟨by rfl, ?hy10_2⟩) (by assumption) ?rest10_2
    case hy10_2 => (intro w' hSw; (try dsimp only at hSw); go_simp; try with_reducible rfl)
    try simp only [List.getElem_toArray, List.getElem_cons_zero, List.getElem_cons_succ, Act.put, List.setIfInBounds_toArray, List.set_cons_zero, List.set_cons_succ]
    refine wpAnyH_take (i := 11) (v := ?vv11_2) rfl (by kernel_rfl) (by kernel_rfl) (by kernel_rfl) (fun _ _ _ h => h) (Or.inl ⟨by rfl, ?hy11_2⟩) (by assumption) ?rest11_2
    case hy11_2 => (intro w' hSw; (try dsimp only at hSw); go_simp; try with_reducible rfl)
    try simp only [List.getElem_toArray, List.getElem_cons_zero, List.getElem_cons_succ, Act.put, List.setIfInBounds_toArray, List.set_cons_zero, List.set_cons_succ]
    refine wpAnyH_take (i := 12) (v := ?vv12_2) rfl (by kernel_rfl) (by kernel_rfl) (by kernel_rfl) (fun _ _ _ h => h) (Or.inl ⟨by rfl, ?hy12_2⟩) (by assumption) ?rest12_2
    case hy12_2 => (intro w' hSw; (try dsimp only at hSw); go_simp; try with_reducible rfl)
    try simp only [List.getElem_toArray, List.getElem_cons_zero, List.getElem_cons_succ, Act.put, List.setIfInBounds_toArray, List.set_cons_zero, List.set_cons_succ]
    refine wpAnyH_take (i := 13) (v := .slice (some ⟨gM, 0, none⟩) 2 2) rfl (by kernel_rfl) (by kernel_rfl) (by kernel_rfl) (fun _ _ _ h => h) (Or.inl ⟨by rfl, fun w' hSw => exec_load1 w' rfl rfl hSw.1.c.2.2.2 Tryz.underlying56 rfl⟩) (by assumption) ?_
    try simp only [List.getElem_toArray, List.getElem_cons_zero, List.getElem_cons_succ, Act.put, List.setIfInBounds_toArray, List.set_cons_zero, List.set_cons_succ]
    refine wpAnyH_take (i := 14) (v := ?vv14_2) rfl (by kernel_rfl) (by kernel_rfl) (by kernel_rfl) (fun _ _ _ h => h) (Or.inl ⟨by rfl, ?hy14_2⟩) (by assumption) ?rest14_2
    case hy14_2 => (intro w' hSw; (try dsimp only at hSw); go_simp; try with_reducible rfl)
    try simp only [List.getElem_toArray, List.getElem_cons_zero, List.getElem_cons_succ, Act.put, List.setIfInBounds_toArray, List.set_cons_zero, List.set_cons_succ]
    refine wpAnyH_take (i := 15) (v := ?vv15_2) rfl (by kernel_rfl) (by kernel_rfl) (by kernel_rfl) (fun _ _ _ h => h) (Or.inl ⟨by rfl, ?hy15_2⟩) (by assumption) ?rest15_2
    case hy15_2 => (intro w' hSw; (try dsimp only at hSw); go_simp; try with_reducible rfl)
    try simp only [List.getElem_toArray, List.getElem_cons_zero, List.getElem_cons_succ, Act.put, List.setIfInBounds_toArray, List.set_cons_zero, List.set_cons_succ]
    refine wpAnyH_take (i := 16) (v := dp u2) rfl (by kernel_rfl) (by kernel_rfl) (by kernel_rfl) (fun _ _ _ h => h) (Or.inl ⟨by rfl, fun w' hSw => exec_load1 w' rfl rfl hSw.2.2 Tryz.underlying98 rfl⟩) (by assumption) ?_
    try simp only [List.getElem_toArray, List.getElem_cons_zero, List.getElem_cons_succ, Act.put, List.setIfInBounds_toArray, List.set_cons_zero, List.set_cons_succ]
    refine wpAnyH_take (i := 17) (v := .agg (s2C t)) rfl (by kernel_rfl) (by kernel_rfl) (by kernel_rfl) (fun _ _ _ h => h) (Or.inl ⟨by rfl, fun w' hSw => exec_load_row w' rfl rfl hSw.1.2 Tryz.underlying61 rfl s2C_size⟩) (by assumption) ?_
    try simp only [List.getElem_toArray, List.getElem_cons_zero, List.getElem_cons_succ, Act.put, List.setIfInBounds_toArray, List.set_cons_zero, List.set_cons_succ]
    refine wpAnyH_ready (rs := [8]) (by kernel_rfl) (by simp) ?_
    refine AllReadyH.cons rfl (fun K hK => ?_) AllReadyH.nil
    go_simp
    go_at_call 49
    refine (TX.out _).mono ?_
    rintro e1 w8 ⟨rfl, hb8⟩; have h8 := HO.out.drew.step hb8
    refine hK.out _ _ ⟨h8.hold rfl rfl, (h8.xc 3 rfl).1.2, (h8.xc 4 rfl).1.2⟩ (fun hHeld => ?_)
    clear hK K
    try simp only [List.getElem_toArray, List.getElem_cons_zero, List.getElem_cons_succ, Act.put, List.setIfInBounds_toArray, List.set_cons_zero, List.set_cons_succ]
    refine wpAnyH_ready (rs := [9]) (by kernel_rfl) (by simp) ?_
    refine AllReadyH.cons rfl (fun K hK => ?_) AllReadyH.nil
    go_simp
    go_at_call 11
    refine (add_o h8 0 rfl 6 (by decide) rfl holS hops t.txt htl2).mono ?_
    rintro e1 w9 ⟨rfl, h9⟩
    refine hK.out _ _ ⟨h9.hold rfl rfl, (h9.xc 3 rfl).1.2, (h9.xc 4 rfl).1.2⟩ (fun hHeld => ?_)
    clear hK K
    try simp only [List.getElem_toArray, List.getElem_cons_zero, List.getElem_cons_succ, Act.put, List.setIfInBounds_toArray, List.set_cons_zero, List.set_cons_succ]
    refine wpAnyH_ready (rs := [18]) (by kernel_rfl) (by simp) ?_
    refine AllReadyH.cons rfl (fun K hK => ?_) AllReadyH.nil
    go_simp
    go_at_call 49
    refine (TX.out _).mono ?_
    rintro e1 w10 ⟨rfl, hb10⟩; have h10 := h9.step hb10
    refine hK.out _ _ ⟨h10.hold rfl rfl, (h10.xc 3 rfl).1.2, (h10.xc 4 rfl).1.2⟩ (fun hHeld => ?_)
    clear hK K
    try simp only [List.getElem_toArray, List.getElem_cons_zero, List.getElem_cons_succ, Act.put, List.setIfInBounds_toArray, List.set_cons_zero, List.set_cons_succ]
    refine wpAnyH_ready (rs := [19]) (by kernel_rfl) (by simp) ?_
    refine AllReadyH.cons rfl (fun K hK => ?_) AllReadyH.nil
    go_simp
    go_at_call 51
    refine (addR_o h10 1 rfl 8 (by decide) rfl hn hol hops t.txt htl2).mono ?_
    rintro e1 w11 ⟨rfl, h11⟩
    refine hK.out _ _ ⟨h11.hold rfl rfl, (h11.xc 3 rfl).1.2, (h11.xc 4 rfl).1.2⟩ (fun hHeld => ?_)
    clear hK K
    try simp only [List.getElem_toArray, List.getElem_cons_zero, List.getElem_cons_succ, Act.put, List.setIfInBounds_toArray, List.set_cons_zero, List.set_cons_succ]
    refine wpAnyH_take (i := 20) (v := ?vv20_2) rfl (by kernel_rfl) (by kernel_rfl) (by kernel_rfl) (fun _ _ _ h => h) (Or.inl ⟨by rfl, ?hy20_2⟩) (by assumption) ?rest20_2
    case hy20_2 => (intro w' hSw; (try dsimp only at hSw); go_simp; try with_reducible rfl)
    try simp only [List.getElem_toArray, List.getElem_cons_zero, List.getElem_cons_succ, Act.put, List.setIfInBounds_toArray, List.set_cons_zero, List.set_cons_succ]
    refine wpAnyH_take (i := 21) (v := ?vv21_2) rfl (by kernel_rfl) (by kernel_rfl) (by kernel_rfl) (fun _ _ _ h => h) (Or.inl ⟨by rfl, ?hy21_2⟩) (by assumption) ?rest21_2
    case hy21_2 => (intro w' hSw; (try dsimp only at hSw); go_simp; try with_reducible rfl)
    try simp only [List.getElem_toArray, List.getElem_cons_zero, List.getElem_cons_succ, Act.put, List.setIfInBounds_toArray, List.set_cons_zero, List.set_cons_succ]
    refine wpAnyH_done (by kernel_rfl) ?_ _
    have H11 := Lib.hid h11
    clear h8 h9 h10 h11 hHeld
    go_wp2_with fail
    go_ret
    obtain ⟨⟨_, r2⟩, _, r3⟩ := HR.out
    exact ⟨by first | rfl | simp, p, bl, bd, x, g1, g2, g3, gL, gM, addS S l t.txt, a, (some (q, u2, addL S l t.txt)), Obs.drop (os := roomOs p bl bd x g1 g2 g3 r gL gM n (addS S l t.txt) a (some (q, u2, addL S l t.txt))) (o := sbOb B t) H11.out, HAB.out.1, fun q' l' e => by cases e; rw [← hn]; exact HR.out.2.1, by rw [r2]; exact hn, by omega⟩
end Go.Proofs.YthfnncahmccgkaaGreatDoor
