/-
  A step of a room: a Sync, a Fail, a Boot, an Add.
-/
import Derived.Test.YthfnncahmccgkaaGreatDoorLRcM
import Derived.Test.YthfnncahmccgkaaGreatDoorDKpM
import Derived.Test.YthfnncahmccgkaaGreatDoorDWkM
namespace Go.Proofs.YthfnncahmccgkaaGreatDoor
open Go Go.RowKit Go.Maps
set_option maxRecDepth 100000
set_option linter.unusedSimpArgs false
set_option linter.unusedVariables false

def sbOb (B : Nat) (t : S2) : Ob := ⟨[B], fun W => W.heap[B]? = some (.cells (s2C t) 61 (0, 0))⟩
theorem sbOb_stays (B : Nat) (t : S2) : (sbOb B t).Stays := fun W W' h hP => ((h B (by simp [sbOb])).2).trans hP
/-- The room's cells, and the step's. -/
def HoldR (r p x gL gM B : Nat) (t : S2) (W : World) : Prop := (rmOb r p x gL gM).P W ∧ (sbOb B t).P W
theorem Obs.hold {w0 W : World} {os : List Ob} (h : Obs w0 W os) {r p x gL gM B : Nat} {t : S2} (h2 : os[2]? = some (rmOb r p x gL gM)) (h9 : os[9]? = some (sbOb B t)) : HoldR r p x gL gM B t W := ⟨h.get h2, h.get h9⟩
theorem HoldR.c {r p x gL gM B : Nat} {t : S2} {W : World} (h : HoldR r p x gL gM B t W) : W.cell? ⟨r, 0, none⟩ = some (dp p) ∧ W.cell? ⟨r, 1, none⟩ = some (dp x) ∧ W.cell? ⟨r, 2, none⟩ = some (.slice (some ⟨gL, 0, none⟩) 2 2) ∧ W.cell? ⟨r, 3, none⟩ = some (.slice (some ⟨gM, 0, none⟩) 2 2) :=
  ⟨cellAt h.1 0, cellAt h.1 1, cellAt h.1 2, cellAt h.1 3⟩
theorem HoldR.s {r p x gL gM B : Nat} {t : S2} {W : World} (h : HoldR r p x gL gM B t W) : W.cell? ⟨B, 0, none⟩ = some (.int .u8 (t.wh.toNat : Int)) ∧ W.cell? ⟨B, 1, none⟩ = some (.int .i64 t.half) ∧ W.cell? ⟨B, 2, none⟩ = some (.int .i64 t.age) ∧ W.cell? ⟨B, 5, none⟩ = some (.slice t.kA t.keep.length t.kc) :=
  ⟨cellAt h.2 0, cellAt h.2 1, cellAt h.2 2, cellAt h.2 5⟩
theorem sts_ops {kf : Nat → Nat} : ∀ (L : List Nat) (r : Nat) (S : DS), (S.sts kf L r).ops = S.ops
  | [], _, _ => rfl
  | i :: L, r, S => by rw [DS.sts, sts_ops]; rfl
theorem sync_lenR (S : DS) : S.sync.was.length = S.was.length ∧ S.sync.ops ≤ S.ops + 1 := by
  unfold DS.sync
  split
  · exact ⟨rfl, by omega⟩
  · refine ⟨(DS.sts_len _ _ _), ?_⟩
    show (S.sts _ _ _).ops + 1 ≤ _
    rw [sts_ops]
    exact Nat.le_refl _
theorem boot_lenR (S : DS) (K : List Int) : (S.boot K).was.length = S.was.length ∧ (S.boot K).ops = S.ops := by
  unfold DS.boot
  split
  · exact ⟨DS.sts_len _ _ _, sts_ops _ _ _⟩
  · exact ⟨rfl, rfl⟩

set_option maxHeartbeats 8000000 in
theorem does_sync {w0 w : World} {p bl bd x g1 g2 g3 r gL gM n o : Nat} {S : DS} {a b : Option (Nat × Nat × LS)} (h : Obs w0 w (roomOs p bl bd x g1 g2 g3 r gL gM n S a b)) (ha : okO n (fL a)) (hb : okO n (fL b)) (hn : S.was.length = n) (ho : S.ops ≤ o) (ho2 : o ≤ 4611686018427370000) {t : S2} (ht : t.Ok w0) (hkl : t.keep.length ≤ 3000) (hsl : t.s.length ≤ 3000) (hw : t.wh = 2) :
    Calls Tryz.prog 24 #[dp r, t.val] w fun e w' => e = .returned (.bool true) ∧ RoomI w0 w' r n (o + 1100) := by
  have hops : S.ops < 4611686018427380000 := by omega
  have hops2 : S.ops < 4611686018427387904 := by omega
  have hg := heap_alloc_new w (.cells (s2C t) 61)
  have hO := h.add (sbOb w.heap.size t) (w' := w.alloc (.cells (s2C t) 61)) hg (sbOb_stays _ _) (below_alloc w _) (fun b hb => by simp [sbOb] at hb; subst hb; exact ⟨Nat.le_refl _, by simp⟩)
  obtain ⟨u, kk, hu, hu0, hu1, hmod, hk2, hkz⟩ := half_mod t.half ht.half
  have hwk : IntKind.i64.wrap (kk : Int) = (kk : Int) := IntWalk.i64_in _ (by omega)
  rw [show t.val = .agg (s2C t) from rfl]
  clear h
  go_enter Tryz.func24, Tryz.ntmps24
  go_upto_region 1 with fail
  generalize w.alloc (.cells (s2C t) 61) = w1 at hg hO ⊢
  generalize w.heap.size = B at hg hO ⊢
  have HO := Lib.hid hO
  have c0 : w1.cell? ⟨B, 0, none⟩ = some (.int .u8 (t.wh.toNat : Int)) := cellAt hg 0
  have c1 : w1.cell? ⟨B, 1, none⟩ = some (.int .i64 t.half) := cellAt hg 1
  have e0 : (t.wh.toNat : Int) = 2 := by rw [hw]; rfl
  rw [e0] at c0
  clear e0 hw hO hg
  have HAB := Lib.hid (And.intro ha hb)
  clear ha hb ht
  go_wp2_with fail
  refine wp_region_held_drew (S := HoldR r p x gL gM B t) (by kernel_rfl) (HO.out.drew.hold rfl rfl) (fun hHeld => ?_)
  refine wpAnyH_take (i := 0) (v := ?vv0_1) rfl (by kernel_rfl) (by kernel_rfl) (by kernel_rfl) (fun _ _ _ h => h) (Or.inl ⟨by rfl, ?hy0_1⟩) (by assumption) ?rest0_1
  case hy0_1 => (intro w' hSw; (try dsimp only at hSw); go_simp; try with_reducible rfl)
  try simp only [List.getElem_toArray, List.getElem_cons_zero, List.getElem_cons_succ, Act.put, List.setIfInBounds_toArray, List.set_cons_zero, List.set_cons_succ]
  refine wpAnyH_take (i := 1) (v := ?vv1_1) rfl (by kernel_rfl) (by kernel_rfl) (by kernel_rfl) (fun _ _ _ h => h) (Or.inl ⟨by rfl, ?hy1_1⟩) (by assumption) ?rest1_1
  case hy1_1 => (intro w' hSw; (try dsimp only at hSw); go_simp; try with_reducible rfl)
  try simp only [List.getElem_toArray, List.getElem_cons_zero, List.getElem_cons_succ, Act.put, List.setIfInBounds_toArray, List.set_cons_zero, List.set_cons_succ]
  refine wpAnyH_take (i := 2) (v := ?vv2_1) rfl (by kernel_rfl) (by kernel_rfl) (by kernel_rfl) (fun _ _ _ h => h) (Or.inl ⟨by rfl, ?hy2_1⟩) (by assumption) ?rest2_1
  case hy2_1 => (intro w' hSw; (try dsimp only at hSw); go_simp; try with_reducible rfl)
  try simp only [List.getElem_toArray, List.getElem_cons_zero, List.getElem_cons_succ, Act.put, List.setIfInBounds_toArray, List.set_cons_zero, List.set_cons_succ]
  refine wpAnyH_take (i := 3) (v := dp p) rfl (by kernel_rfl) (by kernel_rfl) (by kernel_rfl) (fun _ _ _ h => h) (Or.inl ⟨by rfl, fun w' hSw => exec_load1 w' rfl rfl hSw.c.1 Tryz.underlying35 rfl⟩) (by assumption) ?_
  try simp only [List.getElem_toArray, List.getElem_cons_zero, List.getElem_cons_succ, Act.put, List.setIfInBounds_toArray, List.set_cons_zero, List.set_cons_succ]
  refine wpAnyH_take (i := 5) (v := ?vv5_1) rfl (by kernel_rfl) (by kernel_rfl) (by kernel_rfl) (fun _ _ _ h => h) (Or.inl ⟨by rfl, ?hy5_1⟩) (by assumption) ?rest5_1
  case hy5_1 => (intro w' hSw; (try dsimp only at hSw); go_simp; try with_reducible rfl)
  try simp only [List.getElem_toArray, List.getElem_cons_zero, List.getElem_cons_succ, Act.put, List.setIfInBounds_toArray, List.set_cons_zero, List.set_cons_succ]
  refine wpAnyH_take (i := 6) (v := ?vv6_1) rfl (by kernel_rfl) (by kernel_rfl) (by kernel_rfl) (fun _ _ _ h => h) (Or.inl ⟨by rfl, ?hy6_1⟩) (by assumption) ?rest6_1
  case hy6_1 => (intro w' hSw; (try dsimp only at hSw); go_simp; try with_reducible rfl)
  try simp only [List.getElem_toArray, List.getElem_cons_zero, List.getElem_cons_succ, Act.put, List.setIfInBounds_toArray, List.set_cons_zero, List.set_cons_succ]
  refine wpAnyH_take (i := 7) (v := ?vv7_1) rfl (by kernel_rfl) (by kernel_rfl) (by kernel_rfl) (fun _ _ _ h => h) (Or.inl ⟨by rfl, ?hy7_1⟩) (by assumption) ?rest7_1
  case hy7_1 => (intro w' hSw; (try dsimp only at hSw); go_simp; try with_reducible rfl)
  try simp only [List.getElem_toArray, List.getElem_cons_zero, List.getElem_cons_succ, Act.put, List.setIfInBounds_toArray, List.set_cons_zero, List.set_cons_succ]
  refine wpAnyH_take (i := 8) (v := dp x) rfl (by kernel_rfl) (by kernel_rfl) (by kernel_rfl) (fun _ _ _ h => h) (Or.inl ⟨by rfl, fun w' hSw => exec_load1 w' rfl rfl hSw.c.2.1 Tryz.underlying51 rfl⟩) (by assumption) ?_
  try simp only [List.getElem_toArray, List.getElem_cons_zero, List.getElem_cons_succ, Act.put, List.setIfInBounds_toArray, List.set_cons_zero, List.set_cons_succ]
  refine wpAnyH_ready (rs := [4]) (by kernel_rfl) (by simp) ?_
  refine AllReadyH.cons rfl (fun K hK => ?_) AllReadyH.nil
  go_simp
  go_at_call 32
  refine (sync_o HO.out.drew 0 rfl hops2).mono ?_
  rintro e1 w8 ⟨rfl, h8⟩
  refine hK.out _ _ (h8.hold rfl rfl) (fun hHeld => ?_)
  clear hK K
  try simp only [List.getElem_toArray, List.getElem_cons_zero, List.getElem_cons_succ, Act.put, List.setIfInBounds_toArray, List.set_cons_zero, List.set_cons_succ]
  refine wpAnyH_ready (rs := [9]) (by kernel_rfl) (by simp) ?_
  refine AllReadyH.cons rfl (fun K hK => ?_) AllReadyH.nil
  go_simp
  go_at_call 52
  refine (syncR_o h8 1 rfl hops2).mono ?_
  rintro e1 w9 ⟨rfl, y1, y2, y3, h9⟩
  refine hK.out _ _ (h9.hold rfl rfl) (fun hHeld => ?_)
  clear hK K
  try simp only [List.getElem_toArray, List.getElem_cons_zero, List.getElem_cons_succ, Act.put, List.setIfInBounds_toArray, List.set_cons_zero, List.set_cons_succ]
  refine wpAnyH_take (i := 10) (v := ?vv10_1) rfl (by kernel_rfl) (by kernel_rfl) (by kernel_rfl) (fun _ _ _ h => h) (Or.inl ⟨by rfl, ?hy10_1⟩) (by assumption) ?rest10_1
  case hy10_1 => (intro w' hSw; (try dsimp only at hSw); go_simp; try with_reducible rfl)
  try simp only [List.getElem_toArray, List.getElem_cons_zero, List.getElem_cons_succ, Act.put, List.setIfInBounds_toArray, List.set_cons_zero, List.set_cons_succ]
  refine wpAnyH_take (i := 11) (v := ?vv11_1) rfl (by kernel_rfl) (by kernel_rfl) (by kernel_rfl) (fun _ _ _ h => h) (Or.inl ⟨by rfl, ?hy11_1⟩) (by assumption) ?rest11_1
  case hy11_1 => (intro w' hSw; (try dsimp only at hSw); go_simp; try with_reducible rfl)
  try simp only [List.getElem_toArray, List.getElem_cons_zero, List.getElem_cons_succ, Act.put, List.setIfInBounds_toArray, List.set_cons_zero, List.set_cons_succ]
  refine wpAnyH_done (by kernel_rfl) ?_ _
  have H9 := Lib.hid h9
  clear h9 h8 hHeld
  go_wp2_with fail
  go_ret
  have hl := sync_lenR S
  exact ⟨by first | rfl | simp, p, bl, bd, x, y1, y2, y3, gL, gM, S.sync, a, b, Obs.drop (os := roomOs p bl bd x y1 y2 y3 r gL gM n S.sync a b) (o := sbOb B t) H9.out, HAB.out.1, HAB.out.2, by omega, by omega⟩

set_option maxHeartbeats 8000000 in
theorem does_fail {w0 w : World} {p bl bd x g1 g2 g3 r gL gM n o : Nat} {S : DS} {a b : Option (Nat × Nat × LS)} (h : Obs w0 w (roomOs p bl bd x g1 g2 g3 r gL gM n S a b)) (ha : okO n (fL a)) (hb : okO n (fL b)) (hn : S.was.length = n) (ho : S.ops ≤ o) (ho2 : o ≤ 4611686018427370000) {t : S2} (ht : t.Ok w0) (hkl : t.keep.length ≤ 3000) (hsl : t.s.length ≤ 3000) (hw : t.wh = 3) :
    Calls Tryz.prog 24 #[dp r, t.val] w fun e w' => e = .returned (.bool true) ∧ RoomI w0 w' r n (o + 1100) := by
  have hops : S.ops < 4611686018427380000 := by omega
  have hops2 : S.ops < 4611686018427387904 := by omega
  have hg := heap_alloc_new w (.cells (s2C t) 61)
  have hO := h.add (sbOb w.heap.size t) (w' := w.alloc (.cells (s2C t) 61)) hg (sbOb_stays _ _) (below_alloc w _) (fun b hb => by simp [sbOb] at hb; subst hb; exact ⟨Nat.le_refl _, by simp⟩)
  obtain ⟨u, kk, hu, hu0, hu1, hmod, hk2, hkz⟩ := half_mod t.half ht.half
  have hwk : IntKind.i64.wrap (kk : Int) = (kk : Int) := IntWalk.i64_in _ (by omega)
  rw [show t.val = .agg (s2C t) from rfl]
  clear h
  go_enter Tryz.func24, Tryz.ntmps24
  go_upto_region 1 with fail
  generalize w.alloc (.cells (s2C t) 61) = w1 at hg hO ⊢
  generalize w.heap.size = B at hg hO ⊢
  have HO := Lib.hid hO
  have c0 : w1.cell? ⟨B, 0, none⟩ = some (.int .u8 (t.wh.toNat : Int)) := cellAt hg 0
  have c1 : w1.cell? ⟨B, 1, none⟩ = some (.int .i64 t.half) := cellAt hg 1
  have e0 : (t.wh.toNat : Int) = 3 := by rw [hw]; rfl
  rw [e0] at c0
  have HAB := Lib.hid (And.intro ha hb)
  have hag := ht.age
  clear e0 hw hO hg ha hb ht
  go_wp2_with fail
  refine wp_region_held_drew (S := HoldR r p x gL gM B t) (by kernel_rfl) (HO.out.drew.hold rfl rfl) (fun hHeld => ?_)
  refine wpAnyH_take (i := 0) (v := ?vv0_2) rfl (by kernel_rfl) (by kernel_rfl) (by kernel_rfl) (fun _ _ _ h => h) (Or.inl ⟨by rfl, ?hy0_2⟩) (by assumption) ?rest0_2
  case hy0_2 => (intro w' hSw; (try dsimp only at hSw); go_simp; try with_reducible rfl)
  try simp only [List.getElem_toArray, List.getElem_cons_zero, List.getElem_cons_succ, Act.put, List.setIfInBounds_toArray, List.set_cons_zero, List.set_cons_succ]
  refine wpAnyH_take (i := 1) (v := ?vv1_2) rfl (by kernel_rfl) (by kernel_rfl) (by kernel_rfl) (fun _ _ _ h => h) (Or.inl ⟨by rfl, ?hy1_2⟩) (by assumption) ?rest1_2
  case hy1_2 => (intro w' hSw; (try dsimp only at hSw); go_simp; try with_reducible rfl)
  try simp only [List.getElem_toArray, List.getElem_cons_zero, List.getElem_cons_succ, Act.put, List.setIfInBounds_toArray, List.set_cons_zero, List.set_cons_succ]
  refine wpAnyH_take (i := 2) (v := ?vv2_2) rfl (by kernel_rfl) (by kernel_rfl) (by kernel_rfl) (fun _ _ _ h => h) (Or.inl ⟨by rfl, ?hy2_2⟩) (by assumption) ?rest2_2
  case hy2_2 => (intro w' hSw; (try dsimp only at hSw); go_simp; try with_reducible rfl)
  try simp only [List.getElem_toArray, List.getElem_cons_zero, List.getElem_cons_succ, Act.put, List.setIfInBounds_toArray, List.set_cons_zero, List.set_cons_succ]
  refine wpAnyH_take (i := 3) (v := dp p) rfl (by kernel_rfl) (by kernel_rfl) (by kernel_rfl) (fun _ _ _ h => h) (Or.inl ⟨by rfl, fun w' hSw => exec_load1 w' rfl rfl hSw.c.1 Tryz.underlying35 rfl⟩) (by assumption) ?_
  try simp only [List.getElem_toArray, List.getElem_cons_zero, List.getElem_cons_succ, Act.put, List.setIfInBounds_toArray, List.set_cons_zero, List.set_cons_succ]
  refine wpAnyH_take (i := 4) (v := ?vv4_2) rfl (by kernel_rfl) (by kernel_rfl) (by kernel_rfl) (fun _ _ _ h => h) (Or.inl ⟨by rfl, ?hy4_2⟩) (by assumption) ?rest4_2
  case hy4_2 => (intro w' hSw; (try dsimp only at hSw); go_simp; try with_reducible rfl)
  try simp only [List.getElem_toArray, List.getElem_cons_zero, List.getElem_cons_succ, Act.put, List.setIfInBounds_toArray, List.set_cons_zero, List.set_cons_succ]
  refine wpAnyH_take (i := 5) (v := .int .i64 t.age) rfl (by kernel_rfl) (by kernel_rfl) (by kernel_rfl) (fun _ _ _ h => h) (Or.inl ⟨by rfl, fun w' hSw => exec_load1 w' rfl rfl hSw.s.2.2.1 Tryz.underlying3 rfl⟩) (by assumption) ?_
  try simp only [List.getElem_toArray, List.getElem_cons_zero, List.getElem_cons_succ, Act.put, List.setIfInBounds_toArray, List.set_cons_zero, List.set_cons_succ]
  refine wpAnyH_ready (rs := [6]) (by kernel_rfl) (by simp) ?_
  refine AllReadyH.cons rfl (fun K hK => ?_) AllReadyH.nil
  go_simp
  go_at_call 18
  refine (fail_o HO.out.drew 0 rfl hag).mono ?_
  rintro e1 w8 ⟨rfl, h8⟩
  refine hK.out _ _ (h8.hold rfl rfl) (fun hHeld => ?_)
  clear hK K
  try simp only [List.getElem_toArray, List.getElem_cons_zero, List.getElem_cons_succ, Act.put, List.setIfInBounds_toArray, List.set_cons_zero, List.set_cons_succ]
  refine wpAnyH_done (by kernel_rfl) ?_ _
  have H8 := Lib.hid h8
  clear h8 hHeld
  go_wp2_with fail
  refine wp_region_held_drew (S := HoldR r p x gL gM B t) (by kernel_rfl) (H8.out.drew.hold rfl rfl) (fun hHeld => ?_)
  refine wpAnyH_take (i := 0) (v := ?vv0_3) rfl (by kernel_rfl) (by kernel_rfl) (by kernel_rfl) (fun _ _ _ h => h) (Or.inl ⟨by rfl, ?hy0_3⟩) (by assumption) ?rest0_3
  case hy0_3 => (intro w' hSw; (try dsimp only at hSw); go_simp; try with_reducible rfl)
  try simp only [List.getElem_toArray, List.getElem_cons_zero, List.getElem_cons_succ, Act.put, List.setIfInBounds_toArray, List.set_cons_zero, List.set_cons_succ]
  refine wpAnyH_take (i := 1) (v := ?vv1_3) rfl (by kernel_rfl) (by kernel_rfl) (by kernel_rfl) (fun _ _ _ h => h) (Or.inl ⟨by rfl, ?hy1_3⟩) (by assumption) ?rest1_3
  case hy1_3 => (intro w' hSw; (try dsimp only at hSw); go_simp; try with_reducible rfl)
  try simp only [List.getElem_toArray, List.getElem_cons_zero, List.getElem_cons_succ, Act.put, List.setIfInBounds_toArray, List.set_cons_zero, List.set_cons_succ]
  refine wpAnyH_take (i := 2) (v := ?vv2_3) rfl (by kernel_rfl) (by kernel_rfl) (by kernel_rfl) (fun _ _ _ h => h) (Or.inl ⟨by rfl, ?hy2_3⟩) (by assumption) ?rest2_3
  case hy2_3 => (intro w' hSw; (try dsimp only at hSw); go_simp; try with_reducible rfl)
  try simp only [List.getElem_toArray, List.getElem_cons_zero, List.getElem_cons_succ, Act.put, List.setIfInBounds_toArray, List.set_cons_zero, List.set_cons_succ]
  refine wpAnyH_take (i := 3) (v := dp x) rfl (by kernel_rfl) (by kernel_rfl) (by kernel_rfl) (fun _ _ _ h => h) (Or.inl ⟨by rfl, fun w' hSw => exec_load1 w' rfl rfl hSw.c.2.1 Tryz.underlying51 rfl⟩) (by assumption) ?_
  try simp only [List.getElem_toArray, List.getElem_cons_zero, List.getElem_cons_succ, Act.put, List.setIfInBounds_toArray, List.set_cons_zero, List.set_cons_succ]
  refine wpAnyH_take (i := 4) (v := ?vv4_3) rfl (by kernel_rfl) (by kernel_rfl) (by kernel_rfl) (fun _ _ _ h => h) (Or.inl ⟨by rfl, ?hy4_3⟩) (by assumption) ?rest4_3
  case hy4_3 => (intro w' hSw; (try dsimp only at hSw); go_simp; try with_reducible rfl)
  try simp only [List.getElem_toArray, List.getElem_cons_zero, List.getElem_cons_succ, Act.put, List.setIfInBounds_toArray, List.set_cons_zero, List.set_cons_succ]
  refine wpAnyH_take (i := 5) (v := .int .i64 t.age) rfl (by kernel_rfl) (by kernel_rfl) (by kernel_rfl) (fun _ _ _ h => h) (Or.inl ⟨by rfl, fun w' hSw => exec_load1 w' rfl rfl hSw.s.2.2.1 Tryz.underlying3 rfl⟩) (by assumption) ?_
  try simp only [List.getElem_toArray, List.getElem_cons_zero, List.getElem_cons_succ, Act.put, List.setIfInBounds_toArray, List.set_cons_zero, List.set_cons_succ]
  refine wpAnyH_ready (rs := [6]) (by kernel_rfl) (by simp) ?_
  refine AllReadyH.cons rfl (fun K hK => ?_) AllReadyH.nil
  go_simp
  go_at_call 53
  refine (failR_o H8.out.drew 1 rfl hag).mono ?_
  rintro e1 w9 ⟨rfl, y1, y2, y3, h9⟩
  refine hK.out _ _ (h9.hold rfl rfl) (fun hHeld => ?_)
  clear hK K
  try simp only [List.getElem_toArray, List.getElem_cons_zero, List.getElem_cons_succ, Act.put, List.setIfInBounds_toArray, List.set_cons_zero, List.set_cons_succ]
  refine wpAnyH_done (by kernel_rfl) ?_ _
  have H9 := Lib.hid h9
  clear h9 hHeld
  go_wp2_with fail
  go_ret
  exact ⟨rfl, p, bl, bd, x, y1, y2, y3, gL, gM, S.fail t.age, a, b, Obs.drop (os := roomOs p bl bd x y1 y2 y3 r gL gM n (S.fail t.age) a b) (o := sbOb B t) H9.out, HAB.out.1, HAB.out.2, hn, (show S.ops ≤ o + 1100 by omega)⟩

set_option maxHeartbeats 8000000 in
theorem does_boot {w0 w : World} {p bl bd x g1 g2 g3 r gL gM n o : Nat} {S : DS} {a b : Option (Nat × Nat × LS)} (h : Obs w0 w (roomOs p bl bd x g1 g2 g3 r gL gM n S a b)) (ha : okO n (fL a)) (hb : okO n (fL b)) (hn : S.was.length = n) (ho : S.ops ≤ o) (ho2 : o ≤ 4611686018427370000) {t : S2} (ht : t.Ok w0) (hkl : t.keep.length ≤ 3000) (hsl : t.s.length ≤ 3000) (hw : t.wh = 4) :
    Calls Tryz.prog 24 #[dp r, t.val] w fun e w' => e = .returned (.bool true) ∧ RoomI w0 w' r n (o + 1100) := by
  have hops : S.ops < 4611686018427380000 := by omega
  have hops2 : S.ops < 4611686018427387904 := by omega
  have hg := heap_alloc_new w (.cells (s2C t) 61)
  have hO := h.add (sbOb w.heap.size t) (w' := w.alloc (.cells (s2C t) 61)) hg (sbOb_stays _ _) (below_alloc w _) (fun b hb => by simp [sbOb] at hb; subst hb; exact ⟨Nat.le_refl _, by simp⟩)
  obtain ⟨u, kk, hu, hu0, hu1, hmod, hk2, hkz⟩ := half_mod t.half ht.half
  have hwk : IntKind.i64.wrap (kk : Int) = (kk : Int) := IntWalk.i64_in _ (by omega)
  rw [show t.val = .agg (s2C t) from rfl]
  clear h
  go_enter Tryz.func24, Tryz.ntmps24
  go_upto_region 1 with fail
  generalize w.alloc (.cells (s2C t) 61) = w1 at hg hO ⊢
  generalize w.heap.size = B at hg hO ⊢
  have HO := Lib.hid hO
  have c0 : w1.cell? ⟨B, 0, none⟩ = some (.int .u8 (t.wh.toNat : Int)) := cellAt hg 0
  have c1 : w1.cell? ⟨B, 1, none⟩ = some (.int .i64 t.half) := cellAt hg 1
  have e0 : (t.wh.toNat : Int) = 4 := by rw [hw]; rfl
  rw [e0] at c0
  have HAB := Lib.hid (And.intro ha hb)
  have HIR := Lib.hid (fun W os (hh : Obs w0 W os) => ht.ir.below hh.bel)
  have HLO := Lib.hid (fun ad (e : t.kA = some ad) (hne : t.keep ≠ []) => show ad.block < w0.heap.size from by
    obtain ⟨b9, o9, e9, hb9, _⟩ := ht.ir 0 (by cases hk : t.keep with | nil => exact absurd hk hne | cons _ _ => simp)
    rw [e] at e9
    cases e9
    exact hb9)
  have HNA := Lib.hid (fun ad (e : t.kA = some ad) (hne : t.keep ≠ []) => show ad.block ∉ [p, bl, bd] from fun hm => by
    have h1 := HLO.out ad e hne
    have h2 := ((hO.this 0 _ rfl).2.1 _ hm).1
    omega)
  have HNX := Lib.hid (fun ad (e : t.kA = some ad) (hne : t.keep ≠ []) => show ad.block ∉ [x, g1, g2, g3] from fun hm => by
    have h1 := HLO.out ad e hne
    have h2 := ((hO.this 1 _ rfl).2.1 _ hm).1
    omega)
  have hkl2 : t.keep.length ≤ 100000 := by omega
  clear e0 hw hO hg ha hb ht
  go_wp2_with fail
  refine wp_region_held_drew (S := HoldR r p x gL gM B t) (by kernel_rfl) (HO.out.drew.hold rfl rfl) (fun hHeld => ?_)
  refine wpAnyH_take (i := 0) (v := ?vv0_4) rfl (by kernel_rfl) (by kernel_rfl) (by kernel_rfl) (fun _ _ _ h => h) (Or.inl ⟨by rfl, ?hy0_4⟩) (by assumption) ?rest0_4
  case hy0_4 => (intro w' hSw; (try dsimp only at hSw); go_simp; try with_reducible rfl)
  try simp only [List.getElem_toArray, List.getElem_cons_zero, List.getElem_cons_succ, Act.put, List.setIfInBounds_toArray, List.set_cons_zero, List.set_cons_succ]
  refine wpAnyH_take (i := 1) (v := ?vv1_4) rfl (by kernel_rfl) (by kernel_rfl) (by kernel_rfl) (fun _ _ _ h => h) (Or.inl ⟨by rfl, ?hy1_4⟩) (by assumption) ?rest1_4
  case hy1_4 => (intro w' hSw; (try dsimp only at hSw); go_simp; try with_reducible rfl)
  try simp only [List.getElem_toArray, List.getElem_cons_zero, List.getElem_cons_succ, Act.put, List.setIfInBounds_toArray, List.set_cons_zero, List.set_cons_succ]
  refine wpAnyH_take (i := 2) (v := ?vv2_4) rfl (by kernel_rfl) (by kernel_rfl) (by kernel_rfl) (fun _ _ _ h => h) (Or.inl ⟨by rfl, ?hy2_4⟩) (by assumption) ?rest2_4
  case hy2_4 => (intro w' hSw; (try dsimp only at hSw); go_simp; try with_reducible rfl)
  try simp only [List.getElem_toArray, List.getElem_cons_zero, List.getElem_cons_succ, Act.put, List.setIfInBounds_toArray, List.set_cons_zero, List.set_cons_succ]
  refine wpAnyH_take (i := 3) (v := dp p) rfl (by kernel_rfl) (by kernel_rfl) (by kernel_rfl) (fun _ _ _ h => h) (Or.inl ⟨by rfl, fun w' hSw => exec_load1 w' rfl rfl hSw.c.1 Tryz.underlying35 rfl⟩) (by assumption) ?_
  try simp only [List.getElem_toArray, List.getElem_cons_zero, List.getElem_cons_succ, Act.put, List.setIfInBounds_toArray, List.set_cons_zero, List.set_cons_succ]
  refine wpAnyH_take (i := 4) (v := ?vv4_4) rfl (by kernel_rfl) (by kernel_rfl) (by kernel_rfl) (fun _ _ _ h => h) (Or.inl ⟨by rfl, ?hy4_4⟩) (by assumption) ?rest4_4
  case hy4_4 => (intro w' hSw; (try dsimp only at hSw); go_simp; try with_reducible rfl)
  try simp only [List.getElem_toArray, List.getElem_cons_zero, List.getElem_cons_succ, Act.put, List.setIfInBounds_toArray, List.set_cons_zero, List.set_cons_succ]
  refine wpAnyH_take (i := 5) (v := .slice t.kA t.keep.length t.kc) rfl (by kernel_rfl) (by kernel_rfl) (by kernel_rfl) (fun _ _ _ h => h) (Or.inl ⟨by rfl, fun w' hSw => exec_load1 w' rfl rfl hSw.s.2.2.2 Tryz.underlying46 rfl⟩) (by assumption) ?_
  try simp only [List.getElem_toArray, List.getElem_cons_zero, List.getElem_cons_succ, Act.put, List.setIfInBounds_toArray, List.set_cons_zero, List.set_cons_succ]
  refine wpAnyH_take (i := 7) (v := ?vv7_4) rfl (by kernel_rfl) (by kernel_rfl) (by kernel_rfl) (fun _ _ _ h => h) (Or.inl ⟨by rfl, ?hy7_4⟩) (by assumption) ?rest7_4
  case hy7_4 => (intro w' hSw; (try dsimp only at hSw); go_simp; try with_reducible rfl)
  try simp only [List.getElem_toArray, List.getElem_cons_zero, List.getElem_cons_succ, Act.put, List.setIfInBounds_toArray, List.set_cons_zero, List.set_cons_succ]
  refine wpAnyH_take (i := 8) (v := ?vv8_4) rfl (by kernel_rfl) (by kernel_rfl) (by kernel_rfl) (fun _ _ _ h => h) (Or.inl ⟨by rfl, ?hy8_4⟩) (by assumption) ?rest8_4
  case hy8_4 => (intro w' hSw; (try dsimp only at hSw); go_simp; try with_reducible rfl)
  try simp only [List.getElem_toArray, List.getElem_cons_zero, List.getElem_cons_succ, Act.put, List.setIfInBounds_toArray, List.set_cons_zero, List.set_cons_succ]
  refine wpAnyH_take (i := 9) (v := ?vv9_4) rfl (by kernel_rfl) (by kernel_rfl) (by kernel_rfl) (fun _ _ _ h => h) (Or.inl ⟨by rfl, ?hy9_4⟩) (by assumption) ?rest9_4
  case hy9_4 => (intro w' hSw; (try dsimp only at hSw); go_simp; try with_reducible rfl)
  try simp only [List.getElem_toArray, List.getElem_cons_zero, List.getElem_cons_succ, Act.put, List.setIfInBounds_toArray, List.set_cons_zero, List.set_cons_succ]
  refine wpAnyH_take (i := 10) (v := dp x) rfl (by kernel_rfl) (by kernel_rfl) (by kernel_rfl) (fun _ _ _ h => h) (Or.inl ⟨by rfl, fun w' hSw => exec_load1 w' rfl rfl hSw.c.2.1 Tryz.underlying51 rfl⟩) (by assumption) ?_
  try simp only [List.getElem_toArray, List.getElem_cons_zero, List.getElem_cons_succ, Act.put, List.setIfInBounds_toArray, List.set_cons_zero, List.set_cons_succ]
  refine wpAnyH_take (i := 11) (v := ?vv11_4) rfl (by kernel_rfl) (by kernel_rfl) (by kernel_rfl) (fun _ _ _ h => h) (Or.inl ⟨by rfl, ?hy11_4⟩) (by assumption) ?rest11_4
  case hy11_4 => (intro w' hSw; (try dsimp only at hSw); go_simp; try with_reducible rfl)
  try simp only [List.getElem_toArray, List.getElem_cons_zero, List.getElem_cons_succ, Act.put, List.setIfInBounds_toArray, List.set_cons_zero, List.set_cons_succ]
  refine wpAnyH_take (i := 12) (v := .slice t.kA t.keep.length t.kc) rfl (by kernel_rfl) (by kernel_rfl) (by kernel_rfl) (fun _ _ _ h => h) (Or.inl ⟨by rfl, fun w' hSw => exec_load1 w' rfl rfl hSw.s.2.2.2 Tryz.underlying46 rfl⟩) (by assumption) ?_
  try simp only [List.getElem_toArray, List.getElem_cons_zero, List.getElem_cons_succ, Act.put, List.setIfInBounds_toArray, List.set_cons_zero, List.set_cons_succ]
  refine wpAnyH_ready (rs := [6]) (by kernel_rfl) (by simp) ?_
  refine AllReadyH.cons rfl (fun K hK => ?_) AllReadyH.nil
  go_simp
  go_at_call 19
  refine (boot_o HO.out.drew 0 rfl (HIR.out _ _ HO.out.drew) HNA.out hkl2).mono ?_
  rintro e1 w8 ⟨rfl, h8⟩
  refine hK.out _ _ (h8.hold rfl rfl) (fun hHeld => ?_)
  clear hK K
  try simp only [List.getElem_toArray, List.getElem_cons_zero, List.getElem_cons_succ, Act.put, List.setIfInBounds_toArray, List.set_cons_zero, List.set_cons_succ]
  refine wpAnyH_ready (rs := [13]) (by kernel_rfl) (by simp) ?_
  refine AllReadyH.cons rfl (fun K hK => ?_) AllReadyH.nil
  go_simp
  go_at_call 54
  refine (bootR_o h8 1 rfl (HIR.out _ _ h8) HNX.out hkl2).mono ?_
  rintro e1 w9 ⟨rfl, y1, y2, y3, h9⟩
  refine hK.out _ _ (h9.hold rfl rfl) (fun hHeld => ?_)
  clear hK K
  try simp only [List.getElem_toArray, List.getElem_cons_zero, List.getElem_cons_succ, Act.put, List.setIfInBounds_toArray, List.set_cons_zero, List.set_cons_succ]
  refine wpAnyH_take (i := 14) (v := ?vv14_4) rfl (by kernel_rfl) (by kernel_rfl) (by kernel_rfl) (fun _ _ _ h => h) (Or.inl ⟨by rfl, ?hy14_4⟩) (by assumption) ?rest14_4
  case hy14_4 => (intro w' hSw; (try dsimp only at hSw); go_simp; try with_reducible rfl)
  try simp only [List.getElem_toArray, List.getElem_cons_zero, List.getElem_cons_succ, Act.put, List.setIfInBounds_toArray, List.set_cons_zero, List.set_cons_succ]
  refine wpAnyH_take (i := 15) (v := ?vv15_4) rfl (by kernel_rfl) (by kernel_rfl) (by kernel_rfl) (fun _ _ _ h => h) (Or.inl ⟨by rfl, ?hy15_4⟩) (by assumption) ?rest15_4
  case hy15_4 => (intro w' hSw; (try dsimp only at hSw); go_simp; try with_reducible rfl)
  try simp only [List.getElem_toArray, List.getElem_cons_zero, List.getElem_cons_succ, Act.put, List.setIfInBounds_toArray, List.set_cons_zero, List.set_cons_succ]
  refine wpAnyH_done (by kernel_rfl) ?_ _
  have H9 := Lib.hid h9
  clear h9 h8 hHeld
  go_wp2_with fail
  go_ret
  have hl := boot_lenR S t.keep
  exact ⟨by first | rfl | simp, p, bl, bd, x, y1, y2, y3, gL, gM, S.boot t.keep, a, b, Obs.drop (os := roomOs p bl bd x y1 y2 y3 r gL gM n (S.boot t.keep) a b) (o := sbOb B t) H9.out, HAB.out.1, HAB.out.2, by omega, by omega⟩
end Go.Proofs.YthfnncahmccgkaaGreatDoor
