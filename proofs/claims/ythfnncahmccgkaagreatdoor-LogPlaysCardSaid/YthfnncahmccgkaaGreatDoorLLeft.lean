/-
  The program's log: what is left, and a record that is written.
-/
import Derived.Deep.RegionHeld3
import Derived.Test.YthfnncahmccgkaaGreatDoorLRead
import Derived.Test.YthfnncahmccgkaaGreatDoorFSplit2
import Derived.Test.YthfnncahmccgkaaGreatDoorDWkM
namespace Go.Proofs.YthfnncahmccgkaaGreatDoor
open Go Go.RowKit Go.Maps
set_option maxRecDepth 100000
set_option linter.unusedSimpArgs false
set_option linter.unusedVariables false

theorem IR.at {w : World} {b o : Nat} {L : List Int} (h : IR w (some ⟨b, o, none⟩) L) {j : Nat} (hj : j < L.length) : w.cell? ⟨b, o + j, none⟩ = some (.int .i64 (L.getD j 0)) ∧ b < w.heap.size := by
  obtain ⟨b', o', e, hl, hc⟩ := h j hj
  simp only [Option.some.injEq, Addr.mk.injEq, and_true] at e
  obtain ⟨rfl, rfl⟩ := e
  exact ⟨hc, hl⟩
theorem none_any {w : World} {q p : Nat} {l : LS} (h : LG w q p l) : Calls Tryz.prog 42 #[dp q] w fun e w' => e = .returned (.bool false) ∧ w = w' := by
  obtain ⟨c0, _⟩ := h.cells
  clear h
  go_enter Tryz.func42, Tryz.ntmps42
  go_wp2
  go_ret
  exact ⟨rfl, rfl⟩
theorem fromB_ir {g f m u n : Nat} {w : World} (hg : IB w g (plc n n)) (hle : f + m ≤ n) (hu : u ≤ m) {A : Addr} (hA : fromB ⟨g, 0, none⟩ f (f + m) = some A) : IR w (fromB A u m) (upF (f + u) (m - u)) ∧ ∀ a, fromB A u m = some a → a.block = g := by
  have e0 : 0 < m → A = ⟨g, f, none⟩ := fun h0 => by
    unfold fromB at hA
    rw [if_neg (by omega), Go.WideShapes.add_plain, Nat.zero_add] at hA
    exact (Option.some.inj hA).symm
  refine ⟨hg.ir (by omega) (fun h0 => ?_), fun a ha => ?_⟩
  · unfold fromB
    rw [if_neg (by omega), e0 (by omega), Go.WideShapes.add_plain]
  · have e1 : A.block = g := by
      rcases Nat.eq_zero_or_pos m with h0 | h0
      · unfold fromB at hA
        rw [if_pos (by omega)] at hA
        rw [← Option.some.inj hA]
      · rw [e0 h0]
    unfold fromB at ha
    have := Option.some.inj ha
    rw [← this]
    split
    · exact e1
    · rcases Nat.eq_zero_or_pos m with h0 | h0
      · rename_i hne; omega
      · rw [e0 h0, Go.WideShapes.add_plain]
set_option maxHeartbeats 2000000 in
/-- Where the sectors stand that no record was written to. -/
theorem left_any {w : World} {q p bl bd : Nat} {S : DS} {l : LS} (hq : LG w q p l) (hP : PD w p bl bd S) (ho : l.Ok S.was.length) : Calls Tryz.prog 43 #[dp q] w fun e w' =>
    ∃ A c, e = .returned (.slice A (S.was.length / 2 - l.used) c) ∧ IR w' A (upF (lfst S.was.length l.half + l.used) (S.was.length / 2 - l.used)) ∧ (∀ a, A = some a → w.heap.size ≤ a.block) ∧ Below w.heap.size w w' := by
  have HQ := Lib.hid (show LG w.drew q p l from hq)
  have PO := Lib.hid (fun W (hb : Below w.heap.size w W) => placesOf_any (hP.below hb) ho.hh)
  have hle := lfst_le (n := S.was.length) ho.hh
  have hus := ho.us
  have hn2 := hP.ok.n2
  have HFB := Lib.hid (fun W g A (hg : IB W g (plc S.was.length S.was.length)) (hA : fromB ⟨g, 0, none⟩ (lfst S.was.length l.half) (lfst S.was.length l.half + S.was.length / 2) = some A) => fromB_ir hg hle hus hA)
  obtain ⟨f, hf⟩ : ∃ f, f = lfst S.was.length l.half := ⟨_, rfl⟩
  obtain ⟨m, hm⟩ : ∃ m, m = S.was.length / 2 := ⟨_, rfl⟩
  rw [← hf, ← hm] at hle PO HFB ⊢
  rw [← hm] at hus
  clear hf hm hq hP ho
  generalize S.was.length = n at PO hle hn2 HFB
  have hmin : min (l.used : Int) (m : Int) = (l.used : Int) := by omega
  have hb1 : (0 : Int) ≤ (l.used : Int) := by omega
  have ST := fun W A => slice_tail W A m m l.used hus
  go_enter Tryz.func43, Tryz.ntmps43
  go_upto_region 1 with fail
  refine wp_region_held_drew (S := fun W => LG W q p l ∧ Below w.heap.size w W) (by kernel_rfl) ⟨HQ.out, (Below.refl _ _).drew⟩ (fun hHeld => ?_)
  refine wpAnyH_take (i := 0) (v := ?vv0_1) rfl (by kernel_rfl) (by kernel_rfl) (by kernel_rfl) (fun _ _ _ h => h) (Or.inl ⟨by rfl, ?hy0_1⟩) (by assumption) ?rest0_1
  case hy0_1 => (intro w' hSw; (try dsimp only at hSw); go_simp; try with_reducible rfl)
  try simp only [List.getElem_toArray, List.getElem_cons_zero, List.getElem_cons_succ, Act.put, List.setIfInBounds_toArray, List.set_cons_zero, List.set_cons_succ]
  refine wpAnyH_take (i := 1) (v := ?vv1_1) rfl (by kernel_rfl) (by kernel_rfl) (by kernel_rfl) (fun _ _ _ h => h) (Or.inl ⟨by rfl, ?hy1_1⟩) (by assumption) ?rest1_1
  case hy1_1 => (intro w' hSw; (try dsimp only at hSw); go_simp; try with_reducible rfl)
  try simp only [List.getElem_toArray, List.getElem_cons_zero, List.getElem_cons_succ, Act.put, List.setIfInBounds_toArray, List.set_cons_zero, List.set_cons_succ]
  refine wpAnyH_take (i := 2) (v := ?vv2_1) rfl (by kernel_rfl) (by kernel_rfl) (by kernel_rfl) (fun _ _ _ h => h) (Or.inl ⟨by rfl, ?hy2_1⟩) (by assumption) ?rest2_1
  case hy2_1 => (intro w' hSw; (try dsimp only at hSw); go_simp; try with_reducible rfl)
  try simp only [List.getElem_toArray, List.getElem_cons_zero, List.getElem_cons_succ, Act.put, List.setIfInBounds_toArray, List.set_cons_zero, List.set_cons_succ]
  refine wpAnyH_take (i := 3) (v := dp p) rfl (by kernel_rfl) (by kernel_rfl) (by kernel_rfl) (fun _ _ _ h => h) (Or.inl ⟨by rfl, fun w' hSw => exec_load1 w' rfl rfl (LG.cells hSw.1).1 Tryz.underlying35 rfl⟩) (by assumption) ?_
  try simp only [List.getElem_toArray, List.getElem_cons_zero, List.getElem_cons_succ, Act.put, List.setIfInBounds_toArray, List.set_cons_zero, List.set_cons_succ]
  refine wpAnyH_take (i := 4) (v := ?vv4_1) rfl (by kernel_rfl) (by kernel_rfl) (by kernel_rfl) (fun _ _ _ h => h) (Or.inl ⟨by rfl, ?hy4_1⟩) (by assumption) ?rest4_1
  case hy4_1 => (intro w' hSw; (try dsimp only at hSw); go_simp; try with_reducible rfl)
  try simp only [List.getElem_toArray, List.getElem_cons_zero, List.getElem_cons_succ, Act.put, List.setIfInBounds_toArray, List.set_cons_zero, List.set_cons_succ]
  refine wpAnyH_take (i := 5) (v := ?vv5_1) rfl (by kernel_rfl) (by kernel_rfl) (by kernel_rfl) (fun _ _ _ h => h) (Or.inl ⟨by rfl, ?hy5_1⟩) (by assumption) ?rest5_1
  case hy5_1 => (intro w' hSw; (try dsimp only at hSw); go_simp; try with_reducible rfl)
  try simp only [List.getElem_toArray, List.getElem_cons_zero, List.getElem_cons_succ, Act.put, List.setIfInBounds_toArray, List.set_cons_zero, List.set_cons_succ]
  refine wpAnyH_take (i := 6) (v := ?vv6_1) rfl (by kernel_rfl) (by kernel_rfl) (by kernel_rfl) (fun _ _ _ h => h) (Or.inl ⟨by rfl, ?hy6_1⟩) (by assumption) ?rest6_1
  case hy6_1 => (intro w' hSw; (try dsimp only at hSw); go_simp; try with_reducible rfl)
  try simp only [List.getElem_toArray, List.getElem_cons_zero, List.getElem_cons_succ, Act.put, List.setIfInBounds_toArray, List.set_cons_zero, List.set_cons_succ]
  refine wpAnyH_take (i := 7) (v := .int .i64 (l.half : Int)) rfl (by kernel_rfl) (by kernel_rfl) (by kernel_rfl) (fun _ _ _ h => h) (Or.inl ⟨by rfl, fun w' hSw => exec_load1 w' rfl rfl (LG.cells hSw.1).2.1 Tryz.underlying3 rfl⟩) (by assumption) ?_
  try simp only [List.getElem_toArray, List.getElem_cons_zero, List.getElem_cons_succ, Act.put, List.setIfInBounds_toArray, List.set_cons_zero, List.set_cons_succ]
  refine wpAnyH_ready (rs := [8]) (by kernel_rfl) (by simp) ?_
  refine AllReadyH.cons rfl (fun K hK => ?_) AllReadyH.nil
  go_simp
  go_at_call 37
  refine (PO.out _ hHeld.2).mono ?_
  rintro e1 w8 ⟨g, rfl, hg, hb8, hgn⟩
  refine hK.out _ _ ⟨hHeld.1.below hb8, hHeld.2.trans (hb8.mono hHeld.2.size)⟩ (fun hHeld => ?_)
  clear hK K
  try simp only [List.getElem_toArray, List.getElem_cons_zero, List.getElem_cons_succ, Act.put, List.setIfInBounds_toArray, List.set_cons_zero, List.set_cons_succ]
  refine wpAnyH_take (i := 9) (v := ?vv9_1) rfl (by kernel_rfl) (by kernel_rfl) (by kernel_rfl) (fun _ _ _ h => h) (Or.inl ⟨by rfl, ?hy9_1⟩) (by assumption) ?rest9_1
  case hy9_1 => (intro w' hSw; (try dsimp only at hSw); go_simp; try with_reducible rfl)
  try simp only [List.getElem_toArray, List.getElem_cons_zero, List.getElem_cons_succ, Act.put, List.setIfInBounds_toArray, List.set_cons_zero, List.set_cons_succ]
  refine wpAnyH_done (by kernel_rfl) ?_ _
  obtain ⟨A0, hA0⟩ : ∃ A0, fromB ⟨g, 0, none⟩ f (f + m) = some A0 := ⟨_, rfl⟩
  rw [hA0]
  have HX := Lib.hid (HFB.out _ g A0 hg hA0)
  have HN := Lib.hid hgn
  have HB := Lib.hid (hHeld.2.mono (Nat.le_refl _))
  have STA := fun W => ST W A0
  have c3 := (LG.cells hHeld.1).2.2.2.1
  clear HFB hA0 hg hgn ST hHeld
  go_wp2_with fail
  go_ret
  exact ⟨_, _, rfl, HX.out.1, fun a ha => by rw [HX.out.2 a ha]; exact HN.out, HB.out⟩
end Go.Proofs.YthfnncahmccgkaaGreatDoor

