/-
  The contract of Show.
-/
import Derived.Test.YtnaoandleelbkaaGreatDoorUOf
import Derived.Test.YtnaoandleelbkaaGreatDoorXGm
import Derived.Lib.Join
namespace Go.Proofs.YtnaoandleelbkaaGreatDoor
set_option linter.unusedSimpArgs false
set_option linter.unusedVariables false
open Go Go.RowKit
set_option maxRecDepth 100000

/-- All laid variables are as their texts lay them, the powers of ten too. -/
structure GU (w : World) : Prop where
  ga : GA w
  pw : Nx.LW w
theorem GU.below {w w' : World} (h : GU w) (hb : Below w.heap.size w w') : GU w' := ⟨h.ga.below hb, h.pw.below hb⟩
def Gu (w W : World) : Prop := Below w.heap.size w W ∧ GU W
theorem Gu.start {w : World} (h : GU w) : Gu w w := ⟨Below.refl _ _, h⟩
theorem Gu.step {w W W' : World} (h : Gu w W) (hb : Below W.heap.size W W') : Gu w W' := ⟨h.1.trans (hb.mono h.1.size), h.2.below hb⟩
theorem decU_short {n : Nat} (h : n < 256) : (Lib.decDigits n).length ≤ 20 := by
  have h1 := (num_dec h)
  unfold numU at h1
  split at h1
  · next hh =>
    by_cases hl : 1 < (Lib.decDigits n).length
    · have := Nx.val_pos hh.1 hl
      rcases Nat.lt_or_ge 20 (Lib.decDigits n).length with h2 | h2
      · have h3 : 10 ^ 20 ≤ 10 ^ ((Lib.decDigits n).length - 1) := Nat.pow_le_pow_right (by decide) (by omega)
        omega
      · exact h2
    · omega
  · cases h1
theorem numberU_any {w : World} (n : Nat) (hn : n < 256) (hw : GU w) : Calls Tryz.prog 111 #[.int .u8 (n : Int)] w fun e w' => e = .returned (sv (Lib.decDigits n)) ∧ Below w.heap.size w w' := by
  have HS := Lib.hid (show Calls Tryz.prog 166 #[.int .i64 (n : Int)] w fun e w' => e = .returned (sv (Lib.decDigits n)) ∧ Below w.heap.size w w' by
    have := Nx.show_any (n : Int) w (by omega) (by omega) hw.pw
    rw [show Lib.itoa (n : Int) = Lib.decDigits n by unfold Lib.itoa; rw [if_neg (by omega)]; rfl] at this
    exact this)
  have hwr : IntKind.i64.wrap (n : Int) = (n : Int) := IntWalk.i64_in _ (by omega)
  obtain ⟨t, ht⟩ : ∃ t, t = Lib.decDigits n := ⟨_, rfl⟩
  rw [← ht] at HS ⊢
  clear hw ht
  go_enter Tryz.func111, Tryz.ntmps111
  go_wp2_with (go_at_call 166; refine HS.out.mono ?_; rintro e w1 ⟨rfl, hb1⟩)
  go_ret
  exact ⟨rfl, hb1⟩
theorem join4_any {W : World} (k : Nat) {a b c d : List UInt8} (hk : W.heap[k]? = some (.cells #[sv a, sv b, sv c, sv d] 9 (0, 0))) (ha : a.length ≤ 1000000) (hb : b.length ≤ 1000000) (hc : c.length ≤ 1000000) (hd : d.length ≤ 1000000) :
    Calls Tryz.prog 110 #[.slice (some ⟨k, 0, none⟩) 4 4, .string { data := #[32] }] W fun e w' => e = .returned (sv (a ++ 32 :: (b ++ 32 :: (c ++ 32 :: d)))) ∧ Below W.heap.size W w' := by
  have hj : Lib.join ([str a, str b, str c, str d].map (·.data.toList)) [32] = a ++ 32 :: (b ++ 32 :: (c ++ 32 :: d)) := by simp [Lib.join, List.intercalate]
  have := Tryz.strings_Join k 0 4 [str a, str b, str c, str d] { data := #[32] } W (fun j x hx => by
      rw [Nat.zero_add, cellAt hk]
      match j, hx with
      | 0, hx => cases hx; rfl
      | 1, hx => cases hx; rfl
      | 2, hx => cases hx; rfl
      | 3, hx => cases hx; rfl) (lt_of_blk hk) (by simp) (by simp) (by
      rw [hj]
      simp only [List.length_append, List.length_cons]; omega)
  rw [hj] at this
  exact this
theorem textD_len {d : List UInt8} (h : d.length ≤ 100000) : (textD d).length ≤ 1000000 := by
  unfold textD
  split
  · simp
  · rw [Hx.hex_length]; omega
set_option maxHeartbeats 8000000 in
theorem show_u {w : World} (r : Rc) (hr : byteR r) (hd : r.da.length ≤ 100000) (hw : GU w) :
    Calls Tryz.prog 53 #[.agg #[.int .u8 (r.us : Int), .int .u8 (r.se : Int), .int .u8 (r.ma : Int), sv r.da]] w fun e w' => e = .returned (sv (showR r)) ∧ Below w.heap.size w w' := by
  have HX := Lib.hid (fun W : World => Hx.hex_any r.da W hd)
  have HNu := Lib.hid (fun (W : World) (h : GU W) => numberU_any r.us hr.1 h)
  have HNs := Lib.hid (fun (W : World) (h : GU W) => numberU_any r.se hr.2.1 h)
  have HNm := Lib.hid (fun (W : World) (h : GU W) => numberU_any r.ma hr.2.2 h)
  have hg := (Gu.start hw).step (below_alloc w (cellsR r))
  have hrb := RB.new w r
  have HG := Lib.hid (show Gu w (w.alloc (cellsR r)) ∧ RB (w.alloc (cellsR r)) w.heap.size r from ⟨hg, hrb⟩)
  have hS : showR r = Lib.decDigits r.us ++ 32 :: (Lib.decDigits r.se ++ 32 :: (Lib.decDigits r.ma ++ 32 :: textD r.da)) := rfl
  have l1 := decU_short hr.1
  have l2 := decU_short hr.2.1
  have l3 := decU_short hr.2.2
  have l4 := textD_len hd
  have htd : textD r.da = if r.da = [] then [45] else Hx.hexL r.da := rfl
  have hhe : Hx.hexL r.da = [] ↔ r.da = [] := by
    have := Hx.hex_length r.da
    constructor
    · intro h; rw [h] at this; exact List.eq_nil_of_length_eq_zero (by simp at this; omega)
    · intro h; rw [h]; rfl
  obtain ⟨u, s, m, d⟩ := r
  simp only at HX HNu HNs HNm hS l1 l2 l3 l4 htd hhe ⊢
  obtain ⟨t1, ht1⟩ : ∃ t, t = Lib.decDigits u := ⟨_, rfl⟩
  obtain ⟨t2, ht2⟩ : ∃ t, t = Lib.decDigits s := ⟨_, rfl⟩
  obtain ⟨t3, ht3⟩ : ∃ t, t = Lib.decDigits m := ⟨_, rfl⟩
  obtain ⟨t4, ht4⟩ : ∃ t, t = textD d := ⟨_, rfl⟩
  obtain ⟨x, hx⟩ : ∃ x, x = Hx.hexL d := ⟨_, rfl⟩
  rw [← ht1] at HNu hS l1
  rw [← ht2] at HNs hS l2
  rw [← ht3] at HNm hS l3
  rw [← ht4] at hS l4 htd
  rw [← hx] at HX htd hhe
  have HJN := Lib.hid (fun (W : World) (k : Nat) (hk : W.heap[k]? = some (.cells #[sv t1, sv t2, sv t3, sv t4] 9 (0, 0))) => join4_any k hk (by omega) (by omega) (by omega) l4)
  rw [hS]
  obtain ⟨z, hz⟩ : ∃ z, z = t1 ++ 32 :: (t2 ++ 32 :: (t3 ++ 32 :: t4)) := ⟨_, rfl⟩
  rw [← hz] at HJN ⊢
  clear hr hw hd hg hrb hS ht1 ht2 ht3 ht4 hx hz l1 l2 l3 l4
  by_cases h0 : d = []
  · subst h0
    rw [if_pos rfl] at htd
    have hx0 := hhe.2 rfl
    subst hx0
    subst htd
    clear hhe
    go_enter Tryz.func53, Tryz.ntmps53
    go_wp2_with (go_at_call 109; refine (HX.out _).mono ?_; rintro e w3 ⟨rfl, hb3⟩; have HS0 := Lib.hid (show Gu w w3.drew ∧ RB w3.drew w.heap.size ⟨u, s, m, []⟩ from ⟨(HG.out.1.step hb3).step (Below.refl _ _).drew, (HG.out.2.step hb3).step (Below.refl _ _).drew⟩); clear hb3)
    refine wp_region_held_drew (S := fun W => Gu w W ∧ RB W w.heap.size ⟨u, s, m, []⟩) (by kernel_rfl) HS0.out (fun hHeld => ?_)
    refine wpAnyH_take (i := 0) (v := ?vv0_1) rfl (by kernel_rfl) (by kernel_rfl) (by kernel_rfl) (fun _ _ _ h => h) (Or.inl ⟨by rfl, ?hy0_1⟩) (by assumption) ?rest0_1
    case hy0_1 => (intro w' hSw; (try dsimp only at hSw); go_simp; try with_reducible rfl)
    try simp only [List.getElem_toArray, List.getElem_cons_zero, List.getElem_cons_succ, Act.put, List.setIfInBounds_toArray, List.set_cons_zero, List.set_cons_succ]
    refine wpAnyH_take (i := 1) (v := .int .u8 (u : Int)) rfl (by kernel_rfl) (by kernel_rfl) (by kernel_rfl) (fun _ _ _ h => h) (Or.inl ⟨by rfl, fun w' hSw => exec_load1 w' rfl rfl hSw.2.c0 Tryz.underlying5 rfl⟩) (by assumption) ?_
    try simp only [List.getElem_toArray, List.getElem_cons_zero, List.getElem_cons_succ, Act.put, List.setIfInBounds_toArray, List.set_cons_zero, List.set_cons_succ]
    refine wpAnyH_take (i := 3) (v := ?vv3_1) rfl (by kernel_rfl) (by kernel_rfl) (by kernel_rfl) (fun _ _ _ h => h) (Or.inl ⟨by rfl, ?hy3_1⟩) (by assumption) ?rest3_1
    case hy3_1 => (intro w' hSw; (try dsimp only at hSw); go_simp; try with_reducible rfl)
    try simp only [List.getElem_toArray, List.getElem_cons_zero, List.getElem_cons_succ, Act.put, List.setIfInBounds_toArray, List.set_cons_zero, List.set_cons_succ]
    refine wpAnyH_take (i := 4) (v := .int .u8 (s : Int)) rfl (by kernel_rfl) (by kernel_rfl) (by kernel_rfl) (fun _ _ _ h => h) (Or.inl ⟨by rfl, fun w' hSw => exec_load1 w' rfl rfl hSw.2.c1 Tryz.underlying5 rfl⟩) (by assumption) ?_
    try simp only [List.getElem_toArray, List.getElem_cons_zero, List.getElem_cons_succ, Act.put, List.setIfInBounds_toArray, List.set_cons_zero, List.set_cons_succ]
    refine wpAnyH_take (i := 6) (v := ?vv6_1) rfl (by kernel_rfl) (by kernel_rfl) (by kernel_rfl) (fun _ _ _ h => h) (Or.inl ⟨by rfl, ?hy6_1⟩) (by assumption) ?rest6_1
    case hy6_1 => (intro w' hSw; (try dsimp only at hSw); go_simp; try with_reducible rfl)
    try simp only [List.getElem_toArray, List.getElem_cons_zero, List.getElem_cons_succ, Act.put, List.setIfInBounds_toArray, List.set_cons_zero, List.set_cons_succ]
    refine wpAnyH_take (i := 7) (v := .int .u8 (m : Int)) rfl (by kernel_rfl) (by kernel_rfl) (by kernel_rfl) (fun _ _ _ h => h) (Or.inl ⟨by rfl, fun w' hSw => exec_load1 w' rfl rfl hSw.2.c2 Tryz.underlying5 rfl⟩) (by assumption) ?_
    try simp only [List.getElem_toArray, List.getElem_cons_zero, List.getElem_cons_succ, Act.put, List.setIfInBounds_toArray, List.set_cons_zero, List.set_cons_succ]
    refine wpAnyH_take (i := 9) (v := ?vv9_1) rfl (by kernel_rfl) (by kernel_rfl) (by kernel_rfl) (fun _ _ _ h => h) (Or.inl ⟨by rfl, ?hy9_1⟩) (by assumption) ?rest9_1
    case hy9_1 => (intro w' hSw; (try dsimp only at hSw); go_simp; try with_reducible rfl)
    try simp only [List.getElem_toArray, List.getElem_cons_zero, List.getElem_cons_succ, Act.put, List.setIfInBounds_toArray, List.set_cons_zero, List.set_cons_succ]
    refine wpAnyH_ready (rs := [2]) (by kernel_rfl) (by simp) ?_
    refine AllReadyH.cons rfl (fun K hK => ?_) AllReadyH.nil
    go_simp
    go_at_call 111
    refine (HNu.out _ hHeld.1.2).mono ?_
    rintro e w4 ⟨rfl, hb4⟩
    have hp9 : Gu w w4 ∧ RB w4 w.heap.size ⟨u, s, m, []⟩ := ⟨hHeld.1.step hb4, hHeld.2.step hb4⟩
    refine hK.out _ _ hp9 (fun hHeld => ?_)
    clear hK K
    try simp only [List.getElem_toArray, List.getElem_cons_zero, List.getElem_cons_succ, Act.put, List.setIfInBounds_toArray, List.set_cons_zero, List.set_cons_succ]
    refine wpAnyH_ready (rs := [5]) (by kernel_rfl) (by simp) ?_
    refine AllReadyH.cons rfl (fun K hK => ?_) AllReadyH.nil
    go_simp
    go_at_call 111
    refine (HNs.out _ hHeld.1.2).mono ?_
    rintro e w4 ⟨rfl, hb4⟩
    have hp9 : Gu w w4 ∧ RB w4 w.heap.size ⟨u, s, m, []⟩ := ⟨hHeld.1.step hb4, hHeld.2.step hb4⟩
    refine hK.out _ _ hp9 (fun hHeld => ?_)
    clear hK K
    try simp only [List.getElem_toArray, List.getElem_cons_zero, List.getElem_cons_succ, Act.put, List.setIfInBounds_toArray, List.set_cons_zero, List.set_cons_succ]
    refine wpAnyH_ready (rs := [8]) (by kernel_rfl) (by simp) ?_
    refine AllReadyH.cons rfl (fun K hK => ?_) AllReadyH.nil
    go_simp
    go_at_call 111
    refine (HNm.out _ hHeld.1.2).mono ?_
    rintro e w4 ⟨rfl, hb4⟩
    have hp9 : Gu w w4 ∧ RB w4 w.heap.size ⟨u, s, m, []⟩ := ⟨hHeld.1.step hb4, hHeld.2.step hb4⟩
    refine hK.out _ _ hp9 (fun hHeld => ?_)
    clear hK K
    try simp only [List.getElem_toArray, List.getElem_cons_zero, List.getElem_cons_succ, Act.put, List.setIfInBounds_toArray, List.set_cons_zero, List.set_cons_succ]
    have HA4 := Lib.hid hHeld
    refine wpAnyH_ready (rs := [10]) (by kernel_rfl) (by simp) ?_
    refine AllReadyH.cons rfl (fun K hK => ?_) AllReadyH.nil
    go_simp
    have HAL := Lib.hid (heap_alloc_new w4 (.cells #[sv t1, sv t2, sv t3, sv [45]] 9))
    have hp9 : Gu w (w4.alloc (.cells #[sv t1, sv t2, sv t3, sv [45]] 9)) ∧ RB (w4.alloc (.cells #[sv t1, sv t2, sv t3, sv [45]] 9)) w.heap.size ⟨u, s, m, []⟩ := ⟨HA4.out.1.step (below_alloc _ _), HA4.out.2.step (below_alloc _ _)⟩
    refine hK.out _ _ hp9 (fun hHeld => ?_)
    clear hK K
    try simp only [List.getElem_toArray, List.getElem_cons_zero, List.getElem_cons_succ, Act.put, List.setIfInBounds_toArray, List.set_cons_zero, List.set_cons_succ]
    refine wpAnyH_ready (rs := [11]) (by kernel_rfl) (by simp) ?_
    refine AllReadyH.cons rfl (fun K hK => ?_) AllReadyH.nil
    go_simp
    go_at_call 110
    refine (HJN.out _ _ HAL.out).mono ?_
    rintro e w5 ⟨rfl, hb5⟩
    have hp9 : Gu w w5 ∧ RB w5 w.heap.size ⟨u, s, m, []⟩ := ⟨hHeld.1.step hb5, hHeld.2.step hb5⟩
    have HP9 := Lib.hid hp9
    refine hK.out _ _ hp9 (fun hHeld => ?_)
    clear hK K
    try simp only [List.getElem_toArray, List.getElem_cons_zero, List.getElem_cons_succ, Act.put, List.setIfInBounds_toArray, List.set_cons_zero, List.set_cons_succ]
    refine wpAnyH_take (i := 12) (v := ?vv12_1) rfl (by kernel_rfl) (by kernel_rfl) (by kernel_rfl) (fun _ _ _ h => h) (Or.inl ⟨by rfl, ?hy12_1⟩) (by assumption) ?rest12_1
    case hy12_1 => (intro w' hSw; (try dsimp only at hSw); go_simp; try with_reducible rfl)
    try simp only [List.getElem_toArray, List.getElem_cons_zero, List.getElem_cons_succ, Act.put, List.setIfInBounds_toArray, List.set_cons_zero, List.set_cons_succ]
    refine wpAnyH_done (by kernel_rfl) ?_ _
    go_wp2_with fail
    go_ret
    exact ⟨rfl, HP9.out.1.1⟩
  · rw [if_neg h0] at htd
    have hx0 : x.isEmpty = false := by
      rw [List.isEmpty_eq_false_iff]
      exact fun e => h0 (hhe.1 e)
    subst htd
    clear hhe h0
    go_enter Tryz.func53, Tryz.ntmps53
    go_wp2_with (go_at_call 109; refine (HX.out _).mono ?_; rintro e w3 ⟨rfl, hb3⟩; have HS0 := Lib.hid (show Gu w w3.drew ∧ RB w3.drew w.heap.size ⟨u, s, m, d⟩ from ⟨(HG.out.1.step hb3).step (Below.refl _ _).drew, (HG.out.2.step hb3).step (Below.refl _ _).drew⟩); clear hb3)
    refine wp_region_held_drew (S := fun W => Gu w W ∧ RB W w.heap.size ⟨u, s, m, d⟩) (by kernel_rfl) HS0.out (fun hHeld => ?_)
    refine wpAnyH_take (i := 0) (v := ?vv0_2) rfl (by kernel_rfl) (by kernel_rfl) (by kernel_rfl) (fun _ _ _ h => h) (Or.inl ⟨by rfl, ?hy0_2⟩) (by assumption) ?rest0_2
    case hy0_2 => (intro w' hSw; (try dsimp only at hSw); go_simp; try with_reducible rfl)
    try simp only [List.getElem_toArray, List.getElem_cons_zero, List.getElem_cons_succ, Act.put, List.setIfInBounds_toArray, List.set_cons_zero, List.set_cons_succ]
    refine wpAnyH_take (i := 1) (v := .int .u8 (u : Int)) rfl (by kernel_rfl) (by kernel_rfl) (by kernel_rfl) (fun _ _ _ h => h) (Or.inl ⟨by rfl, fun w' hSw => exec_load1 w' rfl rfl hSw.2.c0 Tryz.underlying5 rfl⟩) (by assumption) ?_
    try simp only [List.getElem_toArray, List.getElem_cons_zero, List.getElem_cons_succ, Act.put, List.setIfInBounds_toArray, List.set_cons_zero, List.set_cons_succ]
    refine wpAnyH_take (i := 3) (v := ?vv3_2) rfl (by kernel_rfl) (by kernel_rfl) (by kernel_rfl) (fun _ _ _ h => h) (Or.inl ⟨by rfl, ?hy3_2⟩) (by assumption) ?rest3_2
    case hy3_2 => (intro w' hSw; (try dsimp only at hSw); go_simp; try with_reducible rfl)
    try simp only [List.getElem_toArray, List.getElem_cons_zero, List.getElem_cons_succ, Act.put, List.setIfInBounds_toArray, List.set_cons_zero, List.set_cons_succ]
    refine wpAnyH_take (i := 4) (v := .int .u8 (s : Int)) rfl (by kernel_rfl) (by kernel_rfl) (by kernel_rfl) (fun _ _ _ h => h) (Or.inl ⟨by rfl, fun w' hSw => exec_load1 w' rfl rfl hSw.2.c1 Tryz.underlying5 rfl⟩) (by assumption) ?_
    try simp only [List.getElem_toArray, List.getElem_cons_zero, List.getElem_cons_succ, Act.put, List.setIfInBounds_toArray, List.set_cons_zero, List.set_cons_succ]
    refine wpAnyH_take (i := 6) (v := ?vv6_2) rfl (by kernel_rfl) (by kernel_rfl) (by kernel_rfl) (fun _ _ _ h => h) (Or.inl ⟨by rfl, ?hy6_2⟩) (by assumption) ?rest6_2
    case hy6_2 => (intro w' hSw; (try dsimp only at hSw); go_simp; try with_reducible rfl)
    try simp only [List.getElem_toArray, List.getElem_cons_zero, List.getElem_cons_succ, Act.put, List.setIfInBounds_toArray, List.set_cons_zero, List.set_cons_succ]
    refine wpAnyH_take (i := 7) (v := .int .u8 (m : Int)) rfl (by kernel_rfl) (by kernel_rfl) (by kernel_rfl) (fun _ _ _ h => h) (Or.inl ⟨by rfl, fun w' hSw => exec_load1 w' rfl rfl hSw.2.c2 Tryz.underlying5 rfl⟩) (by assumption) ?_
    try simp only [List.getElem_toArray, List.getElem_cons_zero, List.getElem_cons_succ, Act.put, List.setIfInBounds_toArray, List.set_cons_zero, List.set_cons_succ]
    refine wpAnyH_take (i := 9) (v := ?vv9_2) rfl (by kernel_rfl) (by kernel_rfl) (by kernel_rfl) (fun _ _ _ h => h) (Or.inl ⟨by rfl, ?hy9_2⟩) (by assumption) ?rest9_2
    case hy9_2 => (intro w' hSw; (try dsimp only at hSw); go_simp; try with_reducible rfl)
    try simp only [List.getElem_toArray, List.getElem_cons_zero, List.getElem_cons_succ, Act.put, List.setIfInBounds_toArray, List.set_cons_zero, List.set_cons_succ]
    refine wpAnyH_ready (rs := [2]) (by kernel_rfl) (by simp) ?_
    refine AllReadyH.cons rfl (fun K hK => ?_) AllReadyH.nil
    go_simp
    go_at_call 111
    refine (HNu.out _ hHeld.1.2).mono ?_
    rintro e w4 ⟨rfl, hb4⟩
    have hp9 : Gu w w4 ∧ RB w4 w.heap.size ⟨u, s, m, d⟩ := ⟨hHeld.1.step hb4, hHeld.2.step hb4⟩
    refine hK.out _ _ hp9 (fun hHeld => ?_)
    clear hK K
    try simp only [List.getElem_toArray, List.getElem_cons_zero, List.getElem_cons_succ, Act.put, List.setIfInBounds_toArray, List.set_cons_zero, List.set_cons_succ]
    refine wpAnyH_ready (rs := [5]) (by kernel_rfl) (by simp) ?_
    refine AllReadyH.cons rfl (fun K hK => ?_) AllReadyH.nil
    go_simp
    go_at_call 111
    refine (HNs.out _ hHeld.1.2).mono ?_
    rintro e w4 ⟨rfl, hb4⟩
    have hp9 : Gu w w4 ∧ RB w4 w.heap.size ⟨u, s, m, d⟩ := ⟨hHeld.1.step hb4, hHeld.2.step hb4⟩
    refine hK.out _ _ hp9 (fun hHeld => ?_)
    clear hK K
    try simp only [List.getElem_toArray, List.getElem_cons_zero, List.getElem_cons_succ, Act.put, List.setIfInBounds_toArray, List.set_cons_zero, List.set_cons_succ]
    refine wpAnyH_ready (rs := [8]) (by kernel_rfl) (by simp) ?_
    refine AllReadyH.cons rfl (fun K hK => ?_) AllReadyH.nil
    go_simp
    go_at_call 111
    refine (HNm.out _ hHeld.1.2).mono ?_
    rintro e w4 ⟨rfl, hb4⟩
    have hp9 : Gu w w4 ∧ RB w4 w.heap.size ⟨u, s, m, d⟩ := ⟨hHeld.1.step hb4, hHeld.2.step hb4⟩
    refine hK.out _ _ hp9 (fun hHeld => ?_)
    clear hK K
    try simp only [List.getElem_toArray, List.getElem_cons_zero, List.getElem_cons_succ, Act.put, List.setIfInBounds_toArray, List.set_cons_zero, List.set_cons_succ]
    have HA4 := Lib.hid hHeld
    refine wpAnyH_ready (rs := [10]) (by kernel_rfl) (by simp) ?_
    refine AllReadyH.cons rfl (fun K hK => ?_) AllReadyH.nil
    go_simp
    have HAL := Lib.hid (heap_alloc_new w4 (.cells #[sv t1, sv t2, sv t3, sv t4] 9))
    have hp9 : Gu w (w4.alloc (.cells #[sv t1, sv t2, sv t3, sv t4] 9)) ∧ RB (w4.alloc (.cells #[sv t1, sv t2, sv t3, sv t4] 9)) w.heap.size ⟨u, s, m, d⟩ := ⟨HA4.out.1.step (below_alloc _ _), HA4.out.2.step (below_alloc _ _)⟩
    refine hK.out _ _ hp9 (fun hHeld => ?_)
    clear hK K
    try simp only [List.getElem_toArray, List.getElem_cons_zero, List.getElem_cons_succ, Act.put, List.setIfInBounds_toArray, List.set_cons_zero, List.set_cons_succ]
    refine wpAnyH_ready (rs := [11]) (by kernel_rfl) (by simp) ?_
    refine AllReadyH.cons rfl (fun K hK => ?_) AllReadyH.nil
    go_simp
    go_at_call 110
    refine (HJN.out _ _ HAL.out).mono ?_
    rintro e w5 ⟨rfl, hb5⟩
    have hp9 : Gu w w5 ∧ RB w5 w.heap.size ⟨u, s, m, d⟩ := ⟨hHeld.1.step hb5, hHeld.2.step hb5⟩
    have HP9 := Lib.hid hp9
    refine hK.out _ _ hp9 (fun hHeld => ?_)
    clear hK K
    try simp only [List.getElem_toArray, List.getElem_cons_zero, List.getElem_cons_succ, Act.put, List.setIfInBounds_toArray, List.set_cons_zero, List.set_cons_succ]
    refine wpAnyH_take (i := 12) (v := ?vv12_2) rfl (by kernel_rfl) (by kernel_rfl) (by kernel_rfl) (fun _ _ _ h => h) (Or.inl ⟨by rfl, ?hy12_2⟩) (by assumption) ?rest12_2
    case hy12_2 => (intro w' hSw; (try dsimp only at hSw); go_simp; try with_reducible rfl)
    try simp only [List.getElem_toArray, List.getElem_cons_zero, List.getElem_cons_succ, Act.put, List.setIfInBounds_toArray, List.set_cons_zero, List.set_cons_succ]
    refine wpAnyH_done (by kernel_rfl) ?_ _
    go_wp2_with fail
    go_ret
    exact ⟨rfl, HP9.out.1.1⟩
end Go.Proofs.YtnaoandleelbkaaGreatDoor
