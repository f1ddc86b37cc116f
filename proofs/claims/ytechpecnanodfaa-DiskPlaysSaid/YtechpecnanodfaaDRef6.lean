/-
  The reference's New.
-/
import Derived.Test.YtechpecnanodfaaDRef5
namespace Go.Proofs.Ytechpecnanodfaa
open Go Go.RowKit Go.Maps
set_option maxRecDepth 100000
set_option linter.unusedSimpArgs false
set_option linter.unusedVariables false

theorem make_zeros (W : World) : (Instr.makeSlice 68 (.int .i64 128) (.int .i64 128)).run Try.prog W = .ok (.slice (some ⟨W.heap.size, 0, none⟩) 128 128) (W.alloc (.cells (List.replicate 128 (Value.int .u8 0)).toArray 5)) := by
  obtain ⟨i, hi, hz0, hz1, hz2⟩ := info_parts (show (Try.prog.info? 5).map (fun i => (i.zero, i.size, i.bytes)) = some (some (.int .u8 0), 1, 1) by kernel_rfl)
  have := run_make W _ 5 i _ Try.underlying68 hi hz0 .i64 .i64 128 128 (by omega) (by omega) (by rw [hz2]; omega) (by omega)
  have e : madeCells (Value.int .u8 0).cells (Int.toNat 128 * i.size) = (List.replicate 128 (Value.int .u8 0)).toArray := by
    apply Array.ext
    · simp [madeCells, hz1]
    · intro j h1 h2
      have hc : (Value.int IntKind.u8 0).cells = #[Value.int IntKind.u8 0] := rfl
      have hm : ∀ x : Nat, x % 1 = 0 := fun x => by omega
      simp only [List.getElem_toArray, List.getElem_replicate]
      simp [madeCells, hc, hm]
  exact this.trans (by show Result.ok _ (W.alloc (.cells (madeCells (Value.int .u8 0).cells (Int.toNat 128 * i.size)) _)) = _; rw [e]; rfl)
theorem conv_zeros {w : World} {g n : Nat} (hg : w.heap[g]? = some (.cells (List.replicate n (Value.int .u8 0)).toArray 5 (0, 0))) : (convert 68 9 (.slice (some ⟨g, 0, none⟩) n n)).run Try.prog w = .ok (sv (List.replicate n 0)) w := by
  have := run_convert_bytes_back (P := Try.prog) w 68 9 5 ⟨g, 0, none⟩ n (List.replicate n 0) Try.underlying68 Try.underlying5 Try.underlying9 (fun j hj => by
    rw [show (⟨g, 0, none⟩ : Addr).add j = ⟨g, j, none⟩ from by unfold Addr.add; split <;> simp_all, cellAt hg]
    have hj' : j < n := by simpa using hj
    simp [hj'])
  rwa [List.length_replicate] at this
theorem conv_zero {w : World} {g : Nat} (hg : w.heap[g]? = some (.cells (List.replicate 128 (Value.int .u8 0)).toArray 5 (0, 0))) : (convert 68 9 (.slice (some ⟨g, 0, none⟩) 128 128)).run Try.prog w = .ok (sv zrL) w := conv_zeros hg

theorem wp_builtin2_run {P : Program} {o : Oper} {a : Act} {w : World} {K : Act → World → Prop} {Q : Exit → Act → World → Prop} (b : Builtin) (f : Array TypeId → TypeId → Array Value → Sem Value) (d s : Operand) (t t' : TypeId)
    (ho : o.op = .call { callee := .builtin b, args := #[d, s], argTypes := #[t, t'] }) (hb : ∀ ty args cs, builtin b #[t, t'] ty cs args = (do pure (.value (← f #[t, t'] ty args)))) (v u : Value) (hd : a.eval d = v) (hs : a.eval s = u) {v' : Value} {w' : World}
    (hr : (f #[t, t'] o.type #[v, u]).run P w = .ok v' w') (h : K (a.put o.dst v') w') : o.wp P a w K Q := by
  unfold Oper.wp execOp
  simp only [ho, resolve, invoke, hb, Sem.run_bind, Sem.run_pure, Result.andThen_ok, List.map_toArray, List.map_cons, List.map_nil, hd, hs, hr]
  exact h
theorem app_str {W : World} {B n : Nat} {v : Value} {xs : List (List UInt8)} (hown : W.ownsRow B 9 1 v n (txs xs)) (s : List UInt8) (hB : B ≤ W.heap.size) (hn : n ≤ 1100) :
    ∃ g cap w', (Builtin.append_ #[51, 51] 51 #[v, .slice (some ⟨W.heap.size, 0, none⟩) 1 1]).run Try.prog (W.alloc (.cells #[sv s] 9)) = .ok (.slice (some ⟨g, 0, none⟩) (n + 1) cap) w' ∧
      w'.ownsRow B 9 1 (.slice (some ⟨g, 0, none⟩) (n + 1) cap) (n + 1) (txs (xs ++ [s])) ∧ ∃ T, Kp T W w' ∧ ∀ b ∈ T, B ≤ b := by
  obtain ⟨i, hi, hz0, hz1, hz2⟩ := info_parts info9r
  obtain ⟨g, cap, w', hr, h2, h3, h4, h5⟩ := run_append_lies (P := Try.prog) (W.alloc (.cells #[sv s] 9)) 51 51 B 9 i _ 1 16 Try.underlying51 hi hz0 hz1 hz2 rfl (by decide) _ n (txs xs) (hown.alloc _) ⟨W.heap.size, 0, none⟩ 1 1 [sv s] (by rfl) (World.news_of_block (cs := #[sv s]) (heap_alloc_new W _)) (by simp [Value.oneCell']) (by decide) (by unfold maxLen; omega) (by omega) (by simp; omega) _ rfl
  refine ⟨g, cap, w', hr, by simpa [txs] using h2, (match v.ownBlock with | some b => [b] | none => []), ?_, ?_⟩
  · refine ((Kp.refl _ W).alloc _).grown h3 (fun k e hk => ?_)
    rw [e]; simp
  · intro b hb
    rcases hown.2 with ⟨e, _⟩ | ⟨g', cap', cur, e, hgb, _⟩
    · rw [e] at hb; simp [Value.ownBlock] at hb
    · rw [e] at hb; simp [Value.ownBlock] at hb; omega

set_option maxHeartbeats 4000000 in
theorem new_rd {w : World} {n : Nat} (h1 : 1 ≤ n) (h2 : n ≤ 1024) :
    Calls Try.prog 24 #[.int .i64 (n : Int)] w fun e w' => ∃ q g1 g2 g3, e = .returned (.tuple #[dp q, .int .i64 0]) ∧ RD w' q g1 g2 g3 (DS.new n) ∧ Below w.heap.size w w' ∧ ∀ b ∈ [q, g1, g2, g3], w.heap.size ≤ b := by
  have hn1 : ¬ (n : Int) < 1 := by omega
  have hn2 : ¬ (1024 : Int) < (n : Int) := by omega
  have HMK := Lib.hid (make_bools n h2)
  have HMY := Lib.hid make_zeros
  go_enter Try.func24, Try.ntmps24
  go_wp2_with fail
  rw [HMK.out]
  simp only [Result.andThen]
  rw [Oper.upon_value]
  have hx := XR.new w 4 (bls (List.replicate n false)) (by rw [bls_length, List.length_replicate]; omega)
  have hlen : (bls (List.replicate n false)).length = n := by rw [bls_length, List.length_replicate]
  rw [hlen] at hx
  have hb0 : Below w.heap.size w (w.alloc (.cells (bls (List.replicate n false)).toArray 4)) := (Below.refl _ _).alloc (Nat.le_refl _) _
  generalize w.alloc (.cells (bls (List.replicate n false)).toArray 4) = w1 at hx hb0 ⊢
  obtain ⟨G3, hG3⟩ : ∃ g, g = w.heap.size := ⟨_, rfl⟩
  rw [← hG3] at hx ⊢
  have HX := Lib.hid hx
  have HB0 := Lib.hid hb0
  have HG3 := Lib.hid (show w.heap.size ≤ G3 by omega)
  clear hx hb0 hlen HMK hG3
  go_wp2_with fail
  have hq := heap_alloc_new w1 (.cells #[.slice none 0 0, .slice none 0 0, .slice (some ⟨G3, 0, none⟩) n n, .int .i64 0, .int .i64 0, .bool false, .bool false] 78)
  have hb1 := HB0.out.alloc HB0.out.size (.cells #[.slice none 0 0, .slice none 0 0, .slice (some ⟨G3, 0, none⟩) n n, .int .i64 0, .int .i64 0, .bool false, .bool false] 78)
  have hx1 := HX.out.of_block (w' := w1.alloc (.cells #[.slice none 0 0, .slice none 0 0, .slice (some ⟨G3, 0, none⟩) n n, .int .i64 0, .int .i64 0, .bool false, .bool false] 78)) (Lib.alloc_old w1 _ G3 HX.out.lt)
  generalize w1.alloc (.cells #[.slice none 0 0, .slice none 0 0, .slice (some ⟨G3, 0, none⟩) n n, .int .i64 0, .int .i64 0, .bool false, .bool false] 78) = w2 at hq hb1 hx1 ⊢
  obtain ⟨q, hqe⟩ : ∃ g, g = w1.heap.size := ⟨_, rfl⟩
  rw [← hqe] at hq ⊢
  have HQ0 := Lib.hid hq
  have HB1 := Lib.hid hb1
  have HX1 := Lib.hid hx1
  have HQL := Lib.hid (show G3 < q by have := HX.out.lt; omega)
  clear hq hb1 hx1 hqe
  go_loopw [5] (fun kx W => ∃ (k : Nat) (ov : Value), kx = .int .i64 (k : Int) ∧ k ≤ n ∧ W.heap[q]? = some (.cells #[ov, .slice none 0 0, .slice (some ⟨G3, 0, none⟩) n n, .int .i64 0, .int .i64 0, .bool false, .bool false] 78 (0, 0)) ∧ W.ownsRow w2.heap.size 9 1 ov k (txs (List.replicate k zrL)) ∧ XR W 4 G3 n (bls (List.replicate n false)) ∧ Below w.heap.size w W ∧ w2.heap.size ≤ W.heap.size) (fun kx _ => n - (RowKit.intOf kx).toNat)
  case atStart => exact ⟨0, _, rfl, by omega, HQ0.out, World.ownsRow_nil _ _ _ _, HX1.out, HB1.out, Nat.le_refl _⟩
  case round =>
    obtain ⟨k, ov, rfl, hkn, hq, hown, hx, hB, hsz⟩ := hrel
    have HQ := Lib.hid hq
    have HOW := Lib.hid hown
    have HX := Lib.hid hx
    have HB := Lib.hid hB
    have HSZ := Lib.hid hsz
    by_cases hk : k < n
    · have hki : (k : Int) < (n : Int) := by omega
      have hkw : IntKind.i64.wrap ((k : Int) + 1) = (k : Int) + 1 := IntWalk.i64_in _ (by omega)
      have k0 : wr.cell? ⟨q, 0, none⟩ = some ov := cellAt hq 0
      clear hq hown hx hB
      go_wp2_with fail
      refine wp_region_held_drew (S := fun W => True) (by kernel_rfl) trivial (fun hHeld => ?_)
      refine wpAnyH_take (i := 0) (v := ?vv0_1) rfl (by kernel_rfl) (by kernel_rfl) (by kernel_rfl) (fun _ _ _ h => h) (Or.inl ⟨by rfl, ?hy0_1⟩) (by assumption) ?rest0_1
      case hy0_1 => (intro w' hSw; (try dsimp only at hSw); go_simp; try with_reducible rfl)
      try simp only [List.getElem_toArray, List.getElem_cons_zero, List.getElem_cons_succ, Act.put, List.setIfInBounds_toArray, List.set_cons_zero, List.set_cons_succ]
      refine wpAnyH_take (i := 1) (v := ?vv1_1) rfl (by kernel_rfl) (by kernel_rfl) (by kernel_rfl) (fun _ _ _ h => h) (Or.inl ⟨by rfl, ?hy1_1⟩) (by assumption) ?rest1_1
      case hy1_1 => (intro w' hSw; (try dsimp only at hSw); go_simp; try with_reducible rfl)
      try simp only [List.getElem_toArray, List.getElem_cons_zero, List.getElem_cons_succ, Act.put, List.setIfInBounds_toArray, List.set_cons_zero, List.set_cons_succ]
      refine wpAnyH_take (i := 2) (v := ?vv2_1) rfl (by kernel_rfl) (by kernel_rfl) (by kernel_rfl) (fun _ _ _ h => h) (Or.inl ⟨by rfl, ?hy2_1⟩) (by assumption) ?rest2_1
      case hy2_1 => (intro w' hSw; (try dsimp only at hSw); go_simp; try with_reducible rfl)
      try simp only [List.getElem_toArray, List.getElem_cons_zero, List.getElem_cons_succ, Act.put, List.setIfInBounds_toArray, List.set_cons_zero, List.set_cons_succ]
      refine wpAnyH_take (i := 3) (v := ?vv3_1) rfl (by kernel_rfl) (by kernel_rfl) (by kernel_rfl) (fun _ _ _ h => h) (Or.inl ⟨by rfl, ?hy3_1⟩) (by assumption) ?rest3_1
      case hy3_1 => (intro w' hSw; (try dsimp only at hSw); go_simp; try with_reducible rfl)
      try simp only [List.getElem_toArray, List.getElem_cons_zero, List.getElem_cons_succ, Act.put, List.setIfInBounds_toArray, List.set_cons_zero, List.set_cons_succ]
      refine wpAnyH_ready (rs := [4, 5]) (by kernel_rfl) (by simp) ?_
      refine AllReadyH.cons rfl (fun K hK => ?_) (AllReadyH.cons rfl (fun K hK => ?_) AllReadyH.nil)
      · have k0c : wr.drew.cell? ⟨q, 0, none⟩ = some ov := cellAt (HQ.out) 0
        go_simp
        clear k0c
        refine hK.out _ _ trivial (fun hHeld => ?_)
        clear hK K
        try simp only [List.getElem_toArray, List.getElem_cons_zero, List.getElem_cons_succ, Act.put, List.setIfInBounds_toArray, List.set_cons_zero, List.set_cons_succ]
        refine wpAnyH_ready (rs := [5]) (by kernel_rfl) (by simp) ?_
        refine AllReadyH.cons rfl (fun K hK => ?_) AllReadyH.nil
        go_simp
        rw [HMY.out]
        simp only [Result.andThen]
        rw [Oper.upon_value]
        refine hK.out _ _ trivial (fun hHeld => ?_)
        clear hK K
        try simp only [List.getElem_toArray, List.getElem_cons_zero, List.getElem_cons_succ, Act.put, List.setIfInBounds_toArray, List.set_cons_zero, List.set_cons_succ]
        have hgb := heap_alloc_new wr.drew (.cells (List.replicate 128 (Value.int .u8 0)).toArray 5)
        have hB1 := HB.out.drew.alloc HB.out.size (.cells (List.replicate 128 (Value.int .u8 0)).toArray 5)
        have HO1 := Lib.hid ((HOW.out.drew).alloc (.cells (List.replicate 128 (Value.int .u8 0)).toArray 5))
        have HX1 := Lib.hid (HX.out.of_block (w' := wr.drew.alloc (.cells (List.replicate 128 (Value.int .u8 0)).toArray 5)) (Lib.alloc_old wr _ G3 HX.out.lt))
        have HSZ2 := Lib.hid (show w2.heap.size ≤ (wr.drew.alloc (.cells (List.replicate 128 (Value.int .u8 0)).toArray 5)).heap.size from Nat.le_trans HSZ.out (((Kp.refl [] wr).drew.alloc (.cells (List.replicate 128 (Value.int .u8 0)).toArray 5)).size))
        have hzq := (Lib.alloc_old wr.drew (.cells (List.replicate 128 (Value.int .u8 0)).toArray 5) q (lt_of_blk HQ.out)).trans HQ.out
        generalize wr.drew.alloc (.cells (List.replicate 128 (Value.int .u8 0)).toArray 5) = wz at hgb hB1 HO1 HX1 HSZ2 hzq ⊢
        generalize wr.drew.heap.size = gz at hgb ⊢
        refine wpAnyH_ready (rs := [6]) (by kernel_rfl) (by simp) ?_
        refine AllReadyH.cons rfl (fun K hK => ?_) AllReadyH.nil
        have hcv := conv_zero hgb
        go_simp
        clear hcv
        refine hK.out _ _ trivial (fun hHeld => ?_)
        clear hK K
        try simp only [List.getElem_toArray, List.getElem_cons_zero, List.getElem_cons_succ, Act.put, List.setIfInBounds_toArray, List.set_cons_zero, List.set_cons_succ]
        refine wpAnyH_ready (rs := [7]) (by kernel_rfl) (by simp) ?_
        refine AllReadyH.cons rfl (fun K hK => ?_) AllReadyH.nil
        go_simp
        refine hK.out _ _ trivial (fun hHeld => ?_)
        clear hK K
        try simp only [List.getElem_toArray, List.getElem_cons_zero, List.getElem_cons_succ, Act.put, List.setIfInBounds_toArray, List.set_cons_zero, List.set_cons_succ]
        refine wpAnyH_ready (rs := [8]) (by kernel_rfl) (by simp) ?_
        refine AllReadyH.cons rfl (fun K hK => ?_) AllReadyH.nil
        obtain ⟨g, cap, w7, hr7, hown7, T7, hk7, hT7⟩ := app_str HO1.out zrL HSZ2.out (by omega)
        rw [if_pos (by rfl)]
        refine wp_builtin2_run .append Builtin.append_ _ _ _ _ rfl (fun _ _ _ => rfl) _ _ rfl rfl hr7 ?_
        refine hK.out _ _ trivial (fun hHeld => ?_)
        clear hK K
        try simp only [List.getElem_toArray, List.getElem_cons_zero, List.getElem_cons_succ, Act.put, List.setIfInBounds_toArray, List.set_cons_zero, List.set_cons_succ]
        have hlq := lt_of_blk HQ0.out
        have hnq : q ∉ T7 := fun e => by have := hT7 _ e; omega
        have hng : G3 ∉ T7 := fun e => by have := hT7 _ e; have := HQL.out; omega
        have hq7 := (hk7.block q (lt_of_blk hzq) hnq).trans hzq
        refine wpAnyH_take (i := 9) (v := ?vv9_2) rfl (by kernel_rfl) (by kernel_rfl) (by kernel_rfl) (fun _ _ _ h => h) (Or.inl ⟨by rfl, ?hy9_2⟩) (by assumption) ?rest9_2
        case hy9_2 => (intro w' hSw; (try dsimp only at hSw); go_simp; try with_reducible rfl)
        try simp only [List.getElem_toArray, List.getElem_cons_zero, List.getElem_cons_succ, Act.put, List.setIfInBounds_toArray, List.set_cons_zero, List.set_cons_succ]
        refine wpAnyH_take (i := 10) (v := ?vv10_2) rfl (by kernel_rfl) (by kernel_rfl) (by kernel_rfl) (fun _ _ _ h => h) (Or.inl ⟨by rfl, ?hy10_2⟩) (by assumption) ?rest10_2
        case hy10_2 => (intro w' hSw; (try dsimp only at hSw); go_simp; try with_reducible rfl)
        try simp only [List.getElem_toArray, List.getElem_cons_zero, List.getElem_cons_succ, Act.put, List.setIfInBounds_toArray, List.set_cons_zero, List.set_cons_succ]
        refine wpAnyH_ready (rs := [11]) (by kernel_rfl) (by simp) ?_
        refine AllReadyH.cons rfl (fun K hK => ?_) AllReadyH.nil
        have k0s : w7.cell? ⟨q, 0, none⟩ = some ov := cellAt hq7 0
        have f0s := freeAt hq7 0
        go_simp
        clear k0s f0s
        refine hK.out _ _ trivial (fun hHeld => ?_)
        clear hK K
        try simp only [List.getElem_toArray, List.getElem_cons_zero, List.getElem_cons_succ, Act.put, List.setIfInBounds_toArray, List.set_cons_zero, List.set_cons_succ]
        refine wpAnyH_done (by kernel_rfl) ?_ _
        clear hr7
        go_wp2_with fail
        go_roundw
        case rel => exact ⟨k + 1, .slice (some ⟨g, 0, none⟩) (k + 1) cap, by go_num, by omega, (blk_set hq7 0 _).trans (by simp), by rw [List.replicate_succ']; exact ownsRow_kp hown7 ((Kp.refl [q] w7).setCell (by simp) _) (fun x hx => by have h := (XR.of_owns hown7).2.2; simp [Value.ownBlock] at hx; simp; omega), (HX1.out.of_block (hk7.block G3 HX1.out.lt hng)).of_block (((Kp.refl [q] w7).setCell (by simp) _).block G3 (by have := HX1.out.lt; have := hk7.size; omega) (by simp; have := HQL.out; omega)), (hB1.trans (hk7.to_below (fun b hb => by have := hT7 b hb; have := HB1.out.size; omega) hB1.size)).setCell (by have := HG3.out; have := HQL.out; show w.heap.size ≤ q; omega) _, Nat.le_trans HSZ2.out (Nat.le_trans hk7.size ((Kp.refl [q] w7).setCell (by simp) _).size)⟩
        case measure => simp [RowKit.intOf]; omega
      · go_simp
        rw [HMY.out]
        simp only [Result.andThen]
        rw [Oper.upon_value]
        refine hK.out _ _ trivial (fun hHeld => ?_)
        clear hK K
        try simp only [List.getElem_toArray, List.getElem_cons_zero, List.getElem_cons_succ, Act.put, List.setIfInBounds_toArray, List.set_cons_zero, List.set_cons_succ]
        have hgb := heap_alloc_new wr.drew (.cells (List.replicate 128 (Value.int .u8 0)).toArray 5)
        have hB1 := HB.out.drew.alloc HB.out.size (.cells (List.replicate 128 (Value.int .u8 0)).toArray 5)
        have HO1 := Lib.hid ((HOW.out.drew).alloc (.cells (List.replicate 128 (Value.int .u8 0)).toArray 5))
        have HX1 := Lib.hid (HX.out.of_block (w' := wr.drew.alloc (.cells (List.replicate 128 (Value.int .u8 0)).toArray 5)) (Lib.alloc_old wr _ G3 HX.out.lt))
        have HSZ2 := Lib.hid (show w2.heap.size ≤ (wr.drew.alloc (.cells (List.replicate 128 (Value.int .u8 0)).toArray 5)).heap.size from Nat.le_trans HSZ.out (((Kp.refl [] wr).drew.alloc (.cells (List.replicate 128 (Value.int .u8 0)).toArray 5)).size))
        have hzq := (Lib.alloc_old wr.drew (.cells (List.replicate 128 (Value.int .u8 0)).toArray 5) q (lt_of_blk HQ.out)).trans HQ.out
        generalize wr.drew.alloc (.cells (List.replicate 128 (Value.int .u8 0)).toArray 5) = wz at hgb hB1 HO1 HX1 HSZ2 hzq ⊢
        generalize wr.drew.heap.size = gz at hgb ⊢
        refine wpAnyH_ready (rs := [4, 6]) (by kernel_rfl) (by simp) ?_
        refine AllReadyH.cons rfl (fun K hK => ?_) (AllReadyH.cons rfl (fun K hK => ?_) AllReadyH.nil)
        · have k0c : wz.cell? ⟨q, 0, none⟩ = some ov := cellAt hzq 0
          go_simp
          clear k0c
          refine hK.out _ _ trivial (fun hHeld => ?_)
          clear hK K
          try simp only [List.getElem_toArray, List.getElem_cons_zero, List.getElem_cons_succ, Act.put, List.setIfInBounds_toArray, List.set_cons_zero, List.set_cons_succ]
          refine wpAnyH_ready (rs := [6]) (by kernel_rfl) (by simp) ?_
          refine AllReadyH.cons rfl (fun K hK => ?_) AllReadyH.nil
          have hcv := conv_zero hgb
          go_simp
          clear hcv
          refine hK.out _ _ trivial (fun hHeld => ?_)
          clear hK K
          try simp only [List.getElem_toArray, List.getElem_cons_zero, List.getElem_cons_succ, Act.put, List.setIfInBounds_toArray, List.set_cons_zero, List.set_cons_succ]
          refine wpAnyH_ready (rs := [7]) (by kernel_rfl) (by simp) ?_
          refine AllReadyH.cons rfl (fun K hK => ?_) AllReadyH.nil
          go_simp
          refine hK.out _ _ trivial (fun hHeld => ?_)
          clear hK K
          try simp only [List.getElem_toArray, List.getElem_cons_zero, List.getElem_cons_succ, Act.put, List.setIfInBounds_toArray, List.set_cons_zero, List.set_cons_succ]
          refine wpAnyH_ready (rs := [8]) (by kernel_rfl) (by simp) ?_
          refine AllReadyH.cons rfl (fun K hK => ?_) AllReadyH.nil
          obtain ⟨g, cap, w7, hr7, hown7, T7, hk7, hT7⟩ := app_str HO1.out zrL HSZ2.out (by omega)
          rw [if_pos (by rfl)]
          refine wp_builtin2_run .append Builtin.append_ _ _ _ _ rfl (fun _ _ _ => rfl) _ _ rfl rfl hr7 ?_
          refine hK.out _ _ trivial (fun hHeld => ?_)
          clear hK K
          try simp only [List.getElem_toArray, List.getElem_cons_zero, List.getElem_cons_succ, Act.put, List.setIfInBounds_toArray, List.set_cons_zero, List.set_cons_succ]
          have hlq := lt_of_blk HQ0.out
          have hnq : q ∉ T7 := fun e => by have := hT7 _ e; omega
          have hng : G3 ∉ T7 := fun e => by have := hT7 _ e; have := HQL.out; omega
          have hq7 := (hk7.block q (lt_of_blk hzq) hnq).trans hzq
          refine wpAnyH_take (i := 9) (v := ?vv9_3) rfl (by kernel_rfl) (by kernel_rfl) (by kernel_rfl) (fun _ _ _ h => h) (Or.inl ⟨by rfl, ?hy9_3⟩) (by assumption) ?rest9_3
          case hy9_3 => (intro w' hSw; (try dsimp only at hSw); go_simp; try with_reducible rfl)
          try simp only [List.getElem_toArray, List.getElem_cons_zero, List.getElem_cons_succ, Act.put, List.setIfInBounds_toArray, List.set_cons_zero, List.set_cons_succ]
          refine wpAnyH_take (i := 10) (v := ?vv10_3) rfl (by kernel_rfl) (by kernel_rfl) (by kernel_rfl) (fun _ _ _ h => h) (Or.inl ⟨by rfl, ?hy10_3⟩) (by assumption) ?rest10_3
          case hy10_3 => (intro w' hSw; (try dsimp only at hSw); go_simp; try with_reducible rfl)
          try simp only [List.getElem_toArray, List.getElem_cons_zero, List.getElem_cons_succ, Act.put, List.setIfInBounds_toArray, List.set_cons_zero, List.set_cons_succ]
          refine wpAnyH_ready (rs := [11]) (by kernel_rfl) (by simp) ?_
          refine AllReadyH.cons rfl (fun K hK => ?_) AllReadyH.nil
          have k0s : w7.cell? ⟨q, 0, none⟩ = some ov := cellAt hq7 0
          have f0s := freeAt hq7 0
          go_simp
          clear k0s f0s
          refine hK.out _ _ trivial (fun hHeld => ?_)
          clear hK K
          try simp only [List.getElem_toArray, List.getElem_cons_zero, List.getElem_cons_succ, Act.put, List.setIfInBounds_toArray, List.set_cons_zero, List.set_cons_succ]
          refine wpAnyH_done (by kernel_rfl) ?_ _
          clear hr7
          go_wp2_with fail
          go_roundw
          case rel => exact ⟨k + 1, .slice (some ⟨g, 0, none⟩) (k + 1) cap, by go_num, by omega, (blk_set hq7 0 _).trans (by simp), by rw [List.replicate_succ']; exact ownsRow_kp hown7 ((Kp.refl [q] w7).setCell (by simp) _) (fun x hx => by have h := (XR.of_owns hown7).2.2; simp [Value.ownBlock] at hx; simp; omega), (HX1.out.of_block (hk7.block G3 HX1.out.lt hng)).of_block (((Kp.refl [q] w7).setCell (by simp) _).block G3 (by have := HX1.out.lt; have := hk7.size; omega) (by simp; have := HQL.out; omega)), (hB1.trans (hk7.to_below (fun b hb => by have := hT7 b hb; have := HB1.out.size; omega) hB1.size)).setCell (by have := HG3.out; have := HQL.out; show w.heap.size ≤ q; omega) _, Nat.le_trans HSZ2.out (Nat.le_trans hk7.size ((Kp.refl [q] w7).setCell (by simp) _).size)⟩
          case measure => simp [RowKit.intOf]; omega
        · have hcv := conv_zero hgb
          go_simp
          clear hcv
          refine hK.out _ _ trivial (fun hHeld => ?_)
          clear hK K
          try simp only [List.getElem_toArray, List.getElem_cons_zero, List.getElem_cons_succ, Act.put, List.setIfInBounds_toArray, List.set_cons_zero, List.set_cons_succ]
          refine wpAnyH_ready (rs := [4, 7]) (by kernel_rfl) (by simp) ?_
          refine AllReadyH.cons rfl (fun K hK => ?_) (AllReadyH.cons rfl (fun K hK => ?_) AllReadyH.nil)
          · have k0c : wz.cell? ⟨q, 0, none⟩ = some ov := cellAt hzq 0
            go_simp
            clear k0c
            refine hK.out _ _ trivial (fun hHeld => ?_)
            clear hK K
            try simp only [List.getElem_toArray, List.getElem_cons_zero, List.getElem_cons_succ, Act.put, List.setIfInBounds_toArray, List.set_cons_zero, List.set_cons_succ]
            refine wpAnyH_ready (rs := [7]) (by kernel_rfl) (by simp) ?_
            refine AllReadyH.cons rfl (fun K hK => ?_) AllReadyH.nil
            go_simp
            refine hK.out _ _ trivial (fun hHeld => ?_)
            clear hK K
            try simp only [List.getElem_toArray, List.getElem_cons_zero, List.getElem_cons_succ, Act.put, List.setIfInBounds_toArray, List.set_cons_zero, List.set_cons_succ]
            refine wpAnyH_ready (rs := [8]) (by kernel_rfl) (by simp) ?_
            refine AllReadyH.cons rfl (fun K hK => ?_) AllReadyH.nil
            obtain ⟨g, cap, w7, hr7, hown7, T7, hk7, hT7⟩ := app_str HO1.out zrL HSZ2.out (by omega)
            rw [if_pos (by rfl)]
            refine wp_builtin2_run .append Builtin.append_ _ _ _ _ rfl (fun _ _ _ => rfl) _ _ rfl rfl hr7 ?_
            refine hK.out _ _ trivial (fun hHeld => ?_)
            clear hK K
            try simp only [List.getElem_toArray, List.getElem_cons_zero, List.getElem_cons_succ, Act.put, List.setIfInBounds_toArray, List.set_cons_zero, List.set_cons_succ]
            have hlq := lt_of_blk HQ0.out
            have hnq : q ∉ T7 := fun e => by have := hT7 _ e; omega
            have hng : G3 ∉ T7 := fun e => by have := hT7 _ e; have := HQL.out; omega
            have hq7 := (hk7.block q (lt_of_blk hzq) hnq).trans hzq
            refine wpAnyH_take (i := 9) (v := ?vv9_4) rfl (by kernel_rfl) (by kernel_rfl) (by kernel_rfl) (fun _ _ _ h => h) (Or.inl ⟨by rfl, ?hy9_4⟩) (by assumption) ?rest9_4
            case hy9_4 => (intro w' hSw; (try dsimp only at hSw); go_simp; try with_reducible rfl)
            try simp only [List.getElem_toArray, List.getElem_cons_zero, List.getElem_cons_succ, Act.put, List.setIfInBounds_toArray, List.set_cons_zero, List.set_cons_succ]
            refine wpAnyH_take (i := 10) (v := ?vv10_4) rfl (by kernel_rfl) (by kernel_rfl) (by kernel_rfl) (fun _ _ _ h => h) (Or.inl ⟨by rfl, ?hy10_4⟩) (by assumption) ?rest10_4
            case hy10_4 => (intro w' hSw; (try dsimp only at hSw); go_simp; try with_reducible rfl)
            try simp only [List.getElem_toArray, List.getElem_cons_zero, List.getElem_cons_succ, Act.put, List.setIfInBounds_toArray, List.set_cons_zero, List.set_cons_succ]
            refine wpAnyH_ready (rs := [11]) (by kernel_rfl) (by simp) ?_
            refine AllReadyH.cons rfl (fun K hK => ?_) AllReadyH.nil
            have k0s : w7.cell? ⟨q, 0, none⟩ = some ov := cellAt hq7 0
            have f0s := freeAt hq7 0
            go_simp
            clear k0s f0s
            refine hK.out _ _ trivial (fun hHeld => ?_)
            clear hK K
            try simp only [List.getElem_toArray, List.getElem_cons_zero, List.getElem_cons_succ, Act.put, List.setIfInBounds_toArray, List.set_cons_zero, List.set_cons_succ]
            refine wpAnyH_done (by kernel_rfl) ?_ _
            clear hr7
            go_wp2_with fail
            go_roundw
            case rel => exact ⟨k + 1, .slice (some ⟨g, 0, none⟩) (k + 1) cap, by go_num, by omega, (blk_set hq7 0 _).trans (by simp), by rw [List.replicate_succ']; exact ownsRow_kp hown7 ((Kp.refl [q] w7).setCell (by simp) _) (fun x hx => by have h := (XR.of_owns hown7).2.2; simp [Value.ownBlock] at hx; simp; omega), (HX1.out.of_block (hk7.block G3 HX1.out.lt hng)).of_block (((Kp.refl [q] w7).setCell (by simp) _).block G3 (by have := HX1.out.lt; have := hk7.size; omega) (by simp; have := HQL.out; omega)), (hB1.trans (hk7.to_below (fun b hb => by have := hT7 b hb; have := HB1.out.size; omega) hB1.size)).setCell (by have := HG3.out; have := HQL.out; show w.heap.size ≤ q; omega) _, Nat.le_trans HSZ2.out (Nat.le_trans hk7.size ((Kp.refl [q] w7).setCell (by simp) _).size)⟩
            case measure => simp [RowKit.intOf]; omega
          · go_simp
            refine hK.out _ _ trivial (fun hHeld => ?_)
            clear hK K
            try simp only [List.getElem_toArray, List.getElem_cons_zero, List.getElem_cons_succ, Act.put, List.setIfInBounds_toArray, List.set_cons_zero, List.set_cons_succ]
            refine wpAnyH_ready (rs := [4]) (by kernel_rfl) (by simp) ?_
            refine AllReadyH.cons rfl (fun K hK => ?_) AllReadyH.nil
            have k0c : (wz.alloc (.cells #[sv zrL] 9)).cell? ⟨q, 0, none⟩ = some ov := cellAt ((Lib.alloc_old _ _ q (lt_of_blk hzq)).trans hzq) 0
            go_simp
            clear k0c
            refine hK.out _ _ trivial (fun hHeld => ?_)
            clear hK K
            try simp only [List.getElem_toArray, List.getElem_cons_zero, List.getElem_cons_succ, Act.put, List.setIfInBounds_toArray, List.set_cons_zero, List.set_cons_succ]
            refine wpAnyH_ready (rs := [8]) (by kernel_rfl) (by simp) ?_
            refine AllReadyH.cons rfl (fun K hK => ?_) AllReadyH.nil
            obtain ⟨g, cap, w7, hr7, hown7, T7, hk7, hT7⟩ := app_str HO1.out zrL HSZ2.out (by omega)
            rw [if_pos (by rfl)]
            refine wp_builtin2_run .append Builtin.append_ _ _ _ _ rfl (fun _ _ _ => rfl) _ _ rfl rfl hr7 ?_
            refine hK.out _ _ trivial (fun hHeld => ?_)
            clear hK K
            try simp only [List.getElem_toArray, List.getElem_cons_zero, List.getElem_cons_succ, Act.put, List.setIfInBounds_toArray, List.set_cons_zero, List.set_cons_succ]
            have hlq := lt_of_blk HQ0.out
            have hnq : q ∉ T7 := fun e => by have := hT7 _ e; omega
            have hng : G3 ∉ T7 := fun e => by have := hT7 _ e; have := HQL.out; omega
            have hq7 := (hk7.block q (lt_of_blk hzq) hnq).trans hzq
            refine wpAnyH_take (i := 9) (v := ?vv9_5) rfl (by kernel_rfl) (by kernel_rfl) (by kernel_rfl) (fun _ _ _ h => h) (Or.inl ⟨by rfl, ?hy9_5⟩) (by assumption) ?rest9_5
            case hy9_5 => (intro w' hSw; (try dsimp only at hSw); go_simp; try with_reducible rfl)
            try simp only [List.getElem_toArray, List.getElem_cons_zero, List.getElem_cons_succ, Act.put, List.setIfInBounds_toArray, List.set_cons_zero, List.set_cons_succ]
            refine wpAnyH_take (i := 10) (v := ?vv10_5) rfl (by kernel_rfl) (by kernel_rfl) (by kernel_rfl) (fun _ _ _ h => h) (Or.inl ⟨by rfl, ?hy10_5⟩) (by assumption) ?rest10_5
            case hy10_5 => (intro w' hSw; (try dsimp only at hSw); go_simp; try with_reducible rfl)
            try simp only [List.getElem_toArray, List.getElem_cons_zero, List.getElem_cons_succ, Act.put, List.setIfInBounds_toArray, List.set_cons_zero, List.set_cons_succ]
            refine wpAnyH_ready (rs := [11]) (by kernel_rfl) (by simp) ?_
            refine AllReadyH.cons rfl (fun K hK => ?_) AllReadyH.nil
            have k0s : w7.cell? ⟨q, 0, none⟩ = some ov := cellAt hq7 0
            have f0s := freeAt hq7 0
            go_simp
            clear k0s f0s
            refine hK.out _ _ trivial (fun hHeld => ?_)
            clear hK K
            try simp only [List.getElem_toArray, List.getElem_cons_zero, List.getElem_cons_succ, Act.put, List.setIfInBounds_toArray, List.set_cons_zero, List.set_cons_succ]
            refine wpAnyH_done (by kernel_rfl) ?_ _
            clear hr7
            go_wp2_with fail
            go_roundw
            case rel => exact ⟨k + 1, .slice (some ⟨g, 0, none⟩) (k + 1) cap, by go_num, by omega, (blk_set hq7 0 _).trans (by simp), by rw [List.replicate_succ']; exact ownsRow_kp hown7 ((Kp.refl [q] w7).setCell (by simp) _) (fun x hx => by have h := (XR.of_owns hown7).2.2; simp [Value.ownBlock] at hx; simp; omega), (HX1.out.of_block (hk7.block G3 HX1.out.lt hng)).of_block (((Kp.refl [q] w7).setCell (by simp) _).block G3 (by have := HX1.out.lt; have := hk7.size; omega) (by simp; have := HQL.out; omega)), (hB1.trans (hk7.to_below (fun b hb => by have := hT7 b hb; have := HB1.out.size; omega) hB1.size)).setCell (by have := HG3.out; have := HQL.out; show w.heap.size ≤ q; omega) _, Nat.le_trans HSZ2.out (Nat.le_trans hk7.size ((Kp.refl [q] w7).setCell (by simp) _).size)⟩
            case measure => simp [RowKit.intOf]; omega
    · have hki : ¬ (k : Int) < (n : Int) := by omega
      obtain rfl : n = k := by omega
      obtain ⟨g1, c1, rfl⟩ : ∃ g c, ov = .slice (some ⟨g, 0, none⟩) n c := by
        rcases hown.2 with ⟨_, h0⟩ | ⟨g, cap, cur, e, _⟩
        · omega
        · exact ⟨g, cap, e⟩
      obtain ⟨hx1, _, hg1⟩ := XR.of_owns hown
      have HXW := Lib.hid hx1
      have HG1 := Lib.hid hg1
      have k0b : (wr.alloc (.cells #[] 9)).cell? ⟨q, 0, none⟩ = some (.slice (some ⟨g1, 0, none⟩) n c1) := (World.cell?_of_block (w := wr) (Lib.alloc_old wr _ q (lt_of_blk hq))).trans (cellAt hq 0)
      clear hq hown hx hB hsz hx1 hg1 HOW
      go_wp2_with (at_builtin; obtain ⟨G2, C2, wa, hra, hxa, hba, hga⟩ := fresh_t (n := n) (c := c1) wr HXW.out (by simp) (by omega) (by omega); refine wpList_builtin2_run _ rfl .append Builtin.append_ _ _ _ _ rfl (fun _ _ _ => rfl) _ _ rfl rfl hra ?_; have HXA := Lib.hid hxa; have HBA := Lib.hid hba; have HGA := Lib.hid hga; have hqa := (hba.block q (lt_of_blk HQ.out)).trans HQ.out; have j1 : wa.cell? ⟨q, 1, none⟩ = some (.slice none 0 0) := cellAt hqa 1; have l1 := freeAt hqa 1; have HQA := Lib.hid hqa; clear hra hxa hba hga hqa)
      go_ret2
      have hkf : Kp [q] wa (wa.setCell ⟨q, 1, none⟩ (.slice (some ⟨G2, 0, none⟩) n C2)) := (Kp.refl _ _).setCell (by simp) _
      have hlq := lt_of_blk HQ0.out
      have hql := HQL.out
      have hg1 := HG1.out
      have hg1l := HXW.out.lt
      have hG2 := HGA.out
      have hG2l := HXA.out.lt
      have hg3 := HG3.out
      have hsz := HSZ.out
      have hba := HBA.out.size
      have hB1 := HB1.out.size
      have hwl : (DS.new n).was.length = n := by simp [DS.new]
      have hkr : Kp [q] wr (wa.setCell ⟨q, 1, none⟩ (.slice (some ⟨G2, 0, none⟩) n C2)) := (Kp.of_below HBA.out [q]).trans hkf (fun k hk _ => hk)
      refine ⟨q, rfl, g1, G2, G3, ⟨DS.Ok.new h1 h2, ⟨c1, C2, n, 0, false, ?_, HXW.out.of_block (hkr.block g1 hg1l (by simp; omega)), HXA.out.of_block (hkf.block G2 hG2l (by simp; omega)), HX.out.of_block (hkr.block G3 HX.out.lt (by simp; omega)), ⟨by omega, fun _ => ⟨rfl, fun h => absurd h (by simp [DS.new])⟩⟩⟩, by omega, by omega, by omega, by omega, by omega, by omega⟩, HB.out.trans (hkr.to_below (fun b hb => by simp at hb; omega) HB.out.size), by omega, by omega, by omega, by omega⟩
      · rw [hwl, blk_set HQA.out 1]
        simp [rCells, DS.new]
end Go.Proofs.Ytechpecnanodfaa

