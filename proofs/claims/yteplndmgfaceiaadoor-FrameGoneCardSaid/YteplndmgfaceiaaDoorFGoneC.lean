/-
  FrameGone: the walk.
-/
import Derived.Deep.RegionHeld3
import Derived.Deep.CutRange
import Derived.Test.YteplndmgfaceiaaDoorFLaw
import Derived.Test.YteplndmgfaceiaaDoorFApp
namespace Go.Proofs.YteplndmgfaceiaaDoor
set_option linter.unusedSimpArgs false
set_option linter.unusedVariables false
open Go Go.RowKit
set_option maxRecDepth 100000

theorem wp_builtin2_run {P : Program} {o : Oper} {a : Act} {w : World} {K : Act → World → Prop} {Q : Exit → Act → World → Prop} (b : Builtin) (f : Array TypeId → TypeId → Array Value → Sem Value) (d s : Operand) (t t' : TypeId)
    (ho : o.op = .call { callee := .builtin b, args := #[d, s], argTypes := #[t, t'] }) (hb : ∀ ty args cs, builtin b #[t, t'] ty cs args = (do pure (.value (← f #[t, t'] ty args)))) (v u : Value) (hd : a.eval d = v) (hs : a.eval s = u) {v' : Value} {w' : World}
    (hr : (f #[t, t'] o.type #[v, u]).run P w = .ok v' w') (h : K (a.put o.dst v') w') : o.wp P a w K Q := by
  unfold Oper.wp execOp
  simp only [ho, resolve, invoke, hb, Sem.run_bind, Sem.run_pure, Result.andThen_ok, List.map_toArray, List.map_cons, List.map_nil, hd, hs, hr]
  exact h
theorem slice_head {W : World} (b o n c k : Nat) (hk : k ≤ c) :
    (Instr.slice 26 (.slice (some ⟨b, o, none⟩) n c) none (some (.int .i64 k)) none).run Tryd.prog W = .ok (.slice (some ⟨b, o, none⟩) k c) W := by
  obtain ⟨ti, hti, hs1⟩ := Option.map_eq_some_iff.1 (show (Tryd.prog.info? 9).map (·.size) = some 1 by kernel_rfl)
  have h1 : (k : Int) ≤ (c : Int) := by omega
  simp [Instr.slice, run_underlying Tryd.underlying26, Instr.sliceBounds, Instr.sliceBound, asIntOf, h1, hk, Int.toNat_natCast, Result.andThen, sizeOf, typeInfo, hti, hs1, Go.WideShapes.add_plain]
set_option maxHeartbeats 4000000 in
theorem frameGone_walk (a p : Int) (s : List UInt8) (z : Int) (x : List UInt8) (wa : (Lit.int .i64 a).wf = true) (wp : (Lit.int .i64 p).wf = true)
    (hs : s.length ≤ 140737488351232) (wz : (Lit.int .i64 z).wf = true) (hx : x.length ≤ 140737488351232) {w : World} (hM : ML w) :
    Calls Tryd.prog 7 #[.int .i64 a, .int .i64 p, sv s, .int .i64 z, sv x] w fun e w' => e = .returned (.bool true) ∧ Below w.heap.size w w' := by
  obtain ⟨z0, z1⟩ := wf_bounds wz
  obtain ⟨p0, p1⟩ := wf_bounds wp
  have AW := fun W => awake_any W
  clear wa wp wz
  by_cases h1 : (5000 : Int) < (s.length : Int)
  · go_enter Tryd.func7, Tryd.ntmps7
    go_wp2_with (go_at_call 9; with_reducible refine (AW _).mono ?_; rintro e w1 ⟨rfl, hb1⟩)
    go_ret
    exact ⟨rfl, hb1⟩
  · by_cases h2 : (300 : Int) < (x.length : Int)
    · go_enter Tryd.func7, Tryd.ntmps7
      go_wp2_with (go_at_call 9; with_reducible refine (AW _).mono ?_; rintro e w1 ⟨rfl, hb1⟩)
      go_ret
      exact ⟨rfl, hb1⟩
    · obtain ⟨E, hE⟩ : ∃ e, e = splE a p s.length := ⟨_, rfl⟩
      obtain ⟨L, hL⟩ : ∃ l, l = splL a p s := ⟨_, rfl⟩
      have SP : ∀ W, Calls Tryd.prog 16 #[.int .i64 a, .int .i64 p, sv s] W fun e w' => ∃ A c, e = .returned (.tuple #[.slice A L.length c, .int .i64 E]) ∧ Tx w' A L ∧ L.length ≤ c ∧ c ≤ 1024 ∧ Below W.heap.size W w' := fun W => by
        have := @split_any W a p s (by omega)
        unfold SpPost at this
        rw [← hE, ← hL] at this
        exact this
      by_cases hE0 : E = 0
      · have hok := splE_ok.1 (hE.symm.trans hE0)
        obtain ⟨n, q, rfl, rfl, n1, n2, n3⟩ := mayB_nat hok.1
        have hq : q + manyN s.length ≤ 1024 := by have := hok.2; omega
        have hLe : L = rowL n q (recL s) (manyN s.length) := by rw [hL, splL, if_pos (hE.symm.trans hE0)]; rfl
        have hLn : L.length = manyN s.length := by rw [hLe, rowL_length]
        have hn1 := manyN_pos s.length
        subst hE0
        obtain ⟨k, hk⟩ : ∃ k : Nat, (k : Int) = (z % 18446744073709551616) % (L.length : Int) := ⟨((z % 18446744073709551616) % (L.length : Int)).toNat, by have := Int.emod_nonneg (z % 18446744073709551616) (show (L.length : Int) ≠ 0 by omega); omega⟩
        have hkL : k < L.length := by have := Int.emod_lt_of_pos (z % 18446744073709551616) (show (0 : Int) < (L.length : Int) by omega); omega
        have hL1 : L.length ≤ 1024 := by omega
        have hLx : ∀ y ∈ L, y.length ≤ 9223372036854775807 := by
          intro y hy
          rw [hLe, rowL, List.mem_map] at hy
          obtain ⟨i, _, rfl⟩ := hy
          rw [secL, frL_length (chL_length _ _)]
          omega
        have HG1 := Lib.hid (joinB_false (l := L.take k) (a := n) (p := q) (by rw [hLe]; exact gone_short ⟨n1, n2⟩ hq (by omega)))
        have HG2 := Lib.hid (joinB_false (l := L.take k ++ L.drop (k + 1)) (a := n) (p := q) (by rw [hLe]; exact gone_less ⟨n1, n2⟩ hq (by omega)))
        have HG3 := Lib.hid (show joinB (L.set k x) n q = true → isB x = true ∧ (agL x : Int) = n ∧ (plL x : Int) = (q : Int) + k from fun h => by
          have := joinB_iff.1 h
          rw [hLe] at this
          exact gone_odd ⟨n1, n2⟩ hq (by omega) this)
        go_enter Tryd.func7, Tryd.ntmps7
        have hK : wrap64 ((IntKind.u64.wrap z).tmod (L.length : Int)) = (k : Int) := by
          have hu : IntKind.u64.wrap z = z % 18446744073709551616 := by simp [IntKind.wrap, IntKind.bits, IntKind.signed]
          rw [hu, Int.tmod_eq_emod_of_nonneg (by omega), ← hk]
          exact wrap64_small (by omega) (by omega)
        have HK := Lib.hid hK
        clear hE hL hLe hLn hok hK hk
        go_upto_region 6 with (first
          | (go_at_call 9; with_reducible refine (AW _).mono ?_; rintro e w1 ⟨rfl, hb1⟩)
          | (go_at_call 16; with_reducible refine (SP _).mono ?_; rintro e w2 ⟨A, c, rfl, ht2, hc1, hc2, hb2⟩))
        go_upto_region 7 with fail
        rw [HK.out]
        obtain ⟨b, o, rfl, _⟩ := ht2.cell (k := k) hkL
        have HB2 := Lib.hid (hb1.trans (hb2.mono hb1.size))
        have LK1 := Lib.hid (show (L.take k).length = k by rw [List.length_take]; omega)
        have LK2 := Lib.hid (show (L.drop (k + 1)).length = L.length - (k + 1) by rw [List.length_drop])
        have J1 : ∀ W, Tx W (some ⟨b, o, none⟩) L → Calls Tryd.prog 21 #[.slice (some ⟨b, o, none⟩) k c, .int .i64 n, .int .i64 q] W fun e w' => e = .returned (.tuple #[.string ⟨#[]⟩, .int .i64 0, .bool false]) ∧ Below W.heap.size W w' := fun W hW => by
          have := join_any (L.take k) (some ⟨b, o, none⟩) c n q (hW.take k) (fun y hy => hLx y (List.mem_of_mem_take hy)) (by rw [LK1.out]; omega) (by omega) (by omega)
          rw [LK1.out] at this
          refine this.mono fun e w' ⟨h1, h2⟩ => ?_
          obtain ⟨q1, q2, q3⟩ := HG1.out
          rw [q1, q2, q3] at h1
          exact ⟨h1, h2⟩
        clear hb1 hb2
        go_upto_region 8 with (go_at_call 21; with_reducible refine (J1 _ ht2).mono ?_; rintro e w3 ⟨rfl, hb3⟩)
        have ht3 := ht2.below hb3
        have HB3 := Lib.hid (HB2.out.trans (hb3.mono HB2.out.size))
        clear hb3 ht2 J1
        have hkc : (k : Int) ≤ (c : Int) := by omega
        have hk1 : IntKind.i64.wrap ((k : Int) + 1) = (k : Int) + 1 := IntWalk.i64_in _ (by omega)
        have SL1 : ∀ W : World, (Instr.slice 26 (.slice (some ⟨b, o, none⟩) L.length c) none (some (.int .i64 k)) none).run Tryd.prog W = .ok (.slice (some ⟨b, o, none⟩) k c) W := fun W => slice_head b o L.length c k (by omega)
        have SL2 : ∀ W : World, (Instr.slice 26 (.slice (some ⟨b, o, none⟩) L.length c) (some (.int .i64 ((k : Int) + 1))) none none).run Tryd.prog W = .ok (.slice (fromA (some ⟨b, o, none⟩) (k + 1) c) (L.length - (k + 1)) (c - (k + 1))) W := fun W => slice_row (W := W) (some ⟨b, o, none⟩) L.length c (k + 1) (by omega) (by simp)
        have hX5 : ∀ W v ys, Ro w3 W v ys → Tx W (some ⟨b, o, none⟩) L := fun W v ys h => ht3.below h.2
        have hY5 : ∀ W v ys, Ro w3 W v ys → Below w3.heap.size w3 W := fun W v ys h => h.2
        refine wp_region_held_drew (S := fun W => Tx W (some ⟨b, o, none⟩) L ∧ Below w3.heap.size w3 W) (by kernel_rfl) ⟨ht3.drew, (Below.refl _ _).drew⟩ (fun hHeld => ?_)
        refine wpAnyH_take (i := 1) (v := ?vv1_1) rfl (by kernel_rfl) (by kernel_rfl) (by kernel_rfl) (fun _ _ _ h => h) (Or.inl ⟨by rfl, ?hy1_1⟩) (by assumption) ?rest1_1
        case hy1_1 => (intro w' hSw; (try dsimp only at hSw); go_simp; try with_reducible rfl)
        try simp only [List.getElem_toArray, List.getElem_cons_zero, List.getElem_cons_succ, Act.put, List.setIfInBounds_toArray, List.set_cons_zero, List.set_cons_succ]
        refine wpAnyH_take (i := 2) (v := ?vv2_1) rfl (by kernel_rfl) (by kernel_rfl) (by kernel_rfl) (fun _ _ _ h => h) (Or.inl ⟨by rfl, ?hy2_1⟩) (by assumption) ?rest2_1
        case hy2_1 => (intro w' hSw; (try dsimp only at hSw); go_simp; try with_reducible rfl)
        try simp only [List.getElem_toArray, List.getElem_cons_zero, List.getElem_cons_succ, Act.put, List.setIfInBounds_toArray, List.set_cons_zero, List.set_cons_succ]
        refine wpAnyH_take (i := 5) (v := ?vv5_1) rfl (by kernel_rfl) (by kernel_rfl) (by kernel_rfl) (fun _ _ _ h => h) (Or.inl ⟨by rfl, ?hy5_1⟩) (by assumption) ?rest5_1
        case hy5_1 => (intro w' hSw; (try dsimp only at hSw); go_simp; try with_reducible rfl)
        try simp only [List.getElem_toArray, List.getElem_cons_zero, List.getElem_cons_succ, Act.put, List.setIfInBounds_toArray, List.set_cons_zero, List.set_cons_succ]
        refine wpAnyH_take (i := 6) (v := ?vv6_1) rfl (by kernel_rfl) (by kernel_rfl) (by kernel_rfl) (fun _ _ _ h => h) (Or.inl ⟨by rfl, ?hy6_1⟩) (by assumption) ?rest6_1
        case hy6_1 => (intro w' hSw; (try dsimp only at hSw); go_simp; try with_reducible rfl)
        try simp only [List.getElem_toArray, List.getElem_cons_zero, List.getElem_cons_succ, Act.put, List.setIfInBounds_toArray, List.set_cons_zero, List.set_cons_succ]
        refine wpAnyH_take (i := 7) (v := ?vv7_1) rfl (by kernel_rfl) (by kernel_rfl) (by kernel_rfl) (fun _ _ _ h => h) (Or.inl ⟨by rfl, ?hy7_1⟩) (by assumption) ?rest7_1
        case hy7_1 => (intro w' hSw; (try dsimp only at hSw); go_simp; try with_reducible rfl)
        try simp only [List.getElem_toArray, List.getElem_cons_zero, List.getElem_cons_succ, Act.put, List.setIfInBounds_toArray, List.set_cons_zero, List.set_cons_succ]
        refine wpAnyH_take (i := 3) (v := .slice (some ⟨b, o, none⟩) k c) rfl (by kernel_rfl) (by kernel_rfl) (by kernel_rfl) (fun _ _ _ h => h) (Or.inl ⟨by rfl, fun w' hSw => exec_slice_run w' Tryd.underlying26 (x := .tmp 69) (lo := none) (hi := some (.tmp 70)) rfl rfl (SL1 w')⟩) (by assumption) ?_
        try simp only [List.getElem_toArray, List.getElem_cons_zero, List.getElem_cons_succ, Act.put, List.setIfInBounds_toArray, List.set_cons_zero, List.set_cons_succ]
        refine wpAnyH_take (i := 8) (v := .slice (fromA (some ⟨b, o, none⟩) (k + 1) c) (L.length - (k + 1)) (c - (k + 1))) rfl (by kernel_rfl) (by kernel_rfl) (by kernel_rfl) (fun _ _ _ h => h) (Or.inl ⟨by rfl, fun w' hSw => exec_slice_run w' Tryd.underlying26 (x := .tmp 73) (lo := some (.tmp 75)) (hi := none) rfl rfl (SL2 w')⟩) (by assumption) ?_
        try simp only [List.getElem_toArray, List.getElem_cons_zero, List.getElem_cons_succ, Act.put, List.setIfInBounds_toArray, List.set_cons_zero, List.set_cons_succ]
        refine wpAnyH_ready (rs := [0]) (by kernel_rfl) (by simp) ?_
        refine AllReadyH.cons rfl (fun K hK => ?_) AllReadyH.nil
        go_simp
        refine hK.out _ _ ⟨hHeld.1.below (below_alloc _ _), hHeld.2.alloc hHeld.2.size _⟩ (fun hHeld => ?_)
        clear hK K
        try simp only [List.getElem_toArray, List.getElem_cons_zero, List.getElem_cons_succ, Act.put, List.setIfInBounds_toArray, List.set_cons_zero, List.set_cons_succ]
        have HR4 := Lib.hid (Ro.lit w3).drew
        have ht4 := hHeld.1
        have hB4 := hHeld.2
        have hgz : w3.drew.heap.size = w3.heap.size := rfl
        try rw [hgz]
        generalize (w3.alloc (.cells #[] 9)).drew = w4 at HR4 ht4 hB4 hHeld ⊢
        refine wpAnyH_ready (rs := [4]) (by kernel_rfl) (by simp) ?_
        refine AllReadyH.cons rfl (fun K hK => ?_) AllReadyH.nil
        obtain ⟨v5, w5, hr5, HR5⟩ := Ro.app HR4.out (ht4.take k) c (by rw [LK1.out]; show 0 + k ≤ 1000000; omega)
        rw [LK1.out] at hr5
        rw [if_pos (by rfl)]
        refine wp_builtin2_run .append Builtin.append_ _ _ _ _ rfl (fun _ _ _ => rfl) _ _ rfl rfl hr5 ?_
        refine hK.out _ _ ⟨hX5 w5 v5 _ HR5, hY5 w5 v5 _ HR5⟩ (fun hHeld => ?_)
        clear hK K
        try simp only [List.getElem_toArray, List.getElem_cons_zero, List.getElem_cons_succ, Act.put, List.setIfInBounds_toArray, List.set_cons_zero, List.set_cons_succ]
        clear hr5
        refine wpAnyH_ready (rs := [9]) (by kernel_rfl) (by simp) ?_
        refine AllReadyH.cons rfl (fun K hK => ?_) AllReadyH.nil
        obtain ⟨v6, w6, hr6, HR6⟩ := Ro.app HR5 ((hX5 w5 v5 _ HR5).drop (i := k + 1) hc1) (c - (k + 1)) (by rw [List.nil_append, LK1.out, LK2.out]; omega)
        rw [LK2.out] at hr6
        rw [if_pos (by rfl)]
        refine wp_builtin2_run .append Builtin.append_ _ _ _ _ rfl (fun _ _ _ => rfl) _ _ rfl rfl hr6 ?_
        refine hK.out _ _ ⟨ht3.below HR6.2, HR6.2⟩ (fun hHeld => ?_)
        clear hK K
        try simp only [List.getElem_toArray, List.getElem_cons_zero, List.getElem_cons_succ, Act.put, List.setIfInBounds_toArray, List.set_cons_zero, List.set_cons_succ]
        clear hr6
        refine wpAnyH_take (i := 10) (v := ?vv10_1) rfl (by kernel_rfl) (by kernel_rfl) (by kernel_rfl) (fun _ _ _ h => h) (Or.inl ⟨by rfl, ?hy10_1⟩) (by assumption) ?rest10_1
        case hy10_1 => (intro w' hSw; (try dsimp only at hSw); go_simp; try with_reducible rfl)
        try simp only [List.getElem_toArray, List.getElem_cons_zero, List.getElem_cons_succ, Act.put, List.setIfInBounds_toArray, List.set_cons_zero, List.set_cons_succ]
        refine wpAnyH_done (by kernel_rfl) ?_ _
        rw [List.nil_append] at HR6
        have HB6 := Lib.hid (HB3.out.trans (HR6.2.mono HB3.out.size))
        have HT6 := Lib.hid hHeld.1
        obtain ⟨A6, c6, rfl, hT6, _, _, _⟩ := HR6.form
        have LK3 := Lib.hid (show (L.take k ++ L.drop (k + 1)).length ≤ 1024 by rw [List.length_append, LK1.out, LK2.out]; omega)
        have HMX := Lib.hid (show ∀ y ∈ L.take k ++ L.drop (k + 1), y.length ≤ 9223372036854775807 from fun y hy => by
          rcases List.mem_append.1 hy with h | h
          · exact hLx y (List.mem_of_mem_take h)
          · exact hLx y (List.mem_of_mem_drop h))
        have HSX := Lib.hid (show ∀ y ∈ L.set k x, y.length ≤ 9223372036854775807 from fun y hy => by
          rcases List.mem_or_eq_of_mem_set hy with h | h
          · exact hLx y h
          · rw [h]; omega)
        clear hHeld ht3 SL1 SL2 hX5 hY5 HR6 HR5 HR4 ht4 hB4
        generalize hM6 : L.take k ++ L.drop (k + 1) = M at HG2 LK3 HMX hT6 ⊢
        clear hM6
        have J2 : ∀ W, Tx W A6 M → Calls Tryd.prog 21 #[.slice A6 M.length c6, .int .i64 n, .int .i64 q] W fun e w' => e = .returned (.tuple #[.string ⟨#[]⟩, .int .i64 0, .bool false]) ∧ Below W.heap.size W w' := fun W hW => by
          have := join_any M A6 c6 n q hW HMX.out (by have := LK3.out; omega) (by omega) (by omega)
          refine this.mono fun e w' ⟨h1, h2⟩ => ?_
          obtain ⟨q1, q2, q3⟩ := HG2.out
          rw [q1, q2, q3] at h1
          exact ⟨h1, h2⟩
        have GE := fun W => @get_any W x (by omega)
        obtain ⟨ag, hag⟩ : ∃ y, y = agL x := ⟨_, rfl⟩
        obtain ⟨pl, hpl⟩ : ∃ y, y = plL x := ⟨_, rfl⟩
        obtain ⟨bo, hbo⟩ : ∃ y, y = bodL x := ⟨_, rfl⟩
        obtain ⟨is, his⟩ : ∃ y, y = isB x := ⟨_, rfl⟩
        rw [← hag, ← hpl, ← hbo, ← his] at GE
        rw [← hag, ← hpl, ← his] at HG3
        clear hag hpl hbo his
        have hlS : (L.set k x).length = L.length := List.length_set
        have J3 : ∀ W A c, Tx W A (L.set k x) → Calls Tryd.prog 21 #[.slice A L.length c, .int .i64 n, .int .i64 q] W fun e w' => e = .returned (.tuple #[sv (joinT (L.set k x) n q), .int .i64 (joinN (L.set k x) n q), .bool (joinB (L.set k x) n q)]) ∧ Below W.heap.size W w' := fun W A c hW => by
          have := join_any (L.set k x) A c n q hW HSX.out (by rw [hlS]; omega) (by omega) (by omega)
          rw [hlS] at this
          exact this
        generalize joinT (L.set k x) n q = jT at J3
        generalize joinN (L.set k x) n q = jN at J3
        obtain ⟨jB, hjB⟩ : ∃ y, y = joinB (L.set k x) n q := ⟨_, rfl⟩
        rw [← hjB] at J3 HG3
        clear hjB
        go_upto_region 14 with (first
          | (go_at_call 21; with_reducible refine (J2 _ hT6).mono ?_; rintro e w7 ⟨rfl, hb7⟩; have HB7 := Lib.hid (HB6.out.trans (hb7.mono HB6.out.size)); have HT7 := Lib.hid (HT6.out.below hb7); clear hb7 hT6)
          | (go_at_call 12; with_reducible refine (GE _).mono ?_; rintro e w8 ⟨rfl, hb8⟩; have HB8 := Lib.hid (HB7.out.trans (hb8.mono HB7.out.size)); have HT8 := Lib.hid (HT7.out.below hb8); clear hb8)
          | (at_builtin; obtain ⟨v9, w9, hr9, HR9⟩ := Ro.app (Ro.lit w8) (HT8.out.below (below_alloc w8 (.cells #[] 9))) c (by show 0 + L.length ≤ 1000000; omega); rw [List.nil_append] at HR9; refine wpList_builtin2_run _ rfl .append Builtin.append_ _ _ _ _ rfl (fun _ _ _ => rfl) _ _ rfl rfl hr9 ?_; obtain ⟨A9, c9, rfl, _, _, _, _⟩ := HR9.form; obtain ⟨g9, rfl, k9, f9, hT9, hB9⟩ := HR9.set hkL x; have HT9 := Lib.hid hT9; have HB9 := Lib.hid (HB8.out.trans (hB9.mono HB8.out.size)); clear hr9 HR9 hT9 hB9)
          | (go_at_call 21; with_reducible refine (J3 _ _ _ HT9.out).mono ?_; rintro e w10 ⟨rfl, hb10⟩; have HB10 := Lib.hid (HB9.out.trans (hb10.mono HB9.out.size)); clear hb10))
        have hqk : (q : Int) + (k : Int) ≤ 9223372036854775807 := by omega
        cases jB with
        | false =>
          go_wp2_with fail
          go_ret
          exact ⟨rfl, HB10.out⟩
        | true =>
          obtain ⟨i1, i2, i3⟩ := HG3.out rfl
          subst i1
          have x1 : ((ag : Int) == (n : Int)) = true := by rw [beq_iff_eq]; exact i2
          have x2 : ((pl : Int) == (q : Int) + (k : Int)) = true := by rw [beq_iff_eq]; exact i3
          clear i2 i3
          go_wp2_with fail
          go_ret
          exact ⟨rfl, HB10.out⟩
      · have e1' : (E != 0) = true := by rw [bne_iff_ne]; exact hE0
        clear hE hL
        go_enter Tryd.func7, Tryd.ntmps7
        go_wp2_with (first
          | (go_at_call 9; with_reducible refine (AW _).mono ?_; rintro e w1 ⟨rfl, hb1⟩)
          | (go_at_call 16; with_reducible refine (SP _).mono ?_; rintro e w2 ⟨A, c, rfl, ht2, hc1, hc2, hb2⟩))
        go_ret
        exact ⟨rfl, hb1.trans (hb2.mono hb1.size)⟩
end Go.Proofs.YteplndmgfaceiaaDoor

