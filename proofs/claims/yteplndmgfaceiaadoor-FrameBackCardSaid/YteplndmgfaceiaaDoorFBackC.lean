/-
  FrameBack: the walk.
-/
import Derived.Deep.RegionHeld3
import Derived.Deep.CutRange
import Derived.Test.YteplndmgfaceiaaDoorFLaw
import Derived.Test.YteplndmgfaceiaaDoorFApp
namespace Go.Proofs.YteplndmgfaceiaaDoor
set_option linter.unusedSimpArgs false
set_option linter.unusedVariables false
open Go Go.RowKit
set_option maxRecDepth 100000

theorem row_lens (a p : Nat) (t : List UInt8) (n : Nat) : ∀ y ∈ rowL a p t n, y.length ≤ 9223372036854775807 := by
  intro y hy
  rw [rowL, List.mem_map] at hy
  obtain ⟨i, _, rfl⟩ := hy
  rw [secL, frL_length (chL_length _ _)]
  omega

section
variable {P : Program} (w : World) {o : Oper} {a : Act}
theorem exec_sliceS {t : TypeId} {x : Operand} {lo hi : Option Operand} (hu : P.underlying t = some .string) (ho : o.op = .slice t x lo hi none) {u v : Value} (hx : a.eval x = u)
    (hr : (Instr.slice t u (lo.map a.eval) (hi.map a.eval) none).run P w = .ok v w) : (execOp a.eval o).run P w = .ok (.value v) w := by
  unfold execOp
  simp [ho, hx, Instr.sliceAt, run_underlying hu, hr]
end
theorem slice_to {w : World} (R : List UInt8) (j : Nat) (x : List UInt8) (hj : j ≤ R.length) (hx : R.take j = x) :
    (Instr.slice 9 (.string (str R)) none (some (.int .i64 j)) none).run Tryd.prog w = .ok (sv x) w := by
  have hs : (str R).size = R.length := by show R.toArray.size = _; simp
  have h2 : (j : Int) ≤ (R.length : Int) := by omega
  have he : (str R).extract 0 j = str x := by rw [str_extract, hx]; rfl
  simp [Instr.slice, run_underlying Tryd.underlying9, Instr.sliceBounds, Instr.sliceBound, asIntOf, hs, h2, he, hj, Int.toNat_natCast, Result.andThen]
set_option maxHeartbeats 8000000 in
theorem frameBack_walk {w : World} (a p : Int) (s : List UInt8) (A : Option Addr) (c : Nat) (xs : List (List UInt8)) (wa : (Lit.int .i64 a).wf = true) (wp : (Lit.int .i64 p).wf = true)
    (hs : s.length ≤ 140737488351232) (hS : SR w (.slice A xs.length c) xs) (hn : xs.length ≤ 140737488351232) (hx : ∀ x ∈ xs, x.length ≤ 9223372036854775807) (hM : ML w) :
    Calls Tryd.prog 5 #[.int .i64 a, .int .i64 p, sv s, .slice A xs.length c] w fun e w' => e = .returned (.bool true) ∧ Below w.heap.size w w' := by
  obtain ⟨p0, p1⟩ := wf_bounds wp
  have HT := Lib.hid hS.tx
  have AW := fun W => awake_any W
  clear wa wp hS
  by_cases h1 : (5000 : Int) < (s.length : Int)
  · go_enter Tryd.func5, Tryd.ntmps5
    go_wp2_with (go_at_call 9; with_reducible refine (AW _).mono ?_; rintro e w1 ⟨rfl, hb1⟩)
    go_ret
    exact ⟨rfl, hb1⟩
  · by_cases h2 : (100 : Int) < (xs.length : Int)
    · go_enter Tryd.func5, Tryd.ntmps5
      go_wp2_with (go_at_call 9; with_reducible refine (AW _).mono ?_; rintro e w1 ⟨rfl, hb1⟩)
      go_ret
      exact ⟨rfl, hb1⟩
    · obtain ⟨E, hE⟩ : ∃ e, e = splE a p s.length := ⟨_, rfl⟩
      obtain ⟨L, hL⟩ : ∃ l, l = splL a p s := ⟨_, rfl⟩
      have SP : ∀ W, Calls Tryd.prog 16 #[.int .i64 a, .int .i64 p, sv s] W fun e w' => ∃ A c, e = .returned (.tuple #[.slice A L.length c, .int .i64 E]) ∧ Tx w' A L ∧ L.length ≤ c ∧ c ≤ 1024 ∧ Below W.heap.size W w' := fun W => by
        have := @split_any W a p s (by omega)
        unfold SpPost at this
        rw [← hE, ← hL] at this
        exact this
      obtain ⟨F, hF⟩ : ∃ e, e = putE a p s.length := ⟨_, rfl⟩
      obtain ⟨X, hX⟩ : ∃ l, l = putL a p s := ⟨_, rfl⟩
      have PU := fun W => @put_top W a p s (by omega)
      rw [← hF, ← hX] at PU
      -- what is told of the sector that was put
      have HX := Lib.hid (show F = 0 → isB X = true ∧ (agL X : Int) = a ∧ (plL X : Int) = p ∧ bodL X = padL s ∧ s.length ≤ 112 ∧ X.length = 128 ∧ (oldL X : Int) = a from fun h0 => by
        have hok := putE_ok.1 (hF.symm.trans h0)
        obtain ⟨n, q, rfl, rfl, n1, n2, n3⟩ := mayB_nat hok.1
        have hXe : X = frL n q s := by rw [hX, putL, if_pos (hF.symm.trans h0)]; rfl
        rw [hXe, is_frL ⟨n1, n2⟩ n3 hok.2, ag_frL ⟨n1, n2⟩ n3 hok.2, pl_frL ⟨n1, n2⟩ n3 hok.2, bod_frL ⟨n1, n2⟩ n3 hok.2, frL_length hok.2, old_frL n2 hok.2]
        exact ⟨rfl, rfl, rfl, rfl, hok.2, rfl, rfl⟩)
      -- what is told of the record
      have HL := Lib.hid (show E = 0 → L.length = manyN s.length ∧ L.length ≤ 1024 ∧ 0 ≤ p ∧ p ≤ 1023 ∧ (∀ i, i < L.length → isB (L.getD i []) = true ∧ (agL (L.getD i []) : Int) = a ∧ (plL (L.getD i []) : Int) = p + i ∧ (L.getD i []).length = 128) ∧
          joinB (L ++ xs) a p = true ∧ joinT (L ++ xs) a p = s ∧ joinN (L ++ xs) a p = L.length ∧ (∀ y ∈ L ++ xs, y.length ≤ 9223372036854775807) from fun h0 => by
        have hok := splE_ok.1 (hE.symm.trans h0)
        obtain ⟨n, q, rfl, rfl, n1, n2, n3⟩ := mayB_nat hok.1
        have hq : q + manyN s.length ≤ 1024 := by have := hok.2; omega
        have hLe : L = rowL n q (recL s) (manyN s.length) := by rw [hL, splL, if_pos (hE.symm.trans h0)]; rfl
        have hj := join_back (rest := xs) (s := s) ⟨n1, n2⟩ hq
        rw [← hLe] at hj
        have hln : L.length = manyN s.length := by rw [hLe, rowL_length]
        refine ⟨hln, by omega, by omega, by omega, fun i hi => ?_, joinB_iff.2 hj.1, hj.2.1, by rw [hj.2.2, hln], fun y hy => ?_⟩
        · have e : L.getD i [] = secL n q (recL s) i := by rw [List.getD_eq_getElem?_getD, hLe, rowL_get (by omega)]; rfl
          rw [e, secL, is_frL ⟨n1, n2⟩ (by omega) (chL_length _ _), ag_frL ⟨n1, n2⟩ (by omega) (chL_length _ _), pl_frL ⟨n1, n2⟩ (by omega) (chL_length _ _), frL_length (chL_length _ _)]
          exact ⟨rfl, rfl, by push_cast; rfl, rfl⟩
        · rcases List.mem_append.1 hy with h | h
          · rw [hLe] at h; exact row_lens _ _ _ _ y h
          · exact hx y h)
      have HL0 := Lib.hid (show E ≠ 0 → L.length = 0 from fun h0 => by rw [hL, splL, if_neg (by rw [← hE]; exact h0)]; rfl)
      clear hE hL hF hX hx
      have hl5 : s.length ≤ 5000 := by omega
      go_enter Tryd.func5, Tryd.ntmps5
      go_upto_if 46 with (first
        | (go_at_call 9; with_reducible refine (AW _).mono ?_; rintro e w1 ⟨rfl, hb1⟩)
        | (go_at_call 10; with_reducible refine (PU _).mono ?_; rintro e w2 ⟨rfl, hb2⟩))
      have HB2 := Lib.hid (hb1.trans (hb2.mono hb1.size))
      clear hb1 hb2 PU
      go_cut [11, 12, 13, 14] from 47 to 95 (fun _ _ _ _ wx => Below w.heap.size w wx)
      case first =>
        by_cases hF0 : F = 0
        · obtain ⟨i1, i2, i3, i4, i5, i6, i7⟩ := HX.out hF0
          subst hF0
          have GE := fun W => @get_any W X (by omega)
          have AG := fun W => @age_top W X (by omega)
          obtain ⟨ag, hag⟩ : ∃ y, y = agL X := ⟨_, rfl⟩
          obtain ⟨pl, hpl⟩ : ∃ y, y = plL X := ⟨_, rfl⟩
          obtain ⟨ol, hol⟩ : ∃ y, y = oldL X := ⟨_, rfl⟩
          rw [i1, i4, ← hag, ← hpl] at GE
          rw [← hol] at AG i7
          rw [← hag] at i2
          rw [← hpl] at i3
          clear hag hpl hol i1 i4 i6 HX
          subst i2 i3
          have x7 : ((ol : Int) != (ag : Int)) = false := by rw [i7]; simp
          have MZ : ∀ W, Calls Tryd.prog 23 #[.int .u8 0, .int .i64 (112 - (s.length : Int))] W fun e w' => e = .returned (sv (List.replicate (112 - s.length) 0)) ∧ Below W.heap.size W w' := fun W => by
            have := @many_any W 0 (112 - s.length) (by omega)
            rw [show ((112 - s.length : Nat) : Int) = 112 - (s.length : Int) by omega] at this
            exact this
          have lT : (padL s).length = 112 := padL_length i5
          obtain ⟨T, hT⟩ : ∃ T, T = padL s := ⟨_, rfl⟩
          obtain ⟨Z, hZ⟩ : ∃ T, T = List.replicate (112 - s.length) (0 : UInt8) := ⟨_, rfl⟩
          have hTs : T = s ++ Z := by rw [hT, hZ]; rfl
          rw [← hT] at GE lT
          rw [← hZ] at MZ
          have SL1 : ∀ W : World, (Instr.slice 9 (.string (str T)) none (some (.int .i64 (s.length : Int))) none).run Tryd.prog W = .ok (sv s) W := fun W => slice_to (w := W) T s.length s (by omega) (by rw [hTs, List.take_left' rfl])
          have SL2 : ∀ W : World, (Instr.slice 9 (.string (str T)) (some (.int .i64 (s.length : Int))) none none).run Tryd.prog W = .ok (sv Z) W := fun W => slice_from (w := W) T s.length Z (by omega) (by rw [hTs, List.drop_left' rfl])
          have zT : (str T).size = 112 := by rw [sizeL, lT]
          have hbo : -9223372036854775808 ≤ 112 - (s.length : Int) := by omega
          have hsub : IntKind.i64.wrap (112 - (s.length : Int)) = 112 - (s.length : Int) := IntWalk.i64_in _ (by omega)
          clear hT hZ hTs lT i7
          go_upto_region 6 with (go_at_call 12; with_reducible refine (GE _).mono ?_; rintro e w3 ⟨rfl, hb3⟩)
          have HB3 := Lib.hid (HB2.out.trans (hb3.mono HB2.out.size))
          clear hb3
          refine wp_region_held_drew (S := fun W => Below w.heap.size w W) (by kernel_rfl) HB3.out.drew (fun hHeld => ?_)
          refine wpAnyH_take (i := 0) (v := ?vv0_1) rfl (by kernel_rfl) (by kernel_rfl) (by kernel_rfl) (fun _ _ _ h => h) (Or.inl ⟨by rfl, ?hy0_1⟩) (by assumption) ?rest0_1
          case hy0_1 => (intro w' hSw; (try dsimp only at hSw); go_simp; try with_reducible rfl)
          try simp only [List.getElem_toArray, List.getElem_cons_zero, List.getElem_cons_succ, Act.put, List.setIfInBounds_toArray, List.set_cons_zero, List.set_cons_succ]
          refine wpAnyH_take (i := 1) (v := ?vv1_1) rfl (by kernel_rfl) (by kernel_rfl) (by kernel_rfl) (fun _ _ _ h => h) (Or.inl ⟨by rfl, ?hy1_1⟩) (by assumption) ?rest1_1
          case hy1_1 => (intro w' hSw; (try dsimp only at hSw); go_simp; try with_reducible rfl)
          try simp only [List.getElem_toArray, List.getElem_cons_zero, List.getElem_cons_succ, Act.put, List.setIfInBounds_toArray, List.set_cons_zero, List.set_cons_succ]
          refine wpAnyH_take (i := 2) (v := ?vv2_1) rfl (by kernel_rfl) (by kernel_rfl) (by kernel_rfl) (fun _ _ _ h => h) (Or.inl ⟨by rfl, ?hy2_1⟩) (by assumption) ?rest2_1
          case hy2_1 => (intro w' hSw; (try dsimp only at hSw); go_simp; try with_reducible rfl)
          try simp only [List.getElem_toArray, List.getElem_cons_zero, List.getElem_cons_succ, Act.put, List.setIfInBounds_toArray, List.set_cons_zero, List.set_cons_succ]
          refine wpAnyH_take (i := 3) (v := ?vv3_1) rfl (by kernel_rfl) (by kernel_rfl) (by kernel_rfl) (fun _ _ _ h => h) (Or.inl ⟨by rfl, ?hy3_1⟩) (by assumption) ?rest3_1
          case hy3_1 => (intro w' hSw; (try dsimp only at hSw); go_simp; try with_reducible rfl)
          try simp only [List.getElem_toArray, List.getElem_cons_zero, List.getElem_cons_succ, Act.put, List.setIfInBounds_toArray, List.set_cons_zero, List.set_cons_succ]
          refine wpAnyH_take (i := 4) (v := ?vv4_1) rfl (by kernel_rfl) (by kernel_rfl) (by kernel_rfl) (fun _ _ _ h => h) (Or.inl ⟨by rfl, ?hy4_1⟩) (by assumption) ?rest4_1
          case hy4_1 => (intro w' hSw; (try dsimp only at hSw); go_simp; try with_reducible rfl)
          try simp only [List.getElem_toArray, List.getElem_cons_zero, List.getElem_cons_succ, Act.put, List.setIfInBounds_toArray, List.set_cons_zero, List.set_cons_succ]
          refine wpAnyH_take (i := 5) (v := ?vv5_1) rfl (by kernel_rfl) (by kernel_rfl) (by kernel_rfl) (fun _ _ _ h => h) (Or.inl ⟨by rfl, ?hy5_1⟩) (by assumption) ?rest5_1
          case hy5_1 => (intro w' hSw; (try dsimp only at hSw); go_simp; try with_reducible rfl)
          try simp only [List.getElem_toArray, List.getElem_cons_zero, List.getElem_cons_succ, Act.put, List.setIfInBounds_toArray, List.set_cons_zero, List.set_cons_succ]
          refine wpAnyH_take (i := 6) (v := ?vv6_1) rfl (by kernel_rfl) (by kernel_rfl) (by kernel_rfl) (fun _ _ _ h => h) (Or.inl ⟨by rfl, ?hy6_1⟩) (by assumption) ?rest6_1
          case hy6_1 => (intro w' hSw; (try dsimp only at hSw); go_simp; try with_reducible rfl)
          try simp only [List.getElem_toArray, List.getElem_cons_zero, List.getElem_cons_succ, Act.put, List.setIfInBounds_toArray, List.set_cons_zero, List.set_cons_succ]
          refine wpAnyH_take (i := 7) (v := ?vv7_1) rfl (by kernel_rfl) (by kernel_rfl) (by kernel_rfl) (fun _ _ _ h => h) (Or.inl ⟨by rfl, ?hy7_1⟩) (by assumption) ?rest7_1
          case hy7_1 => (intro w' hSw; (try dsimp only at hSw); go_simp; try with_reducible rfl)
          try simp only [List.getElem_toArray, List.getElem_cons_zero, List.getElem_cons_succ, Act.put, List.setIfInBounds_toArray, List.set_cons_zero, List.set_cons_succ]
          refine wpAnyH_take (i := 8) (v := ?vv8_1) rfl (by kernel_rfl) (by kernel_rfl) (by kernel_rfl) (fun _ _ _ h => h) (Or.inl ⟨by rfl, ?hy8_1⟩) (by assumption) ?rest8_1
          case hy8_1 => (intro w' hSw; (try dsimp only at hSw); go_simp; try with_reducible rfl)
          try simp only [List.getElem_toArray, List.getElem_cons_zero, List.getElem_cons_succ, Act.put, List.setIfInBounds_toArray, List.set_cons_zero, List.set_cons_succ]
          refine wpAnyH_take (i := 9) (v := ?vv9_1) rfl (by kernel_rfl) (by kernel_rfl) (by kernel_rfl) (fun _ _ _ h => h) (Or.inl ⟨by rfl, ?hy9_1⟩) (by assumption) ?rest9_1
          case hy9_1 => (intro w' hSw; (try dsimp only at hSw); go_simp; try with_reducible rfl)
          try simp only [List.getElem_toArray, List.getElem_cons_zero, List.getElem_cons_succ, Act.put, List.setIfInBounds_toArray, List.set_cons_zero, List.set_cons_succ]
          refine wpAnyH_take (i := 10) (v := ?vv10_1) rfl (by kernel_rfl) (by kernel_rfl) (by kernel_rfl) (fun _ _ _ h => h) (Or.inl ⟨by rfl, ?hy10_1⟩) (by assumption) ?rest10_1
          case hy10_1 => (intro w' hSw; (try dsimp only at hSw); go_simp; try with_reducible rfl)
          try simp only [List.getElem_toArray, List.getElem_cons_zero, List.getElem_cons_succ, Act.put, List.setIfInBounds_toArray, List.set_cons_zero, List.set_cons_succ]
          refine wpAnyH_take (i := 11) (v := ?vv11_1) rfl (by kernel_rfl) (by kernel_rfl) (by kernel_rfl) (fun _ _ _ h => h) (Or.inl ⟨by rfl, ?hy11_1⟩) (by assumption) ?rest11_1
          case hy11_1 => (intro w' hSw; (try dsimp only at hSw); go_simp; try with_reducible rfl)
          try simp only [List.getElem_toArray, List.getElem_cons_zero, List.getElem_cons_succ, Act.put, List.setIfInBounds_toArray, List.set_cons_zero, List.set_cons_succ]
          refine wpAnyH_take (i := 12) (v := ?vv12_1) rfl (by kernel_rfl) (by kernel_rfl) (by kernel_rfl) (fun _ _ _ h => h) (Or.inl ⟨by rfl, ?hy12_1⟩) (by assumption) ?rest12_1
          case hy12_1 => (intro w' hSw; (try dsimp only at hSw); go_simp; try with_reducible rfl)
          try simp only [List.getElem_toArray, List.getElem_cons_zero, List.getElem_cons_succ, Act.put, List.setIfInBounds_toArray, List.set_cons_zero, List.set_cons_succ]
          refine wpAnyH_take (i := 13) (v := ?vv13_1) rfl (by kernel_rfl) (by kernel_rfl) (by kernel_rfl) (fun _ _ _ h => h) (Or.inl ⟨by rfl, ?hy13_1⟩) (by assumption) ?rest13_1
          case hy13_1 => (intro w' hSw; (try dsimp only at hSw); go_simp; try with_reducible rfl)
          try simp only [List.getElem_toArray, List.getElem_cons_zero, List.getElem_cons_succ, Act.put, List.setIfInBounds_toArray, List.set_cons_zero, List.set_cons_succ]
          refine wpAnyH_take (i := 14) (v := ?vv14_1) rfl (by kernel_rfl) (by kernel_rfl) (by kernel_rfl) (fun _ _ _ h => h) (Or.inl ⟨by rfl, ?hy14_1⟩) (by assumption) ?rest14_1
          case hy14_1 => (intro w' hSw; (try dsimp only at hSw); go_simp; try with_reducible rfl)
          try simp only [List.getElem_toArray, List.getElem_cons_zero, List.getElem_cons_succ, Act.put, List.setIfInBounds_toArray, List.set_cons_zero, List.set_cons_succ]
          refine wpAnyH_take (i := 15) (v := ?vv15_1) rfl (by kernel_rfl) (by kernel_rfl) (by kernel_rfl) (fun _ _ _ h => h) (Or.inl ⟨by rfl, ?hy15_1⟩) (by assumption) ?rest15_1
          case hy15_1 => (intro w' hSw; (try dsimp only at hSw); go_simp; try with_reducible rfl)
          try simp only [List.getElem_toArray, List.getElem_cons_zero, List.getElem_cons_succ, Act.put, List.setIfInBounds_toArray, List.set_cons_zero, List.set_cons_succ]
          refine wpAnyH_take (i := 16) (v := ?vv16_1) rfl (by kernel_rfl) (by kernel_rfl) (by kernel_rfl) (fun _ _ _ h => h) (Or.inl ⟨by rfl, ?hy16_1⟩) (by assumption) ?rest16_1
          case hy16_1 => (intro w' hSw; (try dsimp only at hSw); go_simp; try with_reducible rfl)
          try simp only [List.getElem_toArray, List.getElem_cons_zero, List.getElem_cons_succ, Act.put, List.setIfInBounds_toArray, List.set_cons_zero, List.set_cons_succ]
          refine wpAnyH_take (i := 17) (v := ?vv17_1) rfl (by kernel_rfl) (by kernel_rfl) (by kernel_rfl) (fun _ _ _ h => h) (Or.inl ⟨by rfl, ?hy17_1⟩) (by assumption) ?rest17_1
          case hy17_1 => (intro w' hSw; (try dsimp only at hSw); go_simp; try with_reducible rfl)
          try simp only [List.getElem_toArray, List.getElem_cons_zero, List.getElem_cons_succ, Act.put, List.setIfInBounds_toArray, List.set_cons_zero, List.set_cons_succ]
          refine wpAnyH_take (i := 18) (v := ?vv18_1) rfl (by kernel_rfl) (by kernel_rfl) (by kernel_rfl) (fun _ _ _ h => h) (Or.inl ⟨by rfl, ?hy18_1⟩) (by assumption) ?rest18_1
          case hy18_1 => (intro w' hSw; (try dsimp only at hSw); go_simp; try with_reducible rfl)
          try simp only [List.getElem_toArray, List.getElem_cons_zero, List.getElem_cons_succ, Act.put, List.setIfInBounds_toArray, List.set_cons_zero, List.set_cons_succ]
          refine wpAnyH_take (i := 19) (v := ?vv19_1) rfl (by kernel_rfl) (by kernel_rfl) (by kernel_rfl) (fun _ _ _ h => h) (Or.inl ⟨by rfl, ?hy19_1⟩) (by assumption) ?rest19_1
          case hy19_1 => (intro w' hSw; (try dsimp only at hSw); go_simp; try with_reducible rfl)
          try simp only [List.getElem_toArray, List.getElem_cons_zero, List.getElem_cons_succ, Act.put, List.setIfInBounds_toArray, List.set_cons_zero, List.set_cons_succ]
          refine wpAnyH_take (i := 20) (v := ?vv20_1) rfl (by kernel_rfl) (by kernel_rfl) (by kernel_rfl) (fun _ _ _ h => h) (Or.inl ⟨by rfl, ?hy20_1⟩) (by assumption) ?rest20_1
          case hy20_1 => (intro w' hSw; (try dsimp only at hSw); go_simp; try with_reducible rfl)
          try simp only [List.getElem_toArray, List.getElem_cons_zero, List.getElem_cons_succ, Act.put, List.setIfInBounds_toArray, List.set_cons_zero, List.set_cons_succ]
          refine wpAnyH_take (i := 21) (v := sv s) rfl (by kernel_rfl) (by kernel_rfl) (by kernel_rfl) (fun _ _ _ h => h) (Or.inl ⟨by rfl, fun w' hSw => exec_sliceS w' Tryd.underlying9 (x := .tmp 72) (lo := none) (hi := some (.tmp 74)) rfl rfl (SL1 w')⟩) (by assumption) ?_
          try simp only [List.getElem_toArray, List.getElem_cons_zero, List.getElem_cons_succ, Act.put, List.setIfInBounds_toArray, List.set_cons_zero, List.set_cons_succ]
          refine wpAnyH_take (i := 22) (v := ?vv22_1) rfl (by kernel_rfl) (by kernel_rfl) (by kernel_rfl) (fun _ _ _ h => h) (Or.inl ⟨by rfl, ?hy22_1⟩) (by assumption) ?rest22_1
          case hy22_1 => (intro w' hSw; (try dsimp only at hSw); go_simp; try with_reducible rfl)
          try simp only [List.getElem_toArray, List.getElem_cons_zero, List.getElem_cons_succ, Act.put, List.setIfInBounds_toArray, List.set_cons_zero, List.set_cons_succ]
          refine wpAnyH_take (i := 23) (v := ?vv23_1) rfl (by kernel_rfl) (by kernel_rfl) (by kernel_rfl) (fun _ _ _ h => h) (Or.inl ⟨by rfl, ?hy23_1⟩) (by assumption) ?rest23_1
          case hy23_1 => (intro w' hSw; (try dsimp only at hSw); go_simp; try with_reducible rfl)
          try simp only [List.getElem_toArray, List.getElem_cons_zero, List.getElem_cons_succ, Act.put, List.setIfInBounds_toArray, List.set_cons_zero, List.set_cons_succ]
          refine wpAnyH_take (i := 24) (v := ?vv24_1) rfl (by kernel_rfl) (by kernel_rfl) (by kernel_rfl) (fun _ _ _ h => h) (Or.inl ⟨by rfl, ?hy24_1⟩) (by assumption) ?rest24_1
          case hy24_1 => (intro w' hSw; (try dsimp only at hSw); go_simp; try with_reducible rfl)
          try simp only [List.getElem_toArray, List.getElem_cons_zero, List.getElem_cons_succ, Act.put, List.setIfInBounds_toArray, List.set_cons_zero, List.set_cons_succ]
          refine wpAnyH_take (i := 25) (v := ?vv25_1) rfl (by kernel_rfl) (by kernel_rfl) (by kernel_rfl) (fun _ _ _ h => h) (Or.inl ⟨by rfl, ?hy25_1⟩) (by assumption) ?rest25_1
          case hy25_1 => (intro w' hSw; (try dsimp only at hSw); go_simp; try with_reducible rfl)
          try simp only [List.getElem_toArray, List.getElem_cons_zero, List.getElem_cons_succ, Act.put, List.setIfInBounds_toArray, List.set_cons_zero, List.set_cons_succ]
          refine wpAnyH_take (i := 26) (v := ?vv26_1) rfl (by kernel_rfl) (by kernel_rfl) (by kernel_rfl) (fun _ _ _ h => h) (Or.inl ⟨by rfl, ?hy26_1⟩) (by assumption) ?rest26_1
          case hy26_1 => (intro w' hSw; (try dsimp only at hSw); go_simp; try with_reducible rfl)
          try simp only [List.getElem_toArray, List.getElem_cons_zero, List.getElem_cons_succ, Act.put, List.setIfInBounds_toArray, List.set_cons_zero, List.set_cons_succ]
          refine wpAnyH_take (i := 27) (v := ?vv27_1) rfl (by kernel_rfl) (by kernel_rfl) (by kernel_rfl) (fun _ _ _ h => h) (Or.inl ⟨by rfl, ?hy27_1⟩) (by assumption) ?rest27_1
          case hy27_1 => (intro w' hSw; (try dsimp only at hSw); go_simp; try with_reducible rfl)
          try simp only [List.getElem_toArray, List.getElem_cons_zero, List.getElem_cons_succ, Act.put, List.setIfInBounds_toArray, List.set_cons_zero, List.set_cons_succ]
          refine wpAnyH_take (i := 28) (v := ?vv28_1) rfl (by kernel_rfl) (by kernel_rfl) (by kernel_rfl) (fun _ _ _ h => h) (Or.inl ⟨by rfl, ?hy28_1⟩) (by assumption) ?rest28_1
          case hy28_1 => (intro w' hSw; (try dsimp only at hSw); go_simp; try with_reducible rfl)
          try simp only [List.getElem_toArray, List.getElem_cons_zero, List.getElem_cons_succ, Act.put, List.setIfInBounds_toArray, List.set_cons_zero, List.set_cons_succ]
          refine wpAnyH_take (i := 29) (v := sv Z) rfl (by kernel_rfl) (by kernel_rfl) (by kernel_rfl) (fun _ _ _ h => h) (Or.inl ⟨by rfl, fun w' hSw => exec_sliceS w' Tryd.underlying9 (x := .tmp 80) (lo := some (.tmp 82)) (hi := none) rfl rfl (SL2 w')⟩) (by assumption) ?_
          try simp only [List.getElem_toArray, List.getElem_cons_zero, List.getElem_cons_succ, Act.put, List.setIfInBounds_toArray, List.set_cons_zero, List.set_cons_succ]
          refine wpAnyH_take (i := 30) (v := ?vv30_1) rfl (by kernel_rfl) (by kernel_rfl) (by kernel_rfl) (fun _ _ _ h => h) (Or.inl ⟨by rfl, ?hy30_1⟩) (by assumption) ?rest30_1
          case hy30_1 => (intro w' hSw; (try dsimp only at hSw); go_simp; try with_reducible rfl)
          try simp only [List.getElem_toArray, List.getElem_cons_zero, List.getElem_cons_succ, Act.put, List.setIfInBounds_toArray, List.set_cons_zero, List.set_cons_succ]
          refine wpAnyH_take (i := 31) (v := ?vv31_1) rfl (by kernel_rfl) (by kernel_rfl) (by kernel_rfl) (fun _ _ _ h => h) (Or.inl ⟨by rfl, ?hy31_1⟩) (by assumption) ?rest31_1
          case hy31_1 => (intro w' hSw; (try dsimp only at hSw); go_simp; try with_reducible rfl)
          try simp only [List.getElem_toArray, List.getElem_cons_zero, List.getElem_cons_succ, Act.put, List.setIfInBounds_toArray, List.set_cons_zero, List.set_cons_succ]
          refine wpAnyH_take (i := 32) (v := ?vv32_1) rfl (by kernel_rfl) (by kernel_rfl) (by kernel_rfl) (fun _ _ _ h => h) (Or.inl ⟨by rfl, ?hy32_1⟩) (by assumption) ?rest32_1
          case hy32_1 => (intro w' hSw; (try dsimp only at hSw); go_simp; try with_reducible rfl)
          try simp only [List.getElem_toArray, List.getElem_cons_zero, List.getElem_cons_succ, Act.put, List.setIfInBounds_toArray, List.set_cons_zero, List.set_cons_succ]
          refine wpAnyH_ready (rs := [33]) (by kernel_rfl) (by simp) ?_
          refine AllReadyH.cons rfl (fun K hK => ?_) AllReadyH.nil
          go_simp
          go_at_call 23
          with_reducible refine (MZ _).mono ?_
          rintro e1 w8 ⟨rfl, hR⟩
          refine hK.out _ _ (hHeld.trans (hR.mono hHeld.size)) (fun hHeld => ?_)
          clear hK K
          try simp only [List.getElem_toArray, List.getElem_cons_zero, List.getElem_cons_succ, Act.put, List.setIfInBounds_toArray, List.set_cons_zero, List.set_cons_succ]
          refine wpAnyH_take (i := 34) (v := ?vv34_1) rfl (by kernel_rfl) (by kernel_rfl) (by kernel_rfl) (fun _ _ _ h => h) (Or.inl ⟨by rfl, ?hy34_1⟩) (by assumption) ?rest34_1
          case hy34_1 => (intro w' hSw; (try dsimp only at hSw); go_simp; try with_reducible rfl)
          try simp only [List.getElem_toArray, List.getElem_cons_zero, List.getElem_cons_succ, Act.put, List.setIfInBounds_toArray, List.set_cons_zero, List.set_cons_succ]
          refine wpAnyH_take (i := 35) (v := ?vv35_1) rfl (by kernel_rfl) (by kernel_rfl) (by kernel_rfl) (fun _ _ _ h => h) (Or.inl ⟨by rfl, ?hy35_1⟩) (by assumption) ?rest35_1
          case hy35_1 => (intro w' hSw; (try dsimp only at hSw); go_simp; try with_reducible rfl)
          try simp only [List.getElem_toArray, List.getElem_cons_zero, List.getElem_cons_succ, Act.put, List.setIfInBounds_toArray, List.set_cons_zero, List.set_cons_succ]
          refine wpAnyH_take (i := 36) (v := ?vv36_1) rfl (by kernel_rfl) (by kernel_rfl) (by kernel_rfl) (fun _ _ _ h => h) (Or.inl ⟨by rfl, ?hy36_1⟩) (by assumption) ?rest36_1
          case hy36_1 => (intro w' hSw; (try dsimp only at hSw); go_simp; try with_reducible rfl)
          try simp only [List.getElem_toArray, List.getElem_cons_zero, List.getElem_cons_succ, Act.put, List.setIfInBounds_toArray, List.set_cons_zero, List.set_cons_succ]
          refine wpAnyH_take (i := 37) (v := ?vv37_1) rfl (by kernel_rfl) (by kernel_rfl) (by kernel_rfl) (fun _ _ _ h => h) (Or.inl ⟨by rfl, ?hy37_1⟩) (by assumption) ?rest37_1
          case hy37_1 => (intro w' hSw; (try dsimp only at hSw); go_simp; try with_reducible rfl)
          try simp only [List.getElem_toArray, List.getElem_cons_zero, List.getElem_cons_succ, Act.put, List.setIfInBounds_toArray, List.set_cons_zero, List.set_cons_succ]
          refine wpAnyH_take (i := 39) (v := ?vv39_1) rfl (by kernel_rfl) (by kernel_rfl) (by kernel_rfl) (fun _ _ _ h => h) (Or.inl ⟨by rfl, ?hy39_1⟩) (by assumption) ?rest39_1
          case hy39_1 => (intro w' hSw; (try dsimp only at hSw); go_simp; try with_reducible rfl)
          try simp only [List.getElem_toArray, List.getElem_cons_zero, List.getElem_cons_succ, Act.put, List.setIfInBounds_toArray, List.set_cons_zero, List.set_cons_succ]
          refine wpAnyH_ready (rs := [38]) (by kernel_rfl) (by simp) ?_
          refine AllReadyH.cons rfl (fun K hK => ?_) AllReadyH.nil
          go_simp
          go_at_call 14
          with_reducible refine (AG _).mono ?_
          rintro e1 w8 ⟨rfl, hR⟩
          refine hK.out _ _ (hHeld.trans (hR.mono hHeld.size)) (fun hHeld => ?_)
          clear hK K
          try simp only [List.getElem_toArray, List.getElem_cons_zero, List.getElem_cons_succ, Act.put, List.setIfInBounds_toArray, List.set_cons_zero, List.set_cons_succ]
          refine wpAnyH_take (i := 40) (v := ?vv40_1) rfl (by kernel_rfl) (by kernel_rfl) (by kernel_rfl) (fun _ _ _ h => h) (Or.inl ⟨by rfl, ?hy40_1⟩) (by assumption) ?rest40_1
          case hy40_1 => (intro w' hSw; (try dsimp only at hSw); go_simp; try with_reducible rfl)
          try simp only [List.getElem_toArray, List.getElem_cons_zero, List.getElem_cons_succ, Act.put, List.setIfInBounds_toArray, List.set_cons_zero, List.set_cons_succ]
          refine wpAnyH_take (i := 41) (v := ?vv41_1) rfl (by kernel_rfl) (by kernel_rfl) (by kernel_rfl) (fun _ _ _ h => h) (Or.inl ⟨by rfl, ?hy41_1⟩) (by assumption) ?rest41_1
          case hy41_1 => (intro w' hSw; (try dsimp only at hSw); go_simp; try with_reducible rfl)
          try simp only [List.getElem_toArray, List.getElem_cons_zero, List.getElem_cons_succ, Act.put, List.setIfInBounds_toArray, List.set_cons_zero, List.set_cons_succ]
          refine wpAnyH_done (by kernel_rfl) ?_ _
          go_wp2_with fail
          go_meet
          exact hHeld
        · have f0 : (F == 0) = false := by rw [beq_eq_false_iff_ne]; exact hF0
          go_wp2_with fail
          go_meet
          exact HB2.out
      case rest =>
        have HC := Lib.hid hcut
        clear hcut HX HB2
        by_cases hE0 : E = 0
        · obtain ⟨i1, i2, i3, i4, i5, i6, i7, i8, i9⟩ := HL.out hE0
          subst hE0
          have MN : ∀ W, Calls Tryd.prog 19 #[.int .i64 (s.length : Int)] W fun e w' => e = .returned (.int .i64 (L.length : Int)) ∧ W = w' := fun W => by
            have := @many_top W (s.length : Int) (by omega) (by omega)
            rw [manyI_nat, ← i1] at this
            exact this
          have GE : ∀ W (k : Nat), k < L.length → ∃ bo, Calls Tryd.prog 12 #[sv (L.getD k [])] W fun e w' => e = .returned (.tuple #[.int .i64 a, .int .i64 (p + k), sv bo, .bool true]) ∧ Below W.heap.size W w' := fun W k hk => by
            obtain ⟨j1, j2, j3, j4⟩ := i5 k hk
            have := @get_any W (L.getD k []) (by omega)
            rw [j1, j2, j3] at this
            exact ⟨_, this⟩
          have JO : ∀ W A c, Tx W A (L ++ xs) → Calls Tryd.prog 21 #[.slice A (L.length + xs.length) c, .int .i64 a, .int .i64 p] W fun e w' => e = .returned (.tuple #[sv s, .int .i64 (L.length : Int), .bool true]) ∧ Below W.heap.size W w' := fun W A c hW => by
            have := join_any (L ++ xs) A c a p hW i9 (by rw [List.length_append]; omega) (by omega) (by omega)
            unfold JoPost at this
            rw [i6, i7, i8, List.length_append] at this
            exact this
          have HGE := Lib.hid GE
          clear i1 i5 i6 i7 i8 i9 HL HL0 GE
          go_wp2_with (first
            | (go_at_call 16; with_reducible refine (SP _).mono ?_; rintro e w3 ⟨B, d, rfl, ht3, hd1, hd2, hb3⟩; have HB3 := Lib.hid (HC.out.trans (hb3.mono HC.out.size)); have HT3 := Lib.hid ht3; clear hb3 ht3)
            | (go_at_call 19; with_reducible refine (MN _).mono ?_; rintro e w4 ⟨rfl, rfl⟩))
          go_loopw [17] (fun i wr => ∃ k : Nat, k ≤ L.length ∧ i = .int .i64 k ∧ Tx wr B L ∧ Below w.heap.size w wr) (fun i _ => L.length - (intOf i).toNat)
          case atStart => exact ⟨0, by omega, rfl, HT3.out, HB3.out⟩
          case round =>
            obtain ⟨k, hk, rfl, ht, hbl⟩ := hrel
            have HTR := Lib.hid ht
            have HBL := Lib.hid hbl
            clear hbl
            by_cases hlt : k < L.length
            · have hlt' : (k : Int) < (L.length : Int) := by omega
              obtain ⟨b, o, rfl, c1⟩ := ht.cell hlt
              obtain ⟨bo, GEk⟩ := HGE.out wr k hlt
              obtain ⟨y, hy⟩ : ∃ y, y = L.getD k [] := ⟨_, rfl⟩
              rw [← hy] at c1 GEk
              have hpk : p + (k : Int) ≤ 9223372036854775807 := by omega
              have hpk0 : -9223372036854775808 ≤ p + (k : Int) := by omega
              clear ht hy JO
              go_wp2_with (go_at_call 12; with_reducible refine GEk.mono ?_; rintro e w5 ⟨rfl, hb5⟩)
              go_roundw
              case rel => exact ⟨k + 1, by omega, by go_num, HTR.out.below hb5, HBL.out.trans (hb5.mono HBL.out.size)⟩
              case measure => simp [intOf]; omega
            · obtain rfl : k = L.length := by omega
              clear ht hlt hk
              go_wp2_with (first
                | (at_builtin; obtain ⟨v7, w7, hr7, HR7⟩ := Ro.app (Ro.lit wr) (HTR.out.below (below_alloc wr (.cells #[] 9))) d (by show 0 + L.length ≤ 1000000; omega); rw [List.nil_append] at HR7; refine wpList_builtin2_run _ rfl .append Builtin.append_ _ _ _ _ rfl (fun _ _ _ => rfl) _ _ rfl rfl hr7 ?_; have HT7 := Lib.hid ((HT.out.below HBL.out).below HR7.2); clear hr7)
                | (at_builtin; obtain ⟨v8, w8, hr8, HR8⟩ := Ro.app HR7 HT7.out c (by omega); refine wpList_builtin2_run _ rfl .append Builtin.append_ _ _ _ _ rfl (fun _ _ _ => rfl) _ _ rfl rfl hr8 ?_; obtain ⟨A8, c8, rfl, hT8, _, _, _⟩ := HR8.form; have HB8 := Lib.hid (HBL.out.trans (HR8.2.mono HBL.out.size)); clear hr8 HR8 HR7)
                | (go_at_call 21; with_reducible refine (JO _ _ _ hT8).mono ?_; rintro e w9 ⟨rfl, hb9⟩))
              go_ret
              exact ⟨rfl, HB8.out.trans (hb9.mono HB8.out.size)⟩
        · have e1' : (E != 0) = true := by rw [bne_iff_ne]; exact hE0
          have hl0 := HL0.out hE0
          obtain rfl : L = [] := List.length_eq_zero_iff.1 hl0
          clear HL HL0 hl0 hE0
          go_wp2_with (go_at_call 16; with_reducible refine (SP _).mono ?_; rintro e w3 ⟨B, d, rfl, ht3, hd1, hd2, hb3⟩)
          go_ret
          exact ⟨rfl, HC.out.trans (hb3.mono HC.out.size)⟩
end Go.Proofs.YteplndmgfaceiaaDoor

