/-
  FrameRow: the walk.
-/
import Derived.Deep.RegionHeld3
import Derived.Deep.CutRange
import Derived.Test.YteplndmgfaceiaaDoorFLaw
import Derived.Test.YteplndmgfaceiaaDoorFRowP
import Derived.Test.YteplndmgfaceiaaDoorFSplit2
namespace Go.Proofs.YteplndmgfaceiaaDoor
set_option linter.unusedSimpArgs false
set_option linter.unusedVariables false
open Go Go.RowKit
set_option maxRecDepth 100000

section
variable {P : Program} (w : World) {o : Oper} {a : Act}
theorem exec_load1 {t : TypeId} {x : Operand} (ho : o.op = .load t x) {b i : Nat} (hd : a.eval x = .pointer (some ⟨b, i, none⟩)) {v : Value} (hc : w.cell? ⟨b, i, none⟩ = some v) {d : TypeDesc} (hu : P.underlying t = some d) (hn : (match d with | .struct _ | .array _ _ => true | _ => false) = false) :
    (execOp a.eval o).run P w = .ok (.value v) w := by
  unfold execOp
  have hagg : (isAgg t).run P w = .ok false w := by
    unfold isAgg
    rw [Sem.run_bind, run_underlying hu w]
    cases d <;> simp_all
  simp [ho, hd, Instr.loadAt, Instr.sureAddr, loadVar, hagg, run_load, hc]
end
theorem tx_grown {W W' : World} {A : Option Addr} {ys : List (List UInt8)} {row : Option Nat} (h : Tx W A ys) (hg : W.grownBy W' row) (hr : ∀ b o, A = some ⟨b, o, none⟩ → some b ≠ row) : Tx W' A ys := by
  rcases h with rfl | ⟨b, o, rfl, hl, hc⟩
  · exact .inl rfl
  · refine .inr ⟨b, o, rfl, Nat.lt_of_lt_of_le hl hg.size, fun k hk => ?_⟩
    have hb := hg.block b hl (hr b o rfl)
    rw [← hc k hk]
    unfold World.cell?
    simp only [hb]
/-- A number is appended; the texts stay, and a new row of others. -/
theorem Ri.app2 {W0 W : World} {v u : Value} {xs ys : List (List UInt8)} {f : Nat → Nat} {k : Nat} {A : Option Addr} (h : Ro W0 W v xs) (hi : Ri W0 W u f k) (hk : k ≤ 100000) (hy : Tx W A ys) (hr : ∀ b o, A = some ⟨b, o, none⟩ → some b ≠ u.ownBlock) :
    ∃ u' W', (Builtin.append_ #[44, 44] 44 #[u, .slice (some ⟨W.heap.size, 0, none⟩) 1 1]).run Tryd.prog (W.alloc (.cells #[.int .i64 (f k : Nat)] 3)) = .ok u' W' ∧ Ri W0 W' u' f (k + 1) ∧ Ro W0 W' v xs ∧ Tx W' A ys := by
  obtain ⟨u', W', h1, h2, h3⟩ := hi.app h.2.size hk
  refine ⟨u', W', h1, h2, ⟨owns_apart (h.step (below_alloc W _)).1 (hi.step (below_alloc W (.cells #[.int .i64 (f k : Nat)] 3))) (by decide) h3, ?_⟩, tx_grown (hy.below (below_alloc W _)) h3 hr⟩
  exact Below.grown (h.step (below_alloc W _)).2 h3 (h.step (below_alloc W _)).2.size fun j hj => ((hi.step (below_alloc W (.cells #[.int .i64 (f k : Nat)] 3))).lt j hj).1

set_option maxHeartbeats 8000000 in
theorem frameRow_walk {w : World} (a p : Int) (A0 : Option Addr) (c0 : Nat) (xs : List (List UInt8)) (wa : (Lit.int .i64 a).wf = true) (wp : (Lit.int .i64 p).wf = true)
    (hS : SR w (.slice A0 xs.length c0) xs) (hn : xs.length ≤ 140737488351232) (hx : ∀ x ∈ xs, x.length ≤ 9223372036854775807) (hM : ML w) :
    Calls Tryd.prog 8 #[.int .i64 a, .int .i64 p, .slice A0 xs.length c0] w fun e w' => e = .returned (.bool true) ∧ Below w.heap.size w w' := by
  obtain ⟨p0, p1⟩ := wf_bounds wp
  have HT := Lib.hid hS.tx
  have AW := fun W => awake_any W
  clear wa wp hS
  by_cases h1 : (40 : Int) < (xs.length : Int)
  · clear hx
    go_enter Tryd.func8, Tryd.ntmps8
    go_wp2_with (go_at_call 9; with_reducible refine (AW _).mono ?_; rintro e w1 ⟨rfl, hb1⟩)
    go_ret
    exact ⟨rfl, hb1⟩
  · have h40 : xs.length ≤ 40 := by omega
    obtain ⟨n, hne⟩ : ∃ n, n = a.toNat := ⟨_, rfl⟩
    obtain ⟨q, hqe⟩ : ∃ q, q = p.toNat := ⟨_, rfl⟩
    have HNQ := Lib.hid (And.intro hne hqe)
    clear hx hne hqe
    go_enter Tryd.func8, Tryd.ntmps8
    go_wp2_with (go_at_call 9; with_reducible refine (AW _).mono ?_; rintro e w1 ⟨rfl, hb1⟩)
    have HB1 := Lib.hid hb1
    have HT1 := Lib.hid (HT.out.below hb1)
    clear hb1 AW
    go_loopw [7, 8, 9] (fun va vb i wr => ∃ k : Nat, k ≤ xs.length ∧ i = .int .i64 k ∧ Ro w1 wr va (allK n q xs k) ∧ Ri w1 wr vb (lenK n q xs) k ∧ (k = 0 ∨ mayB a p = true ∧ q + lenK n q xs k ≤ 1024)) (fun _ _ i _ => xs.length - (intOf i).toNat)
    case atStart => exact ⟨0, by omega, rfl, Ro.nil w1, Ri.nil w1 _, .inl rfl⟩
    case round =>
      obtain ⟨k, hk, rfl, hro, hri, hinv⟩ := hrel
      have hKl : (allK n q xs k).length = lenK n q xs k := rfl
      have HINV := Lib.hid hinv
      have hKb : lenK n q xs k ≤ 1024 := by
        rcases hinv with rfl | ⟨_, h⟩
        · show ([] : List (List UInt8)).length ≤ 1024; simp
        · omega
      have hpk : p + (lenK n q xs k : Nat) ≤ 9223372036854775807 := by
        rcases hinv with rfl | ⟨h, h'⟩
        · show p + (([] : List (List UInt8)).length : Nat) ≤ _; simp; omega
        · have := mayB_iff.1 h; omega
      have hpk0 : -9223372036854775808 ≤ p + (lenK n q xs k : Nat) := by omega
      have HKX := Lib.hid (allK_lens n q xs k)
      have HKE := Lib.hid (show allK n q xs k = allK n q xs k from rfl)
      clear hinv
      obtain ⟨K, hK⟩ : ∃ K, K = allK n q xs k := ⟨_, rfl⟩
      have HKK := Lib.hid hK
      rw [← hK] at hro hKl HKX
      rw [← hKl] at hKb hpk hpk0
      have HKL := Lib.hid hKl
      obtain ⟨A, c, rfl, htA, hcA, _, _⟩ := hro.form
      obtain ⟨B, d, rfl, hcB⟩ := hri.form
      have HRO := Lib.hid hro
      have HRI := Lib.hid hri
      have HTA := Lib.hid htA
      have HCB := Lib.hid hcB
      have HCA := Lib.hid hcA
      have hBw := hro.2
      have HBW := Lib.hid (HB1.out.trans (hBw.mono HB1.out.size))
      have HTX := Lib.hid (HT1.out.below hBw)
      clear hro hri htA hcB hcA hBw hK hKl
      by_cases hlt : k < xs.length
      · have hlt' : (k : Int) < (xs.length : Int) := by omega
        obtain ⟨b, o, rfl, c1⟩ := HTX.out.cell hlt
        obtain ⟨y, hy⟩ : ∃ y, y = xs.getD k [] := ⟨_, rfl⟩
        rw [← hy] at c1
        have HY := Lib.hid hy
        clear hy
        by_cases hyl : (3000 : Int) < (y.length : Int)
        · go_wp2_with fail
          go_ret
          exact ⟨rfl, HBW.out⟩
        · obtain ⟨E, hE⟩ : ∃ e, e = splE a (p + (K.length : Int)) y.length := ⟨_, rfl⟩
          obtain ⟨L, hL⟩ : ∃ l, l = splL a (p + (K.length : Int)) y := ⟨_, rfl⟩
          have SP : ∀ W, Calls Tryd.prog 16 #[.int .i64 a, .int .i64 (p + (K.length : Int)), sv y] W fun e w' => ∃ A c, e = .returned (.tuple #[.slice A L.length c, .int .i64 E]) ∧ Tx w' A L ∧ (∀ b o, A = some ⟨b, o, none⟩ → W.heap.size ≤ b) ∧ Below W.heap.size W w' := fun W => by
            have := @split2_any W a (p + (K.length : Int)) y (by omega)
            unfold SpPost2 at this
            rw [← hE, ← hL] at this
            exact this
          by_cases hE0 : E = 0
          · have hok := splE_ok.1 (hE.symm.trans hE0)
            obtain ⟨hma, hmp⟩ := hok
            have hmab := mayB_iff.1 hma
            have hp : 0 ≤ p ∧ p ≤ 1023 ∧ mayB a p = true := by
              rcases HINV.out with h | ⟨h, _⟩
              · subst h
                have e0 : K = [] := by rw [HKK.out]; rfl
                rw [e0] at hma
                have : p + (([] : List (List UInt8)).length : Int) = p := by simp
                rw [this] at hma
                have h2 := mayB_iff.1 hma
                exact ⟨h2.2.2.1, h2.2.2.2, hma⟩
              · have h2 := mayB_iff.1 h
                exact ⟨h2.2.2.1, h2.2.2.2, h⟩
            have hqp : (q : Int) = p := by rw [HNQ.out.2]; omega
            have hLe : L = rowL n (q + lenK n q xs k) (recL y) (manyN y.length) := by
              rw [hL, splL, if_pos (hE.symm.trans hE0)]
              congr 1
              · exact HNQ.out.1.symm
              · have := HKL.out; omega
            have HNX := Lib.hid (show K ++ L = allK n q xs (k + 1) by rw [allK_succ, ← HKK.out, hLe, ← HY.out])
            have HIN := Lib.hid (show mayB a p = true ∧ q + lenK n q xs (k + 1) ≤ 1024 from ⟨hp.2.2, by
              rw [lenK_succ, ← HY.out]
              have h1 := HKL.out
              omega⟩)
            have hLl : L.length ≤ 1024 := by
              rw [hLe, rowL_length]
              have h1 := HKL.out
              omega
            subst hE0
            clear hE hL hma hmp hmab hp hqp hLe
            go_wp2_with (first
              | (go_at_call 16; with_reducible refine (SP _).mono ?_; rintro e w4 ⟨A4, c4, rfl, ht4, hf4, hb4⟩; have HT4 := Lib.hid ht4; have HF4 := Lib.hid hf4; have HB4 := Lib.hid hb4; clear ht4 hf4 hb4)
              | (at_builtin; obtain ⟨u5, w5, hr5, HI5, HO5, HT5⟩ := Ri.app2 (HRO.out.step HB4.out) (HRI.out.step HB4.out) (by omega) HT4.out (fun b o e1 e2 => by have h1 := HF4.out b o e1; have h2 := (HRI.out.lt b (by rw [← e2])).2; omega); rw [← HKL.out] at hr5; refine wpList_builtin2_run _ rfl .append Builtin.append_ _ _ _ _ rfl (fun _ _ _ => rfl) (.slice B k d) (.slice (some ⟨w4.heap.size, 0, none⟩) 1 1) rfl rfl hr5 ?_; clear hr5)
              | (at_builtin; obtain ⟨v6, w6, hr6, HO6, HI6⟩ := Ro.app' HO5 HI5 HT5 c4 (by omega); refine wpList_builtin2_run _ rfl .append Builtin.append_ _ _ _ _ rfl (fun _ _ _ => rfl) (.slice A K.length c) (.slice A4 L.length c4) rfl rfl hr6 ?_; clear hr6))
            go_roundw
            case rel => exact ⟨k + 1, by omega, by go_num, by rw [← HNX.out]; exact HO6, HI6, .inr HIN.out⟩
            case measure => simp [intOf]; omega
          · have hE1 : (E != 0) = true := by rw [bne_iff_ne]; exact hE0
            clear hE hL hE0
            go_wp2_with (go_at_call 16; with_reducible refine (SP _).mono ?_; rintro e w4 ⟨A4, c4, rfl, ht4, hf4, hb4⟩)
            go_ret
            exact ⟨rfl, HBW.out.trans (hb4.mono HBW.out.size)⟩
      · obtain rfl : k = xs.length := by omega
        clear hlt hk
        go_upto_region 16 with (at_builtin; obtain ⟨v7, w7, hr7, HR7⟩ := Ro.app (Ro.lit wr) (HTA.out.below (below_alloc wr (.cells #[] 9))) c (by show 0 + K.length ≤ 1000000; omega); rw [List.nil_append] at HR7; refine wpList_builtin2_run _ rfl .append Builtin.append_ _ _ _ _ rfl (fun _ _ _ => rfl) (.slice (some ⟨wr.heap.size, 0, none⟩) 0 0) (.slice A K.length c) rfl rfl hr7 ?_; clear hr7)
        obtain ⟨A7, c7, rfl, hT7, _, _, _⟩ := HR7.form
        have HT7 := Lib.hid hT7
        have HA7 := Lib.hid (HTA.out.below HR7.2)
        have HX7 := Lib.hid (HTX.out.below HR7.2)
        have HI7 := Lib.hid (HRI.out.step HR7.2)
        have HB7 := Lib.hid (HBW.out.trans (HR7.2.mono HBW.out.size))
        clear hT7 HR7
        go_wp2_with fail
        go_loopw [13] (fun i W => ∃ j : Nat, j ≤ xs.length ∧ i = .int .i64 j ∧ Below w7.heap.size w7 W) (fun i _ => xs.length - (intOf i).toNat)
        case atStart => exact ⟨0, by omega, rfl, Below.refl _ _⟩
        case round =>
          obtain ⟨j, hj, rfl, hbl⟩ := hrel
          have HBL2 := Lib.hid hbl
          clear hbl
          by_cases hlt : j < xs.length
          · have hlt' : (j : Int) < (xs.length : Int) := by omega
            have hinv := HINV.out.resolve_left (by omega)
            obtain ⟨n', q', ha', hp', n1, n2, n3⟩ := mayB_nat hinv.1
            obtain ⟨hn1, hq1⟩ := HNQ.out
            have han : a = (n : Int) := by rw [hn1, ha']; rfl
            have hpq : p = (q : Int) := by rw [hq1, hp']; rfl
            have hnn : n = n' := by omega
            obtain ⟨B', d', e', hcB⟩ := HI7.out.form
            simp only [Value.slice.injEq] at e'
            obtain ⟨rfl, _, rfl⟩ := e'
            obtain ⟨gB, rfl, cj⟩ := hcB j hlt
            have hls := lenK_succ n q xs j
            have hlm := lenK_mono n q xs (show j + 1 ≤ xs.length by omega)
            have hmp := manyN_pos (xs.getD j []).length
            have htold := row_told (a := n) (p := q) (xs := xs) (i := j) (n := xs.length) ⟨by omega, by omega⟩ hlt hinv.2
            rw [← HKK.out] at htold
            obtain ⟨b0, o0, rfl, cx⟩ := HX7.out.cell hlt
            have hKl := HKL.out
            obtain ⟨gA, oA, hAe, _⟩ := HA7.out.cell (k := 0) (by omega)
            have CB1 : j + 1 < xs.length → ∀ W, Below w7.heap.size w7 W → W.cell? ⟨gB, j + 1, none⟩ = some (.int .i64 (lenK n q xs (j + 1) : Nat)) := fun h W hW => by
              obtain ⟨g', e2, c2⟩ := hcB (j + 1) h
              simp only [Option.some.injEq, Addr.mk.injEq, and_true] at e2
              subst e2
              exact ((HI7.out.step hW).form.elim fun B2 h2 => by
                obtain ⟨d2, e3, h3⟩ := h2
                simp only [Value.slice.injEq] at e3
                obtain ⟨rfl, _, rfl⟩ := e3
                obtain ⟨g3, e4, c4⟩ := h3 (j + 1) h
                simp only [Option.some.injEq, Addr.mk.injEq, and_true] at e4
                subst e4
                exact c4)
            have CBj : ∀ W, Below w7.heap.size w7 W → W.cell? ⟨gB, j, none⟩ = some (.int .i64 (lenK n q xs j : Nat)) := fun W hW => by
              exact ((HI7.out.step hW).form.elim fun B2 h2 => by
                obtain ⟨d2, e3, h3⟩ := h2
                simp only [Value.slice.injEq] at e3
                obtain ⟨rfl, _, rfl⟩ := e3
                obtain ⟨g3, e4, c4⟩ := h3 j hlt
                simp only [Option.some.injEq, Addr.mk.injEq, and_true] at e4
                subst e4
                exact c4)
            have CX : ∀ W, Below w7.heap.size w7 W → W.cell? ⟨b0, o0 + j, none⟩ = some (sv (xs.getD j [])) := fun W hW => by
              obtain ⟨b1, o1, e1, c1⟩ := (HX7.out.below hW).cell hlt
              simp only [Option.some.injEq, Addr.mk.injEq, and_true] at e1
              obtain ⟨rfl, rfl⟩ := e1
              exact c1
            obtain ⟨y, hy⟩ : ∃ y, y = xs.getD j [] := ⟨_, rfl⟩
            rw [← hy] at hls hmp htold CX
            obtain ⟨lj, hlj⟩ : ∃ l, l = lenK n q xs j := ⟨_, rfl⟩
            obtain ⟨nx, hnx⟩ : ∃ l, l = lenK n q xs (j + 1) := ⟨_, rfl⟩
            obtain ⟨mj, hmj⟩ : ∃ l, l = manyN y.length := ⟨_, rfl⟩
            rw [← hlj] at hls htold CBj
            rw [← hnx] at hls CB1 hlm
            rw [← hmj] at hls hmp htold
            have hKl2 := HINV.out.resolve_left (by omega)
            have hx1 : ((lj : Int) + (mj : Int) != (nx : Int)) = false := by rw [hls]; push_cast; simp
            have hx2 : ¬ j + 1 < xs.length → ((lj : Int) + (mj : Int) != (K.length : Int)) = false := fun h => by
              obtain hjj : j + 1 = xs.length := by omega
              rw [hKl, ← hjj, ← hnx, hls]; push_cast; simp
            have hljK : lj ≤ K.length := by omega
            have hnxK : nx ≤ K.length := by omega
            have hdl : (K.drop lj).length = K.length - lj := List.length_drop
            have JO : ∀ W, Below w7.heap.size w7 W → Calls Tryd.prog 21 #[.slice (fromA A lj c) (K.length - lj) (c - lj), .int .i64 a, .int .i64 (p + (lj : Int))] W fun e w' => e = .returned (.tuple #[sv y, .int .i64 (mj : Int), .bool true]) ∧ Below W.heap.size W w' := fun W hW => by
              have := join_any (K.drop lj) (fromA A lj c) (c - lj) a (p + (lj : Int)) ((HA7.out.below hW).drop HCA.out) (fun z hz => HKX.out z (List.mem_of_mem_drop hz)) (by rw [hdl]; omega) (by omega) (by omega)
              unfold JoPost at this
              rw [hdl] at this
              rw [han, hpq] at this ⊢
              rw [htold.1, htold.2.1, htold.2.2] at this
              exact this
            have SL : ∀ W : World, (Instr.slice 26 (.slice A K.length c) (some (.int .i64 (lj : Int))) none none).run Tryd.prog W = .ok (.slice (fromA A lj c) (K.length - lj) (c - lj)) W := fun W => slice_row (W := W) A K.length c lj hljK (by rw [hAe]; simp)
            have CB := Lib.hid CBj
            have HCX := Lib.hid CX
            have HC1 := Lib.hid CB1
            have hplj : p + (lj : Int) ≤ 9223372036854775807 := by omega
            have hplj0 : -9223372036854775808 ≤ p + (lj : Int) := by omega
            have hwp : IntKind.i64.wrap (p + (lj : Int)) = p + (lj : Int) := IntWalk.i64_in _ (by omega)
            have hmb : mj ≤ 2000 := by omega
            have hlb : lj ≤ 2000 := by omega
            clear hinv ha' hp' hn1 hq1 han hpq hnn hcB cj hls hlm hmp htold cx hAe CB1 CBj CX hy hlj hnx hmj hKl2 hdl hKl n1 n2 n3
            go_wp2_with fail
            refine wp_region_held_drew (S := fun W => Below w7.heap.size w7 W) (by kernel_rfl) HBL2.out.drew (fun hHeld => ?_)
            refine wpAnyH_take (i := 0) (v := ?vv0_1) rfl (by kernel_rfl) (by kernel_rfl) (by kernel_rfl) (fun _ _ _ h => h) (Or.inl ⟨by rfl, ?hy0_1⟩) (by assumption) ?rest0_1
            case hy0_1 => (intro w' hSw; (try dsimp only at hSw); go_simp; try with_reducible rfl)
            try simp only [List.getElem_toArray, List.getElem_cons_zero, List.getElem_cons_succ, Act.put, List.setIfInBounds_toArray, List.set_cons_zero, List.set_cons_succ]
            refine wpAnyH_take (i := 1) (v := ?vv1_1) rfl (by kernel_rfl) (by kernel_rfl) (by kernel_rfl) (fun _ _ _ h => h) (Or.inl ⟨by rfl, ?hy1_1⟩) (by assumption) ?rest1_1
            case hy1_1 => (intro w' hSw; (try dsimp only at hSw); go_simp; try with_reducible rfl)
            try simp only [List.getElem_toArray, List.getElem_cons_zero, List.getElem_cons_succ, Act.put, List.setIfInBounds_toArray, List.set_cons_zero, List.set_cons_succ]
            refine wpAnyH_take (i := 2) (v := ?vv2_1) rfl (by kernel_rfl) (by kernel_rfl) (by kernel_rfl) (fun _ _ _ h => h) (Or.inl ⟨by rfl, ?hy2_1⟩) (by assumption) ?rest2_1
            case hy2_1 => (intro w' hSw; (try dsimp only at hSw); go_simp; try with_reducible rfl)
            try simp only [List.getElem_toArray, List.getElem_cons_zero, List.getElem_cons_succ, Act.put, List.setIfInBounds_toArray, List.set_cons_zero, List.set_cons_succ]
            refine wpAnyH_take (i := 3) (v := ?vv3_1) rfl (by kernel_rfl) (by kernel_rfl) (by kernel_rfl) (fun _ _ _ h => h) (Or.inl ⟨by rfl, ?hy3_1⟩) (by assumption) ?rest3_1
            case hy3_1 => (intro w' hSw; (try dsimp only at hSw); go_simp; try with_reducible rfl)
            try simp only [List.getElem_toArray, List.getElem_cons_zero, List.getElem_cons_succ, Act.put, List.setIfInBounds_toArray, List.set_cons_zero, List.set_cons_succ]
            refine wpAnyH_take (i := 4) (v := .int .i64 (lj : Int)) rfl (by kernel_rfl) (by kernel_rfl) (by kernel_rfl) (fun _ _ _ h => h) (Or.inl ⟨by rfl, fun w' hSw => exec_load1 w' rfl rfl (CB.out _ hSw) Tryd.underlying3 rfl⟩) (by assumption) ?_
            try simp only [List.getElem_toArray, List.getElem_cons_zero, List.getElem_cons_succ, Act.put, List.setIfInBounds_toArray, List.set_cons_zero, List.set_cons_succ]
            refine wpAnyH_take (i := 6) (v := ?vv6_1) rfl (by kernel_rfl) (by kernel_rfl) (by kernel_rfl) (fun _ _ _ h => h) (Or.inl ⟨by rfl, ?hy6_1⟩) (by assumption) ?rest6_1
            case hy6_1 => (intro w' hSw; (try dsimp only at hSw); go_simp; try with_reducible rfl)
            try simp only [List.getElem_toArray, List.getElem_cons_zero, List.getElem_cons_succ, Act.put, List.setIfInBounds_toArray, List.set_cons_zero, List.set_cons_succ]
            refine wpAnyH_take (i := 7) (v := ?vv7_1) rfl (by kernel_rfl) (by kernel_rfl) (by kernel_rfl) (fun _ _ _ h => h) (Or.inl ⟨by rfl, ?hy7_1⟩) (by assumption) ?rest7_1
            case hy7_1 => (intro w' hSw; (try dsimp only at hSw); go_simp; try with_reducible rfl)
            try simp only [List.getElem_toArray, List.getElem_cons_zero, List.getElem_cons_succ, Act.put, List.setIfInBounds_toArray, List.set_cons_zero, List.set_cons_succ]
            refine wpAnyH_take (i := 8) (v := ?vv8_1) rfl (by kernel_rfl) (by kernel_rfl) (by kernel_rfl) (fun _ _ _ h => h) (Or.inl ⟨by rfl, ?hy8_1⟩) (by assumption) ?rest8_1
            case hy8_1 => (intro w' hSw; (try dsimp only at hSw); go_simp; try with_reducible rfl)
            try simp only [List.getElem_toArray, List.getElem_cons_zero, List.getElem_cons_succ, Act.put, List.setIfInBounds_toArray, List.set_cons_zero, List.set_cons_succ]
            refine wpAnyH_take (i := 9) (v := ?vv9_1) rfl (by kernel_rfl) (by kernel_rfl) (by kernel_rfl) (fun _ _ _ h => h) (Or.inl ⟨by rfl, ?hy9_1⟩) (by assumption) ?rest9_1
            case hy9_1 => (intro w' hSw; (try dsimp only at hSw); go_simp; try with_reducible rfl)
            try simp only [List.getElem_toArray, List.getElem_cons_zero, List.getElem_cons_succ, Act.put, List.setIfInBounds_toArray, List.set_cons_zero, List.set_cons_succ]
            refine wpAnyH_take (i := 10) (v := ?vv10_1) rfl (by kernel_rfl) (by kernel_rfl) (by kernel_rfl) (fun _ _ _ h => h) (Or.inl ⟨by rfl, ?hy10_1⟩) (by assumption) ?rest10_1
            case hy10_1 => (intro w' hSw; (try dsimp only at hSw); go_simp; try with_reducible rfl)
            try simp only [List.getElem_toArray, List.getElem_cons_zero, List.getElem_cons_succ, Act.put, List.setIfInBounds_toArray, List.set_cons_zero, List.set_cons_succ]
            refine wpAnyH_take (i := 11) (v := .int .i64 (lj : Int)) rfl (by kernel_rfl) (by kernel_rfl) (by kernel_rfl) (fun _ _ _ h => h) (Or.inl ⟨by rfl, fun w' hSw => exec_load1 w' rfl rfl (CB.out _ hSw) Tryd.underlying3 rfl⟩) (by assumption) ?_
            try simp only [List.getElem_toArray, List.getElem_cons_zero, List.getElem_cons_succ, Act.put, List.setIfInBounds_toArray, List.set_cons_zero, List.set_cons_succ]
            refine wpAnyH_take (i := 12) (v := ?vv12_1) rfl (by kernel_rfl) (by kernel_rfl) (by kernel_rfl) (fun _ _ _ h => h) (Or.inl ⟨by rfl, ?hy12_1⟩) (by assumption) ?rest12_1
            case hy12_1 => (intro w' hSw; (try dsimp only at hSw); go_simp; try with_reducible rfl)
            try simp only [List.getElem_toArray, List.getElem_cons_zero, List.getElem_cons_succ, Act.put, List.setIfInBounds_toArray, List.set_cons_zero, List.set_cons_succ]
            refine wpAnyH_take (i := 5) (v := .slice (fromA A lj c) (K.length - lj) (c - lj)) rfl (by kernel_rfl) (by kernel_rfl) (by kernel_rfl) (fun _ _ _ h => h) (Or.inl ⟨by rfl, fun w' hSw => exec_slice_run w' Tryd.underlying26 (x := .tmp 71) (lo := some (.tmp 75)) (hi := none) rfl rfl (SL w')⟩) (by assumption) ?_
            try simp only [List.getElem_toArray, List.getElem_cons_zero, List.getElem_cons_succ, Act.put, List.setIfInBounds_toArray, List.set_cons_zero, List.set_cons_succ]
            refine wpAnyH_ready (rs := [13]) (by kernel_rfl) (by simp) ?_
            refine AllReadyH.cons rfl (fun K hK => ?_) AllReadyH.nil
            go_simp
            go_at_call 21
            with_reducible refine (JO _ hHeld).mono ?_
            rintro e1 w8 ⟨rfl, hR⟩
            refine hK.out _ _ (hHeld.trans (hR.mono hHeld.size)) (fun hHeld => ?_)
            clear hK K
            try simp only [List.getElem_toArray, List.getElem_cons_zero, List.getElem_cons_succ, Act.put, List.setIfInBounds_toArray, List.set_cons_zero, List.set_cons_succ]
            refine wpAnyH_take (i := 14) (v := ?vv14_1) rfl (by kernel_rfl) (by kernel_rfl) (by kernel_rfl) (fun _ _ _ h => h) (Or.inl ⟨by rfl, ?hy14_1⟩) (by assumption) ?rest14_1
            case hy14_1 => (intro w' hSw; (try dsimp only at hSw); go_simp; try with_reducible rfl)
            try simp only [List.getElem_toArray, List.getElem_cons_zero, List.getElem_cons_succ, Act.put, List.setIfInBounds_toArray, List.set_cons_zero, List.set_cons_succ]
            refine wpAnyH_take (i := 15) (v := ?vv15_1) rfl (by kernel_rfl) (by kernel_rfl) (by kernel_rfl) (fun _ _ _ h => h) (Or.inl ⟨by rfl, ?hy15_1⟩) (by assumption) ?rest15_1
            case hy15_1 => (intro w' hSw; (try dsimp only at hSw); go_simp; try with_reducible rfl)
            try simp only [List.getElem_toArray, List.getElem_cons_zero, List.getElem_cons_succ, Act.put, List.setIfInBounds_toArray, List.set_cons_zero, List.set_cons_succ]
            refine wpAnyH_take (i := 16) (v := ?vv16_1) rfl (by kernel_rfl) (by kernel_rfl) (by kernel_rfl) (fun _ _ _ h => h) (Or.inl ⟨by rfl, ?hy16_1⟩) (by assumption) ?rest16_1
            case hy16_1 => (intro w' hSw; (try dsimp only at hSw); go_simp; try with_reducible rfl)
            try simp only [List.getElem_toArray, List.getElem_cons_zero, List.getElem_cons_succ, Act.put, List.setIfInBounds_toArray, List.set_cons_zero, List.set_cons_succ]
            refine wpAnyH_take (i := 17) (v := ?vv17_1) rfl (by kernel_rfl) (by kernel_rfl) (by kernel_rfl) (fun _ _ _ h => h) (Or.inl ⟨by rfl, ?hy17_1⟩) (by assumption) ?rest17_1
            case hy17_1 => (intro w' hSw; (try dsimp only at hSw); go_simp; try with_reducible rfl)
            try simp only [List.getElem_toArray, List.getElem_cons_zero, List.getElem_cons_succ, Act.put, List.setIfInBounds_toArray, List.set_cons_zero, List.set_cons_succ]
            refine wpAnyH_take (i := 18) (v := ?vv18_1) rfl (by kernel_rfl) (by kernel_rfl) (by kernel_rfl) (fun _ _ _ h => h) (Or.inl ⟨by rfl, ?hy18_1⟩) (by assumption) ?rest18_1
            case hy18_1 => (intro w' hSw; (try dsimp only at hSw); go_simp; try with_reducible rfl)
            try simp only [List.getElem_toArray, List.getElem_cons_zero, List.getElem_cons_succ, Act.put, List.setIfInBounds_toArray, List.set_cons_zero, List.set_cons_succ]
            refine wpAnyH_take (i := 19) (v := ?vv19_1) rfl (by kernel_rfl) (by kernel_rfl) (by kernel_rfl) (fun _ _ _ h => h) (Or.inl ⟨by rfl, ?hy19_1⟩) (by assumption) ?rest19_1
            case hy19_1 => (intro w' hSw; (try dsimp only at hSw); go_simp; try with_reducible rfl)
            try simp only [List.getElem_toArray, List.getElem_cons_zero, List.getElem_cons_succ, Act.put, List.setIfInBounds_toArray, List.set_cons_zero, List.set_cons_succ]
            refine wpAnyH_take (i := 20) (v := ?vv20_1) rfl (by kernel_rfl) (by kernel_rfl) (by kernel_rfl) (fun _ _ _ h => h) (Or.inl ⟨by rfl, ?hy20_1⟩) (by assumption) ?rest20_1
            case hy20_1 => (intro w' hSw; (try dsimp only at hSw); go_simp; try with_reducible rfl)
            try simp only [List.getElem_toArray, List.getElem_cons_zero, List.getElem_cons_succ, Act.put, List.setIfInBounds_toArray, List.set_cons_zero, List.set_cons_succ]
            refine wpAnyH_done (by kernel_rfl) ?_ _
            have c1 := CB.out _ hHeld
            have c2 := HCX.out _ hHeld
            have HH := Lib.hid hHeld
            by_cases hj1 : j + 1 < xs.length
            · have hj1' : (j : Int) + 1 < (xs.length : Int) := by omega
              have c3 := HC1.out hj1 _ hHeld
              clear hHeld hx2 JO SL
              go_wp2_with fail
              go_roundw
              case rel => exact ⟨j + 1, by omega, by go_num, HH.out⟩
              case measure => simp [intOf]; omega
            · have hj1' : ¬ (j : Int) + 1 < (xs.length : Int) := by omega
              have hx3 := hx2 hj1
              clear hHeld hx2 JO SL hx1
              go_wp2_with fail
              go_roundw
              case rel => exact ⟨j + 1, by omega, by go_num, HH.out⟩
              case measure => simp [intOf]; omega
          · obtain rfl : j = xs.length := by omega
            have SA : ∀ W, Below w7.heap.size w7 W → Calls Tryd.prog 18 #[.slice A K.length c, .slice A7 K.length c7] W fun e w' => e = .returned (.bool true) ∧ Below W.heap.size W w' := fun W hW => by
              have := same_any (w := W) K K A A7 c c7 (HA7.out.below hW) (HT7.out.below hW) (by omega) (by omega)
              rw [show (K == K) = true by simp] at this
              exact this
            go_wp2_with (go_at_call 18; with_reducible refine (SA _ HBL2.out).mono ?_; rintro e w12 ⟨rfl, hb12⟩)
            go_ret
            have q1 := HB7.out.trans (HBL2.out.mono HB7.out.size)
            exact ⟨rfl, q1.trans (hb12.mono q1.size)⟩
end Go.Proofs.YteplndmgfaceiaaDoor

