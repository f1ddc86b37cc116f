/-
  TlsaOwn, walked.
-/
import Derived.Test.YtnaoandleelbkaaGreatDoorUKit
namespace Go.Proofs.YtnaoandleelbkaaGreatDoor
set_option linter.unusedSimpArgs false
set_option linter.unusedVariables false
open Go Go.RowKit
set_option maxRecDepth 100000

theorem stepAppG {P : Program} {ops : Array Oper} {rest : List Oper} {o : Oper} {a : Act} {w w' : World} {Q : Exit → Act → World → Prop} {v v' xv : Value}
    (hw : Region.wanted o (yielded ops a.tmps) = true) (s x : Operand) (t : TypeId) (hop : o.op = Op.call { callee := Callee.builtin Builtin.append, args := #[s, x], argTypes := #[t, t] }) (hs : a.eval s = v) (hx : a.eval x = xv)
    (hrun : (Builtin.append_ #[t, t] o.type #[v, xv]).run P w = .ok v' w') (hK : wpList P ops Q rest (a.put o.dst v') w') : wpList P ops Q (o :: rest) a w :=
  wpList_step fun K hK' => by
    rw [if_pos hw]
    unfold Oper.wp execOp
    simp only [hop, resolve, invoke, builtin, Sem.run_bind, Sem.run_pure, Result.andThen_ok, List.map_toArray, List.map_cons, List.map_nil, hs, hx, hrun]
    exact hK' _ _ hK
theorem cr_ccU {w : World} {g off : Nat} {l : List Ct} {nv : Nat → Value} (h : CR w (some ⟨g, off, none⟩) l nv) {k : Nat} (hk : k < l.length) : CC w g (off + k * 6) (ctAt l k) (nv k) ∧ SX w (nv k) (ctAt l k).names := by
  obtain ⟨g', off', e, _, h1, h2⟩ := h.at hk
  cases e
  exact ⟨h1, h2⟩
/-- A record that came in. -/
def inR (r : Rc) : Prop := byteR r ∧ r.da.length ≤ 9223372036854775807
/-- An append of a row, none too, as long as may come in. -/
theorem tw_rowW {base : Nat} {W : World} {v : Value} {xs ys : List (List UInt8)} {A : Option Addr} {c : Nat} (h : TW base W v xs) (hx : SX W (.slice A ys.length c) ys) (hb : base ≤ W.heap.size) (hl : (xs.length + ys.length) * 16 ≤ 140737488355328) :
    ∃ A' cap w2, (Builtin.append_ #[25, 25] 25 #[v, .slice A ys.length c]).run Tryz.prog W = .ok (.slice A' (xs.length + ys.length) cap) w2 ∧
      TW base w2 (.slice A' (xs.length + ys.length) cap) (xs ++ ys) ∧ W.grownBy w2 v.ownBlock := by
  obtain ⟨i, hi, hz0, hz1, hz2⟩ := info_parts info_text
  rcases Nat.eq_zero_or_pos ys.length with h0 | hp
  · obtain rfl : ys = [] := List.length_eq_zero_iff.1 h0
    obtain ⟨A', c', rfl, hcap⟩ := h.cap
    have hcap2 : ¬ c' < xs.length := by omega
    refine ⟨A', c', W, ?_, by rw [List.append_nil]; exact h, ⟨rfl, rfl, rfl, Nat.le_refl _, fun _ _ _ => rfl⟩⟩
    cases A <;> cases A' <;> simp [Builtin.append_, run_underlying Tryz.underlying25, sizeOf, typeInfo, hi, Builtin.lenOf, Builtin.firstCells, storeCells, loadCells, loadCellsFrom, hcap2]
  · obtain ⟨A', c', e, h2⟩ := hx
    simp only [Value.slice.injEq] at e
    obtain ⟨rfl, _, rfl⟩ := e
    obtain ⟨g, off, rfl, hg, hc⟩ := h2 hp
    obtain ⟨g', cap', W', h1, h2, h3, _, _⟩ := run_append_lies (P := Tryz.prog) W 25 25 base 9 i _ 1 16 Tryz.underlying25 hi hz0 hz1 hz2 rfl (by decide) v xs.length (xs.map sv) h ⟨g, off, none⟩ ys.length c (ys.map sv) (by simp) (fun j u hu => by
        have hj : j < ys.length := by
          rcases Nat.lt_or_ge j ys.length with h | h
          · exact h
          · rw [List.getElem?_eq_none (by simpa using h)] at hu; cases hu
        have hadd : (⟨g, off, none⟩ : Addr).add j = ⟨g, off + j, none⟩ := by unfold Addr.add; split <;> simp_all
        rw [hadd, hc j hj, ← hu, List.getElem?_map, List.getElem?_eq_getElem hj, List.getD_eq_getElem?_getD, List.getElem?_eq_getElem hj]; try rfl)
      texts_one hp (by unfold maxLen; omega) (by omega) (by omega) _ rfl
    refine ⟨some ⟨g', 0, none⟩, cap', W', h1, ?_, h3⟩
    unfold TW
    rw [List.length_append, List.map_append]
    exact h2
theorem tw_two (W : World) (k : Nat) (x y : List UInt8) (hk : k = W.heap.size) : TW W.heap.size (W.alloc (.cells #[sv x, sv y] 9)) (.slice (some ⟨k, 0, none⟩) 2 2) [x, y] := by
  subst hk
  exact World.ownsRow_lit W #[sv x, sv y] 2 (Nat.le_refl _) (by decide) rfl
section
variable {P : World → Prop} (hP : Cu P) {W : World} (h : P W)
include hP h
/-- An append of texts to two. -/
theorem two_app (x y : List UInt8) {ys : List (List UInt8)} {A : Option Addr} {c : Nat} (hy : SX W (.slice A ys.length c) ys) (hb : (2 + ys.length) * 16 ≤ 140737488355328) :
    ∃ A1 c1 w1, (Builtin.append_ #[25, 25] 25 #[.slice (some ⟨W.heap.size, 0, none⟩) 2 2, .slice A ys.length c]).run Tryz.prog (W.alloc (.cells #[sv x, sv y] 9)) = .ok (.slice A1 (2 + ys.length) c1) w1 ∧ P w1 ∧ SX w1 (.slice A1 (x :: y :: ys).length c1) (x :: y :: ys) := by
  have hb0 := below_alloc W (.cells #[sv x, sv y] 9)
  obtain ⟨A1, c1, w1, h1, t1, g1⟩ := tw_rowW (tw_two W _ x y rfl) (hy.step hb0) (by simp) hb
  have hb1 : Below W.heap.size W w1 := Below.grown hb0 g1 hb0.size fun j hj => by
    simp only [Value.ownBlock, Option.some.injEq] at hj
    omega
  refine ⟨A1, c1, w1, h1, hP.step h hb1, ?_⟩
  have := t1.sx
  rw [show (x :: y :: ys).length = 2 + ys.length by simp only [List.length_cons]; omega]
  exact this
/-- Two appends of rows, one behind the other, to none. -/
theorem both_app {xs ys : List (List UInt8)} {A B : Option Addr} {c d : Nat} (hx : SX W (.slice A xs.length c) xs) (hy : SX W (.slice B ys.length d) ys) (h1 : xs.length ≤ 1000000) (h2 : ys.length ≤ 1000000) :
    ∃ A1 c1 w1 A2 c2 w2, (Builtin.append_ #[25, 25] 25 #[.slice (some ⟨W.heap.size, 0, none⟩) 0 0, .slice A xs.length c]).run Tryz.prog (W.alloc (.cells #[] 9)) = .ok (.slice A1 xs.length c1) w1 ∧
      (Builtin.append_ #[25, 25] 25 #[.slice A1 xs.length c1, .slice B ys.length d]).run Tryz.prog w1 = .ok (.slice A2 (xs.length + ys.length) c2) w2 ∧ P w2 ∧ SX w2 (.slice A2 (xs ++ ys).length c2) (xs ++ ys) ∧ xs.length + ys.length ≤ c2 := by
  have hown := owns_emptyG (base := W.heap.size) (heap_alloc_new W (.cells #[] 9)) (Nat.le_refl _)
  have hb0 := below_alloc W (.cells #[] 9)
  obtain ⟨A1, c1, w1, q1, t1, g1⟩ := tw_row hown (hx.step hb0) (by simp) (by omega) (by simp)
  simp only [List.length_nil, Nat.zero_add, List.nil_append] at q1 t1
  have hb1 : Below W.heap.size W w1 := Below.grown hb0 g1 hb0.size fun j hj => by
    simp only [Value.ownBlock, Option.some.injEq] at hj
    omega
  obtain ⟨A2, c2, w2, q2, t2, g2⟩ := tw_row t1 (hy.step hb1) hb1.size h2 h1
  have hb2 : Below W.heap.size W w2 := Below.grown hb1 g2 hb1.size fun j hj => (t1.lt hj).1
  obtain ⟨A3, c3, e3, hc3⟩ := t2.cap
  simp only [Value.slice.injEq] at e3
  refine ⟨A1, c1, w1, A2, c2, w2, q1, q2, hP.step h hb2, ?_, by rw [List.length_append] at hc3; omega⟩
  rw [List.length_append]
  exact t2.sx
end
theorem own_min (n : Nat) : min (1 : Int) (n : Int) = ((min n 1 : Nat) : Int) := by omega
set_option maxHeartbeats 16000000 in
theorem tlsaOwn_walk {w : World} (r : Rc) (hr : inR r) (chain : List (List UInt8)) (A : Option Addr) (cp : Nat) (hi : TI w A chain cp) (more : List (List UInt8)) (B : Option Addr) (bc : Nat) (hj : TI w B more bc) (hm16 : (2 + more.length) * 16 ≤ 140737488355328)
    (host : List UInt8) (hh : host.length ≤ 140737488351232) (other : List UInt8) (ho : other.length ≤ 140737488351232) {now : Int} (hn1 : -9223372036854775808 ≤ now ∧ now ≤ 9223372036854775807) {then_ : Int} (hn2 : -9223372036854775808 ≤ then_ ∧ then_ ≤ 9223372036854775807) (hgl : GU w) :
    Calls Tryz.prog 11 #[.agg #[.int .u8 (r.us : Int), .int .u8 (r.se : Int), .int .u8 (r.ma : Int), sv r.da], .slice A chain.length cp, .slice B more.length bc, sv host, sv other, .int .i64 now, .int .i64 then_] w fun e w' => e = .returned (.bool true) ∧ Below w.heap.size w w' := by
  obtain ⟨P, hPe⟩ : ∃ P : World → Prop, P = fun W => Gu w W ∧ (RB W w.heap.size r ∧ SX W (.slice A chain.length cp) chain ∧ SX W (.slice B more.length bc) more) := ⟨_, rfl⟩
  have HP := Lib.hid (show Cu P by rw [hPe]; exact Cu.mk0.and (fun h hb => ⟨h.1.step hb, h.2.1.step hb, h.2.2.step hb⟩))
  have H0 := Lib.hid (show P (w.alloc (cellsR r)) by rw [hPe]; exact ⟨(Gu.start hgl).step (below_alloc _ _), RB.new w r, hi.sx.step (below_alloc _ _), hj.sx.step (below_alloc _ _)⟩)
  have HB := Lib.hid (show ∀ W, P W → Below w.heap.size w W by rw [hPe]; exact fun W h => h.1.1)
  have HRB := Lib.hid (show ∀ W, P W → RB W w.heap.size r by rw [hPe]; exact fun W h => h.2.1)
  have HC := Lib.hid (show ∀ W, P W → SX W (.slice A chain.length cp) chain by rw [hPe]; exact fun W h => h.2.2.1)
  have HM := Lib.hid (show ∀ W, P W → SX W (.slice B more.length bc) more by rw [hPe]; exact fun W h => h.2.2.2)
  have HWK := Lib.hid (fun W (h : P W) => works_u HP.out h)
  obtain ⟨nc, hnc⟩ : ∃ n, n = chain.length := ⟨_, rfl⟩
  have HNC := Lib.hid hnc
  obtain ⟨nm, hnm⟩ : ∃ n, n = more.length := ⟨_, rfl⟩
  have HNM := Lib.hid hnm
  have HL1 := Lib.hid (fun W (h : P W) (k : Nat) (hk : k = W.heap.size) => long_u (HP.out.alloc h (cellsR r)) ((HC.out W h).step (below_alloc _ _)) hi.len hi.each (rr_one W k r hk) (by simp) (fun q hq => by rw [List.mem_singleton.1 hq]; have := hr.2; omega) (m := nc) (k := 1) hnc.symm rfl (bc := 1))
  have HL2 := Lib.hid (fun W (h : P W) (A1 : Option Addr) (c1 : Nat) (hx : SX W (.slice A1 (host :: other :: more).length c1) (host :: other :: more)) => long_u h hx (by simp only [List.length_cons]; omega) (fun q hq => by
    rcases List.mem_cons.1 hq with rfl | hq
    · omega
    · rcases List.mem_cons.1 hq with rfl | hq
      · omega
      · exact hj.each q hq) (RR.nil W none) (by simp) (fun q hq => by cases hq) (m := 2 + nm) (k := 0) (by simp only [List.length_cons]; omega) rfl (bc := 0))
  have HAP := Lib.hid (fun W (h : P W) => two_app HP.out h host other (HM.out W h) hm16)
  rw [← hnm] at HAP
  have HCP := Lib.hid hi.cap
  have HBY := Lib.hid hr.1
  rw [← hnc, ← hnm]
  obtain ⟨u, s, m, d⟩ := r
  clear hPe hi hj hr hgl hnc hnm hm16
  go_enter Tryz.func11, Tryz.ntmps11
  go_wp2_with (first
    | (go_at_call 45; (with_reducible refine (HWK.out _ H0.out).mono ?_); rintro e w1 ⟨rfl, p1⟩; have H1 := Lib.hid p1; have a0 := (HRB.out _ p1).c0; have a1 := (HRB.out _ p1).c1; have a2 := (HRB.out _ p1).c2; have a3 := (HRB.out _ p1).c3; clear p1)
    | (go_at_call 45; (refine (HWK.out _ (by first | exact H3.out | exact H2.out)).mono ?_); rintro e w9 ⟨rfl, p9⟩; have H9 := Lib.hid p9; clear p9)
    | (go_at_call 54; (with_reducible refine (HL2.out _ H2a.out A1 c1 HX2.out).mono ?_); rintro e w3 ⟨hb3, p3⟩; have H3 := Lib.hid p3; have b0 := (HRB.out _ p3).c0; have b1 := (HRB.out _ p3).c1; have b2 := (HRB.out _ p3).c2; have b3 := (HRB.out _ p3).c3; clear p3; rcases hb3 with ⟨rfl, f3⟩ | rfl; have F3 := Lib.hid f3; clear f3)
    | (go_at_call 54; refine (HL1.out _ H1.out _ rfl).mono ?_; rintro e w2 ⟨hb2, p2⟩; have H2 := Lib.hid p2; clear p2; rcases hb2 with ⟨rfl, f2⟩ | rfl; have F2 := Lib.hid f2; clear f2; obtain ⟨A1, c1, w2a, hrun, p2a, hx2⟩ := HAP.out _ H2.out; have HRUN := Lib.hid hrun; have H2a := Lib.hid p2a; have HX2 := Lib.hid hx2; clear hrun p2a hx2)
    | (at_builtin; refine stepAppG (by rfl) _ _ 25 rfl rfl rfl HRUN.out ?_))
  · have HIS := Lib.hid (fun W (h : P W) => matches_u HP.out h ⟨u, s, m, d⟩ (cp := cp) (host := host) now (HC.out W h) (fun q hq => by have := F2.out.x q hq; omega) HCP.out (by have := F2.out.t; omega) (by have := F3.out.x host (by simp); omega) (n := nc) HNC.out.symm)
    obtain ⟨n1, hn1⟩ : ∃ n, n = (chain.take 1).length := ⟨_, rfl⟩
    have hn1' : n1 = min 1 nc := by rw [hn1, HNC.out, List.length_take]
    have HM2 := Lib.hid (fun W (h : P W) => matches_u HP.out h ⟨u, s, m, d⟩ (chain := chain.take 1) (cp := cp) (host := other) then_ ((HC.out W h).take 1 cp) (fun q hq => by have := F2.out.x q (List.mem_of_mem_take hq); omega) (by have := HCP.out; rw [← HNC.out] at this; omega) (by omega) (by have := F3.out.x other (by simp); omega) (n := n1) hn1.symm)
    have HM1 := Lib.hid (fun W (h : P W) => matches_u HP.out h ⟨u, s, m, d⟩ (chain := chain.take 1) (cp := cp) (host := host) now ((HC.out W h).take 1 cp) (fun q hq => by have := F2.out.x q (List.mem_of_mem_take hq); omega) (by have := HCP.out; rw [← HNC.out] at this; omega) (by omega) (by have := F3.out.x host (by simp); omega) (n := n1) hn1.symm)
    have hmin : min (1 : Int) (nc : Int) = (n1 : Int) := by omega
    have hncp : nc ≤ cp := by have := HCP.out; rw [← HNC.out] at this; exact this
    have hn1c : n1 ≤ cp := by omega
    have hn1c' : (n1 : Int) ≤ (cp : Int) := by omega
    have hn14 : n1 ≤ 1 := by omega
    obtain ⟨b, hb⟩ : ∃ b, b = matchR ⟨u, s, m, d⟩ chain host now := ⟨_, rfl⟩
    have HBB := Lib.hid hb
    rw [← hb] at HIS
    simp only at HIS HM1 HM2
    by_cases hu3 : u = 3
    · subst hu3
      obtain ⟨h1, h2⟩ := match_own (r := ⟨3, s, m, d⟩) rfl chain host other now then_
      rw [← h1, ← hb] at HM2
      rw [← hb] at h2
      rw [show ((3 : Nat) : Int) = 3 from rfl] at *
      by_cases hc0 : nc = 0
      · have hbf : b = false := by rw [h2, ← HNC.out, hc0]; rfl
        subst hbf
        have hn10 : n1 = 0 := by omega
        clear hb h1 h2 hn1 hn1' HM1 hmin hn1c hn1c' hn14 hncp
        subst hn10
        subst hc0
        have hmin0 : min (1 : Int) 0 = 0 := by decide
        go_wp2_with (go_at_call 49; refine (HIS.out _ H3.out).mono ?_; rintro e w4 ⟨rfl, p4⟩; have HQ := Lib.hid p4; have d0 := (HRB.out _ p4).c0; clear p4)
        refine wp_region_held_drew (S := fun W => P W) (by kernel_rfl) (HP.out.drew HQ.out) (fun hHeld => ?_)
        refine wpAnyH_take (i := 0) (v := ?vv0_1) rfl (by kernel_rfl) (by kernel_rfl) (by kernel_rfl) (fun _ _ _ h => h) (Or.inl ⟨by rfl, ?hy0_1⟩) (by assumption) ?rest0_1
        case hy0_1 => (intro w' hSw; (try dsimp only at hSw); go_simp; try with_reducible rfl)
        try simp only [List.getElem_toArray, List.getElem_cons_zero, List.getElem_cons_succ, Act.put, List.setIfInBounds_toArray, List.set_cons_zero, List.set_cons_succ]
        refine wpAnyH_take (i := 1) (v := .agg #[.int .u8 3, .int .u8 (s : Int), .int .u8 (m : Int), sv d]) rfl (by kernel_rfl) (by kernel_rfl) (by kernel_rfl) (fun _ _ _ h => h) (Or.inl ⟨by rfl, fun w' hSw => exec_load_midU w' rfl rfl (HRB.out _ hSw).range Tryz.underlying65 rfl (by kernel_rfl)⟩) (by assumption) ?_
        try simp only [List.getElem_toArray, List.getElem_cons_zero, List.getElem_cons_succ, Act.put, List.setIfInBounds_toArray, List.set_cons_zero, List.set_cons_succ]
        refine wpAnyH_take (i := 2) (v := ?vv2_1) rfl (by kernel_rfl) (by kernel_rfl) (by kernel_rfl) (fun _ _ _ h => h) (Or.inl ⟨by rfl, ?hy2_1⟩) (by assumption) ?rest2_1
        case hy2_1 => (intro w' hSw; (try dsimp only at hSw); go_simp; try with_reducible rfl)
        try simp only [List.getElem_toArray, List.getElem_cons_zero, List.getElem_cons_succ, Act.put, List.setIfInBounds_toArray, List.set_cons_zero, List.set_cons_succ]
        refine wpAnyH_take (i := 3) (v := ?vv3_1) rfl (by kernel_rfl) (by kernel_rfl) (by kernel_rfl) (fun _ _ _ h => h) (Or.inl ⟨by rfl, ?hy3_1⟩) (by assumption) ?rest3_1
        case hy3_1 => (intro w' hSw; (try dsimp only at hSw); go_simp; try with_reducible rfl)
        try simp only [List.getElem_toArray, List.getElem_cons_zero, List.getElem_cons_succ, Act.put, List.setIfInBounds_toArray, List.set_cons_zero, List.set_cons_succ]
        refine wpAnyH_take (i := 4) (v := ?vv4_1) rfl (by kernel_rfl) (by kernel_rfl) (by kernel_rfl) (fun _ _ _ h => h) (Or.inl ⟨by rfl, ?hy4_1⟩) (by assumption) ?rest4_1
        case hy4_1 => (intro w' hSw; (try dsimp only at hSw); go_simp; try with_reducible rfl)
        try simp only [List.getElem_toArray, List.getElem_cons_zero, List.getElem_cons_succ, Act.put, List.setIfInBounds_toArray, List.set_cons_zero, List.set_cons_succ]
        refine wpAnyH_take (i := 5) (v := ?vv5_1) rfl (by kernel_rfl) (by kernel_rfl) (by kernel_rfl) (fun _ _ _ h => h) (Or.inl ⟨by rfl, ?hy5_1⟩) (by assumption) ?rest5_1
        case hy5_1 => (intro w' hSw; (try dsimp only at hSw); go_simp; try with_reducible rfl)
        try simp only [List.getElem_toArray, List.getElem_cons_zero, List.getElem_cons_succ, Act.put, List.setIfInBounds_toArray, List.set_cons_zero, List.set_cons_succ]
        refine wpAnyH_take (i := 6) (v := ?vv6_1) rfl (by kernel_rfl) (by kernel_rfl) (by kernel_rfl) (fun _ _ _ h => h) (Or.inl ⟨by rfl, ?hy6_1⟩) (by assumption) ?rest6_1
        case hy6_1 => (intro w' hSw; (try dsimp only at hSw); go_simp; try with_reducible rfl)
        try simp only [List.getElem_toArray, List.getElem_cons_zero, List.getElem_cons_succ, Act.put, List.setIfInBounds_toArray, List.set_cons_zero, List.set_cons_succ]
        refine wpAnyH_take (i := 7) (v := ?vv7_1) rfl (by kernel_rfl) (by kernel_rfl) (by kernel_rfl) (fun _ _ _ h => h) (Or.inl ⟨by rfl, ?hy7_1⟩) (by assumption) ?rest7_1
        case hy7_1 => (intro w' hSw; (try dsimp only at hSw); go_simp; try with_reducible rfl)
        try simp only [List.getElem_toArray, List.getElem_cons_zero, List.getElem_cons_succ, Act.put, List.setIfInBounds_toArray, List.set_cons_zero, List.set_cons_succ]
        refine wpAnyH_take (i := 8) (v := ?vv8_1) rfl (by kernel_rfl) (by kernel_rfl) (by kernel_rfl) (fun _ _ _ h => h) (Or.inl ⟨by rfl, ?hy8_1⟩) (by assumption) ?rest8_1
        case hy8_1 => (intro w' hSw; (try dsimp only at hSw); go_simp; try with_reducible rfl)
        try simp only [List.getElem_toArray, List.getElem_cons_zero, List.getElem_cons_succ, Act.put, List.setIfInBounds_toArray, List.set_cons_zero, List.set_cons_succ]
        refine wpAnyH_ready (rs := [9]) (by kernel_rfl) (by simp) ?_
        refine AllReadyH.cons rfl (fun K hK => ?_) AllReadyH.nil
        go_simp
        go_at_call 49
        refine (HM2.out _ hHeld).mono ?_
        rintro e w9 ⟨rfl, hp9⟩
        have HP9 := Lib.hid hp9
        refine hK.out _ _ hp9 (fun hHeld => ?_)
        clear hK K
        try simp only [List.getElem_toArray, List.getElem_cons_zero, List.getElem_cons_succ, Act.put, List.setIfInBounds_toArray, List.set_cons_zero, List.set_cons_succ]
        refine wpAnyH_take (i := 10) (v := ?vv10_1) rfl (by kernel_rfl) (by kernel_rfl) (by kernel_rfl) (fun _ _ _ h => h) (Or.inl ⟨by rfl, ?hy10_1⟩) (by assumption) ?rest10_1
        case hy10_1 => (intro w' hSw; (try dsimp only at hSw); go_simp; try with_reducible rfl)
        try simp only [List.getElem_toArray, List.getElem_cons_zero, List.getElem_cons_succ, Act.put, List.setIfInBounds_toArray, List.set_cons_zero, List.set_cons_succ]
        refine wpAnyH_take (i := 11) (v := ?vv11_1) rfl (by kernel_rfl) (by kernel_rfl) (by kernel_rfl) (fun _ _ _ h => h) (Or.inl ⟨by rfl, ?hy11_1⟩) (by assumption) ?rest11_1
        case hy11_1 => (intro w' hSw; (try dsimp only at hSw); go_simp; try with_reducible rfl)
        try simp only [List.getElem_toArray, List.getElem_cons_zero, List.getElem_cons_succ, Act.put, List.setIfInBounds_toArray, List.set_cons_zero, List.set_cons_succ]
        refine wpAnyH_take (i := 12) (v := ?vv12_1) rfl (by kernel_rfl) (by kernel_rfl) (by kernel_rfl) (fun _ _ _ h => h) (Or.inl ⟨by rfl, ?hy12_1⟩) (by assumption) ?rest12_1
        case hy12_1 => (intro w' hSw; (try dsimp only at hSw); go_simp; try with_reducible rfl)
        try simp only [List.getElem_toArray, List.getElem_cons_zero, List.getElem_cons_succ, Act.put, List.setIfInBounds_toArray, List.set_cons_zero, List.set_cons_succ]
        refine wpAnyH_take (i := 13) (v := ?vv13_1) rfl (by kernel_rfl) (by kernel_rfl) (by kernel_rfl) (fun _ _ _ h => h) (Or.inl ⟨by rfl, ?hy13_1⟩) (by assumption) ?rest13_1
        case hy13_1 => (intro w' hSw; (try dsimp only at hSw); go_simp; try with_reducible rfl)
        try simp only [List.getElem_toArray, List.getElem_cons_zero, List.getElem_cons_succ, Act.put, List.setIfInBounds_toArray, List.set_cons_zero, List.set_cons_succ]
        refine wpAnyH_take (i := 14) (v := ?vv14_1) rfl (by kernel_rfl) (by kernel_rfl) (by kernel_rfl) (fun _ _ _ h => h) (Or.inl ⟨by rfl, ?hy14_1⟩) (by assumption) ?rest14_1
        case hy14_1 => (intro w' hSw; (try dsimp only at hSw); go_simp; try with_reducible rfl)
        try simp only [List.getElem_toArray, List.getElem_cons_zero, List.getElem_cons_succ, Act.put, List.setIfInBounds_toArray, List.set_cons_zero, List.set_cons_succ]
        refine wpAnyH_take (i := 15) (v := ?vv15_1) rfl (by kernel_rfl) (by kernel_rfl) (by kernel_rfl) (fun _ _ _ h => h) (Or.inl ⟨by rfl, ?hy15_1⟩) (by assumption) ?rest15_1
        case hy15_1 => (intro w' hSw; (try dsimp only at hSw); go_simp; try with_reducible rfl)
        try simp only [List.getElem_toArray, List.getElem_cons_zero, List.getElem_cons_succ, Act.put, List.setIfInBounds_toArray, List.set_cons_zero, List.set_cons_succ]
        refine wpAnyH_take (i := 16) (v := ?vv16_1) rfl (by kernel_rfl) (by kernel_rfl) (by kernel_rfl) (fun _ _ _ h => h) (Or.inl ⟨by rfl, ?hy16_1⟩) (by assumption) ?rest16_1
        case hy16_1 => (intro w' hSw; (try dsimp only at hSw); go_simp; try with_reducible rfl)
        try simp only [List.getElem_toArray, List.getElem_cons_zero, List.getElem_cons_succ, Act.put, List.setIfInBounds_toArray, List.set_cons_zero, List.set_cons_succ]
        refine wpAnyH_take (i := 17) (v := undef) rfl (by kernel_rfl) (by kernel_rfl) (by kernel_rfl) (fun _ _ _ h => h) (Or.inr ⟨by rfl, rfl⟩) (by assumption) ?_
        try simp only [List.getElem_toArray, List.getElem_cons_zero, List.getElem_cons_succ, Act.put, List.setIfInBounds_toArray, List.set_cons_zero, List.set_cons_succ]
        refine wpAnyH_take (i := 18) (v := undef) rfl (by kernel_rfl) (by kernel_rfl) (by kernel_rfl) (fun _ _ _ h => h) (Or.inr ⟨by rfl, rfl⟩) (by assumption) ?_
        try simp only [List.getElem_toArray, List.getElem_cons_zero, List.getElem_cons_succ, Act.put, List.setIfInBounds_toArray, List.set_cons_zero, List.set_cons_succ]
        refine wpAnyH_take (i := 19) (v := undef) rfl (by kernel_rfl) (by kernel_rfl) (by kernel_rfl) (fun _ _ _ h => h) (Or.inr ⟨by rfl, rfl⟩) (by assumption) ?_
        try simp only [List.getElem_toArray, List.getElem_cons_zero, List.getElem_cons_succ, Act.put, List.setIfInBounds_toArray, List.set_cons_zero, List.set_cons_succ]
        refine wpAnyH_take (i := 20) (v := undef) rfl (by kernel_rfl) (by kernel_rfl) (by kernel_rfl) (fun _ _ _ h => h) (Or.inr ⟨by rfl, rfl⟩) (by assumption) ?_
        try simp only [List.getElem_toArray, List.getElem_cons_zero, List.getElem_cons_succ, Act.put, List.setIfInBounds_toArray, List.set_cons_zero, List.set_cons_succ]
        refine wpAnyH_take (i := 21) (v := undef) rfl (by kernel_rfl) (by kernel_rfl) (by kernel_rfl) (fun _ _ _ h => h) (Or.inr ⟨by rfl, rfl⟩) (by assumption) ?_
        try simp only [List.getElem_toArray, List.getElem_cons_zero, List.getElem_cons_succ, Act.put, List.setIfInBounds_toArray, List.set_cons_zero, List.set_cons_succ]
        refine wpAnyH_take (i := 22) (v := ?vv22_1) rfl (by kernel_rfl) (by kernel_rfl) (by kernel_rfl) (fun _ _ _ h => h) (Or.inl ⟨by rfl, ?hy22_1⟩) (by assumption) ?rest22_1
        case hy22_1 => (intro w' hSw; (try dsimp only at hSw); go_simp; try with_reducible rfl)
        try simp only [List.getElem_toArray, List.getElem_cons_zero, List.getElem_cons_succ, Act.put, List.setIfInBounds_toArray, List.set_cons_zero, List.set_cons_succ]
        refine wpAnyH_take (i := 23) (v := ?vv23_1) rfl (by kernel_rfl) (by kernel_rfl) (by kernel_rfl) (fun _ _ _ h => h) (Or.inl ⟨by rfl, ?hy23_1⟩) (by assumption) ?rest23_1
        case hy23_1 => (intro w' hSw; (try dsimp only at hSw); go_simp; try with_reducible rfl)
        try simp only [List.getElem_toArray, List.getElem_cons_zero, List.getElem_cons_succ, Act.put, List.setIfInBounds_toArray, List.set_cons_zero, List.set_cons_succ]
        refine wpAnyH_take (i := 24) (v := ?vv24_1) rfl (by kernel_rfl) (by kernel_rfl) (by kernel_rfl) (fun _ _ _ h => h) (Or.inl ⟨by rfl, ?hy24_1⟩) (by assumption) ?rest24_1
        case hy24_1 => (intro w' hSw; (try dsimp only at hSw); go_simp; try with_reducible rfl)
        try simp only [List.getElem_toArray, List.getElem_cons_zero, List.getElem_cons_succ, Act.put, List.setIfInBounds_toArray, List.set_cons_zero, List.set_cons_succ]
        refine wpAnyH_take (i := 25) (v := ?vv25_1) rfl (by kernel_rfl) (by kernel_rfl) (by kernel_rfl) (fun _ _ _ h => h) (Or.inl ⟨by rfl, ?hy25_1⟩) (by assumption) ?rest25_1
        case hy25_1 => (intro w' hSw; (try dsimp only at hSw); go_simp; try with_reducible rfl)
        try simp only [List.getElem_toArray, List.getElem_cons_zero, List.getElem_cons_succ, Act.put, List.setIfInBounds_toArray, List.set_cons_zero, List.set_cons_succ]
        refine wpAnyH_done (by kernel_rfl) ?_ _
        go_wp2_with fail
        go_ret
        exact ⟨rfl, HB.out _ HP9.out⟩
      · have hc0' : (0 : Int) < (nc : Int) := by omega
        have hc0n : 0 < nc := by omega
        have hcl : 0 < chain.length := by rw [← HNC.out]; omega
        obtain ⟨c0, hce⟩ : ∃ c, c = chain.getD 0 [] := ⟨_, rfl⟩
        have hbo : b = ofB ⟨3, s, m, d⟩ c0 := by rw [h2, hce]; simp [hcl]
        have HOF := Lib.hid (fun W (h : P W) => of_u HP.out h ⟨3, s, m, d⟩ c0 (by have := F2.out.x c0 (by rw [hce]; exact mem_getD hcl); omega))
        rw [← hbo] at HOF
        obtain ⟨g, off, hA, _⟩ := (HC.out _ H3.out).at hcl
        subst hA
        have HC0 := Lib.hid (show ∀ W, P W → W.cell? ⟨g, off, none⟩ = some (sv c0) from fun W h => by
          obtain ⟨g', off', e, _, hc⟩ := (HC.out W h).at hcl
          cases e
          rw [hce]; exact hc)
        simp only at HOF
        rw [show ((3 : Nat) : Int) = 3 from rfl] at HOF
        clear hb h1 h2 hn1 hn1' HM1 hbo hce hcl
        go_wp2_with (go_at_call 49; refine (HIS.out _ H3.out).mono ?_; rintro e w4 ⟨rfl, p4⟩; have HQ := Lib.hid p4; have d0 := (HRB.out _ p4).c0; clear p4)
        refine wp_region_held_drew (S := fun W => P W) (by kernel_rfl) (HP.out.drew HQ.out) (fun hHeld => ?_)
        refine wpAnyH_take (i := 0) (v := ?vv0_2) rfl (by kernel_rfl) (by kernel_rfl) (by kernel_rfl) (fun _ _ _ h => h) (Or.inl ⟨by rfl, ?hy0_2⟩) (by assumption) ?rest0_2
        case hy0_2 => (intro w' hSw; (try dsimp only at hSw); go_simp; try with_reducible rfl)
        try simp only [List.getElem_toArray, List.getElem_cons_zero, List.getElem_cons_succ, Act.put, List.setIfInBounds_toArray, List.set_cons_zero, List.set_cons_succ]
        refine wpAnyH_take (i := 1) (v := .agg #[.int .u8 3, .int .u8 (s : Int), .int .u8 (m : Int), sv d]) rfl (by kernel_rfl) (by kernel_rfl) (by kernel_rfl) (fun _ _ _ h => h) (Or.inl ⟨by rfl, fun w' hSw => exec_load_midU w' rfl rfl (HRB.out _ hSw).range Tryz.underlying65 rfl (by kernel_rfl)⟩) (by assumption) ?_
        try simp only [List.getElem_toArray, List.getElem_cons_zero, List.getElem_cons_succ, Act.put, List.setIfInBounds_toArray, List.set_cons_zero, List.set_cons_succ]
        refine wpAnyH_take (i := 2) (v := ?vv2_2) rfl (by kernel_rfl) (by kernel_rfl) (by kernel_rfl) (fun _ _ _ h => h) (Or.inl ⟨by rfl, ?hy2_2⟩) (by assumption) ?rest2_2
        case hy2_2 => (intro w' hSw; (try dsimp only at hSw); go_simp; try with_reducible rfl)
        try simp only [List.getElem_toArray, List.getElem_cons_zero, List.getElem_cons_succ, Act.put, List.setIfInBounds_toArray, List.set_cons_zero, List.set_cons_succ]
        refine wpAnyH_take (i := 3) (v := ?vv3_2) rfl (by kernel_rfl) (by kernel_rfl) (by kernel_rfl) (fun _ _ _ h => h) (Or.inl ⟨by rfl, ?hy3_2⟩) (by assumption) ?rest3_2
        case hy3_2 => (intro w' hSw; (try dsimp only at hSw); go_simp; try with_reducible rfl)
        try simp only [List.getElem_toArray, List.getElem_cons_zero, List.getElem_cons_succ, Act.put, List.setIfInBounds_toArray, List.set_cons_zero, List.set_cons_succ]
        refine wpAnyH_take (i := 4) (v := ?vv4_2) rfl (by kernel_rfl) (by kernel_rfl) (by kernel_rfl) (fun _ _ _ h => h) (Or.inl ⟨by rfl, ?hy4_2⟩) (by assumption) ?rest4_2
        case hy4_2 => (intro w' hSw; (try dsimp only at hSw); go_simp; try with_reducible rfl)
        try simp only [List.getElem_toArray, List.getElem_cons_zero, List.getElem_cons_succ, Act.put, List.setIfInBounds_toArray, List.set_cons_zero, List.set_cons_succ]
        refine wpAnyH_take (i := 5) (v := ?vv5_2) rfl (by kernel_rfl) (by kernel_rfl) (by kernel_rfl) (fun _ _ _ h => h) (Or.inl ⟨by rfl, ?hy5_2⟩) (by assumption) ?rest5_2
        case hy5_2 => (intro w' hSw; (try dsimp only at hSw); go_simp; try with_reducible rfl)
        try simp only [List.getElem_toArray, List.getElem_cons_zero, List.getElem_cons_succ, Act.put, List.setIfInBounds_toArray, List.set_cons_zero, List.set_cons_succ]
        refine wpAnyH_take (i := 6) (v := ?vv6_2) rfl (by kernel_rfl) (by kernel_rfl) (by kernel_rfl) (fun _ _ _ h => h) (Or.inl ⟨by rfl, ?hy6_2⟩) (by assumption) ?rest6_2
        case hy6_2 => (intro w' hSw; (try dsimp only at hSw); go_simp; try with_reducible rfl)
        try simp only [List.getElem_toArray, List.getElem_cons_zero, List.getElem_cons_succ, Act.put, List.setIfInBounds_toArray, List.set_cons_zero, List.set_cons_succ]
        refine wpAnyH_take (i := 7) (v := ?vv7_2) rfl (by kernel_rfl) (by kernel_rfl) (by kernel_rfl) (fun _ _ _ h => h) (Or.inl ⟨by rfl, ?hy7_2⟩) (by assumption) ?rest7_2
        case hy7_2 => (intro w' hSw; (try dsimp only at hSw); go_simp; try with_reducible rfl)
        try simp only [List.getElem_toArray, List.getElem_cons_zero, List.getElem_cons_succ, Act.put, List.setIfInBounds_toArray, List.set_cons_zero, List.set_cons_succ]
        refine wpAnyH_take (i := 8) (v := ?vv8_2) rfl (by kernel_rfl) (by kernel_rfl) (by kernel_rfl) (fun _ _ _ h => h) (Or.inl ⟨by rfl, ?hy8_2⟩) (by assumption) ?rest8_2
        case hy8_2 => (intro w' hSw; (try dsimp only at hSw); go_simp; try with_reducible rfl)
        try simp only [List.getElem_toArray, List.getElem_cons_zero, List.getElem_cons_succ, Act.put, List.setIfInBounds_toArray, List.set_cons_zero, List.set_cons_succ]
        refine wpAnyH_ready (rs := [9]) (by kernel_rfl) (by simp) ?_
        refine AllReadyH.cons rfl (fun K hK => ?_) AllReadyH.nil
        go_simp
        go_at_call 49
        refine (HM2.out _ hHeld).mono ?_
        rintro e w9 ⟨rfl, hp9⟩
        have HP9 := Lib.hid hp9
        refine hK.out _ _ hp9 (fun hHeld => ?_)
        clear hK K
        try simp only [List.getElem_toArray, List.getElem_cons_zero, List.getElem_cons_succ, Act.put, List.setIfInBounds_toArray, List.set_cons_zero, List.set_cons_succ]
        refine wpAnyH_take (i := 10) (v := ?vv10_2) rfl (by kernel_rfl) (by kernel_rfl) (by kernel_rfl) (fun _ _ _ h => h) (Or.inl ⟨by rfl, ?hy10_2⟩) (by assumption) ?rest10_2
        case hy10_2 => (intro w' hSw; (try dsimp only at hSw); go_simp; try with_reducible rfl)
        try simp only [List.getElem_toArray, List.getElem_cons_zero, List.getElem_cons_succ, Act.put, List.setIfInBounds_toArray, List.set_cons_zero, List.set_cons_succ]
        refine wpAnyH_take (i := 11) (v := ?vv11_2) rfl (by kernel_rfl) (by kernel_rfl) (by kernel_rfl) (fun _ _ _ h => h) (Or.inl ⟨by rfl, ?hy11_2⟩) (by assumption) ?rest11_2
        case hy11_2 => (intro w' hSw; (try dsimp only at hSw); go_simp; try with_reducible rfl)
        try simp only [List.getElem_toArray, List.getElem_cons_zero, List.getElem_cons_succ, Act.put, List.setIfInBounds_toArray, List.set_cons_zero, List.set_cons_succ]
        refine wpAnyH_take (i := 12) (v := ?vv12_2) rfl (by kernel_rfl) (by kernel_rfl) (by kernel_rfl) (fun _ _ _ h => h) (Or.inl ⟨by rfl, ?hy12_2⟩) (by assumption) ?rest12_2
        case hy12_2 => (intro w' hSw; (try dsimp only at hSw); go_simp; try with_reducible rfl)
        try simp only [List.getElem_toArray, List.getElem_cons_zero, List.getElem_cons_succ, Act.put, List.setIfInBounds_toArray, List.set_cons_zero, List.set_cons_succ]
        refine wpAnyH_take (i := 13) (v := ?vv13_2) rfl (by kernel_rfl) (by kernel_rfl) (by kernel_rfl) (fun _ _ _ h => h) (Or.inl ⟨by rfl, ?hy13_2⟩) (by assumption) ?rest13_2
        case hy13_2 => (intro w' hSw; (try dsimp only at hSw); go_simp; try with_reducible rfl)
        try simp only [List.getElem_toArray, List.getElem_cons_zero, List.getElem_cons_succ, Act.put, List.setIfInBounds_toArray, List.set_cons_zero, List.set_cons_succ]
        refine wpAnyH_take (i := 14) (v := ?vv14_2) rfl (by kernel_rfl) (by kernel_rfl) (by kernel_rfl) (fun _ _ _ h => h) (Or.inl ⟨by rfl, ?hy14_2⟩) (by assumption) ?rest14_2
        case hy14_2 => (intro w' hSw; (try dsimp only at hSw); go_simp; try with_reducible rfl)
        try simp only [List.getElem_toArray, List.getElem_cons_zero, List.getElem_cons_succ, Act.put, List.setIfInBounds_toArray, List.set_cons_zero, List.set_cons_succ]
        refine wpAnyH_take (i := 15) (v := ?vv15_2) rfl (by kernel_rfl) (by kernel_rfl) (by kernel_rfl) (fun _ _ _ h => h) (Or.inl ⟨by rfl, ?hy15_2⟩) (by assumption) ?rest15_2
        case hy15_2 => (intro w' hSw; (try dsimp only at hSw); go_simp; try with_reducible rfl)
        try simp only [List.getElem_toArray, List.getElem_cons_zero, List.getElem_cons_succ, Act.put, List.setIfInBounds_toArray, List.set_cons_zero, List.set_cons_succ]
        refine wpAnyH_take (i := 16) (v := ?vv16_2) rfl (by kernel_rfl) (by kernel_rfl) (by kernel_rfl) (fun _ _ _ h => h) (Or.inl ⟨by rfl, ?hy16_2⟩) (by assumption) ?rest16_2
        case hy16_2 => (intro w' hSw; (try dsimp only at hSw); go_simp; try with_reducible rfl)
        try simp only [List.getElem_toArray, List.getElem_cons_zero, List.getElem_cons_succ, Act.put, List.setIfInBounds_toArray, List.set_cons_zero, List.set_cons_succ]
        refine wpAnyH_take (i := 17) (v := .agg #[.int .u8 3, .int .u8 (s : Int), .int .u8 (m : Int), sv d]) rfl (by kernel_rfl) (by kernel_rfl) (by kernel_rfl) (fun _ _ _ h => h) (Or.inl ⟨by rfl, fun w' hSw => exec_load_midU w' rfl rfl (HRB.out _ hSw).range Tryz.underlying65 rfl (by kernel_rfl)⟩) (by assumption) ?_
        try simp only [List.getElem_toArray, List.getElem_cons_zero, List.getElem_cons_succ, Act.put, List.setIfInBounds_toArray, List.set_cons_zero, List.set_cons_succ]
        refine wpAnyH_take (i := 18) (v := ?vv18_2) rfl (by kernel_rfl) (by kernel_rfl) (by kernel_rfl) (fun _ _ _ h => h) (Or.inl ⟨by rfl, ?hy18_2⟩) (by assumption) ?rest18_2
        case hy18_2 => (intro w' hSw; (try dsimp only at hSw); go_simp; try with_reducible rfl)
        try simp only [List.getElem_toArray, List.getElem_cons_zero, List.getElem_cons_succ, Act.put, List.setIfInBounds_toArray, List.set_cons_zero, List.set_cons_succ]
        refine wpAnyH_take (i := 19) (v := ?vv19_2) rfl (by kernel_rfl) (by kernel_rfl) (by kernel_rfl) (fun _ _ _ h => h) (Or.inl ⟨by rfl, ?hy19_2⟩) (by assumption) ?rest19_2
        case hy19_2 => (intro w' hSw; (try dsimp only at hSw); go_simp; try with_reducible rfl)
        try simp only [List.getElem_toArray, List.getElem_cons_zero, List.getElem_cons_succ, Act.put, List.setIfInBounds_toArray, List.set_cons_zero, List.set_cons_succ]
        refine wpAnyH_take (i := 20) (v := sv c0) rfl (by kernel_rfl) (by kernel_rfl) (by kernel_rfl) (fun _ _ _ h => h) (Or.inl ⟨by rfl, fun w' hSw => exec_load1 w' rfl rfl (HC0.out _ hSw) Tryz.underlying9 rfl⟩) (by assumption) ?_
        try simp only [List.getElem_toArray, List.getElem_cons_zero, List.getElem_cons_succ, Act.put, List.setIfInBounds_toArray, List.set_cons_zero, List.set_cons_succ]
        refine wpAnyH_ready (rs := [21]) (by kernel_rfl) (by simp) ?_
        refine AllReadyH.cons rfl (fun K hK => ?_) AllReadyH.nil
        go_simp
        go_at_call 58
        refine (HOF.out _ hHeld).mono ?_
        rintro e w9 ⟨rfl, hp9⟩
        have HP9 := Lib.hid hp9
        refine hK.out _ _ hp9 (fun hHeld => ?_)
        clear hK K
        try simp only [List.getElem_toArray, List.getElem_cons_zero, List.getElem_cons_succ, Act.put, List.setIfInBounds_toArray, List.set_cons_zero, List.set_cons_succ]
        refine wpAnyH_take (i := 22) (v := ?vv22_2) rfl (by kernel_rfl) (by kernel_rfl) (by kernel_rfl) (fun _ _ _ h => h) (Or.inl ⟨by rfl, ?hy22_2⟩) (by assumption) ?rest22_2
        case hy22_2 => (intro w' hSw; (try dsimp only at hSw); go_simp; try with_reducible rfl)
        try simp only [List.getElem_toArray, List.getElem_cons_zero, List.getElem_cons_succ, Act.put, List.setIfInBounds_toArray, List.set_cons_zero, List.set_cons_succ]
        refine wpAnyH_take (i := 23) (v := ?vv23_2) rfl (by kernel_rfl) (by kernel_rfl) (by kernel_rfl) (fun _ _ _ h => h) (Or.inl ⟨by rfl, ?hy23_2⟩) (by assumption) ?rest23_2
        case hy23_2 => (intro w' hSw; (try dsimp only at hSw); go_simp; try with_reducible rfl)
        try simp only [List.getElem_toArray, List.getElem_cons_zero, List.getElem_cons_succ, Act.put, List.setIfInBounds_toArray, List.set_cons_zero, List.set_cons_succ]
        refine wpAnyH_take (i := 24) (v := ?vv24_2) rfl (by kernel_rfl) (by kernel_rfl) (by kernel_rfl) (fun _ _ _ h => h) (Or.inl ⟨by rfl, ?hy24_2⟩) (by assumption) ?rest24_2
        case hy24_2 => (intro w' hSw; (try dsimp only at hSw); go_simp; try with_reducible rfl)
        try simp only [List.getElem_toArray, List.getElem_cons_zero, List.getElem_cons_succ, Act.put, List.setIfInBounds_toArray, List.set_cons_zero, List.set_cons_succ]
        refine wpAnyH_take (i := 25) (v := ?vv25_2) rfl (by kernel_rfl) (by kernel_rfl) (by kernel_rfl) (fun _ _ _ h => h) (Or.inl ⟨by rfl, ?hy25_2⟩) (by assumption) ?rest25_2
        case hy25_2 => (intro w' hSw; (try dsimp only at hSw); go_simp; try with_reducible rfl)
        try simp only [List.getElem_toArray, List.getElem_cons_zero, List.getElem_cons_succ, Act.put, List.setIfInBounds_toArray, List.set_cons_zero, List.set_cons_succ]
        refine wpAnyH_done (by kernel_rfl) ?_ _
        go_wp2_with fail
        go_ret
        exact ⟨rfl, HB.out _ HP9.out⟩
    · have hub : ((u : Int) == 3) = false := by rw [beq_eq_false_iff_ne]; omega
      by_cases hu2 : u = 2
      · subst hu2
        have hmo := match_one (r := ⟨2, s, m, d⟩) (show (2 : Nat) ≠ 3 by decide) chain host now
        rw [hmo] at HM1
        rw [show ((2 : Nat) : Int) = 2 from rfl] at *
        clear hmo hub
        cases b with
        | false =>
          clear hb hn1 hn1' HM2
          go_wp2_with (go_at_call 49; refine (HIS.out _ H3.out).mono ?_; rintro e w4 ⟨rfl, p4⟩; have HQ := Lib.hid p4; have d0 := (HRB.out _ p4).c0; clear p4)
          refine wp_region_held_drew (S := fun W => P W) (by kernel_rfl) (HP.out.drew HQ.out) (fun hHeld => ?_)
          refine wpAnyH_take (i := 0) (v := ?vv0_3) rfl (by kernel_rfl) (by kernel_rfl) (by kernel_rfl) (fun _ _ _ h => h) (Or.inl ⟨by rfl, ?hy0_3⟩) (by assumption) ?rest0_3
          case hy0_3 => (intro w' hSw; (try dsimp only at hSw); go_simp; try with_reducible rfl)
          try simp only [List.getElem_toArray, List.getElem_cons_zero, List.getElem_cons_succ, Act.put, List.setIfInBounds_toArray, List.set_cons_zero, List.set_cons_succ]
          refine wpAnyH_take (i := 1) (v := .int .u8 2) rfl (by kernel_rfl) (by kernel_rfl) (by kernel_rfl) (fun _ _ _ h => h) (Or.inl ⟨by rfl, fun w' hSw => exec_load1 w' rfl rfl (HRB.out _ hSw).c0 Tryz.underlying5 rfl⟩) (by assumption) ?_
          try simp only [List.getElem_toArray, List.getElem_cons_zero, List.getElem_cons_succ, Act.put, List.setIfInBounds_toArray, List.set_cons_zero, List.set_cons_succ]
          refine wpAnyH_take (i := 2) (v := ?vv2_3) rfl (by kernel_rfl) (by kernel_rfl) (by kernel_rfl) (fun _ _ _ h => h) (Or.inl ⟨by rfl, ?hy2_3⟩) (by assumption) ?rest2_3
          case hy2_3 => (intro w' hSw; (try dsimp only at hSw); go_simp; try with_reducible rfl)
          try simp only [List.getElem_toArray, List.getElem_cons_zero, List.getElem_cons_succ, Act.put, List.setIfInBounds_toArray, List.set_cons_zero, List.set_cons_succ]
          refine wpAnyH_take (i := 3) (v := ?vv3_3) rfl (by kernel_rfl) (by kernel_rfl) (by kernel_rfl) (fun _ _ _ h => h) (Or.inl ⟨by rfl, ?hy3_3⟩) (by assumption) ?rest3_3
          case hy3_3 => (intro w' hSw; (try dsimp only at hSw); go_simp; try with_reducible rfl)
          try simp only [List.getElem_toArray, List.getElem_cons_zero, List.getElem_cons_succ, Act.put, List.setIfInBounds_toArray, List.set_cons_zero, List.set_cons_succ]
          refine wpAnyH_take (i := 4) (v := .agg #[.int .u8 2, .int .u8 (s : Int), .int .u8 (m : Int), sv d]) rfl (by kernel_rfl) (by kernel_rfl) (by kernel_rfl) (fun _ _ _ h => h) (Or.inl ⟨by rfl, fun w' hSw => exec_load_midU w' rfl rfl (HRB.out _ hSw).range Tryz.underlying65 rfl (by kernel_rfl)⟩) (by assumption) ?_
          try simp only [List.getElem_toArray, List.getElem_cons_zero, List.getElem_cons_succ, Act.put, List.setIfInBounds_toArray, List.set_cons_zero, List.set_cons_succ]
          refine wpAnyH_take (i := 5) (v := ?vv5_3) rfl (by kernel_rfl) (by kernel_rfl) (by kernel_rfl) (fun _ _ _ h => h) (Or.inl ⟨by rfl, ?hy5_3⟩) (by assumption) ?rest5_3
          case hy5_3 => (intro w' hSw; (try dsimp only at hSw); go_simp; try with_reducible rfl)
          try simp only [List.getElem_toArray, List.getElem_cons_zero, List.getElem_cons_succ, Act.put, List.setIfInBounds_toArray, List.set_cons_zero, List.set_cons_succ]
          refine wpAnyH_take (i := 6) (v := ?vv6_3) rfl (by kernel_rfl) (by kernel_rfl) (by kernel_rfl) (fun _ _ _ h => h) (Or.inl ⟨by rfl, ?hy6_3⟩) (by assumption) ?rest6_3
          case hy6_3 => (intro w' hSw; (try dsimp only at hSw); go_simp; try with_reducible rfl)
          try simp only [List.getElem_toArray, List.getElem_cons_zero, List.getElem_cons_succ, Act.put, List.setIfInBounds_toArray, List.set_cons_zero, List.set_cons_succ]
          refine wpAnyH_take (i := 7) (v := ?vv7_3) rfl (by kernel_rfl) (by kernel_rfl) (by kernel_rfl) (fun _ _ _ h => h) (Or.inl ⟨by rfl, ?hy7_3⟩) (by assumption) ?rest7_3
          case hy7_3 => (intro w' hSw; (try dsimp only at hSw); go_simp; try with_reducible rfl)
          try simp only [List.getElem_toArray, List.getElem_cons_zero, List.getElem_cons_succ, Act.put, List.setIfInBounds_toArray, List.set_cons_zero, List.set_cons_succ]
          refine wpAnyH_take (i := 8) (v := ?vv8_3) rfl (by kernel_rfl) (by kernel_rfl) (by kernel_rfl) (fun _ _ _ h => h) (Or.inl ⟨by rfl, ?hy8_3⟩) (by assumption) ?rest8_3
          case hy8_3 => (intro w' hSw; (try dsimp only at hSw); go_simp; try with_reducible rfl)
          try simp only [List.getElem_toArray, List.getElem_cons_zero, List.getElem_cons_succ, Act.put, List.setIfInBounds_toArray, List.set_cons_zero, List.set_cons_succ]
          refine wpAnyH_take (i := 9) (v := ?vv9_3) rfl (by kernel_rfl) (by kernel_rfl) (by kernel_rfl) (fun _ _ _ h => h) (Or.inl ⟨by rfl, ?hy9_3⟩) (by assumption) ?rest9_3
          case hy9_3 => (intro w' hSw; (try dsimp only at hSw); go_simp; try with_reducible rfl)
          try simp only [List.getElem_toArray, List.getElem_cons_zero, List.getElem_cons_succ, Act.put, List.setIfInBounds_toArray, List.set_cons_zero, List.set_cons_succ]
          refine wpAnyH_take (i := 10) (v := ?vv10_3) rfl (by kernel_rfl) (by kernel_rfl) (by kernel_rfl) (fun _ _ _ h => h) (Or.inl ⟨by rfl, ?hy10_3⟩) (by assumption) ?rest10_3
          case hy10_3 => (intro w' hSw; (try dsimp only at hSw); go_simp; try with_reducible rfl)
          try simp only [List.getElem_toArray, List.getElem_cons_zero, List.getElem_cons_succ, Act.put, List.setIfInBounds_toArray, List.set_cons_zero, List.set_cons_succ]
          refine wpAnyH_take (i := 11) (v := ?vv11_3) rfl (by kernel_rfl) (by kernel_rfl) (by kernel_rfl) (fun _ _ _ h => h) (Or.inl ⟨by rfl, ?hy11_3⟩) (by assumption) ?rest11_3
          case hy11_3 => (intro w' hSw; (try dsimp only at hSw); go_simp; try with_reducible rfl)
          try simp only [List.getElem_toArray, List.getElem_cons_zero, List.getElem_cons_succ, Act.put, List.setIfInBounds_toArray, List.set_cons_zero, List.set_cons_succ]
          refine wpAnyH_ready (rs := [12]) (by kernel_rfl) (by simp) ?_
          refine AllReadyH.cons rfl (fun K hK => ?_) AllReadyH.nil
          go_simp
          go_at_call 49
          refine (HM1.out _ hHeld).mono ?_
          rintro e w9 ⟨rfl, hp9⟩
          have HP9 := Lib.hid hp9
          refine hK.out _ _ hp9 (fun hHeld => ?_)
          clear hK K
          try simp only [List.getElem_toArray, List.getElem_cons_zero, List.getElem_cons_succ, Act.put, List.setIfInBounds_toArray, List.set_cons_zero, List.set_cons_succ]
          refine wpAnyH_take (i := 13) (v := ?vv13_3) rfl (by kernel_rfl) (by kernel_rfl) (by kernel_rfl) (fun _ _ _ h => h) (Or.inl ⟨by rfl, ?hy13_3⟩) (by assumption) ?rest13_3
          case hy13_3 => (intro w' hSw; (try dsimp only at hSw); go_simp; try with_reducible rfl)
          try simp only [List.getElem_toArray, List.getElem_cons_zero, List.getElem_cons_succ, Act.put, List.setIfInBounds_toArray, List.set_cons_zero, List.set_cons_succ]
          refine wpAnyH_done (by kernel_rfl) ?_ _
          go_wp2_with fail
          go_ret
          exact ⟨rfl, HB.out _ HP9.out⟩
        | true =>
          obtain ⟨q1, q2, q3, q4, q5⟩ := match_other (r := ⟨2, s, m, d⟩) (show (2 : Nat) ≠ 3 by decide) hb.symm
          have q5 := q5 more
          clear hb hn1 hn1' HM2
          have HRD := Lib.hid (fun W (h : P W) => read_u HP.out h (HC.out W h) (fun q hq => by have := F2.out.x q hq; omega) HCP.out (by have := F2.out.t; omega) (n := nc) HNC.out.symm)
          have HBO := Lib.hid (fun (P' : World → Prop) (hP' : Cu P') W (h : P' W) (hc : SX W (.slice A chain.length cp) chain) (hm : SX W (.slice B more.length bc) more) => both_app hP' h hc hm (by have := F2.out.t; omega) (by have := F3.out.t; simp only [List.length_cons] at this; omega))
          rw [← HNC.out, ← HNM.out] at HBO
          have hsh := chainT_short chain
          have hl4 := chainT_len chain
          obtain ⟨l, hl⟩ : ∃ l, l = chainT chain := ⟨_, rfl⟩
          rw [← hl] at HRD q1 q2 q3 q4 hsh hl4
          obtain ⟨ln, hln⟩ : ∃ n, n = l.length := ⟨_, rfl⟩
          rw [← hln] at HRD
          have hln1 : 1 < ln := by rw [hln]; exact q1
          have hln4 : ln ≤ 4 := by rw [hln]; exact hl4
          have HLN := Lib.hid hln
          have HQ1 := Lib.hid q1
          have HSH := Lib.hid hsh
          have HHO := Lib.hid q2
          have HDA := Lib.hid q3
          have HLI := Lib.hid q4
          have HFU := Lib.hid q5
          have hln1' : (1 : Int) < (ln : Int) := by omega
          have hnc9 : nc ≤ 900 := by rw [HNC.out]; exact F2.out.t
          have hnm9 : nm ≤ 900 := by rw [HNM.out]; have := F3.out.t; simp only [List.length_cons] at this; omega
          clear q1 q2 q3 q4 q5 hl hln hl4 hsh
          go_wp2_with (go_at_call 49; refine (HIS.out _ H3.out).mono ?_; rintro e w4 ⟨rfl, p4⟩; have HQ := Lib.hid p4; have d0 := (HRB.out _ p4).c0; clear p4)
          refine wp_region_held_drew (S := fun W => P W) (by kernel_rfl) (HP.out.drew HQ.out) (fun hHeld => ?_)
          refine wpAnyH_take (i := 0) (v := ?vv0_4) rfl (by kernel_rfl) (by kernel_rfl) (by kernel_rfl) (fun _ _ _ h => h) (Or.inl ⟨by rfl, ?hy0_4⟩) (by assumption) ?rest0_4
          case hy0_4 => (intro w' hSw; (try dsimp only at hSw); go_simp; try with_reducible rfl)
          try simp only [List.getElem_toArray, List.getElem_cons_zero, List.getElem_cons_succ, Act.put, List.setIfInBounds_toArray, List.set_cons_zero, List.set_cons_succ]
          refine wpAnyH_take (i := 1) (v := .int .u8 2) rfl (by kernel_rfl) (by kernel_rfl) (by kernel_rfl) (fun _ _ _ h => h) (Or.inl ⟨by rfl, fun w' hSw => exec_load1 w' rfl rfl (HRB.out _ hSw).c0 Tryz.underlying5 rfl⟩) (by assumption) ?_
          try simp only [List.getElem_toArray, List.getElem_cons_zero, List.getElem_cons_succ, Act.put, List.setIfInBounds_toArray, List.set_cons_zero, List.set_cons_succ]
          refine wpAnyH_take (i := 2) (v := ?vv2_4) rfl (by kernel_rfl) (by kernel_rfl) (by kernel_rfl) (fun _ _ _ h => h) (Or.inl ⟨by rfl, ?hy2_4⟩) (by assumption) ?rest2_4
          case hy2_4 => (intro w' hSw; (try dsimp only at hSw); go_simp; try with_reducible rfl)
          try simp only [List.getElem_toArray, List.getElem_cons_zero, List.getElem_cons_succ, Act.put, List.setIfInBounds_toArray, List.set_cons_zero, List.set_cons_succ]
          refine wpAnyH_take (i := 3) (v := ?vv3_4) rfl (by kernel_rfl) (by kernel_rfl) (by kernel_rfl) (fun _ _ _ h => h) (Or.inl ⟨by rfl, ?hy3_4⟩) (by assumption) ?rest3_4
          case hy3_4 => (intro w' hSw; (try dsimp only at hSw); go_simp; try with_reducible rfl)
          try simp only [List.getElem_toArray, List.getElem_cons_zero, List.getElem_cons_succ, Act.put, List.setIfInBounds_toArray, List.set_cons_zero, List.set_cons_succ]
          refine wpAnyH_take (i := 4) (v := .agg #[.int .u8 2, .int .u8 (s : Int), .int .u8 (m : Int), sv d]) rfl (by kernel_rfl) (by kernel_rfl) (by kernel_rfl) (fun _ _ _ h => h) (Or.inl ⟨by rfl, fun w' hSw => exec_load_midU w' rfl rfl (HRB.out _ hSw).range Tryz.underlying65 rfl (by kernel_rfl)⟩) (by assumption) ?_
          try simp only [List.getElem_toArray, List.getElem_cons_zero, List.getElem_cons_succ, Act.put, List.setIfInBounds_toArray, List.set_cons_zero, List.set_cons_succ]
          refine wpAnyH_take (i := 5) (v := ?vv5_4) rfl (by kernel_rfl) (by kernel_rfl) (by kernel_rfl) (fun _ _ _ h => h) (Or.inl ⟨by rfl, ?hy5_4⟩) (by assumption) ?rest5_4
          case hy5_4 => (intro w' hSw; (try dsimp only at hSw); go_simp; try with_reducible rfl)
          try simp only [List.getElem_toArray, List.getElem_cons_zero, List.getElem_cons_succ, Act.put, List.setIfInBounds_toArray, List.set_cons_zero, List.set_cons_succ]
          refine wpAnyH_take (i := 6) (v := ?vv6_4) rfl (by kernel_rfl) (by kernel_rfl) (by kernel_rfl) (fun _ _ _ h => h) (Or.inl ⟨by rfl, ?hy6_4⟩) (by assumption) ?rest6_4
          case hy6_4 => (intro w' hSw; (try dsimp only at hSw); go_simp; try with_reducible rfl)
          try simp only [List.getElem_toArray, List.getElem_cons_zero, List.getElem_cons_succ, Act.put, List.setIfInBounds_toArray, List.set_cons_zero, List.set_cons_succ]
          refine wpAnyH_take (i := 7) (v := ?vv7_4) rfl (by kernel_rfl) (by kernel_rfl) (by kernel_rfl) (fun _ _ _ h => h) (Or.inl ⟨by rfl, ?hy7_4⟩) (by assumption) ?rest7_4
          case hy7_4 => (intro w' hSw; (try dsimp only at hSw); go_simp; try with_reducible rfl)
          try simp only [List.getElem_toArray, List.getElem_cons_zero, List.getElem_cons_succ, Act.put, List.setIfInBounds_toArray, List.set_cons_zero, List.set_cons_succ]
          refine wpAnyH_take (i := 8) (v := ?vv8_4) rfl (by kernel_rfl) (by kernel_rfl) (by kernel_rfl) (fun _ _ _ h => h) (Or.inl ⟨by rfl, ?hy8_4⟩) (by assumption) ?rest8_4
          case hy8_4 => (intro w' hSw; (try dsimp only at hSw); go_simp; try with_reducible rfl)
          try simp only [List.getElem_toArray, List.getElem_cons_zero, List.getElem_cons_succ, Act.put, List.setIfInBounds_toArray, List.set_cons_zero, List.set_cons_succ]
          refine wpAnyH_take (i := 9) (v := ?vv9_4) rfl (by kernel_rfl) (by kernel_rfl) (by kernel_rfl) (fun _ _ _ h => h) (Or.inl ⟨by rfl, ?hy9_4⟩) (by assumption) ?rest9_4
          case hy9_4 => (intro w' hSw; (try dsimp only at hSw); go_simp; try with_reducible rfl)
          try simp only [List.getElem_toArray, List.getElem_cons_zero, List.getElem_cons_succ, Act.put, List.setIfInBounds_toArray, List.set_cons_zero, List.set_cons_succ]
          refine wpAnyH_take (i := 10) (v := ?vv10_4) rfl (by kernel_rfl) (by kernel_rfl) (by kernel_rfl) (fun _ _ _ h => h) (Or.inl ⟨by rfl, ?hy10_4⟩) (by assumption) ?rest10_4
          case hy10_4 => (intro w' hSw; (try dsimp only at hSw); go_simp; try with_reducible rfl)
          try simp only [List.getElem_toArray, List.getElem_cons_zero, List.getElem_cons_succ, Act.put, List.setIfInBounds_toArray, List.set_cons_zero, List.set_cons_succ]
          refine wpAnyH_take (i := 11) (v := ?vv11_4) rfl (by kernel_rfl) (by kernel_rfl) (by kernel_rfl) (fun _ _ _ h => h) (Or.inl ⟨by rfl, ?hy11_4⟩) (by assumption) ?rest11_4
          case hy11_4 => (intro w' hSw; (try dsimp only at hSw); go_simp; try with_reducible rfl)
          try simp only [List.getElem_toArray, List.getElem_cons_zero, List.getElem_cons_succ, Act.put, List.setIfInBounds_toArray, List.set_cons_zero, List.set_cons_succ]
          refine wpAnyH_ready (rs := [12]) (by kernel_rfl) (by simp) ?_
          refine AllReadyH.cons rfl (fun K hK => ?_) AllReadyH.nil
          go_simp
          go_at_call 49
          refine (HM1.out _ hHeld).mono ?_
          rintro e w9 ⟨rfl, hp9⟩
          have HP9 := Lib.hid hp9
          refine hK.out _ _ hp9 (fun hHeld => ?_)
          clear hK K
          try simp only [List.getElem_toArray, List.getElem_cons_zero, List.getElem_cons_succ, Act.put, List.setIfInBounds_toArray, List.set_cons_zero, List.set_cons_succ]
          refine wpAnyH_take (i := 13) (v := ?vv13_4) rfl (by kernel_rfl) (by kernel_rfl) (by kernel_rfl) (fun _ _ _ h => h) (Or.inl ⟨by rfl, ?hy13_4⟩) (by assumption) ?rest13_4
          case hy13_4 => (intro w' hSw; (try dsimp only at hSw); go_simp; try with_reducible rfl)
          try simp only [List.getElem_toArray, List.getElem_cons_zero, List.getElem_cons_succ, Act.put, List.setIfInBounds_toArray, List.set_cons_zero, List.set_cons_succ]
          refine wpAnyH_done (by kernel_rfl) ?_ _
          have HQ6 := Lib.hid hHeld
          clear hHeld
          obtain ⟨n9, hn9⟩ : ∃ n, n = ((chain ++ more).take (max chain.length 4)).length := ⟨_, rfl⟩
          have hn9' : n9 = min (nc + nm) (max nc 4) := by rw [hn9, List.length_take, List.length_append, HNC.out, HNM.out]; omega
          have hmx : min ((nc : Int) + (nm : Int)) (max (nc : Int) 4) = (n9 : Int) := by omega
          have HN9 := Lib.hid hn9
          have HN9' := Lib.hid hn9'
          clear hn9 hn9'
          have HC1 := Lib.hid (HSH.out.at (k := 0) (by have := HQ1.out; omega))
          obtain ⟨c0, hc0e⟩ : ∃ c, c = ctAt l 0 := ⟨_, rfl⟩
          rw [← hc0e] at HHO HDA HC1
          have HCE := Lib.hid hc0e
          clear hc0e
          go_wp2_with (first
            | (go_at_call 35; refine (HRD.out _ HQ6.out).mono ?_; rintro e w5 ⟨A0, k0, nv, rfl, hle0, p5, hcr⟩; obtain ⟨A1', k1, w6, A2, k2, w7, r1, r2, p7, hx7, hk2⟩ := HBO.out (fun W => P W ∧ CR W A0 l nv) (HP.out.and (fun h hb => h.step hb)) _ ⟨p5, hcr⟩ (by rw [HNC.out]; exact HC.out _ p5) (by rw [HNM.out]; exact HM.out _ p5); have HR1 := Lib.hid r1; have HR2x := Lib.hid r2; obtain ⟨g0, off0, e0, _, _, hsx⟩ := p7.2.at (k := 0) (by have := HQ1.out; omega); subst e0; obtain ⟨a1, k1', e1⟩ := hsx.form; rw [← HCE.out] at e1; obtain ⟨P2, hP2⟩ : ∃ P2 : World → Prop, P2 = fun W => (P W ∧ CR W (some ⟨g0, off0, none⟩) l nv) ∧ SX W (.slice A2 (chain ++ more).length k2) (chain ++ more) := ⟨_, rfl⟩; have HP2 := Lib.hid (show Cu P2 by rw [hP2]; exact (HP.out.and (fun h hb => h.step hb)).and (fun h hb => h.step hb)); have H27 := Lib.hid (show P2 w7 by rw [hP2]; exact ⟨p7, hx7⟩); have H2P := Lib.hid (show ∀ W, P2 W → P W by rw [hP2]; exact fun W h => h.1.1); have H2C := Lib.hid (show ∀ W, P2 W → CR W (some ⟨g0, off0, none⟩) l nv by rw [hP2]; exact fun W h => h.1.2); have H2X := Lib.hid (show ∀ W, P2 W → SX W (.slice A2 (chain ++ more).length k2) (chain ++ more) by rw [hP2]; exact fun W h => h.2); have HCC := Lib.hid (fun W (h : P2 W) => (show CC W g0 off0 c0 (.slice a1 c0.names.length k1') ∧ SX W (.slice a1 c0.names.length k1') c0.names by obtain ⟨q1, q2⟩ := cr_ccU (H2C.out W h) (k := 0) (by have := HQ1.out; omega); rw [← HCE.out, e1] at q1 q2; rw [Nat.zero_mul, Nat.add_zero] at q1; exact ⟨q1, q2⟩)); have HHH := Lib.hid (fun W (h : P2 W) => host_u HP2.out h c0 a1 k1' host (HCC.out W h).2 HC1.out (by have := F3.out.x host (by simp); omega)); have HDD := Lib.hid (fun W (h : P2 W) => dates_u HP2.out h c0 a1 c0.names.length k1' now); have HLL := Lib.hid (fun W (h : P2 W) => linked_u HP2.out h k0 ((H2C.out W h).take 2) (HSH.out.take 2) (n := 2) (by rw [List.length_take]; have := HQ1.out; omega)); have HMF := Lib.hid (fun W (h : P2 W) => matches_u HP2.out h ⟨2, s, m, d⟩ (cp := k2) (host := host) now ((H2X.out W h).take (max chain.length 4) k2) (fun q hq => by rcases List.mem_append.1 (List.mem_of_mem_take hq) with hq | hq; have := F2.out.x q hq; omega; have := F3.out.x q (by simp [hq]); omega) (by rw [← HN9.out, HN9'.out]; omega) (by rw [← HN9.out, HN9'.out]; omega) (by have := F3.out.x host (by simp); omega) (n := n9) HN9.out.symm); rw [HHO.out] at HHH; rw [HDA.out] at HDD; rw [HLI.out] at HLL; rw [HFU.out] at HMF; have hkk : n9 ≤ k2 := (by rw [HN9'.out]; omega); have hkk' : (n9 : Int) ≤ (k2 : Int) := (by omega); have h2k : 2 ≤ k0 := (by omega); have h2k' : (2 : Int) ≤ (k0 : Int) := (by omega); obtain ⟨g0c, g1c, g2c, g3c, g4c, g5c⟩ := (HCC.out _ H27.out).1; simp only at HMF; rw [show ((2 : Nat) : Int) = 2 from rfl] at HMF; clear r1 r2 p7 hx7 p5 hcr hP2 e1 hsx)
            | (at_builtin; refine stepApp rfl _ _ 25 rfl rfl rfl HR2.out ?_)
            | (at_builtin; refine stepApp rfl _ _ 25 rfl rfl rfl HR1.out ?_; have HR2 := HR2x)
            | (go_at_call 38; refine (HHH.out _ H27.out).mono ?_; rintro e w8 ⟨rfl, p8⟩; have H28 := Lib.hid p8; obtain ⟨i0c, i1c, i2c, i3c, i4c, i5c⟩ := (HCC.out _ p8).1; clear p8)
            | (go_at_call 39; refine (HDD.out _ H28.out).mono ?_; rintro e w9 ⟨rfl, p9⟩; have H29 := Lib.hid p9; clear p9)
            | (go_at_call 36; refine (HLL.out _ H29.out).mono ?_; rintro e wa ⟨rfl, pa⟩; have H2a' := Lib.hid pa; have j0 := (HRB.out _ (H2P.out _ pa)).c0; have j1 := (HRB.out _ (H2P.out _ pa)).c1; have j2 := (HRB.out _ (H2P.out _ pa)).c2; have j3 := (HRB.out _ (H2P.out _ pa)).c3; clear pa)
            | (go_at_call 49; refine (HMF.out _ H2a'.out).mono ?_; rintro e wb ⟨rfl, pb⟩; have H2b := Lib.hid pb; clear pb))
          go_ret
          exact ⟨rfl, HB.out _ (H2P.out _ H2b.out)⟩
      · have hbf : b = false := by rw [hb]; exact match_usage (r := ⟨u, s, m, d⟩) hu2 hu3 chain host now
        subst hbf
        have hub2 : ((u : Int) == 2) = false := by rw [beq_eq_false_iff_ne]; omega
        have hub3 : ((u : Int) != 2) = true := by rw [bne_iff_ne]; omega
        clear hb hn1 hn1' HM2 HM1
        go_wp2_with (go_at_call 49; refine (HIS.out _ H3.out).mono ?_; rintro e w4 ⟨rfl, p4⟩; have HQ := Lib.hid p4; have d0 := (HRB.out _ p4).c0; clear p4)
        refine wp_region_held_drew (S := fun W => P W) (by kernel_rfl) (HP.out.drew HQ.out) (fun hHeld => ?_)
        refine wpAnyH_take (i := 0) (v := ?vv0_5) rfl (by kernel_rfl) (by kernel_rfl) (by kernel_rfl) (fun _ _ _ h => h) (Or.inl ⟨by rfl, ?hy0_5⟩) (by assumption) ?rest0_5
        case hy0_5 => (intro w' hSw; (try dsimp only at hSw); go_simp; try with_reducible rfl)
        try simp only [List.getElem_toArray, List.getElem_cons_zero, List.getElem_cons_succ, Act.put, List.setIfInBounds_toArray, List.set_cons_zero, List.set_cons_succ]
        refine wpAnyH_take (i := 1) (v := .int .u8 (u : Int)) rfl (by kernel_rfl) (by kernel_rfl) (by kernel_rfl) (fun _ _ _ h => h) (Or.inl ⟨by rfl, fun w' hSw => exec_load1 w' rfl rfl (HRB.out _ hSw).c0 Tryz.underlying5 rfl⟩) (by assumption) ?_
        try simp only [List.getElem_toArray, List.getElem_cons_zero, List.getElem_cons_succ, Act.put, List.setIfInBounds_toArray, List.set_cons_zero, List.set_cons_succ]
        refine wpAnyH_take (i := 2) (v := ?vv2_5) rfl (by kernel_rfl) (by kernel_rfl) (by kernel_rfl) (fun _ _ _ h => h) (Or.inl ⟨by rfl, ?hy2_5⟩) (by assumption) ?rest2_5
        case hy2_5 => (intro w' hSw; (try dsimp only at hSw); go_simp; try with_reducible rfl)
        try simp only [List.getElem_toArray, List.getElem_cons_zero, List.getElem_cons_succ, Act.put, List.setIfInBounds_toArray, List.set_cons_zero, List.set_cons_succ]
        refine wpAnyH_take (i := 3) (v := ?vv3_5) rfl (by kernel_rfl) (by kernel_rfl) (by kernel_rfl) (fun _ _ _ h => h) (Or.inl ⟨by rfl, ?hy3_5⟩) (by assumption) ?rest3_5
        case hy3_5 => (intro w' hSw; (try dsimp only at hSw); go_simp; try with_reducible rfl)
        try simp only [List.getElem_toArray, List.getElem_cons_zero, List.getElem_cons_succ, Act.put, List.setIfInBounds_toArray, List.set_cons_zero, List.set_cons_succ]
        refine wpAnyH_take (i := 4) (v := undef) rfl (by kernel_rfl) (by kernel_rfl) (by kernel_rfl) (fun _ _ _ h => h) (Or.inr ⟨by rfl, rfl⟩) (by assumption) ?_
        try simp only [List.getElem_toArray, List.getElem_cons_zero, List.getElem_cons_succ, Act.put, List.setIfInBounds_toArray, List.set_cons_zero, List.set_cons_succ]
        refine wpAnyH_take (i := 5) (v := undef) rfl (by kernel_rfl) (by kernel_rfl) (by kernel_rfl) (fun _ _ _ h => h) (Or.inr ⟨by rfl, rfl⟩) (by assumption) ?_
        try simp only [List.getElem_toArray, List.getElem_cons_zero, List.getElem_cons_succ, Act.put, List.setIfInBounds_toArray, List.set_cons_zero, List.set_cons_succ]
        refine wpAnyH_take (i := 6) (v := undef) rfl (by kernel_rfl) (by kernel_rfl) (by kernel_rfl) (fun _ _ _ h => h) (Or.inr ⟨by rfl, rfl⟩) (by assumption) ?_
        try simp only [List.getElem_toArray, List.getElem_cons_zero, List.getElem_cons_succ, Act.put, List.setIfInBounds_toArray, List.set_cons_zero, List.set_cons_succ]
        refine wpAnyH_take (i := 7) (v := undef) rfl (by kernel_rfl) (by kernel_rfl) (by kernel_rfl) (fun _ _ _ h => h) (Or.inr ⟨by rfl, rfl⟩) (by assumption) ?_
        try simp only [List.getElem_toArray, List.getElem_cons_zero, List.getElem_cons_succ, Act.put, List.setIfInBounds_toArray, List.set_cons_zero, List.set_cons_succ]
        refine wpAnyH_take (i := 8) (v := undef) rfl (by kernel_rfl) (by kernel_rfl) (by kernel_rfl) (fun _ _ _ h => h) (Or.inr ⟨by rfl, rfl⟩) (by assumption) ?_
        try simp only [List.getElem_toArray, List.getElem_cons_zero, List.getElem_cons_succ, Act.put, List.setIfInBounds_toArray, List.set_cons_zero, List.set_cons_succ]
        refine wpAnyH_take (i := 9) (v := undef) rfl (by kernel_rfl) (by kernel_rfl) (by kernel_rfl) (fun _ _ _ h => h) (Or.inr ⟨by rfl, rfl⟩) (by assumption) ?_
        try simp only [List.getElem_toArray, List.getElem_cons_zero, List.getElem_cons_succ, Act.put, List.setIfInBounds_toArray, List.set_cons_zero, List.set_cons_succ]
        refine wpAnyH_take (i := 10) (v := undef) rfl (by kernel_rfl) (by kernel_rfl) (by kernel_rfl) (fun _ _ _ h => h) (Or.inr ⟨by rfl, rfl⟩) (by assumption) ?_
        try simp only [List.getElem_toArray, List.getElem_cons_zero, List.getElem_cons_succ, Act.put, List.setIfInBounds_toArray, List.set_cons_zero, List.set_cons_succ]
        refine wpAnyH_take (i := 11) (v := undef) rfl (by kernel_rfl) (by kernel_rfl) (by kernel_rfl) (fun _ _ _ h => h) (Or.inr ⟨by rfl, rfl⟩) (by assumption) ?_
        try simp only [List.getElem_toArray, List.getElem_cons_zero, List.getElem_cons_succ, Act.put, List.setIfInBounds_toArray, List.set_cons_zero, List.set_cons_succ]
        refine wpAnyH_take (i := 12) (v := undef) rfl (by kernel_rfl) (by kernel_rfl) (by kernel_rfl) (fun _ _ _ h => h) (Or.inr ⟨by rfl, rfl⟩) (by assumption) ?_
        try simp only [List.getElem_toArray, List.getElem_cons_zero, List.getElem_cons_succ, Act.put, List.setIfInBounds_toArray, List.set_cons_zero, List.set_cons_succ]
        refine wpAnyH_take (i := 13) (v := ?vv13_5) rfl (by kernel_rfl) (by kernel_rfl) (by kernel_rfl) (fun _ _ _ h => h) (Or.inl ⟨by rfl, ?hy13_5⟩) (by assumption) ?rest13_5
        case hy13_5 => (intro w' hSw; (try dsimp only at hSw); go_simp; try with_reducible rfl)
        try simp only [List.getElem_toArray, List.getElem_cons_zero, List.getElem_cons_succ, Act.put, List.setIfInBounds_toArray, List.set_cons_zero, List.set_cons_succ]
        refine wpAnyH_done (by kernel_rfl) ?_ _
        have HP9 := Lib.hid hHeld
        have d1 := (HRB.out _ hHeld).c0
        go_wp2_with fail
        go_ret
        exact ⟨rfl, HB.out _ HP9.out⟩
  all_goals (go_ret; exact ⟨rfl, HB.out _ H9.out⟩)
end Go.Proofs.YtnaoandleelbkaaGreatDoor
