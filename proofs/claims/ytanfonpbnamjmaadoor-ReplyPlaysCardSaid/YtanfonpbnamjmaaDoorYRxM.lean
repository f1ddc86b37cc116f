/-
  The reference's Line: where a line is taken, and there are more.
-/
import Derived.Test.YtanfonpbnamjmaaDoorYRxL
namespace Go.Proofs.YtanfonpbnamjmaaDoor
open Go Go.RowKit Go.Shelf
set_option maxRecDepth 100000

/-- An append of a row that lies there to one of one's own. -/
theorem row_appendL {n : Nat} {w1 : World} {v : Value} {ls xs : List (List UInt8)} (h : w1.ownsRow n 9 1 v ls.length (ls.map sv)) (hn : n ≤ w1.heap.size) (hlen : ls.length + xs.length ≤ 1000000) (hx0 : 0 < xs.length) {g0 : Nat} (hxs : ∀ j, j < xs.length → w1.cell? ⟨g0, j, none⟩ = some (sv (xs.getD j [])))
    {ops : Array Oper} {rest : List Oper} {o : Oper} {a : Act} {Q : Exit → Act → World → Prop}
    (s x : Operand) (hgd : o.guard = none) (ho : o.op = .call { callee := .builtin .append, args := #[s, x], argTypes := #[28, 28] }) (hs : a.eval s = v) (c : Nat) (hx : a.eval x = .slice (some ⟨g0, 0, none⟩) xs.length c)
    (k : ∀ g cap w', w'.ownsRow n 9 1 (.slice (some ⟨g, 0, none⟩) (ls.length + xs.length) cap) (ls.length + xs.length) ((ls ++ xs).map sv) → w1.grownBy w' v.ownBlock → (v.ownBlock = some g ∨ g = w1.heap.size) → g < w'.heap.size →
      wpList Tryd.prog ops Q rest (a.put o.dst (.slice (some ⟨g, 0, none⟩) (ls.length + xs.length) cap)) w') :
    wpList Tryd.prog ops Q (o :: rest) a w1 := by
  obtain ⟨i, hi, hz0, hz1, hz2⟩ := info_parts info9'
  obtain ⟨g, cap, w', hrun, hown, hgr, hor, hlt⟩ := run_append_lies (P := Tryd.prog) w1 28 o.type n 9 i (.string ⟨#[]⟩) 1 16 Tryd.underlying28 hi hz0 hz1 hz2 rfl (by decide) v ls.length (ls.map sv) h ⟨g0, 0, none⟩ xs.length c (xs.map sv) (by simp)
    (fun j u hu => by
      have hj : j < xs.length := by have := (List.getElem?_eq_some_iff.1 hu).1; simpa using this
      have e1 : (⟨g0, 0, none⟩ : Addr).add j = ⟨g0, j, none⟩ := by unfold Addr.add; split <;> simp_all
      rw [e1, hxs j hj]
      rw [List.getElem?_map, List.getElem?_eq_getElem hj] at hu
      rw [List.getD_eq_getElem?_getD, List.getElem?_eq_getElem hj]
      simpa using hu)
    (fun u hu => by obtain ⟨z, _, rfl⟩ := List.mem_map.1 hu; rfl) hx0 (by unfold maxLen; omega) (by omega) hn w1.heap.size rfl
  refine wpList_plain hgd fun K hK' => ?_
  unfold Oper.wp execOp
  simp only [ho, resolve, invoke, builtin, Sem.run_bind, Sem.run_pure, Result.andThen_ok, List.map_toArray, List.map_cons, List.map_nil, hs, hx, hrun]
  exact hK' _ _ (k g cap w' (by simpa using hown) hgr hor hlt)
theorem row_append0 {n : Nat} {w1 : World} {v : Value} {xs : List (List UInt8)} (h : w1.ownsRow n 9 1 v 0 []) (hn : n ≤ w1.heap.size) (hlen : xs.length ≤ 1000000) (hx0 : 0 < xs.length) {g0 : Nat} (hxs : ∀ j, j < xs.length → w1.cell? ⟨g0, j, none⟩ = some (sv (xs.getD j [])))
    {ops : Array Oper} {rest : List Oper} {o : Oper} {a : Act} {Q : Exit → Act → World → Prop}
    (s x : Operand) (hgd : o.guard = none) (ho : o.op = .call { callee := .builtin .append, args := #[s, x], argTypes := #[28, 28] }) (hs : a.eval s = v) (c : Nat) (hx : a.eval x = .slice (some ⟨g0, 0, none⟩) xs.length c)
    (k : ∀ g cap w', w'.ownsRow n 9 1 (.slice (some ⟨g, 0, none⟩) xs.length cap) xs.length (xs.map sv) → w1.grownBy w' v.ownBlock → (v.ownBlock = some g ∨ g = w1.heap.size) → g < w'.heap.size →
      wpList Tryd.prog ops Q rest (a.put o.dst (.slice (some ⟨g, 0, none⟩) xs.length cap)) w') :
    wpList Tryd.prog ops Q (o :: rest) a w1 := by
  refine row_appendL (ls := []) h hn (by simpa using hlen) hx0 hxs s x hgd ho hs c hx fun g cap w' h1 h2 h3 h4 => ?_
  rw [show ([] : List (List UInt8)).length + xs.length = xs.length from Nat.zero_add _] at h1 ⊢
  exact k g cap w' (by simpa using h1) h2 h3 h4
/-- An append of nothing. -/
theorem run_append_of_nil (w : World) (base : Nat) (v : Value) (n : Nat) (xs : List Value) (hown : w.ownsRow base 9 1 v n xs) (c : Nat) : (Builtin.append_ #[28, 28] 28 #[v, .slice none 0 c]).run Tryd.prog w = .ok v w := by
  obtain ⟨i, hi, _, _, _⟩ := info_parts info9'
  rcases hown.2 with ⟨rfl, rfl⟩ | ⟨g, cap, cur, rfl, _, _, hnc, _⟩
  · simp [Builtin.append_, run_underlying Tryd.underlying28, sizeOf, typeInfo, hi, Builtin.lenOf, Builtin.firstCells]
  · simp [Builtin.append_, run_underlying Tryd.underlying28, sizeOf, typeInfo, hi, Builtin.lenOf, Builtin.firstCells, hnc, storeCells]
theorem wpList_append_run {P : Program} {ops : Array Oper} {rest : List Oper} {o : Oper} {a : Act} {w w' : World} {Q : Exit → Act → World → Prop} {v v' xv : Value}
    (hg : o.guard = none) (s x : Operand) (t : TypeId) (hop : o.op = Op.call { callee := Callee.builtin Builtin.append, args := #[s, x], argTypes := #[t, t] }) (hs : a.eval s = v) (hx : a.eval x = xv)
    (hrun : (Builtin.append_ #[t, t] o.type #[v, xv]).run P w = .ok v' w') (hK : wpList P ops Q rest (a.put o.dst v') w') : wpList P ops Q (o :: rest) a w :=
  wpList_plain hg fun K hK' => by
    unfold Oper.wp execOp
    simp only [hop, resolve, invoke, builtin, Sem.run_bind, Sem.run_pure, Result.andThen_ok, List.map_toArray, List.map_cons, List.map_nil, hs, hx, hrun]
    exact hK' _ _ hK

/-- What the reader is with one line more in its row. -/
def Took (n : Nat) (w W : World) (b : Nat) (G : List Nat) (raw : List (List UInt8)) (st : RS) (s : List UInt8) (v : Value) (g : Nat) : Prop :=
  Kp [b] w W ∧ w.heap.size ≤ g ∧ g < W.heap.size ∧ (∃ u, Xlk W b v st.lc st.lst u (decide (0 < st.lls.length)) st.d ∧ RowG W G u st.lls ∧ (st.lls = [] → u = .slice none 0 0)) ∧ RowG W [g] v (raw ++ [s])
theorem Rx.took {n : Nat} {w w2 w4 : World} {b : Nat} {G raw} {st : RS} (h : Rx n w b G raw st) (s : List UInt8) (hb2 : Below w.heap.size w w2) (hb4 : Below w2.heap.size w2 w4) {g cap : Nat}
    (hown : w4.ownsRow w2.heap.size 9 1 (.slice (some ⟨g, 0, none⟩) (raw.length + 1) cap) (raw.length + 1) ((raw ++ [s]).map sv)) :
    w4.cell? ⟨b, 0, none⟩ = w.cell? ⟨b, 0, none⟩ ∧ w4.frozen? ⟨b, 0, none⟩ = false ∧ Took n w (w4.setCell ⟨b, 0, none⟩ (.slice (some ⟨g, 0, none⟩) (raw.length + 1) cap)) b G raw st s (.slice (some ⟨g, 0, none⟩) (raw.length + 1) cap) g := by
  have hbl := hb2.trans (hb4.mono hb2.size)
  have h4 := h.below hbl
  have hlt := h.lt
  obtain ⟨_, _, _, _, _, _, _, v0, u0, hx0, _⟩ := h
  obtain ⟨a1, a2, a3, a4, a5, a6, a7, v, u, hx, hv, hu, e1, e2⟩ := h4
  have hk : Kp [b] w4 (w4.setCell ⟨b, 0, none⟩ (.slice (some ⟨g, 0, none⟩) (raw.length + 1) cap)) := (Kp.refl [b] w4).setCell (by simp) _
  have hl := hown.lt g rfl
  have hs2 := hb2.size
  refine ⟨World.cell?_of_block (w := w) (hbl.block b hlt), hx.fr 0, (Kp.of_below hbl [b]).trans hk (fun k hk _ => hk), by omega, by have := hk.size; omega, ⟨u, hx.set0 _, hu.kp hk (fun k hg hg' => by simp at hg'; subst hg'; exact a1 hg), e2⟩, ?_⟩
  have := RowG.of_owns (xs := raw ++ [s]) (G := [g]) (by simpa using ownsRow_kp hown hk (fun g' e hg => by simp [Value.ownBlock] at e; simp at hg; omega)) (fun g' e => by simp [Value.ownBlock] at e; simp [e])
  simpa using this
theorem Took.more {n : Nat} {w W : World} {b : Nat} {G raw} {st : RS} {s : List UInt8} {v : Value} {g : Nat} (h : Rx n w b G raw st) (ht : Took n w W b G raw st s v g) (hs : s.length ≤ 1000000) (hd : st.d = false) (hbad : badL st s = false) (h32 : st.ls.length < 32) (hm : moreR s = true) :
    RLinePost n w b G st s (.returned (.tuple #[.bool false, .int .i64 0])) W := by
  obtain ⟨t1, t2, t3, ⟨u, t4, t5, t6⟩, t7⟩ := ht
  have H32 : ¬ st.ls.length = 32 := by omega
  have e1 : doneR st s = false := by unfold doneR; rw [hm]; simp
  have e2 : errR st s = 0 := by unfold errR; rw [hd, hbad, if_neg H32]; rfl
  have e3 : stepR st s = { st with ls := st.ls ++ [textR s], c := codeR s } := by unfold stepR; rw [hd, hbad, if_neg H32, hm]; rfl
  have hf : okForm s = true := by
    unfold badL at hbad
    cases e : okForm s with
    | true => rfl
    | false => rw [e] at hbad; simp at hbad
  have hb2 : 0 < st.ls.length → codeR s = st.c := by unfold badL at hbad; rw [hf] at hbad; simpa using hbad
  have hlt := h.lt
  obtain ⟨a1, a2, a3, a4, a5, a6, a7, _⟩ := h
  have hlr : st.ls.length = raw.length := by rw [a3, List.length_map]
  refine ⟨g :: G, raw ++ [s], by rw [e1, e2], ?_, t1, fun k hk => ?_⟩
  · rw [e3]
    refine ⟨fun hg => ?_, a2, by show st.ls ++ _ = _; rw [a3]; simp, fun x hx => ?_, fun _ => ?_, ⟨by rw [List.length_append, List.length_singleton]; omega, a6.2⟩, a7, v, u, t4, t7.mono (by simp), t5.mono (fun k hk => List.mem_cons_of_mem _ hk), fun e => by simp at e, t6⟩
    · rcases List.mem_cons.1 hg with rfl | hg
      · omega
      · exact a1 hg
    · rcases List.mem_append.1 hx with hx | hx
      · exact a4 x hx
      · simp only [List.mem_singleton] at hx; subst hx; exact ⟨hf, hs⟩
    · by_cases h0 : raw = []
      · subst h0; rfl
      · have hp : 0 < raw.length := List.length_pos_iff.2 h0
        have : (raw ++ [s]).getD 0 [] = raw.getD 0 [] := by rw [List.getD_eq_getElem?_getD, List.getElem?_append_left hp, ← List.getD_eq_getElem?_getD]
        rw [this, a5 h0]
        exact (hb2 (by omega)).symm
  · rcases List.mem_cons.1 hk with rfl | hk
    · exact .inr t2
    · exact .inl hk
theorem row_appendB {n : Nat} {w1 : World} {v : Value} {ls : List (List UInt8)} (h : w1.ownsRow n 9 1 v ls.length (ls.map sv)) (hn : n ≤ w1.heap.size) (hlen : ls.length ≤ 1000000)
    {ops : Array Oper} {rest : List Oper} {o : Oper} {a : Act} {Q : Exit → Act → World → Prop} (t : List UInt8) (C : Array Value) (hC : C.toList = [sv t])
    (s x : Operand) (hgd : o.guard = none) (ho : o.op = .call { callee := .builtin .append, args := #[s, x], argTypes := #[28, 28] }) (hs : a.eval s = v) (c B : Nat) (hx : a.eval x = .slice (some ⟨B, 0, none⟩) 1 c) (hB : w1.heap.size = B)
    (k : ∀ g cap w', w'.ownsRow n 9 1 (.slice (some ⟨g, 0, none⟩) (ls.length + 1) cap) (ls.length + 1) ((ls ++ [t]).map sv) → (w1.alloc (.cells C 9)).grownBy w' v.ownBlock → (v.ownBlock = some g ∨ g = w1.heap.size + 1) → g < w'.heap.size →
      wpList Tryd.prog ops Q rest (a.put o.dst (.slice (some ⟨g, 0, none⟩) (ls.length + 1) cap)) w') :
    wpList Tryd.prog ops Q (o :: rest) a (w1.alloc (.cells C 9)) := by
  subst hB
  exact row_append h hn hlen t C hC s x hgd ho hs c hx k
theorem owns_none {w : World} (o : Array Value) (ho : o.size = 0) : (w.alloc (.cells o 9)).ownsRow w.heap.size 9 1 (.slice (some ⟨w.heap.size, 0, none⟩) 0 0) 0 [] := World.ownsRow_made w o 0 (Nat.le_refl _) (by decide) (by rw [ho])

set_option maxHeartbeats 8000000 in
theorem rline_more {n : Nat} {w : World} {b : Nat} {G raw} {st : RS} (h : Rx n w b G raw st) (s : List UInt8) (hs : s.length ≤ 1000000) (hd : st.d = false) (hbad : badL st s = false) (h32 : st.ls.length < 32) (hm : moreR s = true) :
    Calls Tryd.prog 21 #[.pointer (some ⟨b, 0, none⟩), sv s] w (RLinePost n w b G st s) := by
  have HM := Lib.hid hm
  have HP := Lib.hid (rparse_any s w hs)
  have HR := Lib.hid h
  have hf : okForm s = true := by
    unfold badL at hbad
    cases e : okForm s with
    | true => rfl
    | false => rw [e] at hbad; simp at hbad
  have hv : parseV s = .tuple #[.int .i64 (codeR s : Int), .bool (moreR s), sv (textR s), .int .i64 0] := by unfold parseV; rw [if_pos hf]
  rw [hv, hm] at HP
  have HBAD := Lib.hid hbad
  have hb2 : 0 < st.ls.length → codeR s = st.c := by unfold badL at hbad; rw [hf] at hbad; simpa using hbad
  have H32 := Lib.hid h32
  have HD := Lib.hid hd
  have hlr : st.ls.length = raw.length := by rw [h.ls, List.length_map]
  rw [hlr] at hb2
  have hr32 : raw.length < 32 := by omega
  obtain ⟨q, hq⟩ : ∃ q, q = codeR s := ⟨_, rfl⟩
  obtain ⟨t, htx⟩ : ∃ t, t = textR s := ⟨_, rfl⟩
  rw [← hq] at HP hb2
  rw [← htx] at HP
  have HQ := Lib.hid hq
  have HT := Lib.hid htx
  obtain ⟨-, -, -, -, -, -, -, v, u, hb, hv0, -, hvn, -⟩ := h
  obtain ⟨Av, cv, rfl, hrow⟩ := hv0
  have c5 := hb.c5
  rw [hd] at c5
  have HB := Lib.hid hb
  have HX := Lib.hid (show ∀ w1, Below w.heap.size w w1 → w1.cell? ⟨b, 0, none⟩ = some (.slice Av raw.length cv) from fun w1 hb1 => ((HB.out).below hb1).c0)
  have HRL := Lib.hid hr32
  by_cases h0 : raw = []
  · subst h0
    obtain ⟨rfl, -, rfl⟩ : Av = none ∧ ([] : List (List UInt8)).length = 0 ∧ cv = 0 := by have := hvn rfl; simpa using this
    clear hf hv hbad hb hrow hvn hlr hr32 hq htx hb2 h32 hd hm
    go_enter Tryd.func21, Tryd.ntmps21
    go_wp2_with fail
    refine (HP.out).mono ?_
    rintro e w2 ⟨rfl, hb1⟩
    have k0 := HX.out _ hb1
    have HB2 := Lib.hid hb1
    have HLT := Lib.hid (show b < w2.heap.size from Nat.lt_of_lt_of_le HR.out.lt hb1.size)
    have k0' := (HX.out _ (hb1.trans ((below_alloc w2 (.cells #[] 9)).mono hb1.size)))
    clear hb1
    go_wp2_with first
      | (at_builtin; refine wpList_append_run rfl (.tmp 71) (.tmp 75) 28 rfl rfl rfl (run_append_of_nil _ w2.heap.size _ _ _ (owns_none #[] rfl) 0) ?_)
      | (at_builtin; refine row_appendB (n := w2.heap.size) (ls := []) (owns_none #[] rfl) (by simp) (by decide) s _ rfl (.tmp 76) (.tmp 78) rfl rfl rfl _ _ rfl (by simp) ?_; intro g cap w4 hown hgr hor hlt4; have hb4 : Below w2.heap.size w2 w4 := Below.grown ((below_alloc w2 _).alloc (by simp) _) hgr (by simp; omega) (fun j hj => by simp [Value.ownBlock] at hj; omega); have hTK := HR.out.took s HB2.out hb4 (by simpa using hown); have d0 := hTK.1.trans (HX.out _ (Below.refl _ _)); have f0 := hTK.2.1; have HTK := Lib.hid hTK.2.2; have HB4 := Lib.hid hb4; clear hTK hown hgr hor hlt4 hb4)
    go_ret2
    exact Took.more HR.out HTK.out hs HD.out HBAD.out H32.out HM.out
  · have hp : 0 < raw.length := List.length_pos_iff.2 h0
    obtain ⟨x, hx, hok, hxl, hcx⟩ := HR.out.head hp
    obtain ⟨g0, hgG, rfl, hgl, hcell⟩ := hrow hp
    have HCL := Lib.hid (show ∀ w1, Below w.heap.size w w1 → ∀ j, j < raw.length → w1.cell? ⟨g0, j, none⟩ = some (sv (raw.getD j [])) from fun w1 hb1 j hj => (hb1.cell (p := ⟨g0, j, none⟩) hgl).trans (hcell j hj))
    have HC0 := Lib.hid (show ∀ w1, Below w.heap.size w w1 → w1.cell? ⟨g0, 0, none⟩ = some (sv x) from fun w1 hb1 => by rw [hx]; exact HCL.out w1 hb1 0 hp)
    have HP2 := Lib.hid (fun W => rparse_any x W hxl)
    rw [show parseV x = .tuple #[.int .i64 (codeR x : Int), .bool (moreR x), sv (textR x), .int .i64 0] by unfold parseV; rw [if_pos hok]] at HP2
    rw [hcx] at HP2
    have hne : ((st.c : Int) != (q : Int)) = false := by rw [hb2 hp]; simp
    have hl : (0 : Int) < raw.length := by omega
    have hl2 : ¬ (32 : Int) ≤ raw.length := by omega
    have HPL := Lib.hid hp
    clear hf hv hbad hb hrow hvn hlr hr32 hq htx hb2 h32 hd hm hx hok hxl hcx hgl hcell h0 hp hgG
    go_enter Tryd.func21, Tryd.ntmps21
    go_wp2_with fail
    refine (HP.out).mono ?_
    rintro e w1 ⟨rfl, hb1⟩
    have k0 := HX.out _ hb1
    have kg := HC0.out _ hb1
    have HB1 := Lib.hid hb1
    clear hb1
    go_wp2_with fail
    refine (HP2.out w1).mono ?_
    rintro e w2 ⟨rfl, hb2⟩
    have hb1 := (HB1.out).trans (hb2.mono HB1.out.size)
    have HB2 := Lib.hid hb1
    have k0' := HX.out _ hb1
    have HLT := Lib.hid (show b < w2.heap.size from Nat.lt_of_lt_of_le HR.out.lt hb1.size)
    have k0'' := (HX.out _ (hb1.trans ((below_alloc w2 (.cells #[] 9)).mono hb1.size)))
    clear hb1 hb2 k0 kg
    go_wp2_with first
      | (at_builtin; refine row_append0 (n := w2.heap.size) (xs := raw) (owns_none #[] rfl) (by simp) (by have := HRL.out; omega) HPL.out (fun j hj => HCL.out _ ((HB2.out).trans ((below_alloc w2 (.cells #[] 9)).mono HB2.out.size)) j hj) (.tmp 71) (.tmp 75) rfl rfl rfl _ rfl ?_; intro g1 cap1 w3 hown hgr hor hlt3; have hb3 : Below w2.heap.size w2 w3 := Below.grown (below_alloc w2 (.cells #[] 9)) hgr (by simp) (fun j hj => by simp [Value.ownBlock] at hj; omega); have HB3 := Lib.hid hb3; have HO3 := Lib.hid hown; have k3 := HX.out _ ((HB2.out).trans (hb3.mono HB2.out.size)); clear hown hgr hor hlt3 hb3)
      | (at_builtin; refine row_append (n := w2.heap.size) (ls := raw) HO3.out HB3.out.size (by have := HRL.out; omega) s _ ?hC (.tmp 76) (.tmp 78) rfl rfl rfl _ rfl ?_; rotate_left; intro g cap w4 hown hgr hor hlt4; have hb4 : Below w2.heap.size w2 w4 := Below.grown ((HB3.out).alloc HB3.out.size _) hgr (by have := HB3.out.size; simp; omega) (fun j hj => (HO3.out.lt j hj).1); have hTK := HR.out.took s HB2.out hb4 (by simpa using hown); have d0 := hTK.1.trans (HX.out _ (Below.refl _ _)); have f0 := hTK.2.1; have HTK := Lib.hid hTK.2.2; have HB4 := Lib.hid hb4; clear hTK hown hgr hor hlt4 hb4)
    case hC => rfl
    go_ret2
    exact Took.more HR.out HTK.out hs HD.out HBAD.out H32.out HM.out
end Go.Proofs.YtanfonpbnamjmaaDoor
