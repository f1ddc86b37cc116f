/-
  Readers of the program's: Line, where a line is taken.
-/
import Derived.Test.YtanfonpbnamjmaaDoorYLine
namespace Go.Proofs.YtanfonpbnamjmaaDoor
open Go Go.RowKit Go.Shelf
set_option maxRecDepth 100000

theorem info9' : (Tryd.prog.info? 9).map (fun i => (i.zero, i.size, i.bytes)) = some (some (.string ⟨#[]⟩), 1, 16) := by kernel_rfl
/-- An append of one text to a row of one's own. -/
theorem row_append {n : Nat} {w1 : World} {v : Value} {ls : List (List UInt8)} (h : w1.ownsRow n 9 1 v ls.length (ls.map sv)) (hn : n ≤ w1.heap.size) (hlen : ls.length ≤ 1000000)
    {ops : Array Oper} {rest : List Oper} {o : Oper} {a : Act} {Q : Exit → Act → World → Prop} (t : List UInt8) (C : Array Value) (hC : C.toList = [sv t])
    (s x : Operand) (hgd : o.guard = none) (ho : o.op = .call { callee := .builtin .append, args := #[s, x], argTypes := #[28, 28] }) (hs : a.eval s = v) (c : Nat) (hx : a.eval x = .slice (some ⟨w1.heap.size, 0, none⟩) 1 c)
    (k : ∀ g cap w', w'.ownsRow n 9 1 (.slice (some ⟨g, 0, none⟩) (ls.length + 1) cap) (ls.length + 1) ((ls ++ [t]).map sv) → (w1.alloc (.cells C 9)).grownBy w' v.ownBlock → (v.ownBlock = some g ∨ g = w1.heap.size + 1) → g < w'.heap.size →
      wpList Tryd.prog ops Q rest (a.put o.dst (.slice (some ⟨g, 0, none⟩) (ls.length + 1) cap)) w') :
    wpList Tryd.prog ops Q (o :: rest) a (w1.alloc (.cells C 9)) := by
  obtain ⟨i, hi, hz0, hz1, hz2⟩ := info_parts info9'
  obtain ⟨g, cap, w', hrun, hown, hgr, hor, hlt⟩ := run_append_lies (P := Tryd.prog) (w1.alloc (.cells C 9)) 28 o.type n 9 i (.string ⟨#[]⟩) 1 16 Tryd.underlying28 hi hz0 hz1 hz2 rfl (by decide) v ls.length (ls.map sv) (h.alloc _) ⟨w1.heap.size, 0, none⟩ 1 c [sv t] (by simp)
    (by rw [← hC]; exact World.news_of_block (heap_alloc_new w1 _)) (fun u hu => by simp at hu; subst hu; rfl) (by omega) (by unfold maxLen; omega) (by omega) (by simp; omega) (w1.heap.size + 1) (by simp)
  refine wpList_plain hgd fun K hK' => ?_
  unfold Oper.wp execOp
  simp only [ho, resolve, invoke, builtin, Sem.run_bind, Sem.run_pure, Result.andThen_ok, List.map_toArray, List.map_cons, List.map_nil, hs, hx, hrun]
  exact hK' _ _ (k g cap w' (by simpa using hown) hgr hor hlt)

/-- What the reader is behind the append and the two stores. -/
theorem Rd.appended {n : Nat} {w1 w2 : World} {b : Nat} {F : List Nat} {st : RS} (h : Rd n w1 b F st) (q : Nat) (t : List UInt8) (C : Array Value) (hl : st.ls.length < 32) {v u : Value} (hb : Blk w1 b st.c v st.lc st.lst u st.d) {g cap : Nat}
    (hown : w2.ownsRow n 9 1 (.slice (some ⟨g, 0, none⟩) (st.ls.length + 1) cap) (st.ls.length + 1) ((st.ls ++ [t]).map sv)) (hgr : (w1.alloc (.cells C 9)).grownBy w2 v.ownBlock) (hor : v.ownBlock = some g ∨ g = w1.heap.size + 1) (hlt : g < w2.heap.size) :
    Blk w2 b st.c v st.lc st.lst u st.d ∧
    Rd n ((w2.setCell ⟨b, 0, none⟩ (.int .i64 (q : Int))).setCell ⟨b, 1, none⟩ (.slice (some ⟨g, 0, none⟩) (st.ls.length + 1) cap)) b (g :: F) { st with ls := st.ls ++ [t], c := q } ∧
    Kp F w1 ((w2.setCell ⟨b, 0, none⟩ (.int .i64 (q : Int))).setCell ⟨b, 1, none⟩ (.slice (some ⟨g, 0, none⟩) (st.ls.length + 1) cap)) ∧ (∀ k ∈ g :: F, k ∈ F ∨ w1.heap.size ≤ k) := by
  obtain ⟨hm, hu, hl2, he, v', u', hb', hv, hu', h1, h2, h3, h4, h5⟩ := h
  have hb0 : Blk w1 b st.c v' st.lc st.lst u' st.d := hb'
  have ev : v' = v := by have := hb0.c1.symm.trans hb.c1; simpa using this
  have eu : u' = u := by have := hb0.c4.symm.trans hb.c4; simpa using this
  subst ev; subst eu
  have hub := hb.ne hu'
  have hvb := hb.ne hv
  have hk2 : Kp F w1 w2 := ((Kp.refl F w1).alloc _).grown hgr (fun k e _ => h1 k e)
  have hkv : Kp v'.ownBlock.toList w1 w2 := ((Kp.refl _ w1).alloc _).grown hgr (fun k e _ => by rw [e]; simp)
  have hbw2 : Blk w2 b st.c v' st.lc st.lst u' st.d := (hkv.block b hb.lt (by simpa using fun e => hvb e)).trans hb
  have hbX := (hbw2.set0 q).set1 (.slice (some ⟨g, 0, none⟩) (st.ls.length + 1) cap)
  have hkb : Kp [b] w2 ((w2.setCell ⟨b, 0, none⟩ (.int .i64 (q : Int))).setCell ⟨b, 1, none⟩ (.slice (some ⟨g, 0, none⟩) (st.ls.length + 1) cap)) := ((Kp.refl [b] w2).setCell (p := ⟨b, 0, none⟩) (by simp) _).setCell (p := ⟨b, 1, none⟩) (by simp) _
  have hgb : g ≠ b := by
    rcases hor with h | h
    · intro e; subst e; exact hvb h
    · have := hb.lt; omega
  have hs2 := hk2.size
  have hsb := hkb.size
  have hbm := hu b hm
  refine ⟨hbw2, Rd.make (st := { st with ls := st.ls ++ [t], c := q }) hbX (List.mem_cons_of_mem _ hm) (fun k hk => ?_) ⟨by simp; omega, hl2.2⟩ he (by simpa using ownsRow_kp hown hkb (fun g' e hg => by simp [Value.ownBlock] at e; simp at hg; omega)) (ownsRow_kp (ownsRow_kp hu' hkv (fun g' e hg => h3 g' (by simpa using hg) e)) hkb (fun g' e hg => hub (by rw [e]; simp at hg; rw [hg])))
    (fun g' e => by simp [Value.ownBlock] at e; rw [← e]; exact List.mem_cons_self) (fun g' e => List.mem_cons_of_mem _ (h2 g' e)) (fun g' e e' => ?_) (fun e => by simp at e) h5, hk2.trans hkb (fun k hk _ => by simp at hk; subst hk; exact hm), fun k hk => ?_⟩
  · rcases List.mem_cons.1 hk with rfl | hk
    · have := hown.lt k rfl
      refine ⟨this.1, ?_, by omega⟩
      rcases hor with h | h
      · exact (hu k (h1 k h)).2.1
      · omega
    · have := hu k hk; omega
  · simp [Value.ownBlock] at e
    subst e
    rcases hor with h | h
    · exact h3 g h e'
    · have := (hu'.lt g e').2; omega
  · rcases List.mem_cons.1 hk with rfl | hk
    · rcases hor with h | h
      · exact .inl (h1 k h)
      · exact .inr (by omega)
    · exact .inl hk

set_option maxHeartbeats 4000000 in
theorem line_more {n : Nat} {w : World} {b : Nat} {F : List Nat} {st : RS} (h : Rd n w b F st) (hw : LW w) (s : List UInt8) (hs : s.length ≤ 1000000) (hd : st.d = false) (hbad : badL st s = false) (h32 : st.ls.length < 32) (hmore : moreR s = true) :
    Calls Tryd.prog 20 #[.pointer (some ⟨b, 0, none⟩), sv s] w (LinePost n w b F st s) := by
  have HP := Lib.hid (parse_any s w hs hw)
  have H32 : ¬ st.ls.length = 32 := by omega
  have e1 : doneR st s = false := by unfold doneR; rw [hmore]; simp
  have e2 : errR st s = 0 := by unfold errR; rw [hd, hbad, if_neg H32]; rfl
  have e3 : stepR st s = { st with ls := st.ls ++ [textR s], c := codeR s } := by unfold stepR; rw [hd, hbad, if_neg H32, hmore]; rfl
  have hf : okForm s = true := by
    unfold badL at hbad
    cases e : okForm s with
    | true => rfl
    | false => rw [e] at hbad; simp at hbad
  have hv : parseV s = .tuple #[.int .i64 (codeR s : Int), .bool (moreR s), sv (textR s), .int .i64 0] := by unfold parseV; rw [if_pos hf]
  rw [hv, hmore] at HP
  unfold badL at hbad
  rw [hf] at hbad
  have hb2 : 0 < st.ls.length → codeR s = st.c := by simpa using hbad
  have HFIN := Lib.hid (show ∀ w1 w2 F', Below w.heap.size w w1 → Rd n w2 b F' { st with ls := st.ls ++ [textR s], c := codeR s } → Kp F w1 w2 → (∀ k ∈ F', k ∈ F ∨ w1.heap.size ≤ k) → LinePost n w b F st s (.returned (.tuple #[.bool false, .int .i64 0])) w2 from
    fun w1 w2 F' hb r1 r2 r3 => ⟨F', by rw [e1, e2], by rw [e3]; exact r1, (Kp.of_below hb F).trans r2 (fun k hk _ => hk), fun k hk => (r3 k hk).imp id (fun e => Nat.le_trans hb.size e)⟩)
  obtain ⟨q, hq⟩ : ∃ q, q = codeR s := ⟨_, rfl⟩
  obtain ⟨t, ht⟩ : ∃ t, t = textR s := ⟨_, rfl⟩
  rw [← hq] at HP hb2 HFIN
  rw [← ht] at HP HFIN
  have HR := Lib.hid h
  have hn : n ≤ w.heap.size := by have := h.up b h.mem; omega
  have HNN := Lib.hid hn
  obtain ⟨_, _, _, _, v, u, hb, hvv, _⟩ := h
  obtain ⟨Av, cv, rfl⟩ := owns_form hvv
  have hb0 : Blk w b st.c (.slice Av st.ls.length cv) st.lc st.lst u st.d := hb
  have c5 := hb0.c5
  rw [hd] at c5
  have HB := Lib.hid hb0
  have HOV := Lib.hid hvv
  have HL := Lib.hid h32
  have h32i : ((st.ls.length : Int) == 32) = false := by rw [beq_eq_false_iff_ne]; omega
  clear hb hb0 hd hvv e1 e2 e3 hw hf hv hbad hq ht hn h32 H32 hmore
  have HCC := Lib.hid (fun w1 (hb : Below w.heap.size w w1) => (HB.out.below hb).c0)
  have HCV := Lib.hid (fun w1 (hb : Below w.heap.size w w1) => (HB.out.below hb).c1)
  have HC2 : ((decide ((0 : Int) < st.ls.length)) = false) ∨ ((0 : Int) < st.ls.length ∧ ((q : Int) != (st.c : Int)) = false) := by
    by_cases h0 : 0 < st.ls.length
    · exact .inr ⟨by omega, by rw [hb2 h0]; simp⟩
    · exact .inl (by rw [decide_eq_false_iff_not]; omega)
  clear hb2
  rcases HC2 with hz | ⟨hz, hz2⟩
  · have hz' : ¬ (0 : Int) < st.ls.length := by simpa using hz
    clear hz
    go_enter Tryd.func20, Tryd.ntmps20
    go_wp2_with first
      | (go_at_call 52; refine (HP.out).mono ?_; rintro e w1 ⟨rfl, hb1⟩; have hc1 := HCC.out _ hb1; have hc2 := HCV.out _ hb1; have HO1 := Lib.hid (ownsRow_kp HOV.out (Kp.of_below hb1 []) (fun g _ => by simp)); have HB1 := Lib.hid hb1; clear hb1)
      | (at_builtin; refine row_append (n := n) (ls := st.ls) HO1.out (Nat.le_trans HNN.out HB1.out.size) (by have := HL.out; omega) t _ ?hC (.tmp 58) (.tmp 60) rfl rfl rfl _ rfl ?_; rotate_left; intro g cap w2 hown hgr hor hlt; have hA := (HR.out.below HB1.out).appended q t _ HL.out (HB.out.below HB1.out) hown hgr hor hlt; have d0 := hA.1.c0; have g0 := hA.1.fr 0; have d1 := hA.1.c1; have g1 := hA.1.fr 1; have HA := Lib.hid hA.2; clear hA hown hgr hor hlt)
    case hC => rfl
    go_ret2
    exact HFIN.out _ _ _ HB1.out HA.out.1 HA.out.2.1 HA.out.2.2
  · skip
    go_enter Tryd.func20, Tryd.ntmps20
    go_wp2_with first
      | (go_at_call 52; refine (HP.out).mono ?_; rintro e w1 ⟨rfl, hb1⟩; have hc1 := HCC.out _ hb1; have hc2 := HCV.out _ hb1; have HO1 := Lib.hid (ownsRow_kp HOV.out (Kp.of_below hb1 []) (fun g _ => by simp)); have HB1 := Lib.hid hb1; clear hb1)
      | (at_builtin; refine row_append (n := n) (ls := st.ls) HO1.out (Nat.le_trans HNN.out HB1.out.size) (by have := HL.out; omega) t _ ?hC (.tmp 58) (.tmp 60) rfl rfl rfl _ rfl ?_; rotate_left; intro g cap w2 hown hgr hor hlt; have hA := (HR.out.below HB1.out).appended q t _ HL.out (HB.out.below HB1.out) hown hgr hor hlt; have d0 := hA.1.c0; have g0 := hA.1.fr 0; have d1 := hA.1.c1; have g1 := hA.1.fr 1; have HA := Lib.hid hA.2; clear hA hown hgr hor hlt)
    case hC => rfl
    go_ret2
    exact HFIN.out _ _ _ HB1.out HA.out.1 HA.out.2.1 HA.out.2.2
end Go.Proofs.YtanfonpbnamjmaaDoor
