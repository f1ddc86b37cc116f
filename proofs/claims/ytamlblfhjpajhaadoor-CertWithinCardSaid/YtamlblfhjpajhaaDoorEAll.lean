/-
  The contract of All.
-/
import Derived.RangeFuncBox
import Derived.RangeFuncFrom
import Derived.Maps.AppendAt
import Derived.Outline
import Derived.Test.YtamlblfhjpajhaaDoorEIter
namespace Go.Proofs.YtamlblfhjpajhaaDoor
set_option linter.unusedSimpArgs false
set_option linter.unusedVariables false
open Go Go.RowKit Go.Shelf
set_option maxRecDepth 100000
attribute [local go_sem] Oper.semAt_some

theorem po_notCells {e : TypeId} {W W' : World} {B base : Nat} {v : Value} {xs : List Tv} {row : Option Nat} (h : TO e base W v xs) (hg : W.grownBy W' row) (hr : ∀ r, row = some r → B ≤ r ∧ ∃ o : Obj, W.heap[r]? = some o ∧ o.isCells = false) : TO e base W' v xs := by
  refine h.old hg fun g e1 e2 => ?_
  obtain ⟨_, o, ho, hc⟩ := hr g e2.symm
  rcases h.2 with ⟨rfl, _⟩ | ⟨g', cap, cur, rfl, hb', hgb, _⟩
  · simp [Value.ownBlock] at e1
  · obtain rfl : g' = g := by simpa [Value.ownBlock] using e1
    rw [hgb] at ho; cases ho; cases hc
theorem keepsFrom_below {n : Nat} {A B : World} (hb : Below A.heap.size A B) : KeepsFrom n A B := ⟨hb.size, fun k o _ h0 _ => (hb.block k (lt_of_blk h0)).trans h0⟩
theorem IB.own (t : UInt8) (v : List UInt8) (k n : Nat) : OwnFrom n (fun (_ : Unit) W => IB W k t v) := fun s W W' row h hg hr =>
  (hg.block k (lt_of_blk h) (fun e => by obtain ⟨_, o, ho, hc⟩ := hr k e.symm; rw [show W.heap[k]? = _ from h] at ho; cases ho; cases hc)).trans h
theorem below_put (w W : World) (D : Nat) (o' : Obj) (hD : w.heap.size ≤ D) (hb : Below w.heap.size w W) : Below w.heap.size w (W.putObj D o') :=
  ⟨hb.os, hb.tape, hb.output, by rw [World.putObj_size]; exact hb.size, fun k hk => (World.putObj_heap_other (by omega)).trans (hb.block k hk)⟩

theorem handsO_wide {α : Type} {m m' : Nat} {P : Program} {g : Nat} {lb : Array Value} {encs : α → Array Value} {Kp : World → World → Prop} {Nxt : List α → α → Prop} {S Sp : List α → Prop} {w : World} (h : HandsO Fence.wide m P g lb encs Kp Nxt S Sp w) : HandsO Fence.wide m' P g lb encs Kp Nxt S Sp w :=
  fun l J Jx W hb hJ hJx hY h0 => callsIn_wide.2 (callsIn_wide.1 (h l J Jx W hb hJ hJx (fun pre x W1 hj hn => yieldAt_wide (hY pre x W1 hj hn)) h0))

theorem wpListIn_append_run {F : Fence} {n : Nat} {P : Program} {ops : Array Oper} {rest : List Oper} {o : Oper} {a : Act} {w w' : World} {Q : Exit → Act → World → Prop} {v v' xv : Value}
    (hg : o.guard = none) (s x : Operand) (t : TypeId) (hop : o.op = Op.call { callee := Callee.builtin Builtin.append, args := #[s, x], argTypes := #[t, t] }) (hs : a.eval s = v) (hx : a.eval x = xv)
    (hrun : (Builtin.append_ #[t, t] o.type #[v, xv]).run P w = .ok v' w') (hK : wpListIn F n P ops Q rest (a.put o.dst v') w') : wpListIn F n P ops Q (o :: rest) a w := by
  refine wpListIn_plain hg fun K hK' => ?_
  unfold Oper.wpIn
  refine ⟨?_, ?_⟩
  · simp [Oper.about, hop, resolve, Target.leads, Sem.run_pure]
  · rw [Oper.semAt_plain F _ _ (by rw [hop]; intro c hc'; cases hc')]
    simp [execOp, hop, resolve, invoke, builtin, hs, hx, hrun, Result.andThen]
    exact hK' _ _ hK

/-- A round that collects a thing. -/
theorem collectI {W : World} {R base : Nat} {v0 : Value} {outs : List Tv} (x : Tv) (k0 : Boxed W R 53 v0) (k2 : TO 58 base W v0 outs) (hbase : base ≤ W.heap.size) (hRb : R < base) (hlen : outs.length ≤ 1000000) :
    ∃ g cap w2, (Builtin.append_ #[53, 53] 53 #[v0, .slice (some ⟨W.heap.size, 0, none⟩) 1 1]).run Tryd.prog (W.alloc (.cells #[bvi x.1, sv x.2] 58)) = .ok (.slice (some ⟨g, 0, none⟩) (outs.length + 1) cap) w2 ∧
      w2.cell? ⟨R, 0, none⟩ = some v0 ∧ w2.frozen? ⟨R, 0, none⟩ = false ∧
      KeepsOthers W (w2.setCell ⟨R, 0, none⟩ (.slice (some ⟨g, 0, none⟩) (outs.length + 1) cap)) ∧
      Boxed (w2.setCell ⟨R, 0, none⟩ (.slice (some ⟨g, 0, none⟩) (outs.length + 1) cap)) R 53 (.slice (some ⟨g, 0, none⟩) (outs.length + 1) cap) ∧
      TO 58 base (w2.setCell ⟨R, 0, none⟩ (.slice (some ⟨g, 0, none⟩) (outs.length + 1) cap)) (.slice (some ⟨g, 0, none⟩) (outs.length + 1) cap) (outs ++ [x]) ∧
      (∀ k, k < base → k ≠ R → (w2.setCell ⟨R, 0, none⟩ (.slice (some ⟨g, 0, none⟩) (outs.length + 1) cap)).heap[k]? = W.heap[k]?) ∧ W.heap.size ≤ w2.heap.size ∧
      (w2.setCell ⟨R, 0, none⟩ (.slice (some ⟨g, 0, none⟩) (outs.length + 1) cap)).os = W.os ∧ (w2.setCell ⟨R, 0, none⟩ (.slice (some ⟨g, 0, none⟩) (outs.length + 1) cap)).tape = W.tape ∧ (w2.setCell ⟨R, 0, none⟩ (.slice (some ⟨g, 0, none⟩) (outs.length + 1) cap)).output = W.output := by
  obtain ⟨g, cap, w2, hrun, hown2, hgrow0, hat⟩ := to_append (t := 53) Tryd.underlying53 info_item (by decide) k2 hbase hlen x.1 x.2
  have hgrow : W.grownBy w2 v0.ownBlock := ⟨hgrow0.os, hgrow0.tape, hgrow0.output, Nat.le_trans (by simp) hgrow0.size, fun k hk hne => (hgrow0.block k (by simp; omega) hne).trans (Below.heap_alloc _ _ _ hk)⟩
  have own : ∀ j, v0.ownBlock = some j → base ≤ j ∧ ∃ cs fr, W.heap[j]? = some (.cells cs 58 fr) := by
    intro j e
    rcases k2.2 with ⟨rfl, _⟩ | ⟨g', cap, cur, rfl, hb', hgb, _⟩
    · simp [Value.ownBlock] at e
    · obtain rfl : g' = j := by simpa [Value.ownBlock] using e
      exact ⟨hb', _, _, hgb⟩
  have hbg : base ≤ g := by
    rcases hown2.2 with ⟨e, _⟩ | ⟨g', cap', cur, e, hb', _⟩
    · cases e
    · have : g = g' ∧ cap = cap' := by simpa using e
      omega
  have i0 : Boxed w2 R 53 v0 := k0.kept hgrow (fun e => by have := (own R e.symm).1; omega)
  refine ⟨g, cap, w2, hrun, i0.cell, i0.frozen, ?_, i0.set _, ?_, ?_, hgrow.size, hgrow.os, hgrow.tape, hgrow.output⟩
  · refine (KeepsOthers.of_grownBy hgrow fun j o e ho => ?_).trans (KeepsOthers.setCell _ _ _)
    obtain ⟨_, cs, fr, hc⟩ := own j e
    rw [hc] at ho; cases ho; rfl
  · refine hown2.set (fun g' e => ?_) _
    have : g = g' := by simpa [Value.ownBlock] using e
    omega
  · intro k hk hne
    have hkW : k < W.heap.size := by omega
    exact (heap_setCell_other _ _ _ _ hne).trans (hgrow.block k hkW (fun e => by have := (own k e.symm).1; omega))

/-- Between two rounds. -/
def AllI (w : World) (pre : List (Tv × Nat)) (W : World) : Prop :=
  (∃ v, Boxed W (w.heap.size + 1 + 1) 53 v ∧ TO 58 (w.heap.size + 4) W v (pre.map (·.1))) ∧ Boxed W w.heap.size 53 (.slice none 0 0) ∧ Boxed W (w.heap.size + 1) 27 (.int .i64 0) ∧
    Below w.heap.size w W ∧ w.heap.size + 4 ≤ W.heap.size ∧ okS pre ∧ pre.length ≤ 64
/-- A round has left. -/
def AllX (w : World) (c : Code) (pre : List (Tv × Nat)) (W : World) : Prop :=
  (∃ (q : List (Tv × Nat)) (x : Tv) (e n : Nat), c = .ret ∧ pre = q ++ [(x, e)] ∧ okS q ∧ q.length ≤ 64 ∧ ((e ≠ 0 ∧ n = e) ∨ (e = 0 ∧ q.length = 64 ∧ n = 40)) ∧ Boxed W (w.heap.size + 1) 27 (.int .i64 (n : Int))) ∧ Boxed W w.heap.size 53 (.slice none 0 0) ∧ Below w.heap.size w W
theorem allI_from {w : World} {B : Nat} (hB : w.heap.size + 3 ≤ B) : OwnFrom B (AllI w) := by
  rintro pre W W' row ⟨⟨v, h1, h2⟩, h3, h4, h5, h6, h7, h8⟩ hg hr
  have ne : ∀ k, k < B → some k ≠ row := fun k hk e => by have := (hr k e.symm).1; omega
  exact ⟨⟨v, h1.kept hg (ne _ (by omega)), po_notCells h2 hg hr⟩, h3.kept hg (ne _ (by omega)), h4.kept hg (ne _ (by omega)), h5.grown hg h5.size fun k e => by have := (hr k e).1; omega, Nat.le_trans h6 hg.size, h7, h8⟩
theorem allX_from {w : World} {B : Nat} (hB : w.heap.size + 3 ≤ B) (c : Code) : OwnFrom B (AllX w c) := by
  rintro pre W W' row ⟨⟨q, x, e, n, h1, h2, h3, h4, h5, h6⟩, h7, h8⟩ hg hr
  have ne : ∀ k, k < B → some k ≠ row := fun k hk e => by have := (hr k e.symm).1; omega
  exact ⟨⟨q, x, e, n, h1, h2, h3, h4, h5, h6.kept hg (ne _ (by omega))⟩, h7.kept hg (ne _ (by omega)), h8.grown hg h8.size fun k e => by have := (hr k e).1; omega⟩

/-- What All tells. -/
def AllPost (w : World) (r : Rd (List Tv)) (e : Ending) (w' : World) : Prop := match r with
  | .ok L => ∃ v, e = .returned (.tuple #[v, .int .i64 0]) ∧ TO 58 w.heap.size w' v L ∧ Below w.heap.size w w'
  | .er n => e = .returned (.tuple #[.slice none 0 0, .int .i64 (n : Int)]) ∧ Below w.heap.size w w'

theorem two_set {w W : World} {R : Nat} {t0 t1 : TypeId} {u0 u1 : Value} (h0 : Boxed W R t0 u0) (h1 : Boxed W (R + 1) t1 u1) (hb : Below w.heap.size w W) (hR : w.heap.size ≤ R) (v0 v1 : Value) :
    Boxed ((W.setCell ⟨R, 0, none⟩ v0).setCell ⟨R + 1, 0, none⟩ v1) R t0 v0 ∧ Boxed ((W.setCell ⟨R, 0, none⟩ v0).setCell ⟨R + 1, 0, none⟩ v1) (R + 1) t1 v1 ∧ Below w.heap.size w ((W.setCell ⟨R, 0, none⟩ v0).setCell ⟨R + 1, 0, none⟩ v1) ∧ ∀ n, KeepsFrom n W ((W.setCell ⟨R, 0, none⟩ v0).setCell ⟨R + 1, 0, none⟩ v1) := by
  refine ⟨(h0.set v0).kept (grownBy_setCell' _ _ _) (by simp), (h1.kept (grownBy_setCell' _ _ _) (by simp)).set v1, (hb.setCell (p := ⟨R, 0, none⟩) hR _).setCell (p := ⟨R + 1, 0, none⟩) (Nat.le_succ_of_le hR) _, fun n => ?_⟩
  exact ((KeepsOthers.setCell _ _ _).trans (KeepsOthers.setCell _ _ _)).from n
set_option maxHeartbeats 8000000 in
theorem all_any (s : List UInt8) (w : World) (hs : s.length ≤ 9223372036854775807) : Calls Tryd.prog 30 #[sv s] w (AllPost w (allR s)) := by
  refine (callsIn_wide (n := 6)).1 ?_
  refine callsIn_of_wp_marks Tryd.func30 rfl trivial (wpIn_calmlyE ?_) rfl
  simp only [Tryd.ntmps30, List.size_toArray, List.length_cons, List.length_nil, Nat.reduceAdd, Nat.reduceSub, Array.replicate_succ, Array.replicate_zero, List.push_toArray, List.append_toArray, List.nil_append, List.cons_append]
  gi_wp2_with (refine ⟨trivial, ?_⟩; gi_at_call 46; refine (callsIn_wide.2 (things_any _ _)).mono ?_; rintro e w' ⟨rfl, rfl⟩)
  obtain ⟨Wl, hWl⟩ : ∃ Wl, Wl = (((w.alloc (.cells #[.slice none 0 0] 53)).alloc (.cells #[.int .i64 0] 27)).alloc (.cells #[.slice none 0 0] 53)).alloc (.cells #[sv s] 9) := ⟨_, rfl⟩
  rw [← hWl]
  have hsz : Wl.heap.size = w.heap.size + 4 := by rw [hWl]; simp
  have hbel : Below w.heap.size w Wl := by rw [hWl]; exact ((((Below.refl _ w).alloc (Nat.le_refl _) _).alloc (by simp) _).alloc (by simp; omega) _).alloc (by simp; omega) _
  have b0 : Boxed Wl w.heap.size 53 (.slice none 0 0) := by rw [hWl]; exact (((Boxed.new w _ _).alloc _).alloc _).alloc _
  have b1 : Boxed Wl (w.heap.size + 1) 27 (.int .i64 0) := by rw [hWl]; have := Boxed.new (w.alloc (.cells #[.slice none 0 0] 53)) 27 (.int .i64 0); rw [World.size_alloc] at this; exact (this.alloc _).alloc _
  have b2 : Boxed Wl (w.heap.size + 1 + 1) 53 (.slice none 0 0) := by rw [hWl]; have := Boxed.new ((w.alloc (.cells #[.slice none 0 0] 53)).alloc (.cells #[.int .i64 0] 27)) 53 (.slice none 0 0); rw [World.size_alloc, World.size_alloc] at this; exact this.alloc _
  have b3 : Boxed Wl (w.heap.size + 1 + 1 + 1) 9 (sv s) := by rw [hWl]; have := Boxed.new (((w.alloc (.cells #[.slice none 0 0] 53)).alloc (.cells #[.int .i64 0] 27)).alloc (.cells #[.slice none 0 0] 53)) 9 (sv s); rw [World.size_alloc, World.size_alloc, World.size_alloc] at this; exact this
  have hI0 : AllI w [] Wl := ⟨⟨_, b2, TO.nil _ _ _⟩, b0, b1, hbel, by omega, fun x hx => (by cases hx), by simp⟩
  have HTH := things_hands (w.heap.size + 1 + 1 + 1) s hs Wl (by omega) b3.cell
  have HSZ := Lib.hid hsz
  clear hWl hbel b0 b1 b2 b3
  refine wpIn_rangeFunc_hd (α := Tv × Nat) (w := Wl) rfl (by omega) (gf := 60) (lb := #[.pointer (some ⟨w.heap.size + 1 + 1 + 1, 0, none⟩)]) rfl trivial (enters_of Tryd.func60 (by kernel_rfl) rfl)
    (handsO_wide HTH) (fun _ _ => trivial) (fun _ _ _ _ _ => trivial) (fun _ => rfl) (AllI w) (AllX w) (allI_from (by omega)) (allX_from (by omega)) hI0
    (fun x a' W' => ∃ k, a' = { tmps := #[sv s, undef, .pointer (some ⟨w.heap.size, 0, none⟩), .pointer (some ⟨w.heap.size + 1, 0, none⟩), .pointer (some ⟨w.heap.size + 1 + 1, 0, none⟩), .pointer (some ⟨k, 0, none⟩), .int .i64 (x.2 : Int), sv s, .func (.func 60) #[] #[.pointer (some ⟨w.heap.size + 1 + 1 + 1, 0, none⟩)], itv x.1.1 x.1.2, .int .i64 (x.2 : Int), undef, undef, undef, undef, undef, undef, undef, undef, undef, undef, undef, undef, undef], defers := [] } ∧ IB W' k x.1.1 x.1.2)
    (fun x a' s' A B row ⟨k, e, h⟩ hg hr => ⟨k, e, IB.own x.1.1 x.1.2 k _ () A B row h hg hr⟩)
    ?assign ?body ?done ?stop
  case assign =>
    intro l' pre x W' K hi hnx hK
    have hii : AllI w pre (W'.alloc (.cells #[bvi x.1.1, sv x.1.2] 58)) := (allI_from (w := w) (Nat.le_refl _)).alloc _ hi
    simp only [teV]
    unfold itv
    gi_wp2
    exact hK _ _ (keepsFrom_below (below_alloc _ _)) trivial hii ⟨W'.heap.size, rfl, heap_alloc_new W' _⟩
  case body =>
    rintro l' pre ⟨x, e⟩ a' W' ⟨⟨v0, h1, h2⟩, h3, h4, hb, hsW, hok, hpl⟩ hnx ⟨k, rfl, hk⟩
    obtain ⟨A0, cp0, rfl⟩ := h2.form
    have c1 := h3.cell
    have f1 := h3.frozen
    have c2 := h4.cell
    have f2 := h4.frozen
    have c3 := h1.cell
    have k0 := hk.c0
    have k1 := hk.c1
    have H1 := Lib.hid h1
    have H2 := Lib.hid h2
    have H3 := Lib.hid h3
    have H4 := Lib.hid h4
    have HB := Lib.hid hb
    have HS := Lib.hid hsW
    have HO := Lib.hid hok
    have hml : (List.map (fun y : Tv × Nat => y.1) pre).length = pre.length := by simp
    rw [hml] at c3
    clear h1 h2 h3 h4 hb hok hnx hk hI0 HTH
    by_cases he : e = 0
    · subst he
      by_cases h64 : pre.length = 64
      · have h64' : ((pre.length : Int) == 64) = true := by rw [h64]; rfl
        have HX := Lib.hid (show ∀ (n : Nat) (W2 : World), Boxed W2 (w.heap.size + 1) 27 (.int .i64 (n : Int)) → n = 40 → Boxed W2 w.heap.size 53 (.slice none 0 0) → Below w.heap.size w W2 → AllX w .ret (pre ++ [(x, 0)]) W2 from
          fun n W2 q1 q2 q3 q4 => ⟨⟨pre, x, 0, n, rfl, rfl, HO.out, hpl, .inr ⟨rfl, h64, q2⟩, q1⟩, q3, q4⟩)
        clear h64
        gi_wp2
        obtain ⟨q0, q1, q2, q3⟩ := two_set H3.out H4.out HB.out (Nat.le_refl _) (.slice none 0 0) (.int .i64 40)
        exact ⟨q3 _, trivial, HX.out 40 _ q1 rfl q0 q2⟩
      · have h64' : ((pre.length : Int) == 64) = false := by rw [beq_eq_false_iff_ne]; omega
        obtain ⟨g, cap, w2, hrun, d0, d1, d3, d5, d6, d7, d8, d9, d10, d11⟩ := collectI x H1.out H2.out HS.out (by omega) (by rw [hml]; omega)
        rw [hml] at hrun d3 d5 d6 d7 d9 d10 d11
        have HR := Lib.hid hrun
        have HKF := Lib.hid (d3.from (w.heap.size + 4))
        have HI := Lib.hid (show AllI w (pre ++ [(x, 0)]) (w2.setCell ⟨w.heap.size + 1 + 1, 0, none⟩ (.slice (some ⟨g, 0, none⟩) (pre.length + 1) cap)) by
          refine ⟨⟨_, d5, ?_⟩, ?_, ?_, ?_, ?_, ?_, ?_⟩
          · rw [List.map_append]; exact d6
          · exact (d7 _ (by omega) (by omega)).trans H3.out
          · exact (d7 _ (by omega) (by omega)).trans H4.out
          · exact ⟨d9.trans HB.out.os, d10.trans HB.out.tape, d11.trans HB.out.output, Nat.le_trans HB.out.size (by simpa [World.setCell] using d8), fun k hk => (d7 k (by omega) (by omega)).trans (HB.out.block k hk)⟩
          · exact Nat.le_trans HS.out (by simpa [World.setCell] using d8)
          · intro y hy
            rcases List.mem_append.1 hy with hy | hy
            · exact HO.out y hy
            · rw [List.mem_singleton.1 hy]
          · simp; omega)
        clear hrun d3 d5 d6 d7 d8 d9 d10 d11
        gi_wp2_with (gi_at_builtin; refine wpListIn_append_run rfl (.tmp 19) (.tmp 21) 53 rfl rfl rfl HR.out ?_)
        exact ⟨HKF.out, trivial, HI.out⟩
    · have he' : ((e : Int) != 0) = true := by rw [bne_iff_ne]; omega
      have HX := Lib.hid (show ∀ (n : Nat) (W2 : World), Boxed W2 (w.heap.size + 1) 27 (.int .i64 (n : Int)) → n = e → Boxed W2 w.heap.size 53 (.slice none 0 0) → Below w.heap.size w W2 → AllX w .ret (pre ++ [(x, e)]) W2 from
          fun n W2 q1 q2 q3 q4 => ⟨⟨pre, x, e, n, rfl, rfl, HO.out, hpl, .inl ⟨he, q2⟩, q1⟩, q3, q4⟩)
      gi_wp2
      obtain ⟨q0, q1, q2, q3⟩ := two_set H3.out H4.out HB.out (Nat.le_refl _) (.slice none 0 0) (.int .i64 (e : Int))
      exact ⟨q3 _, trivial, HX.out e _ q1 rfl q0 q2⟩
  case done =>
    rintro D xs W hD rfl ⟨⟨v0, h1, h2⟩, h3, h4, hb, hsW, hok, hpl⟩ hK
    obtain ⟨A0, cp0, rfl⟩ := h2.form
    rw [HSZ.out] at hD
    have HE := Lib.hid (allR_done hok hpl)
    have c1 := h3.cell
    have f1 := h3.frozen
    have c2 := h4.cell
    have f2 := h4.frozen
    have c3 := h1.cell
    obtain ⟨q0, q1, q2, q3⟩ := two_set h3 h4 hb (Nat.le_refl _) (.slice A0 (List.map (fun y : Tv × Nat => y.1) (seqL s)).length cp0) (.int .i64 0)
    have hK2 : ((W.setCell ⟨w.heap.size, 0, none⟩ (.slice A0 (List.map (fun y : Tv × Nat => y.1) (seqL s)).length cp0)).setCell ⟨w.heap.size + 1, 0, none⟩ (.int .i64 0)).heap[D]? = some (.deferred (some [])) :=
      (heap_setCell_other _ _ _ _ (show D ≠ w.heap.size + 1 by omega)).trans ((heap_setCell_other _ _ _ _ (show D ≠ w.heap.size by omega)).trans hK)
    have ho : TO 58 (w.heap.size + 4) ((W.setCell ⟨w.heap.size, 0, none⟩ (.slice A0 (List.map (fun y : Tv × Nat => y.1) (seqL s)).length cp0)).setCell ⟨w.heap.size + 1, 0, none⟩ (.int .i64 0)) (.slice A0 (List.map (fun y : Tv × Nat => y.1) (seqL s)).length cp0) (List.map (fun y : Tv × Nat => y.1) (seqL s)) :=
      (h2.set (fun g e => by have := (h2.lt e).1; omega) _).set (fun g e => by have := (h2.lt e).1; omega) _
    generalize hL : List.map (fun y : Tv × Nat => y.1) (seqL s) = L at *
    have HK2 := Lib.hid hK2
    have HO := Lib.hid ho
    have Q0 := Lib.hid q0
    have Q1 := Lib.hid q1
    have Q2 := Lib.hid q2
    clear h1 h2 h3 h4 hb hok hK hK2 ho q0 q1 q2 q3 hI0 HTH hL
    gi_wp2
    refine calmly_ret ?_
    refine ⟨by simp, .inl ⟨_, _, rfl, run_takeDeferred HK2.out, ?_⟩⟩
    have cp0' := (Q0.out.kept (grownBy_putObj' _ D (.deferred none)) (by simp; omega)).cell
    have cp1' := (Q1.out.kept (grownBy_putObj' _ D (.deferred none)) (by simp; omega)).cell
    have hto : TO 58 (w.heap.size + 4) _ (.slice A0 L.length cp0) L := ownsRow_putObj HO.out (.deferred none) HK2.out rfl
    exact ⟨.tuple #[.slice A0 L.length cp0, .int .i64 0], by simp [results, Tryd.results30, go_sem, cp0', cp1'], by rw [HE.out]; exact ⟨_, rfl, hto.lower (by omega), below_put w _ D _ (by omega) Q2.out⟩⟩
  case stop =>
    rintro D c pre W hD hp ⟨⟨q, x, e, n, rfl, rfl, hok, hql, hen, h1⟩, h0, hb⟩ hK
    rw [HSZ.out] at hD
    have HE := Lib.hid (show allR s = .er n by
      rcases hen with ⟨he, rfl⟩ | ⟨rfl, h64, rfl⟩
      · exact allR_er hp hok hql he
      · exact allR_many hp hok h64)
    have hcell := (h0.kept (grownBy_putObj' W D (.deferred none)) (by simp; omega)).cell
    have hcell1 := (h1.kept (grownBy_putObj' W D (.deferred none)) (by simp; omega)).cell
    have hbel' := hb.trans (belowK_b (w := w) (Nat.le_refl _) W D _ (.deferred none) (by omega) hK rfl rfl)
    gi_wp2
    refine ⟨by simp, .inl ⟨_, _, rfl, run_takeDeferred hK, ?_⟩⟩
    exact ⟨.tuple #[.slice none 0 0, .int .i64 (n : Int)], by simp [results, Tryd.results30, go_sem, hcell, hcell1], by rw [HE.out]; exact ⟨rfl, hbel'⟩⟩
end Go.Proofs.YtamlblfhjpajhaaDoor
