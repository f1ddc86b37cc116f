/-
  Feed's contract: of a framer that lives, and to whose line no CR LF has come, what it tells is 'run'; a dead one tells nothing; nobody's tells ErrNil.
  The text has fewer than 50000 bytes; the library's variable MaxLen holds some number.
-/
import Derived.Maps.AppendAt
import Derived.BigRegion
import Derived.Test.YtgjngldkeiblbaaCuts
namespace Go.Proofs.Ytgjngldkeiblbaa
open Go Go.RowKit Go.Shelf

attribute [local go_sem] Oper.semAt_some

theorem feed_nil (s : ByteArray) (w : World) :
    Calls Try.prog 11 #[.pointer none, .string s] w fun e w' => e = .returned (.tuple #[.slice none 0 0, .int .i64 2]) ∧ w.grownBy w' none := by
  go_enter Try.func11, Try.ntmps11
  go_wp2
  exact bodyPost_ret (v := .tuple #[.slice none 0 0, .int .i64 2]) (by simp [results, Try.results11, go_sem]) rfl ⟨rfl, World.grownBy_alloc _ _ _⟩

theorem feed_dead (s : ByteArray) (w : World) {b m : Nat} {l : List UInt8} (h : Fr w b m l true) :
    Calls Try.prog 11 #[.pointer (some ⟨b, 0, none⟩), .string s] w fun e w' => e = .returned (.tuple #[.slice none 0 0, .int .i64 7]) ∧ w.grownBy w' none := by
  obtain ⟨v, hb, hv⟩ := h
  have h2 : w.cell? ⟨b, 2, none⟩ = some (.bool true) := by rw [cellAt hb]; rfl
  have hlt := lt_of_block hb
  have h2' : ∀ o, (w.alloc o).cell? ⟨b, 2, none⟩ = some (.bool true) := fun o => by rw [World.cell?_alloc_lt w o _ (by exact hlt)]; exact h2
  clear hb hv h2
  go_enter Try.func11, Try.ntmps11
  go_wp2
  exact bodyPost_ret (v := .tuple #[.slice none 0 0, .int .i64 7]) (by simp [results, Try.results11, go_sem]) rfl ⟨rfl, World.grownBy_alloc _ _ _⟩

/-- A body that ends, or returns, and never panics. -/
def calmly (Q : Exit → Act → World → Prop) : Exit → Act → World → Prop
  | .normal, a, w => Q .normal a w
  | .ret, a, w => Q .ret a w
  | _, _, _ => False

theorem wpIn_calmly {F : Fence} {n : Nat} {P : Program} {c : Code} {Q : Exit → Act → World → Prop} {a : Act} {w : World} (h : c.wpIn F n P (calmly Q) a w) : c.wpIn F n P Q a w :=
  wpIn_mono h fun e _ _ hq => match e, hq with
    | .normal, h => h
    | .ret, h => h
    | .panic _, h => h.elim
    | .outgrown, h => h.elim
    | .exit _, h => h.elim
    | .goto _, h => h.elim

theorem Try.info9 : (Try.prog.info? 9).map (fun i => (i.zero, i.size, i.bytes)) = some (some (.string ⟨#[]⟩), 1, 16) := by kernel_rfl

/-- A string as a value. -/
abbrev sv (x : List UInt8) : Value := .string (str x)

/-- The slice v is the call's own, and holds these texts. -/
def Ows (W : World) (base : Nat) (v : Value) (outs : List (List UInt8)) : Prop := W.ownsRow base 9 1 v outs.length (outs.map sv)

theorem Ows.kept {W W' : World} {base : Nat} {v : Value} {outs : List (List UInt8)} {row : Option Nat} (h : Ows W base v outs) (hg : W.grownBy W' row) (hr : ∀ r, row = some r → r < base ∨ ∃ o : Obj, W.heap[r]? = some o ∧ ∀ cs fr, o ≠ .cells cs 9 fr) : Ows W' base v outs := by
  refine World.ownsRow.kept h hg ?_
  rcases h.2 with ⟨rfl, _⟩ | ⟨g, cap, cur, rfl, hb, hgb, _⟩
  · exact .inl rfl
  · refine .inr fun e => ?_
    rcases hr g (by simpa [Value.ownBlock] using e.symm) with h1 | ⟨o, ho, hc⟩
    · omega
    · rw [hgb] at ho; exact hc _ _ (by simpa using ho.symm)

theorem Ows.lower {W : World} {base base' : Nat} {v : Value} {outs : List (List UInt8)} (h : Ows W base v outs) (hb : base' ≤ base) : Ows W base' v outs := by
  refine ⟨h.1, ?_⟩
  rcases h.2 with h | ⟨g, cap, cur, h1, h2, h3⟩
  · exact .inl h
  · exact .inr ⟨g, cap, cur, h1, by omega, h3⟩

theorem Ows.form {W : World} {base : Nat} {v : Value} {outs : List (List UInt8)} (h : Ows W base v outs) : ∃ A cap, v = .slice A outs.length cap := by
  rcases h.2 with ⟨rfl, h0⟩ | ⟨g, cap, _, rfl, _⟩
  · exact ⟨none, 0, by rw [h0]⟩
  · exact ⟨_, _, rfl⟩

/-- 'append(lines, x)'. -/
theorem append_one (W : World) (base : Nat) (v : Value) (outs : List (List UInt8)) (x : List UInt8) (hown : Ows W base v outs) (hbase : base ≤ W.heap.size) (hlen : outs.length ≤ 200000) :
    ∃ g cap w2, (Builtin.append_ #[23, 23] 23 #[v, .slice (some ⟨W.heap.size, 0, none⟩) 1 1]).run Try.prog (W.alloc (.cells #[sv x] 9)) = .ok (.slice (some ⟨g, 0, none⟩) (outs.length + 1) cap) w2 ∧
      Ows w2 base (.slice (some ⟨g, 0, none⟩) (outs.length + 1) cap) (outs ++ [x]) ∧ W.grownBy w2 v.ownBlock ∧ base ≤ g := by
  obtain ⟨i0, hi, hz0, hz1, hz2⟩ := info_parts Try.info9
  obtain ⟨v', w2, hrun, hown2, hgrow, _⟩ := run_append_own (P := Try.prog) (W.alloc (.cells #[sv x] 9)) base 23 23 9 i0 (.string ⟨#[]⟩) 1 16 Try.underlying23 hi hz0 hz1 hz2 rfl (by decide) v outs.length (outs.map sv) (World.ownsRow.alloc hown _)
    ⟨W.heap.size, 0, none⟩ 1 1 [sv x] rfl (cell_one_new _ _ _) (by simp [Value.oneCell']) (by unfold maxLen; omega) (by omega) (by simp; omega)
  obtain ⟨g, cap, rfl⟩ := ownsRow_succ hown2
  refine ⟨g, cap, w2, hrun, ?_, ?_, ?_⟩
  · unfold Ows
    simpa using hown2
  · exact ⟨hgrow.os, hgrow.tape, hgrow.output, Nat.le_trans (by simp) hgrow.size, fun k hk hne => (hgrow.block k (by simp; omega) hne).trans (Below.heap_alloc _ _ _ hk)⟩
  · rcases hown2.2 with ⟨h, _⟩ | ⟨g', c', _, h, hb, _⟩
    · cases h
    · have : g = g' ∧ cap = c' := by simpa using h
      omega

/-- An append in a region that draws its order, where its run is known. -/
theorem stepIn_append {F : Fence} {n : Nat} {P : Program} {ops : Array Oper} {o : Oper} {a : Act} {w w' : World} {K : Act → World → Prop} {Q : Exit → Act → World → Prop} {E : Prop} {v v' xv : Value}
    (hg : o.guard = none) (s x : Operand) (t : TypeId) (hop : o.op = Op.call { callee := Callee.builtin Builtin.append, args := #[s, x], argTypes := #[t, t] }) (hs : a.eval s = v) (hx : a.eval x = xv)
    (hrun : (Builtin.append_ #[t, t] o.type #[v, xv]).run P w = .ok v' w') (hK : K (a.put o.dst v') w') :
    if Region.wanted o (yielded ops a.tmps) = true then Oper.wpIn F n P o a w K Q else E := by
  have hw : Region.wanted o (yielded ops a.tmps) = true := by simp [Region.wanted, hg]
  rw [if_pos hw]
  unfold Oper.wpIn
  refine ⟨?_, ?_⟩
  · simp [Oper.about, hop, resolve, Target.leads, Sem.run_pure]
  · rw [Oper.semAt_plain F _ _ (by rw [hop]; intro c hc'; cases hc')]
    simp [execOp, hop, resolve, invoke, builtin, hs, hx, hrun, Result.andThen]
    exact hK

/-- Between two rounds of Feed's loop: n0 blocks lay at its call. -/
def FeedI (w0 : World) (m : Nat) (T t : List UInt8) (W : World) : Prop :=
  ∃ v outs, Boxed W w0.heap.size 23 v ∧ Boxed W (w0.heap.size + 1) 9 (sv t) ∧ Ows W (w0.heap.size + 4) v outs ∧ run m [] T = (outs ++ (run m [] t).1, (run m [] t).2) ∧ outs.length + t.length ≤ T.length ∧ Below w0.heap.size w0 W

theorem FeedI.kept {w0 : World} {m : Nat} {T t : List UInt8} {W W' : World} {row : Option Nat} (h : FeedI w0 m T t W) (hg : W.grownBy W' row) (hr : mayTurn (w0.heap.size + 4) (w0.heap.size + 2) W row) : FeedI w0 m T t W' := by
  obtain ⟨v, outs, h1, h2, h3, h4, h5, h6⟩ := h
  have ne : ∀ k, k < w0.heap.size + 2 → some k ≠ row := fun k hk e => by rcases hr k e.symm with h | ⟨h, _⟩ <;> omega
  refine ⟨v, outs, h1.kept hg (ne _ (by omega)), h2.kept hg (ne _ (by omega)), h3.kept hg fun r e => ?_, h4, h5, h6.grown hg h6.size fun k e => ?_⟩
  · rcases hr r e with h | ⟨_, o, ho, hc⟩
    · exact .inl (by omega)
    · refine .inr ⟨o, ho, fun cs fr e => ?_⟩
      rw [e] at hc; cases hc
  · rcases hr k e with h | ⟨h, _⟩ <;> omega

theorem grownBy_of_below {W W' : World} (h : Below W.heap.size W W') (row : Option Nat) : W.grownBy W' row := ⟨h.os, h.tape, h.output, h.size, fun k hk _ => h.block k hk⟩

/-- What a round has done to the loop's word. -/
def Done (W W' : World) (B R base : Nat) (v : Value) (t' : List UInt8) (outs : List (List UInt8)) : Prop :=
  KeepsOthers W W' ∧ Boxed W' B 23 v ∧ Boxed W' R 9 (sv t') ∧ Ows W' base v outs ∧ W.heap.size ≤ W'.heap.size ∧ W'.os = W.os ∧ W'.tape = W.tape ∧ W'.output = W.output ∧ ∀ k, k < base → k ≠ B → k ≠ R → W'.heap[k]? = W.heap[k]?

/-- A round of a loop that collects lines, over boxes B (the lines) and R (what stands behind), rows of the call's own from base on: behind Clone's call. -/
theorem round_facts {W w1 : World} {B R base : Nat} {v0 : Value} {outs : List (List UInt8)} {t t' a : List UInt8} (hBR : B < base ∧ R < base ∧ B ≠ R) (k0 : Boxed W B 23 v0) (k1 : Boxed W R 9 (sv t)) (k2 : Ows W base v0 outs) (hbase : base ≤ W.heap.size) (hlen : outs.length ≤ 200000) (hb : Below W.heap.size W w1) :
    ∃ g cap w2, (Builtin.append_ #[23, 23] 23 #[v0, .slice (some ⟨w1.heap.size, 0, none⟩) 1 1]).run Try.prog (w1.alloc (.cells #[sv a] 9)) = .ok (.slice (some ⟨g, 0, none⟩) (outs.length + 1) cap) w2 ∧
      w1.cell? ⟨B, 0, none⟩ = some v0 ∧ (∀ o, (w1.alloc o).cell? ⟨B, 0, none⟩ = some v0) ∧ w2.cell? ⟨B, 0, none⟩ = some v0 ∧ w2.frozen? ⟨B, 0, none⟩ = false ∧ w2.cell? ⟨R, 0, none⟩ = some (sv t) ∧ w2.frozen? ⟨R, 0, none⟩ = false ∧
      Done W ((w2.setCell ⟨B, 0, none⟩ (.slice (some ⟨g, 0, none⟩) (outs.length + 1) cap)).setCell ⟨R, 0, none⟩ (sv t')) B R base (.slice (some ⟨g, 0, none⟩) (outs.length + 1) cap) t' (outs ++ [a]) := by
  obtain ⟨hB, hR, hne⟩ := hBR
  have hg1 := grownBy_of_below hb none
  have j0 := k0.kept hg1 (by simp)
  have j1 := k1.kept hg1 (by simp)
  have j2 := k2.kept hg1 (fun r e => by cases e)
  obtain ⟨g, cap, w2, hrun, hown2, hgrow, hbg⟩ := append_one w1 base v0 outs a j2 (Nat.le_trans hbase hb.size) hlen
  have own : ∀ j, v0.ownBlock = some j → base ≤ j ∧ ∃ cs fr, w1.heap[j]? = some (.cells cs 9 fr) := by
    intro j e
    rcases j2.2 with ⟨rfl, _⟩ | ⟨g', cap, cur, rfl, hb', hgb, _⟩
    · simp [Value.ownBlock] at e
    · obtain rfl : g' = j := by simpa [Value.ownBlock] using e
      exact ⟨hb', _, _, hgb⟩
  have i0 := j0.kept hgrow (fun e => by have := (own _ e.symm).1; omega)
  have i1 := j1.kept hgrow (fun e => by have := (own _ e.symm).1; omega)
  refine ⟨g, cap, w2, hrun, j0.cell, fun o => (j0.alloc o).cell, i0.cell, i0.frozen, i1.cell, i1.frozen, ?_, ?_, ?_, ?_, ?_, ?_, ?_, ?_, ?_⟩
  · refine (((KeepsOthers.of_grownBy hg1 fun j o e _ => by cases e).trans (KeepsOthers.of_grownBy hgrow fun j o e ho => ?_)).trans (KeepsOthers.setCell _ _ _)).trans (KeepsOthers.setCell _ _ _)
    obtain ⟨_, cs, fr, hc⟩ := own j e
    rw [hc] at ho; cases ho; rfl
  · exact (i0.set _).kept (grownBy_setCell' _ _ _) (by simpa using hne)
  · exact (i1.kept (grownBy_setCell' _ _ _) (by simpa using hne.symm)).set _
  · exact (hown2.kept (grownBy_setCell' _ _ _) (fun r e => by cases e; exact .inl hB)).kept (grownBy_setCell' _ _ _) (fun r e => by cases e; exact .inl hR)
  · simp [World.setCell]; exact Nat.le_trans hb.size hgrow.size
  · exact hgrow.os.trans hb.os
  · exact hgrow.tape.trans hb.tape
  · exact hgrow.output.trans hb.output
  · intro k hk hkB hkR
    rw [heap_setCell_other _ _ _ _ (by exact hkR), heap_setCell_other _ _ _ _ (by exact hkB), hgrow.block k (by have := hb.size; omega) (fun e => by have := (own _ e.symm).1; omega), hb.block k (by omega)]

theorem round_close {w0 W W' : World} {M m i B : Nat} {T t r : List UInt8} {v : Value} {outs : List (List UInt8)} (h : Done W W' w0.heap.size (w0.heap.size + 1) (w0.heap.size + 4) v r (outs ++ [t.take i])) (h0 : 0 < w0.heap.size)
    (hrun : run M [] T = (outs ++ (run M [] t).1, (run M [] t).2)) (hc : run M [] t = (t.take i :: (run M [] (t.drop (i + 2))).1, (run M [] (t.drop (i + 2))).2)) (hl : outs.length + t.length ≤ T.length) (hr : r = t.drop (i + 2)) (hit : i + 2 ≤ t.length)
    (hb : Below w0.heap.size w0 W) (hs : St (w0.heap.size + 2) m r W) : KeepsFrom B W W' ∧ FeedI w0 M T r W' ∧ St (w0.heap.size + 2) m r W' := by
  obtain ⟨e1, e2, e3, e4, e5, e6, e7, e8, e9⟩ := h
  refine ⟨e1.from _, ⟨_, outs ++ [t.take i], e2, e3, e4, ?_, ?_, ?_⟩, ?_⟩
  · rw [hrun, hc, hr]; simp
  · rw [hr]; simp; omega
  · exact hb.trans ⟨e6, e7, e8, e5, fun k hk => e9 k (by omega) (by omega) (by omega)⟩
  · obtain ⟨h1, h2, ⟨mx, h3⟩, h4⟩ := hs
    refine ⟨(e9 _ (by omega) (by omega) (by omega)).trans h1, (e9 _ (by omega) (by omega) (by omega)).trans h2, ⟨mx, ?_⟩, h4⟩
    exact (World.cell?_of_block (e9 0 (by omega) (by omega) (by omega))).trans h3

theorem grownBy_cell (W : World) (b i : Nat) (v : Value) : W.grownBy (W.setCell ⟨b, i, none⟩ v) (some b) :=
  ⟨rfl, rfl, rfl, by simp [World.setCell], fun k _ hk => Below.heap_setCell _ _ _ k (fun e => hk (by rw [e]))⟩

/-- What Feed of a living framer leaves. -/
def FeedPost (w : World) (b m : Nat) (l s : List UInt8) (e : Ending) (w' : World) : Prop :=
  ∃ v, e = .returned (.tuple #[v, .int .i64 (if (run m l s).2.2 then 40 else 0)]) ∧ w.grownBy w' (some b) ∧ Fr w' b m (run m l s).2.1 (run m l s).2.2 ∧ Ows w' w.heap.size v (run m l s).1

theorem feed_end {w W W' : World} {b m D : Nat} {l s l' : List UInt8} {d : Bool} {v0 : Value} {outs : List (List UInt8)} {c : Int} (hb : Below w.heap.size w W) (hbn : b < w.heap.size) (hD : w.heap.size ≤ D) (hDW : W.heap[D]? = some (.deferred (some [])))
    (ho : Ows W (w.heap.size + 4) v0 outs) (hs : W.heap.size ≤ W'.heap.size) (h1 : W'.os = W.os) (h2 : W'.tape = W.tape) (h3 : W'.output = W.output) (hk : ∀ k, k < W.heap.size → k ≠ b → k ≠ w.heap.size → k ≠ D → W'.heap[k]? = W.heap[k]?)
    (hf : Fr W' b m l' d) (hr : run m l s = (outs, l', d)) (hc : c = if d then 40 else 0) : FeedPost w b m l s (.returned (.tuple #[v0, .int .i64 c])) W' := by
  refine ⟨v0, by rw [hr, hc], ⟨h1.trans hb.os, h2.trans hb.tape, h3.trans hb.output, Nat.le_trans hb.size hs, fun k hkw hne => ?_⟩, by rw [hr]; exact hf, ?_⟩
  · have hkb : k ≠ b := fun e => hne (by rw [e])
    rw [hk k (by have := hb.size; omega) hkb (by omega) (by omega), hb.block k hkw]
  · rw [hr]
    refine Ows.lower ?_ (Nat.le_add_right _ 4)
    refine ⟨ho.1, ?_⟩
    rcases ho.2 with h | ⟨g, cap, cur, e1, e2, e3, e4⟩
    · exact .inl h
    · refine .inr ⟨g, cap, cur, e1, e2, ?_, e4⟩
      rw [hk g (lt_of_block e3) (by omega) (by omega) (fun e => by rw [e, hDW] at e3; cases e3), e3]

section
variable {w W : World} {b m D cap0 : Nat} {l s : List UInt8} {A0 : Option Addr} {outs : List (List UInt8)}

theorem dead_world {v : Value} {d : Bool} (hb : Below w.heap.size w W) (hbn : b < w.heap.size) (hD : w.heap.size + 4 ≤ D) (hDW : W.heap[D]? = some (.deferred (some []))) (hbW : W.heap[b]? = some (.cells #[.int .i64 m, v, .bool d] 55 (0, 0)))
    (k0 : Boxed W w.heap.size 23 (.slice A0 outs.length cap0)) (k2 : Ows W (w.heap.size + 4) (.slice A0 outs.length cap0) outs) (hrun : run m l s = (outs, [], true)) :
    (((W.setCell ⟨b, 1, none⟩ (.slice none 0 0)).setCell ⟨b, 2, none⟩ (.bool true)).setCell ⟨w.heap.size, 0, none⟩ (.slice A0 outs.length cap0)).drew.heap[D]? = some (.deferred (some [])) ∧
    ((((W.setCell ⟨b, 1, none⟩ (.slice none 0 0)).setCell ⟨b, 2, none⟩ (.bool true)).setCell ⟨w.heap.size, 0, none⟩ (.slice A0 outs.length cap0)).drew.putObj D (.deferred none)).cell? ⟨w.heap.size, 0, none⟩ = some (.slice A0 outs.length cap0) ∧
    FeedPost w b m l s (.returned (.tuple #[.slice A0 outs.length cap0, .int .i64 40])) ((((W.setCell ⟨b, 1, none⟩ (.slice none 0 0)).setCell ⟨b, 2, none⟩ (.bool true)).setCell ⟨w.heap.size, 0, none⟩ (.slice A0 outs.length cap0)).drew.putObj D (.deferred none)) := by
  have hne : w.heap.size ≠ b := by omega
  obtain ⟨Y, hY⟩ : ∃ Y, Y = (W.setCell ⟨b, 1, none⟩ (.slice none 0 0)).setCell ⟨b, 2, none⟩ (.bool true) := ⟨_, rfl⟩
  have hYb : Y.heap[b]? = some (.cells #[.int .i64 m, .slice none 0 0, .bool true] 55 (0, 0)) := by
    rw [hY, heap_setCell_same _ _ _ _ _ _ (heap_setCell_same _ _ _ _ _ _ hbW)]; rfl
  have hYg : W.grownBy Y (some b) := by
    have g1 := grownBy_cell W b 1 (.slice none 0 0)
    have g2 := grownBy_cell (W.setCell ⟨b, 1, none⟩ (.slice none 0 0)) b 2 (.bool true)
    rw [hY]
    exact ⟨rfl, rfl, rfl, Nat.le_trans g1.size g2.size, fun k hk hne => (g2.block k (Nat.lt_of_lt_of_le hk g1.size) hne).trans (g1.block k hk hne)⟩
  have hY0 : Boxed Y w.heap.size 23 (.slice A0 outs.length cap0) := k0.kept hYg (by simpa using hne)
  rw [← hY]
  obtain ⟨X, hX⟩ : ∃ X, X = (Y.setCell ⟨w.heap.size, 0, none⟩ (.slice A0 outs.length cap0)).drew := ⟨_, rfl⟩
  have hXg : Y.grownBy X (some w.heap.size) := by rw [hX]; exact ⟨rfl, rfl, rfl, by simp [World.setCell, World.drew], fun k hk hne => heap_setCell_other _ _ _ _ (fun e => hne (by rw [e]))⟩
  have hXr : Boxed X w.heap.size 23 (.slice A0 outs.length cap0) := by rw [hX]; exact hY0.set _
  rw [← hX]
  have hXk : ∀ k, k < W.heap.size → k ≠ b → k ≠ w.heap.size → X.heap[k]? = W.heap[k]? := fun k h0 h1 h2 =>
    (hXg.block k (Nat.lt_of_lt_of_le h0 hYg.size) (by simpa using h2)).trans (hYg.block k h0 (by simpa using h1))
  have hXb : X.heap[b]? = some (.cells #[.int .i64 m, .slice none 0 0, .bool true] 55 (0, 0)) := (hXg.block b (lt_of_block hYb) (by simpa using hne.symm)).trans hYb
  have hXD : X.heap[D]? = some (.deferred (some [])) := (hXk D (lt_of_block hDW) (by omega) (by omega)).trans hDW
  refine ⟨hXD, ?_, ?_⟩
  · have : (X.putObj D (.deferred none)).heap[w.heap.size]? = X.heap[w.heap.size]? := World.putObj_heap_other (by omega)
    rw [World.cell?_of_block (w := X) this]; exact hXr.cell
  · exact feed_end hb hbn (by omega) hDW k2 (by rw [World.putObj_size]; exact Nat.le_trans hYg.size hXg.size) (hXg.os.trans hYg.os) (hXg.tape.trans hYg.tape) (hXg.output.trans hYg.output)
      (fun k h0 h1 h2 h3 => (World.putObj_heap_other h3).trans (hXk k h0 h1 h2)) (d := true) (l' := []) ⟨.slice none 0 0, (World.putObj_heap_other (by omega)).trans hXb, .inl ⟨rfl, rfl⟩⟩ hrun rfl

theorem live_world {w3 : World} {t : List UInt8} (hb : Below w.heap.size w W) (hbn : b < w.heap.size) (hD : w.heap.size + 4 ≤ D) (hDW : W.heap[D]? = some (.deferred (some [])))
    (k0 : Boxed W w.heap.size 23 (.slice A0 outs.length cap0)) (k2 : Ows W (w.heap.size + 4) (.slice A0 outs.length cap0) outs) (hg3' : W.drew.grownBy w3 (some b)) (hf3 : Fr w3 b m t false) (hrun : run m l s = (outs, t, false)) :
    (w3.setCell ⟨w.heap.size, 0, none⟩ (.slice A0 outs.length cap0)).heap[D]? = some (.deferred (some [])) ∧
    ((w3.setCell ⟨w.heap.size, 0, none⟩ (.slice A0 outs.length cap0)).putObj D (.deferred none)).cell? ⟨w.heap.size, 0, none⟩ = some (.slice A0 outs.length cap0) ∧
    FeedPost w b m l s (.returned (.tuple #[.slice A0 outs.length cap0, .int .i64 0])) ((w3.setCell ⟨w.heap.size, 0, none⟩ (.slice A0 outs.length cap0)).putObj D (.deferred none)) := by
  have hne : w.heap.size ≠ b := by omega
  have hg3 : W.grownBy w3 (some b) := ⟨hg3'.os, hg3'.tape, hg3'.output, hg3'.size, hg3'.block⟩
  have h30 : Boxed w3 w.heap.size 23 (.slice A0 outs.length cap0) := k0.kept hg3 (by simpa using hne)
  obtain ⟨X, hX⟩ : ∃ X, X = w3.setCell ⟨w.heap.size, 0, none⟩ (.slice A0 outs.length cap0) := ⟨_, rfl⟩
  have hXg : w3.grownBy X (some w.heap.size) := by rw [hX]; exact grownBy_cell _ _ _ _
  have hXr : Boxed X w.heap.size 23 (.slice A0 outs.length cap0) := by rw [hX]; exact h30.set _
  rw [← hX]
  have hXk : ∀ k, k < W.heap.size → k ≠ b → k ≠ w.heap.size → X.heap[k]? = W.heap[k]? := fun k h0 h1 h2 =>
    (hXg.block k (Nat.lt_of_lt_of_le h0 hg3.size) (by simpa using h2)).trans (hg3.block k h0 (by simpa using h1))
  have hXD : X.heap[D]? = some (.deferred (some [])) := (hXk D (lt_of_block hDW) (by omega) (by omega)).trans hDW
  refine ⟨hXD, ?_, ?_⟩
  · have : (X.putObj D (.deferred none)).heap[w.heap.size]? = X.heap[w.heap.size]? := World.putObj_heap_other (by omega)
    rw [World.cell?_of_block (w := X) this]; exact hXr.cell
  · have hfX : Fr (X.putObj D (.deferred none)) b m t false := by
      obtain ⟨v3, e1, e2⟩ := hf3
      have e1X : X.heap[b]? = _ := (hXg.block b (lt_of_block e1) (by simpa using hne.symm)).trans e1
      refine ⟨v3, (World.putObj_heap_other (by omega)).trans e1X, ?_⟩
      rcases e2 with h | ⟨g, e3, e4⟩
      · exact .inl h
      · have hgn : g ≠ w.heap.size := fun e => by rw [e, show w3.heap[w.heap.size]? = _ from h30] at e4; simp at e4
        have e5 : X.heap[g]? = _ := (hXg.block g (lt_of_block e4) (by simpa using hgn)).trans e4
        refine .inr ⟨g, e3, (World.putObj_heap_other (fun e => ?_)).trans e5⟩
        rw [e, hXD] at e5; cases e5
    exact feed_end hb hbn (by omega) hDW k2 (by rw [World.putObj_size]; exact Nat.le_trans hg3.size hXg.size) (hXg.os.trans hg3.os) (hXg.tape.trans hg3.tape) (hXg.output.trans hg3.output)
      (fun k h0 h1 h2 h3 => (World.putObj_heap_other h3).trans (hXk k h0 h1 h2)) hfX hrun rfl
end

set_option maxRecDepth 100000 in
set_option maxHeartbeats 1000000 in
theorem feed_live (s l : List UInt8) (w : World) {b m : Nat} (h : Fr w b m l false) (hc : run m [] l = ([], l, false)) (hm : 2 ≤ m) (hm' : m ≤ 512) (hll : l.length < m) (hs : s.length ≤ 50000) (h0b : 0 < b) (hML : ML w) :
    Calls Try.prog 11 #[.pointer (some ⟨b, 0, none⟩), .string (str s)] w (FeedPost w b m l s) := by
  obtain ⟨v, hb, hv⟩ := h
  have hlt := lt_of_block hb
  have bel1 : ∀ o, Below w.heap.size w (w.alloc o) := fun o => (Below.refl _ w).alloc (Nat.le_refl _) _
  have bel2 : ∀ o o', Below w.heap.size w ((w.alloc o).alloc o') := fun o o' => (bel1 o).alloc (by simp) _
  have h0 : ∀ W, Below w.heap.size w W → W.cell? ⟨b, 0, none⟩ = some (.int .i64 m) := fun W hW => by rw [hW.cell (by exact hlt), cellAt hb]; rfl
  have h1 : ∀ W, Below w.heap.size w W → W.cell? ⟨b, 1, none⟩ = some v := fun W hW => by rw [hW.cell (by exact hlt), cellAt hb]; rfl
  have h2 : ∀ W, Below w.heap.size w W → W.cell? ⟨b, 2, none⟩ = some (.bool false) := fun W hW => by rw [hW.cell (by exact hlt), cellAt hb]; rfl
  have h1a := fun o => h1 _ (bel1 o)
  have h2a := fun o => h2 _ (bel1 o)
  have h0b' := fun o o' => h0 _ (bel2 o o')
  have hr : ∀ o, (convert 34 9 v).run Try.prog (w.alloc o) = .ok (.string (str l)) (w.alloc o) := fun o =>
    run_have (HV.keptNone hv (World.grownBy_alloc w o none))
  have HB := Lib.hid hb
  have HV0 := Lib.hid hv
  have HC := Lib.hid hc
  have H0 := Lib.hid h0
  have H1 := Lib.hid h1
  have H2 := Lib.hid h2
  have HM := Lib.hid hML
  clear hb hv hc h0 h1 h2 bel1 bel2 hML
  refine (callsIn_wide (n := 3)).1 ?_
  refine callsIn_of_wp_marks Try.func11 rfl trivial (wpIn_calmly ?_) rfl
  simp only [Try.ntmps11, List.size_toArray, List.length_cons, List.length_nil, Nat.reduceAdd, Nat.reduceSub, Array.replicate_succ, Array.replicate_zero, List.push_toArray, List.append_toArray, List.nil_append, List.cons_append]
  gi_wp2
  have ejoin : str l ++ str s = str (l ++ s) := by apply ByteArray.ext; simp
  rw [ejoin]
  clear ejoin
  have hmx : Try.prog.follows .mixedOrders = true := by kernel_rfl
  gi_region_with_o (refine ⟨trivial, ?_⟩; gi_at_call 27; refine (callsIn_wide.2 (cuts_any _ _ _)).mono ?_; rintro e w' ⟨rfl, rfl⟩)
  all_goals (gi_wp2_with fail)
  all_goals
    obtain ⟨Wl, hWl⟩ : ∃ Wl, Wl = ((((w.alloc (.cells #[.slice none 0 0] 23)).alloc (.cells #[sv (l ++ s)] 9)).alloc (.cells #[sv (l ++ s)] 9)).alloc (.cells #[.int .i64 m] 3)).drew := ⟨_, rfl⟩
    rw [← hWl]
    have hsz : Wl.heap.size = w.heap.size + 4 := by rw [hWl]; simp [World.drew]
    have hbel : Below w.heap.size w Wl := by rw [hWl]; exact (((((Below.refl _ w).alloc (Nat.le_refl _) _).alloc (by simp) _).alloc (by simp; omega) _).alloc (by simp; omega) _).drew
    have b0 : Boxed Wl w.heap.size 23 (.slice none 0 0) := by rw [hWl]; exact ((((Boxed.new w _ _).alloc _).alloc _).alloc _ : _)
    have b1 : Boxed Wl (w.heap.size + 1) 9 (sv (l ++ s)) := by rw [hWl]; have := Boxed.new (w.alloc (.cells #[.slice none 0 0] 23)) 9 (sv (l ++ s)); rw [World.size_alloc] at this; exact ((this.alloc _).alloc _ : _)
    have b2 : Boxed Wl (w.heap.size + 2) 9 (sv (l ++ s)) := by rw [hWl]; have := Boxed.new ((w.alloc (.cells #[.slice none 0 0] 23)).alloc (.cells #[sv (l ++ s)] 9)) 9 (sv (l ++ s)); rw [World.size_alloc, World.size_alloc] at this; exact (this.alloc _ : _)
    have b3 : Boxed Wl (w.heap.size + 3) 3 (.int .i64 m) := by rw [hWl]; have := Boxed.new (((w.alloc (.cells #[.slice none 0 0] 23)).alloc (.cells #[sv (l ++ s)] 9)).alloc (.cells #[sv (l ++ s)] 9)) 3 (.int .i64 m); rw [World.size_alloc, World.size_alloc, World.size_alloc] at this; exact this
    refine wpIn_rangeFunc_st (σ := List UInt8) (χ := List UInt8 × List UInt8) (w := Wl) rfl (by omega) (gf := 33) (lb := #[.pointer (some ⟨w.heap.size + 2, 0, none⟩), .pointer (some ⟨w.heap.size + 3, 0, none⟩)]) rfl trivial (enters_of Try.func33 (by kernel_rfl) rfl)
      (cuts_steps (w.heap.size + 2) m (l ++ s) Wl (by omega)) (by omega) (fun _ => rfl)
      (fun t W W' row h hg hr => h.out (B := w.heap.size + 4) (by omega) hg (fun r e => by have := (hr r e).1; omega))
      (FeedI w m (l ++ s)) (fun t W W' row h hg hr => h.kept hg (by rw [hsz] at hr; exact hr)) ?_ ?_
      (fun x => { tmps := #[.pointer (some ⟨b, 0, none⟩), .string (str s), undef, undef, .pointer (some ⟨w.heap.size, 0, none⟩), .int .i64 0, .pointer (some ⟨w.heap.size + 1, 0, none⟩), sv x.1, sv x.2, .pointer (some ⟨b, 0, none⟩), .bool false, .pointer (some ⟨b, 0, none⟩), .pointer (some ⟨b, 0, none⟩), .pointer (some ⟨b, 2, none⟩), .bool false, .pointer (some ⟨b, 0, none⟩), .pointer (some ⟨b, 0, none⟩), .pointer (some ⟨b, 1, none⟩), v, sv l, sv s, sv (l ++ s), sv (l ++ s), .pointer (some ⟨b, 0, none⟩), .pointer (some ⟨b, 0, none⟩), .pointer (some ⟨b, 0, none⟩), .int .i64 m, .func (.func 33) #[] #[.pointer (some ⟨w.heap.size + 2, 0, none⟩), .pointer (some ⟨w.heap.size + 3, 0, none⟩)], sv x.1, sv x.2, undef, undef, undef, undef, undef, undef, undef, undef, undef, undef, undef, undef, undef, undef, undef, undef, undef, undef, undef, undef, undef, undef, undef, undef], defers := [] }) ?_ ?_ ?_
    · exact ⟨_, [], b0, b1, World.ownsRow_nil _ _ _ _, by simp, by simp, hbel⟩
    · obtain ⟨mx, hmx⟩ := HM.out
      have hg0 : 0 < w.heap.size := by omega
      exact ⟨b2, b3, ⟨mx, (hbel.cell (p := ⟨0, 0, none⟩) hg0).trans hmx⟩, by simp; omega⟩
    · intro l' x W K hK
      gi_wp2
      exact hK
    · rintro l' t ⟨a, r⟩ t' W hnx hI hS
      have hnx' := hnx
      obtain ⟨i, hix, hxe, hte⟩ := hnx'
      obtain ⟨rfl, rfl⟩ : a = t.take i ∧ r = t' := by simpa using hxe
      obtain ⟨v0, outs, k0, k1, k2, k3, k4, k5⟩ := hI
      have hS' := hS
      obtain ⟨hB2, hB3, hML2, hl2⟩ := hS
      have hWs : w.heap.size + 4 ≤ W.heap.size := by have := lt_of_block hB3; omega
      have hol : outs.length ≤ 200000 := by simp at k4; omega
      have c0 := k0.cell
      have rf := fun w1 hb => round_facts (W := W) (w1 := w1) (B := w.heap.size) (R := w.heap.size + 1) (base := w.heap.size + 4) (t := t) (t' := r) (a := t.take i) ⟨by omega, by omega, by omega⟩ k0 k1 k2 hWs hol hb
      have hal : (str (t.take i)).size ≤ 281474976710656 := by simp [ByteArray.size] at k4 ⊢; omega
      have RF := Lib.hid rf
      have HAL := Lib.hid hal
      have HX := Lib.hid hix
      have HK := Lib.hid k3
      have HT := Lib.hid hte
      have HS := Lib.hid hS'
      have HB5 := Lib.hid k5
      have HG := Lib.hid (show 0 < w.heap.size by omega)
      clear rf hal hix k3 hte hS' k5 k0 k1 k2 hB2 hB3 hML2 hnx
      gi_wp2
      refine wpIn_region_any (by kernel_rfl) ?_
      change wpAnyIn _ _ _ _ _ _ _ _ _ (World.drew _)
      refine wpAnyIn_ready (rs := [0, 1]) (by kernel_rfl) (by simp) ?_
      refine AllReadyIn.cons rfl (fun K hK => ?_) (AllReadyIn.cons rfl (fun K hK => ?_) (AllReadyIn.nil))
      · go_simp
        refine hK _ _ ?_; clear hK K
        refine wpAnyIn_ready (rs := [1]) (by kernel_rfl) (by simp) ?_
        refine AllReadyIn.cons rfl (fun K hK => ?_) (AllReadyIn.nil)
        go_simp
        refine hK _ _ ?_; clear hK K
        refine wpAnyIn_ready (rs := [2]) (by kernel_rfl) (by simp) ?_
        refine AllReadyIn.cons rfl (fun K hK => ?_) (AllReadyIn.nil)
        go_simp
        refine ⟨trivial, ?_⟩
        refine (CallsIn.inRound l' (callsIn_wide.2 (clone_any _ _ HAL.out))).mono ?_
        rintro e w1 ⟨rfl, hb1⟩
        obtain ⟨g, cap, w2, hrun, d0, d0', d1, d2, d3, d4, d5⟩ := RF.out w1 ⟨hb1.os, hb1.tape, hb1.output, hb1.size, hb1.block⟩; clear hb1
        have D5 := Lib.hid d5; clear d5
        refine hK _ _ ?_; clear hK K
        refine wpAnyIn_ready (rs := [3]) (by kernel_rfl) (by simp) ?_
        refine AllReadyIn.cons rfl (fun K hK => ?_) (AllReadyIn.nil)
        go_simp
        refine hK _ _ ?_; clear hK K
        refine wpAnyIn_ready (rs := [4]) (by kernel_rfl) (by simp) ?_
        refine AllReadyIn.cons rfl (fun K hK => ?_) (AllReadyIn.nil)
        refine stepIn_append rfl (.tmp 30) (.tmp 33) 23 rfl rfl rfl hrun ?_
        refine hK _ _ ?_; clear hK K
        refine wpAnyIn_ready (rs := [5]) (by kernel_rfl) (by simp) ?_
        refine AllReadyIn.cons rfl (fun K hK => ?_) (AllReadyIn.nil)
        go_simp
        refine hK _ _ ?_; clear hK K
        refine wpAnyIn_done (by kernel_rfl) ?_ _
        gi_wp2
        exact round_close D5.out HG.out HK.out (run_cut HX.out) k4 HT.out (by have := (hit_of_index HX.out).2.2; simp at this; omega) HB5.out HS.out
      · go_simp
        refine hK _ _ ?_; clear hK K
        refine wpAnyIn_ready (rs := [0, 2]) (by kernel_rfl) (by simp) ?_
        refine AllReadyIn.cons rfl (fun K hK => ?_) (AllReadyIn.cons rfl (fun K hK => ?_) (AllReadyIn.nil))
        · go_simp
          refine hK _ _ ?_; clear hK K
          refine wpAnyIn_ready (rs := [2]) (by kernel_rfl) (by simp) ?_
          refine AllReadyIn.cons rfl (fun K hK => ?_) (AllReadyIn.nil)
          go_simp
          refine ⟨trivial, ?_⟩
          refine (CallsIn.inRound l' (callsIn_wide.2 (clone_any _ _ HAL.out))).mono ?_
          rintro e w1 ⟨rfl, hb1⟩
          obtain ⟨g, cap, w2, hrun, d0, d0', d1, d2, d3, d4, d5⟩ := RF.out w1 ⟨hb1.os, hb1.tape, hb1.output, hb1.size, hb1.block⟩; clear hb1
          have D5 := Lib.hid d5; clear d5
          refine hK _ _ ?_; clear hK K
          refine wpAnyIn_ready (rs := [3]) (by kernel_rfl) (by simp) ?_
          refine AllReadyIn.cons rfl (fun K hK => ?_) (AllReadyIn.nil)
          go_simp
          refine hK _ _ ?_; clear hK K
          refine wpAnyIn_ready (rs := [4]) (by kernel_rfl) (by simp) ?_
          refine AllReadyIn.cons rfl (fun K hK => ?_) (AllReadyIn.nil)
          refine stepIn_append rfl (.tmp 30) (.tmp 33) 23 rfl rfl rfl hrun ?_
          refine hK _ _ ?_; clear hK K
          refine wpAnyIn_ready (rs := [5]) (by kernel_rfl) (by simp) ?_
          refine AllReadyIn.cons rfl (fun K hK => ?_) (AllReadyIn.nil)
          go_simp
          refine hK _ _ ?_; clear hK K
          refine wpAnyIn_done (by kernel_rfl) ?_ _
          gi_wp2
          exact round_close D5.out HG.out HK.out (run_cut HX.out) k4 HT.out (by have := (hit_of_index HX.out).2.2; simp at this; omega) HB5.out HS.out
        · go_simp
          refine ⟨trivial, ?_⟩
          refine (CallsIn.inRound l' (callsIn_wide.2 (clone_any _ _ HAL.out))).mono ?_
          rintro e w1 ⟨rfl, hb1⟩
          obtain ⟨g, cap, w2, hrun, d0, d0', d1, d2, d3, d4, d5⟩ := RF.out w1 ⟨hb1.os, hb1.tape, hb1.output, hb1.size, hb1.block⟩; clear hb1
          have D5 := Lib.hid d5; clear d5
          refine hK _ _ ?_; clear hK K
          refine wpAnyIn_ready (rs := [0, 3]) (by kernel_rfl) (by simp) ?_
          refine AllReadyIn.cons rfl (fun K hK => ?_) (AllReadyIn.cons rfl (fun K hK => ?_) (AllReadyIn.nil))
          · go_simp
            refine hK _ _ ?_; clear hK K
            refine wpAnyIn_ready (rs := [3]) (by kernel_rfl) (by simp) ?_
            refine AllReadyIn.cons rfl (fun K hK => ?_) (AllReadyIn.nil)
            go_simp
            refine hK _ _ ?_; clear hK K
            refine wpAnyIn_ready (rs := [4]) (by kernel_rfl) (by simp) ?_
            refine AllReadyIn.cons rfl (fun K hK => ?_) (AllReadyIn.nil)
            refine stepIn_append rfl (.tmp 30) (.tmp 33) 23 rfl rfl rfl hrun ?_
            refine hK _ _ ?_; clear hK K
            refine wpAnyIn_ready (rs := [5]) (by kernel_rfl) (by simp) ?_
            refine AllReadyIn.cons rfl (fun K hK => ?_) (AllReadyIn.nil)
            go_simp
            refine hK _ _ ?_; clear hK K
            refine wpAnyIn_done (by kernel_rfl) ?_ _
            gi_wp2
            exact round_close D5.out HG.out HK.out (run_cut HX.out) k4 HT.out (by have := (hit_of_index HX.out).2.2; simp at this; omega) HB5.out HS.out
          · go_simp
            refine hK _ _ ?_; clear hK K
            refine wpAnyIn_ready (rs := [0]) (by kernel_rfl) (by simp) ?_
            refine AllReadyIn.cons rfl (fun K hK => ?_) (AllReadyIn.nil)
            go_simp
            refine hK _ _ ?_; clear hK K
            refine wpAnyIn_ready (rs := [4]) (by kernel_rfl) (by simp) ?_
            refine AllReadyIn.cons rfl (fun K hK => ?_) (AllReadyIn.nil)
            refine stepIn_append rfl (.tmp 30) (.tmp 33) 23 rfl rfl rfl hrun ?_
            refine hK _ _ ?_; clear hK K
            refine wpAnyIn_ready (rs := [5]) (by kernel_rfl) (by simp) ?_
            refine AllReadyIn.cons rfl (fun K hK => ?_) (AllReadyIn.nil)
            go_simp
            refine hK _ _ ?_; clear hK K
            refine wpAnyIn_done (by kernel_rfl) ?_ _
            gi_wp2
            exact round_close D5.out HG.out HK.out (run_cut HX.out) k4 HT.out (by have := (hit_of_index HX.out).2.2; simp at this; omega) HB5.out HS.out
    · rintro D t W hD hfin ⟨v0, outs, k0, k1, k2, k3, k4, k5⟩ hS hDh
      obtain ⟨A0, cap0, rfl⟩ := k2.form
      have hrs : run m l s = run m [] (l ++ s) := by rw [run_append, HC.out]; simp
      rw [hsz] at hD
      have c0 := k0.cell
      have f0 := k0.frozen
      have c1 := k1.cell
      have hbW : W.heap[b]? = some (.cells #[.int .i64 m, v, .bool false] 55 (0, 0)) := (k5.block b hlt).trans HB.out
      have g0 := H0.out W k5
      have g1 := H1.out W k5
      have g2 := H2.out W k5
      have p1 := freeAt hbW 1
      have p2 := freeAt hbW 2
      have HBW := Lib.hid hbW
      have HRS := Lib.hid hrs
      have HF := Lib.hid hfin
      have HK := Lib.hid k3
      have K0 := Lib.hid k0
      have K2 := Lib.hid k2
      have K5 := Lib.hid k5
      have HD := Lib.hid hDh
      clear hbW hrs hfin k0 k1 k2 k3 k5 hDh hS
      by_cases hlen : m ≤ t.length
      · gi_wp2
        gi_region
        gi_wp2
        have hrun : run m l s = (outs, [], true) := by rw [HRS.out, HK.out, run_full HF.out (by omega) hlen]; simp
        obtain ⟨hXD, hcell, hpost⟩ := dead_world K5.out hlt (by omega) HD.out HBW.out K0.out K2.out hrun
        refine ⟨by simp, .inl ⟨_, _, rfl, run_takeDeferred hXD, ?_⟩⟩
        exact ⟨.tuple #[.slice A0 outs.length cap0, .int .i64 40], by simp [results, Try.results11, go_sem, hcell], hpost⟩
      · have hlt' : t.length < m := by omega
        have hfW : Fr W.drew b m l false := ⟨v, HBW.out, HV.keptNone HV0.out (grownBy_of_below K5.out.drew none)⟩
        have HFW := Lib.hid hfW
        clear hfW
        gi_wp2
        gi_region
        gi_wp2_with fail
        refine ⟨trivial, ?_⟩
        refine (callsIn_wide.2 (keep_any _ t HFW.out (by simp at k4; omega))).mono ?_
        rintro e w3 ⟨rfl, hg3, hf3⟩
        have q0 := K0.out.kept (W := W.drew) hg3 (by simp; omega)
        have d0 := q0.cell
        have d1 := q0.frozen
        have HG3 := Lib.hid hg3
        have HF3 := Lib.hid hf3
        clear hg3 hf3 q0
        gi_wp2
        have hrun : run m l s = (outs, t, false) := by rw [HRS.out, HK.out, run_none HF.out hlt']; simp
        obtain ⟨hXD, hcell, hpost⟩ := live_world K5.out hlt (by omega) HD.out K0.out K2.out HG3.out HF3.out hrun
        refine ⟨by simp, .inl ⟨_, _, rfl, run_takeDeferred hXD, ?_⟩⟩
        exact ⟨.tuple #[.slice A0 outs.length cap0, .int .i64 0], by simp [results, Try.results11, go_sem, hcell], hpost⟩
end Go.Proofs.Ytgjngldkeiblbaa
