/-
  What the bodies of head's loops keep: all blocks of cells but the boxes X and the row in box R. Where an iterator may stand in an iterator.
-/
import Derived.Outline
import Derived.Test.YtkffdhdhjfbhjaaDoorHLoop
namespace Go.Proofs.YtkffdhdhjfbhjaaDoor
set_option linter.unusedSimpArgs false
set_option linter.unusedVariables false
open Go Go.RowKit Go.Shelf
set_option maxRecDepth 100000

def FreeR (X : List Nat) (R : Nat) (A : World) (k : Nat) : Prop := k ∉ X ∧ R < A.heap.size ∧ ∀ v, A.cell? ⟨R, 0, none⟩ = some v → v.ownBlock ≠ some k
def KpR (n₀ : Nat) (X : List Nat) (R : Nat) (A B : World) : Prop := Below n₀ A B ∧ ∀ k cs t fr, A.heap[k]? = some (.cells cs t fr) → FreeR X R A k → B.heap[k]? = A.heap[k]? ∧ FreeR X R B k

theorem size_setCell (W : World) (a : Addr) (v : Value) : (W.setCell a v).heap.size = W.heap.size := by simp [World.setCell]
theorem kpr_keeps (n₀ : Nat) (X : List Nat) (R : Nat) : Keeps (KpR n₀ X R) (FreeR X R) n₀ := ⟨fun h hc hf => h.2 _ _ _ _ hc hf, fun h => h.1⟩
theorem kpr_refl {n₀ : Nat} {X : List Nat} {R : Nat} (W : World) : KpR n₀ X R W W := ⟨Below.refl _ _, fun _ _ _ _ _ h => ⟨rfl, h⟩⟩
theorem kpr_trans {n₀ : Nat} {X : List Nat} {R : Nat} {A B C : World} (h : KpR n₀ X R A B) (h' : KpR n₀ X R B C) : KpR n₀ X R A C := by
  refine ⟨h.1.trans h'.1, fun k cs t fr hc hf => ?_⟩
  obtain ⟨e, f⟩ := h.2 k cs t fr hc hf
  obtain ⟨e', f'⟩ := h'.2 k cs t fr (e.trans hc) f
  exact ⟨e'.trans e, f'⟩
theorem kpr_putObj {n₀ : Nat} {X : List Nat} {R : Nat} {B : Nat} (hn : n₀ ≤ B) (hR : R < B) (W : World) (l : Nat) (o o' : Obj) (hl : B ≤ l) (ho : W.heap[l]? = some o) (hc : o.isCells = false) : KpR n₀ X R W (W.putObj l o') := by
  refine ⟨?_, fun k cs t fr hk hf => ?_⟩
  · exact ⟨rfl, rfl, rfl, by rw [World.putObj_size]; exact Nat.le_refl _, fun k hk => World.putObj_heap_other (by omega)⟩
  · have hne : k ≠ l := by rintro rfl; rw [ho] at hk; cases hk; cases hc
    refine ⟨World.putObj_heap_other hne, hf.1, by rw [World.putObj_size]; exact hf.2.1, fun v hv => hf.2.2 v ?_⟩
    rw [← hv]
    exact (World.cell?_of_block (World.putObj_heap_other (by simp only; omega))).symm

/-- A store into a box of X. -/
theorem kpr_set {n₀ : Nat} {X : List Nat} {R : Nat} {W : World} {b : Nat} {v : Value} (hb : b ∈ X) (hn : n₀ ≤ b) (h : b ≠ R ∨ v.ownBlock = none) : KpR n₀ X R W (W.setCell ⟨b, 0, none⟩ v) := by
  refine ⟨(Below.refl _ W).setCell (p := ⟨b, 0, none⟩) hn _, fun k cs t fr hk hf => ?_⟩
  have hne : k ≠ b := fun e => hf.1 (by rw [e]; exact hb)
  refine ⟨heap_setCell_other _ _ _ _ (by exact hne), hf.1, by rw [size_setCell]; exact hf.2.1, fun u hu => ?_⟩
  by_cases e : b = R
  · subst e
    rcases h with h | h
    · exact absurd rfl h
    · by_cases e2 : u = v
      · rw [e2, h]; simp
      · refine hf.2.2 u ?_
        rw [← hu]
        by_cases hw : b < W.heap.size
        · cases hh : W.cell? ⟨b, 0, none⟩ with
          | none => exact absurd hu (by
              intro hu'
              have : (W.setCell ⟨b, 0, none⟩ v).cell? ⟨b, 0, none⟩ = none := by
                unfold World.cell? World.setCell at *
                revert hh
                simp only [Array.getElem?_modify, if_true]
                cases W.heap[b]? with
                | none => simp
                | some o => cases o <;> simp
              rw [this] at hu'; cases hu')
          | some z =>
            exfalso
            apply e2
            have : (W.setCell ⟨b, 0, none⟩ v).cell? ⟨b, 0, none⟩ = some v := World.cell?_setCell_same _ _ _ hh
            rw [this] at hu; cases hu; rfl
        · have : (W.setCell ⟨b, 0, none⟩ v).cell? ⟨b, 0, none⟩ = none := by
            unfold World.cell? World.setCell
            simp only [Array.getElem?_modify, if_true]
            rw [Array.getElem?_eq_none (by omega)]; rfl
          rw [this] at hu; cases hu
  · refine hf.2.2 u ?_
    rw [← hu]
    exact (World.cell?_setCell_other W _ _ _ (by intro e2; simp at e2 <;> first | exact e e2 | exact e e2.symm)).symm

/-- The row in box R grows: by an append, and the store of what came of it. -/
theorem kpr_row {n₀ : Nat} {X : List Nat} {R : Nat} {W w2 : World} {t0 : TypeId} {v0 : Value} {g n cap : Nat} (hR : R ∈ X) (hn : n₀ ≤ R) (h0 : Boxed W R t0 v0) (hg : W.grownBy w2 v0.ownBlock) (hgb : ∀ k, v0.ownBlock = some k → n₀ ≤ k) (hgn : v0.ownBlock = some g ∨ W.heap.size ≤ g) (b2 : Boxed w2 R t0 v0) :
    KpR n₀ X R W (w2.setCell ⟨R, 0, none⟩ (.slice (some ⟨g, 0, none⟩) n cap)) := by
  have hlt : R < W.heap.size := h0.lt
  refine ⟨?_, fun k cs t fr hk hf => ?_⟩
  · by_cases hnW : n₀ ≤ W.heap.size
    · exact (((Below.refl n₀ W).grown hg hnW hgb)).setCell (p := ⟨R, 0, none⟩) hn _
    · omega
  · have hne : k ≠ R := fun e => hf.1 (by rw [e]; exact hR)
    have hkl : k < W.heap.size := (Array.getElem?_eq_some_iff.1 hk).1
    have hno : v0.ownBlock ≠ some k := hf.2.2 v0 h0.cell
    refine ⟨(heap_setCell_other _ _ _ _ (by exact hne)).trans (hg.block k hkl (fun e => hno e.symm)), hf.1, by rw [size_setCell]; exact Nat.lt_of_lt_of_le hf.2.1 hg.size, fun u hu => ?_⟩
    have : (w2.setCell ⟨R, 0, none⟩ (.slice (some ⟨g, 0, none⟩) n cap)).cell? ⟨R, 0, none⟩ = some (.slice (some ⟨g, 0, none⟩) n cap) := (b2.set _).cell
    rw [this] at hu
    cases hu
    intro e
    have e' : g = k := by simpa [Value.ownBlock] using e
    rcases hgn with h | h
    · exact hno (by rw [h, e'])
    · omega

theorem free_new {X : List Nat} {R : Nat} {w W : World} {v : Value} (hX : ∀ k ∈ X, k < w.heap.size) (hR : w.cell? ⟨R, 0, none⟩ = some v) (hv : v.ownBlock = none) (hRl : R < w.heap.size) (hb : Below w.heap.size w W) (k : Nat) (hk : w.heap.size ≤ k) : FreeR X R W k := by
  refine ⟨fun h => by have := hX k h; omega, Nat.lt_of_lt_of_le hRl hb.size, fun u hu => ?_⟩
  rw [(hb.cell (p := ⟨R, 0, none⟩) hRl), hR] at hu
  cases hu
  rw [hv]; simp

/-- 'append(row, x)': the row the call's own; where what comes of it lies. -/
theorem append_two (W : World) (base : Nat) (v : Value) (outs : List (List UInt8)) (x : List UInt8) (hown : Ows W base v outs) (hbase : base ≤ W.heap.size) (hlen : outs.length ≤ 4000000) :
    ∃ g cap w2, (Builtin.append_ #[24, 24] 24 #[v, .slice (some ⟨W.heap.size, 0, none⟩) 1 1]).run Tryd.prog (W.alloc (.cells #[sv x] 9)) = .ok (.slice (some ⟨g, 0, none⟩) (outs.length + 1) cap) w2 ∧
      Ows w2 base (.slice (some ⟨g, 0, none⟩) (outs.length + 1) cap) (outs ++ [x]) ∧ W.grownBy w2 v.ownBlock ∧ base ≤ g ∧ (v.ownBlock = some g ∨ W.heap.size ≤ g) := by
  obtain ⟨i0, hi, hz0, hz1, hz2⟩ := info_parts Tryd.info9
  obtain ⟨g, cap, w2, hrun, hown2, hgrow, hat, hlt⟩ := run_append_lies (P := Tryd.prog) (W.alloc (.cells #[sv x] 9)) 24 24 base 9 i0 (.string ⟨#[]⟩) 1 16 Tryd.underlying24 hi hz0 hz1 hz2 rfl (by decide) v outs.length (outs.map sv) (World.ownsRow.alloc hown _)
    ⟨W.heap.size, 0, none⟩ 1 1 [sv x] rfl (cell_one_new _ _ _) (by simp [Value.oneCell']) (by decide) (by unfold maxLen; omega) (by omega) (by simp; omega) _ rfl
  refine ⟨g, cap, w2, hrun, ?_, ?_, ?_, ?_⟩
  · unfold Ows
    simpa using hown2
  · exact ⟨hgrow.os, hgrow.tape, hgrow.output, Nat.le_trans (by simp) hgrow.size, fun k hk hne => (hgrow.block k (by simp; omega) hne).trans (Below.heap_alloc _ _ _ hk)⟩
  · rcases hown2.2 with ⟨h, _⟩ | ⟨g', c', _, h, hb, _⟩
    · cases h
    · have : g = g' ∧ cap = c' := by simpa using h
      omega
  · rcases hat with h | h
    · exact .inl h
    · right; rw [h]; simp

theorem wpListIn_append_run {F : Fence} {n : Nat} {P : Program} {ops : Array Oper} {rest : List Oper} {o : Oper} {a : Act} {w w' : World} {Q : Exit → Act → World → Prop} {v v' xv : Value}
    (hg : o.guard = none) (s x : Operand) (t : TypeId) (hop : o.op = Op.call { callee := Callee.builtin Builtin.append, args := #[s, x], argTypes := #[t, t] }) (hs : a.eval s = v) (hx : a.eval x = xv)
    (hrun : (Builtin.append_ #[t, t] o.type #[v, xv]).run P w = .ok v' w') (hK : wpListIn F n P ops Q rest (a.put o.dst v') w') : wpListIn F n P ops Q (o :: rest) a w := by
  refine wpListIn_plain hg fun K hK' => ?_
  unfold Oper.wpIn
  refine ⟨?_, ?_⟩
  · simp [Oper.about, hop, resolve, Target.leads, Sem.run_pure]
  · rw [Oper.semAt_plain F _ _ (by rw [hop]; intro c hc'; cases hc')]
    simp [execOp, hop, resolve, invoke, builtin, hs, hx, hrun, Result.andThen]
    exact hK' _ _ hK

theorem wpList_append_run {P : Program} {ops : Array Oper} {rest : List Oper} {o : Oper} {a : Act} {w w' : World} {Q : Exit → Act → World → Prop} {v v' xv : Value}
    (hg : o.guard = none) (s x : Operand) (t : TypeId) (hop : o.op = Op.call { callee := Callee.builtin Builtin.append, args := #[s, x], argTypes := #[t, t] }) (hs : a.eval s = v) (hx : a.eval x = xv)
    (hrun : (Builtin.append_ #[t, t] o.type #[v, xv]).run P w = .ok v' w') (hK : wpList P ops Q rest (a.put o.dst v') w') : wpList P ops Q (o :: rest) a w :=
  wpList_plain hg fun K hK' => by
    unfold Oper.wp execOp
    simp only [hop, resolve, invoke, builtin, Sem.run_bind, Sem.run_pure, Result.andThen_ok, List.map_toArray, List.map_cons, List.map_nil, hs, hx, hrun]
    exact hK' _ _ hK

theorem kpr_below {n₀ : Nat} {X : List Nat} {R : Nat} {A B : World} (hn : n₀ ≤ A.heap.size) (hb : Below A.heap.size A B) : KpR n₀ X R A B := by
  refine ⟨hb.mono hn, fun k cs t fr hc hf => ?_⟩
  have hk : k < A.heap.size := lt_of_blk hc
  refine ⟨hb.block k hk, hf.1, Nat.lt_of_lt_of_le hf.2.1 hb.size, fun v hv => hf.2.2 v ?_⟩
  rw [← hv]
  exact (hb.cell (p := ⟨R, 0, none⟩) hf.2.1).symm

/-- What is asked of a body's words, from world w0 on. -/
structure KpG (Kp : World → World → Prop) (Free : World → Nat → Prop) (n₀ : Nat) (w0 : World) : Prop where
  keeps : Keeps Kp Free n₀
  trans : ∀ {A B C : World}, Kp A B → Kp B C → Kp A C
  below : ∀ {A B : World}, w0.heap.size ≤ A.heap.size → Below A.heap.size A B → Kp A B
  put : ∀ (W : World) (k : Nat) (o o' : Obj), w0.heap.size ≤ k → W.heap[k]? = some o → o.isCells = false → Kp W (W.putObj k o')
  free : ∀ {W : World} {k : Nat}, Below w0.heap.size w0 W → w0.heap.size ≤ k → Free W k
  own : ∀ k, OwnFrom w0.heap.size (fun (_ : Unit) W => Free W k)
  lo : n₀ ≤ w0.heap.size

theorem kpr_g {n₀ : Nat} {X : List Nat} {R : Nat} {w0 : World} {v : Value} (hn : n₀ ≤ w0.heap.size) (hX : ∀ k ∈ X, k < w0.heap.size) (hR : w0.cell? ⟨R, 0, none⟩ = some v) (hv : v.ownBlock = none) : KpG (KpR n₀ X R) (FreeR X R) n₀ w0 := by
  have hRl : R < w0.heap.size := by
    rcases Nat.lt_or_ge R w0.heap.size with h | h
    · exact h
    · simp [World.cell?, Array.getElem?_eq_none h] at hR
  refine ⟨kpr_keeps _ _ _, kpr_trans, fun h hb => kpr_below (by omega) hb, fun W k o o' hk ho hc => ?_, fun hb hk => free_new hX hR hv hRl hb _ hk, fun k _ W W' row hf hg hr => ?_, hn⟩
  · exact kpr_putObj (B := w0.heap.size) hn hRl W k o o' hk ho hc
  · refine ⟨hf.1, Nat.lt_of_lt_of_le hf.2.1 hg.size, fun u hu => hf.2.2 u ?_⟩
    rw [← hu]
    exact (World.cell?_of_block (hg.block R hf.2.1 (fun e => by have := (hr R e.symm).1; omega))).symm

theorem KpG.step {Kp : World → World → Prop} {Free : World → Nat → Prop} {n₀ : Nat} {w0 w1 : World} (h : KpG Kp Free n₀ w0) (hb : Below w0.heap.size w0 w1) : KpG Kp Free n₀ w1 :=
  ⟨h.keeps, h.trans, fun hl => h.below (Nat.le_trans hb.size hl), fun W k o o' hk => h.put W k o o' (Nat.le_trans hb.size hk), fun hb' hk => h.free (hb.trans (hb'.mono hb.size)) (Nat.le_trans hb.size hk), fun k s W W' row hs hg hr => h.own k s W W' row hs hg (fun r e => ⟨Nat.le_trans hb.size (hr r e).1, (hr r e).2⟩), Nat.le_trans h.lo hb.size⟩

/-- The fields' iterator. -/
theorem fields_hands {Kp : World → World → Prop} {Free : World → Nat → Prop} {n₀ : Nat} (Bs : Nat) (s0 : List UInt8) (hs : s0.length ≤ 1000000) (hn0 : 0 < n₀) (w : World) (hG : KpG Kp Free n₀ w) (hM : ML w) (hBw : Bs < w.heap.size) (hB : w.cell? ⟨Bs, 0, none⟩ = some (sv s0)) :
    HandsO Fence.wide 2 Tryd.prog 54 #[.pointer (some ⟨Bs, 0, none⟩)] (fun x : FI => #[fv x.1]) Kp (fun pre x => valsF (pre ++ [x]) <+: fieldsL s0) (fun xs => valsF xs = fieldsL s0) (fun pre => valsF pre <+: fieldsL s0) w := by
  intro l J Jx W hb hJ hJx hY h0
  have hG' := hG.step hb
  refine fields1_in l Bs n₀ s0 hs hn0 Kp Free hG.keeps J Jx W (fun s A B row h hg hr => hJ s A B row h hg (fun r e => ⟨(hr r e).1, by obtain ⟨_, o, ho, hw⟩ := hr r e; exact ⟨o, ho, Obj.not_cells_of_walk hw⟩⟩))
    (fun W' k hb' hk => hG'.free hb' hk) (fun A B hl => hG'.below hl) (fun pre x W1 hj hp => ?_) (hM.step hb) ((hb.cell (p := ⟨Bs, 0, none⟩) hBw).trans hB) h0
  refine (hY pre x W1 hj hp).mono ?_
  rintro e W2 ⟨⟨k1, k2⟩, h | h⟩
  · exact .inl ⟨h.1, h.2, k1, k2.size⟩
  · exact .inr h
end Go.Proofs.YtkffdhdhjfbhjaaDoor
