/-
  What the bodies of stuff's loops keep: all rows of texts but the boxes X and the row in box R. And an append whose run is known, as a step inside a fence.
-/
import Derived.Outline
import Derived.Test.YtjbjbbbhcncfnaaSDot
namespace Go.Proofs.Ytjbjbbbhcncfnaa
open Go Go.RowKit Go.Shelf
set_option maxRecDepth 100000

def FreeR (X : List Nat) (R : Nat) (A : World) (k : Nat) : Prop := k ∉ X ∧ ∀ v, A.cell? ⟨R, 0, none⟩ = some v → v.ownBlock ≠ some k
def KpR (n₀ : Nat) (X : List Nat) (R : Nat) (A B : World) : Prop := Below n₀ A B ∧ ∀ k cs fr, A.heap[k]? = some (.cells cs 9 fr) → FreeR X R A k → B.heap[k]? = A.heap[k]? ∧ FreeR X R B k

theorem kpr_keeps (n₀ : Nat) (X : List Nat) (R : Nat) : Keeps (KpR n₀ X R) (FreeR X R) n₀ := ⟨fun h hc hf => h.2 _ _ _ hc hf, fun h => h.1⟩
theorem kpr_refl {n₀ : Nat} {X : List Nat} {R : Nat} (W : World) : KpR n₀ X R W W := ⟨Below.refl _ _, fun _ _ _ _ h => ⟨rfl, h⟩⟩
theorem kpr_trans {n₀ : Nat} {X : List Nat} {R : Nat} {A B C : World} (h : KpR n₀ X R A B) (h' : KpR n₀ X R B C) : KpR n₀ X R A C := by
  refine ⟨h.1.trans h'.1, fun k cs fr hc hf => ?_⟩
  obtain ⟨e, f⟩ := h.2 k cs fr hc hf
  obtain ⟨e', f'⟩ := h'.2 k cs fr (e.trans hc) f
  exact ⟨e'.trans e, f'⟩
theorem kpr_putObj {n₀ : Nat} {X : List Nat} {R : Nat} {B : Nat} (hn : n₀ ≤ B) (hR : R < B) (W : World) (l : Nat) (o o' : Obj) (hl : B ≤ l) (ho : W.heap[l]? = some o) (hc : o.isCells = false) (hw : o.isWalk = false) : KpR n₀ X R W (W.putObj l o') := by
  refine ⟨?_, fun k cs fr hk hf => ?_⟩
  · exact ⟨rfl, rfl, rfl, by rw [World.putObj_size]; exact Nat.le_refl _, fun k hk => World.putObj_heap_other (by omega)⟩
  · have hne : k ≠ l := by rintro rfl; rw [ho] at hk; cases hk; cases hc
    refine ⟨World.putObj_heap_other hne, hf.1, fun v hv => hf.2 v ?_⟩
    rw [← hv]
    exact (World.cell?_of_block (World.putObj_heap_other (by simp only; omega))).symm

/-- A store into a box of X. -/
theorem kpr_set {n₀ : Nat} {X : List Nat} {R : Nat} {W : World} {b : Nat} {v : Value} (hb : b ∈ X) (hn : n₀ ≤ b) (h : b ≠ R ∨ v.ownBlock = none) : KpR n₀ X R W (W.setCell ⟨b, 0, none⟩ v) := by
  refine ⟨(Below.refl _ W).setCell (p := ⟨b, 0, none⟩) hn _, fun k cs fr hk hf => ?_⟩
  have hne : k ≠ b := fun e => hf.1 (by rw [e]; exact hb)
  refine ⟨heap_setCell_other _ _ _ _ (by exact hne), hf.1, fun u hu => ?_⟩
  by_cases e : b = R
  · subst e
    rcases h with h | h
    · exact absurd rfl h
    · by_cases e2 : u = v
      · rw [e2, h]; simp
      · refine hf.2 u ?_
        rw [← hu]
        by_cases hw : b < W.heap.size
        · cases hh : W.cell? ⟨b, 0, none⟩ with
          | none => exact absurd hu (by
              intro hu'
              have : (W.setCell ⟨b, 0, none⟩ v).cell? ⟨b, 0, none⟩ = none := by
                unfold World.cell? World.setCell at *
                revert hh
                simp only [Array.getElem?_modify, if_true]
                cases W.heap[b]? with
                | none => simp
                | some o => cases o <;> simp
              rw [this] at hu'; cases hu')
          | some z =>
            exfalso
            apply e2
            have : (W.setCell ⟨b, 0, none⟩ v).cell? ⟨b, 0, none⟩ = some v := World.cell?_setCell_same _ _ _ hh
            rw [this] at hu; cases hu; rfl
        · have : (W.setCell ⟨b, 0, none⟩ v).cell? ⟨b, 0, none⟩ = none := by
            unfold World.cell? World.setCell
            simp only [Array.getElem?_modify, if_true]
            rw [Array.getElem?_eq_none (by omega)]; rfl
          rw [this] at hu; cases hu
  · refine hf.2 u ?_
    rw [← hu]
    exact (World.cell?_setCell_other W _ _ _ (by intro e2; simp at e2 <;> first | exact e e2 | exact e e2.symm)).symm

/-- The row in box R grows: by an append, and the store of what came of it. -/
theorem kpr_row {n₀ : Nat} {X : List Nat} {R : Nat} {W w2 : World} {t : TypeId} {v0 : Value} {g n cap : Nat} (hR : R ∈ X) (hn : n₀ ≤ R) (h0 : Boxed W R t v0) (hg : W.grownBy w2 v0.ownBlock) (hgb : ∀ k, v0.ownBlock = some k → n₀ ≤ k) (hgn : v0.ownBlock = some g ∨ W.heap.size ≤ g) (b2 : Boxed w2 R t v0) :
    KpR n₀ X R W (w2.setCell ⟨R, 0, none⟩ (.slice (some ⟨g, 0, none⟩) n cap)) := by
  have hlt : R < W.heap.size := h0.lt
  refine ⟨?_, fun k cs fr hk hf => ?_⟩
  · by_cases hnW : n₀ ≤ W.heap.size
    · exact (((Below.refl n₀ W).grown hg hnW hgb)).setCell (p := ⟨R, 0, none⟩) hn _
    · omega
  · have hne : k ≠ R := fun e => hf.1 (by rw [e]; exact hR)
    have hkl : k < W.heap.size := (Array.getElem?_eq_some_iff.1 hk).1
    have hno : v0.ownBlock ≠ some k := hf.2 v0 h0.cell
    refine ⟨(heap_setCell_other _ _ _ _ (by exact hne)).trans (hg.block k hkl (fun e => hno e.symm)), hf.1, fun u hu => ?_⟩
    have : (w2.setCell ⟨R, 0, none⟩ (.slice (some ⟨g, 0, none⟩) n cap)).cell? ⟨R, 0, none⟩ = some (.slice (some ⟨g, 0, none⟩) n cap) := (b2.set _).cell
    rw [this] at hu
    cases hu
    intro e
    have e' : g = k := by simpa [Value.ownBlock] using e
    rcases hgn with h | h
    · exact hno (by rw [h, e'])
    · omega

theorem free_new {X : List Nat} {R : Nat} {w W : World} {v : Value} (hX : ∀ k ∈ X, k < w.heap.size) (hR : w.cell? ⟨R, 0, none⟩ = some v) (hv : v.ownBlock = none) (hRl : R < w.heap.size) (hb : Below w.heap.size w W) (k : Nat) (hk : w.heap.size ≤ k) : FreeR X R W k := by
  refine ⟨fun h => by have := hX k h; omega, fun u hu => ?_⟩
  rw [(hb.cell (p := ⟨R, 0, none⟩) hRl), hR] at hu
  cases hu
  rw [hv]; simp

/-- 'append(row, x)': the row the call's own; where what comes of it lies. -/
theorem append_two (W : World) (base : Nat) (v : Value) (outs : List (List UInt8)) (x : List UInt8) (hown : Ows W base v outs) (hbase : base ≤ W.heap.size) (hlen : outs.length ≤ 4000000) :
    ∃ g cap w2, (Builtin.append_ #[23, 23] 23 #[v, .slice (some ⟨W.heap.size, 0, none⟩) 1 1]).run Try.prog (W.alloc (.cells #[sv x] 9)) = .ok (.slice (some ⟨g, 0, none⟩) (outs.length + 1) cap) w2 ∧
      Ows w2 base (.slice (some ⟨g, 0, none⟩) (outs.length + 1) cap) (outs ++ [x]) ∧ W.grownBy w2 v.ownBlock ∧ base ≤ g ∧ (v.ownBlock = some g ∨ W.heap.size ≤ g) := by
  obtain ⟨i0, hi, hz0, hz1, hz2⟩ := info_parts Try.info9
  obtain ⟨g, cap, w2, hrun, hown2, hgrow, hat, hlt⟩ := run_append_lies (P := Try.prog) (W.alloc (.cells #[sv x] 9)) 23 23 base 9 i0 (.string ⟨#[]⟩) 1 16 Try.underlying23 hi hz0 hz1 hz2 rfl (by decide) v outs.length (outs.map sv) (World.ownsRow.alloc hown _)
    ⟨W.heap.size, 0, none⟩ 1 1 [sv x] rfl (cell_one_new _ _ _) (by simp [Value.oneCell']) (by decide) (by unfold maxLen; omega) (by omega) (by simp; omega) _ rfl
  refine ⟨g, cap, w2, hrun, ?_, ?_, ?_, ?_⟩
  · unfold Ows
    simpa using hown2
  · exact ⟨hgrow.os, hgrow.tape, hgrow.output, Nat.le_trans (by simp) hgrow.size, fun k hk hne => (hgrow.block k (by simp; omega) hne).trans (Below.heap_alloc _ _ _ hk)⟩
  · rcases hown2.2 with ⟨h, _⟩ | ⟨g', c', _, h, hb, _⟩
    · cases h
    · have : g = g' ∧ cap = c' := by simpa using h
      omega
  · rcases hat with h | h
    · exact .inl h
    · right; rw [h]; simp

theorem wpListIn_append_run {F : Fence} {n : Nat} {P : Program} {ops : Array Oper} {rest : List Oper} {o : Oper} {a : Act} {w w' : World} {Q : Exit → Act → World → Prop} {v v' xv : Value}
    (hg : o.guard = none) (s x : Operand) (t : TypeId) (hop : o.op = Op.call { callee := Callee.builtin Builtin.append, args := #[s, x], argTypes := #[t, t] }) (hs : a.eval s = v) (hx : a.eval x = xv)
    (hrun : (Builtin.append_ #[t, t] o.type #[v, xv]).run P w = .ok v' w') (hK : wpListIn F n P ops Q rest (a.put o.dst v') w') : wpListIn F n P ops Q (o :: rest) a w := by
  refine wpListIn_plain hg fun K hK' => ?_
  unfold Oper.wpIn
  refine ⟨?_, ?_⟩
  · simp [Oper.about, hop, resolve, Target.leads, Sem.run_pure]
  · rw [Oper.semAt_plain F _ _ (by rw [hop]; intro c hc'; cases hc')]
    simp [execOp, hop, resolve, invoke, builtin, hs, hx, hrun, Result.andThen]
    exact hK' _ _ hK

theorem wpList_append_run {P : Program} {ops : Array Oper} {rest : List Oper} {o : Oper} {a : Act} {w w' : World} {Q : Exit → Act → World → Prop} {v v' xv : Value}
    (hg : o.guard = none) (s x : Operand) (t : TypeId) (hop : o.op = Op.call { callee := Callee.builtin Builtin.append, args := #[s, x], argTypes := #[t, t] }) (hs : a.eval s = v) (hx : a.eval x = xv)
    (hrun : (Builtin.append_ #[t, t] o.type #[v, xv]).run P w = .ok v' w') (hK : wpList P ops Q rest (a.put o.dst v') w') : wpList P ops Q (o :: rest) a w :=
  wpList_plain hg fun K hK' => by
    unfold Oper.wp execOp
    simp only [hop, resolve, invoke, builtin, Sem.run_bind, Sem.run_pure, Result.andThen_ok, List.map_toArray, List.map_cons, List.map_nil, hs, hx, hrun]
    exact hK' _ _ hK
end Go.Proofs.Ytjbjbbbhcncfnaa
