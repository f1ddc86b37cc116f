/-
  Steps of a walk whose run is known: a look-up, a store into a map, a delete, a copy; a sector out of its block and into it.
-/
import Derived.Lib.BufferWrite
import Derived.StillTailTactics
import Derived.Deep.RegionHeld3
import Derived.Laws.IdiomStrings
import Derived.Test.YthfnncahmccgkaaGreatDoorDDirty
namespace Go.Proofs.YthfnncahmccgkaaGreatDoor
open Go Go.RowKit Go.Maps
set_option maxRecDepth 100000
set_option linter.unusedSimpArgs false
set_option linter.unusedVariables false

section
variable {P : Program} (w : World) {ops : Array Oper} {rest : List Oper} {o : Oper} {a : Act} {Q : Exit → Act → World → Prop}
theorem wpList_lookup_run (hgd : o.guard = none) (m x : Operand) (t : TypeId) (c : Bool) (ho : o.op = .lookup t m x c) (v u : Value) (hd : a.eval m = v) (hs : a.eval x = u) {v' : Value} {w' : World}
    (hr : (Instr.lookup t v u c).run P w = .ok v' w') (h : wpList P ops Q rest (a.put o.dst v') w') : wpList P ops Q (o :: rest) a w :=
  wpList_plain hgd fun _ hK => by
    unfold Oper.wp execOp
    simp only [ho, Sem.run_bind, Sem.run_pure, Result.andThen_ok, hd, hs, hr]
    exact hK _ _ h
theorem wpList_update_run (hgd : o.guard = none) (m x y : Operand) (t : TypeId) (ho : o.op = .mapUpdate t m x y) (v u z : Value) (hd : a.eval m = v) (hs : a.eval x = u) (hy : a.eval y = z) {w' : World}
    (hr : (Instr.mapUpdate t v u z).run P w = .ok () w') (h : wpList P ops Q rest (a.put o.dst undef) w') : wpList P ops Q (o :: rest) a w :=
  wpList_plain hgd fun _ hK => by
    unfold Oper.wp execOp
    simp only [ho, Sem.run_bind, Sem.run_pure, Result.andThen_ok, hd, hs, hy, hr]
    exact hK _ _ h
theorem wpList_builtin2_run (hgd : o.guard = none) (b : Builtin) (f : Array TypeId → TypeId → Array Value → Sem Value) (d s : Operand) (t t' : TypeId)
    (ho : o.op = .call { callee := .builtin b, args := #[d, s], argTypes := #[t, t'] }) (hb : ∀ ty args cs, builtin b #[t, t'] ty cs args = (do pure (.value (← f #[t, t'] ty args)))) (v u : Value) (hd : a.eval d = v) (hs : a.eval s = u) {v' : Value} {w' : World}
    (hr : (f #[t, t'] o.type #[v, u]).run P w = .ok v' w') (h : wpList P ops Q rest (a.put o.dst v') w') : wpList P ops Q (o :: rest) a w :=
  wpList_plain hgd fun _ hK => by
    unfold Oper.wp execOp
    simp only [ho, resolve, invoke, hb, Sem.run_bind, Sem.run_pure, Result.andThen_ok, List.map_toArray, List.map_cons, List.map_nil, hd, hs, hr]
    exact hK _ _ h
theorem wpStill_load_run {K : Act → Prop} (hgd : o.guard = none) (t : TypeId) (x : Operand) (ho : o.op = .load t x) (v : Value) (hd : a.eval x = v) {v' : Value}
    (hr : (Instr.loadAt t v).run P w = .ok v' w) (h : wpStill P ops w K rest (a.put o.dst v')) : wpStill P ops w K (o :: rest) a := by
  unfold wpStill
  rw [if_pos (by simp [Region.wanted, hgd])]
  unfold Oper.still execOp
  simp only [ho, Sem.run_bind, Sem.run_pure, Result.andThen_ok, hd, hr, Oper.stillUpon_value]
  exact h
theorem wpStill_lookup_run {K : Act → Prop} (hgd : o.guard = none) (m x : Operand) (t : TypeId) (c : Bool) (ho : o.op = .lookup t m x c) (v u : Value) (hd : a.eval m = v) (hs : a.eval x = u) {v' : Value}
    (hr : (Instr.lookup t v u c).run P w = .ok v' w) (h : wpStill P ops w K rest (a.put o.dst v')) : wpStill P ops w K (o :: rest) a := by
  unfold wpStill
  rw [if_pos (by simp [Region.wanted, hgd])]
  unfold Oper.still execOp
  simp only [ho, Sem.run_bind, Sem.run_pure, Result.andThen_ok, hd, hs, hr, Oper.stillUpon_value]
  exact h
end
theorem z66 : (Tryz.prog.info? 92).map (·.size) = some 128 := by kernel_rfl
theorem one_b : (Tryz.prog.info? 5).map (·.size) = some 1 := by kernel_rfl
theorem cells_all (l : List UInt8) : (cellsOf l).toArray.all (·.oneCell') = true := by
  rw [Array.all_eq_true']
  intro v hv
  exact cellsOf_one l v (by simpa using hv)

/-- Block g holds the sector l. -/
def SB (w : World) (g : Nat) (l : List UInt8) : Prop := w.heap[g]? = some (.cells (cellsOf l).toArray 92 (0, 0)) ∧ l.length = 128
theorem SB.load {w : World} {g : Nat} {l : List UInt8} (h : SB w g l) : (loadVar 92 ⟨g, 0, none⟩).run Tryz.prog w = .ok (sec l) w :=
  run_loadVar_row w g _ _ _ _ _ h.1 Tryz.underlying92 rfl (by rw [z66]; simp [cellsOf_length, h.2])
theorem SB.loadAt {w : World} {g : Nat} {l : List UInt8} (h : SB w g l) : (Instr.loadAt 92 (.pointer (some ⟨g, 0, none⟩))).run Tryz.prog w = .ok (sec l) w := by
  simp only [Instr.loadAt, Instr.sureAddr, Sem.run_bind, Sem.run_pure, Result.andThen]
  exact h.load
theorem SB.alloc {w : World} {g : Nat} {l : List UInt8} (h : SB w g l) (o : Obj) : SB (w.alloc o) g l := ⟨(Lib.alloc_old w o g (lt_of_blk h.1)).trans h.1, h.2⟩
theorem SB.drew {w : World} {g : Nat} {l : List UInt8} (h : SB w g l) : SB w.drew g l := h
theorem SB.new (w : World) {l : List UInt8} (h : l.length = 128) : SB (w.alloc (.cells (cellsOf l).toArray 92)) w.heap.size l := ⟨heap_alloc_new w _, h⟩
theorem SB.kp {T : List Nat} {w w' : World} {g : Nat} {l : List UInt8} (h : SB w g l) (hk : Kp T w w') (hg : g ∉ T) : SB w' g l := ⟨(hk.block g (lt_of_blk h.1) hg).trans h.1, h.2⟩
theorem SB.below {w w' : World} {g : Nat} {l : List UInt8} (h : SB w g l) (hb : Below w.heap.size w w') : SB w' g l := h.kp (Kp.of_below hb []) (by simp)
theorem SB.set {w : World} {g : Nat} {l m : List UInt8} (h : SB w g l) (hm : m.length = 128) : SB (w.setRow g (cellsOf m).toArray) g m := ⟨setRow_heap w g _ _ _ _ h.1, hm⟩
theorem SB.lt {w : World} {g : Nat} {l : List UInt8} (h : SB w g l) : g < w.heap.size := lt_of_blk h.1
/-- 's[:]', as text. -/
theorem SB.text {w : World} {g : Nat} {l : List UInt8} (h : SB w g l) (cap : Nat) : (convert 44 9 (.slice (some ⟨g, 0, none⟩) 128 cap)).run Tryz.prog w = .ok (sv l) w := by
  have := run_convert_bytes_back (P := Tryz.prog) w 44 9 5 ⟨g, 0, none⟩ cap l Tryz.underlying44 Tryz.underlying5 Tryz.underlying9 (fun j hj => by
    rw [show (⟨g, 0, none⟩ : Addr).add j = ⟨g, j, none⟩ from by unfold Addr.add; split <;> simp_all, cellAt h.1]
    simp [cellsOf, List.getElem?_map, List.getElem?_eq_getElem hj])
  rwa [h.2] at this
theorem byteCells_cells (l : List UInt8) : Lib.byteCells l = cellsOf l := rfl
/-- 'copy(s[:], t)', t a text of as many bytes. -/
theorem SB.fill {w : World} {g : Nat} {l s : List UInt8} (h : SB w g l) (hs : s.length = 128) (ty : TypeId) :
    (Builtin.copy_ #[44, 9] ty #[.slice (some ⟨g, 0, none⟩) 128 128, sv s]).run Tryz.prog w = .ok (goInt 128) (w.setRow g (cellsOf s).toArray) := by
  have hz : (str s).size = 128 := by show s.toArray.size = 128; simpa using hs
  have := Lib.run_copy_row_string (P := Tryz.prog) w 44 9 ty 5 g 0 128 128 (str s) _ _ Tryz.underlying44 one_b h.1 (by omega) (by rw [hz]; simp [cellsOf_length, h.2])
  rw [this, hz]
  have hd : List.drop 128 (cellsOf l) = [] := List.drop_eq_nil_of_le (by simp [cellsOf_length, h.2])
  simp [cellsOf_length, h.2, byteCells_cells, hd]
/-- 'copy(s[:m], t[:])'. -/
theorem SB.part {w : World} {g f : Nat} {l s : List UInt8} (h : SB w g l) (hf : SB w f s) {m : Nat} (hm : m ≤ 128) (c c' : Nat) (ty : TypeId) :
    (Builtin.copy_ #[44, 44] ty #[.slice (some ⟨g, 0, none⟩) m c, .slice (some ⟨f, 0, none⟩) 128 c']).run Tryz.prog w = .ok (goInt m) (w.setRow g (cellsOf (spl m s l)).toArray) := by
  have h1 : ((cellsOf s).take m).length = m := by simp [cellsOf_length, hf.2]; omega
  have := run_copy_row (P := Tryz.prog) w 44 44 ty 5 g 0 m c ⟨f, 0, none⟩ 128 c' _ _ ((cellsOf s).take m) Tryz.underlying44 one_b h.1 (by rw [h1]; exact (Nat.min_eq_right hm).symm) (fun j v hj => by
    rw [show (⟨f, 0, none⟩ : Addr).add j = ⟨f, j, none⟩ from by unfold Addr.add; split <;> simp_all, cellAt hf.1]
    have hj' : j < m := by
      have := (List.getElem?_eq_some_iff.1 hj).1
      rw [h1] at this
      exact this
    rw [List.getElem?_take_of_lt hj'] at hj
    simpa using hj) (by rw [h1]; simp [cellsOf_length, h.2]; omega) (fun v hv => cellsOf_one s v (List.mem_of_mem_take hv))
  rw [this, h1]
  congr 2
  simp [spl, cellsOf, List.map_take, List.map_drop]
theorem spl_len {m : Nat} {s l : List UInt8} (hs : s.length = 128) (hl : l.length = 128) : (spl m s l).length = 128 := spl_length hs hl
end Go.Proofs.YthfnncahmccgkaaGreatDoor
