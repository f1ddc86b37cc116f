/-
  (*Disk).Dirty: the dirty sectors, rising, in a row of the call's own.
  Steps of a walk whose run is known: a look-up, a store into a map, a delete, a copy; a sector out of its block and into it.
  New, Write and Read of the program's disk.
-/
import Derived.Test.YthfnncahmccgkaaGreatDoorDShelf
import Derived.Test.YthfnncahmccgkaaGreatDoorDProg
import Derived.Lib.BufferWrite
import Derived.StillTailTactics
import Derived.Deep.RegionHeld3
import Derived.Laws.IdiomStrings
namespace Go.Proofs.YthfnncahmccgkaaGreatDoor
open Go Go.RowKit Go.Maps Go.Sort Go.Shelf
set_option maxRecDepth 100000
set_option linter.unusedSimpArgs false
set_option linter.unusedVariables false

/-- The dirty sectors' numbers. -/
def dL (wet : List Bool) : List Int := (dirtyL wet).map (fun i : Nat => (i : Int))
theorem dL_length (wet : List Bool) : (dL wet).length = (dirtyL wet).length := by simp [dL]
theorem dL_sorted (wet : List Bool) : (dL wet).Pairwise (fun a b => a < b) := by
  unfold dL dirtyL
  rw [List.pairwise_map]
  have : (List.range wet.length).Pairwise (fun a b => a < b) := List.pairwise_lt_range
  exact (this.filter _).imp (fun h => by omega)
theorem dL_mergeSort {ss : List Int} {wet : List Bool} (h : ss.Perm (dL wet)) : ss.mergeSort (fun x y => decide (x ≤ y)) = dL wet := by
  have tr : ∀ a b c : Int, leI a b = true → leI b c = true → leI a c = true := fun a b c h1 h2 => by simp only [leI, decide_eq_true_eq] at *; exact Int.le_trans h1 h2
  have to : ∀ a b : Int, (leI a b || leI b a) = true := fun a b => by simp only [leI, Bool.or_eq_true, decide_eq_true_eq]; exact Int.le_total a b
  refine List.Perm.eq_of_pairwise (le := fun a b => leI a b = true) (fun a b _ _ h1 h2 => ?_) (List.pairwise_mergeSort tr to ss) ((dL_sorted wet).imp (fun h => by simp [leI]; omega)) ((List.mergeSort_perm ss leI).trans h)
  simp only [leI, decide_eq_true_eq] at h1 h2
  exact Int.le_antisymm h1 h2
theorem dirF_some {S : DS} (h : S.Ok) (k : Int) : (dirF S k).isSome = true ↔ k ∈ dL S.wet := by
  unfold dirF dL
  rw [List.mem_map]
  constructor
  · intro hk
    split at hk
    · rename_i hc
      exact ⟨k.toNat, mem_dirtyL.2 ⟨by rw [h.hw]; omega, hc.2.2⟩, by omega⟩
    · cases hk
  · rintro ⟨i, hi, rfl⟩
    obtain ⟨h1, h2⟩ := mem_dirtyL.1 hi
    rw [h.hw] at h1
    rw [if_pos ⟨by omega, by omega, by simpa using h2⟩]
    rfl

set_option maxHeartbeats 1000000 in
theorem dirty_any {w : World} {p bl bd : Nat} {S : DS} (h : PD w p bl bd S) : Calls Tryz.prog 44 #[dp p] w fun e w' =>
    ∃ v, e = .returned v ∧ w'.ownsRow w.heap.size 3 1 v (dL S.wet).length ((dL S.wet).map encZ) ∧ Below w.heap.size w w' := by
  obtain ⟨c0, c1, c2, c3, c4, c5⟩ := h.cells
  have hok := h.ok
  obtain ⟨D, hown, hD, hK⟩ := h.dir
  have hkm := MP.keys_mem hown
  have hperm : (intKeys D).Perm (dL S.wet) := by
    refine (List.perm_ext_iff_of_nodup hkm.1 ((dL_sorted S.wet).imp (fun h => by omega))).2 fun k => ?_
    rw [hkm.2, mp_has hD, dirF_some hok]
  have hsz : Maps.size D ≤ 1024 := hown.size_le
  have hbl := hown.lt
  refine (callsIn_wide (n := 6)).1 ?_
  have hseq : SeqGives Fence.wide 2 Tryz.prog 91 #[.pointer (some ⟨w.heap.size, 0, none⟩)] encZ (fun ss => ss.Perm (intKeys D)) (Maps.size D) (w.alloc (.cells #[.map (some bd)] 85)) :=
    AnyZI.keys_gives (ρ := Tryz.keysA_ren) { Tryz.keysA with } Fence.wide _ trivial rfl (by omega) w.heap.size bd 1024 D _ (by simp) (by simp) (by
      obtain ⟨es, clock, hb, Ft, hs, hD⟩ := hown
      exact ⟨es, clock, (Below.heap_alloc _ _ bd hbl).trans hb, Ft, hs, hD⟩)
  have cK : ∀ mb W, CallsIn Fence.wide 5 Tryz.prog 68 #[.map mb] W fun e w' => e = .returned (.func (.func 91) #[] #[.pointer (some ⟨W.heap.size, 0, none⟩)]) ∧ w' = W.alloc (.cells #[.map mb] 85) := fun mb W => AnyZI.keys_in Tryz.keysA Fence.wide 5 trivial rfl mb W
  have cS := AnyZI.sorted_in Tryz.sortedA Fence.wide 5 trivial trivial trivial trivial rfl (by omega) (sortsA _) (enters_of Tryz.func90 (by kernel_rfl) rfl) 91 #[.pointer (some ⟨w.heap.size, 0, none⟩)] trivial (enters_of Tryz.func91 (by kernel_rfl) rfl) _ _ (by unfold maxLen; omega) (by omega) _ hseq
  change CallsIn _ _ Tryz.prog 67 _ _ _ at cS
  have hfK : Fence.wide.fn 68 := trivial
  have hfS : Fence.wide.fn 67 := trivial
  have HP := Lib.hid hperm
  clear hperm hkm hK hD hok h hsz
  refine callsIn_of_wp Tryz.func44 rfl trivial ?_ rfl
  simp only [Tryz.ntmps44, List.size_toArray, List.length_cons, List.length_nil, Nat.reduceAdd, Nat.reduceSub, Array.replicate_succ, Array.replicate_zero, List.push_toArray, List.append_toArray, List.nil_append, List.cons_append]
  gi_wp2_with (first
    | (gi_at_call 68; refine (cK _ _).mono ?_; rintro e w' ⟨rfl, rfl⟩)
    | (gi_at_call 67; refine cS.mono ?_; rintro e w' ⟨v, ss, rfl, hS, hrow, hnil, hb⟩))
  go_ret
  have hl := hS.length_eq
  have h2 := hS.trans HP.out
  rw [dL_mergeSort h2, h2.length_eq] at hrow
  exact ⟨v, rfl, ownsRow_base_a hrow (by simp), ((Below.refl _ w).alloc (Nat.le_refl _) _).trans (hb.mono (by simp))⟩
end Go.Proofs.YthfnncahmccgkaaGreatDoor

namespace Go.Proofs.YthfnncahmccgkaaGreatDoor
open Go Go.RowKit Go.Maps
set_option maxRecDepth 100000
set_option linter.unusedSimpArgs false
set_option linter.unusedVariables false

section
variable {P : Program} (w : World) {ops : Array Oper} {rest : List Oper} {o : Oper} {a : Act} {Q : Exit → Act → World → Prop}
theorem wpList_lookup_run (hgd : o.guard = none) (m x : Operand) (t : TypeId) (c : Bool) (ho : o.op = .lookup t m x c) (v u : Value) (hd : a.eval m = v) (hs : a.eval x = u) {v' : Value} {w' : World}
    (hr : (Instr.lookup t v u c).run P w = .ok v' w') (h : wpList P ops Q rest (a.put o.dst v') w') : wpList P ops Q (o :: rest) a w :=
  wpList_plain hgd fun _ hK => by
    unfold Oper.wp execOp
    simp only [ho, Sem.run_bind, Sem.run_pure, Result.andThen_ok, hd, hs, hr]
    exact hK _ _ h
theorem wpList_update_run (hgd : o.guard = none) (m x y : Operand) (t : TypeId) (ho : o.op = .mapUpdate t m x y) (v u z : Value) (hd : a.eval m = v) (hs : a.eval x = u) (hy : a.eval y = z) {w' : World}
    (hr : (Instr.mapUpdate t v u z).run P w = .ok () w') (h : wpList P ops Q rest (a.put o.dst undef) w') : wpList P ops Q (o :: rest) a w :=
  wpList_plain hgd fun _ hK => by
    unfold Oper.wp execOp
    simp only [ho, Sem.run_bind, Sem.run_pure, Result.andThen_ok, hd, hs, hy, hr]
    exact hK _ _ h
theorem wpList_builtin2_run (hgd : o.guard = none) (b : Builtin) (f : Array TypeId → TypeId → Array Value → Sem Value) (d s : Operand) (t t' : TypeId)
    (ho : o.op = .call { callee := .builtin b, args := #[d, s], argTypes := #[t, t'] }) (hb : ∀ ty args cs, builtin b #[t, t'] ty cs args = (do pure (.value (← f #[t, t'] ty args)))) (v u : Value) (hd : a.eval d = v) (hs : a.eval s = u) {v' : Value} {w' : World}
    (hr : (f #[t, t'] o.type #[v, u]).run P w = .ok v' w') (h : wpList P ops Q rest (a.put o.dst v') w') : wpList P ops Q (o :: rest) a w :=
  wpList_plain hgd fun _ hK => by
    unfold Oper.wp execOp
    simp only [ho, resolve, invoke, hb, Sem.run_bind, Sem.run_pure, Result.andThen_ok, List.map_toArray, List.map_cons, List.map_nil, hd, hs, hr]
    exact hK _ _ h
theorem wpStill_load_run {K : Act → Prop} (hgd : o.guard = none) (t : TypeId) (x : Operand) (ho : o.op = .load t x) (v : Value) (hd : a.eval x = v) {v' : Value}
    (hr : (Instr.loadAt t v).run P w = .ok v' w) (h : wpStill P ops w K rest (a.put o.dst v')) : wpStill P ops w K (o :: rest) a := by
  unfold wpStill
  rw [if_pos (by simp [Region.wanted, hgd])]
  unfold Oper.still execOp
  simp only [ho, Sem.run_bind, Sem.run_pure, Result.andThen_ok, hd, hr, Oper.stillUpon_value]
  exact h
theorem wpStill_lookup_run {K : Act → Prop} (hgd : o.guard = none) (m x : Operand) (t : TypeId) (c : Bool) (ho : o.op = .lookup t m x c) (v u : Value) (hd : a.eval m = v) (hs : a.eval x = u) {v' : Value}
    (hr : (Instr.lookup t v u c).run P w = .ok v' w) (h : wpStill P ops w K rest (a.put o.dst v')) : wpStill P ops w K (o :: rest) a := by
  unfold wpStill
  rw [if_pos (by simp [Region.wanted, hgd])]
  unfold Oper.still execOp
  simp only [ho, Sem.run_bind, Sem.run_pure, Result.andThen_ok, hd, hs, hr, Oper.stillUpon_value]
  exact h
end
theorem z66 : (Tryz.prog.info? 92).map (·.size) = some 128 := by kernel_rfl
theorem one_b : (Tryz.prog.info? 5).map (·.size) = some 1 := by kernel_rfl
theorem cells_all (l : List UInt8) : (cellsOf l).toArray.all (·.oneCell') = true := by
  rw [Array.all_eq_true']
  intro v hv
  exact cellsOf_one l v (by simpa using hv)

/-- Block g holds the sector l. -/
def SB (w : World) (g : Nat) (l : List UInt8) : Prop := w.heap[g]? = some (.cells (cellsOf l).toArray 92 (0, 0)) ∧ l.length = 128
theorem SB.load {w : World} {g : Nat} {l : List UInt8} (h : SB w g l) : (loadVar 92 ⟨g, 0, none⟩).run Tryz.prog w = .ok (sec l) w :=
  run_loadVar_row w g _ _ _ _ _ h.1 Tryz.underlying92 rfl (by rw [z66]; simp [cellsOf_length, h.2])
theorem SB.loadAt {w : World} {g : Nat} {l : List UInt8} (h : SB w g l) : (Instr.loadAt 92 (.pointer (some ⟨g, 0, none⟩))).run Tryz.prog w = .ok (sec l) w := by
  simp only [Instr.loadAt, Instr.sureAddr, Sem.run_bind, Sem.run_pure, Result.andThen]
  exact h.load
theorem SB.alloc {w : World} {g : Nat} {l : List UInt8} (h : SB w g l) (o : Obj) : SB (w.alloc o) g l := ⟨(Lib.alloc_old w o g (lt_of_blk h.1)).trans h.1, h.2⟩
theorem SB.drew {w : World} {g : Nat} {l : List UInt8} (h : SB w g l) : SB w.drew g l := h
theorem SB.new (w : World) {l : List UInt8} (h : l.length = 128) : SB (w.alloc (.cells (cellsOf l).toArray 92)) w.heap.size l := ⟨heap_alloc_new w _, h⟩
theorem SB.kp {T : List Nat} {w w' : World} {g : Nat} {l : List UInt8} (h : SB w g l) (hk : Kp T w w') (hg : g ∉ T) : SB w' g l := ⟨(hk.block g (lt_of_blk h.1) hg).trans h.1, h.2⟩
theorem SB.below {w w' : World} {g : Nat} {l : List UInt8} (h : SB w g l) (hb : Below w.heap.size w w') : SB w' g l := h.kp (Kp.of_below hb []) (by simp)
theorem SB.set {w : World} {g : Nat} {l m : List UInt8} (h : SB w g l) (hm : m.length = 128) : SB (w.setRow g (cellsOf m).toArray) g m := ⟨setRow_heap w g _ _ _ _ h.1, hm⟩
theorem SB.lt {w : World} {g : Nat} {l : List UInt8} (h : SB w g l) : g < w.heap.size := lt_of_blk h.1
/-- 's[:]', as text. -/
theorem SB.text {w : World} {g : Nat} {l : List UInt8} (h : SB w g l) (cap : Nat) : (convert 44 9 (.slice (some ⟨g, 0, none⟩) 128 cap)).run Tryz.prog w = .ok (sv l) w := by
  have := run_convert_bytes_back (P := Tryz.prog) w 44 9 5 ⟨g, 0, none⟩ cap l Tryz.underlying44 Tryz.underlying5 Tryz.underlying9 (fun j hj => by
    rw [show (⟨g, 0, none⟩ : Addr).add j = ⟨g, j, none⟩ from by unfold Addr.add; split <;> simp_all, cellAt h.1]
    simp [cellsOf, List.getElem?_map, List.getElem?_eq_getElem hj])
  rwa [h.2] at this
theorem byteCells_cells (l : List UInt8) : Lib.byteCells l = cellsOf l := rfl
/-- 'copy(s[:], t)', t a text of as many bytes. -/
theorem SB.fill {w : World} {g : Nat} {l s : List UInt8} (h : SB w g l) (hs : s.length = 128) (ty : TypeId) :
    (Builtin.copy_ #[44, 9] ty #[.slice (some ⟨g, 0, none⟩) 128 128, sv s]).run Tryz.prog w = .ok (goInt 128) (w.setRow g (cellsOf s).toArray) := by
  have hz : (str s).size = 128 := by show s.toArray.size = 128; simpa using hs
  have := Lib.run_copy_row_string (P := Tryz.prog) w 44 9 ty 5 g 0 128 128 (str s) _ _ Tryz.underlying44 one_b h.1 (by omega) (by rw [hz]; simp [cellsOf_length, h.2])
  rw [this, hz]
  have hd : List.drop 128 (cellsOf l) = [] := List.drop_eq_nil_of_le (by simp [cellsOf_length, h.2])
  simp [cellsOf_length, h.2, byteCells_cells, hd]
/-- 'copy(s[:m], t[:])'. -/
theorem SB.part {w : World} {g f : Nat} {l s : List UInt8} (h : SB w g l) (hf : SB w f s) {m : Nat} (hm : m ≤ 128) (c c' : Nat) (ty : TypeId) :
    (Builtin.copy_ #[44, 44] ty #[.slice (some ⟨g, 0, none⟩) m c, .slice (some ⟨f, 0, none⟩) 128 c']).run Tryz.prog w = .ok (goInt m) (w.setRow g (cellsOf (spl m s l)).toArray) := by
  have h1 : ((cellsOf s).take m).length = m := by simp [cellsOf_length, hf.2]; omega
  have := run_copy_row (P := Tryz.prog) w 44 44 ty 5 g 0 m c ⟨f, 0, none⟩ 128 c' _ _ ((cellsOf s).take m) Tryz.underlying44 one_b h.1 (by rw [h1]; exact (Nat.min_eq_right hm).symm) (fun j v hj => by
    rw [show (⟨f, 0, none⟩ : Addr).add j = ⟨f, j, none⟩ from by unfold Addr.add; split <;> simp_all, cellAt hf.1]
    have hj' : j < m := by
      have := (List.getElem?_eq_some_iff.1 hj).1
      rw [h1] at this
      exact this
    rw [List.getElem?_take_of_lt hj'] at hj
    simpa using hj) (by rw [h1]; simp [cellsOf_length, h.2]; omega) (fun v hv => cellsOf_one s v (List.mem_of_mem_take hv))
  rw [this, h1]
  congr 2
  simp [spl, cellsOf, List.map_take, List.map_drop]
theorem spl_len {m : Nat} {s l : List UInt8} (hs : s.length = 128) (hl : l.length = 128) : (spl m s l).length = 128 := spl_length hs hl
end Go.Proofs.YthfnncahmccgkaaGreatDoor

namespace Go.Proofs.YthfnncahmccgkaaGreatDoor
open Go Go.RowKit Go.Maps
set_option maxRecDepth 100000
set_option linter.unusedSimpArgs false
set_option linter.unusedVariables false

theorem dirF_new (n : Nat) : dirF (DS.new n) = fun _ => none := by
  funext k
  unfold dirF
  rw [if_neg]
  rintro ⟨_, _, h⟩
  simp only [DS.new] at h
  rw [List.getD_eq_getElem?_getD, List.getElem?_replicate] at h
  split at h <;> cases h
theorem LasF_new (n : Nat) : LasF (DS.new n) (fun _ => none) := by
  intro k
  refine ⟨fun hk => ?_, fun _ => rfl⟩
  simp only [DS.new, List.length_replicate] at hk ⊢
  rw [List.getD_eq_getElem?_getD, List.getElem?_replicate, if_pos (by omega)]
  rfl

set_option maxHeartbeats 1000000 in
/-- New, at a number of sectors that may be. -/
theorem new_any {w : World} {n : Nat} (h1 : 1 ≤ n) (h2 : n ≤ 1024) : Calls Tryz.prog 14 #[.int .i64 (n : Int)] w fun e w' => ∃ p bl bd, e = .returned (.tuple #[dp p, .int .i64 0]) ∧ PD w' p bl bd (DS.new n) ∧ Below w.heap.size w w' ∧ w.heap.size ≤ p ∧ w.heap.size ≤ bl ∧ w.heap.size ≤ bd := by
  have hmm := @run_makeMap Tryz.prog
  go_enter Tryz.func14, Tryz.ntmps14
  go_wp2
  go_ret2
  refine ⟨w.heap.size + 1 + 1, w.heap.size, w.heap.size + 1, rfl, ?_, (((Below.refl _ _).alloc (Nat.le_refl _) _).alloc (by simp) _).alloc (by simp only [World.size_alloc]; omega) _, by show w.heap.size ≤ w.heap.size + 1 + 1; omega, Nat.le_refl _, by show w.heap.size ≤ w.heap.size + 1; omega⟩
  have hz1 : (w.alloc (.map #[] 0)).heap.size = w.heap.size + 1 := by simp
  have hz2 : ((w.alloc (.map #[] 0)).alloc (.map #[] 0)).heap.size = w.heap.size + 1 + 1 := by simp
  refine ⟨DS.Ok.new h1 h2, ?_, ⟨_, ?_, LasF_new n⟩, ?_, by omega⟩
  · have := heap_alloc_new ((w.alloc (.map #[] 0)).alloc (.map #[] 0)) (.cells #[.int .i64 (n : Int), .map (some w.heap.size), .map (some (w.heap.size + 1)), .int .i64 0, .int .i64 0, .bool false] 87)
    rw [hz2] at this
    simpa [dCells, DS.new] using this
  · refine (MP.made w).of_block ?_
    rw [Below.heap_alloc _ _ _ (by rw [hz2]; omega), Below.heap_alloc _ _ _ (by rw [hz1]; omega)]
  · rw [dirF_new]
    have := MP.made (w.alloc (.map #[] 0))
    rw [hz1] at this
    exact this.of_block (Below.heap_alloc _ _ _ (by rw [hz2]; omega))
/-- New, at another number. -/
theorem new_none {w : World} {n : Int} (h : n < 1 ∨ 1024 < n) : Calls Tryz.prog 14 #[.int .i64 n] w fun e w' => e = .returned (.tuple #[.pointer none, .int .i64 1]) ∧ Below w.heap.size w w' := by
  go_enter Tryz.func14, Tryz.ntmps14
  by_cases h1 : n < 1
  · go_wp2
    go_ret2
    exact ⟨rfl, Below.refl _ _⟩
  · have h2 : 1024 < n := by omega
    go_wp2
    go_ret2
    exact ⟨rfl, Below.refl _ _⟩

theorem dirF_put {S : DS} (h : S.Ok) {i : Nat} (hi : i < S.was.length) (s : List UInt8) : dirF (S.put i s) = upd (dirF S) i (some s) := by
  funext k
  unfold dirF upd
  simp only [DS.put, getD_set]
  have h3 := h.hn
  have h4 := h.hw
  by_cases hk : k = i
  · subst hk
    simp [hi, h3, h4]
  · rw [if_neg hk]
    by_cases hk0 : 0 ≤ k
    · have hne : ¬ i = k.toNat := by omega
      simp [hne]
    · simp [hk0]

theorem SB.fill_new (w : World) {s : List UInt8} (hs : s.length = 128) (ty : TypeId) :
    (Builtin.copy_ #[44, 9] ty #[.slice (some ⟨w.heap.size, 0, none⟩) 128 128, sv s]).run Tryz.prog (w.alloc (.cells (cellsOf zrL).toArray 92)) = .ok (goInt 128) (w.alloc (.cells (cellsOf s).toArray 92)) := by
  rw [SB.fill (SB.new w zrL_length) hs, World.setRow_alloc_new]
set_option maxHeartbeats 2000000 in
theorem write_any {w : World} {p bl bd : Nat} {S : DS} (h : PD w p bl bd S) (hops : S.ops < 4611686018427387904) (a : Int) (s : List UInt8) (hsl : s.length ≤ 140737488355328) :
    Calls Tryz.prog 57 #[dp p, .int .i64 a, sv s] w fun e w' => e = .returned (.int .i64 (S.wrE a s)) ∧ PD w' p bl bd (S.wr a s) ∧ Kp [p, bl, bd] w w' := by
  obtain ⟨c0, c1, c2, c3, c4, c5⟩ := h.cells
  have HAS := fun W hW => has_any (w := W) (p := p) (bl := bl) (bd := bd) (S := S) hW a
  have HH := Lib.hid h
  have hz := hz66
  have hlen : (str s).size = s.length := by show s.toArray.size = _; simp
  clear h
  go_enter Tryz.func57, Tryz.ntmps57
  cases hoff : S.off with
  | true =>
    rw [hoff] at c5
    go_wp2_with fail
    go_ret
    exact ⟨by simp [DS.wrE, hoff], by simp only [DS.wr, DS.wrE, hoff]; exact HH.out, Kp.refl _ _⟩
  | false =>
    rw [hoff] at c5
    cases hha : S.has a with
    | false =>
      rw [hha] at HAS
      go_wp2_with (go_at_call 77; refine (HAS _ HH.out).mono ?_; rintro e w1 ⟨rfl, hb1⟩)
      go_ret
      exact ⟨by simp [DS.wrE, hoff, hha], by simp only [DS.wr, DS.wrE, hoff, hha]; exact HH.out.below hb1, Kp.of_below hb1 _⟩
    | true =>
      rw [hha] at HAS
      by_cases hs : s.length = 128
      · rw [hs] at hlen
        have hcp := fun W : World => SB.fill_new W hs 3
        go_wp2_with (first
          | (go_at_call 77; refine (HAS _ HH.out).mono ?_; rintro e w1 ⟨rfl, hb1⟩))
        clear hcp
        have hP1 := HH.out.below hb1
        have hP2 := hP1.below ((Below.refl _ w1).alloc (Nat.le_refl _) (.cells (cellsOf s).toArray 92))
        have hS2 := SB.new w1 hs
        obtain ⟨d0, d1, d2, d3, d4, d5⟩ := hP2.cells
        have HX : Kp [p, bl, bd] w (w1.alloc (.cells (cellsOf s).toArray 92)) := (Kp.of_below hb1 _).alloc _
        generalize hw2 : w1.alloc (.cells (cellsOf s).toArray 92) = w2 at hP2 hS2 d0 d1 d2 d3 d4 d5 HX ⊢
        have HP2 := Lib.hid hP2
        have HS2 := Lib.hid hS2
        have HXK := Lib.hid HX
        have ld := hS2.loadAt
        have ld' := hS2.load
        generalize w1.heap.size = g at hS2 HS2 ld ld' ⊢
        clear hw2 hP1 hP2 hS2 HX hb1 HAS c0 c1 c2 c3 c4 c5 hz
        go_still_tail 6, (by kernel_rfl)
        refine wpStill_load_run w2.drew rfl _ _ rfl (.pointer (some ⟨g, 0, none⟩)) rfl HS2.out.drew.loadAt ?_
        refine wpStill_nil ?_
        change wpList _ _ _ _ _ w2.drew
        obtain ⟨hh1, hh2⟩ := DS.has_iff.1 hha
        have hP2 := HP2.out
        have hok := hP2.ok
        obtain ⟨w3, hup, hm3, ht3⟩ := MP.store (w := w2.drew) (F := dirF S) (hP2.dir.of_block rfl) hh1 (by have := hok.n2; omega) hs
        refine wpList_update_run _ rfl _ _ _ _ rfl _ _ _ rfl rfl rfl hup ?_
        have ha : ((a.toNat : Nat) : Int) = a := by omega
        have hP3 : PD w3 p bl bd (S.put a.toNat s) := by
          have hk3 : Kp [bd] w2 w3 := (Kp.refl _ _).drew.map ht3 (.inl (by simp))
          obtain ⟨F, hF, hl⟩ := hP2.las
          refine ⟨hok.put (by omega) hs, (hk3.block p hP2.lt.1 (by simp; exact hP2.ne_d)).trans hP2.blk, ⟨F, hF.kp hk3 (by simp; exact hP2.ne), hl⟩, ?_, hP2.ne⟩
          rw [dirF_put hok (by omega), ha]
          exact hm3
        have HP3 := Lib.hid hP3
        have HK3 := Lib.hid (show Kp [p, bl, bd] w w3 from HXK.out.drew.map ht3 (.inl (by simp)))
        clear hP3 hup hm3 ht3 hP2 ld ld' d0 d1 d2 d3 d4 d5
        go_wp2_with (go_at_call 60; refine (done_any HP3.out hops).mono ?_; rintro e w4 ⟨rfl, hP4, hk4⟩)
        go_ret
        have he : S.wrE a s = 0 := by simp [DS.wrE, hoff, hha, hs]
        refine ⟨by rw [he]; rfl, ?_, HK3.out.trans hk4 (fun k hk _ => by simp at hk; simp [hk])⟩
        unfold DS.wr
        rw [if_pos he]
        exact hP4
      · have hs2 : ((str s).size : Int) ≠ 128 := by rw [hlen]; omega
        go_wp2_with (go_at_call 77; refine (HAS _ HH.out).mono ?_; rintro e w1 ⟨rfl, hb1⟩)
        go_ret
        exact ⟨by simp [DS.wrE, hoff, hha, hs], by simp only [DS.wr, DS.wrE, hoff, hha]; simp [hs]; exact HH.out.below hb1, Kp.of_below hb1 _⟩
end Go.Proofs.YthfnncahmccgkaaGreatDoor
