/-
  Package frame's stamps: may, age, place, stampOf, ends.
-/
import Derived.Lib.BufferWrite
import Derived.Laws.IdiomStrings
import Derived.Test.YteplndmgfaceiaaDoorFNum
namespace Go.Proofs.YteplndmgfaceiaaDoor
set_option linter.unusedSimpArgs false
set_option linter.unusedVariables false
open Go Go.RowKit
set_option maxRecDepth 100000

section
variable {P : Program} (w : World) {ops : Array Oper} {rest : List Oper} {o : Oper} {a : Act} {Q : Exit → Act → World → Prop}
theorem wpList_builtin2_run (hgd : o.guard = none) (b : Builtin) (f : Array TypeId → TypeId → Array Value → Sem Value) (d s : Operand) (t t' : TypeId)
    (ho : o.op = .call { callee := .builtin b, args := #[d, s], argTypes := #[t, t'] }) (hb : ∀ ty args cs, builtin b #[t, t'] ty cs args = (do pure (.value (← f #[t, t'] ty args)))) (v u : Value) (hd : a.eval d = v) (hs : a.eval s = u) {v' : Value} {w' : World}
    (hr : (f #[t, t'] o.type #[v, u]).run P w = .ok v' w') (h : wpList P ops Q rest (a.put o.dst v') w') : wpList P ops Q (o :: rest) a w :=
  wpList_plain hgd fun _ hK => by
    unfold Oper.wp execOp
    simp only [ho, resolve, invoke, hb, Sem.run_bind, Sem.run_pure, Result.andThen_ok, List.map_toArray, List.map_cons, List.map_nil, hd, hs, hr]
    exact hK _ _ h
end

/-- A stamp, a sector as arrays. -/
abbrev arv (l : List UInt8) : Value := .agg (cellsOf l).toArray
def z8 : List UInt8 := List.replicate 8 0
def z128 : List UInt8 := List.replicate 128 0
def z6 : List UInt8 := List.replicate 6 0
theorem z8_length : z8.length = 8 := by simp [z8]
theorem z128_length : z128.length = 128 := by simp [z128]
theorem z6_length : z6.length = 6 := by simp [z6]
theorem hz8 : ∀ w, (zeroValue 51).run Tryd.prog w = .ok (arv z8) w := (zero_of_info (P := Tryd.prog) (n := 8) (by kernel_rfl)).1
theorem hz128 : ∀ w, (zeroValue 69).run Tryd.prog w = .ok (arv z128) w := (zero_of_info (P := Tryd.prog) (n := 128) (by kernel_rfl)).1
theorem hz6 : ∀ w, (zeroValue 72).run Tryd.prog w = .ok (arv z6) w := (zero_of_info (P := Tryd.prog) (n := 6) (by kernel_rfl)).1
theorem s8 : (Tryd.prog.info? 51).map (·.size) = some 8 := by kernel_rfl
theorem s128 : (Tryd.prog.info? 69).map (·.size) = some 128 := by kernel_rfl
theorem s6 : (Tryd.prog.info? 72).map (·.size) = some 6 := by kernel_rfl
theorem one_b : (Tryd.prog.info? 5).map (·.size) = some 1 := by kernel_rfl
theorem AB.loadS {w : World} {g : Nat} {l : List UInt8} (h : AB w g 51 l) (hl : l.length = 8) : (loadVar 51 ⟨g, 0, none⟩).run Tryd.prog w = .ok (arv l) w :=
  run_loadVar_row w g _ _ _ _ _ h Tryd.underlying51 rfl (by rw [s8]; simp [cellsOf_length, hl])
theorem AB.loadAt {w : World} {g : Nat} {l : List UInt8} (h : AB w g 51 l) (hl : l.length = 8) : (Instr.loadAt 51 (.pointer (some ⟨g, 0, none⟩))).run Tryd.prog w = .ok (arv l) w := by
  simp only [Instr.loadAt, Instr.sureAddr, Sem.run_bind, Sem.run_pure, Result.andThen]
  exact h.loadS hl
theorem store_new8 (W : World) {l m : List UInt8} (hl : l.length = 8) (hm : m.length = 8) : (storeCells ⟨W.heap.size, 0, none⟩ (cellsOf l)).run Tryd.prog (W.alloc (.cells (cellsOf m).toArray 51)) = .ok () (W.alloc (.cells (cellsOf l).toArray 51)) := by
  have := run_storeCells_new (P := Tryd.prog) W 51 (cellsOf m).toArray (cellsOf l).toArray (by rw [s8]; simp [cellsOf_length, hl]) (by simp [cellsOf_length, hl, hm]) (cells_all l)
  simpa using this
theorem store_row8 {W : World} {g : Nat} {m l : List UInt8} (h : AB W g 51 m) (hm : m.length = 8) (hl : l.length = 8) : (storeCells ⟨g, 0, none⟩ (cellsOf l)).run Tryd.prog W = .ok () (W.setRow g (cellsOf l).toArray) := by
  have := run_storeCells_at Tryd.prog g 0 _ (cellsOf l) 0 _ W h (by simp [cellsOf_length, hl, hm]) (cellsOf_one l)
  rw [this]
  congr 2
  have hd : List.drop 8 (cellsOf m) = [] := List.drop_eq_nil_of_le (by simp [cellsOf_length, hm])
  simp [cellsOf_length, hl, hd]
theorem byteCells_cells (l : List UInt8) : Lib.byteCells l = cellsOf l := rfl

set_option maxHeartbeats 1000000 in
theorem may_any (a p : Int) (w : World) : Calls Tryd.prog 24 #[.int .i64 a, .int .i64 p] w fun e w' => e = .returned (.bool (mayB a p)) ∧ w = w' := by
  by_cases h1 : 1 ≤ a
  · by_cases h2 : a ≤ 4294967295
    · by_cases h3 : 0 ≤ p
      · by_cases h4 : p ≤ 1023
        · have h4' : p < 1024 := by omega
          have hm : mayB a p = true := mayB_iff.2 ⟨h1, h2, h3, h4⟩
          rw [hm]
          go_enter Tryd.func24, Tryd.ntmps24
          go_wp2_with fail
          go_ret
          exact ⟨rfl, rfl⟩
        · have h4' : ¬ p < 1024 := by omega
          have hm : mayB a p = false := by simp [mayB, h4]
          rw [hm]
          go_enter Tryd.func24, Tryd.ntmps24
          go_wp2_with fail
          go_ret
          exact ⟨rfl, rfl⟩
      · have hm : mayB a p = false := by simp [mayB, h3]
        rw [hm]
        go_enter Tryd.func24, Tryd.ntmps24
        go_wp2_with fail
        go_ret
        exact ⟨rfl, rfl⟩
    · have hm : mayB a p = false := by simp [mayB, h2]
      rw [hm]
      go_enter Tryd.func24, Tryd.ntmps24
      go_wp2_with fail
      go_ret
      exact ⟨rfl, rfl⟩
  · have hm : mayB a p = false := by simp [mayB, h1]
    rw [hm]
    go_enter Tryd.func24, Tryd.ntmps24
    go_wp2_with fail
    go_ret
    exact ⟨rfl, rfl⟩

theorem getD_take' {l : List UInt8} {k j : Nat} (h : j < k) : (l.take k).getD j 0 = l.getD j 0 := by
  rw [List.getD_eq_getElem?_getD, List.getD_eq_getElem?_getD, List.getElem?_take_of_lt h]
theorem getD_drop' {l : List UInt8} {k j : Nat} : (l.drop k).getD j 0 = l.getD (k + j) 0 := by
  rw [List.getD_eq_getElem?_getD, List.getD_eq_getElem?_getD, List.getElem?_drop]

set_option maxHeartbeats 1000000 in
theorem age_any {w : World} {s : List UInt8} (hs : s.length = 8) : Calls Tryd.prog 29 #[arv s] w fun e w' => e = .returned (.int .i64 (ageN s)) ∧ Below w.heap.size w w' := by
  have hcl : (cellsOf s).length = 8 := by rw [cellsOf_length, hs]
  have HB := Lib.hid (AB.new w 51 s)
  have HL := Lib.hid (below_alloc w (.cells (cellsOf s).toArray 51))
  have h4 : (s.take 4).length = 4 := by simp; omega
  go_enter Tryd.func29, Tryd.ntmps29
  go_wp2_with (go_at_call 40; refine (h4 ▸ number_any (s.take 4) (by omega) _ 0 _ (fun j hj => by rw [getD_take' (by omega), Nat.zero_add]; exact HB.out.cell (by omega))).mono ?_; rintro e w1 ⟨rfl, rfl⟩)
  go_ret
  exact ⟨rfl, HL.out⟩
set_option maxHeartbeats 1000000 in
theorem place_any {w : World} {s : List UInt8} (hs : s.length = 8) : Calls Tryd.prog 30 #[arv s] w fun e w' => e = .returned (.int .i64 (plN s)) ∧ Below w.heap.size w w' := by
  have hcl : (cellsOf s).length = 8 := by rw [cellsOf_length, hs]
  have HB := Lib.hid (AB.new w 51 s)
  have HL := Lib.hid (below_alloc w (.cells (cellsOf s).toArray 51))
  have h4 : ((s.drop 4).take 4).length = 4 := by simp; omega
  go_enter Tryd.func30, Tryd.ntmps30
  go_wp2_with (go_at_call 40; refine (h4 ▸ number_any ((s.drop 4).take 4) (by omega) _ 4 _ (fun j hj => by rw [getD_take' (by omega), getD_drop']; exact HB.out.cell (by omega))).mono ?_; rintro e w1 ⟨rfl, rfl⟩)
  go_ret
  exact ⟨rfl, HL.out⟩
end Go.Proofs.YteplndmgfaceiaaDoor
