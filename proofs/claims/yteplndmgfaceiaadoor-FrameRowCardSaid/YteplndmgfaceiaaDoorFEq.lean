/-
  Two stamps, held against each other.
-/
import Derived.ChangeKeysEq
import Derived.Test.YteplndmgfaceiaaDoorFStampB
namespace Go.Proofs.YteplndmgfaceiaaDoor
set_option linter.unusedSimpArgs false
set_option linter.unusedVariables false
open Go Go.RowKit
set_option maxRecDepth 100000

theorem key5 : Tryd.prog.plainKey 5 = true := by kernel_rfl
theorem cells5 : Tryd.prog.cellsOf 5 = 1 := by kernel_rfl
theorem eq_bytes (d : Nat) (a b : UInt8) (w : World) : (Op.equalIn (d + 1) 5 (bv a) (bv b)).run Tryd.prog w = .ok (a == b) w := by
  simp only [Op.equalIn, Sem.run_bind, run_underlying Tryd.underlying5, Result.andThen_ok, bv]
  simp
  rw [Bool.eq_iff_iff, beq_iff_eq, beq_iff_eq, ← UInt8.toNat_inj]
  omega
theorem eqItems_bytes (d : Nat) (A B : List UInt8) (w : World) : ∀ is : List Nat, (∀ i ∈ is, i < A.length ∧ i < B.length) →
    (Op.eqItems (d + 1) 5 1 (cellsOf A).toArray (cellsOf B).toArray is).run Tryd.prog w = .ok (is.all fun i => A.getD i 0 == B.getD i 0) w
  | [], _ => by simp [Op.eqItems]
  | i :: is, h => by
    obtain ⟨h1, h2⟩ := h i (by simp)
    have e1 : (part 5 (cellsOf A).toArray (i * 1)).run Tryd.prog w = .ok (bv (A.getD i 0)) w := run_part_plain w key5 (by simp [cellsOf, List.getD_eq_getElem?_getD, h1])
    have e2 : (part 5 (cellsOf B).toArray (i * 1)).run Tryd.prog w = .ok (bv (B.getD i 0)) w := run_part_plain w key5 (by simp [cellsOf, List.getD_eq_getElem?_getD, h2])
    have ih := eqItems_bytes d A B w is (fun j hj => h j (by simp [hj]))
    simp only [Op.eqItems, Sem.run_bind, e1, e2, eq_bytes, Result.andThen_ok]
    cases hc : A.getD i 0 == B.getD i 0 with
    | true => simp only [Bool.not_true, Bool.false_eq_true, if_false, ih, List.all_cons, hc, Bool.true_and]
    | false => simp only [Bool.not_false, if_true, Sem.run_pure, List.all_cons, hc, Bool.false_and]
theorem eq_stamps {A B : List UInt8} (hA : A.length = 8) (hB : B.length = 8) (w : World) : (Op.equal 51 (arv A) (arv B)).run Tryd.prog w = .ok (A == B) w := by
  obtain ⟨i, hi⟩ := info_of_underlying (P := Tryd.prog) Tryd.underlying5
  have h := run_equalIn_array (P := Tryd.prog) w 9999 (cellsOf A).toArray (cellsOf B).toArray Tryd.underlying51 hi
  rw [cells5] at h
  have h2 := eqItems_bytes 9998 A B w (List.range 8) (fun i hi => by simp at hi; omega)
  have h3 : (List.range 8).all (fun i => A.getD i 0 == B.getD i 0) = (A == B) := by
    rw [Bool.eq_iff_iff, List.all_eq_true, beq_iff_eq]
    constructor
    · intro h
      refine List.ext_getElem (by omega) fun j h1 h2 => ?_
      have := h j (by simp; omega)
      rw [beq_iff_eq, getD_str _ _ h1, getD_str _ _ h2] at this
      exact this
    · rintro rfl; simp
  rw [h3] at h2
  exact h.trans h2
theorem neq_stamps {A B : List UInt8} (hA : A.length = 8) (hB : B.length = 8) (w : World) : (Go.binOp .neq 51 (arv A) (arv B)).run Tryd.prog w = .ok (.bool (A != B)) w := by
  have h := eq_stamps hA hB w
  simp only [Go.binOp, Sem.run_bind, h, Result.andThen_ok, Sem.run_pure]
  rfl
section
variable {P : Program} (w : World) {ops : Array Oper} {rest : List Oper} {o : Oper} {a : Act} {Q : Exit → Act → World → Prop}
theorem wpList_neq_run (hgd : o.guard = none) (t t' : TypeId) (x y : Operand) (ho : o.op = .binOp .neq t x y t') (v u : Value) (hd : a.eval x = v) (hs : a.eval y = u) {v' : Value}
    (hg : (eqGuard .neq t x y v u).run P w = .ok () w) (hr : (Go.binOp .neq t v u).run P w = .ok v' w) (h : wpList P ops Q rest (a.put o.dst v') w) : wpList P ops Q (o :: rest) a w :=
  wpList_plain hgd fun _ hK => by
    unfold Oper.wp execOp
    simp only [ho, Sem.run_bind, Sem.run_pure, Result.andThen_ok, hd, hs, hg, hr]
    exact hK _ _ h
theorem guard_stamps (x y : Operand) (xs ys : Array Value) (w : World) : (eqGuard .neq 51 x y (.agg xs) (.agg ys)).run Tryd.prog w = .ok () w := run_eqGuard_agg w .neq _ x y xs ys (by kernel_rfl)
end
end Go.Proofs.YteplndmgfaceiaaDoor
