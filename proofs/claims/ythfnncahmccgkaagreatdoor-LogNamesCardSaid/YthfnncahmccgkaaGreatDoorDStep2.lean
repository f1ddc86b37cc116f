/-
  The laws' step.
-/
import Derived.Test.YthfnncahmccgkaaGreatDoorDWkM
namespace Go.Proofs.YthfnncahmccgkaaGreatDoor
open Go Go.RowKit Go.Maps
set_option maxRecDepth 100000
set_option linter.unusedSimpArgs false
set_option linter.unusedVariables false

section
variable {P : Program} (w : World) {o : Oper} {a : Act}
theorem exec_load1 {t : TypeId} {x : Operand} (ho : o.op = .load t x) {b i : Nat} (hd : a.eval x = .pointer (some ⟨b, i, none⟩)) {v : Value} (hc : w.cell? ⟨b, i, none⟩ = some v) {d : TypeDesc} (hu : P.underlying t = some d) (hn : (match d with | .struct _ | .array _ _ => true | _ => false) = false) :
    (execOp a.eval o).run P w = .ok (.value v) w := by
  unfold execOp
  have hagg : (isAgg t).run P w = .ok false w := by
    unfold isAgg
    rw [Sem.run_bind, run_underlying hu w]
    cases d <;> simp_all
  simp [ho, hd, Instr.loadAt, Instr.sureAddr, loadVar, hagg, run_load, hc]
theorem exec_load_row {t : TypeId} {x : Operand} (ho : o.op = .load t x) {b : Nat} (hd : a.eval x = .pointer (some ⟨b, 0, none⟩)) {cs : Array Value} {ty : TypeId} {fr : Nat × Nat} (hc : w.heap[b]? = some (.cells cs ty fr)) {d : TypeDesc} (hu : P.underlying t = some d) (hn : (match d with | .struct _ | .array _ _ => true | _ => false) = true)
    (hi : (P.info? t).map (·.size) = some cs.size) : (execOp a.eval o).run P w = .ok (.value (.agg cs)) w := by
  unfold execOp
  simp [ho, hd, Instr.loadAt, Instr.sureAddr, run_loadVar_row w b ty t cs fr d hc hu hn hi]
end
def stC (s : SD) : Array Value := #[.int .u8 (s.wh.toNat : Int), .int .i64 s.a, .int .u8 (s.y.toNat : Int), .int .i64 s.odd, .slice s.kA s.keep.length s.kc]
/-- What a step does. -/
def DS.step (S : DS) (s : SD) : DS :=
  if s.wh = 0 then S.wr s.a (stB s.odd s.y) else if s.wh = 1 then S.sync else if s.wh = 2 then S.fail s.a else if s.wh = 3 then S.boot s.keep else S

theorem u8_ne {x y : UInt8} (h : x ≠ y) : ((x.toNat : Int) == (y.toNat : Int)) = false := by
  rw [beq_eq_false_iff_ne]
  intro e
  exact h (UInt8.toNat_inj.1 (by omega))

end Go.Proofs.YthfnncahmccgkaaGreatDoor

