/-
  Numbers, and a row of steps, that came in, opened.
-/
import Derived.Deep.Slices
import Derived.Deep.Fields
import Derived.ChangeSame
import Derived.ChangeArms
import Derived.Carry
import Derived.ProofKit
import Derived.Test.YtechpecnanodfaaDSteps
namespace Go.Proofs.Ytechpecnanodfaa
open Go Go.RowKit Go.WideShapes Go.ChangeShapes Go.ChangeAt
set_option maxRecDepth 100000
set_option linter.unusedSimpArgs false
set_option linter.unusedVariables false

theorem Try.laidOutB : laidOutB Try.prog = true := by kernel_rfl
theorem cells_step : Try.prog.cellsOf 48 = 5 := by kernel_rfl
theorem cells_int : Try.prog.cellsOf 3 = 1 := by kernel_rfl
theorem cells_byte : Try.prog.cellsOf 5 = 1 := by kernel_rfl
theorem cells_ints : Try.prog.cellsOf 33 = 1 := by kernel_rfl

theorem bounds_of_wf {a : Int} (h : (Lit.int .i64 a).wf = true) : -9223372036854775808 ≤ a ∧ a ≤ 9223372036854775807 := by
  simp only [Lit.wf, IntKind.min, IntKind.max, IntKind.signed, IntKind.bits, Bool.and_eq_true, decide_eq_true_eq, if_true] at h
  omega
theorem byte_of_wf {a : Int} (h : (Lit.int .u8 a).wf = true) : ∃ b : UInt8, a = (b.toNat : Int) := by
  simp only [Lit.wf, IntKind.min, IntKind.max, IntKind.signed, IntKind.bits, Bool.and_eq_true, decide_eq_true_eq, Bool.false_eq_true, if_false] at h
  refine ⟨UInt8.ofNat a.toNat, ?_⟩
  have : (UInt8.ofNat a.toNat).toNat = a.toNat := by simp; omega
  rw [this]; omega

section
variable {H : Type} {enc : TypeId × Value → H} {W : World}
theorem num_opened {n : Nat} {v : Value} {y : DataW H × List MemPlace} (h : DataW.trod enc Try.prog W 0 (fun _ => true) true n 3 [v] = some y) : ∃ a : Int, v = .int .i64 a ∧ -9223372036854775808 ≤ a ∧ a ≤ 9223372036854775807 := by
  obtain ⟨a, e, _, hw⟩ := DataW.trod_int Try.underlying3 h
  simp only [List.cons.injEq, and_true] at e
  exact ⟨a, e, bounds_of_wf hw⟩
theorem byte_opened {n : Nat} {v : Value} {y : DataW H × List MemPlace} (h : DataW.trod enc Try.prog W 0 (fun _ => true) true n 5 [v] = some y) : ∃ a : UInt8, v = .int .u8 (a.toNat : Int) := by
  obtain ⟨a, e, _, hw⟩ := DataW.trod_int Try.underlying5 h
  simp only [List.cons.injEq, and_true] at e
  obtain ⟨b, rfl⟩ := byte_of_wf hw
  exact ⟨b, e⟩
theorem ints_opened {n : Nat} {v : Value} {y : DataW H × List MemPlace} (h : DataW.trod enc Try.prog W 0 (fun _ => true) true n 33 [v] = some y) :
    ∃ (A : Option Addr) (c : Nat) (L : List Int), v = .slice A L.length c ∧ IR W A L ∧ L.length ≤ 9223372036854775807 := by
  rcases Go.Deep.open_slice Try.underlying33 h with ⟨hcs, _⟩ | ⟨a, len, cap, m, n', D, Pl, hcs, _, hl, hm, hmm, _, hi⟩
  · simp only [List.cons.injEq, and_true] at hcs
    exact ⟨none, 0, [], hcs, (fun j hj => by cases hj), by simp⟩
  · simp only [List.cons.injEq, and_true] at hcs
    subst hcs
    have hmc : m = cap := by simpa using hmm
    have hr : ∀ i, ∃ r : Int, i < len → W.cell? (a.add i) = some (.int .i64 r) := by
      intro i
      by_cases hlt : i < len
      · obtain ⟨cs', hc, ht⟩ := hi i (by omega)
        rw [cells_int] at hc
        obtain ⟨_, hcl, hat⟩ := World.cells?_some hc
        match cs', hcl with
        | [c0], _ =>
          obtain ⟨r, e0, _⟩ := num_opened ht
          have h0 := hat 0 (by omega)
          rw [Go.Deep.add_add] at h0
          subst e0
          exact ⟨r, fun _ => by simpa using h0⟩
      · exact ⟨0, fun h => absurd h hlt⟩
    obtain ⟨R, hR⟩ := Classical.axiomOfChoice hr
    have hle : ((List.range len).map R).length = len := by simp
    refine ⟨some a, cap, (List.range len).map R, by rw [hle], fun j hj => ?_, by rw [hle]; unfold maxLen at hm; omega⟩
    rw [hle] at hj
    obtain ⟨b, off, spot⟩ := a
    have hspot : spot = none := by simpa [Addr.add] using World.cell?_spot (hR 0 (by omega))
    subst hspot
    have h0 := hR j hj
    rw [show (⟨b, off, none⟩ : Addr).add j = ⟨b, off + j, none⟩ from by unfold Addr.add; split <;> simp_all] at h0
    have e : ((List.range len).map R).getD j 0 = R j := by
      rw [List.getD_eq_getElem?_getD, List.getElem?_map, List.getElem?_range hj]; rfl
    exact ⟨b, off, rfl, block_lt_of_cell (a := ⟨b, off + j, none⟩) h0, by rw [e]; exact h0⟩
theorem step_opened {n : Nat} {c0 c1 c2 c3 c4 : Value} {y : DataW H × List MemPlace} (h : DataW.trod enc Try.prog W 0 (fun _ => true) true n 48 [c0, c1, c2, c3, c4] = some y) :
    ∃ s : SD, c0 = .int .u8 (s.wh.toNat : Int) ∧ c1 = .int .i64 s.a ∧ c2 = .int .u8 (s.y.toNat : Int) ∧ c3 = .int .i64 s.odd ∧ c4 = .slice s.kA s.keep.length s.kc ∧ s.Ok W := by
  obtain ⟨xs, k, _, _, _, hxl, hg⟩ := DataW.trod_struct Try.underlying48 h
  match xs, hxl with
  | [y0, y1, y2, y3, y4], _ =>
    have g0 : DataW.trod enc Try.prog W 0 (fun _ => true) true k 5 ((([c0, c1, c2, c3, c4] : List Value).drop 0).take (Try.prog.cellsOf 5)) = [y0, y1, y2, y3, y4][0]? := hg 0 _ rfl
    have g1 : DataW.trod enc Try.prog W 0 (fun _ => true) true k 3 ((([c0, c1, c2, c3, c4] : List Value).drop 1).take (Try.prog.cellsOf 3)) = [y0, y1, y2, y3, y4][1]? := hg 1 _ rfl
    have g2 : DataW.trod enc Try.prog W 0 (fun _ => true) true k 5 ((([c0, c1, c2, c3, c4] : List Value).drop 2).take (Try.prog.cellsOf 5)) = [y0, y1, y2, y3, y4][2]? := hg 2 _ rfl
    have g3 : DataW.trod enc Try.prog W 0 (fun _ => true) true k 3 ((([c0, c1, c2, c3, c4] : List Value).drop 3).take (Try.prog.cellsOf 3)) = [y0, y1, y2, y3, y4][3]? := hg 3 _ rfl
    have g4 : DataW.trod enc Try.prog W 0 (fun _ => true) true k 33 ((([c0, c1, c2, c3, c4] : List Value).drop 4).take (Try.prog.cellsOf 33)) = [y0, y1, y2, y3, y4][4]? := hg 4 _ rfl
    rw [cells_byte] at g0 g2
    rw [cells_int] at g1 g3
    rw [cells_ints] at g4
    obtain ⟨wh, rfl⟩ := byte_opened (y := y0) (by simpa using g0)
    obtain ⟨a, rfl, ha1, ha2⟩ := num_opened (y := y1) (by simpa using g1)
    obtain ⟨yy, rfl⟩ := byte_opened (y := y2) (by simpa using g2)
    obtain ⟨od, rfl, ho1, ho2⟩ := num_opened (y := y3) (by simpa using g3)
    obtain ⟨A, c, L, rfl, hI, hl⟩ := ints_opened (y := y4) (by simpa using g4)
    exact ⟨⟨wh, a, yy, od, L, A, c⟩, rfl, rfl, rfl, rfl, rfl, ⟨⟨ha1, ha2⟩, ⟨ho1, ho2⟩, hI, hl⟩⟩
theorem steps_opened {n : Nat} {v : Value} {y : DataW H × List MemPlace} (h : DataW.trod enc Try.prog W 0 (fun _ => true) true n 40 [v] = some y) :
    ∃ (A : Option Addr) (c : Nat) (l : List SD), v = .slice A l.length c ∧ StAt W A l ∧ l.length ≤ 9223372036854775807 := by
  rcases Go.Deep.open_slice Try.underlying40 h with ⟨hcs, _⟩ | ⟨a, len, cap, m, n', D, Pl, hcs, _, hl, hm, hmm, _, hi⟩
  · simp only [List.cons.injEq, and_true] at hcs
    exact ⟨none, 0, [], hcs, (fun j hj => by cases hj), by simp⟩
  · simp only [List.cons.injEq, and_true] at hcs
    subst hcs
    have hmc : m = cap := by simpa using hmm
    have hr : ∀ i, ∃ r : SD, i < len → (W.cell? (a.add (i * 5)) = some (.int .u8 (r.wh.toNat : Int)) ∧ W.cell? (a.add (i * 5 + 1)) = some (.int .i64 r.a) ∧ W.cell? (a.add (i * 5 + 2)) = some (.int .u8 (r.y.toNat : Int)) ∧
        W.cell? (a.add (i * 5 + 3)) = some (.int .i64 r.odd) ∧ W.cell? (a.add (i * 5 + 4)) = some (.slice r.kA r.keep.length r.kc) ∧ r.Ok W) := by
      intro i
      by_cases hlt : i < len
      · obtain ⟨cs', hc, ht⟩ := hi i (by omega)
        rw [cells_step] at hc
        obtain ⟨_, hcl, hat⟩ := World.cells?_some hc
        match cs', hcl with
        | [c0, c1, c2, c3, c4], _ =>
          obtain ⟨r, e0, e1, e2, e3, e4, hok⟩ := step_opened ht
          have h0 := hat 0 (by omega)
          have h1 := hat 1 (by omega)
          have h2 := hat 2 (by omega)
          have h3 := hat 3 (by omega)
          have h4 := hat 4 (by omega)
          rw [Go.Deep.add_add] at h0 h1 h2 h3 h4
          subst e0 e1 e2 e3 e4
          exact ⟨r, fun _ => ⟨h0, h1, h2, h3, h4, hok⟩⟩
      · exact ⟨sd0, fun h => absurd h hlt⟩
    obtain ⟨R, hR⟩ := Classical.axiomOfChoice hr
    have hle : ((List.range len).map R).length = len := by simp
    refine ⟨some a, cap, (List.range len).map R, by rw [hle], fun j hj => ?_, by rw [hle]; unfold maxLen at hm; omega⟩
    rw [hle] at hj
    obtain ⟨b, off, spot⟩ := a
    have hspot : spot = none := by simpa [Addr.add] using World.cell?_spot (hR 0 (by omega)).1
    subst hspot
    have hadd : ∀ i : Nat, (⟨b, off, none⟩ : Addr).add i = ⟨b, off + i, none⟩ := fun i => by unfold Addr.add; split <;> simp_all
    obtain ⟨h0, h1, h2, h3, h4, hok⟩ := hR j hj
    rw [hadd] at h0 h1 h2 h3 h4
    have e : ((List.range len).map R).getD j sd0 = R j := by
      rw [List.getD_eq_getElem?_getD, List.getElem?_map, List.getElem?_range hj]; rfl
    rw [e]
    exact ⟨b, off, rfl, block_lt_of_cell (a := ⟨b, off + j * 5, none⟩) h0, ⟨h0, by rw [Nat.add_assoc]; exact h1, by rw [Nat.add_assoc]; exact h2, by rw [Nat.add_assoc]; exact h3, by rw [Nat.add_assoc]; exact h4⟩, hok⟩
/-- A row of steps that is an argument. -/
theorem stepsA {b0 : Nat} {v : Value} {d : DataW H} {p : List MemPlace} (hv : Value.okWide Try.prog W .any b0 40 v) (h : DataW.Trod enc Try.prog W 0 (fun _ => true) true 40 v d p) :
    ∃ (A : Option Addr) (c : Nat) (l : List SD), v = .slice A l.length c ∧ StAt W A l ∧ l.length ≤ 9223372036854775807 := by
  obtain ⟨A0, n0, c0, rfl⟩ := okWide_slice Try.underlying40 hv
  obtain ⟨fuel, hf⟩ := h
  exact steps_opened (by simpa [Value.cells] using hf)
theorem intsA {b0 : Nat} {v : Value} {d : DataW H} {p : List MemPlace} (hv : Value.okWide Try.prog W .any b0 33 v) (h : DataW.Trod enc Try.prog W 0 (fun _ => true) true 33 v d p) :
    ∃ (A : Option Addr) (c : Nat) (L : List Int), v = .slice A L.length c ∧ IR W A L ∧ L.length ≤ 9223372036854775807 := by
  obtain ⟨A0, n0, c0, rfl⟩ := okWide_slice Try.underlying33 hv
  obtain ⟨fuel, hf⟩ := h
  exact ints_opened (by simpa [Value.cells] using hf)
end
end Go.Proofs.Ytechpecnanodfaa
