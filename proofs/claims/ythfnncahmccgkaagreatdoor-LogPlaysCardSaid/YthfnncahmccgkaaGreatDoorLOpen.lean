/-
  Numbers, and a row of steps, that came in, opened.
-/
import Derived.Deep.Slices
import Derived.Deep.Fields
import Derived.ChangeSame
import Derived.ChangeArms
import Derived.Carry
import Derived.ProofKit
import Derived.Test.YthfnncahmccgkaaGreatDoorLSteps
namespace Go.Proofs.YthfnncahmccgkaaGreatDoor
open Go Go.RowKit Go.WideShapes Go.ChangeShapes Go.ChangeAt
set_option maxRecDepth 100000
set_option linter.unusedSimpArgs false
set_option linter.unusedVariables false

theorem cells_step12 : Tryz.prog.cellsOf 61 = 6 := by kernel_rfl
theorem cells_int : Tryz.prog.cellsOf 3 = 1 := by kernel_rfl
theorem cells_byte : Tryz.prog.cellsOf 5 = 1 := by kernel_rfl
theorem cells_str : Tryz.prog.cellsOf 9 = 1 := by kernel_rfl
theorem cells_ints : Tryz.prog.cellsOf 46 = 1 := by kernel_rfl

theorem bounds_of_wf {a : Int} (h : (Lit.int .i64 a).wf = true) : -9223372036854775808 ≤ a ∧ a ≤ 9223372036854775807 := by
  simp only [Lit.wf, IntKind.min, IntKind.max, IntKind.signed, IntKind.bits, Bool.and_eq_true, decide_eq_true_eq, if_true] at h
  omega
theorem byte_of_wf {a : Int} (h : (Lit.int .u8 a).wf = true) : ∃ b : UInt8, a = (b.toNat : Int) := by
  simp only [Lit.wf, IntKind.min, IntKind.max, IntKind.signed, IntKind.bits, Bool.and_eq_true, decide_eq_true_eq, Bool.false_eq_true, if_false] at h
  refine ⟨UInt8.ofNat a.toNat, ?_⟩
  have : (UInt8.ofNat a.toNat).toNat = a.toNat := by simp; omega
  rw [this]; omega

section
variable {H : Type} {enc : TypeId × Value → H} {W : World}
theorem num_opened {n : Nat} {v : Value} {y : DataW H × List MemPlace} (h : DataW.trod enc Tryz.prog W 0 (fun _ => true) true n 3 [v] = some y) : ∃ a : Int, v = .int .i64 a ∧ -9223372036854775808 ≤ a ∧ a ≤ 9223372036854775807 := by
  obtain ⟨a, e, _, hw⟩ := DataW.trod_int Tryz.underlying3 h
  simp only [List.cons.injEq, and_true] at e
  exact ⟨a, e, bounds_of_wf hw⟩
theorem byte_opened {n : Nat} {v : Value} {y : DataW H × List MemPlace} (h : DataW.trod enc Tryz.prog W 0 (fun _ => true) true n 5 [v] = some y) : ∃ a : UInt8, v = .int .u8 (a.toNat : Int) := by
  obtain ⟨a, e, _, hw⟩ := DataW.trod_int Tryz.underlying5 h
  simp only [List.cons.injEq, and_true] at e
  obtain ⟨b, rfl⟩ := byte_of_wf hw
  exact ⟨b, e⟩
theorem ints_opened {n : Nat} {v : Value} {y : DataW H × List MemPlace} (h : DataW.trod enc Tryz.prog W 0 (fun _ => true) true n 46 [v] = some y) :
    ∃ (A : Option Addr) (c : Nat) (L : List Int), v = .slice A L.length c ∧ IR W A L ∧ L.length ≤ 9223372036854775807 := by
  rcases Go.Deep.open_slice Tryz.underlying46 h with ⟨hcs, _⟩ | ⟨a, len, cap, m, n', D, Pl, hcs, _, hl, hm, hmm, _, hi⟩
  · simp only [List.cons.injEq, and_true] at hcs
    exact ⟨none, 0, [], hcs, (fun j hj => by cases hj), by simp⟩
  · simp only [List.cons.injEq, and_true] at hcs
    subst hcs
    have hmc : m = cap := by simpa using hmm
    have hr : ∀ i, ∃ r : Int, i < len → W.cell? (a.add i) = some (.int .i64 r) := by
      intro i
      by_cases hlt : i < len
      · obtain ⟨cs', hc, ht⟩ := hi i (by omega)
        rw [cells_int] at hc
        obtain ⟨_, hcl, hat⟩ := World.cells?_some hc
        match cs', hcl with
        | [c0], _ =>
          obtain ⟨r, e0, _⟩ := num_opened ht
          have h0 := hat 0 (by omega)
          rw [Go.Deep.add_add] at h0
          subst e0
          exact ⟨r, fun _ => by simpa using h0⟩
      · exact ⟨0, fun h => absurd h hlt⟩
    obtain ⟨R, hR⟩ := Classical.axiomOfChoice hr
    have hle : ((List.range len).map R).length = len := by simp
    refine ⟨some a, cap, (List.range len).map R, by rw [hle], fun j hj => ?_, by rw [hle]; unfold maxLen at hm; omega⟩
    rw [hle] at hj
    obtain ⟨b, off, spot⟩ := a
    have hspot : spot = none := by simpa [Addr.add] using World.cell?_spot (hR 0 (by omega))
    subst hspot
    have h0 := hR j hj
    rw [show (⟨b, off, none⟩ : Addr).add j = ⟨b, off + j, none⟩ from by unfold Addr.add; split <;> simp_all] at h0
    have e : ((List.range len).map R).getD j 0 = R j := by
      rw [List.getD_eq_getElem?_getD, List.getElem?_map, List.getElem?_range hj]; rfl
    exact ⟨b, off, rfl, block_lt_of_cell (a := ⟨b, off + j, none⟩) h0, by rw [e]; exact h0⟩
theorem str_opened {n : Nat} {v : Value} {y : DataW H × List MemPlace} (h : DataW.trod enc Tryz.prog W 0 (fun _ => true) true n 9 [v] = some y) : ∃ s : List UInt8, v = sv s ∧ s.length ≤ 9223372036854775807 := by
  obtain ⟨a, e, _, hw⟩ := DataW.trod_string Tryz.underlying9 h
  simp only [List.cons.injEq, and_true] at e
  subst e
  obtain ⟨l, rfl⟩ : ∃ l : List UInt8, a = ⟨l.toArray⟩ := ⟨a.data.toList, by cases a; simp⟩
  refine ⟨l, rfl, ?_⟩
  have e : (⟨l.toArray⟩ : ByteArray).size = l.length := by show l.toArray.size = _; simp
  rw [e] at hw
  unfold maxLen at hw
  omega
theorem step_opened {n : Nat} {c0 c1 c2 c3 c4 c5 : Value} {y : DataW H × List MemPlace} (h : DataW.trod enc Tryz.prog W 0 (fun _ => true) true n 61 [c0, c1, c2, c3, c4, c5] = some y) :
    ∃ s : S2, c0 = .int .u8 (s.wh.toNat : Int) ∧ c1 = .int .i64 s.half ∧ c2 = .int .i64 s.age ∧ c3 = sv s.s ∧ c4 = .int .i64 s.many ∧ c5 = .slice s.kA s.keep.length s.kc ∧ s.Ok W := by
  obtain ⟨xs, k, _, _, _, hxl, hg⟩ := DataW.trod_struct Tryz.underlying61 h
  match xs, hxl with
  | [y0, y1, y2, y3, y4, y5], _ =>
    have g0 : DataW.trod enc Tryz.prog W 0 (fun _ => true) true k 5 ((([c0, c1, c2, c3, c4, c5] : List Value).drop 0).take (Tryz.prog.cellsOf 5)) = [y0, y1, y2, y3, y4, y5][0]? := hg 0 _ rfl
    have g1 : DataW.trod enc Tryz.prog W 0 (fun _ => true) true k 3 ((([c0, c1, c2, c3, c4, c5] : List Value).drop 1).take (Tryz.prog.cellsOf 3)) = [y0, y1, y2, y3, y4, y5][1]? := hg 1 _ rfl
    have g2 : DataW.trod enc Tryz.prog W 0 (fun _ => true) true k 3 ((([c0, c1, c2, c3, c4, c5] : List Value).drop 2).take (Tryz.prog.cellsOf 3)) = [y0, y1, y2, y3, y4, y5][2]? := hg 2 _ rfl
    have g3 : DataW.trod enc Tryz.prog W 0 (fun _ => true) true k 9 ((([c0, c1, c2, c3, c4, c5] : List Value).drop 3).take (Tryz.prog.cellsOf 9)) = [y0, y1, y2, y3, y4, y5][3]? := hg 3 _ rfl
    have g4 : DataW.trod enc Tryz.prog W 0 (fun _ => true) true k 3 ((([c0, c1, c2, c3, c4, c5] : List Value).drop 4).take (Tryz.prog.cellsOf 3)) = [y0, y1, y2, y3, y4, y5][4]? := hg 4 _ rfl
    have g5 : DataW.trod enc Tryz.prog W 0 (fun _ => true) true k 46 ((([c0, c1, c2, c3, c4, c5] : List Value).drop 5).take (Tryz.prog.cellsOf 46)) = [y0, y1, y2, y3, y4, y5][5]? := hg 5 _ rfl
    rw [cells_byte] at g0
    rw [cells_int] at g1 g2 g4
    rw [cells_str] at g3
    rw [cells_ints] at g5
    obtain ⟨wh, rfl⟩ := byte_opened (y := y0) (by simpa using g0)
    obtain ⟨a, rfl, ha1, ha2⟩ := num_opened (y := y1) (by simpa using g1)
    obtain ⟨ag, rfl, hg1, hg2⟩ := num_opened (y := y2) (by simpa using g2)
    obtain ⟨st, rfl, hst⟩ := str_opened (y := y3) (by simpa using g3)
    obtain ⟨od, rfl, ho1, ho2⟩ := num_opened (y := y4) (by simpa using g4)
    obtain ⟨A, c, L, rfl, hI, hl⟩ := ints_opened (y := y5) (by simpa using g5)
    exact ⟨⟨wh, a, ag, st, od, L, A, c⟩, rfl, rfl, rfl, rfl, rfl, rfl, ⟨⟨ha1, ha2⟩, ⟨hg1, hg2⟩, ⟨ho1, ho2⟩, hst, hI, hl⟩⟩
theorem steps_opened {n : Nat} {v : Value} {y : DataW H × List MemPlace} (h : DataW.trod enc Tryz.prog W 0 (fun _ => true) true n 49 [v] = some y) :
    ∃ (A : Option Addr) (c : Nat) (l : List S2), v = .slice A l.length c ∧ S2At W A l ∧ l.length ≤ 9223372036854775807 := by
  rcases Go.Deep.open_slice Tryz.underlying49 h with ⟨hcs, _⟩ | ⟨a, len, cap, m, n', D, Pl, hcs, _, hl, hm, hmm, _, hi⟩
  · simp only [List.cons.injEq, and_true] at hcs
    exact ⟨none, 0, [], hcs, (fun j hj => by cases hj), by simp⟩
  · simp only [List.cons.injEq, and_true] at hcs
    subst hcs
    have hmc : m = cap := by simpa using hmm
    have hr : ∀ i, ∃ r : S2, i < len → ((∀ j, j < 6 → W.cell? (a.add (i * 6 + j)) = (s2C r)[j]?) ∧ r.Ok W) := by
      intro i
      by_cases hlt : i < len
      · obtain ⟨cs', hc, ht⟩ := hi i (by omega)
        rw [cells_step12] at hc
        obtain ⟨_, hcl, hat⟩ := World.cells?_some hc
        match cs', hcl with
        | [c0, c1, c2, c3, c4, c5], _ =>
          obtain ⟨r, e0, e1, e2, e3, e4, e5, hok⟩ := step_opened ht
          have h0 := hat 0 (by omega)
          have h1 := hat 1 (by omega)
          have h2 := hat 2 (by omega)
          have h3 := hat 3 (by omega)
          have h4 := hat 4 (by omega)
          have h5 := hat 5 (by omega)
          rw [Go.Deep.add_add] at h0 h1 h2 h3 h4 h5
          subst e0 e1 e2 e3 e4 e5
          refine ⟨r, fun _ => ⟨fun j hj => ?_, hok⟩⟩
          match j, hj with
          | 0, _ => exact h0
          | 1, _ => exact h1
          | 2, _ => exact h2
          | 3, _ => exact h3
          | 4, _ => exact h4
          | 5, _ => exact h5
      · exact ⟨s20, fun h => absurd h hlt⟩
    obtain ⟨R, hR⟩ := Classical.axiomOfChoice hr
    have hle : ((List.range len).map R).length = len := by simp
    refine ⟨some a, cap, (List.range len).map R, by rw [hle], fun j hj => ?_, by rw [hle]; unfold maxLen at hm; omega⟩
    rw [hle] at hj
    obtain ⟨b, off, spot⟩ := a
    have h00 : ∀ j, j < len → W.cell? ((⟨b, off, spot⟩ : Addr).add (j * 6)) = some (.int .u8 ((R j).wh.toNat : Int)) := fun j hj => (hR j hj).1 0 (by omega)
    have hspot : spot = none := by simpa [Addr.add] using World.cell?_spot (h00 0 (by omega))
    subst hspot
    have hadd : ∀ i : Nat, (⟨b, off, none⟩ : Addr).add i = ⟨b, off + i, none⟩ := fun i => by unfold Addr.add; split <;> simp_all
    obtain ⟨hc, hok⟩ := hR j hj
    have h0 := h00 j hj
    rw [hadd] at h0
    have e : ((List.range len).map R).getD j s20 = R j := by
      rw [List.getD_eq_getElem?_getD, List.getElem?_map, List.getElem?_range hj]; rfl
    rw [e]
    exact ⟨b, off, rfl, block_lt_of_cell (a := ⟨b, off + j * 6, none⟩) h0, fun i hi => by rw [Nat.add_assoc, ← hadd]; exact hc i hi, hok⟩
/-- A row of steps that is an argument. -/
theorem stepsA {b0 : Nat} {v : Value} {d : DataW H} {p : List MemPlace} (hv : Value.okWide Tryz.prog W .any b0 49 v) (h : DataW.Trod enc Tryz.prog W 0 (fun _ => true) true 49 v d p) :
    ∃ (A : Option Addr) (c : Nat) (l : List S2), v = .slice A l.length c ∧ S2At W A l ∧ l.length ≤ 9223372036854775807 := by
  obtain ⟨A0, n0, c0, rfl⟩ := okWide_slice Tryz.underlying49 hv
  obtain ⟨fuel, hf⟩ := h
  exact steps_opened (by simpa [Value.cells] using hf)
theorem intsA {b0 : Nat} {v : Value} {d : DataW H} {p : List MemPlace} (hv : Value.okWide Tryz.prog W .any b0 46 v) (h : DataW.Trod enc Tryz.prog W 0 (fun _ => true) true 46 v d p) :
    ∃ (A : Option Addr) (c : Nat) (L : List Int), v = .slice A L.length c ∧ IR W A L ∧ L.length ≤ 9223372036854775807 := by
  obtain ⟨A0, n0, c0, rfl⟩ := okWide_slice Tryz.underlying46 hv
  obtain ⟨fuel, hf⟩ := h
  exact ints_opened (by simpa [Value.cells] using hf)
end
/-- Of the world nothing is asked. -/
def ML (_ : World) : Prop := True
/-- Texts that come in. -/
def SR (W : World) (v : Value) (xs : List (List UInt8)) : Prop :=
  ∃ A c, v = .slice A xs.length c ∧ (xs = [] ∨ ∃ b o, A = some ⟨b, o, none⟩ ∧ b < W.heap.size ∧ ∀ k, ∀ h : k < xs.length, W.cell? ⟨b, o + k, none⟩ = some (sv xs[k]))
theorem SR.tx {W : World} {A : Option Addr} {c : Nat} {xs : List (List UInt8)} (h : SR W (.slice A xs.length c) xs) : Tx W A xs := by
  obtain ⟨A', c', e, h⟩ := h
  simp only [Value.slice.injEq] at e
  obtain ⟨rfl, _, rfl⟩ := e
  exact h
end Go.Proofs.YthfnncahmccgkaaGreatDoor
