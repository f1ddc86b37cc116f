/-
  A command, and what a peer can, that came in, opened.
-/
import Derived.Deep.Slices
import Derived.Deep.Fields
import Derived.ChangeSame
import Derived.ChangeArms
import Derived.Carry
import Derived.ProofKit
import Derived.Test.YtbmjmiioobgbfaaGreatDoorKMailM
namespace Go.Proofs.YtbmjmiioobgbfaaGreatDoor
open Go Go.RowKit Go.WideShapes Go.ChangeShapes Go.ChangeAt
set_option maxRecDepth 100000
set_option linter.unusedSimpArgs false
set_option linter.unusedVariables false

theorem cells_param : Tryz.prog.cellsOf 38 = 2 := by kernel_rfl
theorem cells_cmd : Tryz.prog.cellsOf 41 = 3 := by kernel_rfl
theorem cells_caps : Tryz.prog.cellsOf 53 = 7 := by kernel_rfl
theorem cells_text : Tryz.prog.cellsOf 9 = 1 := by kernel_rfl
theorem cells_flag : Tryz.prog.cellsOf 4 = 1 := by kernel_rfl
theorem cells_num : Tryz.prog.cellsOf 3 = 1 := by kernel_rfl
theorem cells_byte : Tryz.prog.cellsOf 5 = 1 := by kernel_rfl
theorem cells_params : Tryz.prog.cellsOf 35 = 1 := by kernel_rfl

/-- The bounds of a command that came in. -/
structure IN (c : Cm) : Prop where
  verb : c.verb < 256
  arg : c.arg.length ≤ 9223372036854775807
  ps : c.ps.length ≤ 9223372036854775807
  each : ∀ p ∈ c.ps, p.1.length ≤ 9223372036854775807 ∧ p.2.length ≤ 9223372036854775807

section
variable {H : Type} {enc : TypeId × Value → H} {W : World}
theorem to_str' (s : ByteArray) : ∃ l : List UInt8, s = str l ∧ s.data.size = l.length := ⟨s.data.toList, by cases s; rfl, by simp⟩
theorem text_opened {n : Nat} {v : Value} {y : DataW H × List MemPlace} (h : DataW.trod enc Tryz.prog W 0 (fun _ => true) true n 9 [v] = some y) : ∃ s : List UInt8, v = sv s ∧ s.length ≤ 9223372036854775807 := by
  obtain ⟨s, e, _, hl⟩ := DataW.trod_string Tryz.underlying9 h
  obtain ⟨l, rfl, hl'⟩ := to_str' s
  simp only [List.cons.injEq, and_true] at e
  refine ⟨l, e, ?_⟩
  have h2 : (str l).size = l.length := by simp [ByteArray.size]
  unfold maxLen at hl
  omega
theorem byte_opened {n : Nat} {v : Value} {y : DataW H × List MemPlace} (h : DataW.trod enc Tryz.prog W 0 (fun _ => true) true n 5 [v] = some y) : ∃ a : Nat, v = .int .u8 (a : Int) ∧ a < 256 := by
  obtain ⟨a, e, _, hw⟩ := DataW.trod_int Tryz.underlying5 h
  simp only [List.cons.injEq, and_true] at e
  simp [Lit.wf, IntKind.min, IntKind.max, IntKind.signed, IntKind.bits] at hw
  refine ⟨a.toNat, ?_, by omega⟩
  rw [e]
  congr 1
  omega
theorem flag_opened {n : Nat} {v : Value} {y : DataW H × List MemPlace} (h : DataW.trod enc Tryz.prog W 0 (fun _ => true) true n 4 [v] = some y) : ∃ b : Bool, v = .bool b := by
  obtain ⟨b, e, _⟩ := DataW.trod_bool Tryz.underlying4 h
  simp only [List.cons.injEq, and_true] at e
  exact ⟨b, e⟩
theorem num_opened {n : Nat} {v : Value} {y : DataW H × List MemPlace} (h : DataW.trod enc Tryz.prog W 0 (fun _ => true) true n 3 [v] = some y) : ∃ a : Int, v = .int .i64 a ∧ -9223372036854775808 ≤ a ∧ a ≤ 9223372036854775807 := by
  obtain ⟨a, e, _, hw⟩ := DataW.trod_int Tryz.underlying3 h
  simp only [List.cons.injEq, and_true] at e
  refine ⟨a, e, ?_⟩
  simp only [Lit.wf, IntKind.min, IntKind.max, IntKind.signed, IntKind.bits, Bool.and_eq_true, decide_eq_true_eq, if_true] at hw
  omega
theorem caps_opened {b0 : Nat} {v : Value} {d : DataW H} {p : List MemPlace} (hv : Value.okWide Tryz.prog W .any b0 53 v) (h : DataW.Trod enc Tryz.prog W 0 (fun _ => true) true 53 v d p) :
    ∃ c : Cp, v = .agg (cpL c) ∧ -9223372036854775808 ≤ c.mo ∧ c.mo ≤ 9223372036854775807 := by
  obtain ⟨cs, rfl, hsz⟩ := okWide_struct Tryz.underlying53 hv
  rw [cells_caps] at hsz
  obtain ⟨l⟩ := cs
  match l, hsz with
  | [c0, c1, c2, c3, c4, c5, c6], _ =>
    obtain ⟨fuel, hf⟩ := h
    obtain ⟨xs, n, _, _, _, hxl, hg⟩ := DataW.trod_struct Tryz.underlying53 hf
    match xs, hxl with
    | [y0, y1, y2, y3, y4, y5, y6], _ =>
      have g0 : DataW.trod enc Tryz.prog W 0 (fun _ => true) true n 4 ((([c0, c1, c2, c3, c4, c5, c6] : List Value).drop 0).take (Tryz.prog.cellsOf 4)) = [y0, y1, y2, y3, y4, y5, y6][0]? := hg 0 _ rfl
      have g1 : DataW.trod enc Tryz.prog W 0 (fun _ => true) true n 4 ((([c0, c1, c2, c3, c4, c5, c6] : List Value).drop 1).take (Tryz.prog.cellsOf 4)) = [y0, y1, y2, y3, y4, y5, y6][1]? := hg 1 _ rfl
      have g2 : DataW.trod enc Tryz.prog W 0 (fun _ => true) true n 4 ((([c0, c1, c2, c3, c4, c5, c6] : List Value).drop 2).take (Tryz.prog.cellsOf 4)) = [y0, y1, y2, y3, y4, y5, y6][2]? := hg 2 _ rfl
      have g3 : DataW.trod enc Tryz.prog W 0 (fun _ => true) true n 4 ((([c0, c1, c2, c3, c4, c5, c6] : List Value).drop 3).take (Tryz.prog.cellsOf 4)) = [y0, y1, y2, y3, y4, y5, y6][3]? := hg 3 _ rfl
      have g4 : DataW.trod enc Tryz.prog W 0 (fun _ => true) true n 4 ((([c0, c1, c2, c3, c4, c5, c6] : List Value).drop 4).take (Tryz.prog.cellsOf 4)) = [y0, y1, y2, y3, y4, y5, y6][4]? := hg 4 _ rfl
      have g5 : DataW.trod enc Tryz.prog W 0 (fun _ => true) true n 4 ((([c0, c1, c2, c3, c4, c5, c6] : List Value).drop 5).take (Tryz.prog.cellsOf 4)) = [y0, y1, y2, y3, y4, y5, y6][5]? := hg 5 _ rfl
      have g6 : DataW.trod enc Tryz.prog W 0 (fun _ => true) true n 3 ((([c0, c1, c2, c3, c4, c5, c6] : List Value).drop 6).take (Tryz.prog.cellsOf 3)) = [y0, y1, y2, y3, y4, y5, y6][6]? := hg 6 _ rfl
      rw [cells_flag] at g0 g1 g2 g3 g4 g5
      rw [cells_num] at g6
      obtain ⟨b0, rfl⟩ := flag_opened (y := y0) (by simpa [Value.cells] using g0)
      obtain ⟨b1, rfl⟩ := flag_opened (y := y1) (by simpa [Value.cells] using g1)
      obtain ⟨b2, rfl⟩ := flag_opened (y := y2) (by simpa [Value.cells] using g2)
      obtain ⟨b3, rfl⟩ := flag_opened (y := y3) (by simpa [Value.cells] using g3)
      obtain ⟨b4, rfl⟩ := flag_opened (y := y4) (by simpa [Value.cells] using g4)
      obtain ⟨b5, rfl⟩ := flag_opened (y := y5) (by simpa [Value.cells] using g5)
      obtain ⟨a, rfl, h1, h2⟩ := num_opened (y := y6) (by simpa [Value.cells] using g6)
      exact ⟨⟨b0, b1, b2, b3, b4, b5, a⟩, rfl, h1, h2⟩
theorem param_opened {n : Nat} {c0 c1 : Value} {y : DataW H × List MemPlace} (h : DataW.trod enc Tryz.prog W 0 (fun _ => true) true n 38 [c0, c1] = some y) :
    ∃ r : PM, c0 = sv r.1 ∧ c1 = sv r.2 ∧ r.1.length ≤ 9223372036854775807 ∧ r.2.length ≤ 9223372036854775807 := by
  obtain ⟨xs, k, _, _, _, hxl, hg⟩ := DataW.trod_struct Tryz.underlying38 h
  match xs, hxl with
  | [y0, y1], _ =>
    have g0 : DataW.trod enc Tryz.prog W 0 (fun _ => true) true k 9 ((([c0, c1] : List Value).drop 0).take (Tryz.prog.cellsOf 9)) = [y0, y1][0]? := hg 0 _ rfl
    have g1 : DataW.trod enc Tryz.prog W 0 (fun _ => true) true k 9 ((([c0, c1] : List Value).drop 1).take (Tryz.prog.cellsOf 9)) = [y0, y1][1]? := hg 1 _ rfl
    rw [cells_text] at g0 g1
    obtain ⟨s, rfl, hs⟩ := text_opened (y := y0) (by simpa using g0)
    obtain ⟨b, rfl, hb⟩ := text_opened (y := y1) (by simpa using g1)
    exact ⟨(s, b), rfl, rfl, hs, hb⟩
theorem params_opened {n : Nat} {v : Value} {y : DataW H × List MemPlace} (h : DataW.trod enc Tryz.prog W 0 (fun _ => true) true n 35 [v] = some y) :
    ∃ (A : Option Addr) (c : Nat) (rs : List PM), v = .slice A rs.length c ∧ PR W (.slice A rs.length c) rs ∧ rs.length ≤ c ∧ rs.length ≤ 9223372036854775807 ∧ ∀ r ∈ rs, r.1.length ≤ 9223372036854775807 ∧ r.2.length ≤ 9223372036854775807 := by
  rcases Go.Deep.open_slice Tryz.underlying35 h with ⟨hcs, _⟩ | ⟨a, len, cap, m, n', D, Pl, hcs, _, hl, hm, hmm, _, hi⟩
  · simp only [List.cons.injEq, and_true] at hcs
    exact ⟨none, 0, [], hcs, ⟨none, 0, rfl, fun h => absurd h (by decide)⟩, Nat.zero_le _, Nat.zero_le _, fun r hr => by cases hr⟩
  · simp only [List.cons.injEq, and_true] at hcs
    subst hcs
    have hmc : m = cap := by simpa using hmm
    have hr : ∀ i, ∃ r : PM, i < len → W.cell? (a.add (i * 2)) = some (sv r.1) ∧ W.cell? (a.add (i * 2 + 1)) = some (sv r.2) ∧ r.1.length ≤ 9223372036854775807 ∧ r.2.length ≤ 9223372036854775807 := by
      intro i
      by_cases hlt : i < len
      · obtain ⟨cs', hc, ht⟩ := hi i (by omega)
        rw [cells_param] at hc
        obtain ⟨_, hcl, hat⟩ := World.cells?_some hc
        match cs', hcl with
        | [c0, c1], _ =>
          obtain ⟨r, e0, e1, hlr⟩ := param_opened ht
          have h0 := hat 0 (by omega)
          have h1 := hat 1 (by omega)
          rw [Go.Deep.add_add] at h0 h1
          subst e0 e1
          exact ⟨r, fun _ => ⟨h0, h1, hlr⟩⟩
      · exact ⟨pm0, fun h => absurd h hlt⟩
    obtain ⟨R, hR⟩ := Classical.axiomOfChoice hr
    have hle : ((List.range len).map R).length = len := by simp
    refine ⟨some a, cap, (List.range len).map R, by rw [hle], ?_, by rw [hle]; exact hl, by rw [hle]; unfold maxLen at hm; omega, ?_⟩
    · refine ⟨some a, cap, rfl, fun hp => ?_⟩
      rw [hle] at hp
      obtain ⟨b, off, spot⟩ := a
      have hspot : spot = none := by simpa [Addr.add] using World.cell?_spot (hR 0 hp).1
      subst hspot
      refine ⟨b, off, rfl, block_lt_of_cell (a := ⟨b, off, none⟩) (by simpa [Addr.add] using (hR 0 hp).1), fun j hj => ?_⟩
      rw [hle] at hj
      have e : ((List.range len).map R).getD j pm0 = R j := by
        rw [List.getD_eq_getElem?_getD, List.getElem?_map, List.getElem?_range hj]; rfl
      obtain ⟨h0, h1, _⟩ := hR j hj
      rw [add_plain] at h0 h1
      rw [e]
      exact ⟨h0, by rw [Nat.add_assoc]; exact h1⟩
    · intro r hr
      obtain ⟨i, hi2, rfl⟩ := List.mem_map.1 hr
      exact (hR i (List.mem_range.1 hi2)).2.2
theorem cmd_opened {b0 : Nat} {v : Value} {d : DataW H} {p : List MemPlace} (hv : Value.okWide Tryz.prog W .any b0 41 v) (h : DataW.Trod enc Tryz.prog W 0 (fun _ => true) true 41 v d p) :
    ∃ (c : Cm) (u : Value), v = cmV c u ∧ PR W u c.ps ∧ IN c := by
  obtain ⟨cs, rfl, hsz⟩ := okWide_struct Tryz.underlying41 hv
  rw [cells_cmd] at hsz
  obtain ⟨l⟩ := cs
  match l, hsz with
  | [c0, c1, c2], _ =>
    obtain ⟨fuel, hf⟩ := h
    obtain ⟨xs, n, _, _, _, hxl, hg⟩ := DataW.trod_struct Tryz.underlying41 hf
    match xs, hxl with
    | [y0, y1, y2], _ =>
      have g0 : DataW.trod enc Tryz.prog W 0 (fun _ => true) true n 5 ((([c0, c1, c2] : List Value).drop 0).take (Tryz.prog.cellsOf 5)) = [y0, y1, y2][0]? := hg 0 _ rfl
      have g1 : DataW.trod enc Tryz.prog W 0 (fun _ => true) true n 9 ((([c0, c1, c2] : List Value).drop 1).take (Tryz.prog.cellsOf 9)) = [y0, y1, y2][1]? := hg 1 _ rfl
      have g2 : DataW.trod enc Tryz.prog W 0 (fun _ => true) true n 35 ((([c0, c1, c2] : List Value).drop 2).take (Tryz.prog.cellsOf 35)) = [y0, y1, y2][2]? := hg 2 _ rfl
      rw [cells_byte] at g0
      rw [cells_text] at g1
      rw [cells_params] at g2
      obtain ⟨v, rfl, hv1⟩ := byte_opened (y := y0) (by simpa [Value.cells] using g0)
      obtain ⟨a, rfl, ha⟩ := text_opened (y := y1) (by simpa [Value.cells] using g1)
      obtain ⟨A, c, ps, rfl, hrc, hc, hl, hx⟩ := params_opened (y := y2) (by simpa [Value.cells] using g2)
      exact ⟨⟨v, a, ps⟩, .slice A ps.length c, rfl, hrc, hv1, ha, hl, hx⟩
end
end Go.Proofs.YtbmjmiioobgbfaaGreatDoor
