/-
  A certificate that came in, opened.
-/
import Derived.Deep.Slices
import Derived.Deep.Fields
import Derived.ChangeSame
import Derived.ChangeArms
import Derived.Carry
import Derived.ProofKit
import Derived.Test.YtamlblfhjpajhaaDoorGCutC
namespace Go.Proofs.YtamlblfhjpajhaaDoor
set_option linter.unusedSimpArgs false
set_option linter.unusedVariables false
open Go Go.RowKit Go.WideShapes Go.ChangeShapes Go.ChangeAt
set_option maxRecDepth 100000

theorem cells_cert : Tryd.prog.cellsOf 24 = 6 := by kernel_rfl
theorem cells_text : Tryd.prog.cellsOf 9 = 1 := by kernel_rfl
theorem cells_flag : Tryd.prog.cellsOf 4 = 1 := by kernel_rfl
theorem cells_num : Tryd.prog.cellsOf 3 = 1 := by kernel_rfl
theorem cells_texts : Tryd.prog.cellsOf 22 = 1 := by kernel_rfl

section
variable {H : Type} {enc : TypeId × Value → H} {W : World}
theorem text_opened {n : Nat} {v : Value} {y : DataW H × List MemPlace} (h : DataW.trod enc Tryd.prog W 0 (fun _ => true) true n 9 [v] = some y) : ∃ s : List UInt8, v = sv s ∧ s.length ≤ 9223372036854775807 := by
  obtain ⟨s, e, _, hl⟩ := DataW.trod_string Tryd.underlying9 h
  obtain ⟨l, rfl, hl'⟩ := to_str s
  simp only [List.cons.injEq, and_true] at e
  refine ⟨l, e, ?_⟩
  unfold maxLen at hl
  omega
theorem flag_opened {n : Nat} {v : Value} {y : DataW H × List MemPlace} (h : DataW.trod enc Tryd.prog W 0 (fun _ => true) true n 4 [v] = some y) : ∃ b : Bool, v = .bool b := by
  obtain ⟨b, e, _⟩ := DataW.trod_bool Tryd.underlying4 h
  simp only [List.cons.injEq, and_true] at e
  exact ⟨b, e⟩
theorem num_opened {n : Nat} {v : Value} {y : DataW H × List MemPlace} (h : DataW.trod enc Tryd.prog W 0 (fun _ => true) true n 3 [v] = some y) : ∃ a : Int, v = .int .i64 a ∧ -9223372036854775808 ≤ a ∧ a ≤ 9223372036854775807 := by
  obtain ⟨a, e, _, hw⟩ := DataW.trod_int Tryd.underlying3 h
  simp only [List.cons.injEq, and_true] at e
  refine ⟨a, e, ?_⟩
  simp only [Lit.wf, IntKind.min, IntKind.max, IntKind.signed, IntKind.bits, Bool.and_eq_true, decide_eq_true_eq, if_true] at hw
  omega
theorem texts_opened {n : Nat} {v : Value} {y : DataW H × List MemPlace} (h : DataW.trod enc Tryd.prog W 0 (fun _ => true) true n 22 [v] = some y) :
    ∃ (A : Option Addr) (c : Nat) (rs : List (List UInt8)), v = .slice A rs.length c ∧ SX W (.slice A rs.length c) rs ∧ rs.length ≤ 9223372036854775807 ∧ ∀ r ∈ rs, r.length ≤ 9223372036854775807 := by
  rcases Go.Deep.open_slice Tryd.underlying22 h with ⟨hcs, _⟩ | ⟨a, len, cap, m, n', D, Pl, hcs, _, hl, hm, hmm, _, hi⟩
  · simp only [List.cons.injEq, and_true] at hcs
    exact ⟨none, 0, [], hcs, SX.nil _ _ _, Nat.zero_le _, fun r hr => by cases hr⟩
  · simp only [List.cons.injEq, and_true] at hcs
    subst hcs
    have hmc : m = cap := by simpa using hmm
    have hr : ∀ i, ∃ r : List UInt8, i < len → W.cell? (a.add i) = some (sv r) ∧ r.length ≤ 9223372036854775807 := by
      intro i
      by_cases hlt : i < len
      · obtain ⟨cs', hc, ht⟩ := hi i (by omega)
        rw [cells_text] at hc
        obtain ⟨_, hcl, hat⟩ := World.cells?_some hc
        match cs', hcl with
        | [c0], _ =>
          obtain ⟨r, e0, hlr⟩ := text_opened ht
          have h0 := hat 0 (by omega)
          rw [Go.Deep.add_add] at h0
          subst e0
          exact ⟨r, fun _ => ⟨by simpa using h0, hlr⟩⟩
      · exact ⟨[], fun h => absurd h hlt⟩
    obtain ⟨R, hR⟩ := Classical.axiomOfChoice hr
    have hle : ((List.range len).map R).length = len := by simp
    refine ⟨some a, cap, (List.range len).map R, by rw [hle], ?_, by rw [hle]; unfold maxLen at hm; omega, ?_⟩
    · refine ⟨some a, cap, rfl, fun hp => ?_⟩
      rw [hle] at hp
      obtain ⟨b, off, spot⟩ := a
      have hspot : spot = none := by simpa [Addr.add] using World.cell?_spot (hR 0 hp).1
      subst hspot
      refine ⟨b, off, rfl, block_lt_of_cell (a := ⟨b, off, none⟩) (by simpa [Addr.add] using (hR 0 hp).1), fun j hj => ?_⟩
      rw [hle] at hj
      have e : ((List.range len).map R).getD j [] = R j := by
        rw [List.getD_eq_getElem?_getD, List.getElem?_map, List.getElem?_range hj]; rfl
      obtain ⟨h0, _⟩ := hR j hj
      rw [add_plain] at h0
      rw [e]
      exact h0
    · intro r hr
      obtain ⟨i, hi2, rfl⟩ := List.mem_map.1 hr
      exact (hR i (List.mem_range.1 hi2)).2
theorem cert_opened {b0 : Nat} {v : Value} {d : DataW H} {p : List MemPlace} (hv : Value.okWide Tryd.prog W .any b0 24 v) (h : DataW.Trod enc Tryd.prog W 0 (fun _ => true) true 24 v d p) :
    ∃ (c : Ct) (A : Option Addr) (cp : Nat), v = certV c (.slice A c.names.length cp) ∧ SX W (.slice A c.names.length cp) c.names ∧ inC c := by
  obtain ⟨cs, rfl, hsz⟩ := okWide_struct Tryd.underlying24 hv
  rw [cells_cert] at hsz
  obtain ⟨l⟩ := cs
  match l, hsz with
  | [c0, c1, c2, c3, c4, c5], _ =>
    obtain ⟨fuel, hf⟩ := h
    obtain ⟨xs, n, _, _, _, hxl, hg⟩ := DataW.trod_struct Tryd.underlying24 hf
    match xs, hxl with
    | [y0, y1, y2, y3, y4, y5], _ =>
      have g0 : DataW.trod enc Tryd.prog W 0 (fun _ => true) true n 9 ((([c0, c1, c2, c3, c4, c5] : List Value).drop 0).take (Tryd.prog.cellsOf 9)) = [y0, y1, y2, y3, y4, y5][0]? := hg 0 _ rfl
      have g1 : DataW.trod enc Tryd.prog W 0 (fun _ => true) true n 9 ((([c0, c1, c2, c3, c4, c5] : List Value).drop 1).take (Tryd.prog.cellsOf 9)) = [y0, y1, y2, y3, y4, y5][1]? := hg 1 _ rfl
      have g2 : DataW.trod enc Tryd.prog W 0 (fun _ => true) true n 22 ((([c0, c1, c2, c3, c4, c5] : List Value).drop 2).take (Tryd.prog.cellsOf 22)) = [y0, y1, y2, y3, y4, y5][2]? := hg 2 _ rfl
      have g3 : DataW.trod enc Tryd.prog W 0 (fun _ => true) true n 3 ((([c0, c1, c2, c3, c4, c5] : List Value).drop 3).take (Tryd.prog.cellsOf 3)) = [y0, y1, y2, y3, y4, y5][3]? := hg 3 _ rfl
      have g4 : DataW.trod enc Tryd.prog W 0 (fun _ => true) true n 3 ((([c0, c1, c2, c3, c4, c5] : List Value).drop 4).take (Tryd.prog.cellsOf 3)) = [y0, y1, y2, y3, y4, y5][4]? := hg 4 _ rfl
      have g5 : DataW.trod enc Tryd.prog W 0 (fun _ => true) true n 4 ((([c0, c1, c2, c3, c4, c5] : List Value).drop 5).take (Tryd.prog.cellsOf 4)) = [y0, y1, y2, y3, y4, y5][5]? := hg 5 _ rfl
      rw [cells_text] at g0 g1
      rw [cells_texts] at g2
      rw [cells_num] at g3 g4
      rw [cells_flag] at g5
      obtain ⟨key, rfl, hk⟩ := text_opened (y := y0) (by simpa [Value.cells] using g0)
      obtain ⟨sig, rfl, hs⟩ := text_opened (y := y1) (by simpa [Value.cells] using g1)
      obtain ⟨A, cp, ns, rfl, hx, hl, hn⟩ := texts_opened (y := y2) (by simpa [Value.cells] using g2)
      obtain ⟨fr, rfl, _⟩ := num_opened (y := y3) (by simpa [Value.cells] using g3)
      obtain ⟨un, rfl, _⟩ := num_opened (y := y4) (by simpa [Value.cells] using g4)
      obtain ⟨ca, rfl⟩ := flag_opened (y := y5) (by simpa [Value.cells] using g5)
      exact ⟨⟨key, sig, ns, fr, un, ca⟩, A, cp, rfl, hx, hk, hs, hl, hn⟩
end
end Go.Proofs.YtamlblfhjpajhaaDoor
