/-
  Records that came in, opened; how many texts may come in.
-/
import Derived.SizedLaws
import Derived.Test.YtnaoandleelbkaaGreatDoorUOwnC
import Derived.Test.YtnaoandleelbkaaGreatDoorJWm
namespace Go.Proofs.YtnaoandleelbkaaGreatDoor
set_option linter.unusedSimpArgs false
set_option linter.unusedVariables false
open Go Go.RowKit Go.WideShapes Go.ChangeShapes Go.ChangeAt
set_option maxRecDepth 100000

theorem cells_rec : Tryz.prog.cellsOf 65 = 4 := by kernel_rfl
theorem cells_byte : Tryz.prog.cellsOf 5 = 1 := by kernel_rfl
section
variable {H : Type} {enc : TypeId × Value → H} {W : World}
theorem byte_opened {n : Nat} {v : Value} {y : DataW H × List MemPlace} (h : DataW.trod enc Tryz.prog W 0 (fun _ => true) true n 5 [v] = some y) : ∃ a : Nat, v = .int .u8 (a : Int) ∧ a < 256 := by
  obtain ⟨a, e, _, hw⟩ := DataW.trod_int Tryz.underlying5 h
  simp only [List.cons.injEq, and_true] at e
  simp only [Lit.wf, IntKind.min, IntKind.max, IntKind.signed, IntKind.bits, Bool.and_eq_true, decide_eq_true_eq, if_true] at hw
  obtain ⟨h0, h1⟩ := hw
  have h0' : 0 ≤ a := by simpa using h0
  have h1' : a ≤ 255 := by simpa using h1
  exact ⟨a.toNat, by rw [e]; congr 1; omega, by omega⟩
theorem rec_cells {n : Nat} {cs : List Value} {y : DataW H × List MemPlace} (hl4 : cs.length = 4) (hf : DataW.trod enc Tryz.prog W 0 (fun _ => true) true n 65 cs = some y) : ∃ r : Rc, cs = cellsL r ∧ inR r := by
  match cs, hl4 with
  | [c0, c1, c2, c3], _ =>
    obtain ⟨xs, n, _, _, _, hxl, hg⟩ := DataW.trod_struct Tryz.underlying65 hf
    match xs, hxl with
    | [y0, y1, y2, y3], _ =>
      have g0 : DataW.trod enc Tryz.prog W 0 (fun _ => true) true n 5 ((([c0, c1, c2, c3] : List Value).drop 0).take (Tryz.prog.cellsOf 5)) = [y0, y1, y2, y3][0]? := hg 0 _ rfl
      have g1 : DataW.trod enc Tryz.prog W 0 (fun _ => true) true n 5 ((([c0, c1, c2, c3] : List Value).drop 1).take (Tryz.prog.cellsOf 5)) = [y0, y1, y2, y3][1]? := hg 1 _ rfl
      have g2 : DataW.trod enc Tryz.prog W 0 (fun _ => true) true n 5 ((([c0, c1, c2, c3] : List Value).drop 2).take (Tryz.prog.cellsOf 5)) = [y0, y1, y2, y3][2]? := hg 2 _ rfl
      have g3 : DataW.trod enc Tryz.prog W 0 (fun _ => true) true n 9 ((([c0, c1, c2, c3] : List Value).drop 3).take (Tryz.prog.cellsOf 9)) = [y0, y1, y2, y3][3]? := hg 3 _ rfl
      rw [cells_byte] at g0 g1 g2
      rw [cells_text] at g3
      obtain ⟨u, rfl, hu⟩ := byte_opened (y := y0) (by simpa [Value.cells] using g0)
      obtain ⟨s, rfl, hs⟩ := byte_opened (y := y1) (by simpa [Value.cells] using g1)
      obtain ⟨m, rfl, hm⟩ := byte_opened (y := y2) (by simpa [Value.cells] using g2)
      obtain ⟨d, rfl, hd⟩ := text_opened (y := y3) (by simpa [Value.cells] using g3)
      exact ⟨⟨u, s, m, d⟩, rfl, ⟨hu, hs, hm⟩, hd⟩
theorem rec_opened {b0 : Nat} {v : Value} {d : DataW H} {p : List MemPlace} (hv : Value.okWide Tryz.prog W .any b0 65 v) (h : DataW.Trod enc Tryz.prog W 0 (fun _ => true) true 65 v d p) :
    ∃ r : Rc, v = .agg #[.int .u8 (r.us : Int), .int .u8 (r.se : Int), .int .u8 (r.ma : Int), sv r.da] ∧ inR r := by
  obtain ⟨cs, rfl, hsz⟩ := okWide_struct Tryz.underlying65 hv
  rw [cells_rec] at hsz
  obtain ⟨fuel, hf⟩ := h
  obtain ⟨l⟩ := cs
  obtain ⟨r, e, h1⟩ := rec_cells (cs := l) (show l.length = 4 by simpa using hsz) hf
  have e' : l = _ := e
  subst e'
  exact ⟨r, rfl, h1⟩
/-- How many texts may come in. -/
theorem texts_sized {ts : List TypeId} {ds : List (DataW H)} {j n c : Nat} {A : Option Addr} {d : DataW H} {p : List MemPlace} (hsz : (DataW.weightsEach Tryz.prog ts ds).all (· ≤ reachBytes) = true) (ht : ts[j]? = some 25) (hd : ds[j]? = some d)
    (h : DataW.Trod enc Tryz.prog W 0 (fun _ => true) true 25 (.slice A n c) d p) : (2 + n) * 16 ≤ 140737488355328 := by
  obtain ⟨fuel, hf⟩ := h
  rcases Go.Deep.open_slice Tryz.underlying25 (show DataW.trod enc Tryz.prog W 0 (fun _ => true) true fuel 25 [.slice A n c] = some (d, p) by simpa [Value.cells] using hf) with ⟨hcs, _⟩ | ⟨a, len, cap, m, n', D, Pl, hcs, _, hl, hm, hmm, hx, hi⟩
  · simp only [List.cons.injEq, and_true, Value.slice.injEq] at hcs
    omega
  · simp only [List.cons.injEq, and_true, Value.slice.injEq] at hcs
    obtain ⟨rfl, rfl, rfl⟩ := hcs
    simp only [Prod.mk.injEq] at hx
    obtain ⟨rfl, _⟩ := hx
    have := sized_slice hsz ht hd Tryz.underlying25
    rw [show Tryz.prog.bytesOf 9 = 16 by kernel_rfl] at this
    simp only [List.length_map, List.length_range, reachBytes] at this
    omega
end
end Go.Proofs.YtnaoandleelbkaaGreatDoor
