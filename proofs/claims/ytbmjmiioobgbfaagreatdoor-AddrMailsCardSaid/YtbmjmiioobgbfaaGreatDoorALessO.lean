/-
  A mail that came in, opened: its texts, its recipients.
-/
import Derived.Deep.Slices
import Derived.Deep.Fields
import Derived.ChangeSame
import Derived.ChangeArms
import Derived.Carry
import Derived.ProofKit
import Derived.Test.YtbmjmiioobgbfaaGreatDoorALess1
namespace Go.Proofs.YtbmjmiioobgbfaaGreatDoor
open Go Go.RowKit Go.WideShapes Go.ChangeShapes Go.ChangeAt
set_option maxRecDepth 100000

theorem cells_rcpt : Tryz.prog.cellsOf 31 = 2 := by kernel_rfl
theorem cells_mail : Tryz.prog.cellsOf 24 = 5 := by kernel_rfl
theorem cells_text : Tryz.prog.cellsOf 9 = 1 := by kernel_rfl
theorem cells_flag : Tryz.prog.cellsOf 4 = 1 := by kernel_rfl
theorem cells_rcpts : Tryz.prog.cellsOf 22 = 1 := by kernel_rfl

section
variable {H : Type} {enc : TypeId × Value → H} {W : World}
theorem text_opened {n : Nat} {v : Value} {y : DataW H × List MemPlace} (h : DataW.trod enc Tryz.prog W 0 (fun _ => true) true n 9 [v] = some y) : ∃ s : List UInt8, v = sv s ∧ s.length ≤ 9223372036854775807 := by
  obtain ⟨s, e, _, hl⟩ := DataW.trod_string Tryz.underlying9 h
  obtain ⟨l, rfl, hl'⟩ := to_str s
  simp only [List.cons.injEq, and_true] at e
  refine ⟨l, e, ?_⟩
  unfold maxLen at hl
  omega
theorem flag_opened {n : Nat} {v : Value} {y : DataW H × List MemPlace} (h : DataW.trod enc Tryz.prog W 0 (fun _ => true) true n 4 [v] = some y) : ∃ b : Bool, v = .bool b := by
  obtain ⟨b, e, _⟩ := DataW.trod_bool Tryz.underlying4 h
  simp only [List.cons.injEq, and_true] at e
  exact ⟨b, e⟩
theorem rcpt_opened {n : Nat} {c0 c1 : Value} {y : DataW H × List MemPlace} (h : DataW.trod enc Tryz.prog W 0 (fun _ => true) true n 31 [c0, c1] = some y) :
    ∃ r : RC, c0 = sv r.1 ∧ c1 = .bool r.2 ∧ r.1.length ≤ 9223372036854775807 := by
  obtain ⟨xs, k, _, _, _, hxl, hg⟩ := DataW.trod_struct Tryz.underlying31 h
  match xs, hxl with
  | [y0, y1], _ =>
    have g0 : DataW.trod enc Tryz.prog W 0 (fun _ => true) true k 9 ((([c0, c1] : List Value).drop 0).take (Tryz.prog.cellsOf 9)) = [y0, y1][0]? := hg 0 _ rfl
    have g1 : DataW.trod enc Tryz.prog W 0 (fun _ => true) true k 4 ((([c0, c1] : List Value).drop 1).take (Tryz.prog.cellsOf 4)) = [y0, y1][1]? := hg 1 _ rfl
    rw [cells_text] at g0
    rw [cells_flag] at g1
    obtain ⟨s, rfl, hs⟩ := text_opened (y := y0) (by simpa using g0)
    obtain ⟨b, rfl⟩ := flag_opened (y := y1) (by simpa using g1)
    exact ⟨(s, b), rfl, rfl, hs⟩
theorem rcpts_opened {n : Nat} {v : Value} {y : DataW H × List MemPlace} (h : DataW.trod enc Tryz.prog W 0 (fun _ => true) true n 22 [v] = some y) :
    ∃ (A : Option Addr) (c : Nat) (rs : List RC), v = .slice A rs.length c ∧ RcIs W (.slice A rs.length c) rs ∧ rs.length ≤ c ∧ rs.length ≤ 9223372036854775807 ∧ ∀ r ∈ rs, r.1.length ≤ 9223372036854775807 := by
  rcases Go.Deep.open_slice Tryz.underlying22 h with ⟨hcs, _⟩ | ⟨a, len, cap, m, n', D, Pl, hcs, _, hl, hm, hmm, _, hi⟩
  · simp only [List.cons.injEq, and_true] at hcs
    exact ⟨none, 0, [], hcs, ⟨none, 0, rfl, fun h => absurd h (by decide)⟩, Nat.zero_le _, Nat.zero_le _, fun r hr => by cases hr⟩
  · simp only [List.cons.injEq, and_true] at hcs
    subst hcs
    have hmc : m = cap := by simpa using hmm
    have hr : ∀ i, ∃ r : RC, i < len → W.cell? (a.add (i * 2)) = some (sv r.1) ∧ W.cell? (a.add (i * 2 + 1)) = some (.bool r.2) ∧ r.1.length ≤ 9223372036854775807 := by
      intro i
      by_cases hlt : i < len
      · obtain ⟨cs', hc, ht⟩ := hi i (by omega)
        rw [cells_rcpt] at hc
        obtain ⟨_, hcl, hat⟩ := World.cells?_some hc
        match cs', hcl with
        | [c0, c1], _ =>
          obtain ⟨r, e0, e1, hlr⟩ := rcpt_opened ht
          have h0 := hat 0 (by omega)
          have h1 := hat 1 (by omega)
          rw [Go.Deep.add_add] at h0 h1
          subst e0 e1
          exact ⟨r, fun _ => ⟨h0, h1, hlr⟩⟩
      · exact ⟨rc0, fun h => absurd h hlt⟩
    obtain ⟨R, hR⟩ := Classical.axiomOfChoice hr
    have hle : ((List.range len).map R).length = len := by simp
    refine ⟨some a, cap, (List.range len).map R, by rw [hle], ?_, by rw [hle]; exact hl, by rw [hle]; unfold maxLen at hm; omega, ?_⟩
    · refine ⟨some a, cap, rfl, fun hp => ?_⟩
      rw [hle] at hp
      obtain ⟨b, off, spot⟩ := a
      have hspot : spot = none := by simpa [Addr.add] using World.cell?_spot (hR 0 hp).1
      subst hspot
      refine ⟨b, off, rfl, block_lt_of_cell (a := ⟨b, off, none⟩) (by simpa [Addr.add] using (hR 0 hp).1), fun j hj => ?_⟩
      rw [hle] at hj
      have e : ((List.range len).map R).getD j rc0 = R j := by
        rw [List.getD_eq_getElem?_getD, List.getElem?_map, List.getElem?_range hj]; rfl
      obtain ⟨h0, h1, _⟩ := hR j hj
      rw [add_plain] at h0 h1
      rw [e]
      exact ⟨h0, by rw [Nat.add_assoc]; exact h1⟩
    · intro r hr
      obtain ⟨i, hi2, rfl⟩ := List.mem_map.1 hr
      exact (hR i (List.mem_range.1 hi2)).2.2
theorem mail_opened {b0 : Nat} {v : Value} {d : DataW H} {p : List MemPlace} (hv : Value.okWide Tryz.prog W .any b0 24 v) (h : DataW.Trod enc Tryz.prog W 0 (fun _ => true) true 24 v d p) :
    ∃ (f en tx : List UInt8) (q : Bool) (rs : List RC) (A : Option Addr) (c : Nat), v = mailV f (.slice A rs.length c) q en tx ∧ RcIs W (.slice A rs.length c) rs ∧ rs.length ≤ c ∧ rs.length ≤ 9223372036854775807 ∧ (∀ r ∈ rs, r.1.length ≤ 9223372036854775807) ∧
      f.length ≤ 9223372036854775807 ∧ en.length ≤ 9223372036854775807 ∧ tx.length ≤ 9223372036854775807 := by
  obtain ⟨cs, rfl, hsz⟩ := okWide_struct Tryz.underlying24 hv
  rw [cells_mail] at hsz
  obtain ⟨l⟩ := cs
  match l, hsz with
  | [c0, c1, c2, c3, c4], _ =>
    obtain ⟨fuel, hf⟩ := h
    obtain ⟨xs, n, _, _, _, hxl, hg⟩ := DataW.trod_struct Tryz.underlying24 hf
    match xs, hxl with
    | [y0, y1, y2, y3, y4], _ =>
      have g0 : DataW.trod enc Tryz.prog W 0 (fun _ => true) true n 9 ((([c0, c1, c2, c3, c4] : List Value).drop 0).take (Tryz.prog.cellsOf 9)) = [y0, y1, y2, y3, y4][0]? := hg 0 _ rfl
      have g1 : DataW.trod enc Tryz.prog W 0 (fun _ => true) true n 22 ((([c0, c1, c2, c3, c4] : List Value).drop 1).take (Tryz.prog.cellsOf 22)) = [y0, y1, y2, y3, y4][1]? := hg 1 _ rfl
      have g2 : DataW.trod enc Tryz.prog W 0 (fun _ => true) true n 4 ((([c0, c1, c2, c3, c4] : List Value).drop 2).take (Tryz.prog.cellsOf 4)) = [y0, y1, y2, y3, y4][2]? := hg 2 _ rfl
      have g3 : DataW.trod enc Tryz.prog W 0 (fun _ => true) true n 9 ((([c0, c1, c2, c3, c4] : List Value).drop 3).take (Tryz.prog.cellsOf 9)) = [y0, y1, y2, y3, y4][3]? := hg 3 _ rfl
      have g4 : DataW.trod enc Tryz.prog W 0 (fun _ => true) true n 9 ((([c0, c1, c2, c3, c4] : List Value).drop 4).take (Tryz.prog.cellsOf 9)) = [y0, y1, y2, y3, y4][4]? := hg 4 _ rfl
      rw [cells_text] at g0 g3 g4
      rw [cells_rcpts] at g1
      rw [cells_flag] at g2
      obtain ⟨f, rfl, hf1⟩ := text_opened (y := y0) (by simpa [Value.cells] using g0)
      obtain ⟨A, c, rs, rfl, hrc, hc, hl, hx⟩ := rcpts_opened (y := y1) (by simpa [Value.cells] using g1)
      obtain ⟨q, rfl⟩ := flag_opened (y := y2) (by simpa [Value.cells] using g2)
      obtain ⟨en, rfl, hen⟩ := text_opened (y := y3) (by simpa [Value.cells] using g3)
      obtain ⟨tx, rfl, htx⟩ := text_opened (y := y4) (by simpa [Value.cells] using g4)
      exact ⟨f, en, tx, q, rs, A, c, rfl, hrc, hc, hl, hx, hf1, hen, htx⟩
end
end Go.Proofs.YtbmjmiioobgbfaaGreatDoor
