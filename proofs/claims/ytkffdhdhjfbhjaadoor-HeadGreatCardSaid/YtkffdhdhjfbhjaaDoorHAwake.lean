/-
  The law's are and awake: the examples.
-/
import Derived.Test.YtkffdhdhjfbhjaaDoorHBody
namespace Go.Proofs.YtkffdhdhjfbhjaaDoor
set_option linter.unusedSimpArgs false
set_option linter.unusedVariables false
open Go Go.RowKit Go.Shelf
set_option maxRecDepth 100000

/-- The program's memory, and what it reads of its variables: below w0's end nothing has turned. -/
def BL (w0 w : World) : Prop := Below w0.heap.size w0 w ∧ ML w
theorem BL.start {w : World} (h : ML w) : BL w w := ⟨Below.refl _ _, h⟩
theorem BL.step {w0 w w' : World} (h : BL w0 w) (hb : Below w.heap.size w w') : BL w0 w' := ⟨h.1.trans (hb.mono h.1.size), h.2.step hb⟩
theorem BL.drew {w0 w : World} (h : BL w0 w) : BL w0 w.drew := ⟨h.1.drew, h.2⟩
theorem BL.drewN {w0 w : World} (h : BL w0 w) (n : Nat) : BL w0 (w.drewN n) := ⟨below_drewN h.1 n, h.2⟩
theorem BL.alloc {w0 w : World} (h : BL w0 w) (o : Obj) : BL w0 (w.alloc o) := h.step (below_alloc _ _)

/-- Names and values by turns, in a slice of texts. -/
def TR (w : World) (v : Value) (ps : List FP) : Prop :=
  ∃ A c, v = .slice A (ps.length * 2) c ∧ (0 < ps.length → ∃ g off, A = some ⟨g, off, none⟩ ∧ g < w.heap.size ∧
    ∀ j, j < ps.length → w.cell? ⟨g, off + j * 2, none⟩ = some (sv (ps.getD j pm0).1) ∧ w.cell? ⟨g, off + j * 2 + 1, none⟩ = some (sv (ps.getD j pm0).2))
theorem TR.step {w w' : World} {v : Value} {ps : List FP} (h : TR w v ps) (hb : Below w.heap.size w w') : TR w' v ps := by
  obtain ⟨A, c, rfl, h⟩ := h
  refine ⟨A, c, rfl, fun hp => ?_⟩
  obtain ⟨g, off, e, hl, hc⟩ := h hp
  exact ⟨g, off, e, Nat.lt_of_lt_of_le hl hb.size, fun j hj => ⟨(hb.cell (p := ⟨g, off + j * 2, none⟩) hl).trans (hc j hj).1, (hb.cell (p := ⟨g, off + j * 2 + 1, none⟩) hl).trans (hc j hj).2⟩⟩
theorem TR.nil (w : World) : TR w (.slice none 0 0) [] := ⟨none, 0, rfl, fun h => absurd h (by decide)⟩

set_option maxHeartbeats 4000000 in
theorem are_any (s : List UInt8) (ps : List FP) (v : Value) (w0 w : World) (h : BL w0 w) (hs : s.length ≤ 1000000) (hf : fieldsL s = ps) (hv : TR w v ps) :
    Calls Tryd.prog 10 #[sv s, v] w fun e w' => e = .returned (.bool true) ∧ BL w0 w' := by
  have HF := Lib.hid (fields_any s w hs h.2)
  have hpl := fields_len s
  rw [hf] at HF hpl
  have HV := Lib.hid hv
  have HBL := Lib.hid h
  obtain ⟨B, d, rfl, _⟩ := hv
  clear h hf
  go_enter Tryd.func10, Tryd.ntmps10
  go_wp2_with (go_at_call 16; refine HF.out.mono ?_; rintro e w1 ⟨v, rfl, hb1, ho⟩; obtain ⟨A, c, rfl⟩ := ho.form)
  have HP := Lib.hid ho.pr
  have HV1 := Lib.hid (HV.out.step hb1)
  have HB1 := Lib.hid (HBL.out.step hb1)
  clear ho hb1
  have hne : ((2 * (ps.length : Int)) != ((ps.length * 2 : Nat) : Int)) = false := by rw [bne_eq_false_iff_eq]; omega
  go_wp2_with fail
  go_loopw [6] (fun i wr => ∃ k : Nat, k ≤ ps.length ∧ i = .int .i64 k ∧ BL w0 wr ∧ Below w1.heap.size w1 wr) (fun i _ => ps.length - (intOf i).toNat)
  case atStart => exact ⟨0, Nat.zero_le _, rfl, HB1.out, Below.refl _ _⟩
  case round =>
    obtain ⟨k, hk, rfl, hbl, hb⟩ := hrel
    have HL := Lib.hid hbl
    have HB := Lib.hid hb
    clear hbl hb
    by_cases hlt : k < ps.length
    · obtain ⟨g, o, rfl, hg, a0, a1⟩ := PR.at (HP.out.step HB.out) hlt
      obtain ⟨A2, c2, e2, h2⟩ := HV1.out.step HB.out
      obtain ⟨rfl, rfl⟩ : B = A2 ∧ d = c2 := by simpa using e2
      obtain ⟨g2, o2, rfl, hg2, hc2⟩ := h2 (by omega)
      obtain ⟨b0, b1⟩ := hc2 k hlt
      obtain ⟨p, hp⟩ : ∃ p, p = ps.getD k pm0 := ⟨_, rfl⟩
      rw [← hp] at a0 a1 b0 b1
      obtain ⟨n, x⟩ := p
      dsimp only at a0 a1 b0 b1
      have b0' : wr.cell? ⟨g2, o2 + 2 * k, none⟩ = some (sv n) := by rw [Nat.mul_comm]; exact b0
      have b1' : wr.cell? ⟨g2, o2 + (2 * k + 1), none⟩ = some (sv x) := by rw [← Nat.add_assoc, Nat.mul_comm 2 k]; exact b1
      have b1'' : wr.cell? ⟨g2, o2 + 2 * k + 1, none⟩ = some (sv x) := by rw [Nat.mul_comm 2 k]; exact b1
      have hk1 : (0 : Int) ≤ (k : Int) := by omega
      have hk2 : (k : Int) < (ps.length : Int) := by omega
      clear hp hc2 h2 e2
      go_wp2_with fail
      go_quiet (fail)
      go_wp2_with fail
      go_roundw
      case rel => exact ⟨k + 1, by omega, by go_num, HL.out.drewN _, below_drewN HB.out _⟩
      case measure => simp [intOf]; omega
    · obtain rfl : k = ps.length := by omega
      go_wp2_with fail
      go_ret
      exact ⟨rfl, HL.out⟩
end Go.Proofs.YtkffdhdhjfbhjaaDoor
