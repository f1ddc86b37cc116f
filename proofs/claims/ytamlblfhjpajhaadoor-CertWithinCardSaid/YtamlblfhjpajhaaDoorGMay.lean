/-
  The contract of May.
-/
import Derived.Test.YtamlblfhjpajhaaDoorGLeaf
namespace Go.Proofs.YtamlblfhjpajhaaDoor
set_option linter.unusedSimpArgs false
set_option linter.unusedVariables false
open Go Go.RowKit
set_option maxRecDepth 100000

/-- A certificate's box. -/
abbrev cellsC (c : Ct) (nv : Value) : Obj := .cells #[sv c.key, sv c.sig, nv, .int .i64 c.fr, .int .i64 c.un, .bool c.ca] 24
/-- Block k is a box with a certificate. -/
def CB (W : World) (k : Nat) (c : Ct) (nv : Value) : Prop := W.heap[k]? = some (.cells #[sv c.key, sv c.sig, nv, .int .i64 c.fr, .int .i64 c.un, .bool c.ca] 24 (0, 0))
theorem CB.lt {W : World} {k : Nat} {c : Ct} {nv : Value} (h : CB W k c nv) : k < W.heap.size := lt_of_blk h
theorem CB.new (W : World) (c : Ct) (nv : Value) : CB (W.alloc (cellsC c nv)) W.heap.size c nv := heap_alloc_new W _
theorem CB.below {W W' : World} {k n : Nat} {c : Ct} {nv : Value} (h : CB W k c nv) (hb : Below n W W') (hn : k < n) : CB W' k c nv := (hb.block k hn).trans h
theorem CB.step {W W' : World} {k : Nat} {c : Ct} {nv : Value} (h : CB W k c nv) (hb : Below W.heap.size W W') : CB W' k c nv := h.below hb h.lt
theorem CB.c0 {W : World} {k : Nat} {c : Ct} {nv : Value} (h : CB W k c nv) : W.cell? ⟨k, 0, none⟩ = some (sv c.key) := by rw [cellAt h]; rfl
theorem CB.c1 {W : World} {k : Nat} {c : Ct} {nv : Value} (h : CB W k c nv) : W.cell? ⟨k, 1, none⟩ = some (sv c.sig) := by rw [cellAt h]; rfl
theorem CB.c2 {W : World} {k : Nat} {c : Ct} {nv : Value} (h : CB W k c nv) : W.cell? ⟨k, 2, none⟩ = some nv := by rw [cellAt h]; rfl
theorem CB.c3 {W : World} {k : Nat} {c : Ct} {nv : Value} (h : CB W k c nv) : W.cell? ⟨k, 3, none⟩ = some (.int .i64 c.fr) := by rw [cellAt h]; rfl
theorem CB.c4 {W : World} {k : Nat} {c : Ct} {nv : Value} (h : CB W k c nv) : W.cell? ⟨k, 4, none⟩ = some (.int .i64 c.un) := by rw [cellAt h]; rfl
theorem CB.c5 {W : World} {k : Nat} {c : Ct} {nv : Value} (h : CB W k c nv) : W.cell? ⟨k, 5, none⟩ = some (.bool c.ca) := by rw [cellAt h]; rfl
theorem CB.free {W : World} {k : Nat} {c : Ct} {nv : Value} (h : CB W k c nv) (j : Nat) : W.frozen? ⟨k, j, none⟩ = false := freeAt h j

set_option maxHeartbeats 4000000 in
theorem mayC_any {w : World} (c : Ct) (A : Option Addr) (cp : Nat) (hx : SX w (.slice A c.names.length cp) c.names) (hs : shortC c) (hw : GL w) :
    Calls Tryd.prog 9 #[certV c (.slice A c.names.length cp)] w fun e w' => e = .returned (.bool (mayC c)) ∧ Below w.heap.size w w' := by
  obtain ⟨key, sig, names, fr, un, ca⟩ := c
  obtain ⟨s1, s2, s3, s4⟩ := hs
  simp only at s1 s2 s3 s4 hx
  have HG := Lib.hid ((Gb.start hw).alloc (.cells #[sv key, sv sig, .slice A names.length cp, .int .i64 fr, .int .i64 un, .bool ca] 24))
  have HC := Lib.hid (CB.new w ⟨key, sig, names, fr, un, ca⟩ (.slice A names.length cp))
  have HX := Lib.hid hx
  have hN := fun W (h : Gb w W) => arePatterns_any names A cp (HX.out.step h.1) s4 s3 h.2
  have hK := fun W : World => @isKey_any W key (by omega)
  have hF := fun W : World => @isTime_any W fr
  have hU := fun W : World => @isTime_any W un
  have hz := str_size sig
  have hm : mayC ⟨key, sig, names, fr, un, ca⟩ = ((((keyB key && (sig.length == 32)) && names.all patL) && timeB fr) && timeB un) := rfl
  obtain ⟨b1, h1⟩ : ∃ b, b = keyB key := ⟨_, rfl⟩
  obtain ⟨b2, h2⟩ : ∃ b, b = names.all patL := ⟨_, rfl⟩
  obtain ⟨b3, h3⟩ : ∃ b, b = timeB fr := ⟨_, rfl⟩
  obtain ⟨b4, h4⟩ : ∃ b, b = timeB un := ⟨_, rfl⟩
  rw [← h1] at hK hm
  rw [← h2] at hN hm
  rw [← h3] at hF hm
  rw [← h4] at hU hm
  have HN := Lib.hid hN
  have HK := Lib.hid hK
  have HF := Lib.hid hF
  have HU := Lib.hid hU
  have HM := Lib.hid hm
  show Calls Tryd.prog 9 #[.agg #[sv key, sv sig, .slice A names.length cp, .int .i64 fr, .int .i64 un, .bool ca]] w _
  clear hx hw hN hK hF hU hm h1 h2 h3 h4
  by_cases h32 : sig.length = 32
  all_goals have h32' : ((sig.length : Int) == 32) = (sig.length == 32) := by rw [Bool.eq_iff_iff, beq_iff_eq, beq_iff_eq]; omega
  · rw [show (sig.length == 32) = true from by simp [h32]] at HM
    cases b1
    all_goals (cases b2)
    all_goals (cases b3)
    all_goals
      go_enter Tryd.func9, Tryd.ntmps9
      go_wp2_with (first | (go_at_call 18; with_reducible refine (HK.out _).mono ?_; rintro e w1 ⟨rfl, rfl⟩) | (go_at_call 19; with_reducible refine (HN.out _ HG.out).mono ?_; rintro e w2 ⟨rfl, hb2⟩; have HB2 := Lib.hid (HG.out.step hb2); have q3 := (HC.out.step hb2).c3; have q4 := (HC.out.step hb2).c4; simp only at q3 q4; clear hb2) | (go_at_call 20; with_reducible refine (HF.out _).mono ?_; rintro e w1 ⟨rfl, rfl⟩) | (go_at_call 20; with_reducible refine (HU.out _).mono ?_; rintro e w1 ⟨rfl, rfl⟩))
      go_ret
      rw [HM.out]
      exact ⟨rfl, by first | exact HB2.out.1 | exact HG.out.1⟩
  · rw [show (sig.length == 32) = false from by simp [h32]] at HM
    have hni : ¬ (sig.length : Int) = 32 := by omega
    cases b1
    all_goals
      go_enter Tryd.func9, Tryd.ntmps9
      go_wp2_with (first | (go_at_call 18; with_reducible refine (HK.out _).mono ?_; rintro e w1 ⟨rfl, rfl⟩))
      go_ret
      rw [HM.out]
      exact ⟨rfl, HG.out.1⟩
end Go.Proofs.YtamlblfhjpajhaaDoor
