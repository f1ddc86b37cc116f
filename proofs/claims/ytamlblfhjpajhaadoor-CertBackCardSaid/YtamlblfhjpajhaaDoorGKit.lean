/-
  The contracts of the laws' calls, with whatever lies by kept.
-/
import Derived.Test.YtamlblfhjpajhaaDoorGCutC
namespace Go.Proofs.YtamlblfhjpajhaaDoor
set_option linter.unusedSimpArgs false
set_option linter.unusedVariables false
open Go Go.RowKit
set_option maxRecDepth 100000

/-- What stays behind new memory, where the laid variables are as they are. -/
structure Cl (P : World → Prop) : Prop where
  step : ∀ {W W' : World}, P W → Below W.heap.size W W' → P W'
  gl : ∀ {W : World}, P W → GL W
theorem Cl.gb {w : World} : Cl (Gb w) := ⟨fun h hb => h.step hb, fun h => h.2⟩
/-- A certificate's box and its names. -/
def BX (W : World) (k : Nat) (c : Ct) (A : Option Addr) (cp : Nat) : Prop := CB W k c (.slice A c.names.length cp) ∧ SX W (.slice A c.names.length cp) c.names
theorem BX.step {W W' : World} {k : Nat} {c : Ct} {A : Option Addr} {cp : Nat} (h : BX W k c A cp) (hb : Below W.heap.size W W') : BX W' k c A cp := ⟨h.1.step hb, h.2.step hb⟩
theorem BX.cells {W : World} {k : Nat} {c : Ct} {A : Option Addr} {cp : Nat} (h : BX W k c A cp) : W.cell? ⟨k, 0, none⟩ = some (sv c.key) ∧ W.cell? ⟨k, 1, none⟩ = some (sv c.sig) ∧ W.cell? ⟨k, 2, none⟩ = some (.slice A c.names.length cp) ∧ W.cell? ⟨k, 3, none⟩ = some (.int .i64 c.fr) ∧ W.cell? ⟨k, 4, none⟩ = some (.int .i64 c.un) ∧ W.cell? ⟨k, 5, none⟩ = some (.bool c.ca) := ⟨h.1.c0, h.1.c1, h.1.c2, h.1.c3, h.1.c4, h.1.c5⟩
theorem BX.sx {W : World} {k : Nat} {c : Ct} {A : Option Addr} {cp : Nat} (h : BX W k c A cp) : SX W (.slice A c.names.length cp) c.names := h.2
theorem Cl.box {P : World → Prop} (h : Cl P) (k : Nat) (c : Ct) (A : Option Addr) (cp : Nat) : Cl (fun W => P W ∧ BX W k c A cp) := ⟨fun h1 hb => ⟨h.step h1.1 hb, h1.2.step hb⟩, fun h1 => h.gl h1.1⟩
theorem Cl.alloc {P : World → Prop} (h : Cl P) {W : World} (h1 : P W) (o : Obj) : P (W.alloc o) := h.step h1 (below_alloc _ _)
theorem box_new {P : World → Prop} (h : Cl P) {W : World} (h1 : P W) {c : Ct} {A : Option Addr} {cp : Nat} (hx : SX W (.slice A c.names.length cp) c.names) : P (W.alloc (cellsC c (.slice A c.names.length cp))) ∧ BX (W.alloc (cellsC c (.slice A c.names.length cp))) W.heap.size c A cp :=
  ⟨h.alloc h1 _, CB.new _ _ _, hx.step (below_alloc _ _)⟩

section
variable {P : World → Prop} {W : World} (hP : Cl P) (h : P W)
include hP h
theorem works_p : Calls Tryd.prog 6 #[] W fun e w' => e = .returned (.bool true) ∧ P w' := (works_any (hP.gl h)).mono fun e w' ⟨h1, h2⟩ => ⟨h1, hP.step h h2⟩
theorem large_p {c : Ct} {A : Option Addr} {cp : Nat} (hx : SX W (.slice A c.names.length cp) c.names) (hi : inC c) :
    Calls Tryd.prog 7 #[.agg #[sv c.key, sv c.sig, .slice A c.names.length cp, .int .i64 c.fr, .int .i64 c.un, .bool c.ca]] W fun e w' => ((e = .returned (.bool false) ∧ smallCt c) ∨ e = .returned (.bool true)) ∧ P w' :=
  (large_any c A cp hx hi.2.2.1 hi.1 hi.2.1 hi.2.2.2).mono fun e w' ⟨b, h1, h2, h3⟩ => ⟨by cases b with | false => exact .inl ⟨h1, h3 rfl⟩ | true => exact .inr h1, hP.step h h2⟩
theorem encode_p {c : Ct} {A : Option Addr} {cp : Nat} (hx : SX W (.slice A c.names.length cp) c.names) (hs : shortC c) :
    Calls Tryd.prog 8 #[.agg #[sv c.key, sv c.sig, .slice A c.names.length cp, .int .i64 c.fr, .int .i64 c.un, .bool c.ca]] W fun e w' => e = .returned (.tuple #[sv (encL c), .int .i64 (encE c : Nat)]) ∧ P w' :=
  (encode_any c A cp hx hs (hP.gl h)).mono fun e w' ⟨h1, h2⟩ => ⟨h1, hP.step h h2⟩
theorem may_p {c : Ct} {A : Option Addr} {cp : Nat} (hx : SX W (.slice A c.names.length cp) c.names) (hs : shortC c) :
    Calls Tryd.prog 9 #[.agg #[sv c.key, sv c.sig, .slice A c.names.length cp, .int .i64 c.fr, .int .i64 c.un, .bool c.ca]] W fun e w' => e = .returned (.bool (mayC c)) ∧ P w' :=
  (mayC_any c A cp hx hs (hP.gl h)).mono fun e w' ⟨h1, h2⟩ => ⟨h1, hP.step h h2⟩
theorem same_p {c d : Ct} {A B : Option Addr} {cp dp : Nat} (hx : SX W (.slice A c.names.length cp) c.names) (hy : SX W (.slice B d.names.length dp) d.names) (hs : shortC c) (ht : shortC d) :
    Calls Tryd.prog 11 #[.agg #[sv c.key, sv c.sig, .slice A c.names.length cp, .int .i64 c.fr, .int .i64 c.un, .bool c.ca], .agg #[sv d.key, sv d.sig, .slice B d.names.length dp, .int .i64 d.fr, .int .i64 d.un, .bool d.ca]] W fun e w' => e = .returned (.bool (sameB c d)) ∧ P w' :=
  (same_any c d A B cp dp hx hy hs (by have := ht.2.2.1; omega)).mono fun e w' ⟨h1, h2⟩ => ⟨h1, hP.step h h2⟩
theorem decode_p (s : List UInt8) (hs : s.length ≤ 9223372036854775807) : Calls Tryd.prog 10 #[sv s] W (DecI P s) := by
  refine (decode_any s hs (hP.gl h)).mono ?_
  rintro e w' ⟨h1, h2⟩
  cases hd : decO s with
  | none =>
    rw [hd] at h2
    refine ⟨ct0, none, 0, 0, h2, hP.step h h1, fun h0 => ?_⟩
    obtain ⟨d, hd2⟩ := decE_zero h0
    rw [hd] at hd2; cases hd2
  | some d =>
    rw [hd] at h2
    obtain ⟨A, cp, h3, h4⟩ := h2
    exact ⟨d, A, _, cp, by rw [(decO_some hd).2.2.2.2]; exact h3, hP.step h h1, fun _ => ⟨hd, rfl, h4.sx⟩⟩
/-- Of bytes that are one's. -/
theorem decode_yes {s : List UInt8} {c : Ct} (hd : decO s = some c) : Calls Tryd.prog 10 #[sv s] W fun e w' => ∃ A cp, e = .returned (.tuple #[certV c (.slice A c.names.length cp), .int .i64 0]) ∧ P w' ∧ SX w' (.slice A c.names.length cp) c.names := by
  refine (decode_any s (by have := (decO_some hd).1; omega) (hP.gl h)).mono ?_
  rintro e w' ⟨h1, h2⟩
  rw [hd] at h2
  obtain ⟨A, cp, h3, h4⟩ := h2
  exact ⟨A, cp, h3, hP.step h h1, h4.sx⟩
theorem decode_no {s : List UInt8} (hs : s.length ≤ 9223372036854775807) (hd : decO s = none) : Calls Tryd.prog 10 #[sv s] W fun e w' => e = .returned (.tuple #[certV ct0 (.slice none 0 0), .int .i64 (decE s : Nat)]) ∧ P w' := by
  refine (decode_any s hs (hP.gl h)).mono ?_
  rintro e w' ⟨h1, h2⟩
  rw [hd] at h2
  exact ⟨h2, hP.step h h1⟩
end
theorem dec_short {s : List UInt8} {c : Ct} (h : decO s = some c) : shortC c := by
  have h1 := (decO_some h).1
  unfold decO at h
  rw [if_neg (by omega)] at h
  cases hr : readC s with
  | none => rw [hr] at h; simp at h
  | some d =>
    rw [hr] at h
    simp only at h
    split at h
    · simp only [Option.some.injEq] at h
      subst h
      exact read_short hr h1
    · simp at h
theorem decE_none {s : List UInt8} (h : decO s = none) : decE s ≠ 0 := fun e => by
  obtain ⟨d, hd⟩ := decE_zero e
  rw [h] at hd; cases hd
end Go.Proofs.YtamlblfhjpajhaaDoor
