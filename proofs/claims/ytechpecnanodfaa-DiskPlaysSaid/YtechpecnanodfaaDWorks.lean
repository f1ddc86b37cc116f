/-
  The laws' two and works.
-/
import Derived.Test.YtechpecnanodfaaDObs
namespace Go.Proofs.Ytechpecnanodfaa
open Go Go.RowKit Go.Maps
set_option maxRecDepth 100000
set_option linter.unusedSimpArgs false
set_option linter.unusedVariables false

section
variable {w0 w : World} {os : List Ob} (h : Obs w0 w os)
include h
theorem full_o (y : UInt8) : Calls Try.prog 12 #[.int .u8 (y.toNat : Int)] w fun e w' => e = .returned (sv (fullL y)) ∧ Obs w0 w' os :=
  (full_any y).mono fun e w' hh => ⟨hh.1, h.step hh.2⟩
theorem new_o {n : Nat} (h1 : 1 ≤ n) (h2 : n ≤ 1024) : Calls Try.prog 20 #[.int .i64 (n : Int)] w fun e w' => ∃ p bl bd, e = .returned (.tuple #[dp p, .int .i64 0]) ∧ Obs w0 w' (os ++ [pdOb p bl bd (DS.new n)]) :=
  (new_any h1 h2).mono fun e w' ⟨p, bl, bd, he, hP, hb, h1, h2, h3⟩ => ⟨p, bl, bd, he, h.addD hP hb ⟨h1, h2, h3⟩⟩
theorem copy_o {p bl bd : Nat} {S : DS} (i : Nat) (hi : os[i]? = some (pdOb p bl bd S)) : Calls Try.prog 19 #[dp p] w fun e w' => ∃ q cl cd, e = .returned (dp q) ∧ Obs w0 w' (os ++ [pdOb q cl cd S]) :=
  (copy_any (h.get hi)).mono fun e w' ⟨p, bl, bd, he, hP, hb, h1, h2, h3⟩ => ⟨p, bl, bd, he, h.addD hP hb ⟨h1, h2, h3⟩⟩
end

/-- The disk of the examples. -/
def tw1 : DS := (DS.new 2).wr 0 (fullL 97)
def tw2 : DS := tw1.sync
def tw3 : DS := tw2.wr 0 (fullL 98)
def twoS : DS := tw3.wr 1 (fullL 98)
theorem tw_ops : (DS.new 2).ops < 4611686018427387904 ∧ tw1.ops < 4611686018427387904 ∧ tw2.ops < 4611686018427387904 ∧ tw3.ops < 4611686018427387904 := by decide +kernel

set_option maxHeartbeats 1000000 in
theorem two_any {w0 w : World} {os : List Ob} (h : Obs w0 w os) : Calls Try.prog 32 #[] w fun e w' => ∃ p bl bd, e = .returned (dp p) ∧ Obs w0 w' (os ++ [pdOb p bl bd twoS]) := by
  have H0 := Lib.hid h
  clear h
  obtain ⟨o0, o1, o2, o3⟩ := tw_ops
  have hget : ∀ (p bl bd : Nat) (S : DS), (os ++ [pdOb p bl bd S])[os.length]? = some (pdOb p bl bd S) := fun p bl bd S => by simp
  have hset : ∀ (p bl bd : Nat) (S T : DS), (os ++ [pdOb p bl bd S]).set os.length (pdOb p bl bd T) = os ++ [pdOb p bl bd T] := fun p bl bd S T => by simp
  have fl : ∀ y, (fullL y).length ≤ 140737488355328 := fun y => by rw [fullL_length]; omega
  have F97 : ∀ W os', Obs w0 W os' → Calls Try.prog 12 #[.int .u8 97] W fun e w' => e = .returned (sv (fullL 97)) ∧ Obs w0 w' os' := fun W os' h => full_o h 97
  have F98 : ∀ W os', Obs w0 W os' → Calls Try.prog 12 #[.int .u8 98] W fun e w' => e = .returned (sv (fullL 98)) ∧ Obs w0 w' os' := fun W os' h => full_o h 98
  have FF := Lib.hid (And.intro F97 F98)
  have HG := Lib.hid hget
  have HS := Lib.hid hset
  have FL := Lib.hid fl
  have OO := Lib.hid (And.intro o0 (And.intro o1 (And.intro o2 o3)))
  clear F97 F98 hget hset fl o0 o1 o2 o3
  go_enter Try.func32, Try.ntmps32
  go_wp2_with (go_at_call 20; refine (new_o (n := 2) H0.out (by omega) (by omega)).mono ?_; rintro e w1 ⟨p, bl, bd, rfl, h1⟩; have H1 := Lib.hid h1; clear h1)
  have W1 := Lib.hid (fun (W : World) (h : Obs w0 W (os ++ [pdOb p bl bd (DS.new 2)])) => write_o h os.length (HG.out _ _ _ _) OO.out.1 0 (fullL 97) (FL.out _))
  have W2 := Lib.hid (fun (W : World) (h : Obs w0 W (os ++ [pdOb p bl bd tw1])) => sync_o h os.length (HG.out _ _ _ _) OO.out.2.1)
  have W3 := Lib.hid (fun (W : World) (h : Obs w0 W (os ++ [pdOb p bl bd tw2])) => write_o h os.length (HG.out _ _ _ _) OO.out.2.2.1 0 (fullL 98) (FL.out _))
  have W4 := Lib.hid (fun (W : World) (h : Obs w0 W (os ++ [pdOb p bl bd tw3])) => write_o h os.length (HG.out _ _ _ _) OO.out.2.2.2 1 (fullL 98) (FL.out _))
  go_wp2_with (first
    | (go_at_call 12; refine (FF.out.1 _ _ H1.out).mono ?_; rintro e w2 ⟨rfl, h2⟩; have H2 := Lib.hid h2; clear h2 H1)
    | (go_at_call 11; refine (W1.out _ H2.out).mono ?_; rintro e w3 ⟨rfl, h3⟩; have H3 := Lib.hid (show Obs w0 w3 (os ++ [pdOb p bl bd tw1]) by rw [HS.out] at h3; exact h3); clear h3 H2)
    | (go_at_call 13; refine (W2.out _ H3.out).mono ?_; rintro e w4 ⟨rfl, h4⟩; have H4 := Lib.hid (show Obs w0 w4 (os ++ [pdOb p bl bd tw2]) by rw [HS.out] at h4; exact h4); clear h4 H3)
    | (go_at_call 12; refine (FF.out.2 _ _ H4.out).mono ?_; rintro e w5 ⟨rfl, h5⟩; have H5 := Lib.hid h5; clear h5 H4)
    | (go_at_call 11; refine (W3.out _ H5.out).mono ?_; rintro e w6 ⟨rfl, h6⟩; have H6 := Lib.hid (show Obs w0 w6 (os ++ [pdOb p bl bd tw3]) by rw [HS.out] at h6; exact h6); clear h6 H5)
    | (go_at_call 12; refine (FF.out.2 _ _ H6.out).mono ?_; rintro e w7 ⟨rfl, h7⟩; have H7 := Lib.hid h7; clear h7 H6)
    | (go_at_call 11; refine (W4.out _ H7.out).mono ?_; rintro e w8 ⟨rfl, h8⟩; have H8 := Lib.hid (show Obs w0 w8 (os ++ [pdOb p bl bd twoS]) by rw [HS.out] at h8; exact h8); clear h8 H7))
  go_ret
  exact ⟨p, bl, bd, rfl, H8.out⟩
end Go.Proofs.Ytechpecnanodfaa
