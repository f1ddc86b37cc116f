/-
  The contract of Encode.
-/
import Derived.Test.YtamlblfhjpajhaaDoorGWrite
namespace Go.Proofs.YtamlblfhjpajhaaDoor
set_option linter.unusedSimpArgs false
set_option linter.unusedVariables false
open Go Go.RowKit
set_option maxRecDepth 100000

set_option maxHeartbeats 4000000 in
theorem encode_any {w : World} (c : Ct) (A : Option Addr) (cp : Nat) (hx : SX w (.slice A c.names.length cp) c.names) (hs : shortC c) (hw : GL w) :
    Calls Tryd.prog 8 #[certV c (.slice A c.names.length cp)] w fun e w' => e = .returned (.tuple #[sv (encL c), .int .i64 (encE c : Nat)]) ∧ Below w.heap.size w w' := by
  obtain ⟨k, hk⟩ : ∃ k, k = w.heap.size := ⟨_, rfl⟩
  obtain ⟨W1, hW⟩ : ∃ W1, W1 = w.alloc (cellsC c (.slice A c.names.length cp)) := ⟨_, rfl⟩
  have hC1 : CB W1 k c (.slice A c.names.length cp) := by rw [hW, hk]; exact CB.new _ _ _
  have HC1 := Lib.hid hC1
  have HG1 := Lib.hid (show Gb w W1 by rw [hW]; exact (Gb.start hw).alloc _)
  have HM := Lib.hid (fun W (h : Gb w W) => show Calls Tryd.prog 9 #[.agg #[sv c.key, sv c.sig, .slice A c.names.length cp, .int .i64 c.fr, .int .i64 c.un, .bool c.ca]] W (fun e w' => e = .returned (.bool (mayC c)) ∧ Below W.heap.size W w') from mayC_any c A cp (hx.step h.1) hs h.2)
  have HW := Lib.hid hW
  have HK := Lib.hid hk
  have HX := Lib.hid hx
  have c0 := hC1.c0
  have c1 := hC1.c1
  have c2 := hC1.c2
  have c3 := hC1.c3
  have c4 := hC1.c4
  have c5 := hC1.c5
  obtain ⟨E, hE⟩ : ∃ E, E = encE c := ⟨_, rfl⟩
  obtain ⟨S, hS⟩ : ∃ S, S = encL c := ⟨_, rfl⟩
  rw [← hE, ← hS]
  have HE := Lib.hid hE
  have HS := Lib.hid hS
  clear hW hk hx hw hs hE hS hC1
  cases hm : mayC c with
  | false =>
    rw [hm] at HM
    have h4 : encE c = 4 := encE_form.2 (.inl hm)
    rw [h4] at HE
    rw [encE_not (c := c) (by omega)] at HS
    rw [HE.out, HS.out]
    clear hm h4
    unfold certV
    go_enter Tryd.func8, Tryd.ntmps8
    go_wp2_with fail
    rw [← HW.out, ← HK.out]
    go_wp2_with (go_at_call 9; refine (HM.out _ HG1.out).mono ?_; rintro e w1 ⟨rfl, hb1⟩)
    go_ret2
    exact ⟨rfl, (HG1.out.step hb1).1⟩
  | true =>
    rw [hm] at HM
    by_cases hl : 64 < c.names.length
    · have h4 : encE c = 4 := encE_form.2 (.inr hl)
      rw [h4] at HE
      rw [encE_not (c := c) (by omega)] at HS
      rw [HE.out, HS.out]
      have hl' : (64 : Int) < (c.names.length : Int) := by omega
      clear hm h4 hl
      unfold certV
      go_enter Tryd.func8, Tryd.ntmps8
      go_wp2_with fail
      rw [← HW.out, ← HK.out]
      go_wp2_with (go_at_call 9; refine (HM.out _ HG1.out).mono ?_; rintro e w1 ⟨rfl, hb1⟩; have q2 := (HC1.out.step hb1).c2)
      go_ret2
      exact ⟨rfl, (HG1.out.step hb1).1⟩
    · have hf : fewB c = true := fewB_iff.2 ⟨hm, by omega⟩
      have HR := Lib.hid (fun W (h : Gb w W) => show Calls Tryd.prog 17 #[.agg #[sv c.key, sv c.sig, .slice A c.names.length cp, .int .i64 c.fr, .int .i64 c.un, .bool c.ca]] W (fun e w' => e = .returned (sv (writeC c)) ∧ Below W.heap.size W w') from write_any c A cp (HX.out.step h.1) hf h.2)
      have hl' : ¬ (64 : Int) < (c.names.length : Int) := by omega
      have hwl : (writeC c).length ≤ 20000 := by have := row_le hf; have := putT_most 48 (rowC c); show (putT 48 (rowC c)).length ≤ _; omega
      have hz := str_size (writeC c)
      have hen : encE c = if 512 < (writeC c).length then 40 else 0 := by unfold encE; rw [if_neg (by rw [hf]; simp)]
      have hsl : encE c = 0 → encL c = writeC c := fun h => (encE_zero h).2.2
      obtain ⟨T, hT⟩ : ∃ T, T = writeC c := ⟨_, rfl⟩
      rw [← hT] at HR hwl hz hen hsl
      clear hm hl hf hT
      by_cases h5 : 512 < T.length
      · rw [if_pos h5] at hen
        rw [hen] at HE
        rw [encE_not (c := c) (by omega)] at HS
        rw [HE.out, HS.out]
        have h5' : (512 : Int) < (T.length : Int) := by omega
        clear h5 hen hsl
        unfold certV
        go_enter Tryd.func8, Tryd.ntmps8
        go_wp2_with fail
        rw [← HW.out, ← HK.out]
        go_wp2_with (first | (go_at_call 9; refine (HM.out _ HG1.out).mono ?_; rintro e w1 ⟨rfl, hb1⟩; have HG2 := Lib.hid (HG1.out.step hb1); have hC2 := HC1.out.step hb1; have q0 := hC2.c0; have q1 := hC2.c1; have q2 := hC2.c2; have q3 := hC2.c3; have q4 := hC2.c4; have q5 := hC2.c5; clear hC2 hb1) | (go_at_call 17; refine (HR.out _ HG2.out).mono ?_; rintro e w2 ⟨rfl, hb2⟩))
        go_ret2
        exact ⟨rfl, (HG2.out.step hb2).1⟩
      · rw [if_neg h5] at hen
        rw [hsl hen] at HS
        rw [hen] at HE
        rw [HE.out, HS.out]
        have h5' : ¬ (512 : Int) < (T.length : Int) := by omega
        clear h5 hen hsl
        unfold certV
        go_enter Tryd.func8, Tryd.ntmps8
        go_wp2_with fail
        rw [← HW.out, ← HK.out]
        go_wp2_with (first | (go_at_call 9; refine (HM.out _ HG1.out).mono ?_; rintro e w1 ⟨rfl, hb1⟩; have HG2 := Lib.hid (HG1.out.step hb1); have hC2 := HC1.out.step hb1; have q0 := hC2.c0; have q1 := hC2.c1; have q2 := hC2.c2; have q3 := hC2.c3; have q4 := hC2.c4; have q5 := hC2.c5; clear hC2 hb1) | (go_at_call 17; refine (HR.out _ HG2.out).mono ?_; rintro e w2 ⟨rfl, hb2⟩))
        go_ret2
        exact ⟨rfl, (HG2.out.step hb2).1⟩
end Go.Proofs.YtamlblfhjpajhaaDoor
