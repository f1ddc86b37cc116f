/-
  CertCut, walked.
-/
import Derived.Test.YtamlblfhjpajhaaDoorGLarge
namespace Go.Proofs.YtamlblfhjpajhaaDoor
set_option linter.unusedSimpArgs false
set_option linter.unusedVariables false
open Go Go.RowKit
set_option maxRecDepth 100000

/-- A certificate that came in: nothing is too long. -/
def inC (c : Ct) : Prop := c.key.length ≤ 9223372036854775807 ∧ c.sig.length ≤ 9223372036854775807 ∧ c.names.length ≤ 9223372036854775807 ∧ ∀ n ∈ c.names, n.length ≤ 9223372036854775807
/-- A certificate's box, behind w. -/
def I1 (w : World) (k : Nat) (c : Ct) (nv : Value) (W : World) : Prop := CB W k c nv ∧ Gb w W
theorem I1.step {w W W' : World} {k : Nat} {c : Ct} {nv : Value} (h : I1 w k c nv W) (hb : Below W.heap.size W W') : I1 w k c nv W' := ⟨h.1.step hb, h.2.step hb⟩
theorem I1.start {w : World} (hw : GL w) (c : Ct) (nv : Value) : I1 w w.heap.size c nv (w.alloc (cellsC c nv)) := ⟨CB.new w c nv, (Gb.start hw).alloc _⟩
theorem I1.alloc {w W : World} {k : Nat} {c : Ct} {nv : Value} (h : I1 w k c nv W) (o : Obj) : I1 w k c nv (W.alloc o) := h.step (below_alloc _ _)
theorem I1.cells {w W : World} {k : Nat} {c : Ct} {nv : Value} (h : I1 w k c nv W) : W.cell? ⟨k, 0, none⟩ = some (sv c.key) ∧ W.cell? ⟨k, 1, none⟩ = some (sv c.sig) ∧ W.cell? ⟨k, 2, none⟩ = some nv ∧ W.cell? ⟨k, 3, none⟩ = some (.int .i64 c.fr) ∧ W.cell? ⟨k, 4, none⟩ = some (.int .i64 c.un) ∧ W.cell? ⟨k, 5, none⟩ = some (.bool c.ca) := ⟨h.1.c0, h.1.c1, h.1.c2, h.1.c3, h.1.c4, h.1.c5⟩
theorem I1.lt {w W : World} {k : Nat} {c : Ct} {nv : Value} (h : I1 w k c nv W) : k < W.heap.size := h.1.lt
theorem I1.bel {w W : World} {k : Nat} {c : Ct} {nv : Value} (h : I1 w k c nv W) : Below w.heap.size w W := h.2.1

/-- The contracts of the laws' calls, for a certificate's box. -/
theorem works_i {w W : World} {k : Nat} {c : Ct} {nv : Value} (h : I1 w k c nv W) : Calls Tryd.prog 6 #[] W fun e w' => e = .returned (.bool true) ∧ I1 w k c nv w' := (works_any h.2.2).mono fun e w' ⟨h1, h2⟩ => ⟨h1, h.step h2⟩
theorem large_i {w W : World} {k : Nat} {c : Ct} {A : Option Addr} {cp : Nat} (h : I1 w k c (.slice A c.names.length cp) W) (hx : SX w (.slice A c.names.length cp) c.names) (hi : inC c) :
    Calls Tryd.prog 7 #[.agg #[sv c.key, sv c.sig, .slice A c.names.length cp, .int .i64 c.fr, .int .i64 c.un, .bool c.ca]] W fun e w' => ((e = .returned (.bool false) ∧ smallCt c) ∨ e = .returned (.bool true)) ∧ I1 w k c (.slice A c.names.length cp) w' :=
  (large_any c A cp (hx.step h.2.1) hi.2.2.1 hi.1 hi.2.1 hi.2.2.2).mono fun e w' ⟨b, h1, h2, h3⟩ => ⟨by cases b with | false => exact .inl ⟨h1, h3 rfl⟩ | true => exact .inr h1, h.step h2⟩
theorem encode_i {w W : World} {k : Nat} {c : Ct} {A : Option Addr} {cp : Nat} (h : I1 w k c (.slice A c.names.length cp) W) (hx : SX w (.slice A c.names.length cp) c.names) (hs : smallCt c) :
    Calls Tryd.prog 8 #[.agg #[sv c.key, sv c.sig, .slice A c.names.length cp, .int .i64 c.fr, .int .i64 c.un, .bool c.ca]] W fun e w' => e = .returned (.tuple #[sv (encL c), .int .i64 (encE c : Nat)]) ∧ I1 w k c (.slice A c.names.length cp) w' :=
  (encode_any c A cp (hx.step h.2.1) hs.short.2.2.2.2 h.2.2).mono fun e w' ⟨h1, h2⟩ => ⟨h1, h.step h2⟩
/-- What Decode tells, with what lies kept. -/
abbrev DecI (P : World → Prop) (s : List UInt8) (e : Ending) (w' : World) : Prop := ∃ (c : Ct) (A : Option Addr) (m cp : Nat), e = .returned (.tuple #[certV c (.slice A m cp), .int .i64 (decE s : Nat)]) ∧ P w' ∧ (decE s = 0 → decO s = some c ∧ m = c.names.length ∧ SX w' (.slice A m cp) c.names)
theorem decode_i {w W : World} {k : Nat} {c : Ct} {nv : Value} (h : I1 w k c nv W) (s : List UInt8) (hs : s.length ≤ 9223372036854775807) : Calls Tryd.prog 10 #[sv s] W (DecI (I1 w k c nv) s) := by
  refine (decode_any s hs h.2.2).mono ?_
  rintro e w' ⟨h1, h2⟩
  cases hd : decO s with
  | none =>
    rw [hd] at h2
    refine ⟨ct0, none, 0, 0, h2, h.step h1, fun h0 => ?_⟩
    obtain ⟨d, hd2⟩ := decE_zero h0
    rw [hd] at hd2; cases hd2
  | some d =>
    rw [hd] at h2
    obtain ⟨A, cp, h3, h4⟩ := h2
    exact ⟨d, A, _, cp, by rw [(decO_some hd).2.2.2.2]; exact h3, h.step h1, fun _ => ⟨hd, rfl, h4.sx⟩⟩

theorem at_lt (a : Int) (L : Nat) (h0 : 0 < L) (hL : L ≤ 512) : ∃ N : Nat, N < L ∧ wrap64 ((IntKind.u64.wrap a).tmod (L : Int)) = (N : Int) := by
  have hu : 0 ≤ IntKind.u64.wrap a := by simp [IntKind.wrap, IntKind.bits, IntKind.signed]; omega
  have h1 : (IntKind.u64.wrap a).tmod (L : Int) = (IntKind.u64.wrap a) % (L : Int) := Int.tmod_eq_emod_of_nonneg hu
  have h2 := Int.emod_nonneg (IntKind.u64.wrap a) (show (L : Int) ≠ 0 by omega)
  have h3 := Int.emod_lt_of_pos (IntKind.u64.wrap a) (show (0 : Int) < (L : Int) by omega)
  refine ⟨((IntKind.u64.wrap a) % (L : Int)).toNat, by omega, ?_⟩
  rw [h1, wrap64_in (by omega)]; omega
set_option maxHeartbeats 8000000 in
theorem certCut_walk {w : World} (c : Ct) (A : Option Addr) (cp : Nat) (hx : SX w (.slice A c.names.length cp) c.names) (hi : inC c) {a : Int} (ha : -9223372036854775808 ≤ a ∧ a ≤ 9223372036854775807) (m : List UInt8) (hm : m.length ≤ 140737488351232) (hw : GL w) :
    Calls Tryd.prog 4 #[certV c (.slice A c.names.length cp), .int .i64 a, sv m] w fun e w' => e = .returned (.bool true) ∧ Below w.heap.size w w' := by
  obtain ⟨k, hk⟩ : ∃ k, k = w.heap.size := ⟨_, rfl⟩
  obtain ⟨W1, hW⟩ : ∃ W1, W1 = w.alloc (cellsC c (.slice A c.names.length cp)) := ⟨_, rfl⟩
  have HI := Lib.hid (show I1 w k c (.slice A c.names.length cp) W1 by rw [hW, hk]; exact I1.start hw _ _)
  have HWK := Lib.hid (fun W (h : I1 w k c (.slice A c.names.length cp) W) => works_i h)
  have HLG := Lib.hid (fun W (h : I1 w k c (.slice A c.names.length cp) W) => large_i h hx hi)
  have HEN := Lib.hid (fun W (h : I1 w k c (.slice A c.names.length cp) W) (hs : smallCt c) => encode_i h hx hs)
  have HW := Lib.hid hW
  have HK := Lib.hid hk
  have hzm := str_size m
  clear hW hk hx hi hw
  by_cases hml : 300 < m.length
  · have hml' : (300 : Int) < (m.length : Int) := by omega
    unfold certV
    go_enter Tryd.func4, Tryd.ntmps4
    go_wp2_with fail
    rw [← HW.out, ← HK.out]
    go_wp2_with (first
      | (go_at_call 6; refine (HWK.out _ HI.out).mono ?_; rintro e w1 ⟨rfl, hi1⟩; have HI1 := Lib.hid hi1; obtain ⟨q0, q1, q2, q3, q4, q5⟩ := hi1.cells; clear hi1)
      | (go_at_call 7; refine (HLG.out _ HI1.out).mono ?_; rintro e w2 ⟨hb2, hi2⟩; have HI2 := Lib.hid hi2; clear hi2; rcases hb2 with ⟨rfl, hsm⟩ | rfl))
    all_goals (go_wp2_with (go_at_call 6; refine (HWK.out _ HI2.out).mono ?_; rintro e w3 ⟨rfl, hi3⟩))
    all_goals
      go_ret
      exact ⟨rfl, hi3.bel⟩
  · have hml' : ¬ (300 : Int) < (m.length : Int) := by omega
    have hml2 : m.length ≤ 300 := by omega
    by_cases he : encE c = 0
    · have hl5 := encL_le c
      have hdm := dec_more he m
      have hdc := dec_cut he
      have hl2 : 2 ≤ (encL c).length := by rw [(encE_zero he).2.2]; exact Nat.le_trans (by omega) (putT_ge 48 (rowC c))
      rw [he] at HEN
      have HD := Lib.hid (fun W (h : I1 w k c (.slice A c.names.length cp) W) (s : List UInt8) (hs : s.length ≤ 100000) => decode_i h s (by omega))
      obtain ⟨s, hs⟩ : ∃ s, s = encL c := ⟨_, rfl⟩
      rw [← hs] at HEN hl5 hdm hdc hl2
      have hzs := str_size s
      have hcat : str s ++ str m = str (s ++ m) := str_appendE s m
      clear hs he
      unfold certV
      go_enter Tryd.func4, Tryd.ntmps4
      go_wp2_with fail
      rw [← HW.out, ← HK.out]
      go_wp2_with (first
        | (go_at_call 6; refine (HWK.out _ HI.out).mono ?_; rintro e w1 ⟨rfl, hi1⟩; have HI1 := Lib.hid hi1; obtain ⟨q0, q1, q2, q3, q4, q5⟩ := hi1.cells; clear hi1)
        | (go_at_call 7; refine (HLG.out _ HI1.out).mono ?_; rintro e w2 ⟨hb2, hi2⟩; have HI2 := Lib.hid hi2; obtain ⟨r0, r1, r2, r3, r4, r5⟩ := hi2.cells; clear hi2; rcases hb2 with ⟨rfl, hsm⟩ | rfl))
      · have HSM := Lib.hid hsm
        obtain ⟨N, hN, hNe⟩ := at_lt a s.length (by omega) hl5
        have hN0 : (0 : Int) ≤ (N : Int) := by omega
        have hN1 : (N : Int) ≤ (s.length : Int) := by omega
        have hex : (str s).extract 0 N = str (s.take N) := by rw [str_extract]; simp
        have HD1 := Lib.hid (fun W (h : I1 w k c (.slice A c.names.length cp) W) => HD.out W h (s.take N) (by rw [List.length_take]; omega))
        have HD2 := Lib.hid (fun W (h : I1 w k c (.slice A c.names.length cp) W) => HD.out W h (s ++ m) (by rw [List.length_append]; omega))
        have HN4 := Lib.hid (show decE (s.take N) = 4 from hdc N hN)
        have HMO := Lib.hid hdm
        clear hsm hdc hdm
        go_wp2_with (first
          | (go_at_call 8; refine (HEN.out _ HI2.out HSM.out).mono ?_; rintro e w3 ⟨rfl, hi3⟩; have HI3 := Lib.hid hi3; clear hi3)
          | (go_at_call 10; with_reducible refine (HD1.out _ HI3.out).mono ?_; rintro e w4 ⟨d1, A1, m1, p1, rfl, hi4, hd4⟩; have HI4 := Lib.hid (hi4.alloc (cellsC d1 (.slice A1 m1 p1))); clear hi4 hd4; rw [HN4.out]; unfold certV)
          | (go_at_call 10; with_reducible refine (HD2.out _ HI4.out).mono ?_; rintro e w5 ⟨d2, A2, m2, p2, rfl, hi5, hd5⟩; have HI5 := Lib.hid (hi5.alloc (cellsC d2 (.slice A2 m2 p2))); clear hi5 hd5; unfold certV))
        go_ret
        refine ⟨?_, HI5.out.bel⟩
        have : (((decE (s ++ m) : Nat) : Int) == 0) = m.isEmpty := by
          rw [Bool.eq_iff_iff, beq_iff_eq, List.isEmpty_iff, ← HMO.out]; omega
        show Ending.returned (.bool ((((decE (s ++ m) : Nat) : Int) == 0) == m.isEmpty)) = _
        rw [this]; simp
      · go_wp2_with (go_at_call 6; refine (HWK.out _ HI2.out).mono ?_; rintro e w3 ⟨rfl, hi3⟩)
        go_ret
        exact ⟨rfl, hi3.bel⟩
    · rw [encE_not he] at HEN
      obtain ⟨E, hE⟩ : ∃ E, E = encE c := ⟨_, rfl⟩
      rw [← hE] at HEN he
      have hE0 : ¬ (E : Int) = 0 := by omega
      have hE1 : ((E : Int) != 0) = true := by rw [bne_iff_ne]; exact hE0
      clear hE he
      unfold certV
      go_enter Tryd.func4, Tryd.ntmps4
      go_wp2_with fail
      rw [← HW.out, ← HK.out]
      go_wp2_with (first
        | (go_at_call 6; refine (HWK.out _ HI.out).mono ?_; rintro e w1 ⟨rfl, hi1⟩; have HI1 := Lib.hid hi1; obtain ⟨q0, q1, q2, q3, q4, q5⟩ := hi1.cells; clear hi1)
        | (go_at_call 7; refine (HLG.out _ HI1.out).mono ?_; rintro e w2 ⟨hb2, hi2⟩; have HI2 := Lib.hid hi2; obtain ⟨r0, r1, r2, r3, r4, r5⟩ := hi2.cells; clear hi2; rcases hb2 with ⟨rfl, hsm⟩ | rfl))
      · have HSM := Lib.hid hsm
        clear hsm
        go_wp2_with (go_at_call 8; refine (HEN.out _ HI2.out HSM.out).mono ?_; rintro e w3 ⟨rfl, hi3⟩)
        go_ret
        exact ⟨rfl, hi3.bel⟩
      · go_wp2_with (go_at_call 6; refine (HWK.out _ HI2.out).mono ?_; rintro e w3 ⟨rfl, hi3⟩)
        go_ret
        exact ⟨rfl, hi3.bel⟩
end Go.Proofs.YtamlblfhjpajhaaDoor
