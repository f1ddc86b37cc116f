/-
  CertCut, walked.
  A certificate that came in, opened.
  The contracts of the laws' calls, with whatever lies by kept.
  A row put to an empty one, whole; the law's own within.
  A certificate's copy with a name more: what the law does with it.
  What CertWithin calls.
-/
import Derived.Test.YtamlblfhjpajhaaDoorGLarge
import Derived.Deep.Slices
import Derived.Deep.Fields
import Derived.ChangeSame
import Derived.ChangeArms
import Derived.Carry
import Derived.ProofKit
import Derived.Deep.RegionHeld3
namespace Go.Proofs.YtamlblfhjpajhaaDoor
set_option linter.unusedSimpArgs false
set_option linter.unusedVariables false
open Go Go.RowKit
set_option maxRecDepth 100000

/-- A certificate that came in: nothing is too long. -/
def inC (c : Ct) : Prop := c.key.length ≤ 9223372036854775807 ∧ c.sig.length ≤ 9223372036854775807 ∧ c.names.length ≤ 9223372036854775807 ∧ ∀ n ∈ c.names, n.length ≤ 9223372036854775807
/-- A certificate's box, behind w. -/
def I1 (w : World) (k : Nat) (c : Ct) (nv : Value) (W : World) : Prop := CB W k c nv ∧ Gb w W
theorem I1.step {w W W' : World} {k : Nat} {c : Ct} {nv : Value} (h : I1 w k c nv W) (hb : Below W.heap.size W W') : I1 w k c nv W' := ⟨h.1.step hb, h.2.step hb⟩
theorem I1.start {w : World} (hw : GL w) (c : Ct) (nv : Value) : I1 w w.heap.size c nv (w.alloc (cellsC c nv)) := ⟨CB.new w c nv, (Gb.start hw).alloc _⟩
theorem I1.alloc {w W : World} {k : Nat} {c : Ct} {nv : Value} (h : I1 w k c nv W) (o : Obj) : I1 w k c nv (W.alloc o) := h.step (below_alloc _ _)
theorem I1.cells {w W : World} {k : Nat} {c : Ct} {nv : Value} (h : I1 w k c nv W) : W.cell? ⟨k, 0, none⟩ = some (sv c.key) ∧ W.cell? ⟨k, 1, none⟩ = some (sv c.sig) ∧ W.cell? ⟨k, 2, none⟩ = some nv ∧ W.cell? ⟨k, 3, none⟩ = some (.int .i64 c.fr) ∧ W.cell? ⟨k, 4, none⟩ = some (.int .i64 c.un) ∧ W.cell? ⟨k, 5, none⟩ = some (.bool c.ca) := ⟨h.1.c0, h.1.c1, h.1.c2, h.1.c3, h.1.c4, h.1.c5⟩
theorem I1.lt {w W : World} {k : Nat} {c : Ct} {nv : Value} (h : I1 w k c nv W) : k < W.heap.size := h.1.lt
theorem I1.bel {w W : World} {k : Nat} {c : Ct} {nv : Value} (h : I1 w k c nv W) : Below w.heap.size w W := h.2.1

/-- The contracts of the laws' calls, for a certificate's box. -/
theorem works_i {w W : World} {k : Nat} {c : Ct} {nv : Value} (h : I1 w k c nv W) : Calls Tryd.prog 6 #[] W fun e w' => e = .returned (.bool true) ∧ I1 w k c nv w' := (works_any h.2.2).mono fun e w' ⟨h1, h2⟩ => ⟨h1, h.step h2⟩
theorem large_i {w W : World} {k : Nat} {c : Ct} {A : Option Addr} {cp : Nat} (h : I1 w k c (.slice A c.names.length cp) W) (hx : SX w (.slice A c.names.length cp) c.names) (hi : inC c) :
    Calls Tryd.prog 7 #[.agg #[sv c.key, sv c.sig, .slice A c.names.length cp, .int .i64 c.fr, .int .i64 c.un, .bool c.ca]] W fun e w' => ((e = .returned (.bool false) ∧ smallCt c) ∨ e = .returned (.bool true)) ∧ I1 w k c (.slice A c.names.length cp) w' :=
  (large_any c A cp (hx.step h.2.1) hi.2.2.1 hi.1 hi.2.1 hi.2.2.2).mono fun e w' ⟨b, h1, h2, h3⟩ => ⟨by cases b with | false => exact .inl ⟨h1, h3 rfl⟩ | true => exact .inr h1, h.step h2⟩
theorem encode_i {w W : World} {k : Nat} {c : Ct} {A : Option Addr} {cp : Nat} (h : I1 w k c (.slice A c.names.length cp) W) (hx : SX w (.slice A c.names.length cp) c.names) (hs : smallCt c) :
    Calls Tryd.prog 8 #[.agg #[sv c.key, sv c.sig, .slice A c.names.length cp, .int .i64 c.fr, .int .i64 c.un, .bool c.ca]] W fun e w' => e = .returned (.tuple #[sv (encL c), .int .i64 (encE c : Nat)]) ∧ I1 w k c (.slice A c.names.length cp) w' :=
  (encode_any c A cp (hx.step h.2.1) hs.short.2.2.2.2 h.2.2).mono fun e w' ⟨h1, h2⟩ => ⟨h1, h.step h2⟩
/-- What Decode tells, with what lies kept. -/
abbrev DecI (P : World → Prop) (s : List UInt8) (e : Ending) (w' : World) : Prop := ∃ (c : Ct) (A : Option Addr) (m cp : Nat), e = .returned (.tuple #[certV c (.slice A m cp), .int .i64 (decE s : Nat)]) ∧ P w' ∧ (decE s = 0 → decO s = some c ∧ m = c.names.length ∧ SX w' (.slice A m cp) c.names)
theorem decode_i {w W : World} {k : Nat} {c : Ct} {nv : Value} (h : I1 w k c nv W) (s : List UInt8) (hs : s.length ≤ 9223372036854775807) : Calls Tryd.prog 10 #[sv s] W (DecI (I1 w k c nv) s) := by
  refine (decode_any s hs h.2.2).mono ?_
  rintro e w' ⟨h1, h2⟩
  cases hd : decO s with
  | none =>
    rw [hd] at h2
    refine ⟨ct0, none, 0, 0, h2, h.step h1, fun h0 => ?_⟩
    obtain ⟨d, hd2⟩ := decE_zero h0
    rw [hd] at hd2; cases hd2
  | some d =>
    rw [hd] at h2
    obtain ⟨A, cp, h3, h4⟩ := h2
    exact ⟨d, A, _, cp, by rw [(decO_some hd).2.2.2.2]; exact h3, h.step h1, fun _ => ⟨hd, rfl, h4.sx⟩⟩

theorem at_lt (a : Int) (L : Nat) (h0 : 0 < L) (hL : L ≤ 512) : ∃ N : Nat, N < L ∧ wrap64 ((IntKind.u64.wrap a).tmod (L : Int)) = (N : Int) := by
  have hu : 0 ≤ IntKind.u64.wrap a := by simp [IntKind.wrap, IntKind.bits, IntKind.signed]; omega
  have h1 : (IntKind.u64.wrap a).tmod (L : Int) = (IntKind.u64.wrap a) % (L : Int) := Int.tmod_eq_emod_of_nonneg hu
  have h2 := Int.emod_nonneg (IntKind.u64.wrap a) (show (L : Int) ≠ 0 by omega)
  have h3 := Int.emod_lt_of_pos (IntKind.u64.wrap a) (show (0 : Int) < (L : Int) by omega)
  refine ⟨((IntKind.u64.wrap a) % (L : Int)).toNat, by omega, ?_⟩
  rw [h1, wrap64_in (by omega)]; omega
set_option maxHeartbeats 8000000 in
theorem certCut_walk {w : World} (c : Ct) (A : Option Addr) (cp : Nat) (hx : SX w (.slice A c.names.length cp) c.names) (hi : inC c) {a : Int} (ha : -9223372036854775808 ≤ a ∧ a ≤ 9223372036854775807) (m : List UInt8) (hm : m.length ≤ 140737488351232) (hw : GL w) :
    Calls Tryd.prog 4 #[certV c (.slice A c.names.length cp), .int .i64 a, sv m] w fun e w' => e = .returned (.bool true) ∧ Below w.heap.size w w' := by
  obtain ⟨k, hk⟩ : ∃ k, k = w.heap.size := ⟨_, rfl⟩
  obtain ⟨W1, hW⟩ : ∃ W1, W1 = w.alloc (cellsC c (.slice A c.names.length cp)) := ⟨_, rfl⟩
  have HI := Lib.hid (show I1 w k c (.slice A c.names.length cp) W1 by rw [hW, hk]; exact I1.start hw _ _)
  have HWK := Lib.hid (fun W (h : I1 w k c (.slice A c.names.length cp) W) => works_i h)
  have HLG := Lib.hid (fun W (h : I1 w k c (.slice A c.names.length cp) W) => large_i h hx hi)
  have HEN := Lib.hid (fun W (h : I1 w k c (.slice A c.names.length cp) W) (hs : smallCt c) => encode_i h hx hs)
  have HW := Lib.hid hW
  have HK := Lib.hid hk
  have hzm := str_size m
  clear hW hk hx hi hw
  by_cases hml : 300 < m.length
  · have hml' : (300 : Int) < (m.length : Int) := by omega
    unfold certV
    go_enter Tryd.func4, Tryd.ntmps4
    go_wp2_with fail
    rw [← HW.out, ← HK.out]
    go_wp2_with (first
      | (go_at_call 6; refine (HWK.out _ HI.out).mono ?_; rintro e w1 ⟨rfl, hi1⟩; have HI1 := Lib.hid hi1; obtain ⟨q0, q1, q2, q3, q4, q5⟩ := hi1.cells; clear hi1)
      | (go_at_call 7; refine (HLG.out _ HI1.out).mono ?_; rintro e w2 ⟨hb2, hi2⟩; have HI2 := Lib.hid hi2; clear hi2; rcases hb2 with ⟨rfl, hsm⟩ | rfl))
    all_goals (go_wp2_with (go_at_call 6; refine (HWK.out _ HI2.out).mono ?_; rintro e w3 ⟨rfl, hi3⟩))
    all_goals
      go_ret
      exact ⟨rfl, hi3.bel⟩
  · have hml' : ¬ (300 : Int) < (m.length : Int) := by omega
    have hml2 : m.length ≤ 300 := by omega
    by_cases he : encE c = 0
    · have hl5 := encL_le c
      have hdm := dec_more he m
      have hdc := dec_cut he
      have hl2 : 2 ≤ (encL c).length := by rw [(encE_zero he).2.2]; exact Nat.le_trans (by omega) (putT_ge 48 (rowC c))
      rw [he] at HEN
      have HD := Lib.hid (fun W (h : I1 w k c (.slice A c.names.length cp) W) (s : List UInt8) (hs : s.length ≤ 100000) => decode_i h s (by omega))
      obtain ⟨s, hs⟩ : ∃ s, s = encL c := ⟨_, rfl⟩
      rw [← hs] at HEN hl5 hdm hdc hl2
      have hzs := str_size s
      have hcat : str s ++ str m = str (s ++ m) := str_appendE s m
      clear hs he
      unfold certV
      go_enter Tryd.func4, Tryd.ntmps4
      go_wp2_with fail
      rw [← HW.out, ← HK.out]
      go_wp2_with (first
        | (go_at_call 6; refine (HWK.out _ HI.out).mono ?_; rintro e w1 ⟨rfl, hi1⟩; have HI1 := Lib.hid hi1; obtain ⟨q0, q1, q2, q3, q4, q5⟩ := hi1.cells; clear hi1)
        | (go_at_call 7; refine (HLG.out _ HI1.out).mono ?_; rintro e w2 ⟨hb2, hi2⟩; have HI2 := Lib.hid hi2; obtain ⟨r0, r1, r2, r3, r4, r5⟩ := hi2.cells; clear hi2; rcases hb2 with ⟨rfl, hsm⟩ | rfl))
      · have HSM := Lib.hid hsm
        obtain ⟨N, hN, hNe⟩ := at_lt a s.length (by omega) hl5
        have hN0 : (0 : Int) ≤ (N : Int) := by omega
        have hN1 : (N : Int) ≤ (s.length : Int) := by omega
        have hex : (str s).extract 0 N = str (s.take N) := by rw [str_extract]; simp
        have HD1 := Lib.hid (fun W (h : I1 w k c (.slice A c.names.length cp) W) => HD.out W h (s.take N) (by rw [List.length_take]; omega))
        have HD2 := Lib.hid (fun W (h : I1 w k c (.slice A c.names.length cp) W) => HD.out W h (s ++ m) (by rw [List.length_append]; omega))
        have HN4 := Lib.hid (show decE (s.take N) = 4 from hdc N hN)
        have HMO := Lib.hid hdm
        clear hsm hdc hdm
        go_wp2_with (first
          | (go_at_call 8; refine (HEN.out _ HI2.out HSM.out).mono ?_; rintro e w3 ⟨rfl, hi3⟩; have HI3 := Lib.hid hi3; clear hi3)
          | (go_at_call 10; with_reducible refine (HD1.out _ HI3.out).mono ?_; rintro e w4 ⟨d1, A1, m1, p1, rfl, hi4, hd4⟩; have HI4 := Lib.hid (hi4.alloc (cellsC d1 (.slice A1 m1 p1))); clear hi4 hd4; rw [HN4.out]; unfold certV)
          | (go_at_call 10; with_reducible refine (HD2.out _ HI4.out).mono ?_; rintro e w5 ⟨d2, A2, m2, p2, rfl, hi5, hd5⟩; have HI5 := Lib.hid (hi5.alloc (cellsC d2 (.slice A2 m2 p2))); clear hi5 hd5; unfold certV))
        go_ret
        refine ⟨?_, HI5.out.bel⟩
        have : (((decE (s ++ m) : Nat) : Int) == 0) = m.isEmpty := by
          rw [Bool.eq_iff_iff, beq_iff_eq, List.isEmpty_iff, ← HMO.out]; omega
        show Ending.returned (.bool ((((decE (s ++ m) : Nat) : Int) == 0) == m.isEmpty)) = _
        rw [this]; simp
      · go_wp2_with (go_at_call 6; refine (HWK.out _ HI2.out).mono ?_; rintro e w3 ⟨rfl, hi3⟩)
        go_ret
        exact ⟨rfl, hi3.bel⟩
    · rw [encE_not he] at HEN
      obtain ⟨E, hE⟩ : ∃ E, E = encE c := ⟨_, rfl⟩
      rw [← hE] at HEN he
      have hE0 : ¬ (E : Int) = 0 := by omega
      have hE1 : ((E : Int) != 0) = true := by rw [bne_iff_ne]; exact hE0
      clear hE he
      unfold certV
      go_enter Tryd.func4, Tryd.ntmps4
      go_wp2_with fail
      rw [← HW.out, ← HK.out]
      go_wp2_with (first
        | (go_at_call 6; refine (HWK.out _ HI.out).mono ?_; rintro e w1 ⟨rfl, hi1⟩; have HI1 := Lib.hid hi1; obtain ⟨q0, q1, q2, q3, q4, q5⟩ := hi1.cells; clear hi1)
        | (go_at_call 7; refine (HLG.out _ HI1.out).mono ?_; rintro e w2 ⟨hb2, hi2⟩; have HI2 := Lib.hid hi2; obtain ⟨r0, r1, r2, r3, r4, r5⟩ := hi2.cells; clear hi2; rcases hb2 with ⟨rfl, hsm⟩ | rfl))
      · have HSM := Lib.hid hsm
        clear hsm
        go_wp2_with (go_at_call 8; refine (HEN.out _ HI2.out HSM.out).mono ?_; rintro e w3 ⟨rfl, hi3⟩)
        go_ret
        exact ⟨rfl, hi3.bel⟩
      · go_wp2_with (go_at_call 6; refine (HWK.out _ HI2.out).mono ?_; rintro e w3 ⟨rfl, hi3⟩)
        go_ret
        exact ⟨rfl, hi3.bel⟩
end Go.Proofs.YtamlblfhjpajhaaDoor

namespace Go.Proofs.YtamlblfhjpajhaaDoor
set_option linter.unusedSimpArgs false
set_option linter.unusedVariables false
open Go Go.RowKit Go.WideShapes Go.ChangeShapes Go.ChangeAt
set_option maxRecDepth 100000

theorem cells_cert : Tryd.prog.cellsOf 24 = 6 := by kernel_rfl
theorem cells_text : Tryd.prog.cellsOf 9 = 1 := by kernel_rfl
theorem cells_flag : Tryd.prog.cellsOf 4 = 1 := by kernel_rfl
theorem cells_num : Tryd.prog.cellsOf 3 = 1 := by kernel_rfl
theorem cells_texts : Tryd.prog.cellsOf 22 = 1 := by kernel_rfl

section
variable {H : Type} {enc : TypeId × Value → H} {W : World}
theorem text_opened {n : Nat} {v : Value} {y : DataW H × List MemPlace} (h : DataW.trod enc Tryd.prog W 0 (fun _ => true) true n 9 [v] = some y) : ∃ s : List UInt8, v = sv s ∧ s.length ≤ 9223372036854775807 := by
  obtain ⟨s, e, _, hl⟩ := DataW.trod_string Tryd.underlying9 h
  obtain ⟨l, rfl, hl'⟩ := to_str s
  simp only [List.cons.injEq, and_true] at e
  refine ⟨l, e, ?_⟩
  unfold maxLen at hl
  omega
theorem flag_opened {n : Nat} {v : Value} {y : DataW H × List MemPlace} (h : DataW.trod enc Tryd.prog W 0 (fun _ => true) true n 4 [v] = some y) : ∃ b : Bool, v = .bool b := by
  obtain ⟨b, e, _⟩ := DataW.trod_bool Tryd.underlying4 h
  simp only [List.cons.injEq, and_true] at e
  exact ⟨b, e⟩
theorem num_opened {n : Nat} {v : Value} {y : DataW H × List MemPlace} (h : DataW.trod enc Tryd.prog W 0 (fun _ => true) true n 3 [v] = some y) : ∃ a : Int, v = .int .i64 a ∧ -9223372036854775808 ≤ a ∧ a ≤ 9223372036854775807 := by
  obtain ⟨a, e, _, hw⟩ := DataW.trod_int Tryd.underlying3 h
  simp only [List.cons.injEq, and_true] at e
  refine ⟨a, e, ?_⟩
  simp only [Lit.wf, IntKind.min, IntKind.max, IntKind.signed, IntKind.bits, Bool.and_eq_true, decide_eq_true_eq, if_true] at hw
  omega
theorem texts_opened {n : Nat} {v : Value} {y : DataW H × List MemPlace} (h : DataW.trod enc Tryd.prog W 0 (fun _ => true) true n 22 [v] = some y) :
    ∃ (A : Option Addr) (c : Nat) (rs : List (List UInt8)), v = .slice A rs.length c ∧ SX W (.slice A rs.length c) rs ∧ rs.length ≤ 9223372036854775807 ∧ ∀ r ∈ rs, r.length ≤ 9223372036854775807 := by
  rcases Go.Deep.open_slice Tryd.underlying22 h with ⟨hcs, _⟩ | ⟨a, len, cap, m, n', D, Pl, hcs, _, hl, hm, hmm, _, hi⟩
  · simp only [List.cons.injEq, and_true] at hcs
    exact ⟨none, 0, [], hcs, SX.nil _ _ _, Nat.zero_le _, fun r hr => by cases hr⟩
  · simp only [List.cons.injEq, and_true] at hcs
    subst hcs
    have hmc : m = cap := by simpa using hmm
    have hr : ∀ i, ∃ r : List UInt8, i < len → W.cell? (a.add i) = some (sv r) ∧ r.length ≤ 9223372036854775807 := by
      intro i
      by_cases hlt : i < len
      · obtain ⟨cs', hc, ht⟩ := hi i (by omega)
        rw [cells_text] at hc
        obtain ⟨_, hcl, hat⟩ := World.cells?_some hc
        match cs', hcl with
        | [c0], _ =>
          obtain ⟨r, e0, hlr⟩ := text_opened ht
          have h0 := hat 0 (by omega)
          rw [Go.Deep.add_add] at h0
          subst e0
          exact ⟨r, fun _ => ⟨by simpa using h0, hlr⟩⟩
      · exact ⟨[], fun h => absurd h hlt⟩
    obtain ⟨R, hR⟩ := Classical.axiomOfChoice hr
    have hle : ((List.range len).map R).length = len := by simp
    refine ⟨some a, cap, (List.range len).map R, by rw [hle], ?_, by rw [hle]; unfold maxLen at hm; omega, ?_⟩
    · refine ⟨some a, cap, rfl, fun hp => ?_⟩
      rw [hle] at hp
      obtain ⟨b, off, spot⟩ := a
      have hspot : spot = none := by simpa [Addr.add] using World.cell?_spot (hR 0 hp).1
      subst hspot
      refine ⟨b, off, rfl, block_lt_of_cell (a := ⟨b, off, none⟩) (by simpa [Addr.add] using (hR 0 hp).1), fun j hj => ?_⟩
      rw [hle] at hj
      have e : ((List.range len).map R).getD j [] = R j := by
        rw [List.getD_eq_getElem?_getD, List.getElem?_map, List.getElem?_range hj]; rfl
      obtain ⟨h0, _⟩ := hR j hj
      rw [add_plain] at h0
      rw [e]
      exact h0
    · intro r hr
      obtain ⟨i, hi2, rfl⟩ := List.mem_map.1 hr
      exact (hR i (List.mem_range.1 hi2)).2
theorem cert_opened {b0 : Nat} {v : Value} {d : DataW H} {p : List MemPlace} (hv : Value.okWide Tryd.prog W .any b0 24 v) (h : DataW.Trod enc Tryd.prog W 0 (fun _ => true) true 24 v d p) :
    ∃ (c : Ct) (A : Option Addr) (cp : Nat), v = certV c (.slice A c.names.length cp) ∧ SX W (.slice A c.names.length cp) c.names ∧ inC c := by
  obtain ⟨cs, rfl, hsz⟩ := okWide_struct Tryd.underlying24 hv
  rw [cells_cert] at hsz
  obtain ⟨l⟩ := cs
  match l, hsz with
  | [c0, c1, c2, c3, c4, c5], _ =>
    obtain ⟨fuel, hf⟩ := h
    obtain ⟨xs, n, _, _, _, hxl, hg⟩ := DataW.trod_struct Tryd.underlying24 hf
    match xs, hxl with
    | [y0, y1, y2, y3, y4, y5], _ =>
      have g0 : DataW.trod enc Tryd.prog W 0 (fun _ => true) true n 9 ((([c0, c1, c2, c3, c4, c5] : List Value).drop 0).take (Tryd.prog.cellsOf 9)) = [y0, y1, y2, y3, y4, y5][0]? := hg 0 _ rfl
      have g1 : DataW.trod enc Tryd.prog W 0 (fun _ => true) true n 9 ((([c0, c1, c2, c3, c4, c5] : List Value).drop 1).take (Tryd.prog.cellsOf 9)) = [y0, y1, y2, y3, y4, y5][1]? := hg 1 _ rfl
      have g2 : DataW.trod enc Tryd.prog W 0 (fun _ => true) true n 22 ((([c0, c1, c2, c3, c4, c5] : List Value).drop 2).take (Tryd.prog.cellsOf 22)) = [y0, y1, y2, y3, y4, y5][2]? := hg 2 _ rfl
      have g3 : DataW.trod enc Tryd.prog W 0 (fun _ => true) true n 3 ((([c0, c1, c2, c3, c4, c5] : List Value).drop 3).take (Tryd.prog.cellsOf 3)) = [y0, y1, y2, y3, y4, y5][3]? := hg 3 _ rfl
      have g4 : DataW.trod enc Tryd.prog W 0 (fun _ => true) true n 3 ((([c0, c1, c2, c3, c4, c5] : List Value).drop 4).take (Tryd.prog.cellsOf 3)) = [y0, y1, y2, y3, y4, y5][4]? := hg 4 _ rfl
      have g5 : DataW.trod enc Tryd.prog W 0 (fun _ => true) true n 4 ((([c0, c1, c2, c3, c4, c5] : List Value).drop 5).take (Tryd.prog.cellsOf 4)) = [y0, y1, y2, y3, y4, y5][5]? := hg 5 _ rfl
      rw [cells_text] at g0 g1
      rw [cells_texts] at g2
      rw [cells_num] at g3 g4
      rw [cells_flag] at g5
      obtain ⟨key, rfl, hk⟩ := text_opened (y := y0) (by simpa [Value.cells] using g0)
      obtain ⟨sig, rfl, hs⟩ := text_opened (y := y1) (by simpa [Value.cells] using g1)
      obtain ⟨A, cp, ns, rfl, hx, hl, hn⟩ := texts_opened (y := y2) (by simpa [Value.cells] using g2)
      obtain ⟨fr, rfl, _⟩ := num_opened (y := y3) (by simpa [Value.cells] using g3)
      obtain ⟨un, rfl, _⟩ := num_opened (y := y4) (by simpa [Value.cells] using g4)
      obtain ⟨ca, rfl⟩ := flag_opened (y := y5) (by simpa [Value.cells] using g5)
      exact ⟨⟨key, sig, ns, fr, un, ca⟩, A, cp, rfl, hx, hk, hs, hl, hn⟩
end
end Go.Proofs.YtamlblfhjpajhaaDoor

namespace Go.Proofs.YtamlblfhjpajhaaDoor
set_option linter.unusedSimpArgs false
set_option linter.unusedVariables false
open Go Go.RowKit
set_option maxRecDepth 100000

/-- What stays behind new memory, where the laid variables are as they are. -/
structure Cl (P : World → Prop) : Prop where
  step : ∀ {W W' : World}, P W → Below W.heap.size W W' → P W'
  gl : ∀ {W : World}, P W → GL W
theorem Cl.gb {w : World} : Cl (Gb w) := ⟨fun h hb => h.step hb, fun h => h.2⟩
/-- A certificate's box and its names. -/
def BX (W : World) (k : Nat) (c : Ct) (A : Option Addr) (cp : Nat) : Prop := CB W k c (.slice A c.names.length cp) ∧ SX W (.slice A c.names.length cp) c.names
theorem BX.step {W W' : World} {k : Nat} {c : Ct} {A : Option Addr} {cp : Nat} (h : BX W k c A cp) (hb : Below W.heap.size W W') : BX W' k c A cp := ⟨h.1.step hb, h.2.step hb⟩
theorem BX.cells {W : World} {k : Nat} {c : Ct} {A : Option Addr} {cp : Nat} (h : BX W k c A cp) : W.cell? ⟨k, 0, none⟩ = some (sv c.key) ∧ W.cell? ⟨k, 1, none⟩ = some (sv c.sig) ∧ W.cell? ⟨k, 2, none⟩ = some (.slice A c.names.length cp) ∧ W.cell? ⟨k, 3, none⟩ = some (.int .i64 c.fr) ∧ W.cell? ⟨k, 4, none⟩ = some (.int .i64 c.un) ∧ W.cell? ⟨k, 5, none⟩ = some (.bool c.ca) := ⟨h.1.c0, h.1.c1, h.1.c2, h.1.c3, h.1.c4, h.1.c5⟩
theorem BX.sx {W : World} {k : Nat} {c : Ct} {A : Option Addr} {cp : Nat} (h : BX W k c A cp) : SX W (.slice A c.names.length cp) c.names := h.2
theorem Cl.box {P : World → Prop} (h : Cl P) (k : Nat) (c : Ct) (A : Option Addr) (cp : Nat) : Cl (fun W => P W ∧ BX W k c A cp) := ⟨fun h1 hb => ⟨h.step h1.1 hb, h1.2.step hb⟩, fun h1 => h.gl h1.1⟩
theorem Cl.alloc {P : World → Prop} (h : Cl P) {W : World} (h1 : P W) (o : Obj) : P (W.alloc o) := h.step h1 (below_alloc _ _)
theorem box_new {P : World → Prop} (h : Cl P) {W : World} (h1 : P W) {c : Ct} {A : Option Addr} {cp : Nat} (hx : SX W (.slice A c.names.length cp) c.names) : P (W.alloc (cellsC c (.slice A c.names.length cp))) ∧ BX (W.alloc (cellsC c (.slice A c.names.length cp))) W.heap.size c A cp :=
  ⟨h.alloc h1 _, CB.new _ _ _, hx.step (below_alloc _ _)⟩

section
variable {P : World → Prop} {W : World} (hP : Cl P) (h : P W)
include hP h
theorem works_p : Calls Tryd.prog 6 #[] W fun e w' => e = .returned (.bool true) ∧ P w' := (works_any (hP.gl h)).mono fun e w' ⟨h1, h2⟩ => ⟨h1, hP.step h h2⟩
theorem large_p {c : Ct} {A : Option Addr} {cp : Nat} (hx : SX W (.slice A c.names.length cp) c.names) (hi : inC c) :
    Calls Tryd.prog 7 #[.agg #[sv c.key, sv c.sig, .slice A c.names.length cp, .int .i64 c.fr, .int .i64 c.un, .bool c.ca]] W fun e w' => ((e = .returned (.bool false) ∧ smallCt c) ∨ e = .returned (.bool true)) ∧ P w' :=
  (large_any c A cp hx hi.2.2.1 hi.1 hi.2.1 hi.2.2.2).mono fun e w' ⟨b, h1, h2, h3⟩ => ⟨by cases b with | false => exact .inl ⟨h1, h3 rfl⟩ | true => exact .inr h1, hP.step h h2⟩
theorem encode_p {c : Ct} {A : Option Addr} {cp : Nat} (hx : SX W (.slice A c.names.length cp) c.names) (hs : shortC c) :
    Calls Tryd.prog 8 #[.agg #[sv c.key, sv c.sig, .slice A c.names.length cp, .int .i64 c.fr, .int .i64 c.un, .bool c.ca]] W fun e w' => e = .returned (.tuple #[sv (encL c), .int .i64 (encE c : Nat)]) ∧ P w' :=
  (encode_any c A cp hx hs (hP.gl h)).mono fun e w' ⟨h1, h2⟩ => ⟨h1, hP.step h h2⟩
theorem may_p {c : Ct} {A : Option Addr} {cp : Nat} (hx : SX W (.slice A c.names.length cp) c.names) (hs : shortC c) :
    Calls Tryd.prog 9 #[.agg #[sv c.key, sv c.sig, .slice A c.names.length cp, .int .i64 c.fr, .int .i64 c.un, .bool c.ca]] W fun e w' => e = .returned (.bool (mayC c)) ∧ P w' :=
  (mayC_any c A cp hx hs (hP.gl h)).mono fun e w' ⟨h1, h2⟩ => ⟨h1, hP.step h h2⟩
theorem same_p {c d : Ct} {A B : Option Addr} {cp dp : Nat} (hx : SX W (.slice A c.names.length cp) c.names) (hy : SX W (.slice B d.names.length dp) d.names) (hs : shortC c) (ht : shortC d) :
    Calls Tryd.prog 11 #[.agg #[sv c.key, sv c.sig, .slice A c.names.length cp, .int .i64 c.fr, .int .i64 c.un, .bool c.ca], .agg #[sv d.key, sv d.sig, .slice B d.names.length dp, .int .i64 d.fr, .int .i64 d.un, .bool d.ca]] W fun e w' => e = .returned (.bool (sameB c d)) ∧ P w' :=
  (same_any c d A B cp dp hx hy hs (by have := ht.2.2.1; omega)).mono fun e w' ⟨h1, h2⟩ => ⟨h1, hP.step h h2⟩
theorem decode_p (s : List UInt8) (hs : s.length ≤ 9223372036854775807) : Calls Tryd.prog 10 #[sv s] W (DecI P s) := by
  refine (decode_any s hs (hP.gl h)).mono ?_
  rintro e w' ⟨h1, h2⟩
  cases hd : decO s with
  | none =>
    rw [hd] at h2
    refine ⟨ct0, none, 0, 0, h2, hP.step h h1, fun h0 => ?_⟩
    obtain ⟨d, hd2⟩ := decE_zero h0
    rw [hd] at hd2; cases hd2
  | some d =>
    rw [hd] at h2
    obtain ⟨A, cp, h3, h4⟩ := h2
    exact ⟨d, A, _, cp, by rw [(decO_some hd).2.2.2.2]; exact h3, hP.step h h1, fun _ => ⟨hd, rfl, h4.sx⟩⟩
/-- Of bytes that are one's. -/
theorem decode_yes {s : List UInt8} {c : Ct} (hd : decO s = some c) : Calls Tryd.prog 10 #[sv s] W fun e w' => ∃ A cp, e = .returned (.tuple #[certV c (.slice A c.names.length cp), .int .i64 0]) ∧ P w' ∧ SX w' (.slice A c.names.length cp) c.names := by
  refine (decode_any s (by have := (decO_some hd).1; omega) (hP.gl h)).mono ?_
  rintro e w' ⟨h1, h2⟩
  rw [hd] at h2
  obtain ⟨A, cp, h3, h4⟩ := h2
  exact ⟨A, cp, h3, hP.step h h1, h4.sx⟩
theorem decode_no {s : List UInt8} (hs : s.length ≤ 9223372036854775807) (hd : decO s = none) : Calls Tryd.prog 10 #[sv s] W fun e w' => e = .returned (.tuple #[certV ct0 (.slice none 0 0), .int .i64 (decE s : Nat)]) ∧ P w' := by
  refine (decode_any s hs (hP.gl h)).mono ?_
  rintro e w' ⟨h1, h2⟩
  rw [hd] at h2
  exact ⟨h2, hP.step h h1⟩
end
theorem dec_short {s : List UInt8} {c : Ct} (h : decO s = some c) : shortC c := by
  have h1 := (decO_some h).1
  unfold decO at h
  rw [if_neg (by omega)] at h
  cases hr : readC s with
  | none => rw [hr] at h; simp at h
  | some d =>
    rw [hr] at h
    simp only at h
    split at h
    · simp only [Option.some.injEq] at h
      subst h
      exact read_short hr h1
    · simp at h
theorem decE_none {s : List UInt8} (h : decO s = none) : decE s ≠ 0 := fun e => by
  obtain ⟨d, hd⟩ := decE_zero e
  rw [h] at hd; cases hd
end Go.Proofs.YtamlblfhjpajhaaDoor

namespace Go.Proofs.YtamlblfhjpajhaaDoor
set_option linter.unusedSimpArgs false
set_option linter.unusedVariables false
open Go Go.RowKit
set_option maxRecDepth 100000

theorem owns_emptyG {W : World} {base g : Nat} (hg : W.heap[g]? = some (.cells #[] 9 (0, 0))) (hb : base ≤ g) : TW base W (.slice (some ⟨g, 0, none⟩) 0 0) [] :=
  ⟨by simp, .inr ⟨g, 0, #[], rfl, hb, hg, Nat.le_refl _, by decide, rfl, by simp⟩⟩
/-- 'append([]string{}, xs...)'. -/
theorem app_all {W : World} {ys : List (List UInt8)} {A : Option Addr} {c : Nat} (hx : SX W (.slice A ys.length c) ys) (hl : ys.length ≤ 1000000) :
    ∃ g cap w2, (Builtin.append_ #[22, 22] 22 #[.slice (some ⟨W.heap.size, 0, none⟩) 0 0, .slice A ys.length c]).run Tryd.prog (W.alloc (.cells #[] 9)) = .ok (.slice (some ⟨g, 0, none⟩) ys.length cap) w2 ∧
      TW W.heap.size w2 (.slice (some ⟨g, 0, none⟩) ys.length cap) ys ∧ Below W.heap.size W w2 := by
  have hown := owns_emptyG (base := W.heap.size) (heap_alloc_new W (.cells #[] 9)) (Nat.le_refl _)
  obtain ⟨i, hi, hz0, hz1, hz2⟩ := info_parts info_text
  have hx2 := hx.step (below_alloc W (.cells #[] 9))
  rcases Nat.eq_zero_or_pos ys.length with h0 | hp
  · obtain rfl : ys = [] := List.length_eq_zero_iff.1 h0
    refine ⟨W.heap.size, 0, _, ?_, hown, below_alloc _ _⟩
    cases A <;> simp [Builtin.append_, run_underlying Tryd.underlying22, sizeOf, typeInfo, hi, Builtin.lenOf, Builtin.firstCells, storeCells, loadCells, loadCellsFrom]
  · obtain ⟨A', c', e, h⟩ := hx2
    simp only [Value.slice.injEq] at e
    obtain ⟨rfl, _, rfl⟩ := e
    obtain ⟨g, off, rfl, hg, hc⟩ := h hp
    obtain ⟨g', cap', W', h1, h2, h3, _, _⟩ := run_append_lies (P := Tryd.prog) (W.alloc (.cells #[] 9)) 22 22 W.heap.size 9 i _ 1 16 Tryd.underlying22 hi hz0 hz1 hz2 rfl (by decide) _ 0 (([] : List (List UInt8)).map sv) hown ⟨g, off, none⟩ ys.length c (ys.map sv) (by simp) (fun j u hu => by
        have hj : j < ys.length := by
          rcases Nat.lt_or_ge j ys.length with h | h
          · exact h
          · rw [List.getElem?_eq_none (by simpa using h)] at hu; cases hu
        have hadd : (⟨g, off, none⟩ : Addr).add j = ⟨g, off + j, none⟩ := by unfold Addr.add; split <;> simp_all
        rw [hadd, hc j hj, ← hu, List.getElem?_map, List.getElem?_eq_getElem hj, List.getD_eq_getElem?_getD, List.getElem?_eq_getElem hj]; try rfl)
      texts_one hp (by unfold maxLen; omega) (by omega) (by simp) _ rfl
    rw [Nat.zero_add] at h1 h2
    refine ⟨g', cap', W', h1, by unfold TW; simpa using h2, ?_⟩
    exact Below.grown (below_alloc W _) h3 (by simp) fun j hj => by
      simp only [Value.ownBlock, Option.some.injEq] at hj
      omega
/-- A certificate's box, with other names. -/
theorem CB.names {W : World} {k : Nat} {c : Ct} {nv : Value} (h : CB W k c nv) (nu : Value) : CB (W.setCell ⟨k, 2, none⟩ nu) k c nu := by
  have := heap_setCell_same W k 2 _ 24 nu h
  rw [CB, this]; rfl

theorem extract_mid (a x b : List UInt8) : (str (a ++ x ++ b)).extract a.length (a.length + x.length) = str x := by
  rw [str_extract]
  congr 2
  rw [List.append_assoc, List.take_append, List.take_of_length_le (by omega), show a.length + x.length - a.length = x.length by omega, List.take_append_of_le_length (Nat.le_refl _), List.take_length]
  simp
set_option maxHeartbeats 4000000 in
theorem within_yes {w : World} (a x b : List UInt8) (hl : (a ++ x ++ b).length ≤ 1000000) : Calls Tryd.prog 14 #[sv x, sv (a ++ x ++ b)] w fun e w' => e = .returned (.bool true) ∧ w = w' := by
  obtain ⟨y, hy⟩ : ∃ y, y = a ++ x ++ b := ⟨_, rfl⟩
  have hyl : a.length + x.length ≤ y.length := by rw [hy]; simp
  have HM := Lib.hid (show (str y).extract a.length (a.length + x.length) = str x by rw [hy]; exact extract_mid a x b)
  rw [← hy] at hl ⊢
  have hz := str_size x
  have hz2 := str_size y
  clear hy
  go_enter Tryd.func14, Tryd.ntmps14
  go_wp2_with fail
  go_loop [5] (fun i => ∃ j : Nat, j ≤ a.length ∧ i = .int .i64 j) (fun i => a.length - (intOf i).toNat)
  case atStart => exact ⟨0, Nat.zero_le _, rfl⟩
  case round =>
    obtain ⟨j, hj, rfl⟩ := hrel
    have h1 : (j : Int) + (x.length : Int) ≤ (y.length : Int) := by omega
    have h2 : (j : Int) ≤ (j : Int) + (x.length : Int) := by omega
    have h3 : IntKind.i64.wrap ((j : Int) + (x.length : Int)) = (j : Int) + (x.length : Int) := IntWalk.i64_in _ (by omega)
    have h4 : ((j : Int) + (x.length : Int)).toNat = j + x.length := by omega
    obtain ⟨p, hp⟩ : ∃ p, str p = (str y).extract j (j + x.length) := ⟨_, (str_extract y j (j + x.length)).symm⟩
    have HP := Lib.hid hp
    have hp' := hp.symm
    clear hp
    by_cases hpx : p = x
    · subst hpx
      go_wp2_with fail
      go_ret
      exact ⟨rfl, rfl⟩
    · have hja : j < a.length := by
        rcases Nat.lt_or_ge j a.length with h | h
        · exact h
        · exfalso
          obtain rfl : j = a.length := by omega
          have e := HP.out.trans HM.out
          apply hpx
          have := congrArg (fun b : ByteArray => b.data.toList) e
          simpa [str] using this
      have hpb : (p == x) = false := by simpa using hpx
      go_wp2_with fail
      go_round
      case rel => exact ⟨j + 1, by omega, by go_num⟩
      case measure => simp [intOf]; omega
end Go.Proofs.YtamlblfhjpajhaaDoor

namespace Go.Proofs.YtamlblfhjpajhaaDoor
set_option linter.unusedSimpArgs false
set_option linter.unusedVariables false
open Go Go.RowKit
set_option maxRecDepth 100000

theorem TW.set1 {b : Nat} {W : World} {n j : Nat} {v u : Value} {xs : List (List UInt8)} (h : TW b W v xs) (hn : n < b) : TW b (W.setCell ⟨n, j, none⟩ u) v xs :=
  h.old (row := some n) (grownBy_cellF W n j u) (fun g e e2 => by have := (h.lt e).1; simp only [Option.some.injEq] at e2; omega)
theorem CB.cells {W : World} {k : Nat} {c : Ct} {nv : Value} (h : CB W k c nv) : W.cell? ⟨k, 0, none⟩ = some (sv c.key) ∧ W.cell? ⟨k, 1, none⟩ = some (sv c.sig) ∧ W.cell? ⟨k, 2, none⟩ = some nv ∧ W.cell? ⟨k, 3, none⟩ = some (.int .i64 c.fr) ∧ W.cell? ⟨k, 4, none⟩ = some (.int .i64 c.un) ∧ W.cell? ⟨k, 5, none⟩ = some (.bool c.ca) := ⟨h.c0, h.c1, h.c2, h.c3, h.c4, h.c5⟩
theorem with_name {P : World → Prop} (hP : Cl P) {w : World} (h : P w) {c : Ct} {A : Option Addr} {cp : Nat} (hx : SX w (.slice A c.names.length cp) c.names) (hl : c.names.length ≤ 900) (name : List UInt8) :
    ∃ g cap w7 g2 cap2 w8,
      (Builtin.append_ #[22, 22] 22 #[.slice (some ⟨w.heap.size + 1, 0, none⟩) 0 0, .slice A c.names.length cp]).run Tryd.prog ((w.alloc (cellsC c (.slice A c.names.length cp))).alloc (.cells #[] 9)) = .ok (.slice (some ⟨g, 0, none⟩) c.names.length cap) w7 ∧
      (Builtin.append_ #[22, 22] 22 #[.slice (some ⟨g, 0, none⟩) c.names.length cap, .slice (some ⟨w7.heap.size, 0, none⟩) 1 1]).run Tryd.prog (w7.alloc (.cells #[sv name] 9)) = .ok (.slice (some ⟨g2, 0, none⟩) (c.names.length + 1) cap2) w8 ∧
      CB w8 w.heap.size c (.slice A c.names.length cp) ∧
      CB (w8.setCell ⟨w.heap.size, 2, none⟩ (.slice (some ⟨g2, 0, none⟩) (c.names.length + 1) cap2)) w.heap.size c (.slice (some ⟨g2, 0, none⟩) (c.names.length + 1) cap2) ∧
      P (w8.setCell ⟨w.heap.size, 2, none⟩ (.slice (some ⟨g2, 0, none⟩) (c.names.length + 1) cap2)) ∧
      SX (w8.setCell ⟨w.heap.size, 2, none⟩ (.slice (some ⟨g2, 0, none⟩) (c.names.length + 1) cap2)) (.slice (some ⟨g2, 0, none⟩) (c.names.length + 1) cap2) (c.names ++ [name]) := by
  obtain ⟨W, hW⟩ : ∃ W, W = w.alloc (cellsC c (.slice A c.names.length cp)) := ⟨_, rfl⟩
  have hz : W.heap.size = w.heap.size + 1 := by rw [hW, World.size_alloc]
  have hb0 : Below w.heap.size w W := by rw [hW]; exact below_alloc _ _
  have hc0 : CB W w.heap.size c (.slice A c.names.length cp) := by rw [hW]; exact CB.new _ _ _
  obtain ⟨g, cap, w7, h1, t7, b7⟩ := app_all (hx.step hb0) (by omega)
  obtain ⟨g2, cap2, w8, h2, t8, b8⟩ := tw_app t7 b7 (by omega) name
  rw [← hW, ← hz]
  have hc8 : CB w8 w.heap.size c (.slice A c.names.length cp) := hc0.step b8
  have hb8 : Below w.heap.size w w8 := hb0.trans (b8.mono (by omega))
  refine ⟨g, cap, w7, g2, cap2, w8, h1, h2, hc8, hc8.names _, hP.step h (hb8.setCell (p := ⟨w.heap.size, 2, none⟩) (Nat.le_refl _) _), ?_⟩
  exact (t8.set1 (by omega)).sx
end Go.Proofs.YtamlblfhjpajhaaDoor

namespace Go.Proofs.YtamlblfhjpajhaaDoor
set_option linter.unusedSimpArgs false
set_option linter.unusedVariables false
open Go Go.RowKit
set_option maxRecDepth 100000

theorem Cl.gb2 {w : World} : Cl (fun W => Gb w W ∧ LWc W) := ⟨fun h hb => ⟨h.1.step hb, h.2.below hb⟩, fun h => h.1.2⟩
theorem digest_length {s : List UInt8} (h : keyB s = true) : (digestL s).length = 32 := by
  unfold digestL
  rw [h]
  show (sumP (spkiL s)).length = 32
  have hh : ∀ l : List W32, (l.flatMap wordB).length = 4 * l.length := by
    intro l
    induction l with
    | nil => rfl
    | cons x l ih => rw [List.flatMap_cons, List.length_append, ih]; unfold wordB; rw [bytesBE_length, List.length_cons]; omega
  unfold sumP
  rw [hh]
  rfl
theorem spki_one {k : List UInt8} (h : keyB k = true) : spkiL k = formL k := by unfold spkiL; rw [h]; rfl
theorem spki_eq {j k : List UInt8} (hj : keyB j = true) (h : spkiL j = spkiL k) : j = k := by
  have h1 := (keyB_iff.1 hj).2
  cases hk : keyB k with
  | false =>
    rw [spki_one hj] at h
    have : spkiL k = [] := by unfold spkiL; rw [hk]; rfl
    rw [this] at h
    have := form_length h1
    rw [h] at this
    simp at this
  | true =>
    rw [spki_one hj, spki_one hk] at h
    exact form_inj h1 (keyB_iff.1 hk).2 h
end Go.Proofs.YtamlblfhjpajhaaDoor
