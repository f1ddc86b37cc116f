/-
  The contract of read: where the tags are a certificate's; and whole.
-/
import Derived.Test.YtamlblfhjpajhaaDoorGRead
namespace Go.Proofs.YtamlblfhjpajhaaDoor
set_option linter.unusedSimpArgs false
set_option linter.unusedVariables false
open Go Go.RowKit
set_option maxRecDepth 100000

/-- What alone tells, in one form. -/
def AlP (r : Option (List UInt8)) (kv : List UInt8) (ke : Int) : Prop := match r with | some v => kv = v ∧ ke = 0 | none => ke = 4
theorem alone_gen (s : List UInt8) (z : Int) (t : UInt8) (hz : z = (t.toNat : Int)) (hs : s.length ≤ 281474976710656) : ∃ kv ke, AlP (aloneO s t) kv ke ∧ ∀ W : World, Calls Tryd.prog 29 #[sv s, .int .u8 z] W fun e w' => e = .returned (.tuple #[sv kv, .int .i64 ke]) ∧ Below W.heap.size W w' := by
  cases h : aloneO s t with
  | some v => exact ⟨v, 0, ⟨rfl, rfl⟩, fun W => alone_yes s v z t hz hs h⟩
  | none => exact ⟨[], 4, rfl, fun W => alone_no s z t hz hs h⟩
/-- What readNames tells, in one form; b: below the row. -/
def NmP (b : Nat) (W : World) (r : Option (List (List UInt8))) (A : Option Addr) (m cp : Nat) (ne : Int) : Prop := match r with | some ns => ne = 0 ∧ m = ns.length ∧ TW b W (.slice A m cp) ns | none => ne ≠ 0
theorem NmP.step {b : Nat} {W W' : World} {r : Option (List (List UInt8))} {A : Option Addr} {m cp : Nat} {ne : Int} (h : NmP b W r A m cp ne) (hb : Below W.heap.size W W') : NmP b W' r A m cp ne := by
  cases r with
  | none => exact h
  | some ns => exact ⟨h.1, h.2.1, h.2.2.below hb⟩
theorem names_gen (s : List UInt8) (hs : s.length ≤ 1000000) {b : Nat} {W : World} (hb : b ≤ W.heap.size) : Calls Tryd.prog 32 #[sv s] W fun e w' => ∃ A m cp ne, e = .returned (.tuple #[.slice A m cp, .int .i64 ne]) ∧ NmP b w' (namesO s) A m cp ne ∧ Below W.heap.size W w' := by
  refine (readNames_any s hs).mono ?_
  rintro e w' ⟨h1, h2⟩
  cases h : namesO s with
  | none =>
    rw [h] at h2
    obtain ⟨n, hn, rfl⟩ := h2
    exact ⟨none, 0, 0, n, rfl, hn, h1⟩
  | some ns =>
    rw [h] at h2
    obtain ⟨v, rfl, ht⟩ := h2
    obtain ⟨A, cp, rfl⟩ := ht.form
    exact ⟨A, ns.length, cp, 0, rfl, ⟨rfl, rfl, ht.lower hb⟩, h1⟩
theorem or5 (a b c d e : Int) : orZ [a, b, c, d, e] = 0 ↔ a = 0 ∧ b = 0 ∧ c = 0 ∧ d = 0 ∧ e = 0 := by
  unfold orZ orZ orZ orZ orZ orZ
  constructor
  · intro h
    split at h
    · split at h
      · split at h
        · split at h
          · split at h
            · exact ⟨by assumption, by assumption, by assumption, by assumption, by assumption⟩
            · contradiction
          · contradiction
        · contradiction
      · contradiction
    · contradiction
  · rintro ⟨rfl, rfl, rfl, rfl, rfl⟩; rfl
theorem okN_zero (b : Bool) : okN b = 0 ↔ b = true := by cases b <;> simp [okN]
theorem boolB_caB (s : List UInt8) : boolB s = caB s := rfl
/-- What the five errors say of the certificate. -/
theorem five {x0 x1 x2 x3 x4 x5 kv : List UInt8} {ke ne : Int} {b : Nat} {W : World} {A : Option Addr} {m cp : Nat} (hk : AlP (aloneO x0 4) kv ke) (hn : NmP b W (namesO x2) A m cp ne) :
    (orZ [ke, ne, okN (readB x3), okN (readB x4), okN (boolB x5)] ≠ 0 ∧ ofItems [(48, x0), (4, x1), (48, x2), (2, x3), (2, x4), (1, x5)] = none) ∨
    (orZ [ke, ne, okN (readB x3), okN (readB x4), okN (boolB x5)] = 0 ∧ ∃ ns, m = ns.length ∧ namesO x2 = some ns ∧ ofItems [(48, x0), (4, x1), (48, x2), (2, x3), (2, x4), (1, x5)] = some ⟨kv, x1, ns, readN x3, readN x4, x5 == [255]⟩) := by
  unfold ofItems
  simp only [List.getD_cons_zero, List.getD_cons_succ]
  cases h0 : aloneO x0 4 with
  | none =>
    rw [h0] at hk
    left
    refine ⟨fun h => ?_, rfl⟩
    have := (or5 _ _ _ _ _).1 h
    have hk' : ke = 4 := hk
    omega
  | some k =>
    rw [h0] at hk
    obtain ⟨rfl, rfl⟩ := hk
    cases h2 : namesO x2 with
    | none =>
      rw [h2] at hn
      left
      exact ⟨fun h => hn ((or5 _ _ _ _ _).1 h).2.1, rfl⟩
    | some ns =>
      rw [h2] at hn
      obtain ⟨rfl, h3, h4⟩ := hn
      by_cases hc : (readB x3 && readB x4 && caB x5) = true
      · right
        simp only [Bool.and_eq_true] at hc
        obtain ⟨⟨c3, c4⟩, c5⟩ := hc
        refine ⟨(or5 _ _ _ _ _).2 ⟨rfl, rfl, (okN_zero _).2 c3, (okN_zero _).2 c4, (okN_zero _).2 c5⟩, ns, h3, rfl, ?_⟩
        simp only [c3, c4, c5, Bool.and_self, if_true, readN]
      · left
        refine ⟨fun h => hc ?_, by simp only; rw [if_neg hc]⟩
        obtain ⟨_, _, c3, c4, c5⟩ := (or5 _ _ _ _ _).1 h
        simp only [Bool.and_eq_true]
        exact ⟨⟨(okN_zero _).1 c3, (okN_zero _).1 c4⟩, (okN_zero _).1 c5⟩

/-- The values of six things in a row. -/
def S6 (W : World) (g off : Nat) (x0 x1 x2 x3 x4 x5 : List UInt8) : Prop := g < W.heap.size ∧ W.cell? ⟨g, off + 1, none⟩ = some (sv x0) ∧ W.cell? ⟨g, off + 2 + 1, none⟩ = some (sv x1) ∧ W.cell? ⟨g, off + 4 + 1, none⟩ = some (sv x2) ∧ W.cell? ⟨g, off + 6 + 1, none⟩ = some (sv x3) ∧ W.cell? ⟨g, off + 8 + 1, none⟩ = some (sv x4) ∧ W.cell? ⟨g, off + 10 + 1, none⟩ = some (sv x5)
theorem S6.step {W W' : World} {g off : Nat} {x0 x1 x2 x3 x4 x5 : List UInt8} (h : S6 W g off x0 x1 x2 x3 x4 x5) (hb : Below W.heap.size W W') : S6 W' g off x0 x1 x2 x3 x4 x5 := by
  obtain ⟨h, a0, a1, a2, a3, a4, a5⟩ := h
  have k : ∀ j, W'.cell? ⟨g, j, none⟩ = W.cell? ⟨g, j, none⟩ := fun j => hb.cell (p := ⟨g, j, none⟩) h
  exact ⟨Nat.lt_of_lt_of_le h hb.size, (k _).trans a0, (k _).trans a1, (k _).trans a2, (k _).trans a3, (k _).trans a4, (k _).trans a5⟩
section
variable {W : World} {g off : Nat} {x0 x1 x2 x3 x4 x5 : List UInt8}
theorem S6.y1 (h : S6 W g off x0 x1 x2 x3 x4 x5) : W.cell? ⟨g, off + 2 + 1, none⟩ = some (sv x1) := h.2.2.1
theorem S6.y2 (h : S6 W g off x0 x1 x2 x3 x4 x5) : W.cell? ⟨g, off + 4 + 1, none⟩ = some (sv x2) := h.2.2.2.1
theorem S6.y3 (h : S6 W g off x0 x1 x2 x3 x4 x5) : W.cell? ⟨g, off + 6 + 1, none⟩ = some (sv x3) := h.2.2.2.2.1
theorem S6.y4 (h : S6 W g off x0 x1 x2 x3 x4 x5) : W.cell? ⟨g, off + 8 + 1, none⟩ = some (sv x4) := h.2.2.2.2.2.1
theorem S6.y5 (h : S6 W g off x0 x1 x2 x3 x4 x5) : W.cell? ⟨g, off + 10 + 1, none⟩ = some (sv x5) := h.2.2.2.2.2.2
end
theorem S6.of {W : World} {A : Option Addr} {c : Nat} {t0 t1 t2 t3 t4 t5 : UInt8} {x0 x1 x2 x3 x4 x5 : List UInt8} (h : TR W (.slice A 6 c) [(t0, x0), (t1, x1), (t2, x2), (t3, x3), (t4, x4), (t5, x5)]) : ∃ g off, A = some ⟨g, off, none⟩ ∧ S6 W g off x0 x1 x2 x3 x4 x5 := by
  obtain ⟨A', c', e, h⟩ := h
  simp only [Value.slice.injEq] at e
  obtain ⟨rfl, _, rfl⟩ := e
  obtain ⟨g, off, e, hl, hc⟩ := h (by simp)
  exact ⟨g, off, e, hl, (hc 0 (by simp)).2, (hc 1 (by simp)).2, (hc 2 (by simp)).2, (hc 3 (by simp)).2, (hc 4 (by simp)).2, (hc 5 (by simp)).2⟩
theorem CB.put6_other {W : World} {k n : Nat} {c : Ct} {nv v0 v1 v2 v3 v4 v5 : Value} (h : CB W k c nv) (hk : k ≠ n) : CB (st6 W n v0 v1 v2 v3 v4 v5) k c nv :=
  (((((h.set hk _).set hk _).set hk _).set hk _).set hk _).set hk _
theorem TW.put6 {b : Nat} {W : World} {n : Nat} {v v0 v1 v2 v3 v4 v5 : Value} {xs : List (List UInt8)} (h : TW b W v xs) (hn : n < b) : TW b (st6 W n v0 v1 v2 v3 v4 v5) v xs := by
  have one : ∀ (W : World) (j : Nat) (u : Value), TW b W v xs → TW b (W.setCell ⟨n, j, none⟩ u) v xs := fun W j u h =>
    h.old (row := some n) (grownBy_cellF W n j u) (fun g e e2 => by have := (h.lt e).1; simp only [Option.some.injEq] at e2; omega)
  exact one _ 5 _ (one _ 4 _ (one _ 3 _ (one _ 2 _ (one _ 1 _ (one _ 0 _ h)))))
theorem read_fin {w W : World} {R : Ending → World → Prop} {d : Ct} {nu : Value} (hc : CB W w.heap.size d nu) (tm : Array Value) (Z : Int) (h2 : tm.getD 2 undef = .pointer (some ⟨w.heap.size, 0, none⟩)) (h3 : tm.getD 3 undef = .int .i64 Z) (hR : R (.returned (.tuple #[certV d nu, .int .i64 Z])) W) :
    bodyPost Tryd.prog Tryd.f21 R .ret { tmps := tm, defers := [] } W :=
  bodyPost_ret (resCT (p := 2) (q := 3) (by kernel_rfl) _ _ w.heap.size 24 _ (0, 0) _ h2 hc Tryd.underlying24 rfl (by kernel_rfl)) rfl (by rw [h3]; exact hR)
set_option maxHeartbeats 8000000 in
theorem read_D {w : World} (s row x0 x1 x2 x3 x4 x5 : List UInt8) (l : List Tv) (hs : s.length ≤ 1000000) (hw : GL w) (h : aloneO s 48 = some row) (h2 : allR row = .ok l) (hl : l = [(48, x0), (4, x1), (48, x2), (2, x3), (2, x4), (1, x5)]) : Calls Tryd.prog 21 #[sv s] w (ReadPost w (readC s)) := by
  have HR := Lib.hid (show readC s = ofItems [(48, x0), (4, x1), (48, x2), (2, x3), (2, x4), (1, x5)] by unfold readC; rw [h]; simp only; rw [h2]; simp only; rw [if_pos (by rw [hl]; rfl), hl])
  have hrl := alone_len h
  have HA := Lib.hid (fun W : World => @alone_yes W s row 48 48 rfl (by omega) h)
  have hal := fun W => all_any row W (by omega)
  rw [h2] at hal
  have h6 : l.length = 6 := by rw [hl]; rfl
  -- each value is no longer than the row
  have hput := (allR_ok h2).1
  rw [hl] at hput
  have hxl : x0.length ≤ 1000000 ∧ x1.length ≤ 1000000 ∧ x2.length ≤ 1000000 ∧ x3.length ≤ 1000000 ∧ x4.length ≤ 1000000 ∧ x5.length ≤ 1000000 := by
    have hh := congrArg List.length hput
    simp only [putsL, List.length_append, List.length_nil] at hh
    have := putT_ge 48 x0
    have := putT_ge 4 x1
    have := putT_ge 48 x2
    have := putT_ge 2 x3
    have := putT_ge 2 x4
    have := putT_ge 1 x5
    omega
  obtain ⟨l0, l1, l2, l3, l4, l5⟩ := hxl
  have HTG := Lib.hid (fun (W : World) (A : Option Addr) (c : Nat) (hR : TR W (.slice A 6 c) l) => show Calls Tryd.prog 31 #[.slice A 6 c] W (fun e w' => e = .returned (arrV (tagsOfL l)) ∧ Below W.heap.size W w') by
    have := @tagsOf_any W l A c (by rw [h6]; exact hR) (by omega)
    rw [h6] at this
    exact this)
  have HBB := Lib.hid (show (tagsOfL l != tagsC) = false by rw [tagsOf_iff, hl]; simp [tagsC])
  have HL := Lib.hid (fun W : World => show Calls Tryd.prog 30 #[sv row] W (fun e w' => ∃ A c, e = .returned (.tuple #[.slice A 6 c, .int .i64 0]) ∧ TR w' (.slice A 6 c) l ∧ Below W.heap.size W w') from (hal W).mono fun e w' ⟨v, he, hto, hb⟩ => by
    obtain ⟨A, c, rfl⟩ := hto.form
    have := hto.pr
    rw [h6] at he this
    exact ⟨A, c, he, this, hb⟩)
  have HG := Lib.hid ((Gb.start hw).alloc zeroC)
  have HC := Lib.hid (CB.new w ct0 (.slice none 0 0))
  have HEQ := Lib.hid hl
  obtain ⟨kv, ke, hke, hkc⟩ := alone_gen x0 4 4 rfl (by omega)
  have HKE := Lib.hid hke
  have HKC := Lib.hid hkc
  have HNC := Lib.hid (fun (W : World) (hb : w.heap.size < W.heap.size) => @names_gen x2 (by omega) (w.heap.size + 1) W hb)
  have H3 := Lib.hid (fun W : World => @readInt_any W x3 (by omega))
  have H4 := Lib.hid (fun W : World => @readInt_any W x4 (by omega))
  have H5 := Lib.hid (fun W : World => @readBool_any W x5 (by omega))
  clear hw h h2 hal h6 hput l0 l1 l2 l3 l4 l5 hke hkc hl
  go_enter Tryd.func21, Tryd.ntmps21
  go_wp2_with (first | (go_at_call 29; refine (HA.out _).mono ?_; rintro e w1 ⟨rfl, hb1⟩; have HG1 := Lib.hid (HG.out.step hb1); have HC1 := Lib.hid (HC.out.step hb1); clear hb1) | (go_at_call 30; refine (HL.out _).mono ?_; rintro e w2 ⟨A0, cp0, rfl, htr, hb2⟩; have HG3 := Lib.hid (HG1.out.step hb2); have HC3 := Lib.hid (HC1.out.step hb2); have HT3 := Lib.hid htr; clear htr hb2))
  refine wp_region_held_drew (S := fun W => Gb w W ∧ CB W w.heap.size ct0 (.slice none 0 0) ∧ TR W (.slice A0 6 cp0) l) (by kernel_rfl) ⟨HG3.out.drew, HC3.out.step (Below.refl _ _).drew, HT3.out.step (Below.refl _ _).drew⟩ (fun hHeld => ?_)
  refine wpAnyH_take (i := 0) (v := ?vv0_1) rfl (by kernel_rfl) (by kernel_rfl) (by kernel_rfl) (fun _ _ _ h => h) (Or.inl ⟨by rfl, ?hy0_1⟩) (by assumption) ?rest0_1
  case hy0_1 => (intro w' hSw; (try dsimp only at hSw); go_simp; try with_reducible rfl)
  try simp only [List.getElem_toArray, List.getElem_cons_zero, List.getElem_cons_succ, Act.put, List.setIfInBounds_toArray, List.set_cons_zero, List.set_cons_succ]
  refine wpAnyH_take (i := 1) (v := ?vv1_1) rfl (by kernel_rfl) (by kernel_rfl) (by kernel_rfl) (fun _ _ _ h => h) (Or.inl ⟨by rfl, ?hy1_1⟩) (by assumption) ?rest1_1
  case hy1_1 => (intro w' hSw; (try dsimp only at hSw); go_simp; try with_reducible rfl)
  try simp only [List.getElem_toArray, List.getElem_cons_zero, List.getElem_cons_succ, Act.put, List.setIfInBounds_toArray, List.set_cons_zero, List.set_cons_succ]
  refine wpAnyH_take (i := 2) (v := ?vv2_1) rfl (by kernel_rfl) (by kernel_rfl) (by kernel_rfl) (fun _ _ _ h => h) (Or.inl ⟨by rfl, ?hy2_1⟩) (by assumption) ?rest2_1
  case hy2_1 => (intro w' hSw; (try dsimp only at hSw); go_simp; try with_reducible rfl)
  try simp only [List.getElem_toArray, List.getElem_cons_zero, List.getElem_cons_succ, Act.put, List.setIfInBounds_toArray, List.set_cons_zero, List.set_cons_succ]
  refine wpAnyH_take (i := 3) (v := ?vv3_1) rfl (by kernel_rfl) (by kernel_rfl) (by kernel_rfl) (fun _ _ _ h => h) (Or.inl ⟨by rfl, ?hy3_1⟩) (by assumption) ?rest3_1
  case hy3_1 => (intro w' hSw; (try dsimp only at hSw); go_simp; try with_reducible rfl)
  try simp only [List.getElem_toArray, List.getElem_cons_zero, List.getElem_cons_succ, Act.put, List.setIfInBounds_toArray, List.set_cons_zero, List.set_cons_succ]
  refine wpAnyH_take (i := 4) (v := ?vv4_1) rfl (by kernel_rfl) (by kernel_rfl) (by kernel_rfl) (fun _ _ _ h => h) (Or.inl ⟨by rfl, ?hy4_1⟩) (by assumption) ?rest4_1
  case hy4_1 => (intro w' hSw; (try dsimp only at hSw); go_simp; try with_reducible rfl)
  try simp only [List.getElem_toArray, List.getElem_cons_zero, List.getElem_cons_succ, Act.put, List.setIfInBounds_toArray, List.set_cons_zero, List.set_cons_succ]
  refine wpAnyH_take (i := 5) (v := ?vv5_1) rfl (by kernel_rfl) (by kernel_rfl) (by kernel_rfl) (fun _ _ _ h => h) (Or.inl ⟨by rfl, ?hy5_1⟩) (by assumption) ?rest5_1
  case hy5_1 => (intro w' hSw; (try dsimp only at hSw); go_simp; try with_reducible rfl)
  try simp only [List.getElem_toArray, List.getElem_cons_zero, List.getElem_cons_succ, Act.put, List.setIfInBounds_toArray, List.set_cons_zero, List.set_cons_succ]
  refine wpAnyH_take (i := 6) (v := ?vv6_1) rfl (by kernel_rfl) (by kernel_rfl) (by kernel_rfl) (fun _ _ _ h => h) (Or.inl ⟨by rfl, ?hy6_1⟩) (by assumption) ?rest6_1
  case hy6_1 => (intro w' hSw; (try dsimp only at hSw); go_simp; try with_reducible rfl)
  try simp only [List.getElem_toArray, List.getElem_cons_zero, List.getElem_cons_succ, Act.put, List.setIfInBounds_toArray, List.set_cons_zero, List.set_cons_succ]
  refine wpAnyH_take (i := 7) (v := ?vv7_1) rfl (by kernel_rfl) (by kernel_rfl) (by kernel_rfl) (fun _ _ _ h => h) (Or.inl ⟨by rfl, ?hy7_1⟩) (by assumption) ?rest7_1
  case hy7_1 => (intro w' hSw; (try dsimp only at hSw); go_simp; try with_reducible rfl)
  try simp only [List.getElem_toArray, List.getElem_cons_zero, List.getElem_cons_succ, Act.put, List.setIfInBounds_toArray, List.set_cons_zero, List.set_cons_succ]
  refine wpAnyH_take (i := 9) (v := arrV tagsC) rfl (by kernel_rfl) (by kernel_rfl) (by kernel_rfl) (fun _ _ _ h => h) (Or.inl ⟨by rfl, fun w' hSw => (by obtain ⟨T, fz, hrw⟩ := hSw.1.2.row; exact exec_load_row w' rfl rfl hrw Tryd.underlying51 rfl (by kernel_rfl))⟩) (by assumption) ?_
  try simp only [List.getElem_toArray, List.getElem_cons_zero, List.getElem_cons_succ, Act.put, List.setIfInBounds_toArray, List.set_cons_zero, List.set_cons_succ]
  refine wpAnyH_ready (rs := [8]) (by kernel_rfl) (by simp) ?_
  refine AllReadyH.cons rfl (fun K hK => ?_) AllReadyH.nil
  go_simp
  go_at_call 31
  refine (HTG.out _ A0 cp0 hHeld.2.2).mono ?_
  rintro e w4 ⟨rfl, hb4⟩
  refine hK.out _ _ ⟨hHeld.1.step hb4, hHeld.2.1.step hb4, hHeld.2.2.step hb4⟩ (fun hHeld => ?_)
  clear hK K
  try simp only [List.getElem_toArray, List.getElem_cons_zero, List.getElem_cons_succ, Act.put, List.setIfInBounds_toArray, List.set_cons_zero, List.set_cons_succ]
  refine wpAnyH_take (i := 10) (v := .bool false) rfl (by kernel_rfl) (by kernel_rfl) (by kernel_rfl) (fun _ _ _ h => h) (Or.inl ⟨by rfl, fun w' hSw => (by rw [← HBB.out]; exact exec_neq_tags rfl rfl rfl (tagsOf_length l) rfl)⟩) (by assumption) ?_
  try simp only [List.getElem_toArray, List.getElem_cons_zero, List.getElem_cons_succ, Act.put, List.setIfInBounds_toArray, List.set_cons_zero, List.set_cons_succ]
  refine wpAnyH_take (i := 11) (v := ?vv11_1) rfl (by kernel_rfl) (by kernel_rfl) (by kernel_rfl) (fun _ _ _ h => h) (Or.inl ⟨by rfl, ?hy11_1⟩) (by assumption) ?rest11_1
  case hy11_1 => (intro w' hSw; (try dsimp only at hSw); go_simp; try with_reducible rfl)
  try simp only [List.getElem_toArray, List.getElem_cons_zero, List.getElem_cons_succ, Act.put, List.setIfInBounds_toArray, List.set_cons_zero, List.set_cons_succ]
  refine wpAnyH_done (by kernel_rfl) ?_ _
  have hTR : TR w4 (.slice A0 6 cp0) [(48, x0), (4, x1), (48, x2), (2, x3), (2, x4), (1, x5)] := by
    have := hHeld.2.2
    rw [HEQ.out] at this
    exact this
  obtain ⟨g, off, hA, hS⟩ := S6.of hTR
  subst hA
  have HS4 := Lib.hid hS
  have HG4 := Lib.hid hHeld.1
  have HC4 := Lib.hid hHeld.2.1
  obtain ⟨_, a0, _⟩ := hS
  clear hHeld hb4 hTR
  go_wp2_with (first
    | (go_at_call 29; with_reducible refine (HKC.out _).mono ?_; rintro e w5 ⟨rfl, hb5⟩; have HS5 := Lib.hid (HS4.out.step hb5); have HG5 := Lib.hid (HG4.out.step hb5); have HC5 := Lib.hid (HC4.out.step hb5); have a2 := (HS4.out.step hb5).y2; clear hb5 a0)
    | (go_at_call 32; with_reducible refine (HNC.out _ HC5.out.lt).mono ?_; rintro e w6 ⟨A, m, cp, ne, rfl, hn6, hb6⟩; have HN6 := Lib.hid hn6; have HS6 := Lib.hid (HS5.out.step hb6); have HG6 := Lib.hid (HG5.out.step hb6); have HC6 := Lib.hid (HC5.out.step hb6); have a3 := (HS5.out.step hb6).y3; clear hn6 hb6 a2)
    | (go_at_call 33; with_reducible refine (H3.out _).mono ?_; rintro e w7 ⟨rfl, hb7⟩; have HN7 := Lib.hid (HN6.out.step hb7); have HS7 := Lib.hid (HS6.out.step hb7); have HG7 := Lib.hid (HG6.out.step hb7); have HC7 := Lib.hid (HC6.out.step hb7); have a4 := (HS6.out.step hb7).y4; clear hb7 a3)
    | (go_at_call 33; with_reducible refine (H4.out _).mono ?_; rintro e w8 ⟨rfl, hb8⟩; have HN8 := Lib.hid (HN7.out.step hb8); have HG8 := Lib.hid (HG7.out.step hb8); have HC8 := Lib.hid (HC7.out.step hb8); have a1 := (HS7.out.step hb8).y1; have a5 := (HS7.out.step hb8).y5; clear hb8 a4)
    | (go_at_call 34; with_reducible refine (H5.out _).mono ?_; rintro e w9 ⟨rfl, rfl⟩))
  have hfv := five (x1 := x1) (x3 := x3) (x4 := x4) (x5 := x5) HKE.out HN8.out
  rw [← HR.out] at hfv
  obtain ⟨e3, he3⟩ : ∃ z, z = okN (readB x3) := ⟨_, rfl⟩
  obtain ⟨e4, he4⟩ : ∃ z, z = okN (readB x4) := ⟨_, rfl⟩
  obtain ⟨e5, he5⟩ : ∃ z, z = okN (boolB x5) := ⟨_, rfl⟩
  obtain ⟨n3, hn3⟩ : ∃ z, z = readN x3 := ⟨_, rfl⟩
  obtain ⟨n4, hn4⟩ : ∃ z, z = readN x4 := ⟨_, rfl⟩
  obtain ⟨b5, hb5⟩ : ∃ z, z = (x5 == [255]) := ⟨_, rfl⟩
  rw [← he3, ← he4, ← he5, ← hn3, ← hn4, ← hb5] at hfv
  rw [← he3, ← he4, ← he5, ← hn3, ← hn4, ← hb5]
  have HFV := Lib.hid hfv
  obtain ⟨k9, hk9⟩ : ∃ k, k = w8.heap.size := ⟨_, rfl⟩
  obtain ⟨W9, hW9⟩ : ∃ W, W = w8.alloc (.cells #[sv kv, sv x1, .slice A m cp, .int .i64 n3, .int .i64 n4, .bool b5] 24) := ⟨_, rfl⟩
  rw [← hk9, ← hW9]
  obtain ⟨cc, hcc⟩ : ∃ c : Ct, c = ⟨kv, x1, [], n3, n4, b5⟩ := ⟨_, rfl⟩
  have HCC := Lib.hid hcc
  have HC9 := Lib.hid (show CB W9 k9 cc (.slice A m cp) by rw [hW9, hk9, hcc]; exact heap_alloc_new _ _)
  have hb89 : Below w8.heap.size w8 W9 := by rw [hW9]; exact below_alloc _ _
  have HB9 := Lib.hid (HG8.out.step hb89).1
  have HR9 := Lib.hid (HC8.out.step hb89)
  have HN9 := Lib.hid (HN8.out.step hb89)
  have HKN := Lib.hid (show k9 ≠ w.heap.size from by rw [hk9]; exact Nat.ne_of_gt HC8.out.lt)
  obtain ⟨Z, hZ⟩ : ∃ Z, Z = orZ [ke, ne, e3, e4, e5] := ⟨_, rfl⟩
  have HOR := Lib.hid (fun c => show Calls Tryd.prog 35 #[.slice (some ⟨W9.heap.size, 0, none⟩) 5 c] (W9.alloc (.cells #[.int .i64 ke, .int .i64 ne, .int .i64 e3, .int .i64 e4, .int .i64 e5] 27)).drew (fun e w' => e = .returned (.int .i64 Z) ∧ Below W9.heap.size W9 w') from
    (@or_any (W9.alloc (.cells #[.int .i64 ke, .int .i64 ne, .int .i64 e3, .int .i64 e4, .int .i64 e5] 27)).drew [ke, ne, e3, e4, e5] W9.heap.size c (by simp) (heap_alloc_new W9 _)).mono fun e w' ⟨he, hw⟩ => ⟨by rw [hZ]; exact he, hw ▸ (below_alloc W9 _).drew⟩)
  have HZ := Lib.hid hZ
  clear hfv he3 he4 he5 hn3 hn4 hb5 hk9 hW9 hcc hb89 hZ a1 a5
  refine wp_region_held_drew (S := fun W => CB W k9 cc (.slice A m cp) ∧ Below w.heap.size w W) (by kernel_rfl) ⟨HC9.out.step (Below.refl _ _).drew, HB9.out.drew⟩ (fun hHeld => ?_)
  refine wpAnyH_take (i := 0) (v := certV cc (.slice A m cp)) rfl (by kernel_rfl) (by kernel_rfl) (by kernel_rfl) (fun _ _ _ h => h) (Or.inl ⟨by rfl, fun w' hSw => exec_load_row w' rfl rfl hSw.1 Tryd.underlying24 rfl (by kernel_rfl)⟩) (by assumption) ?_
  try simp only [List.getElem_toArray, List.getElem_cons_zero, List.getElem_cons_succ, Act.put, List.setIfInBounds_toArray, List.set_cons_zero, List.set_cons_succ]
  refine wpAnyH_take (i := 1) (v := ?vv1_2) rfl (by kernel_rfl) (by kernel_rfl) (by kernel_rfl) (fun _ _ _ h => h) (Or.inl ⟨by rfl, ?hy1_2⟩) (by assumption) ?rest1_2
  case hy1_2 => (intro w' hSw; (try dsimp only at hSw); go_simp; try with_reducible rfl)
  try simp only [List.getElem_toArray, List.getElem_cons_zero, List.getElem_cons_succ, Act.put, List.setIfInBounds_toArray, List.set_cons_zero, List.set_cons_succ]
  refine wpAnyH_take (i := 2) (v := ?vv2_2) rfl (by kernel_rfl) (by kernel_rfl) (by kernel_rfl) (fun _ _ _ h => h) (Or.inl ⟨by rfl, ?hy2_2⟩) (by assumption) ?rest2_2
  case hy2_2 => (intro w' hSw; (try dsimp only at hSw); go_simp; try with_reducible rfl)
  try simp only [List.getElem_toArray, List.getElem_cons_zero, List.getElem_cons_succ, Act.put, List.setIfInBounds_toArray, List.set_cons_zero, List.set_cons_succ]
  refine wpAnyH_take (i := 3) (v := ?vv3_2) rfl (by kernel_rfl) (by kernel_rfl) (by kernel_rfl) (fun _ _ _ h => h) (Or.inl ⟨by rfl, ?hy3_2⟩) (by assumption) ?rest3_2
  case hy3_2 => (intro w' hSw; (try dsimp only at hSw); go_simp; try with_reducible rfl)
  try simp only [List.getElem_toArray, List.getElem_cons_zero, List.getElem_cons_succ, Act.put, List.setIfInBounds_toArray, List.set_cons_zero, List.set_cons_succ]
  refine wpAnyH_take (i := 4) (v := ?vv4_2) rfl (by kernel_rfl) (by kernel_rfl) (by kernel_rfl) (fun _ _ _ h => h) (Or.inl ⟨by rfl, ?hy4_2⟩) (by assumption) ?rest4_2
  case hy4_2 => (intro w' hSw; (try dsimp only at hSw); go_simp; try with_reducible rfl)
  try simp only [List.getElem_toArray, List.getElem_cons_zero, List.getElem_cons_succ, Act.put, List.setIfInBounds_toArray, List.set_cons_zero, List.set_cons_succ]
  refine wpAnyH_take (i := 5) (v := ?vv5_2) rfl (by kernel_rfl) (by kernel_rfl) (by kernel_rfl) (fun _ _ _ h => h) (Or.inl ⟨by rfl, ?hy5_2⟩) (by assumption) ?rest5_2
  case hy5_2 => (intro w' hSw; (try dsimp only at hSw); go_simp; try with_reducible rfl)
  try simp only [List.getElem_toArray, List.getElem_cons_zero, List.getElem_cons_succ, Act.put, List.setIfInBounds_toArray, List.set_cons_zero, List.set_cons_succ]
  refine wpAnyH_ready (rs := [6]) (by kernel_rfl) (by simp) ?_
  refine AllReadyH.cons rfl (fun K hK => ?_) AllReadyH.nil
  go_simp
  refine hK.out _ _ ⟨HC9.out.step (below_alloc W9 _).drew, HB9.out.trans (((below_alloc W9 _).drew).mono HB9.out.size)⟩ (fun hHeld => ?_)
  clear hK K
  try simp only [List.getElem_toArray, List.getElem_cons_zero, List.getElem_cons_succ, Act.put, List.setIfInBounds_toArray, List.set_cons_zero, List.set_cons_succ]
  refine wpAnyH_ready (rs := [7]) (by kernel_rfl) (by simp) ?_
  refine AllReadyH.cons rfl (fun K hK => ?_) AllReadyH.nil
  go_simp
  go_at_call 35
  refine (HOR.out _).mono ?_
  rintro e w10 ⟨rfl, hb10⟩
  have HC10 := Lib.hid (HC9.out.step hb10)
  have HR10 := Lib.hid (HR9.out.step hb10)
  have HB10 := Lib.hid (HB9.out.trans (hb10.mono HB9.out.size))
  have HN10 := Lib.hid (HN9.out.step hb10)
  obtain ⟨⟨d0, d1, d2, d3, d4, d5⟩, g0, g1, g2, g3, g4, g5⟩ := (HR9.out.step hb10).zero
  clear hb10
  refine hK.out _ _ ⟨HC10.out, HB10.out⟩ (fun hHeld => ?_)
  clear hK K
  try simp only [List.getElem_toArray, List.getElem_cons_zero, List.getElem_cons_succ, Act.put, List.setIfInBounds_toArray, List.set_cons_zero, List.set_cons_succ]
  refine wpAnyH_ready (rs := [8]) (by kernel_rfl) (by simp) ?_
  refine AllReadyH.cons rfl (fun K hK => ?_) AllReadyH.nil
  unfold certV
  go_simp
  refine hK.out _ _ ⟨HC10.out.put6_other HKN.out, below_put6 HB10.out (Nat.le_refl _)⟩ (fun hHeld => ?_)
  clear hK K
  try simp only [List.getElem_toArray, List.getElem_cons_zero, List.getElem_cons_succ, Act.put, List.setIfInBounds_toArray, List.set_cons_zero, List.set_cons_succ]
  refine wpAnyH_take (i := 9) (v := ?vv9_2) rfl (by kernel_rfl) (by kernel_rfl) (by kernel_rfl) (fun _ _ _ h => h) (Or.inl ⟨by rfl, ?hy9_2⟩) (by assumption) ?rest9_2
  case hy9_2 => (intro w' hSw; (try dsimp only at hSw); go_simp; try with_reducible rfl)
  try simp only [List.getElem_toArray, List.getElem_cons_zero, List.getElem_cons_succ, Act.put, List.setIfInBounds_toArray, List.set_cons_zero, List.set_cons_succ]
  refine wpAnyH_done (by kernel_rfl) ?_ _
  go_wp2_with fail
  refine read_fin (HR10.out.put6 cc (.slice A m cp)) _ Z rfl rfl ⟨below_put6 HB10.out (Nat.le_refl _), ?_⟩
  rcases HFV.out with ⟨hz, hr⟩ | ⟨hz, ns, rfl, hn, hr⟩
  · rw [hr]
    exact ⟨cc, A, m, cp, Z, by rw [HZ.out]; exact hz, rfl⟩
  · have hn10 := HN10.out
    rw [hn] at hn10
    rw [hr]
    have hz2 : Z = 0 := by rw [HZ.out]; exact hz
    subst hz2
    exact ⟨A, cp, by rw [HCC.out]; rfl, (hn10.2.2.put6 (Nat.lt_succ_self _)).lower (Nat.le_succ _)⟩
theorem read_any {w : World} (s : List UInt8) (hs : s.length ≤ 1000000) (hw : GL w) : Calls Tryd.prog 21 #[sv s] w (ReadPost w (readC s)) := by
  cases h : aloneO s 48 with
  | none => exact read_A s hs hw h
  | some row =>
    cases h2 : allR row with
    | er n => exact read_B s row n hs hw h h2
    | ok l =>
      by_cases h3 : l.map (·.1) = tagsC
      · obtain ⟨x0, x1, x2, x3, x4, x5, hl⟩ := six h3
        exact read_D s row x0 x1 x2 x3 x4 x5 l hs hw h h2 hl
      · exact read_C s row l hs hw h h2 h3
end Go.Proofs.YtamlblfhjpajhaaDoor
