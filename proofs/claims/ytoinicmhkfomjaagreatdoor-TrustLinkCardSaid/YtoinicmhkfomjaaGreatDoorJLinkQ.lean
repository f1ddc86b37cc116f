/-
  Rows of certificates that a law makes, copies and writes into.
-/
import Derived.Test.YtoinicmhkfomjaaGreatDoorJLinkP
namespace Go.Proofs.YtoinicmhkfomjaaGreatDoor
set_option linter.unusedSimpArgs false
set_option linter.unusedVariables false
open Go Go.RowKit
set_option maxRecDepth 100000

theorem flatC_one (ps : List Cn) : ∀ u ∈ flatC ps, u.oneCell' = true := by
  induction ps with
  | nil => intro u h; cases h
  | cons x xs ih =>
    intro u h
    simp only [flatC, List.mem_cons] at h
    rcases h with rfl | rfl | rfl | rfl | rfl | rfl | h
    all_goals first | rfl | exact ih u h
theorem tw_one {base : Nat} (W : World) (k : Nat) (x : List UInt8) (hk : k = W.heap.size) (hb : base ≤ k) : TW base (W.alloc (.cells #[sv x] 9)) (.slice (some ⟨k, 0, none⟩) 1 1) [x] := by
  subst hk
  exact ⟨by simp, .inr ⟨_, 1, #[sv x], rfl, hb, heap_alloc_new W _, Nat.le_refl _, by decide, rfl, rfl⟩⟩
theorem lk_step {u wr w1 : World} {v : Value} {ps : List Cn} (hco : CO u.heap.size wr v ps) (hno : NO u.heap.size wr ps) (hg : Ga u wr) (hb1 : Below wr.heap.size wr w1) (x : Cn) (htw : TW u.heap.size w1 (nvC x) x.1.names) (hl : ps.length ≤ 4) (hgu : GA u) :
    ∃ g cap w2, (Builtin.append_ #[29, 29] 29 #[v, .slice (some ⟨w1.heap.size, 0, none⟩) 1 1]).run Tryz.prog (w1.alloc (cellsC x.1 (nvC x))) = .ok (.slice (some ⟨g, 0, none⟩) (ps.length + 1) cap) w2 ∧
      CO u.heap.size w2 (.slice (some ⟨g, 0, none⟩) (ps.length + 1) cap) (ps ++ [x]) ∧ NO u.heap.size w2 (ps ++ [x]) ∧ Ga u w2 := by
  have hg1 := hg.step hb1
  have hco1 := hco.below hb1
  obtain ⟨g, cap, w2, h1, h2, h3, h4⟩ := co_append hco1 hg1.1.size (by omega) x
  have h3' : w1.grownBy w2 v.ownBlock := ⟨h3.os, h3.tape, h3.output, Nat.le_trans (by simp) h3.size, fun k hk hne => (h3.block k (by simp; omega) hne).trans (Below.heap_alloc _ _ _ hk)⟩
  have hbb : Below u.heap.size u w2 := Below.grown hg1.1 h3' hg1.1.size fun j hj => (hco1.lt hj).1
  refine ⟨g, cap, w2, h1, h2, fun y hy => ?_, hbb, hgu.below hbb⟩
  rcases List.mem_append.1 hy with hy | hy
  · exact tw_apart ((hno y hy).below hb1) hco1 h3'
  · rw [List.mem_singleton.1 hy]
    exact tw_apart htw hco1 h3'
/-- 'append([]cert.Cert{}, l...)'. -/
theorem co_copy {base0 : Nat} {W : World} {v : Value} {ps : List Cn} (h : CO base0 W v ps) (hp : 0 < ps.length) (hl : ps.length ≤ 1000) :
    ∃ g cap w2, (Builtin.append_ #[29, 29] 29 #[.slice (some ⟨W.heap.size, 0, none⟩) 0 0, v]).run Tryz.prog (W.alloc (.cells #[] 27)) = .ok (.slice (some ⟨g, 0, none⟩) ps.length cap) w2 ∧
      CO W.heap.size w2 (.slice (some ⟨g, 0, none⟩) ps.length cap) ps ∧ Below W.heap.size W w2 := by
  obtain ⟨i, hi, hz0, hz1, hz2⟩ := info_parts info_cert
  have hb0 := below_alloc W (.cells #[] 27)
  have hown : (W.alloc (.cells #[] 27)).ownsRow W.heap.size 27 6 (.slice (some ⟨W.heap.size, 0, none⟩) 0 0) 0 (flatC []) :=
    ⟨by simp [flatC], .inr ⟨W.heap.size, 0, #[], rfl, Nat.le_refl _, heap_alloc_new W _, Nat.le_refl _, by decide, rfl, by simp [flatC]⟩⟩
  rcases h.2 with ⟨_, h0⟩ | ⟨g, cap, cur, rfl, _, hb, _, _, _, ht⟩
  · omega
  · have hcell : ∀ k, k < ps.length * 6 → (W.alloc (.cells #[] 27)).cell? ⟨g, k, none⟩ = (flatC ps)[k]? := by
      intro k hk
      have hg := (Array.getElem?_eq_some_iff.1 hb).1
      rw [hb0.cell (p := ⟨g, k, none⟩) hg, cell_of_row W g k cur _ _ hb, ← ht, List.getElem?_take_of_lt hk]
      simp
    obtain ⟨g', cap', W', h1, h2, h3, _, _⟩ := run_append_lies (P := Tryz.prog) (W.alloc (.cells #[] 27)) 29 29 W.heap.size 27 i _ 6 80 Tryz.underlying29 hi hz0 hz1 hz2 rfl (by decide) _ 0 (flatC []) hown ⟨g, 0, none⟩ ps.length cap (flatC ps) (by rw [flatC_len]) (fun j u hu => by
        have hj : j < ps.length * 6 := by
          rcases Nat.lt_or_ge j (ps.length * 6) with h | h
          · exact h
          · rw [List.getElem?_eq_none (by rw [flatC_len]; exact h)] at hu; cases hu
        have hadd : (⟨g, 0, none⟩ : Addr).add j = ⟨g, 0 + j, none⟩ := by unfold Addr.add; split <;> simp_all
        rw [hadd, Nat.zero_add, hcell j hj, hu])
      (flatC_one ps) hp (by unfold maxLen; omega) (by omega) (by simp) _ rfl
    rw [Nat.zero_add] at h1 h2
    refine ⟨g', cap', W', h1, by unfold CO; simpa [flatC] using h2, ?_⟩
    exact Below.grown hb0 h3 hb0.size fun j hj => by
      simp only [Value.ownBlock, Option.some.injEq] at hj
      omega
/-- A certificate's cells. -/
def cvs (c : Ct) (nv : Value) : List Value := [sv c.key, sv c.sig, nv, .int .i64 c.fr, .int .i64 c.un, .bool c.ca]
theorem cc_iff {w : World} {g o : Nat} {c : Ct} {nv : Value} : CC w g o c nv ↔ ∀ i, i < 6 → w.cell? ⟨g, o + i, none⟩ = (cvs c nv)[i]? := by
  constructor
  · intro h i hi
    rcases (show i = 0 ∨ i = 1 ∨ i = 2 ∨ i = 3 ∨ i = 4 ∨ i = 5 by omega) with rfl | rfl | rfl | rfl | rfl | rfl
    · exact h.c0
    · exact h.c1
    · exact h.c2
    · exact h.c3
    · exact h.c4
    · exact h.c5
  · intro h
    exact ⟨h 0 (by omega), h 1 (by omega), h 2 (by omega), h 3 (by omega), h 4 (by omega), h 5 (by omega)⟩
/-- One field of one of a row's certificates, written over. -/
theorem cr_set {w8 W9 : World} {g2 : Nat} {l : List Ct} {nv : Nat → Value} (h : CR W9 (some ⟨g2, 0, none⟩) l nv) (hn : ∀ j, j < l.length → SX w8 (nv j) (ctAt l j).names) (hb : Below w8.heap.size w8 W9) (hg : w8.heap.size ≤ g2) {k f : Nat} (hk : k < l.length) (hf : f < 6) (val : Value) (c' : Ct)
    (hc : ∀ i, i < 6 → (cvs c' (nv k))[i]? = if i = f then some val else (cvs (ctAt l k) (nv k))[i]?) (hcn : c'.names = (ctAt l k).names) : CR (W9.setCell ⟨g2, k * 6 + f, none⟩ val) (some ⟨g2, 0, none⟩) (l.set k c') nv := fun hp => by
  rw [List.length_set] at hp
  obtain ⟨g', off', e, hl, hcc⟩ := h hp
  cases e
  refine ⟨g2, 0, rfl, by simpa [World.setCell] using hl, fun j hj => ?_⟩
  rw [List.length_set] at hj
  have hsx : SX (W9.setCell ⟨g2, k * 6 + f, none⟩ val) (nv j) (ctAt l j).names := (hn j hj).step (hb.setCell (p := ⟨g2, k * 6 + f, none⟩) hg val)
  have h1 := cc_iff.1 (hcc j hj).1
  have hkf := cc_iff.1 (hcc k hk).1 f hf
  rw [ctAt_set hk]
  by_cases hjk : j = k
  · subst hjk
    rw [if_pos rfl]
    refine ⟨cc_iff.2 fun i hi => ?_, by rw [hcn]; exact hsx⟩
    rw [hc i hi]
    by_cases hif : i = f
    · subst hif
      rw [if_pos rfl, Nat.zero_add]
      rw [Nat.zero_add] at hkf
      have hs : ∃ u, W9.cell? ⟨g2, j * 6 + i, none⟩ = some u := by
        rw [hkf]
        rcases (show i = 0 ∨ i = 1 ∨ i = 2 ∨ i = 3 ∨ i = 4 ∨ i = 5 by omega) with rfl | rfl | rfl | rfl | rfl | rfl <;> exact ⟨_, rfl⟩
      obtain ⟨u, hu⟩ := hs
      exact World.cell?_setCell_same _ _ _ hu
    · rw [if_neg hif, ← h1 i hi]
      exact World.cell?_setCell_other _ _ _ _ (fun e => hif (by simp only [Addr.mk.injEq] at e; omega))
  · rw [if_neg hjk]
    refine ⟨cc_iff.2 fun i hi => ?_, hsx⟩
    rw [← h1 i hi]
    exact World.cell?_setCell_other _ _ _ _ (fun e => hjk (by simp only [Addr.mk.injEq] at e; omega))
theorem at_lt (a : Int) (L : Nat) (h0 : 0 < L) (hL : L ≤ 512) : ∃ N : Nat, N < L ∧ wrap64 ((IntKind.u64.wrap a).tmod (L : Int)) = (N : Int) := by
  have hu : 0 ≤ IntKind.u64.wrap a := by simp [IntKind.wrap, IntKind.bits, IntKind.signed]; omega
  have h1 : (IntKind.u64.wrap a).tmod (L : Int) = (IntKind.u64.wrap a) % (L : Int) := Int.tmod_eq_emod_of_nonneg hu
  have h2 := Int.emod_nonneg (IntKind.u64.wrap a) (show (L : Int) ≠ 0 by omega)
  have h3 := Int.emod_lt_of_pos (IntKind.u64.wrap a) (show (0 : Int) < (L : Int) by omega)
  refine ⟨((IntKind.u64.wrap a) % (L : Int)).toNat, by omega, ?_⟩
  rw [h1, wrap64_in (by omega)]; omega
end Go.Proofs.YtoinicmhkfomjaaGreatDoor
