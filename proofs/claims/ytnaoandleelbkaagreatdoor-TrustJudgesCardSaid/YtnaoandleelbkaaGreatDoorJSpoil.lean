/-
  A row of certificates of the call's own that is written over: a key, a name.
-/
import Derived.Test.YtnaoandleelbkaaGreatDoorJRm
import Derived.Laws.OwnMore
namespace Go.Proofs.YtnaoandleelbkaaGreatDoor
set_option linter.unusedSimpArgs false
set_option linter.unusedVariables false
open Go Go.RowKit
set_option maxRecDepth 100000

def keyed (x : Cn) (u : List UInt8) : Cn := ({ x.1 with key := u }, x.2)
def named (x : Cn) (j : Nat) (u : List UInt8) : Cn := ({ x.1 with names := x.1.names.set j u }, x.2)
theorem nv_keyed (x : Cn) (u : List UInt8) : nvC (keyed x u) = nvC x := rfl
theorem nv_named (x : Cn) (j : Nat) (u : List UInt8) : nvC (named x j u) = nvC x := by
  unfold nvC named
  simp
theorem flatC_key (u : List UInt8) : ∀ (ps : List Cn) (i : Nat), i < ps.length → (flatC ps).set (i * 6) (sv u) = flatC (ps.set i (keyed (ps.getD i cn0) u))
  | x :: ps, 0, _ => rfl
  | x :: ps, i + 1, h => by
    have := flatC_key u ps i (by simpa using h)
    rw [show (i + 1) * 6 = i * 6 + 5 + 1 by omega]
    simp only [flatC, List.set_cons_succ, List.getD_cons_succ]
    rw [this]
theorem flatC_name (j : Nat) (u : List UInt8) : ∀ (ps : List Cn) (i : Nat), i < ps.length → flatC (ps.set i (named (ps.getD i cn0) j u)) = flatC ps
  | x :: ps, 0, _ => by
    simp only [List.set_cons_zero, List.getD_cons_zero, flatC]
    rw [nv_named]; rfl
  | x :: ps, i + 1, h => by
    have := flatC_name j u ps i (by simpa using h)
    simp only [flatC, List.set_cons_succ, List.getD_cons_succ]
    rw [this]
theorem getD_memC {ps : List Cn} {i : Nat} (h : i < ps.length) : ps.getD i cn0 ∈ ps := by
  rw [List.getD_eq_getElem?_getD, List.getElem?_eq_getElem h]
  exact List.getElem_mem h
theorem pw_set {ps : List Cn} (h : ps.Pairwise apartC) {i : Nat} (hi : i < ps.length) {x : Cn} (hx : nvC x = nvC (ps.getD i cn0)) : (ps.set i x).Pairwise apartC := by
  have e : (ps.set i x).map nvC = ps.map nvC := by
    rw [List.map_set, hx]
    refine List.ext_getElem? fun j => ?_
    rw [List.getElem?_set]
    split
    · rename_i e
      subst e
      rw [if_pos (by simpa using hi), List.getElem?_map, List.getElem?_eq_getElem hi, List.getD_eq_getElem?_getD, List.getElem?_eq_getElem hi]; rfl
    · rfl
  have h2 : (ps.map nvC).Pairwise (fun a b => ∀ g, a.ownBlock = some g → b.ownBlock ≠ some g) := (List.pairwise_map (f := nvC) (R := fun a b => ∀ g, a.ownBlock = some g → b.ownBlock ≠ some g)).2 h
  rw [← e] at h2
  exact (List.pairwise_map (f := nvC) (R := fun a b => ∀ g, a.ownBlock = some g → b.ownBlock ≠ some g)).1 h2
theorem getD_setC {ps : List Cn} {i j : Nat} (x : Cn) (h : i ≠ j) : (ps.set i x).getD j cn0 = ps.getD j cn0 := by
  rw [List.getD_eq_getElem?_getD, List.getD_eq_getElem?_getD, List.getElem?_set_ne h]
theorem getD_setS {ps : List Cn} {i : Nat} (x : Cn) (h : i < ps.length) : (ps.set i x).getD i cn0 = x := by
  rw [List.getD_eq_getElem?_getD, List.getElem?_set_self h]; rfl
/-- Such a row, whose names' rows lie apart, behind w. -/
structure Sp (w : World) (A : Option Addr) (cap : Nat) (W : World) (ps : List Cn) : Prop where
  co : CO w.heap.size W (.slice A ps.length cap) ps
  no : NO w.heap.size W ps
  pw : ps.Pairwise apartC
  bw : Below w.heap.size w W
theorem Sp.drew {w W : World} {A : Option Addr} {cap : Nat} {ps : List Cn} (h : Sp w A cap W ps) : Sp w A cap W.drew ps := ⟨h.co.below (Below.refl _ _).drew, h.no.below (Below.refl _ _).drew, h.pw, h.bw.trans ((Below.refl _ W).drew.mono h.bw.size)⟩
theorem Sp.step {w W W' : World} {A : Option Addr} {cap : Nat} {ps : List Cn} (h : Sp w A cap W ps) (hb : Below W.heap.size W W') : Sp w A cap W' ps := ⟨h.co.below hb, h.no.below hb, h.pw, h.bw.trans (hb.mono h.bw.size)⟩
theorem Sp.cr {w W : World} {A : Option Addr} {cap : Nat} {ps : List Cn} (h : Sp w A cap W ps) : CR W A (ps.map (·.1)) (nvOf ps) := by
  obtain ⟨A', c', e, _, hcr⟩ := h.co.cr h.no
  simp only [Value.slice.injEq, true_and] at e
  obtain ⟨rfl, rfl⟩ := e
  exact hcr
theorem Sp.addr {w W : World} {A : Option Addr} {cap : Nat} {ps : List Cn} (h : Sp w A cap W ps) (hp : 0 < ps.length) : ∃ g, A = some ⟨g, 0, none⟩ ∧ w.heap.size ≤ g := by
  rcases h.co.2 with ⟨_, h0⟩ | ⟨g, cap', cur, e, hb, _⟩
  · omega
  · simp only [Value.slice.injEq] at e
    exact ⟨g, e.1, hb⟩
theorem Sp.free {w W : World} {g cap : Nat} {ps : List Cn} (h : Sp w (some ⟨g, 0, none⟩) cap W ps) (j : Nat) : W.frozen? ⟨g, j, none⟩ = false := World.ownsRow.frozenAt h.co j
theorem Sp.key {w W : World} {g cap : Nat} {ps : List Cn} (h : Sp w (some ⟨g, 0, none⟩) cap W ps) {i : Nat} (hi : i < ps.length) (u : List UInt8) : Sp w (some ⟨g, 0, none⟩) cap (W.setCell ⟨g, i * 6, none⟩ (sv u)) (ps.set i (keyed (ps.getD i cn0) u)) := by
  obtain ⟨h1, h2⟩ := World.ownsRow.stored h.co (i * 6) (sv u)
  obtain ⟨g0, e, hg⟩ := h.addr (by omega)
  cases e
  refine ⟨?_, fun x hx => ?_, pw_set h.pw hi (nv_keyed _ _), h.bw.setCell (p := ⟨g, i * 6, none⟩) hg _⟩
  · unfold CO
    rw [List.length_set, ← flatC_key u ps i hi]
    exact h1
  · have hx0 : ∃ y ∈ ps, nvC x = nvC y ∧ x.1.names = y.1.names := by
      rcases List.mem_or_eq_of_mem_set hx with hm | rfl
      · exact ⟨x, hm, rfl, rfl⟩
      · exact ⟨_, getD_memC hi, rfl, rfl⟩
    obtain ⟨y, hy, e1, e2⟩ := hx0
    rw [e1, e2]
    exact tw_apart (h.no y hy) h.co h2
theorem Sp.name {w W : World} {g cap : Nat} {ps : List Cn} (h : Sp w (some ⟨g, 0, none⟩) cap W ps) {i : Nat} (hi : i < ps.length) {b c : Nat} (hn : (ps.getD i cn0).2 = (some ⟨b, 0, none⟩, c)) (j : Nat) (u : List UInt8) : Sp w (some ⟨g, 0, none⟩) cap (W.setCell ⟨b, j, none⟩ (sv u)) (ps.set i (named (ps.getD i cn0) j u)) := by
  have hT := h.no _ (getD_memC hi)
  have hnv : nvC (ps.getD i cn0) = .slice (some ⟨b, 0, none⟩) (ps.getD i cn0).1.names.length c := by unfold nvC; rw [hn]
  rw [hnv] at hT
  obtain ⟨h1, h2⟩ := World.ownsRow.stored hT j (sv u)
  have hb := (hT.lt (g := b) rfl).1
  have hgrow : W.grownBy (W.setCell ⟨b, j, none⟩ (sv u)) (nvC (ps.getD i cn0)).ownBlock := by rw [hnv]; exact h2
  refine ⟨?_, fun x hx => ?_, pw_set h.pw hi (nv_named _ _ _), h.bw.setCell (p := ⟨b, j, none⟩) hb _⟩
  · unfold CO
    rw [List.length_set, flatC_name j u ps i hi]
    refine h.co.old h2 fun g' e e1 => ?_
    simp only [Value.ownBlock, Option.some.injEq] at e e1
    subst e; subst e1
    rcases h.co.2 with ⟨e, _⟩ | ⟨g', cap', cur', e, _, hgg', _⟩
    · simp at e
    · rcases hT.2 with ⟨e2, _⟩ | ⟨g2, cap2, cur2, e2, _, hgg2, _⟩
      · simp at e2
      · simp only [Value.slice.injEq, Option.some.injEq, Addr.mk.injEq, and_true] at e e2
        obtain ⟨rfl, _⟩ := e
        obtain ⟨rfl, _⟩ := e2
        rw [hgg'] at hgg2
        simp only [Option.some.injEq, Obj.cells.injEq] at hgg2
        exact absurd hgg2.2.1 (by decide)
  · obtain ⟨k, hk, hkx⟩ := List.mem_iff_getElem.1 hx
    rw [List.length_set] at hk
    by_cases hki : i = k
    · subst hki
      rw [List.getElem_set_self] at hkx
      subst hkx
      rw [nv_named, hnv]
      unfold TW
      rw [show (named (ps.getD i cn0) j u).1.names = (ps.getD i cn0).1.names.set j u from rfl, List.length_set, List.map_set]
      exact h1
    · rw [List.getElem_set_ne hki] at hkx
      subst hkx
      refine (h.no _ (List.getElem_mem hk)).old hgrow fun g' e e1 => ?_
      have hap := List.pairwise_iff_getElem.1 h.pw
      have hgi : ps.getD i cn0 = ps[i] := by rw [List.getD_eq_getElem?_getD, List.getElem?_eq_getElem hi]; rfl
      rw [hgi] at e1
      rcases Nat.lt_or_gt_of_ne hki with hlt | hlt
      · exact hap i k hi hk hlt g' e1.symm e
      · exact hap k i hk hi hlt g' e e1.symm
end Go.Proofs.YtnaoandleelbkaaGreatDoor
