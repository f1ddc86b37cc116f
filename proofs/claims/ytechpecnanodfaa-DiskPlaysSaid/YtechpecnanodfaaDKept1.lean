/-
  For DiskKept, plainly: what is behind a Boot; the last three steps.
-/
import Derived.Test.YtechpecnanodfaaDKept0
namespace Go.Proofs.Ytechpecnanodfaa
open Go Go.RowKit Go.Maps
set_option maxRecDepth 100000
set_option linter.unusedSimpArgs false
set_option linter.unusedVariables false

theorem boot_off {S : DS} (ho : S.off = true) (L : List Int) : (S.boot L).off = false := by unfold DS.boot; rw [if_pos ho]
theorem boot_clean {S : DS} (h : S.Ok) (ho : S.off = true) (L : List Int) : (S.boot L).now = (S.boot L).was ∧ (S.boot L).wet = List.replicate (S.boot L).was.length false := by
  have hc := DS.sts_clean h (keptN L)
  have hl := DS.sts_len (kf := keptN L) (dirtyL S.wet) 0 S
  unfold DS.boot
  rw [if_pos ho]
  exact ⟨hc.2, by rw [hc.1]; show _ = List.replicate (S.sts (keptN L) (dirtyL S.wet) 0).was.length false; rw [hl]⟩
theorem dL_rep (n : Nat) : dirtyL (List.replicate n false) = [] := by
  unfold dirtyL
  rw [List.filter_eq_nil_iff]
  intro i hi
  rw [List.getD_eq_getElem?_getD, List.getElem?_replicate]
  split <;> simp
theorem spl_getD (m : Nat) {a b : List UInt8} (ha : a.length = 128) (hb : b.length = 128) (j : Nat) (hj : j < 128) : (spl m a b).getD j 0 = a.getD j 0 ∨ (spl m a b).getD j 0 = b.getD j 0 := by
  unfold spl
  rw [List.getD_eq_getElem?_getD, List.getD_eq_getElem?_getD, List.getD_eq_getElem?_getD]
  by_cases h : j < m
  · left
    rw [List.getElem?_append_left (by rw [List.length_take]; omega), List.getElem?_take_of_lt h]
  · right
    have hl : (a.take m).length = m := by rw [List.length_take]; omega
    rw [List.getElem?_append_right (by omega), List.getElem?_drop, hl, show m + (j - m) = j by omega]
theorem kept_ok {S : DS} (h : S.Ok) (ho : S.off = true) (L : List Int) : KeptOK (S.boot L) S.was S.now (dL S.wet) := by
  have hl := (boot_len S L).1
  have hnow := (boot_clean h ho L).1
  have hb : ∀ i, (S.boot L).was.getD i [] = (S.sts (keptN L) (dirtyL S.wet) 0).was.getD i [] := fun i => by unfold DS.boot; rw [if_pos ho]
  refine ⟨boot_off ho L, hl.symm, by rw [hl, h.hn], h.boot L, fun i hi => h.was_len hi, fun i hi => h.now_len hi, fun k hk => ?_, fun i hi j hj => ?_⟩
  · refine ⟨(dirtyL S.wet).getD k 0, getD_dL _ _, ?_⟩
    rw [dL_length] at hk
    refine h.dirty _ ?_
    rw [List.getD_eq_getElem?_getD, List.getElem?_eq_getElem hk]
    exact List.getElem_mem hk
  · rw [hnow, hb]
    have key := DS.sts_at (kf := keptN L) (dirtyL S.wet) 0 S (nodup_dirtyL _) h h.dirty i
    by_cases hm : i ∈ dirtyL S.wet
    · obtain ⟨k, hk⟩ := List.getElem?_of_mem hm
      rw [(key.2 k hk).1]
      rcases spl_getD (keptN L (0 + k)) (h.now_len hi) (h.was_len hi) j hj with e | e
      · exact .inr ⟨by unfold dL; exact List.mem_map.2 ⟨i, hm, rfl⟩, e⟩
      · exact .inl e
    · rw [(key.1 hm).1]
      exact .inl rfl

def e1D : SD := ⟨2, 1, 0, 0, [], none, 0⟩
def e2D : SD := ⟨0, 0, 99, 0, [], none, 0⟩
def e3D (K : List Int) (kA : Option Addr) (kc : Nat) : SD := ⟨3, 0, 0, 0, K, kA, kc⟩
/-- What lies in the row; and what is done. -/
def rowS (l : List SD) : List SD := l ++ [e1D, ⟨1, 0, 0, 0, [], none, 0⟩, ⟨3, 0, 0, 0, [], none, 0⟩]
def effS (l : List SD) (K : List Int) (kA : Option Addr) (kc : Nat) : List SD := l ++ [e1D, e2D, e3D K kA kc]
/-- The last steps. -/
structure KE (ln k : Nat) (S : DS) : Prop where
  a : k = ln + 1 → S.off = true ∨ S.left = 1
  b : k = ln + 2 → S.off = true
  c : k = ln + 3 → S.off = false ∧ dirtyL S.wet = []
theorem eff_low {l : List SD} {K : List Int} {kA : Option Addr} {kc k : Nat} (h : k < l.length) : (effS l K kA kc).getD k sd0 = l.getD k sd0 ∧ (rowS l).getD k sd0 = l.getD k sd0 := by
  unfold effS rowS
  simp only [List.getD_eq_getElem?_getD]
  rw [List.getElem?_append_left h, List.getElem?_append_left h]
  exact ⟨rfl, rfl⟩
theorem eff_high {l : List SD} {K : List Int} {kA : Option Addr} {kc : Nat} (i : Nat) : (effS l K kA kc).getD (l.length + i) sd0 = [e1D, e2D, e3D K kA kc].getD i sd0 ∧ (rowS l).getD (l.length + i) sd0 = ([e1D, ⟨1, 0, 0, 0, [], none, 0⟩, ⟨3, 0, 0, 0, [], none, 0⟩] : List SD).getD i sd0 := by
  unfold effS rowS
  simp only [List.getD_eq_getElem?_getD]
  rw [List.getElem?_append_right (by omega), List.getElem?_append_right (by omega), Nat.add_sub_cancel_left]
  exact ⟨rfl, rfl⟩
theorem KE.step {l : List SD} {K : List Int} {kA : Option Addr} {kc k : Nat} {S : DS} (h : KE l.length k S) (hS : S.Ok) (hk : k < l.length + 3) : KE l.length (k + 1) (S.step ((effS l K kA kc).getD k sd0)) := by
  rcases Nat.lt_or_ge k l.length with h0 | h0
  · exact ⟨fun e => by omega, fun e => by omega, fun e => by omega⟩
  obtain ⟨i, rfl⟩ : ∃ i, k = l.length + i := ⟨k - l.length, by omega⟩
  have hi : i < 3 := by omega
  rw [(eff_high i).1]
  match i, hi with
  | 0, _ => exact ⟨fun _ => .inr rfl, fun e => by omega, fun e => by omega⟩
  | 1, _ =>
    refine ⟨fun e => by omega, fun _ => ?_, fun e => by omega⟩
    show (S.wr 0 (stB 0 99)).off = true
    rcases h.a rfl with ho | hl
    · rcases wr_cases S 0 (stB 0 99) with ⟨_, h2, _⟩ | ⟨_, h2⟩
      · rw [ho] at h2; cases h2
      · rw [h2]; exact ho
    · cases ho : S.off with
      | true =>
        rcases wr_cases S 0 (stB 0 99) with ⟨_, h2, _⟩ | ⟨_, h2⟩
        · rw [ho] at h2; cases h2
        · rw [h2]; exact ho
      | false =>
        have hh : S.has 0 = true := DS.has_iff.2 ⟨by omega, by have := hS.n1; omega⟩
        have he : S.wrE 0 (stB 0 99) = 0 := by simp [DS.wrE, ho, hh, stB_zero, fullL_length]
        unfold DS.wr
        rw [if_pos he]
        simp [DS.did, DS.put, hl]
  | 2, _ =>
    refine ⟨fun e => by omega, fun e => by omega, fun _ => ?_⟩
    have ho := h.b rfl
    show (S.boot K).off = false ∧ dirtyL (S.boot K).wet = []
    exact ⟨boot_off ho K, by rw [(boot_clean hS ho K).2, dL_rep]⟩
theorem step_ok {S : DS} (h : S.Ok) {s : SD} (ha : (-9223372036854775808 : Int) ≤ s.a ∧ s.a ≤ 9223372036854775807) : (S.step s).Ok := by
  rcases step_cases S s with ⟨_, e⟩ | ⟨_, e⟩ | ⟨_, e⟩ | ⟨_, e⟩ | ⟨_, _, _, _, e⟩
  · rw [e]; exact h.wr _ _
  · rw [e]; exact h.sync
  · rw [e]; exact h.fail ha
  · rw [e]; exact h.boot _
  · rw [e]; exact h
end Go.Proofs.Ytechpecnanodfaa
