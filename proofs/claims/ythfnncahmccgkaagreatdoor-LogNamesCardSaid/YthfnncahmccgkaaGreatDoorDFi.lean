/-
  What steps do to a disk, plainly: how many operations, that it is a disk; what is left behind a Fail.
-/
import Derived.Test.YthfnncahmccgkaaGreatDoorDStep2
namespace Go.Proofs.YthfnncahmccgkaaGreatDoor
open Go Go.RowKit Go.Maps
set_option maxRecDepth 100000
set_option linter.unusedSimpArgs false
set_option linter.unusedVariables false

theorem wr_cases (S : DS) (a : Int) (s : List UInt8) : (S.wrE a s = 0 ∧ S.off = false ∧ S.has a = true ∧ s.length = 128 ∧ S.wr a s = (S.put a.toNat s).did) ∨ (S.wrE a s ≠ 0 ∧ S.wr a s = S) := by
  by_cases h : S.wrE a s = 0
  · refine .inl ⟨h, ?_⟩
    have h2 := h
    unfold DS.wrE at h2
    cases ho : S.off with
    | true => rw [ho] at h2; simp at h2
    | false =>
      rw [ho] at h2
      simp only [Bool.false_eq_true, if_false] at h2
      split at h2
      · rename_i hc
        simp only [Bool.and_eq_true, decide_eq_true_eq] at hc
        exact ⟨rfl, hc.1, hc.2, by unfold DS.wr; rw [if_pos h]⟩
      · cases h2
  · exact .inr ⟨h, by unfold DS.wr; rw [if_neg h]⟩
theorem step_cases (S : DS) (s : SD) : (s.wh = 0 ∧ S.step s = S.wr s.a (stB s.odd s.y)) ∨ (s.wh = 1 ∧ S.step s = S.sync) ∨ (s.wh = 2 ∧ S.step s = S.fail s.a) ∨ (s.wh = 3 ∧ S.step s = S.boot s.keep) ∨ (s.wh ≠ 0 ∧ s.wh ≠ 1 ∧ s.wh ≠ 2 ∧ s.wh ≠ 3 ∧ S.step s = S) := by
  unfold DS.step
  by_cases h0 : s.wh = 0
  · exact .inl ⟨h0, by rw [if_pos h0]⟩
  by_cases h1 : s.wh = 1
  · exact .inr (.inl ⟨h1, by rw [if_neg h0, if_pos h1]⟩)
  by_cases h2 : s.wh = 2
  · exact .inr (.inr (.inl ⟨h2, by rw [if_neg h0, if_neg h1, if_pos h2]⟩))
  by_cases h3 : s.wh = 3
  · exact .inr (.inr (.inr (.inl ⟨h3, by rw [if_neg h0, if_neg h1, if_neg h2, if_pos h3]⟩)))
  · exact .inr (.inr (.inr (.inr ⟨h0, h1, h2, h3, by rw [if_neg h0, if_neg h1, if_neg h2, if_neg h3]⟩)))
theorem wr_len (S : DS) (a : Int) (s : List UInt8) : (S.wr a s).was.length = S.was.length ∧ (S.wr a s).ops ≤ S.ops + 1 := by
  rcases wr_cases S a s with ⟨_, _, _, _, h⟩ | ⟨_, h⟩
  · rw [h]; exact ⟨rfl, Nat.le_refl _⟩
  · rw [h]; exact ⟨rfl, Nat.le_succ _⟩
theorem sync_len (S : DS) : S.sync.was.length = S.was.length ∧ S.sync.ops ≤ S.ops + 1 := by
  unfold DS.sync
  split
  · exact ⟨rfl, Nat.le_succ _⟩
  · exact ⟨DS.sts_len _ _ _, by show (S.sts (fun _ => 128) (dirtyL S.wet) 0).ops + 1 ≤ _; rw [(DS.sts_same _ _ _).1]; exact Nat.le_refl _⟩
theorem boot_len (S : DS) (L : List Int) : (S.boot L).was.length = S.was.length ∧ (S.boot L).ops = S.ops := by
  unfold DS.boot
  split
  · exact ⟨DS.sts_len _ _ _, (DS.sts_same _ _ _).1⟩
  · exact ⟨rfl, rfl⟩
theorem step_len (S : DS) (s : SD) : (S.step s).was.length = S.was.length ∧ (S.step s).ops ≤ S.ops + 1 := by
  rcases step_cases S s with ⟨_, h⟩ | ⟨_, h⟩ | ⟨_, h⟩ | ⟨_, h⟩ | ⟨_, _, _, _, h⟩
  · rw [h]; exact wr_len _ _ _
  · rw [h]; exact sync_len _
  · rw [h]; exact ⟨rfl, Nat.le_succ _⟩
  · rw [h]; exact ⟨(boot_len _ _).1, by rw [(boot_len _ _).2]; exact Nat.le_succ _⟩
  · rw [h]; exact ⟨rfl, Nat.le_succ _⟩

/-- Behind a Fail of n at o operations. -/
def FI (o n : Nat) (S : DS) : Prop := (n = 0 ∧ S.off = false ∧ S.left = 0) ∨ (0 < n ∧ ∃ k, S.ops = o + k ∧ ((k < n ∧ S.off = false ∧ S.left = (n : Int) - k) ∨ (k = n ∧ S.off = true)))
theorem FI.start {S : DS} (h : S.off = false) (n : Nat) : FI S.ops n (S.fail n) := by
  rcases Nat.eq_zero_or_pos n with h0 | h0
  · subst h0; exact .inl ⟨rfl, h, rfl⟩
  · exact .inr ⟨h0, 0, rfl, .inl ⟨h0, h, by simp [DS.fail]⟩⟩
theorem FI.did {o n : Nat} {S T : DS} (h : FI o n S) (ho : S.off = false) (h1 : T.ops = S.ops + 1) (h2 : T.left = if 0 < S.left then S.left - 1 else S.left) (h3 : T.off = if 0 < S.left then decide (S.left = 1) else S.off) : FI o n T := by
  rcases h with ⟨h0, _, hl⟩ | ⟨hp, k, hk, ⟨hkn, _, hl⟩ | ⟨_, he⟩⟩
  · rw [hl] at h2 h3
    exact .inl ⟨h0, by rw [h3]; simp [ho], by rw [h2]; simp⟩
  · refine .inr ⟨hp, k + 1, by omega, ?_⟩
    have hpos : 0 < S.left := by omega
    rw [if_pos hpos] at h2 h3
    by_cases e : k + 1 = n
    · exact .inr ⟨e, by rw [h3]; simp; omega⟩
    · exact .inl ⟨by omega, by rw [h3]; simp; omega, by omega⟩
  · rw [ho] at he; cases he
theorem FI.step {o n : Nat} {S : DS} (h : FI o n S) {s : SD} (h2 : s.wh ≠ 2) (h3 : s.wh ≠ 3) : FI o n (S.step s) := by
  rcases step_cases S s with ⟨_, e⟩ | ⟨_, e⟩ | ⟨q, _⟩ | ⟨q, _⟩ | ⟨_, _, _, _, e⟩
  · rw [e]
    rcases wr_cases S s.a (stB s.odd s.y) with ⟨_, ho, _, _, e2⟩ | ⟨_, e2⟩
    · rw [e2]; exact h.did ho rfl rfl rfl
    · rw [e2]; exact h
  · rw [e]
    unfold DS.sync
    cases ho : S.off with
    | true => simpa using h
    | false =>
      obtain ⟨q1, q2, q3⟩ := DS.sts_same (kf := fun _ => 128) (dirtyL S.wet) 0 S
      simp only [Bool.false_eq_true, if_false]
      exact h.did ho (by simp [DS.did, q1]) (by simp [DS.did, q2]) (by simp [DS.did, q2, q3])
  · exact absurd q h2
  · exact absurd q h3
  · rw [e]; exact h

section
variable {w0 W : World} {os : List Ob}
theorem cells_k {A : Option Addr} {l : List SD} (hl : StAt w0 A l) {k : Nat} (hk : k < l.length) (h : Obs w0 W os) : ∃ b o, A = some ⟨b, o, none⟩ ∧ StCells W b (o + k * 5) (l.getD k sd0) := by
  obtain ⟨b, o, hA, hb, hc, hok⟩ := hl k hk
  exact ⟨b, o, hA, hc.of_block (h.bel.block b hb)⟩
end
end Go.Proofs.YthfnncahmccgkaaGreatDoor
