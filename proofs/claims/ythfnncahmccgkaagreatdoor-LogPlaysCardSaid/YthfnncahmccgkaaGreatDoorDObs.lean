/-
  Things that lie side by side, each in blocks of its own; the disk's methods over them.
-/
import Derived.Test.YthfnncahmccgkaaGreatDoorDPrM
import Derived.Test.YthfnncahmccgkaaGreatDoorDLnM
namespace Go.Proofs.YthfnncahmccgkaaGreatDoor
open Go Go.RowKit Go.Maps
set_option maxRecDepth 100000
set_option linter.unusedSimpArgs false
set_option linter.unusedVariables false

/-- A thing: its blocks, and what is so of a world in which it lies. -/
structure Ob where
  fp : List Nat
  P : World → Prop
def Ob.Stays (o : Ob) : Prop := ∀ W W' : World, (∀ b ∈ o.fp, b < W.heap.size ∧ W'.heap[b]? = W.heap[b]?) → o.P W → o.P W'
/-- Behind w0 there are these things, apart; what lay at w0 is as it was. -/
structure Obs (w0 w : World) (os : List Ob) : Prop where
  bel : Below w0.heap.size w0 w
  this : ∀ (j : Nat) (o : Ob), os[j]? = some o → o.P w ∧ (∀ b ∈ o.fp, w0.heap.size ≤ b ∧ b < w.heap.size) ∧ o.Stays
  apart : ∀ (i j : Nat) (o u : Ob), os[i]? = some o → os[j]? = some u → i ≠ j → ∀ b ∈ o.fp, b ∉ u.fp

theorem Obs.start (w : World) : Obs w w [] := ⟨Below.refl _ _, fun j o h => by simp at h, fun i j o u h => by simp at h⟩
theorem Obs.get {w0 w : World} {os : List Ob} (h : Obs w0 w os) {i : Nat} {o : Ob} (hi : os[i]? = some o) : o.P w := (h.this i o hi).1
theorem Obs.size {w0 w : World} {os : List Ob} (h : Obs w0 w os) : w0.heap.size ≤ w.heap.size := h.bel.size
theorem Obs.step {w0 w w' : World} {os : List Ob} (h : Obs w0 w os) (hb : Below w.heap.size w w') : Obs w0 w' os :=
  ⟨h.bel.trans (hb.mono h.bel.size), fun j o hj => by
    obtain ⟨h1, h2, h3⟩ := h.this j o hj
    exact ⟨h3 w w' (fun b hb' => ⟨(h2 b hb').2, hb.block b (h2 b hb').2⟩) h1, fun b hb' => ⟨(h2 b hb').1, Nat.lt_of_lt_of_le (h2 b hb').2 hb.size⟩, h3⟩, h.apart⟩
theorem Obs.alloc {w0 w : World} {os : List Ob} (h : Obs w0 w os) (o : Obj) : Obs w0 (w.alloc o) os := h.step ((Below.refl _ _).alloc (Nat.le_refl _) _)
theorem Obs.drew {w0 w : World} {os : List Ob} (h : Obs w0 w os) : Obs w0 w.drew os := h.step (Below.refl _ _).drew
theorem Obs.turn {w0 w w' : World} {os : List Ob} (h : Obs w0 w os) (i : Nat) {o : Ob} (hi : os[i]? = some o) (o' : Ob) (hP : o'.P w') (hst : o'.Stays) (hk : Kp o.fp w w') (hfp : ∀ b ∈ o'.fp, (b ∈ o.fp ∨ w.heap.size ≤ b) ∧ b < w'.heap.size) : Obs w0 w' (os.set i o') := by
  have hil : i < os.length := (List.getElem?_eq_some_iff.1 hi).1
  have hset : ∀ j : Nat, (os.set i o')[j]? = if i = j then some o' else os[j]? := fun j => by
    rw [List.getElem?_set]
    by_cases e : i = j
    · rw [if_pos e, if_pos e, if_pos (by omega)]
    · rw [if_neg e, if_neg e]
  have ho := h.this i o hi
  refine ⟨h.bel.trans (hk.to_below (fun k hk' => (ho.2.1 k hk').1) h.bel.size), fun j u hj => ?_, fun j k u v hj hk' hne b hb => ?_⟩
  · rw [hset] at hj
    split at hj
    · cases hj
      refine ⟨hP, fun b hb => ⟨?_, (hfp b hb).2⟩, hst⟩
      rcases (hfp b hb).1 with h1 | h1
      · exact (ho.2.1 b h1).1
      · exact Nat.le_trans h.bel.size h1
    · rename_i hne
      obtain ⟨h1, h2, h3⟩ := h.this j u hj
      refine ⟨h3 w w' (fun b hb => ⟨(h2 b hb).2, hk.block b (h2 b hb).2 ?_⟩) h1, fun b hb => ⟨(h2 b hb).1, Nat.lt_of_lt_of_le (h2 b hb).2 hk.size⟩, h3⟩
      exact h.apart j i u o hj hi (fun e => hne e.symm) b hb
  · rw [hset] at hj hk'
    split at hj
    · cases hj
      rename_i e1
      subst e1
      rw [if_neg hne] at hk'
      intro hbv
      rcases (hfp b hb).1 with h1 | h1
      · exact h.apart i k o v hi hk' hne b h1 hbv
      · have := ((h.this k v hk').2.1 b hbv).2
        omega
    · rename_i e1
      split at hk'
      · cases hk'
        rename_i e2
        subst e2
        intro hbv
        rcases (hfp b hbv).1 with h1 | h1
        · exact h.apart j i u o hj hi (fun e => e1 e.symm) b hb h1
        · have := ((h.this j u hj).2.1 b hb).2
          omega
      · exact h.apart j k u v hj hk' hne b hb
theorem Obs.add {w0 w w' : World} {os : List Ob} (h : Obs w0 w os) (o' : Ob) (hP : o'.P w') (hst : o'.Stays) (hb : Below w.heap.size w w') (hfp : ∀ b ∈ o'.fp, w.heap.size ≤ b ∧ b < w'.heap.size) : Obs w0 w' (os ++ [o']) := by
  have h' := h.step hb
  have hget : ∀ (j : Nat) (u : Ob), (os ++ [o'])[j]? = some u → os[j]? = some u ∨ (j = os.length ∧ u = o') := fun j u hj => by
    rcases Nat.lt_or_ge j os.length with h1 | h1
    · rw [List.getElem?_append_left h1] at hj; exact .inl hj
    · rw [List.getElem?_append_right h1] at hj
      cases hq : j - os.length with
      | zero => rw [hq] at hj; simp at hj; exact .inr ⟨by omega, hj.symm⟩
      | succ k => rw [hq] at hj; simp at hj
  refine ⟨h'.bel, fun j u hj => ?_, fun i j u v hi hj hne b hbu hbv => ?_⟩
  · rcases hget j u hj with h1 | ⟨_, rfl⟩
    · exact h'.this j u h1
    · exact ⟨hP, fun b hb' => ⟨Nat.le_trans h.bel.size (hfp b hb').1, (hfp b hb').2⟩, hst⟩
  · rcases hget i u hi with h1 | ⟨e1, rfl⟩ <;> rcases hget j v hj with h2 | ⟨e2, rfl⟩
    · exact h'.apart i j u v h1 h2 hne b hbu hbv
    · have := ((h.this i u h1).2.1 b hbu).2
      have := (hfp b hbv).1
      omega
    · have := ((h.this j v h2).2.1 b hbv).2
      have := (hfp b hbu).1
      omega
    · omega

/-- A disk of the program's. -/
def pdOb (p bl bd : Nat) (S : DS) : Ob := ⟨[p, bl, bd], fun w => PD w p bl bd S⟩
theorem pdOb_stays (p bl bd : Nat) (S : DS) : (pdOb p bl bd S).Stays := fun W W' h hP => PD.of_blocks (w := W) hP (h p (by simp [pdOb])).2 (h bl (by simp [pdOb])).2 (h bd (by simp [pdOb])).2
theorem PD.lts {w : World} {p bl bd : Nat} {S : DS} (h : PD w p bl bd S) : ∀ b ∈ [p, bl, bd], b < w.heap.size := fun b hb => by
  have := h.lt
  simp at hb
  rcases hb with rfl | rfl | rfl
  · exact this.1
  · exact this.2.1
  · exact this.2.2
theorem Obs.turnD {w0 w w' : World} {os : List Ob} (h : Obs w0 w os) (i : Nat) {p bl bd : Nat} {S S' : DS} (hi : os[i]? = some (pdOb p bl bd S)) (hP : PD w' p bl bd S') (hk : Kp [p, bl, bd] w w') : Obs w0 w' (os.set i (pdOb p bl bd S')) :=
  h.turn i hi (pdOb p bl bd S') hP (pdOb_stays _ _ _ _) hk (fun b hb => ⟨.inl hb, hP.lts b hb⟩)
theorem Obs.addD {w0 w w' : World} {os : List Ob} (h : Obs w0 w os) {p bl bd : Nat} {S : DS} (hP : PD w' p bl bd S) (hb : Below w.heap.size w w') (hn : w.heap.size ≤ p ∧ w.heap.size ≤ bl ∧ w.heap.size ≤ bd) : Obs w0 w' (os ++ [pdOb p bl bd S]) :=
  h.add _ hP (pdOb_stays _ _ _ _) hb (fun b hb' => ⟨by simp [pdOb] at hb'; rcases hb' with rfl | rfl | rfl; exact hn.1; exact hn.2.1; exact hn.2.2, hP.lts b hb'⟩)

section
variable {w0 w : World} {os : List Ob} {p bl bd : Nat} {S : DS} (h : Obs w0 w os) (i : Nat) (hi : os[i]? = some (pdOb p bl bd S))
include h hi
theorem on_o : Calls Tryz.prog 33 #[dp p] w fun e w' => e = .returned (.bool (!S.off)) ∧ Obs w0 w' os :=
  (on_any (h.get hi)).mono fun e w' hh => ⟨hh.1, h.step hh.2⟩
theorem sectors_o : Calls Tryz.prog 58 #[dp p] w fun e w' => e = .returned (.int .i64 (S.was.length : Int)) ∧ Obs w0 w' os :=
  (sectors_any (h.get hi)).mono fun e w' hh => ⟨hh.1, h.step hh.2⟩
theorem ops_o : Calls Tryz.prog 17 #[dp p] w fun e w' => e = .returned (.int .i64 (S.ops : Int)) ∧ Obs w0 w' os :=
  (ops_any (h.get hi)).mono fun e w' hh => ⟨hh.1, h.step hh.2⟩
theorem read_o (a : Int) : Calls Tryz.prog 59 #[dp p, .int .i64 a] w fun e w' => e = .returned (.tuple #[sv (S.rdV a), .int .i64 (S.rdE a)]) ∧ Obs w0 w' os :=
  (read_any (h.get hi) a).mono fun e w' hh => ⟨hh.1, h.step hh.2⟩
theorem fail_o {a : Int} (ha : (-9223372036854775808 : Int) ≤ a ∧ a ≤ 9223372036854775807) : Calls Tryz.prog 18 #[dp p, .int .i64 a] w fun e w' => e = .returned (.tuple #[]) ∧ Obs w0 w' (os.set i (pdOb p bl bd (S.fail a))) :=
  (fail_any (h.get hi) ha).mono fun e w' hh => ⟨hh.1, h.turnD i hi hh.2.1 (hh.2.2.mono (by simp))⟩
theorem write_o (hops : S.ops < 4611686018427387904) (a : Int) (s : List UInt8) (hsl : s.length ≤ 140737488355328) : Calls Tryz.prog 57 #[dp p, .int .i64 a, sv s] w fun e w' => e = .returned (.int .i64 (S.wrE a s)) ∧ Obs w0 w' (os.set i (pdOb p bl bd (S.wr a s))) :=
  (write_any (h.get hi) hops a s hsl).mono fun e w' hh => ⟨hh.1, h.turnD i hi hh.2.1 hh.2.2⟩
theorem sync_o (hops : S.ops < 4611686018427387904) : Calls Tryz.prog 32 #[dp p] w fun e w' => e = .returned (.int .i64 S.offE) ∧ Obs w0 w' (os.set i (pdOb p bl bd S.sync)) :=
  (sync_any (h.get hi) hops).mono fun e w' hh => ⟨hh.1, h.turnD i hi hh.2.1 hh.2.2⟩
theorem boot_o {Ak : Option Addr} {ck : Nat} {L : List Int} (hL : IR w Ak L) (hLA : ∀ a, Ak = some a → L ≠ [] → a.block ∉ [p, bl, bd]) (hLl : L.length ≤ 100000) :
    Calls Tryz.prog 19 #[dp p, .slice Ak L.length ck] w fun e w' => e = .returned (.int .i64 S.bootE) ∧ Obs w0 w' (os.set i (pdOb p bl bd (S.boot L))) :=
  (boot_any (h.get hi) hL hLA hLl).mono fun e w' hh => ⟨hh.1, h.turnD i hi hh.2.1 hh.2.2⟩
end
end Go.Proofs.YthfnncahmccgkaaGreatDoor
