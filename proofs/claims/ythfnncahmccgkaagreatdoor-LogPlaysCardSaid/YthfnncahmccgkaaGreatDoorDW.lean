/-
  Worlds: what a call may write (Kp); a block's cells, stored; rows of one's own behind a write elsewhere.
-/
import Derived.Maps.OwnSet
import Derived.Deep.WholeRow
import Derived.BigQuiet
import Derived.Deep.MidRow
import Derived.Test.YthfnncahmccgkaaGreatDoorBase
namespace Go.Proofs.YthfnncahmccgkaaGreatDoor
open Go Go.RowKit
set_option maxRecDepth 100000

/-- All that lay is as it was, but for these blocks. -/
structure Kp (S : List Nat) (w w' : World) : Prop where
  os : w'.os = w.os
  tape : w'.tape = w.tape
  output : w'.output = w.output
  size : w.heap.size ≤ w'.heap.size
  block : ∀ k, k < w.heap.size → k ∉ S → w'.heap[k]? = w.heap[k]?
theorem Kp.of_below {w w' : World} (h : Below w.heap.size w w') (S : List Nat) : Kp S w w' := ⟨h.os, h.tape, h.output, h.size, fun k hk _ => h.block k hk⟩
theorem Kp.refl (S : List Nat) (w : World) : Kp S w w := ⟨rfl, rfl, rfl, Nat.le_refl _, fun _ _ _ => rfl⟩
theorem Kp.trans {S S' : List Nat} {a b c : World} (h : Kp S a b) (h' : Kp S' b c) (hs : ∀ k ∈ S', k < a.heap.size → k ∈ S) : Kp S a c :=
  ⟨h'.os.trans h.os, h'.tape.trans h.tape, h'.output.trans h.output, Nat.le_trans h.size h'.size, fun k hk hn => (h'.block k (Nat.lt_of_lt_of_le hk h.size) (fun e => hn (hs k e hk))).trans (h.block k hk hn)⟩
theorem Kp.mono {S S' : List Nat} {a b : World} (h : Kp S a b) (hs : ∀ k ∈ S, k ∈ S') : Kp S' a b := ⟨h.os, h.tape, h.output, h.size, fun k hk hn => h.block k hk fun e => hn (hs k e)⟩
theorem Kp.drew {S : List Nat} {a w : World} (h : Kp S a w) : Kp S a w.drew := ⟨h.os, h.tape, h.output, h.size, h.block⟩
theorem Kp.drewN {S : List Nat} {a w : World} (h : Kp S a w) (n : Nat) : Kp S a (w.drewN n) := ⟨h.os, h.tape, h.output, h.size, h.block⟩
theorem Kp.alloc {S : List Nat} {a w : World} (h : Kp S a w) (o : Obj) : Kp S a (w.alloc o) := h.trans (S' := []) (Kp.of_below ((Below.refl _ _).alloc (Nat.le_refl _) _) _) (fun k hk => by cases hk)
theorem Kp.setCell {S : List Nat} {a w : World} (h : Kp S a w) {p : Addr} (hp : p.block ∈ S) (u : Value) : Kp S a (w.setCell p u) :=
  ⟨h.os, h.tape, h.output, by simpa [World.setCell] using h.size, fun k hk hn => (Below.heap_setCell _ _ _ _ (fun e => hn (by rw [e]; exact hp))).trans (h.block k hk hn)⟩
theorem Kp.setNew {S : List Nat} {a w : World} (h : Kp S a w) {p : Addr} (hp : a.heap.size ≤ p.block) (u : Value) : Kp S a (w.setCell p u) :=
  ⟨h.os, h.tape, h.output, by simpa [World.setCell] using h.size, fun k hk hn => (Below.heap_setCell _ _ _ _ (by omega)).trans (h.block k hk hn)⟩
theorem Kp.grown {S : List Nat} {a w w' : World} {row : Option Nat} (h : Kp S a w) (hg : w.grownBy w' row) (hr : ∀ k, row = some k → k < a.heap.size → k ∈ S) : Kp S a w' :=
  ⟨hg.os.trans h.os, hg.tape.trans h.tape, hg.output.trans h.output, Nat.le_trans h.size hg.size, fun k hk hn => (hg.block k (Nat.lt_of_lt_of_le hk h.size) (fun e => hn (hr k e.symm hk))).trans (h.block k hk hn)⟩
theorem Kp.below {S : List Nat} {a w w' : World} (h : Kp S a w) (hb : Below w.heap.size w w') : Kp S a w' := h.trans (S' := []) (Kp.of_below hb _) (fun k hk => by cases hk)
/-- Of new memory alone. -/
theorem Kp.to_below {S : List Nat} {w w' : World} {n : Nat} (h : Kp S w w') (hn : ∀ k ∈ S, n ≤ k) (hs : n ≤ w.heap.size) : Below n w w' := ⟨h.os, h.tape, h.output, h.size, fun k hk => h.block k (by omega) (fun e => by have := hn k e; omega)⟩
theorem ownsRow_kp {n : Nat} {w w' : World} {S : List Nat} {e : TypeId} {v : Value} {m : Nat} {xs : List Value} (h : w.ownsRow n e 1 v m xs) (hk : Kp S w w') (hs : ∀ g, v.ownBlock = some g → g ∉ S) : w'.ownsRow n e 1 v m xs := by
  refine ⟨h.1, ?_⟩
  rcases h.2 with hn | ⟨g, cap, cur, rfl, hb, hgg, rest⟩
  · exact .inl hn
  · exact .inr ⟨g, cap, cur, rfl, hb, (hk.block g (lt_of_blk hgg) (hs g rfl)).trans hgg, rest⟩
/-- A cell of a block is written. -/
theorem blk_set {w : World} {b : Nat} {cs : Array Value} {t : TypeId} {fr : Nat × Nat} (h : w.heap[b]? = some (.cells cs t fr)) (i : Nat) (x : Value) : (w.setCell ⟨b, i, none⟩ x).heap[b]? = some (.cells (cs.setIfInBounds i x) t fr) := by
  simp [World.setCell, Array.getElem?_modify, h]

/-- The entries of one map are turned. -/
theorem Kp.map {S : List Nat} {a w w' : World} (h : Kp S a w) {b : Nat} (ht : w.mapTurned w' b) (hb : b ∈ S ∨ a.heap.size ≤ b) : Kp S a w' :=
  h.grown ht.grown (fun k e hk => by cases e; rcases hb with h1 | h1; exact h1; omega)
/-- A row is written whole. -/
theorem Kp.setRow {S : List Nat} {a w : World} (h : Kp S a w) {g : Nat} (hg : g ∈ S ∨ a.heap.size ≤ g) (cs : Array Value) : Kp S a (w.setRow g cs) :=
  ⟨h.os, h.tape, h.output, by simpa [World.setRow] using h.size, fun k hk hn => (setRow_other w g k cs (fun e => by rcases hg with h1 | h1; exact hn (by rw [e]; exact h1); omega)).trans (h.block k hk hn)⟩
theorem Kp.iter {S : List Nat} {a w : World} (h : Kp S a w) : Kp S a w := h
end Go.Proofs.YthfnncahmccgkaaGreatDoor
