/-
  Worlds: the library's variable as its text lays it; what a call may write (Kp); texts that come in, rows of one's own.
-/
import Derived.Lib.LaidTab
import Derived.Sort.Grow
import Derived.Test.YtanfonpbnamjmaaDoorBase
import Derived.Test.YtanfonpbnamjmaaDoorShelf
namespace Go.Proofs.YtanfonpbnamjmaaDoor
open Go Go.RowKit
set_option maxRecDepth 100000

theorem gPow : Tryd.prog.globalNamed "internal/strconv.uint64pow10" = some 4 := by kernel_rfl

/-- The laid variable is as its text lays it. -/
structure LW (w : World) : Prop where
  pow : Lib.TabIs Tryd.prog w "internal/strconv.uint64pow10" .u64 Lib.pow10Tab

theorem tab_lt {w : World} {n : String} {k : IntKind} {zs : List Int} {g : Nat} (h : Lib.TabIs Tryd.prog w n k zs) (hg : Tryd.prog.globalNamed n = some g) : g < w.heap.size := by
  unfold Lib.TabIs World.var? at h
  rw [hg] at h
  rcases Nat.lt_or_ge g w.heap.size with h' | h'
  · exact h'
  · simp [Array.getElem?_eq_none h'] at h
theorem LW.pos {w : World} (h : LW w) : 4 < w.heap.size := tab_lt h.pow gPow
theorem LW.of_blocks {w w' : World} (h : LW w) (h2 : w'.heap[4]? = w.heap[4]?) : LW w' := by
  obtain ⟨hp⟩ := h
  refine ⟨?_⟩
  unfold Lib.TabIs World.var? at hp ⊢
  rw [gPow] at hp ⊢
  simp only [Option.bind_some] at hp ⊢
  rw [h2]; exact hp
theorem LW.below {w w' : World} (h : LW w) (hb : Below w.heap.size w w') : LW w' := h.of_blocks (hb.block _ h.pos)
theorem below_more {w w' : World} {os : Array Obj} (hh : w'.heap = w.heap ++ os) (h1 : w'.os = w.os) (h2 : w'.tape = w.tape) (h3 : w'.output = w.output) : Below w.heap.size w w' := by
  refine ⟨h1, h2, h3, by rw [hh]; simp, fun k hk => ?_⟩
  rw [hh, Array.getElem?_append_left hk]
theorem str_append (a b : List UInt8) : str a ++ str b = str (a ++ b) := by
  apply ByteArray.ext
  simp [str, ByteArray.data_append]
theorem below_alloc (w : World) (o : Obj) : Below w.heap.size w (w.alloc o) := (Below.refl _ _).alloc (Nat.le_refl _) _
theorem below_drewN {n : Nat} {w w' : World} (h : Below n w w') (k : Nat) : Below n w (w'.drewN k) := ⟨h.os, h.tape, h.output, h.size, h.block⟩
theorem blk_below {w w' : World} {b : Nat} {o : Obj} (h : w.heap[b]? = some o) (hb : Below w.heap.size w w') : w'.heap[b]? = some o := (hb.block b (lt_of_blk h)).trans h
theorem itoa_call (n : Int) (w : World) (h0 : -9223372036854775808 ≤ n) (h1 : n ≤ 9223372036854775807) (hw : LW w) :
    Calls Tryd.prog 79 #[.int .i64 n] w fun e w' => e = .returned (sv (Lib.itoa n)) ∧ Below w.heap.size w w' := by
  refine (Tryd.strconv_Itoa n h0 h1 w hw.pow).mono ?_
  rintro e w1 ⟨rfl, q, os, hw⟩
  refine ⟨rfl, ?_⟩
  exact below_more (w := w) (w' := w1) (os := os) (by rw [hw]; rfl) (by rw [hw]; rfl) (by rw [hw]; rfl) (by rw [hw]; rfl)

/-! ### What a call may write -/
/-- All that lay is as it was, but for these blocks. -/
structure Kp (S : List Nat) (w w' : World) : Prop where
  os : w'.os = w.os
  tape : w'.tape = w.tape
  output : w'.output = w.output
  size : w.heap.size ≤ w'.heap.size
  block : ∀ k, k < w.heap.size → k ∉ S → w'.heap[k]? = w.heap[k]?
theorem Kp.of_below {w w' : World} (h : Below w.heap.size w w') (S : List Nat) : Kp S w w' := ⟨h.os, h.tape, h.output, h.size, fun k hk _ => h.block k hk⟩
theorem Kp.refl (S : List Nat) (w : World) : Kp S w w := ⟨rfl, rfl, rfl, Nat.le_refl _, fun _ _ _ => rfl⟩
theorem Kp.trans {S S' : List Nat} {a b c : World} (h : Kp S a b) (h' : Kp S' b c) (hs : ∀ k ∈ S', k < a.heap.size → k ∈ S) : Kp S a c :=
  ⟨h'.os.trans h.os, h'.tape.trans h.tape, h'.output.trans h.output, Nat.le_trans h.size h'.size, fun k hk hn => (h'.block k (Nat.lt_of_lt_of_le hk h.size) (fun e => hn (hs k e hk))).trans (h.block k hk hn)⟩
theorem Kp.mono {S S' : List Nat} {a b : World} (h : Kp S a b) (hs : ∀ k ∈ S, k ∈ S') : Kp S' a b := ⟨h.os, h.tape, h.output, h.size, fun k hk hn => h.block k hk fun e => hn (hs k e)⟩
theorem Kp.drew {S : List Nat} {a w : World} (h : Kp S a w) : Kp S a w.drew := ⟨h.os, h.tape, h.output, h.size, h.block⟩
theorem Kp.drewN {S : List Nat} {a w : World} (h : Kp S a w) (n : Nat) : Kp S a (w.drewN n) := ⟨h.os, h.tape, h.output, h.size, h.block⟩
theorem Kp.alloc {S : List Nat} {a w : World} (h : Kp S a w) (o : Obj) : Kp S a (w.alloc o) := h.trans (S' := []) (Kp.of_below ((Below.refl _ _).alloc (Nat.le_refl _) _) _) (fun k hk => by cases hk)
theorem Kp.setCell {S : List Nat} {a w : World} (h : Kp S a w) {p : Addr} (hp : p.block ∈ S) (u : Value) : Kp S a (w.setCell p u) :=
  ⟨h.os, h.tape, h.output, by simpa [World.setCell] using h.size, fun k hk hn => (Below.heap_setCell _ _ _ _ (fun e => hn (by rw [e]; exact hp))).trans (h.block k hk hn)⟩
theorem Kp.setNew {S : List Nat} {a w : World} (h : Kp S a w) {p : Addr} (hp : a.heap.size ≤ p.block) (u : Value) : Kp S a (w.setCell p u) :=
  ⟨h.os, h.tape, h.output, by simpa [World.setCell] using h.size, fun k hk hn => (Below.heap_setCell _ _ _ _ (by omega)).trans (h.block k hk hn)⟩
theorem Kp.grown {S : List Nat} {a w w' : World} {row : Option Nat} (h : Kp S a w) (hg : w.grownBy w' row) (hr : ∀ k, row = some k → k < a.heap.size → k ∈ S) : Kp S a w' :=
  ⟨hg.os.trans h.os, hg.tape.trans h.tape, hg.output.trans h.output, Nat.le_trans h.size hg.size, fun k hk hn => (hg.block k (Nat.lt_of_lt_of_le hk h.size) (fun e => hn (hr k e.symm hk))).trans (h.block k hk hn)⟩
theorem Kp.below {S : List Nat} {a w w' : World} (h : Kp S a w) (hb : Below w.heap.size w w') : Kp S a w' := h.trans (S' := []) (Kp.of_below hb _) (fun k hk => by cases hk)
/-- Of new memory alone. -/
theorem Kp.to_below {S : List Nat} {w w' : World} {n : Nat} (h : Kp S w w') (hn : ∀ k ∈ S, n ≤ k) (hs : n ≤ w.heap.size) : Below n w w' := ⟨h.os, h.tape, h.output, h.size, fun k hk => h.block k (by omega) (fun e => by have := hn k e; omega)⟩

/-- Behind w0, with new memory alone; the laid variables are as their texts lay them. -/
def BL (w0 w : World) : Prop := Below w0.heap.size w0 w ∧ LW w
theorem BL.start {w : World} (h : LW w) : BL w w := ⟨Below.refl _ _, h⟩
theorem BL.below {w0 w : World} (h : BL w0 w) : Below w0.heap.size w0 w := h.1
theorem BL.lw {w0 w : World} (h : BL w0 w) : LW w := h.2
theorem BL.size {w0 w : World} (h : BL w0 w) : w0.heap.size ≤ w.heap.size := h.1.size
theorem BL.step {w0 w w' : World} (h : BL w0 w) (hb : Below w.heap.size w w') : BL w0 w' := ⟨h.1.trans (hb.mono h.1.size), h.2.below hb⟩
theorem BL.alloc {w0 w : World} (h : BL w0 w) (o : Obj) : BL w0 (w.alloc o) := h.step (below_alloc _ _)
theorem BL.drew {w0 w : World} (h : BL w0 w) : BL w0 w.drew := ⟨h.1.drew, h.2.of_blocks rfl⟩
theorem BL.drewN {w0 w : World} (h : BL w0 w) (k : Nat) : BL w0 (w.drewN k) := ⟨⟨h.1.os, h.1.tape, h.1.output, h.1.size, h.1.block⟩, h.2.of_blocks rfl⟩

/-- Texts that come in. -/
def SR (W : World) (v : Value) (xs : List (List UInt8)) : Prop :=
  ∃ A c, v = .slice A xs.length c ∧ (xs = [] ∨ ∃ b o, A = some ⟨b, o, none⟩ ∧ b < W.heap.size ∧ ∀ k, ∀ h : k < xs.length, W.cell? ⟨b, o + k, none⟩ = some (sv xs[k]))
theorem SR.step {W W' : World} {v : Value} {xs : List (List UInt8)} (h : SR W v xs) (hb : Below W.heap.size W W') : SR W' v xs := by
  obtain ⟨A, c, e, h⟩ := h
  refine ⟨A, c, e, h.imp id fun ⟨b, o, e, hl, hc⟩ => ⟨b, o, e, Nat.lt_of_lt_of_le hl hb.size, fun k hk => (hb.cell (p := ⟨b, o + k, none⟩) hl).trans (hc k hk)⟩⟩

/-- A row of texts, as a slice's value names it. -/
def RowIs (w : World) (v : Value) (xs : List (List UInt8)) : Prop :=
  ∃ A c, v = .slice A xs.length c ∧ (0 < xs.length → ∃ g, A = some ⟨g, 0, none⟩ ∧ g < w.heap.size ∧ (∀ j, j < xs.length → w.cell? ⟨g, j, none⟩ = some (sv (xs.getD j []))) ∧ ∀ j, j < xs.length → w.frozen? ⟨g, j, none⟩ = false)
theorem RowIs.step {w w' : World} {v : Value} {xs : List (List UInt8)} (h : RowIs w v xs) (hb : Below w.heap.size w w') : RowIs w' v xs := by
  obtain ⟨A, c, rfl, h⟩ := h
  refine ⟨A, c, rfl, fun hp => ?_⟩
  obtain ⟨g, e, hl, hc, hf⟩ := h hp
  exact ⟨g, e, Nat.lt_of_lt_of_le hl hb.size, fun j hj => (hb.cell (p := ⟨g, j, none⟩) hl).trans (hc j hj), fun j hj => (hb.frozen (p := ⟨g, j, none⟩) hl).trans (hf j hj)⟩

theorem rows_next {xs ys : List (List UInt8)} {k : Nat} (ha : ∀ j, j < k → xs.getD j [] = ys.getD j []) (h : xs.getD k [] = ys.getD k []) : ∀ j, j < k + 1 → xs.getD j [] = ys.getD j [] := by
  intro j hj
  by_cases e : j = k
  · rw [e]; exact h
  · exact ha j (by omega)
theorem rows_eq {xs ys : List (List UInt8)} (hl : xs.length = ys.length) (ha : ∀ j, j < xs.length → xs.getD j [] = ys.getD j []) : xs = ys := by
  refine List.ext_getElem hl fun j h1 h2 => ?_
  have := ha j h1
  rwa [List.getD_eq_getElem?_getD, List.getD_eq_getElem?_getD, List.getElem?_eq_getElem h1, List.getElem?_eq_getElem h2] at this

/-- A cell of a block is written. -/
theorem blk_set {w : World} {b : Nat} {cs : Array Value} {t : TypeId} {fr : Nat × Nat} (h : w.heap[b]? = some (.cells cs t fr)) (i : Nat) (x : Value) : (w.setCell ⟨b, i, none⟩ x).heap[b]? = some (.cells (cs.setIfInBounds i x) t fr) := by
  simp [World.setCell, Array.getElem?_modify, h]
end Go.Proofs.YtanfonpbnamjmaaDoor
