/-
  Worlds: the laid variables as their texts lay them; what a call may write (Kp); readers and rows as they lie, each with the blocks that are its own.
-/
import Derived.Lib.LaidTab
import Derived.Test.YtanfonpbnamjmaaDoorYPure
namespace Go.Proofs.YtanfonpbnamjmaaDoor
open Go Go.RowKit
set_option maxRecDepth 100000

theorem gFirsts : Tryd.prog.globalNamed "mailroom/reply.firsts" = some 1 := by kernel_rfl
theorem gPow : Tryd.prog.globalNamed "internal/strconv.uint64pow10" = some 4 := by kernel_rfl

/-- The laid variables are as their texts lay them. -/
structure LW (w : World) : Prop where
  pow : Lib.TabIs Tryd.prog w "internal/strconv.uint64pow10" .u64 Lib.pow10Tab
  fir : w.var? Tryd.prog "mailroom/reply.firsts" = some #[sv (firstsL 0), sv (firstsL 1), sv (firstsL 2), sv (firstsL 3)]

theorem var_lt {w : World} {n : String} {g : Nat} {cs : Array Value} (h : w.var? Tryd.prog n = some cs) (hg : Tryd.prog.globalNamed n = some g) : g < w.heap.size := by
  unfold World.var? at h
  rw [hg] at h
  rcases Nat.lt_or_ge g w.heap.size with h' | h'
  · exact h'
  · simp [Array.getElem?_eq_none h'] at h
theorem LW.pos {w : World} (h : LW w) : 4 + 1 ≤ w.heap.size := var_lt h.pow gPow
theorem LW.of_blocks {w w' : World} (h : LW w) (h0 : w'.heap[1]? = w.heap[1]?) (h2 : w'.heap[4]? = w.heap[4]?) : LW w' := by
  obtain ⟨hp, hf⟩ := h
  refine ⟨?_, ?_⟩
  · unfold Lib.TabIs World.var? at hp ⊢
    rw [gPow] at hp ⊢
    simp only [Option.bind_some] at hp ⊢
    rw [h2]; exact hp
  · unfold World.var? at hf ⊢
    rw [gFirsts] at hf ⊢
    simp only [Option.bind_some] at hf ⊢
    rw [h0]; exact hf
theorem LW.below {w w' : World} (h : LW w) (hb : Below w.heap.size w w') : LW w' := by
  have hp := h.pos
  exact h.of_blocks (hb.block _ (by omega)) (hb.block _ (by omega))
theorem LW.cell {w : World} (h : LW w) (k : Nat) (hk : k < 4) : w.cell? ⟨1, k, none⟩ = some (sv (firstsL k)) := by
  rw [World.var?_cell gFirsts h.fir k]
  match k, hk with
  | 0, _ => rfl
  | 1, _ => rfl
  | 2, _ => rfl
  | 3, _ => rfl

/-! ### What a call may write -/
/-- All that lay is as it was, but for these blocks. -/
structure Kp (S : List Nat) (w w' : World) : Prop where
  os : w'.os = w.os
  tape : w'.tape = w.tape
  output : w'.output = w.output
  size : w.heap.size ≤ w'.heap.size
  block : ∀ k, k < w.heap.size → k ∉ S → w'.heap[k]? = w.heap[k]?
theorem Kp.of_below {w w' : World} (h : Below w.heap.size w w') (S : List Nat) : Kp S w w' := ⟨h.os, h.tape, h.output, h.size, fun k hk _ => h.block k hk⟩
theorem Kp.refl (S : List Nat) (w : World) : Kp S w w := ⟨rfl, rfl, rfl, Nat.le_refl _, fun _ _ _ => rfl⟩
theorem Kp.trans {S S' : List Nat} {a b c : World} (h : Kp S a b) (h' : Kp S' b c) (hs : ∀ k ∈ S', k < a.heap.size → k ∈ S) : Kp S a c :=
  ⟨h'.os.trans h.os, h'.tape.trans h.tape, h'.output.trans h.output, Nat.le_trans h.size h'.size, fun k hk hn => (h'.block k (Nat.lt_of_lt_of_le hk h.size) (fun e => hn (hs k e hk))).trans (h.block k hk hn)⟩
theorem Kp.mono {S S' : List Nat} {a b : World} (h : Kp S a b) (hs : ∀ k ∈ S, k ∈ S') : Kp S' a b := ⟨h.os, h.tape, h.output, h.size, fun k hk hn => h.block k hk fun e => hn (hs k e)⟩
theorem Kp.drew {S : List Nat} {a w : World} (h : Kp S a w) : Kp S a w.drew := ⟨h.os, h.tape, h.output, h.size, h.block⟩
theorem Kp.drewN {S : List Nat} {a w : World} (h : Kp S a w) (n : Nat) : Kp S a (w.drewN n) := ⟨h.os, h.tape, h.output, h.size, h.block⟩
theorem Kp.alloc {S : List Nat} {a w : World} (h : Kp S a w) (o : Obj) : Kp S a (w.alloc o) := h.trans (S' := []) (Kp.of_below ((Below.refl _ _).alloc (Nat.le_refl _) _) _) (fun k hk => by cases hk)
theorem Kp.setCell {S : List Nat} {a w : World} (h : Kp S a w) {p : Addr} (hp : p.block ∈ S) (u : Value) : Kp S a (w.setCell p u) :=
  ⟨h.os, h.tape, h.output, by simpa [World.setCell] using h.size, fun k hk hn => (Below.heap_setCell _ _ _ _ (fun e => hn (by rw [e]; exact hp))).trans (h.block k hk hn)⟩
theorem Kp.setNew {S : List Nat} {a w : World} (h : Kp S a w) {p : Addr} (hp : a.heap.size ≤ p.block) (u : Value) : Kp S a (w.setCell p u) :=
  ⟨h.os, h.tape, h.output, by simpa [World.setCell] using h.size, fun k hk hn => (Below.heap_setCell _ _ _ _ (by omega)).trans (h.block k hk hn)⟩
theorem Kp.grown {S : List Nat} {a w w' : World} {row : Option Nat} (h : Kp S a w) (hg : w.grownBy w' row) (hr : ∀ k, row = some k → k < a.heap.size → k ∈ S) : Kp S a w' :=
  ⟨hg.os.trans h.os, hg.tape.trans h.tape, hg.output.trans h.output, Nat.le_trans h.size hg.size, fun k hk hn => (hg.block k (Nat.lt_of_lt_of_le hk h.size) (fun e => hn (hr k e.symm hk))).trans (h.block k hk hn)⟩
theorem Kp.below {S : List Nat} {a w w' : World} (h : Kp S a w) (hb : Below w.heap.size w w') : Kp S a w' := h.trans (S' := []) (Kp.of_below hb _) (fun k hk => by cases hk)
/-- Of new memory alone. -/
theorem Kp.to_below {S : List Nat} {w w' : World} {n : Nat} (h : Kp S w w') (hn : ∀ k ∈ S, n ≤ k) (hs : n ≤ w.heap.size) : Below n w w' := ⟨h.os, h.tape, h.output, h.size, fun k hk => h.block k (by omega) (fun e => by have := hn k e; omega)⟩
theorem LW.kp {S : List Nat} {w w' : World} (h : LW w) (hk : Kp S w w') (hs : ∀ k ∈ S, 4 + 1 ≤ k) : LW w' := by
  have hp := h.pos
  exact h.of_blocks (hk.block _ (by omega) (fun e => by have := hs _ e; omega)) (hk.block _ (by omega) (fun e => by have := hs _ e; omega))

/-- Behind w0, with new memory alone; the laid variables are as their texts lay them. -/
def BL (w0 w : World) : Prop := Below w0.heap.size w0 w ∧ LW w
theorem BL.start {w : World} (h : LW w) : BL w w := ⟨Below.refl _ _, h⟩
theorem BL.below {w0 w : World} (h : BL w0 w) : Below w0.heap.size w0 w := h.1
theorem BL.lw {w0 w : World} (h : BL w0 w) : LW w := h.2
theorem BL.size {w0 w : World} (h : BL w0 w) : w0.heap.size ≤ w.heap.size := h.1.size
theorem BL.step {w0 w w' : World} (h : BL w0 w) (hb : Below w.heap.size w w') : BL w0 w' := ⟨h.1.trans (hb.mono h.1.size), h.2.below hb⟩
theorem BL.alloc {w0 w : World} (h : BL w0 w) (o : Obj) : BL w0 (w.alloc o) := h.step ((Below.refl _ _).alloc (Nat.le_refl _) _)
theorem BL.drew {w0 w : World} (h : BL w0 w) : BL w0 w.drew := ⟨h.1.drew, h.2.of_blocks rfl rfl⟩
theorem BL.drewN {w0 w : World} (h : BL w0 w) (k : Nat) : BL w0 (w.drewN k) := ⟨⟨h.1.os, h.1.tape, h.1.output, h.1.size, h.1.block⟩, h.2.of_blocks rfl rfl⟩
theorem BL.kp {w0 w w' : World} {S : List Nat} (h : BL w0 w) (hk : Kp S w w') (hs : ∀ k ∈ S, w0.heap.size ≤ k ∧ 4 + 1 ≤ k) : BL w0 w' :=
  ⟨h.1.trans (hk.to_below (fun k e => (hs k e).1) h.1.size), h.2.kp hk fun k e => (hs k e).2⟩

/-! ### Rows of texts, and readers -/
/-- A row of texts of one's own, from block n on, in these blocks. -/
def Rw (n : Nat) (w : World) (G : List Nat) (v : Value) (xs : List (List UInt8)) : Prop :=
  w.ownsRow n 9 1 v xs.length (xs.map sv) ∧ (∀ g, v.ownBlock = some g → g ∈ G) ∧ (∀ k ∈ G, k < w.heap.size)
theorem Rw.form {n : Nat} {w : World} {G : List Nat} {v : Value} {xs : List (List UInt8)} (h : Rw n w G v xs) : ∃ A c, v = .slice A xs.length c := by
  rcases h.1.2 with ⟨rfl, h0⟩ | ⟨g, cap, cur, rfl, _⟩
  · exact ⟨none, 0, by rw [h0]⟩
  · exact ⟨_, _, rfl⟩
theorem ownsRow_kp {n : Nat} {w w' : World} {S : List Nat} {e : TypeId} {v : Value} {m : Nat} {xs : List Value} (h : w.ownsRow n e 1 v m xs) (hk : Kp S w w') (hs : ∀ g, v.ownBlock = some g → g ∉ S) : w'.ownsRow n e 1 v m xs := by
  refine ⟨h.1, ?_⟩
  rcases h.2 with hn | ⟨g, cap, cur, rfl, hb, hgg, rest⟩
  · exact .inl hn
  · exact .inr ⟨g, cap, cur, rfl, hb, (hk.block g (lt_of_blk hgg) (hs g rfl)).trans hgg, rest⟩
theorem Rw.kp {n : Nat} {w w' : World} {G S : List Nat} {v : Value} {xs : List (List UInt8)} (h : Rw n w G v xs) (hk : Kp S w w') (hs : ∀ k ∈ G, k ∉ S) : Rw n w' G v xs :=
  ⟨ownsRow_kp h.1 hk (fun g e => hs g (h.2.1 g e)), h.2.1, fun k e => Nat.lt_of_lt_of_le (h.2.2 k e) hk.size⟩
theorem Rw.cell {n : Nat} {w : World} {G : List Nat} {A : Option Addr} {c : Nat} {xs : List (List UInt8)} (h : Rw n w G (.slice A xs.length c) xs) {j : Nat} (hj : j < xs.length) :
    ∃ g, A = some ⟨g, 0, none⟩ ∧ g < w.heap.size ∧ n ≤ g ∧ g ∈ G ∧ w.cell? ⟨g, j, none⟩ = some (sv (xs.getD j [])) := by
  have ho := h.1
  rcases ho.2 with ⟨_, h0⟩ | ⟨g, cap, cur, hv, hb, hg, _⟩
  · omega
  · have hv' := hv
    simp only [Value.slice.injEq] at hv'
    obtain ⟨rfl, _, rfl⟩ := hv'
    refine ⟨g, rfl, lt_of_blk hg, hb, h.2.1 g rfl, ?_⟩
    have := ho.cells (g := g) rfl j (sv (xs.getD j [])) (by simp [List.getElem?_map, List.getD_eq_getElem?_getD, List.getElem?_eq_getElem hj])
    have e1 : (⟨g, 0, none⟩ : Addr).add j = ⟨g, j, none⟩ := by unfold Addr.add; split <;> simp_all
    rwa [e1] at this
theorem Rw.nil (n : Nat) (w : World) : Rw n w [] (.slice none 0 0) [] := ⟨World.ownsRow_nil _ _ _ _, fun g e => by simp [Value.ownBlock] at e, fun k e => by simp at e⟩

/-- A reader of the program's, at block b; the blocks that are its own. -/
structure Rd (n : Nat) (w : World) (b : Nat) (F : List Nat) (st : RS) : Prop where
  mem : b ∈ F
  up : ∀ k ∈ F, n ≤ k ∧ 4 + 1 ≤ k ∧ k < w.heap.size
  len : st.ls.length ≤ 32 ∧ st.lls.length ≤ 32
  em : st.lls = [] → st.lc = 0 ∧ st.lst = []
  is : ∃ v u, w.heap[b]? = some (.cells #[.int .i64 (st.c : Int), v, .int .i64 (st.lc : Int), sv st.lst, u, .bool st.d] 90 (0, 0)) ∧
    w.ownsRow n 9 1 v st.ls.length (st.ls.map sv) ∧ w.ownsRow n 9 1 u st.lls.length (st.lls.map sv) ∧
    (∀ g, v.ownBlock = some g → g ∈ F) ∧ (∀ g, u.ownBlock = some g → g ∈ F) ∧ (∀ g, v.ownBlock = some g → u.ownBlock ≠ some g) ∧
    (st.ls = [] → v = .slice none 0 0) ∧ (st.lls = [] → u = .slice none 0 0)
theorem Rd.kp {n : Nat} {w w' : World} {b : Nat} {F S : List Nat} {st : RS} (h : Rd n w b F st) (hk : Kp S w w') (hs : ∀ k ∈ F, k ∉ S) : Rd n w' b F st := by
  obtain ⟨hm, hu, hl, he, v, u, hb, hv, hu', h1, h2, h3, h4, h5⟩ := h
  exact ⟨hm, fun k e => ⟨(hu k e).1, (hu k e).2.1, Nat.lt_of_lt_of_le (hu k e).2.2 hk.size⟩, hl, he, v, u, (hk.block b (hu b hm).2.2 (hs b hm)).trans hb,
    ownsRow_kp hv hk (fun g e => hs g (h1 g e)), ownsRow_kp hu' hk (fun g e => hs g (h2 g e)), h1, h2, h3, h4, h5⟩
theorem Rd.below {n : Nat} {w w' : World} {b : Nat} {F : List Nat} {st : RS} (h : Rd n w b F st) (hb : Below w.heap.size w w') : Rd n w' b F st := h.kp (Kp.of_below hb []) (fun k _ e => by cases e)
theorem Rw.below {n : Nat} {w w' : World} {G : List Nat} {v : Value} {xs : List (List UInt8)} (h : Rw n w G v xs) (hb : Below w.heap.size w w') : Rw n w' G v xs := h.kp (Kp.of_below hb []) (fun k _ e => by cases e)

/-- A cell of a block is written. -/
theorem blk_set {w : World} {b : Nat} {cs : Array Value} {t : TypeId} {fr : Nat × Nat} (h : w.heap[b]? = some (.cells cs t fr)) (i : Nat) (x : Value) : (w.setCell ⟨b, i, none⟩ x).heap[b]? = some (.cells (cs.setIfInBounds i x) t fr) := by
  simp [World.setCell, Array.getElem?_modify, h]
end Go.Proofs.YtanfonpbnamjmaaDoor
