/-
  Worlds: the laid variables as their texts lay them; what a call may write (Kp); rows of parameters, commands, as a value names them.
-/
import Derived.Lib.LaidTab
import Derived.Sort.Grow
import Derived.Test.YtbmjmiioobgbfaaGreatDoorNW
import Derived.Test.YtbmjmiioobgbfaaGreatDoorKPureM
namespace Go.Proofs.YtbmjmiioobgbfaaGreatDoor
open Go Go.RowKit
set_option maxRecDepth 100000
set_option linter.unusedSimpArgs false
set_option linter.unusedVariables false

theorem gPow : Tryz.prog.globalNamed "internal/strconv.uint64pow10" = some 4 := by kernel_rfl
theorem gHeads : Tryz.prog.globalNamed "mailroom/cmd.heads" = some 0 := by kernel_rfl

/-- The laid variables are as their texts lay them. -/
structure LW (w : World) : Prop where
  ml : ML w
  pow : Lib.TabIs Tryz.prog w "internal/strconv.uint64pow10" .u64 Lib.pow10Tab
  hd : w.var? Tryz.prog "mailroom/cmd.heads" = some #[sv (hdL 0), sv (hdL 1), sv (hdL 2), sv (hdL 3), sv (hdL 4), sv (hdL 5), sv (hdL 6)]

theorem var_lt {w : World} {n : String} {g : Nat} {cs : Array Value} (h : w.var? Tryz.prog n = some cs) (hg : Tryz.prog.globalNamed n = some g) : g < w.heap.size := by
  unfold World.var? at h
  rw [hg] at h
  rcases Nat.lt_or_ge g w.heap.size with h' | h'
  · exact h'
  · simp [Array.getElem?_eq_none h'] at h
theorem LW.of_blocks {w w' : World} (h : LW w) (h0 : w'.heap[0]? = w.heap[0]?) (h1 : w'.heap[1]? = w.heap[1]?) (h2 : w'.heap[4]? = w.heap[4]?) : LW w' := by
  obtain ⟨hm, hp, hf⟩ := h
  refine ⟨?_, ?_, ?_⟩
  · obtain ⟨m, hm⟩ := hm
    exact ⟨m, (World.cell?_of_block h1).trans hm⟩
  · unfold Lib.TabIs World.var? at hp ⊢
    rw [gPow] at hp ⊢
    simp only [Option.bind_some] at hp ⊢
    rw [h2]; exact hp
  · unfold World.var? at hf ⊢
    rw [gHeads] at hf ⊢
    simp only [Option.bind_some] at hf ⊢
    rw [h0]; exact hf
theorem LW.below {w w' : World} (h : LW w) (hb : Below w.heap.size w w') : LW w' :=
  h.of_blocks (hb.block _ (var_lt h.hd gHeads)) (hb.block _ h.ml.lt) (hb.block _ (var_lt h.pow gPow))
theorem LW.cell {w : World} (h : LW w) (k : Nat) (hk : k < 7) : w.cell? ⟨0, k, none⟩ = some (sv (hdL k)) := by
  rw [World.var?_cell gHeads h.hd k]
  match k, hk with
  | 0, _ => rfl
  | 1, _ => rfl
  | 2, _ => rfl
  | 3, _ => rfl
  | 4, _ => rfl
  | 5, _ => rfl
  | 6, _ => rfl
theorem below_more {w w' : World} {os : Array Obj} (hh : w'.heap = w.heap ++ os) (h1 : w'.os = w.os) (h2 : w'.tape = w.tape) (h3 : w'.output = w.output) : Below w.heap.size w w' := by
  refine ⟨h1, h2, h3, by rw [hh]; simp, fun k hk => ?_⟩
  rw [hh, Array.getElem?_append_left hk]
theorem below_alloc (w : World) (o : Obj) : Below w.heap.size w (w.alloc o) := (Below.refl _ _).alloc (Nat.le_refl _) _
theorem blk_below {w w' : World} {b : Nat} {o : Obj} (h : w.heap[b]? = some o) (hb : Below w.heap.size w w') : w'.heap[b]? = some o := (hb.block b (lt_of_blk h)).trans h
theorem itoa_call (n : Int) (w : World) (h0 : -9223372036854775808 ≤ n) (h1 : n ≤ 9223372036854775807) (hw : LW w) :
    Calls Tryz.prog 99 #[.int .i64 n] w fun e w' => e = .returned (sv (Lib.itoa n)) ∧ Below w.heap.size w w' := by
  refine (Tryz.strconv_Itoa n h0 h1 w hw.pow).mono ?_
  rintro e w1 ⟨rfl, q, os, hw⟩
  refine ⟨rfl, ?_⟩
  exact below_more (w := w) (w' := w1) (os := os) (by rw [hw]; rfl) (by rw [hw]; rfl) (by rw [hw]; rfl) (by rw [hw]; rfl)

/-! ### What a call may write -/
/-- All that lay is as it was, but for these blocks. -/
structure Kp (S : List Nat) (w w' : World) : Prop where
  os : w'.os = w.os
  tape : w'.tape = w.tape
  output : w'.output = w.output
  size : w.heap.size ≤ w'.heap.size
  block : ∀ k, k < w.heap.size → k ∉ S → w'.heap[k]? = w.heap[k]?
theorem Kp.of_below {w w' : World} (h : Below w.heap.size w w') (S : List Nat) : Kp S w w' := ⟨h.os, h.tape, h.output, h.size, fun k hk _ => h.block k hk⟩
theorem Kp.refl (S : List Nat) (w : World) : Kp S w w := ⟨rfl, rfl, rfl, Nat.le_refl _, fun _ _ _ => rfl⟩
theorem Kp.trans {S S' : List Nat} {a b c : World} (h : Kp S a b) (h' : Kp S' b c) (hs : ∀ k ∈ S', k < a.heap.size → k ∈ S) : Kp S a c :=
  ⟨h'.os.trans h.os, h'.tape.trans h.tape, h'.output.trans h.output, Nat.le_trans h.size h'.size, fun k hk hn => (h'.block k (Nat.lt_of_lt_of_le hk h.size) (fun e => hn (hs k e hk))).trans (h.block k hk hn)⟩
theorem Kp.mono {S S' : List Nat} {a b : World} (h : Kp S a b) (hs : ∀ k ∈ S, k ∈ S') : Kp S' a b := ⟨h.os, h.tape, h.output, h.size, fun k hk hn => h.block k hk fun e => hn (hs k e)⟩
theorem Kp.drew {S : List Nat} {a w : World} (h : Kp S a w) : Kp S a w.drew := ⟨h.os, h.tape, h.output, h.size, h.block⟩
theorem Kp.alloc {S : List Nat} {a w : World} (h : Kp S a w) (o : Obj) : Kp S a (w.alloc o) := h.trans (S' := []) (Kp.of_below ((Below.refl _ _).alloc (Nat.le_refl _) _) _) (fun k hk => by cases hk)
theorem Kp.below {S : List Nat} {a w w' : World} (h : Kp S a w) (hb : Below w.heap.size w w') : Kp S a w' := h.trans (S' := []) (Kp.of_below hb _) (fun k hk => by cases hk)
/-- Of new memory alone. -/
theorem Kp.to_below {S : List Nat} {w w' : World} {n : Nat} (h : Kp S w w') (hn : ∀ k ∈ S, n ≤ k) (hs : n ≤ w.heap.size) : Below n w w' := ⟨h.os, h.tape, h.output, h.size, fun k hk => h.block k (by omega) (fun e => by have := hn k e; omega)⟩

/-- Behind w0, with new memory alone; the laid variables are as their texts lay them. -/
def BK (w0 w : World) : Prop := Below w0.heap.size w0 w ∧ LW w
theorem BK.start {w : World} (h : LW w) : BK w w := ⟨Below.refl _ _, h⟩
theorem BK.below {w0 w : World} (h : BK w0 w) : Below w0.heap.size w0 w := h.1
theorem BK.lw {w0 w : World} (h : BK w0 w) : LW w := h.2
theorem BK.ml {w0 w : World} (h : BK w0 w) : ML w := h.2.ml
theorem BK.size {w0 w : World} (h : BK w0 w) : w0.heap.size ≤ w.heap.size := h.1.size
theorem BK.step {w0 w w' : World} (h : BK w0 w) (hb : Below w.heap.size w w') : BK w0 w' := ⟨h.1.trans (hb.mono h.1.size), h.2.below hb⟩
theorem BK.alloc {w0 w : World} (h : BK w0 w) (o : Obj) : BK w0 (w.alloc o) := h.step (below_alloc _ _)
theorem BK.drew {w0 w : World} (h : BK w0 w) : BK w0 w.drew := ⟨h.1.drew, h.2.of_blocks rfl rfl rfl⟩
theorem BK.drewN {w0 w : World} (h : BK w0 w) (k : Nat) : BK w0 (w.drewN k) := ⟨⟨h.1.os, h.1.tape, h.1.output, h.1.size, h.1.block⟩, h.2.of_blocks rfl rfl rfl⟩

/-! ### Parameters and commands, as values -/
/-- Parameters, as a slice's value names them. -/
def PR (w : World) (v : Value) (ps : List PM) : Prop :=
  ∃ A c, v = .slice A ps.length c ∧ (0 < ps.length → ∃ g off, A = some ⟨g, off, none⟩ ∧ g < w.heap.size ∧
    ∀ j, j < ps.length → w.cell? ⟨g, off + j * 2, none⟩ = some (sv (ps.getD j pm0).1) ∧ w.cell? ⟨g, off + j * 2 + 1, none⟩ = some (sv (ps.getD j pm0).2))
theorem PR.step {w w' : World} {v : Value} {ps : List PM} (h : PR w v ps) (hb : Below w.heap.size w w') : PR w' v ps := by
  obtain ⟨A, c, rfl, h⟩ := h
  refine ⟨A, c, rfl, fun hp => ?_⟩
  obtain ⟨g, off, e, hl, hc⟩ := h hp
  exact ⟨g, off, e, Nat.lt_of_lt_of_le hl hb.size, fun j hj => ⟨(hb.cell (p := ⟨g, off + j * 2, none⟩) hl).trans (hc j hj).1, (hb.cell (p := ⟨g, off + j * 2 + 1, none⟩) hl).trans (hc j hj).2⟩⟩
theorem PR.nil (w : World) (A : Option Addr) (c : Nat) : PR w (.slice A 0 c) [] := ⟨A, c, rfl, fun h => absurd h (by decide)⟩
theorem PR.form {w : World} {v : Value} {ps : List PM} (h : PR w v ps) : ∃ A c, v = .slice A ps.length c := by
  obtain ⟨A, c, e, _⟩ := h
  exact ⟨A, c, e⟩
/-- A row's cells, at a place. -/
theorem PR.at {w : World} {A : Option Addr} {n c k : Nat} {ps : List PM} (h : PR w (.slice A n c) ps) (hk : k < ps.length) : ∃ g off, A = some ⟨g, off, none⟩ ∧ g < w.heap.size ∧
    w.cell? ⟨g, off + k * 2, none⟩ = some (sv (ps.getD k pm0).1) ∧ w.cell? ⟨g, off + k * 2 + 1, none⟩ = some (sv (ps.getD k pm0).2) := by
  obtain ⟨A', c', e, h⟩ := h
  simp only [Value.slice.injEq] at e
  obtain ⟨rfl, _, rfl⟩ := e
  obtain ⟨g, off, e, hl, hc⟩ := h (by omega)
  exact ⟨g, off, e, hl, (hc k hk).1, (hc k hk).2⟩
abbrev pmV (p : PM) : Value := .agg #[sv p.1, sv p.2]
/-- A command's value, u its parameters' slice. -/
abbrev cmV (c : Cm) (u : Value) : Value := .agg #[.int .u8 (c.verb : Int), sv c.arg, u]
/-- A command that is no more than a statement goes over. -/
structure SM (c : Cm) : Prop where
  verb : c.verb < 256
  arg : c.arg.length ≤ 6000
  ps : c.ps.length ≤ 1200
  each : ∀ p ∈ c.ps, p.1.length ≤ 6000 ∧ p.2.length ≤ 6000
theorem pm_mem {l : List PM} {k : Nat} (h : k < l.length) : l.getD k pm0 ∈ l := by rw [pm_getD h]; exact List.getElem_mem h
end Go.Proofs.YtbmjmiioobgbfaaGreatDoor
