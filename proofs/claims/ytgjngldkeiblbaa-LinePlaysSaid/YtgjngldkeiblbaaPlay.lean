/-
  For LinePlays: what a framer, or the reference's, is told and left with by Feed, dead or alive ('fed'); two framers side by side, one of each kind, from call to call ('PS').
-/
import Derived.Test.YtgjngldkeiblbaaRefFeed
import Derived.Test.YtgjngldkeiblbaaBack
namespace Go.Proofs.Ytgjngldkeiblbaa
open Go Go.RowKit Go.Shelf

/-- What Feed tells, leaves, and answers. -/
def fed (m : Nat) (d : Bool) (l s : List UInt8) : List (List UInt8) × List UInt8 × Bool × Int :=
  if d then ([], l, true, 7) else ((run m l s).1, (run m l s).2.1, (run m l s).2.2, eno (run m l s).2.2)

/-- A line of which l has come, in a framer that lives or does not. -/
def Good (m : Nat) (l : List UInt8) (d : Bool) : Prop := l.length < m ∧ (d = false → Live m l)

theorem good_nil {m : Nat} (h : 0 < m) : Good m [] false := ⟨h, fun _ => live_nil h⟩

theorem Good.fed {m : Nat} {l s l' : List UInt8} {d d' : Bool} {o : List (List UInt8)} {en : Int} (h : Good m l d) (hm : 0 < m) (hr : fed m d l s = (o, l', d', en)) : Good m l' d' := by
  cases d with
  | true =>
    obtain ⟨rfl, rfl, rfl, rfl⟩ : [] = o ∧ l = l' ∧ true = d' ∧ (7 : Int) = en := by simpa [Ytgjngldkeiblbaa.fed] using hr
    exact ⟨h.1, fun e => by cases e⟩
  | false =>
    obtain ⟨rfl, rfl, rfl, rfl⟩ : (run m l s).1 = o ∧ (run m l s).2.1 = l' ∧ (run m l s).2.2 = d' ∧ eno (run m l s).2.2 = en := by simpa [Ytgjngldkeiblbaa.fed] using hr
    have hl := h.2 rfl
    cases hd : (run m l s).2.2 with
    | true => exact ⟨by rw [run_dead_left s l hd]; exact hm, fun e => by cases e⟩
    | false =>
      have := Live.step hm s l hl hd
      exact ⟨this.2, fun _ => this⟩

theorem fed_count {m : Nat} {l s l' : List UInt8} {d d' : Bool} {o : List (List UInt8)} {en : Int} (hr : fed m d l s = (o, l', d', en)) : o.length ≤ s.length := by
  cases d with
  | true =>
    obtain ⟨rfl, _⟩ : [] = o ∧ _ := by simpa [fed] using hr
    simp
  | false =>
    obtain ⟨rfl, _⟩ : (run m l s).1 = o ∧ _ := by simpa [fed] using hr
    exact run_count m s l

/-- Two framers side by side, of lines of m bytes at most: the program's at bf, the reference's at bx; all that lay at the call of w's is as it was. -/
structure PS (w : World) (m bf bx : Nat) (lf : List UInt8) (df : Bool) (lx : List UInt8) (dx : Bool) (W : World) : Prop where
  pos : 0 < w.heap.size
  bel : Below w.heap.size w W
  ml : ML W
  lef : w.heap.size ≤ bf
  lex : w.heap.size ≤ bx
  f : Fr W bf m lf df
  x : Rf W bx m lx dx

section
variable {w W W' : World} {m bf bx : Nat} {lf lx : List UInt8} {df dx : Bool}

theorem PS.bfx (h : PS w m bf bx lf df lx dx W) : bf ≠ bx := by
  rintro rfl
  obtain ⟨cs, hc⟩ := h.f.block
  have hx := h.x
  unfold Rf at hx
  rw [hc] at hx
  simp at hx

theorem PS.bfl (h : PS w m bf bx lf df lx dx W) : bf < W.heap.size := by
  obtain ⟨cs, hc⟩ := h.f.block
  exact lt_of_block hc
theorem PS.bxl (h : PS w m bf bx lf df lx dx W) : bx < W.heap.size := lt_of_block h.x

theorem PS.kept (h : PS w m bf bx lf df lx dx W) {row : Option Nat} (hg : W.grownBy W' row) (hr : ∀ r, row = some r → w.heap.size ≤ r ∧ r ≠ bf ∧ r ≠ bx ∧ ∃ cs t, W.heap[r]? = some (.cells cs t (0, 0)) ∧ t ≠ 5) : PS w m bf bx lf df lx dx W' where
  pos := h.pos
  bel := h.bel.grown hg h.bel.size (fun k e => (hr k e).1)
  ml := by
    obtain ⟨mx, hm⟩ := h.ml
    exact ⟨mx, hg.cell hm (by cases row with
      | none => simp
      | some r => have := (hr r rfl).1; have := h.pos; simp; omega)⟩
  lef := h.lef
  lex := h.lex
  f := h.f.kept hg (fun r e => ⟨(hr r e).2.1, (hr r e).2.2.2⟩)
  x := h.x.kept hg (fun e => by have := (hr bx e).2.2.1; exact this rfl)

theorem PS.grows (h : PS w m bf bx lf df lx dx W) (hg : W.grownBy W' none) : PS w m bf bx lf df lx dx W' := h.kept hg (fun r e => by cases e)
theorem PS.below (h : PS w m bf bx lf df lx dx W) (hb : Below W.heap.size W W') : PS w m bf bx lf df lx dx W' := h.grows (grownBy_of_below hb none)

/-- The program's framer is fed, or reset. -/
theorem PS.turnF (h : PS w m bf bx lf df lx dx W) (hg : W.grownBy W' (some bf)) {l' : List UInt8} {d' : Bool} (hf : Fr W' bf m l' d') : PS w m bf bx l' d' lx dx W' where
  pos := h.pos
  bel := h.bel.grown hg h.bel.size (fun k e => by cases e; exact h.lef)
  ml := h.ml.fed (Nat.lt_of_lt_of_le h.pos h.lef) hg
  lef := h.lef
  lex := h.lex
  f := hf
  x := h.x.kept hg (fun e => h.bfx (by simpa using e))

theorem PS.turnX (h : PS w m bf bx lf df lx dx W) (hg : W.grownBy W' (some bx)) {l' : List UInt8} {d' : Bool} (hx : Rf W' bx m l' d') : PS w m bf bx lf df l' d' W' where
  pos := h.pos
  bel := h.bel.grown hg h.bel.size (fun k e => by cases e; exact h.lex)
  ml := h.ml.fed (Nat.lt_of_lt_of_le h.pos h.lex) hg
  lef := h.lef
  lex := h.lex
  f := h.f.kept hg (fun r e => by cases e; exact ⟨h.bfx.symm, _, 41, h.x, by decide⟩)
  x := hx

/-- .. of another pair's. -/
theorem PS.byF (h : PS w m bf bx lf df lx dx W) {cf cx : Nat} {l1 l2 : List UInt8} {d1 d2 : Bool} (h' : PS w m cf cx l1 d1 l2 d2 W) (h1 : cf ≠ bf) (h2 : cf ≠ bx) (hg : W.grownBy W' (some cf)) : PS w m bf bx lf df lx dx W' :=
  h.kept hg fun r e => by
    cases e
    obtain ⟨cs, hc⟩ := h'.f.block
    exact ⟨h'.lef, h1, h2, cs, 55, hc, by decide⟩
theorem PS.byX (h : PS w m bf bx lf df lx dx W) {cf cx : Nat} {l1 l2 : List UInt8} {d1 d2 : Bool} (h' : PS w m cf cx l1 d1 l2 d2 W) (h1 : cx ≠ bf) (h2 : cx ≠ bx) (hg : W.grownBy W' (some cx)) : PS w m bf bx lf df lx dx W' :=
  h.kept hg fun r e => by
    cases e
    exact ⟨h'.lex, h1, h2, _, 41, h'.x, by decide⟩

/-- A row of texts of one's own is written over. -/
theorem PS.spoilt (h : PS w m bf bx lf df lx dx W) {base : Nat} {v : Value} {o : List (List UInt8)} (ho : Ows W base v o) (hb : w.heap.size ≤ base) (hg : W.grownBy W' v.ownBlock) : PS w m bf bx lf df lx dx W' :=
  h.kept hg fun r e => by
    rcases ho.2 with ⟨rfl, _⟩ | ⟨g', cap, cur, rfl, hb', hc, _⟩
    · simp [Value.ownBlock] at e
    · obtain rfl : g' = r := by simpa [Value.ownBlock] using e
      refine ⟨by omega, ?_, ?_, _, 9, hc, by decide⟩
      · rintro rfl
        obtain ⟨cs, hc'⟩ := h.f.block
        rw [hc] at hc'; simp at hc'
      · rintro rfl
        have hx := h.x
        unfold Rf at hx
        rw [hc] at hx; simp at hx

theorem play_f {s l' : List UInt8} {d' : Bool} {o : List (List UInt8)} {en : Int} (h : PS w m bf bx lf df lx dx W) (hgd : Good m lf df) (hm : 2 ≤ m) (hm' : m ≤ 512) (hs : s.length ≤ 50000) (hr : fed m df lf s = (o, l', d', en)) :
    Calls Try.prog 11 #[.pointer (some ⟨bf, 0, none⟩), .string (str s)] W fun e W' => ∃ A cap, e = .returned (.tuple #[.slice A o.length cap, .int .i64 en]) ∧ W.grownBy W' (some bf) ∧ PS w m bf bx l' d' lx dx W' ∧ Ows W' W.heap.size (.slice A o.length cap) o := by
  cases df with
  | true =>
    obtain ⟨rfl, rfl, rfl, rfl⟩ : [] = o ∧ lf = l' ∧ true = d' ∧ (7 : Int) = en := by simpa [fed] using hr
    refine (feed_dead (str s) W h.f).mono ?_
    rintro e W' ⟨rfl, hg⟩
    have hg' : W.grownBy W' (some bf) := ⟨hg.os, hg.tape, hg.output, hg.size, fun k hk _ => hg.block k hk (by simp)⟩
    exact ⟨none, 0, rfl, hg', h.grows hg, World.ownsRow_nil _ _ _ _⟩
  | false =>
    obtain ⟨rfl, rfl, rfl, rfl⟩ : (run m lf s).1 = o ∧ (run m lf s).2.1 = l' ∧ (run m lf s).2.2 = d' ∧ eno (run m lf s).2.2 = en := by simpa [fed] using hr
    refine (feed_go h.f (hgd.2 rfl) hm hm' hs (Nat.lt_of_lt_of_le h.pos h.lef) h.ml rfl).mono ?_
    rintro e W' ⟨A, c, rfl, hg, hf, ho⟩
    exact ⟨A, c, rfl, hg, h.turnF hg hf, ho⟩

theorem play_x {s l' : List UInt8} {d' : Bool} {o : List (List UInt8)} {en : Int} (h : PS w m bf bx lf df lx dx W) (hgd : Good m lx dx) (hm' : m ≤ 512) (hs : s.length ≤ 50000) (hr : fed m dx lx s = (o, l', d', en)) :
    Calls Try.prog 21 #[.pointer (some ⟨bx, 0, none⟩), .string (str s)] W fun e W' => ∃ A cap, e = .returned (.tuple #[.slice A o.length cap, .int .i64 en]) ∧ W.grownBy W' (some bx) ∧ PS w m bf bx lf df l' d' W' ∧ Ows W' W.heap.size (.slice A o.length cap) o := by
  cases dx with
  | true =>
    obtain ⟨rfl, rfl, rfl, rfl⟩ : [] = o ∧ lx = l' ∧ true = d' ∧ (7 : Int) = en := by simpa [fed] using hr
    refine (refFeed_dead (str s) W h.x).mono ?_
    rintro e W' ⟨rfl, rfl⟩
    exact ⟨none, 0, rfl, World.grownBy.refl _ _, h, World.ownsRow_nil _ _ _ _⟩
  | false =>
    obtain ⟨rfl, rfl, rfl, rfl⟩ : (run m lx s).1 = o ∧ (run m lx s).2.1 = l' ∧ (run m lx s).2.2 = d' ∧ eno (run m lx s).2.2 = en := by simpa [fed] using hr
    refine (refFeed_live s lx W h.x hgd.1 hm' hs rfl).mono ?_
    rintro e W' ⟨A, c, rfl, hg, hx, ho⟩
    exact ⟨A, c, rfl, hg, h.turnX hg hx, ho⟩

theorem play_reset (h : PS w m bf bx lf df lx dx W) :
    Calls Try.prog 10 #[.pointer (some ⟨bf, 0, none⟩)] W fun e W' => e = .returned (.tuple #[]) ∧ PS w m bf bx [] false lx dx W' := by
  refine (reset_any W h.f).mono ?_
  rintro e W' ⟨rfl, hg, hf⟩
  exact ⟨rfl, h.turnF hg hf⟩

theorem PS.resetX (h : PS w m bf bx lf df lx dx W) : PS w m bf bx lf df [] false ((W.setCell ⟨bx, 2, none⟩ (.bool false)).setCell ⟨bx, 1, none⟩ (sv [])) :=
  h.turnX (grown_trans (grownBy_cell _ _ _ _) (grownBy_cell _ _ _ _)) ((h.x.die false).left [])

/-- A copy of each, of what they have in common. -/
theorem play_copyF (h : PS w m bf bx lf df lx dx W) (hl : lf.length ≤ 100000) :
    Calls Try.prog 15 #[.pointer (some ⟨bf, 0, none⟩)] W fun e W' => e = .returned (.pointer (some ⟨W.heap.size, 0, none⟩)) ∧ W.heap.size ≤ W'.heap.size ∧ PS w m bf bx lf df lx dx W' ∧ Fr W' W.heap.size m lf df := by
  refine (copy_any W h.f hl).mono ?_
  rintro e W' ⟨rfl, hg, hf⟩
  exact ⟨rfl, hg.size, h.grows hg, hf⟩

theorem play_copyX {c : Nat} (h : PS w m bf bx lf df lx dx W) (hc : Fr W c m lf df) (hcl : w.heap.size ≤ c) :
    Calls Try.prog 20 #[.pointer (some ⟨bx, 0, none⟩)] W fun e W' => e = .returned (.pointer (some ⟨W.heap.size, 0, none⟩)) ∧ PS w m bf bx lf df lx dx W' ∧ PS w m c W.heap.size lf df lx dx W' := by
  refine (refCopy_any W h.x).mono ?_
  rintro e W' ⟨rfl, hg, hx⟩
  have h' := h.grows hg
  exact ⟨rfl, h', { pos := h.pos, bel := h'.bel, ml := h'.ml, lef := hcl, lex := h.bel.size, f := hc.kept hg (fun r e => by cases e), x := hx }⟩
end

/-! ### Calls that only read, in a region that draws -/
theorem Fr.drewN {w : World} {b m : Nat} {l : List UInt8} {d : Bool} (h : Fr w b m l d) (n : Nat) : Fr (w.drewN n) b m l d := h

theorem left_q {W : World} {b m : Nat} {l : List UInt8} {d : Bool} (h : Fr W b m l d) (n : Nat) : Calls Try.prog 13 #[.pointer (some ⟨b, 0, none⟩)] (W.drewN n) fun e w' => e = .returned (.string (str l)) ∧ ∃ k, w' = W.drewN k :=
  (left_any (W.drewN n) (h.drewN n)).mono fun _ _ ⟨he, hw⟩ => ⟨he, n, hw.symm⟩
theorem dead_q {W : World} {b m : Nat} {l : List UInt8} {d : Bool} (h : Fr W b m l d) (n : Nat) : Calls Try.prog 14 #[.pointer (some ⟨b, 0, none⟩)] (W.drewN n) fun e w' => e = .returned (.bool d) ∧ ∃ k, w' = W.drewN k :=
  (dead_any (W.drewN n) (h.drewN n)).mono fun _ _ ⟨he, hw⟩ => ⟨he, n, hw.symm⟩
theorem same_q {W : World} {v v' : Value} {xs : List (List UInt8)} (h : SR W v xs) (h' : SR W v' xs) (hx : xs.length ≤ 1000000) (n : Nat) : Calls Try.prog 17 #[v, v'] (W.drewN n) fun e w' => e = .returned (.bool true) ∧ ∃ k, w' = W.drewN k := by
  refine (same_any (W.drewN n) (h.drewN n) (h'.drewN n) hx hx).mono ?_
  rintro e w' ⟨rfl, k, rfl⟩
  exact ⟨by unfold sameB; rw [decide_eq_true rfl], n + k, by rw [World.drewN_drewN]⟩
end Go.Proofs.Ytgjngldkeiblbaa
