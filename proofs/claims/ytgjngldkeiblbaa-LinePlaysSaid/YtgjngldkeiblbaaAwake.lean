/-
  awake's contract: the examples are as the document says, wherever the library's variable MaxLen holds some number. And the words by which the laws' walks carry framers and slices from call to call.
-/
import Derived.Test.YtgjngldkeiblbaaSame
namespace Go.Proofs.Ytgjngldkeiblbaa
open Go Go.RowKit Go.Shelf

/-- A line of which l has come, in a framer that lives. -/
def Live (m : Nat) (l : List UInt8) : Prop := run m [] l = ([], l, false) ∧ l.length < m

theorem live_nil {m : Nat} (h : 0 < m) : Live m [] := ⟨rfl, h⟩

theorem Live.step {m : Nat} (h0 : 0 < m) : ∀ (s l : List UInt8), Live m l → (run m l s).2.2 = false → Live m (run m l s).2.1 := by
  intro s
  induction s with
  | nil => intro l hl _; exact hl
  | cons b s ih =>
    intro l hl hd
    by_cases h : b = 10 ∧ l.getLast? = some 13
    · rw [run_end _ h] at hd ⊢
      exact ih [] (live_nil h0) hd
    · by_cases hm : m ≤ l.length + 1
      · rw [run_dies _ h hm] at hd; cases hd
      · rw [run_on _ h (by omega)] at hd ⊢
        refine ih (l ++ [b]) ⟨?_, by simp; omega⟩ hd
        have e : run m l [b] = ([], l ++ [b], false) := by rw [run_on [] h (by omega), run_nil]
        rw [run_append, hl.1]
        simp [e]

theorem run_dead_left {m : Nat} : ∀ (s l : List UInt8), (run m l s).2.2 = true → (run m l s).2.1 = [] := by
  intro s
  induction s with
  | nil => intro l h; cases h
  | cons b s ih =>
    intro l hd
    by_cases h : b = 10 ∧ l.getLast? = some 13
    · rw [run_end _ h] at hd ⊢; exact ih [] hd
    · by_cases hm : m ≤ l.length + 1
      · rw [run_dies _ h hm]
      · rw [run_on _ h (by omega)] at hd ⊢; exact ih _ hd

theorem Fr.kept {w w' : World} {b m : Nat} {l : List UInt8} {d : Bool} {row : Option Nat} (h : Fr w b m l d) (hg : w.grownBy w' row) (hr : ∀ r, row = some r → r ≠ b ∧ ∃ cs t, w.heap[r]? = some (.cells cs t (0, 0)) ∧ t ≠ 5) : Fr w' b m l d := by
  obtain ⟨v, hb, hv⟩ := h
  refine ⟨v, (hg.block b (lt_of_block hb) (fun e => (hr b e.symm).1 rfl)).trans hb, ?_⟩
  rcases hv with h | ⟨g, e1, e2⟩
  · exact .inl h
  · refine .inr ⟨g, e1, (hg.block g (lt_of_block e2) (fun e => ?_)).trans e2⟩
    obtain ⟨_, cs, t, hc, ht⟩ := hr g e.symm
    rw [hc] at e2; simp at e2; exact ht e2.2

theorem Fr.block {w : World} {b m : Nat} {l : List UInt8} {d : Bool} (h : Fr w b m l d) : ∃ cs, w.heap[b]? = some (.cells cs 55 (0, 0)) := by
  obtain ⟨v, hb, _⟩ := h
  exact ⟨_, hb⟩

/-- Another framer is fed, or reset. -/
theorem Fr.other {w w' : World} {b b' m m' : Nat} {l l' : List UInt8} {d d' : Bool} (h : Fr w b m l d) (h' : Fr w b' m' l' d') (hne : b' ≠ b) (hg : w.grownBy w' (some b')) : Fr w' b m l d :=
  h.kept hg fun r e => by
    cases e
    obtain ⟨cs, hc⟩ := h'.block
    exact ⟨hne, cs, 55, hc, by decide⟩

theorem Fr.below {w w' : World} {b m : Nat} {l : List UInt8} {d : Bool} (h : Fr w b m l d) (hb : Below w.heap.size w w') : Fr w' b m l d := h.kept (grownBy_of_below hb none) (fun r e => by cases e)

theorem Ows.fed {w w' : World} {base b m : Nat} {l : List UInt8} {d : Bool} {v : Value} {outs : List (List UInt8)} (h : Ows w base v outs) (hf : Fr w b m l d) (hg : w.grownBy w' (some b)) : Ows w' base v outs :=
  h.kept hg fun r e => by
    cases e
    obtain ⟨cs, hc⟩ := hf.block
    exact .inr ⟨_, hc, fun cs' fr e => by cases e⟩

theorem Ows.below {w w' : World} {base : Nat} {v : Value} {outs : List (List UInt8)} (h : Ows w base v outs) (hb : Below w.heap.size w w') : Ows w' base v outs := h.kept (grownBy_of_below hb none) (fun r e => by cases e)

theorem ML.fed {w w' : World} {b : Nat} (h : ML w) (h0 : 0 < b) (hg : w.grownBy w' (some b)) : ML w' := by
  obtain ⟨m, hm⟩ := h
  exact ⟨m, hg.cell hm (by simp; omega)⟩
theorem ML.below {w w' : World} (h : ML w) (hb : Below w.heap.size w w') : ML w' := by
  obtain ⟨m, hm⟩ := h
  exact ⟨m, (grownBy_of_below hb none).cell hm (by simp)⟩

theorem new_fr (m : Nat) (w : World) : Fr (w.alloc (.cells #[.int .i64 m, .slice none 0 0, .bool false] 55)) w.heap.size m [] false :=
  ⟨.slice none 0 0, heap_alloc_new w _, .inl ⟨rfl, rfl⟩⟩

/-- Feed of a framer that lives, where what it comes to is known. -/
theorem feed_run {w : World} {b m : Nat} {l s l' : List UInt8} {d : Bool} {o : List (List UInt8)} (h : Fr w b m l false) (hl : Live m l) (hm : 2 ≤ m) (hm' : m ≤ 512) (hs : s.length ≤ 50000) (h0b : 0 < b) (hML : ML w) (hr : run m l s = (o, l', d)) :
    Calls Try.prog 11 #[.pointer (some ⟨b, 0, none⟩), .string (str s)] w fun e w' => ∃ A cap, e = .returned (.tuple #[.slice A o.length cap, .int .i64 (if d then 40 else 0)]) ∧ w.grownBy w' (some b) ∧ Fr w' b m l' d ∧ Ows w' w.heap.size (.slice A o.length cap) o := by
  refine (feed_live s l w h hl.1 hm hm' hl.2 hs h0b hML).mono ?_
  rintro e w' ⟨v, he, h1, h2, h3⟩
  rw [hr] at he h2 h3
  obtain ⟨A, cap, rfl⟩ := h3.form
  exact ⟨A, cap, he, h1, h2, h3⟩

theorem cut_run {w : World} {s t : List UInt8} {o : List (List UInt8)} (hs : s.length ≤ 50000) (hML : ML w) (h0w : 0 < w.heap.size) (hr : run (s.length + 1) [] s = (o, t, false)) :
    Calls Try.prog 22 #[.string (str s)] w fun e w' => ∃ A cap, e = .returned (.tuple #[.slice A o.length cap, sv t]) ∧ Below w.heap.size w w' ∧ Ows w' w.heap.size (.slice A o.length cap) o := by
  refine (cut_any s w hs hML h0w).mono ?_
  rintro e w' ⟨v, he, h1, h2⟩
  rw [hr] at he h2
  obtain ⟨A, cap, rfl⟩ := h2.form
  exact ⟨A, cap, he, h1, h2⟩

/-- A literal of one text. -/
theorem SR.lit (w : World) (x : List UInt8) : SR (w.alloc (.cells #[sv x] 9)) (.slice (some ⟨w.heap.size, 0, none⟩) 1 1) [x] :=
  ⟨_, 1, rfl, .inr ⟨_, _, rfl, fun k hk => by
    have : k = 0 := by simpa using hk
    subst this
    exact (Boxed.new w 9 (sv x)).cell⟩⟩
theorem SR.below {W W' : World} {v : Value} {xs : List (List UInt8)} (h : SR W v xs) (hb : Below W.heap.size W W') : SR W' v xs := by
  obtain ⟨A, c, e, h⟩ := h
  refine ⟨A, c, e, ?_⟩
  rcases h with h | ⟨b, o, e', hc⟩
  · exact .inl h
  · exact .inr ⟨b, o, e', fun k hk => (grownBy_of_below hb none).cell (hc k hk) (by simp)⟩

theorem below_drewN (w : World) (n B : Nat) : Below B w (w.drewN n) := ⟨rfl, rfl, rfl, Nat.le_refl _, fun _ _ => rfl⟩

/-- Same of two slices that hold the same texts. -/
theorem same_true {w : World} {v v' : Value} {xs : List (List UInt8)} (h : SR w v xs) (h' : SR w v' xs) (hx : xs.length ≤ 1000000) :
    Calls Try.prog 17 #[v, v'] w fun e w' => e = .returned (.bool true) ∧ Below w.heap.size w w' := by
  refine (same_any w h h' hx hx).mono ?_
  rintro e w' ⟨rfl, n, rfl⟩
  exact ⟨by unfold sameB; rw [decide_eq_true rfl], below_drewN _ _ _⟩

theorem below_alloc (w : World) (o : Obj) : Below w.heap.size w (w.alloc o) := (Below.refl _ _).alloc (Nat.le_refl _) _

set_option maxRecDepth 100000 in
set_option maxHeartbeats 2000000 in
theorem awake_any (w : World) (hML : ML w) (h0w : 0 < w.heap.size) :
    Calls Try.prog 12 #[] w fun e w' => e = .returned (.bool true) ∧ Below w.heap.size w w' := by
  have hb1 : Below w.heap.size w (w.alloc (.cells #[.int .i64 8, .slice none 0 0, .bool false] 55)) := (Below.refl _ w).alloc (Nat.le_refl _) _
  have hf1 : Fr (w.alloc (.cells #[.int .i64 8, .slice none 0 0, .bool false] 55)) w.heap.size 8 [] false := new_fr 8 w
  have hm1 := hML.below hb1
  have HB1 := Lib.hid hb1
  have HF1 := Lib.hid hf1
  have HM1 := Lib.hid hm1
  have HG := Lib.hid h0w
  clear hb1 hf1 hm1 hML h0w
  go_enter Try.func12, Try.ntmps12
  go_wp2_with fail
  refine (new_yes 8 w (by decide) (by decide)).mono ?_
  rintro e w1 ⟨rfl, rfl⟩
  go_wp2_with fail
  refine (feed_run HF1.out (live_nil (by decide)) (by decide) (by decide) (by decide) HG.out HM1.out (show run 8 [] [97, 98, 13, 10, 99, 100] = ([[97, 98]], [99, 100], false) by decide)).mono ?_
  rintro e w2 ⟨A1, c1, rfl, hg2, hf2, ho1⟩
  have hb2 : Below w.heap.size w w2 := HB1.out.grown hg2 (by simp) (fun k e => by cases e; exact Nat.le_refl _)
  have HM2 := Lib.hid (HM1.out.fed HG.out hg2)
  have HB2 := Lib.hid hb2
  have HF2 := Lib.hid hf2
  have HO1 := Lib.hid ho1
  clear hb2 hf2 ho1 hg2
  go_wp2_with fail
  refine (left_any w2 HF2.out).mono ?_
  rintro e w2' ⟨rfl, rfl⟩
  go_wp2_with fail
  refine (feed_run HF2.out ⟨by decide, by decide⟩ (by decide) (by decide) (by decide) HG.out HM2.out (show run 8 [99, 100] [10, 13, 101, 13, 10, 102] = ([[99, 100, 10, 13, 101]], [102], false) by decide)).mono ?_
  rintro e w3 ⟨A2, c2, rfl, hg3, hf3, ho2⟩
  have hb3 : Below w.heap.size w w3 := HB2.out.grown hg3 HB2.out.size (fun k e => by cases e; exact Nat.le_refl _)
  have HM3 := Lib.hid (HM2.out.fed HG.out hg3)
  have HB3 := Lib.hid hb3
  have HO13 := Lib.hid (HO1.out.fed HF2.out hg3)
  have HF3 := Lib.hid hf3
  have HO2 := Lib.hid ho2
  clear hb3 hf3 ho2 hg3
  go_wp2_with fail
  refine (feed_run HF3.out ⟨by decide, by decide⟩ (by decide) (by decide) (by decide) HG.out HM3.out (show run 8 [102] [103, 104, 105, 106, 107, 108, 109] = ([], [], true) by decide)).mono ?_
  rintro e w4 ⟨A3, c3, rfl, hg4, hf4, ho3⟩
  have hb4 : Below w.heap.size w w4 := HB3.out.grown hg4 HB3.out.size (fun k e => by cases e; exact Nat.le_refl _)
  have HM4 := Lib.hid (HM3.out.fed HG.out hg4)
  have HB4 := Lib.hid hb4
  have HO14 := Lib.hid (HO13.out.fed HF3.out hg4)
  have HO24 := Lib.hid (HO2.out.fed HF3.out hg4)
  have HF4 := Lib.hid hf4
  clear hb4 hf4 ho3 hg4
  go_wp2_with fail
  refine (cut_run (s := [97, 13, 10, 10, 98]) (by decide) HM4.out (Nat.lt_of_lt_of_le HG.out HB4.out.size) (show run (5 + 1) [] [97, 13, 10, 10, 98] = ([[97]], [10, 98], false) by decide)).mono ?_
  rintro e w5 ⟨A4, c4, rfl, hb5, ho4⟩
  have HB5 := Lib.hid (HB4.out.trans (hb5.mono HB4.out.size))
  have HS1 := Lib.hid (SR.of_own (HO14.out.below hb5))
  have HS2 := Lib.hid (SR.of_own (HO24.out.below hb5))
  have HS4 := Lib.hid (SR.of_own ho4)
  have HF5 := Lib.hid (HF4.out.below hb5)
  clear hb5 ho4
  go_wp2_with fail
  refine (same_true (HS1.out.below (below_alloc _ _)) (SR.lit w5 [97, 98]) (by decide)).mono ?_
  rintro e w6 ⟨rfl, hb6'⟩
  have hb6 : Below w5.heap.size w5 w6 := (below_alloc w5 _).trans (hb6'.mono (by simp))
  have HB6 := Lib.hid (HB5.out.trans (hb6.mono HB5.out.size))
  have HS26 := Lib.hid (HS2.out.below hb6)
  have HS46 := Lib.hid (HS4.out.below hb6)
  have HF6 := Lib.hid (HF5.out.below hb6)
  clear hb6 hb6'
  go_wp2_with fail
  refine (same_true (HS26.out.below (below_alloc _ _)) (SR.lit w6 [99, 100, 10, 13, 101]) (by decide)).mono ?_
  rintro e w7 ⟨rfl, hb7'⟩
  have hb7 : Below w6.heap.size w6 w7 := (below_alloc w6 _).trans (hb7'.mono (by simp))
  have HB7 := Lib.hid (HB6.out.trans (hb7.mono HB6.out.size))
  have HS47 := Lib.hid (HS46.out.below hb7)
  have HF7 := Lib.hid (HF6.out.below hb7)
  clear hb7 hb7'
  go_wp2_with fail
  refine (dead_any w7 HF7.out).mono ?_
  rintro e w7' ⟨rfl, rfl⟩
  go_wp2_with fail
  refine (left_any w7 HF7.out).mono ?_
  rintro e w7' ⟨rfl, rfl⟩
  go_wp2_with fail
  refine (same_true (HS47.out.below (below_alloc _ _)) (SR.lit w7 [97]) (by decide)).mono ?_
  rintro e w8 ⟨rfl, hb8'⟩
  have hb8 : Below w7.heap.size w7 w8 := (below_alloc w7 _).trans (hb8'.mono (by simp))
  have HB8 := Lib.hid (HB7.out.trans (hb8.mono HB7.out.size))
  clear hb8 hb8'
  go_wp2
  go_ret
  exact ⟨rfl, HB8.out⟩
end Go.Proofs.Ytgjngldkeiblbaa
