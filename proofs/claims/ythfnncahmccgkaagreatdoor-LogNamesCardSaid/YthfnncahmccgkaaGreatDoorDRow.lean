/-
  Rows of texts of one's own, and of steps, as things that lie apart; a copy of a row.
-/
import Derived.Test.YthfnncahmccgkaaGreatDoorDFi
namespace Go.Proofs.YthfnncahmccgkaaGreatDoor
open Go Go.RowKit Go.Maps
set_option maxRecDepth 100000
set_option linter.unusedSimpArgs false
set_option linter.unusedVariables false

/-- Block g is a row, of type e, whose first cells hold xs. -/
def XR (w : World) (e : TypeId) (g cap : Nat) (xs : List Value) : Prop := ∃ cur, w.heap[g]? = some (.cells cur e (0, 0)) ∧ cur.size = cap ∧ xs.length ≤ cap ∧ cur.toList.take xs.length = xs
theorem XR.lt {w : World} {e : TypeId} {g cap : Nat} {xs : List Value} (h : XR w e g cap xs) : g < w.heap.size := by
  obtain ⟨cur, hg, _⟩ := h
  exact lt_of_blk hg
theorem XR.of_block {w w' : World} {e : TypeId} {g cap : Nat} {xs : List Value} (h : XR w e g cap xs) (hb : w'.heap[g]? = w.heap[g]?) : XR w' e g cap xs := by
  obtain ⟨cur, hg, r⟩ := h
  exact ⟨cur, hb.trans hg, r⟩
theorem XR.cell {w : World} {e : TypeId} {g cap : Nat} {xs : List Value} (h : XR w e g cap xs) {j : Nat} (hj : j < xs.length) : w.cell? ⟨g, j, none⟩ = some (xs.getD j undef) ∧ w.frozen? ⟨g, j, none⟩ = false := by
  obtain ⟨cur, hg, _, _, ht⟩ := h
  refine ⟨?_, freeAt hg j⟩
  rw [cellAt hg]
  have : (cur.toList.take xs.length)[j]? = xs[j]? := by rw [ht]
  rw [List.getElem?_take_of_lt hj] at this
  rw [← Array.getElem?_toList, this, List.getD_eq_getElem?_getD, List.getElem?_eq_getElem hj]
  rfl
theorem XR.set {w : World} {e : TypeId} {g cap : Nat} {xs : List Value} (h : XR w e g cap xs) {j : Nat} (hj : j < xs.length) (v : Value) : XR (w.setCell ⟨g, j, none⟩ v) e g cap (xs.set j v) := by
  obtain ⟨cur, hg, h1, h3, ht⟩ := h
  refine ⟨_, blk_set hg j v, by simpa using h1, by simpa using h3, ?_⟩
  rw [Array.toList_setIfInBounds, List.length_set, List.take_set, ht]
theorem XR.owns {w : World} {e : TypeId} {g cap : Nat} {xs : List Value} (h : XR w e g cap xs) {B : Nat} (hB : B ≤ g) {n : Nat} (hn : n = xs.length) (h2 : cap ≤ maxLen) : w.ownsRow B e 1 (.slice (some ⟨g, 0, none⟩) n cap) n xs := by
  obtain ⟨cur, hg, h1, h3, ht⟩ := h
  subst hn
  exact ⟨by simp, .inr ⟨g, cap, cur, rfl, hB, hg, h3, h2, by omega, by rw [Nat.mul_one]; exact ht⟩⟩
theorem XR.of_owns {w : World} {e : TypeId} {g cap B n : Nat} {xs : List Value} (h : w.ownsRow B e 1 (.slice (some ⟨g, 0, none⟩) n cap) n xs) : XR w e g cap xs ∧ xs.length = n ∧ B ≤ g := by
  have hl : xs.length = n := by have := h.1; omega
  rcases h.2 with ⟨e1, _⟩ | ⟨g', cap', cur, e1, hb, hg, h1, h2, h3, h4⟩
  · cases e1
  · simp only [Value.slice.injEq, Option.some.injEq, Addr.mk.injEq, true_and, and_true] at e1
    obtain ⟨rfl, rfl⟩ := e1
    refine ⟨⟨cur, hg, by omega, by omega, ?_⟩, hl, hb⟩
    rw [Nat.mul_one] at h4
    rw [hl]; exact h4
theorem XR.lit {w : World} {e : TypeId} {g : Nat} {cs : Array Value} (h : w.heap[g]? = some (.cells cs e (0, 0))) (hl : cs.size ≤ 1000000) : XR w e g cs.size cs.toList := ⟨cs, h, rfl, by simp, List.take_of_length_le (by simp)⟩
/-- .. as a thing. -/
def xOb (e : TypeId) (g cap : Nat) (xs : List Value) : Ob := ⟨[g], fun w => XR w e g cap xs⟩
theorem xOb_stays (e : TypeId) (g cap : Nat) (xs : List Value) : (xOb e g cap xs).Stays := fun W W' h hP => XR.of_block (w := W) hP (h g (by simp [xOb])).2
theorem Obs.turnX {w0 w w' : World} {os : List Ob} (h : Obs w0 w os) (i : Nat) {e : TypeId} {g cap : Nat} {xs ys : List Value} (hi : os[i]? = some (xOb e g cap xs)) (hP : XR w' e g cap ys) (hk : Kp [g] w w') : Obs w0 w' (os.set i (xOb e g cap ys)) :=
  h.turn i hi (xOb e g cap ys) hP (xOb_stays _ _ _ _) hk (fun b hb => ⟨.inl hb, by simp [xOb] at hb; rw [hb]; exact hP.lt⟩)
/-- A cell of a row is written. -/
theorem Obs.setX {w0 w : World} {os : List Ob} (h : Obs w0 w os) (i : Nat) {e : TypeId} {g cap : Nat} {xs : List Value} (hi : os[i]? = some (xOb e g cap xs)) {j : Nat} (hj : j < xs.length) (v : Value) : Obs w0 (w.setCell ⟨g, j, none⟩ v) (os.set i (xOb e g cap (xs.set j v))) :=
  h.turnX i hi ((h.get hi : XR w e g cap xs).set hj v) ((Kp.refl _ _).setCell (by simp) _)
/-- Another row takes the place of one. -/
theorem Obs.swapX {w0 w w' : World} {os : List Ob} (h : Obs w0 w os) (i : Nat) {e : TypeId} {g cap : Nat} {xs : List Value} (hi : os[i]? = some (xOb e g cap xs)) {g' cap' : Nat} {ys : List Value} (hP : XR w' e g' cap' ys) (hb : Below w.heap.size w w') (hg : w.heap.size ≤ g') : Obs w0 w' (os.set i (xOb e g' cap' ys)) :=
  h.turn i hi (xOb e g' cap' ys) hP (xOb_stays _ _ _ _) (Kp.of_below hb _) (fun b hb' => by simp [xOb] at hb'; rw [hb']; exact ⟨.inr hg, hP.lt⟩)
theorem Obs.addX {w0 w w' : World} {os : List Ob} (h : Obs w0 w os) {e : TypeId} {g' cap' : Nat} {ys : List Value} (hP : XR w' e g' cap' ys) (hb : Below w.heap.size w w') (hg : w.heap.size ≤ g') : Obs w0 w' (os ++ [xOb e g' cap' ys]) :=
  h.add _ hP (xOb_stays _ _ _ _) hb (fun b hb' => by simp [xOb] at hb'; rw [hb']; exact ⟨hg, hP.lt⟩)

section
variable {t e : TypeId} {z : Value} {by_ : Nat} (ht : Tryz.prog.underlying t = some (.slice e)) (hinfo : (Tryz.prog.info? e).map (fun i => (i.zero, i.size, i.bytes)) = some (some z, 1, by_)) (hz : z.cells.size = 1) (hby : by_ ≤ 1000)
include ht hinfo hz hby
/-- 'append([]T{}, xs...)': W is the world in which the empty literal lies at its end. -/
theorem run_fresh (w : World) {A : Option Addr} {m c : Nat} {xs : List Value} (hm : m = xs.length) (hp : 0 < m) (hml : m ≤ 1000000) (hsrc : ∃ ad, A = some ad ∧ ∀ j u, xs[j]? = some u → (w.alloc (.cells #[] e)).cell? (ad.add j) = some u) (h1 : ∀ u ∈ xs, u.oneCell' = true) :
    ∃ g cap w', (Builtin.append_ #[t, t] t #[.slice (some ⟨w.heap.size, 0, none⟩) 0 0, .slice A m c]).run Tryz.prog (w.alloc (.cells #[] e)) = .ok (.slice (some ⟨g, 0, none⟩) m cap) w' ∧ XR w' e g cap xs ∧ Below w.heap.size w w' ∧ w.heap.size ≤ g := by
  obtain ⟨i, hi, hz0, hz1, hz2⟩ := info_parts hinfo
  obtain ⟨ad, rfl, hc⟩ := hsrc
  have hown : (w.alloc (.cells #[] e)).ownsRow w.heap.size e 1 (.slice (some ⟨w.heap.size, 0, none⟩) 0 0) 0 [] := ⟨by simp, .inr ⟨w.heap.size, 0, #[], rfl, Nat.le_refl _, heap_alloc_new w _, Nat.le_refl _, by decide, rfl, by simp⟩⟩
  have hmm : m * by_ ≤ 1000000 * 1000 := Nat.mul_le_mul hml hby
  obtain ⟨g, cap, w', hr, h2, h3, h4, h5⟩ := run_append_lies (P := Tryz.prog) (w.alloc (.cells #[] e)) t t w.heap.size e i z 1 by_ ht hi hz0 hz1 hz2 hz (by decide) _ 0 [] hown ad m c xs (by omega) hc h1 hp (by unfold maxLen; omega) (by rw [Nat.zero_add]; omega) (by simp) _ rfl
  rw [Nat.zero_add] at hr h2
  rw [List.nil_append] at h2
  obtain ⟨hX, _, hge⟩ := XR.of_owns h2
  refine ⟨g, cap, w', hr, hX, ?_, hge⟩
  refine ((Below.refl _ w).alloc (Nat.le_refl _) _).grown h3 (by simp) (fun k e => ?_)
  simp [Value.ownBlock] at e
  omega
end
end Go.Proofs.YthfnncahmccgkaaGreatDoor
