/-
  What the walks share, with rows of parameters; a line of the same letters, read.
-/
import Derived.Test.YtbmjmiioobgbfaaGreatDoorKWalk
import Derived.Test.YtbmjmiioobgbfaaGreatDoorKLaw4
namespace Go.Proofs.YtbmjmiioobgbfaaGreatDoor
open Go Go.RowKit Go.Shelf
set_option maxRecDepth 100000
set_option linter.unusedSimpArgs false
set_option linter.unusedVariables false

/-- Behind w, with new memory alone; these commands, these rows lie where they lay. -/
structure KR (w : World) (L : List (Nat × Array Value)) (R : List (Value × List PM)) (W : World) : Prop where
  bl : Below w.heap.size w W
  lw : LW W
  blk : ∀ p ∈ L, W.heap[p.1]? = some (.cells p.2 41 (0, 0))
  row : ∀ p ∈ R, PR W p.1 p.2
theorem KR.start {w : World} (h : LW w) : KR w [] [] w := ⟨Below.refl _ _, h, (fun _ h => by cases h), fun _ h => by cases h⟩
theorem KR.step {w W W' : World} {L : List (Nat × Array Value)} {R : List (Value × List PM)} (h : KR w L R W) (hb : Below W.heap.size W W') : KR w L R W' :=
  ⟨h.bl.trans (hb.mono h.bl.size), h.lw.below hb, (fun p hp => blk_below (h.blk p hp) hb), fun p hp => (h.row p hp).step hb⟩
theorem KR.alloc {w W : World} {L : List (Nat × Array Value)} {R : List (Value × List PM)} (h : KR w L R W) (cs : Array Value) : KR w ((W.heap.size, cs) :: L) R (W.alloc (.cells cs 41)) := by
  have h2 := h.step (below_alloc W (.cells cs 41))
  refine ⟨h2.bl, h2.lw, fun p hp => ?_, h2.row⟩
  rcases List.mem_cons.1 hp with rfl | hp
  · exact heap_alloc_new W _
  · exact h2.blk p hp
theorem KR.add {w W : World} {L : List (Nat × Array Value)} {R : List (Value × List PM)} {v : Value} {ps : List PM} (h : KR w L R W) (hp : PR W v ps) : KR w L ((v, ps) :: R) W :=
  ⟨h.bl, h.lw, h.blk, fun p hm => by
    rcases List.mem_cons.1 hm with rfl | hm
    · exact hp
    · exact h.row p hm⟩
theorem KR.at0 {w W : World} {g : Nat} {x y z : Value} {L : List (Nat × Array Value)} {R : List (Value × List PM)} (h : KR w ((g, #[x, y, z]) :: L) R W) : W.cell? ⟨g, 0, none⟩ = some x ∧ W.cell? ⟨g, 1, none⟩ = some y ∧ W.cell? ⟨g, 2, none⟩ = some z := c3 (h.blk (g, #[x, y, z]) (by simp))
theorem KR.at1 {w W : World} {p : Nat × Array Value} {g : Nat} {x y z : Value} {L : List (Nat × Array Value)} {R : List (Value × List PM)} (h : KR w (p :: (g, #[x, y, z]) :: L) R W) : W.cell? ⟨g, 0, none⟩ = some x ∧ W.cell? ⟨g, 1, none⟩ = some y ∧ W.cell? ⟨g, 2, none⟩ = some z := c3 (h.blk (g, #[x, y, z]) (by simp))
theorem KR.at2 {w W : World} {p q : Nat × Array Value} {g : Nat} {x y z : Value} {L : List (Nat × Array Value)} {R : List (Value × List PM)} (h : KR w (p :: q :: (g, #[x, y, z]) :: L) R W) : W.cell? ⟨g, 0, none⟩ = some x ∧ W.cell? ⟨g, 1, none⟩ = some y ∧ W.cell? ⟨g, 2, none⟩ = some z := c3 (h.blk (g, #[x, y, z]) (by simp))
theorem KR.lt0 {w W : World} {g : Nat} {cs : Array Value} {L : List (Nat × Array Value)} {R : List (Value × List PM)} (h : KR w ((g, cs) :: L) R W) : g < W.heap.size := lt_of_blk (h.blk (g, cs) (by simp))
theorem KR.lt1 {w W : World} {p : Nat × Array Value} {g : Nat} {cs : Array Value} {L : List (Nat × Array Value)} {R : List (Value × List PM)} (h : KR w (p :: (g, cs) :: L) R W) : g < W.heap.size := lt_of_blk (h.blk (g, cs) (by simp))
theorem KR.lt2 {w W : World} {p q : Nat × Array Value} {g : Nat} {cs : Array Value} {L : List (Nat × Array Value)} {R : List (Value × List PM)} (h : KR w (p :: q :: (g, cs) :: L) R W) : g < W.heap.size := lt_of_blk (h.blk (g, cs) (by simp))
theorem KR.row0 {w W : World} {L : List (Nat × Array Value)} {R : List (Value × List PM)} {v : Value} {ps : List PM} (h : KR w L ((v, ps) :: R) W) : PR W v ps := h.row (v, ps) (by simp)
theorem KR.row1 {w W : World} {L : List (Nat × Array Value)} {R : List (Value × List PM)} {v : Value} {ps : List PM} {p : Value × List PM} (h : KR w L (p :: (v, ps) :: R) W) : PR W v ps := h.row (v, ps) (by simp)
theorem KR.row2 {w W : World} {L : List (Nat × Array Value)} {R : List (Value × List PM)} {v : Value} {ps : List PM} {p q : Value × List PM} (h : KR w L (p :: q :: (v, ps) :: R) W) : PR W v ps := h.row (v, ps) (by simp)

theorem parse_sim {c : Cm} {t : List UInt8} (hm : mayK c = true) (hl : (shownK c).length ≤ 510) (h : Sim (shownK c) (hdL c.verb).length t) : parseK t = (c, 0) := by
  obtain ⟨_, h2, h3⟩ := h
  obtain ⟨v1, v6⟩ := may_verb hm
  have e : t = t.take (hdL c.verb).length ++ (argText c ++ psText c.ps) := by
    conv => lhs; rw [← List.take_append_drop (hdL c.verb).length t, h3, shown_form, List.drop_left]
  rw [e]
  refine parse_shown hm hl ?_
  have : gr (t.take (hdL c.verb).length) = (gr t).take (hdL c.verb).length := by unfold gr; rw [List.map_take]
  rw [this, h2, shown_form]
  unfold gr
  rw [List.map_append]
  have hg := hd_great c.verb v1 v6
  unfold gr at hg
  rw [hg, List.take_left]
theorem bounds_u64 {a : Int} (h : (Lit.int .u64 a).wf = true) : 0 ≤ a ∧ a < 18446744073709551616 := by
  simp [Lit.wf, IntKind.min, IntKind.max, IntKind.signed, IntKind.bits] at h
  omega
theorem sm_of_parse {s : List UInt8} (h : s.length ≤ 510) : SM (parseK s).1 := by
  obtain ⟨h1, h2, h3, h4⟩ := parse_small s
  exact ⟨h1, by omega, by omega, fun p hp => by have := h4 p hp; omega⟩
theorem may_any' (c : Cm) (u : Value) (w : World) (hu : PR w u c.ps) (hs : SM c) (hL : LW w) :
    Calls Tryz.prog 21 #[cmV c u] w fun e w' => e = .returned (.bool (mayK c)) ∧ Below w.heap.size w w' := by
  obtain ⟨s1, s2, s3, s4⟩ := hs
  exact mayK_any c u w hu s1 (by omega) (by omega) (fun p hp => by have := s4 p hp; omega) hL.ml
theorem parse_long_err {s : List UInt8} (h : (parseK s).2 = 0) : s.length ≤ 510 := by
  unfold parseK at h
  split at h
  · cases h
  · omega
end Go.Proofs.YtbmjmiioobgbfaaGreatDoor
