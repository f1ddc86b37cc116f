/-
  A row of recipients made by two appends; what lies there still meanwhile.
-/
import Derived.Deep.AppendLies
import Derived.OwnWalk
import Derived.Test.YtbmjmiioobgbfaaGreatDoorALess0
namespace Go.Proofs.YtbmjmiioobgbfaaGreatDoor
open Go Go.RowKit
set_option maxRecDepth 100000

/-- The cells of a row of recipients. -/
def flatR : List RC → List Value
  | [] => []
  | r :: rs => sv r.1 :: .bool r.2 :: flatR rs
theorem flat_len : ∀ rs : List RC, (flatR rs).length = rs.length * 2
  | [] => rfl
  | r :: rs => by simp only [flatR, List.length_cons, flat_len rs]; omega
theorem flat_app : ∀ (rs : List RC) (r : RC), flatR rs ++ [sv r.1, .bool r.2] = flatR (rs ++ [r])
  | [], r => rfl
  | a :: rs, r => by simp only [flatR, List.cons_append, flat_app rs r]
theorem flat_at : ∀ (rs : List RC) (j : Nat), j < rs.length → (flatR rs)[j * 2]? = some (sv (rs.getD j rc0).1) ∧ (flatR rs)[j * 2 + 1]? = some (.bool (rs.getD j rc0).2)
  | r :: rs, 0, _ => ⟨rfl, rfl⟩
  | r :: rs, j + 1, h => by
    have := flat_at rs j (by simpa using h)
    rw [show (j + 1) * 2 = j * 2 + 1 + 1 by omega]
    exact this
theorem flat_one (rs : List RC) : ∀ u ∈ flatR rs, u.oneCell' = true := by
  induction rs with
  | nil => intro u h; cases h
  | cons r rs ih =>
    intro u h
    simp only [flatR, List.mem_cons] at h
    rcases h with rfl | rfl | h
    · rfl
    · rfl
    · exact ih u h
theorem flat_news {W : World} {g off : Nat} {rs : List RC} (h : ∀ j, j < rs.length → W.cell? ⟨g, off + j * 2, none⟩ = some (sv (rs.getD j rc0).1) ∧ W.cell? ⟨g, off + j * 2 + 1, none⟩ = some (.bool (rs.getD j rc0).2)) :
    ∀ j u, (flatR rs)[j]? = some u → W.cell? ((⟨g, off, none⟩ : Addr).add j) = some u := by
  intro j u hu
  have hadd : (⟨g, off, none⟩ : Addr).add j = ⟨g, off + j, none⟩ := by unfold Addr.add; split <;> simp_all
  have hj : j < rs.length * 2 := by
    rw [← flat_len rs]
    rcases Nat.lt_or_ge j (flatR rs).length with h1 | h1
    · exact h1
    · rw [List.getElem?_eq_none h1] at hu; cases hu
  rw [hadd]
  obtain ⟨h1, h2⟩ := flat_at rs (j / 2) (by omega)
  obtain ⟨h3, h4⟩ := h (j / 2) (by omega)
  rcases Nat.mod_two_eq_zero_or_one j with e | e
  · have ej : j / 2 * 2 = j := by omega
    rw [ej] at h1 h3
    rw [h3, ← h1, hu]
  · have ej : j / 2 * 2 + 1 = j := by omega
    rw [Nat.add_assoc, ej] at h4
    rw [ej] at h2
    rw [h4, ← h2, hu]
theorem rcs_owned {W : World} {base g n cap : Nat} {rs : List RC} (hn : n = rs.length) (h : W.ownsRow base 31 2 (.slice (some ⟨g, 0, none⟩) n cap) n (flatR rs)) : RcIs W (.slice (some ⟨g, 0, none⟩) n cap) rs := by
  subst hn
  obtain ⟨_, h⟩ := h
  refine ⟨_, _, rfl, fun hp => ?_⟩
  rcases h with ⟨h, _⟩ | ⟨g', cap', cur, e, _, hb, _, _, _, ht⟩
  · cases h
  · simp only [Value.slice.injEq, Option.some.injEq, Addr.mk.injEq, true_and, and_true] at e
    obtain ⟨rfl, rfl⟩ := e
    refine ⟨g, 0, rfl, (Array.getElem?_eq_some_iff.1 hb).1, fun j hj => ?_⟩
    have hc : ∀ k, k < rs.length * 2 → W.cell? ⟨g, k, none⟩ = (flatR rs)[k]? := by
      intro k hk
      rw [cell_of_row W g k cur _ _ hb, ← ht, List.getElem?_take_of_lt hk]
      simp
    obtain ⟨h1, h2⟩ := flat_at rs j hj
    rw [Nat.zero_add, hc _ (by omega), hc _ (by omega)]
    exact ⟨h1, h2⟩
theorem owns_empty {W : World} {base g : Nat} (hg : W.heap[g]? = some (.cells #[] 31 (0, 0))) (hb : base ≤ g) : W.ownsRow base 31 2 (.slice (some ⟨g, 0, none⟩) 0 0) 0 [] :=
  ⟨by simp, .inr ⟨g, 0, #[], rfl, hb, hg, Nat.le_refl _, by decide, rfl, by simp⟩⟩
theorem info_rcpt : (Tryz.prog.info? 31).map (fun i => (i.zero, i.size, i.bytes)) = some (some (.agg #[.string ⟨#[]⟩, .bool false]), 2, 24) := by kernel_rfl

/-- Two mails' boxes lie there still. -/
def TS (w : World) (cs : Array Value) (gt : Nat) (ct : Array Value) (W : World) : Prop := MB w cs W ∧ W.heap[gt]? = some (.cells ct 24 (0, 0)) ∧ w.heap.size < gt
theorem TS.step {w W W' : World} {cs ct : Array Value} {gt : Nat} (h : TS w cs gt ct W) (hb : Below W.heap.size W W') : TS w cs gt ct W' :=
  ⟨⟨h.1.1.step hb, (hb.block _ (lt_of_blk h.1.2)).trans h.1.2⟩, (hb.block _ (lt_of_blk h.2.1)).trans h.2.1, h.2.2⟩
theorem TS.alloc {w W : World} {cs ct : Array Value} {gt : Nat} (h : TS w cs gt ct W) (o : Obj) : TS w cs gt ct (W.alloc o) := h.step ((Below.refl _ _).alloc (Nat.le_refl _) _)
theorem TS.drew {w W : World} {cs ct : Array Value} {gt : Nat} (h : TS w cs gt ct W) : TS w cs gt ct W.drew := ⟨⟨h.1.1.drew, h.1.2⟩, h.2.1, h.2.2⟩
theorem TS.grown {w W W' : World} {cs ct : Array Value} {gt g : Nat} (h : TS w cs gt ct W) (hM : ML w) (hg : W.grownBy W' (some g)) (hlt : gt < g) : TS w cs gt ct W' := by
  have hs := lt_of_blk h.2.1
  have hb := h.1.1.1.grown hg h.1.1.1.size (fun k e => by injection e with e; have := h.2.2; omega)
  exact ⟨⟨⟨hb, hM.step hb⟩, (hg.block _ (lt_of_blk h.1.2) (fun e => by injection e with e; have := h.2.2; omega)).trans h.1.2⟩, (hg.block _ hs (fun e => by injection e with e; omega)).trans h.2.1, h.2.2⟩
theorem TS.set {w W : World} {f en tx : List UInt8} {q : Bool} {v v' : Value} {cs : Array Value} {gt : Nat} (h : TS w cs gt (mailCells f v q en tx) W) (hM : ML w) : TS w cs gt (mailCells f v' q en tx) (W.setCell ⟨gt, 1, none⟩ v') := by
  obtain ⟨⟨h1, h2⟩, h3, h4⟩ := h
  refine ⟨⟨h1.set hM (by omega) _, by rw [heap_set_ne _ (by omega)]; exact h2⟩, ?_, h4⟩
  simp [World.setCell, Array.getElem?_modify, h3, mailCells]
theorem TS.all {w W : World} {f en tx : List UInt8} {q : Bool} {v : Value} {cs : Array Value} {gt : Nat} (h : TS w cs gt (mailCells f v q en tx) W) :
    W.cell? ⟨gt, 0, none⟩ = some (sv f) ∧ W.cell? ⟨gt, 1, none⟩ = some v ∧ W.cell? ⟨gt, 2, none⟩ = some (.bool q) ∧ W.cell? ⟨gt, 3, none⟩ = some (sv en) ∧ W.cell? ⟨gt, 4, none⟩ = some (sv tx) ∧ W.frozen? ⟨gt, 1, none⟩ = false := by
  refine ⟨?_, ?_, ?_, ?_, ?_, freeAt h.2.1 1⟩ <;> (rw [cellAt h.2.1]; rfl)
/-- The same, whatever recipients the second names. -/
def TY (w : World) (cs : Array Value) (gt : Nat) (f en tx : List UInt8) (q : Bool) (W : World) : Prop := ∃ v, TS w cs gt (mailCells f v q en tx) W
theorem TY.of {w W : World} {cs : Array Value} {gt : Nat} {f en tx : List UInt8} {q : Bool} {v : Value} (h : TS w cs gt (mailCells f v q en tx) W) : TY w cs gt f en tx q W := ⟨v, h⟩
theorem heap_at_alloc (W : World) (o : Obj) (k : Nat) : (W.alloc o).heap[k]? = if k = W.heap.size then some o else W.heap[k]? := by
  show (W.heap.push o)[k]? = _
  rw [Array.getElem?_push]
theorem heap_drew (W : World) : W.drew.heap = W.heap := rfl
theorem RcIs.drew {W : World} {v : Value} {rs : List RC} (h : RcIs W v rs) : RcIs W.drew v rs := h.step (Below.refl _ _).drew
theorem RcIs.other {W : World} {g off n c gt k : Nat} {u : Value} {rs : List RC} (hne : gt ≠ g) (h : RcIs W (.slice (some ⟨g, off, none⟩) n c) rs) : RcIs (W.setCell ⟨gt, k, none⟩ u) (.slice (some ⟨g, off, none⟩) n c) rs := by
  obtain ⟨A, c', e, h⟩ := h
  refine ⟨A, c', e, fun hp => ?_⟩
  obtain ⟨g', off', rfl, hl, hc⟩ := h hp
  simp only [Value.slice.injEq, Option.some.injEq, Addr.mk.injEq, and_true] at e
  obtain ⟨⟨rfl, rfl⟩, _, _⟩ := e
  refine ⟨g, off, rfl, by simpa [World.setCell] using hl, fun j hj => ?_⟩
  rw [World.cell?_setCell_other _ _ _ _ (by intro e; injection e; omega), World.cell?_setCell_other _ _ _ _ (by intro e; injection e; omega)]
  exact hc j hj
theorem grow_block {W W' : World} {row : Option Nat} {b : Nat} {o : Obj} (hg : W.grownBy W' row) (h : W.heap[b]? = some o) (hne : some b ≠ row) : W'.heap[b]? = some o :=
  (hg.block b (by
    rcases Nat.lt_or_ge b W.heap.size with h1 | h1
    · exact h1
    · rw [Array.getElem?_eq_none h1] at h; cases h) hne).trans h
theorem tos_app (rs : List RC) (r : RC) : tosL (rs ++ [r]) = tosL rs ++ [r.1] := by unfold tosL; rw [List.map_append]; rfl
end Go.Proofs.YtbmjmiioobgbfaaGreatDoor
