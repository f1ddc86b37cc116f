/-
  Rows of parameters of a call's own: what they hold, an append of one.
-/
import Derived.Maps.AppendAt
import Derived.OwnWalk
import Derived.Test.YtbmjmiioobgbfaaGreatDoorNMay
import Derived.Test.YtbmjmiioobgbfaaGreatDoorKW
namespace Go.Proofs.YtbmjmiioobgbfaaGreatDoor
open Go Go.RowKit
set_option maxRecDepth 100000
set_option linter.unusedSimpArgs false
set_option linter.unusedVariables false

/-- The cells of a row of parameters. -/
def flatP : List PM → List Value
  | [] => []
  | r :: rs => sv r.1 :: sv r.2 :: flatP rs
theorem flatp_len : ∀ rs : List PM, (flatP rs).length = rs.length * 2
  | [] => rfl
  | r :: rs => by simp only [flatP, List.length_cons, flatp_len rs]; omega
theorem flatp_app : ∀ (rs : List PM) (r : PM), flatP rs ++ [sv r.1, sv r.2] = flatP (rs ++ [r])
  | [], r => rfl
  | a :: rs, r => by simp only [flatP, List.cons_append, flatp_app rs r]
theorem flatp_at : ∀ (rs : List PM) (j : Nat), j < rs.length → (flatP rs)[j * 2]? = some (sv (rs.getD j pm0).1) ∧ (flatP rs)[j * 2 + 1]? = some (sv (rs.getD j pm0).2)
  | r :: rs, 0, _ => ⟨rfl, rfl⟩
  | r :: rs, j + 1, h => by
    have := flatp_at rs j (by simpa using h)
    rw [show (j + 1) * 2 = j * 2 + 1 + 1 by omega]
    exact this
theorem flatp_one (rs : List PM) : ∀ u ∈ flatP rs, u.oneCell' = true := by
  induction rs with
  | nil => intro u h; cases h
  | cons r rs ih =>
    intro u h
    simp only [flatP, List.mem_cons] at h
    rcases h with rfl | rfl | h
    · rfl
    · rfl
    · exact ih u h
/-- A row of the call's own that holds these. -/
def PO (e : TypeId) (base : Nat) (W : World) (v : Value) (ps : List PM) : Prop := W.ownsRow base e 2 v ps.length (flatP ps)
theorem PO.nil (e : TypeId) (base : Nat) (W : World) : PO e base W (.slice none 0 0) [] := World.ownsRow_nil _ _ _ _
theorem PO.form {e : TypeId} {base : Nat} {W : World} {v : Value} {ps : List PM} (h : PO e base W v ps) : ∃ A c, v = .slice A ps.length c := by
  rcases h.2 with ⟨rfl, h0⟩ | ⟨g, cap, cur, rfl, _⟩
  · exact ⟨none, 0, by rw [h0]⟩
  · exact ⟨_, _, rfl⟩
theorem PO.lt {e : TypeId} {base g : Nat} {W : World} {v : Value} {ps : List PM} (h : PO e base W v ps) (hg : v.ownBlock = some g) : base ≤ g ∧ g < W.heap.size := World.ownsRow.lt h g hg
theorem PO.pr {e : TypeId} {base : Nat} {W : World} {v : Value} {ps : List PM} (h : PO e base W v ps) : PR W v ps := by
  obtain ⟨_, h⟩ := h
  rcases h with ⟨rfl, h0⟩ | ⟨g, cap, cur, rfl, _, hb, _, _, _, ht⟩
  · have : ps = [] := List.length_eq_zero_iff.1 h0
    subst this
    exact PR.nil _ _ _
  · refine ⟨_, _, rfl, fun hp => ?_⟩
    refine ⟨g, 0, rfl, (Array.getElem?_eq_some_iff.1 hb).1, fun j hj => ?_⟩
    have hc : ∀ k, k < ps.length * 2 → W.cell? ⟨g, k, none⟩ = (flatP ps)[k]? := by
      intro k hk
      rw [cell_of_row W g k cur _ _ hb, ← ht, List.getElem?_take_of_lt hk]
      simp
    obtain ⟨h1, h2⟩ := flatp_at ps j hj
    rw [Nat.zero_add, hc _ (by omega), hc _ (by omega)]
    exact ⟨h1, h2⟩
theorem PO.old {e : TypeId} {base : Nat} {w w' : World} {row : Option Nat} {v : Value} {ps : List PM} (h : PO e base w v ps) (hk : w.grownBy w' row) (hs : ∀ g, v.ownBlock = some g → some g ≠ row) : PO e base w' v ps := by
  refine World.ownsRow.kept h hk ?_
  rcases h' : v.ownBlock with _ | g
  · exact .inl rfl
  · exact .inr (hs g h')
theorem PO.below {e : TypeId} {base : Nat} {w w' : World} {v : Value} {ps : List PM} (h : PO e base w v ps) (hb : Below w.heap.size w w') : PO e base w' v ps :=
  h.old (row := none) ⟨hb.os, hb.tape, hb.output, hb.size, fun k hk _ => hb.block k hk⟩ (fun g _ => by simp)
theorem PO.lower {e : TypeId} {base base' : Nat} {w : World} {v : Value} {ps : List PM} (h : PO e base w v ps) (hb : base' ≤ base) : PO e base' w v ps := by
  refine ⟨h.1, ?_⟩
  rcases h.2 with h | ⟨g, cap, cur, h1, h2, h3⟩
  · exact .inl h
  · exact .inr ⟨g, cap, cur, h1, by omega, h3⟩
theorem grownBy_cell (W : World) (b i : Nat) (v : Value) : W.grownBy (W.setCell ⟨b, i, none⟩ v) (some b) :=
  ⟨rfl, rfl, rfl, by simp [World.setCell], fun k _ hk => Below.heap_setCell _ _ _ k (fun e => hk (by rw [e]))⟩
theorem PO.set {e : TypeId} {base : Nat} {w : World} {v : Value} {ps : List PM} (h : PO e base w v ps) {b i : Nat} (hp : ∀ g, v.ownBlock = some g → g ≠ b) (u : Value) : PO e base (w.setCell ⟨b, i, none⟩ u) v ps :=
  h.old (row := some b) (grownBy_cell w b i u) (fun g e => fun h => hp g e (by injection h))

/-- An append of one parameter. -/
theorem po_append {t e : TypeId} {bytes : Nat} (ht : Tryz.prog.underlying t = some (.slice e)) (hi0 : (Tryz.prog.info? e).map (fun i => (i.zero, i.size, i.bytes)) = some (some (.agg #[.string ⟨#[]⟩, .string ⟨#[]⟩]), 2, bytes)) (hb : bytes ≤ 64)
    {base : Nat} {W : World} {v : Value} {ps : List PM} (h : PO e base W v ps) (hbase : base ≤ W.heap.size) (hlen : ps.length ≤ 1000000) (n x : List UInt8) :
    ∃ g cap w2, (Builtin.append_ #[t, t] t #[v, .slice (some ⟨W.heap.size, 0, none⟩) 1 1]).run Tryz.prog (W.alloc (.cells #[sv n, sv x] e)) = .ok (.slice (some ⟨g, 0, none⟩) (ps.length + 1) cap) w2 ∧
      PO e base w2 (.slice (some ⟨g, 0, none⟩) (ps.length + 1) cap) (ps ++ [(n, x)]) ∧ (W.alloc (.cells #[sv n, sv x] e)).grownBy w2 v.ownBlock ∧ (v.ownBlock = some g ∨ g = W.heap.size + 1) := by
  obtain ⟨i, hi, hz0, hz1, hz2⟩ := info_parts hi0
  have hown : (W.alloc (.cells #[sv n, sv x] e)).ownsRow base e 2 v ps.length (flatP ps) := h.below (below_alloc _ _)
  have hk : (ps.length + 1) * bytes ≤ 1000001 * 64 := Nat.mul_le_mul (by omega) hb
  obtain ⟨v', w2, hrun, hown2, hgrow, hnil, hor⟩ := run_append_own_at (P := Tryz.prog) (W.alloc (.cells #[sv n, sv x] e)) base t t e i _ 2 bytes ht hi hz0 hz1 hz2 rfl (by decide) v ps.length (flatP ps) hown
    ⟨W.heap.size, 0, none⟩ 1 1 [sv n, sv x] rfl (World.news_of_block (heap_alloc_new W _)) (by simp [Value.oneCell']) (by unfold maxLen; omega) (by omega) (by simp; omega)
  have hown3 : PO e base w2 v' (ps ++ [(n, x)]) := by
    unfold PO
    rw [List.length_append, ← flatp_app]
    exact hown2
  rcases hown2.2 with ⟨_, h0⟩ | ⟨g, cap, cur, rfl, hbg, hgb, _⟩
  · omega
  · refine ⟨g, cap, w2, hrun, hown3, hgrow, ?_⟩
    rcases hor with e | e
    · exact .inl (by rw [← e]; rfl)
    · refine .inr ?_
      simp only [Value.ownBlock, Option.some.injEq] at e
      rw [e, World.size_alloc]
theorem info_param : (Tryz.prog.info? 38).map (fun i => (i.zero, i.size, i.bytes)) = some (some (.agg #[.string ⟨#[]⟩, .string ⟨#[]⟩]), 2, 32) := by kernel_rfl
theorem info_rparam : (Tryz.prog.info? 95).map (fun i => (i.zero, i.size, i.bytes)) = some (some (.agg #[.string ⟨#[]⟩, .string ⟨#[]⟩]), 2, 32) := by kernel_rfl
end Go.Proofs.YtbmjmiioobgbfaaGreatDoor
