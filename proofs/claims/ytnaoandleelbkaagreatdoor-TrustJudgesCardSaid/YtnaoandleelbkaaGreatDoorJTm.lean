/-
  The law's own large, told; the reference's Same of texts.
  The law's certificates, as the reference's.
-/
import Derived.Test.YtnaoandleelbkaaGreatDoorJWm
namespace Go.Proofs.YtnaoandleelbkaaGreatDoor
set_option linter.unusedSimpArgs false
set_option linter.unusedVariables false
open Go Go.RowKit
set_option maxRecDepth 100000

/-- Not large. -/
def fewC (c : Ct) : Prop := c.key.length ≤ 6000 ∧ c.sig.length ≤ 6000 ∧ c.names.length ≤ 1200 ∧ ∀ x ∈ c.names, x.length ≤ 6000
theorem fewC.short {c : Ct} (h : fewC c) : shortC c := ⟨Nat.le_trans h.1 (by decide), Nat.le_trans h.2.1 (by decide), Nat.le_trans h.2.2.1 (by decide), fun x hx => Nat.le_trans (h.2.2.2 x hx) (by decide)⟩
def fewR (l : List Ct) : Prop := l.length ≤ 60 ∧ ∀ k, k < l.length → fewC (ctAt l k)
theorem fewR.short {l : List Ct} (h : fewR l) : shortR l := ⟨Nat.le_trans h.1 (by decide), fun c hc => by
  obtain ⟨i, hi, rfl⟩ := List.getElem_of_mem hc
  have := (h.2 i hi).short
  unfold ctAt at this
  rw [List.getD_eq_getElem?_getD, List.getElem?_eq_getElem hi] at this
  exact this⟩
end Go.Proofs.YtnaoandleelbkaaGreatDoor

namespace Go.Proofs.YtnaoandleelbkaaGreatDoor
set_option linter.unusedSimpArgs false
set_option linter.unusedVariables false
open Go Go.RowKit
set_option maxRecDepth 100000

def cellsQ (c : Ct) (v : Value) : Obj := .cells #[sv c.key, sv c.sig, v, .int .i64 c.fr, .int .i64 c.un, .bool c.ca] 39
/-- A row of the call's own that holds these. -/
def CQ (base : Nat) (W : World) (v : Value) (ps : List Cn) : Prop := W.ownsRow base 39 6 v ps.length (flatC ps)
theorem CQ.nil (base : Nat) (W : World) : CQ base W (.slice none 0 0) [] := World.ownsRow_nil _ _ _ _
theorem CQ.form {base : Nat} {W : World} {v : Value} {ps : List Cn} (h : CQ base W v ps) : ∃ A c, v = .slice A ps.length c ∧ ps.length ≤ c := by
  rcases h.2 with ⟨rfl, h0⟩ | ⟨g, cap, cur, rfl, _, hgg, h1, h2, h3, h4⟩
  · exact ⟨none, 0, by rw [h0], by omega⟩
  · exact ⟨_, _, rfl, by omega⟩
theorem CQ.lt {base g : Nat} {W : World} {v : Value} {ps : List Cn} (h : CQ base W v ps) (hg : v.ownBlock = some g) : base ≤ g ∧ g < W.heap.size := World.ownsRow.lt h g hg
theorem CQ.old {base : Nat} {w w' : World} {row : Option Nat} {v : Value} {ps : List Cn} (h : CQ base w v ps) (hk : w.grownBy w' row) (hs : ∀ g, v.ownBlock = some g → some g ≠ row) : CQ base w' v ps := by
  refine World.ownsRow.kept h hk ?_
  rcases h' : v.ownBlock with _ | g
  · exact .inl rfl
  · exact .inr (hs g h')
theorem CQ.below {base : Nat} {w w' : World} {v : Value} {ps : List Cn} (h : CQ base w v ps) (hb : Below w.heap.size w w') : CQ base w' v ps :=
  h.old (row := none) ⟨hb.os, hb.tape, hb.output, hb.size, fun k hk _ => hb.block k hk⟩ (fun g _ => by simp)
theorem CQ.cr {base : Nat} {W : World} {v : Value} {ps : List Cn} (h : CQ base W v ps) (hn : ∀ x ∈ ps, SX W (nvC x) x.1.names) : ∃ A c, v = .slice A ps.length c ∧ ps.length ≤ c ∧ CR W A (ps.map (·.1)) (nvOf ps) := by
  obtain ⟨A, c, e, hc⟩ := h.form
  refine ⟨A, c, e, hc, fun hp => ?_⟩
  rw [List.length_map] at hp
  rcases h.2 with ⟨e2, h0⟩ | ⟨g, cap, cur, e2, _, hb, _, _, _, ht⟩
  · omega
  · rw [e] at e2
    simp only [Value.slice.injEq] at e2
    refine ⟨g, 0, e2.1, (Array.getElem?_eq_some_iff.1 hb).1, fun j hj => ?_⟩
    rw [List.length_map] at hj
    have hcell : ∀ k, k < ps.length * 6 → W.cell? ⟨g, k, none⟩ = (flatC ps)[k]? := by
      intro k hk
      rw [cell_of_row W g k cur _ _ hb, ← ht, List.getElem?_take_of_lt hk]
      simp
    obtain ⟨h1, h2, h3, h4, h5, h6⟩ := flatC_at ps j hj
    have hat : ctAt (ps.map (·.1)) j = (ps.getD j cn0).1 := by
      unfold ctAt
      rw [List.getD_eq_getElem?_getD, List.getD_eq_getElem?_getD, List.getElem?_map, List.getElem?_eq_getElem hj]; rfl
    rw [hat, Nat.zero_add]
    refine ⟨⟨(hcell _ (by omega)).trans h1, (hcell _ (by omega)).trans h2, (hcell _ (by omega)).trans h3, (hcell _ (by omega)).trans h4, (hcell _ (by omega)).trans h5, (hcell _ (by omega)).trans h6⟩, ?_⟩
    refine hn (ps.getD j cn0) ?_
    rw [List.getD_eq_getElem?_getD, List.getElem?_eq_getElem hj]
    exact List.getElem_mem hj
theorem info_cert14 : (Tryz.prog.info? 39).map (fun i => (i.zero, i.size, i.bytes)) = some (some (.agg #[.string ⟨#[]⟩, .string ⟨#[]⟩, .slice none 0 0, .int .i64 0, .int .i64 0, .bool false]), 6, 80) := by kernel_rfl
/-- An append of one certificate. -/
theorem cq_append {base : Nat} {W : World} {v : Value} {ps : List Cn} (h : CQ base W v ps) (hbase : base ≤ W.heap.size) (hlen : ps.length ≤ 1000000) (x : Cn) :
    ∃ g cap w2, (Builtin.append_ #[58, 58] 58 #[v, .slice (some ⟨W.heap.size, 0, none⟩) 1 1]).run Tryz.prog (W.alloc (cellsQ x.1 (nvC x))) = .ok (.slice (some ⟨g, 0, none⟩) (ps.length + 1) cap) w2 ∧
      CQ base w2 (.slice (some ⟨g, 0, none⟩) (ps.length + 1) cap) (ps ++ [x]) ∧ (W.alloc (cellsQ x.1 (nvC x))).grownBy w2 v.ownBlock ∧ (v.ownBlock = some g ∨ g = W.heap.size + 1) := by
  obtain ⟨i, hi, hz0, hz1, hz2⟩ := info_parts info_cert14
  have hown : (W.alloc (cellsQ x.1 (nvC x))).ownsRow base 39 6 v ps.length (flatC ps) := h.below (below_alloc _ _)
  obtain ⟨v', w2, hrun, hown2, hgrow, hnil, hor⟩ := run_append_own_at (P := Tryz.prog) (W.alloc (cellsQ x.1 (nvC x))) base 58 58 39 i _ 6 80 Tryz.underlying58 hi hz0 hz1 hz2 rfl (by decide) v ps.length (flatC ps) hown
    ⟨W.heap.size, 0, none⟩ 1 1 [sv x.1.key, sv x.1.sig, nvC x, .int .i64 x.1.fr, .int .i64 x.1.un, .bool x.1.ca] rfl (World.news_of_block (heap_alloc_new W _)) (by simp [Value.oneCell', nvC]) (by unfold maxLen; omega) (by omega) (by simp; omega)
  have hown3 : CQ base w2 v' (ps ++ [x]) := by
    unfold CQ
    rw [List.length_append, ← flatC_app]
    exact hown2
  rcases hown2.2 with ⟨_, h0⟩ | ⟨g, cap, cur, rfl, hbg, hgb, _⟩
  · omega
  · refine ⟨g, cap, w2, hrun, hown3, hgrow, ?_⟩
    rcases hor with e | e
    · exact .inl (by rw [← e]; rfl)
    · refine .inr ?_
      simp only [Value.ownBlock, Option.some.injEq] at e
      rw [e, World.size_alloc]

theorem take_ct {l : List Ct} {k : Nat} (h : k < l.length) : l.take (k + 1) = l.take k ++ [ctAt l k] := by
  rw [List.take_succ_eq_append_getElem h]
  unfold ctAt
  rw [List.getD_eq_getElem?_getD, List.getElem?_eq_getElem h]; rfl
/-- One more. -/
theorem cq_step {w wr : World} {v : Value} {ps : List Cn} (hco : CQ w.heap.size wr v ps) (hb : Below w.heap.size w wr) (hl : ps.length ≤ 1000000) (x : Cn) :
    ∃ g cap w2, (Builtin.append_ #[58, 58] 58 #[v, .slice (some ⟨wr.heap.size, 0, none⟩) 1 1]).run Tryz.prog (wr.alloc (cellsQ x.1 (nvC x))) = .ok (.slice (some ⟨g, 0, none⟩) (ps.length + 1) cap) w2 ∧
      CQ w.heap.size w2 (.slice (some ⟨g, 0, none⟩) (ps.length + 1) cap) (ps ++ [x]) ∧ Below w.heap.size w w2 := by
  obtain ⟨g, cap, w2, h1, h2, h3, h4⟩ := cq_append hco hb.size hl x
  have h3' : wr.grownBy w2 v.ownBlock := ⟨h3.os, h3.tape, h3.output, Nat.le_trans (by simp) h3.size, fun k hk hne => (h3.block k (by simp; omega) hne).trans (Below.heap_alloc _ _ _ hk)⟩
  exact ⟨g, cap, w2, h1, h2, Below.grown hb h3' hb.size fun j hj => (hco.lt hj).1⟩
end Go.Proofs.YtnaoandleelbkaaGreatDoor
