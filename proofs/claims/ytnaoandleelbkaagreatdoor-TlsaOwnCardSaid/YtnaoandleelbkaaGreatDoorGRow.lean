/-
  The laid variables, as words of a world; rows of texts: what they hold, an append of one; certificates as values.
-/
import Derived.Maps.AppendAt
import Derived.OwnWalk
import Derived.Test.YtnaoandleelbkaaGreatDoorGPure
import Derived.Test.YtnaoandleelbkaaGreatDoorEWm
import Derived.Test.YtnaoandleelbkaaGreatDoorNIm
import Derived.Test.YtnaoandleelbkaaGreatDoorZBm
namespace Go.Proofs.YtnaoandleelbkaaGreatDoor
open Go Go.RowKit
set_option maxRecDepth 100000
set_option linter.unusedSimpArgs false
set_option linter.unusedVariables false

def tagsZ : List Int := [48, 4, 48, 2, 2, 1]
/-- The laid variables are as their texts lay them. -/
structure GL (w : World) : Prop where
  ml : ML w
  tg : Lib.TabIs Tryz.prog w "mailroom/cert.tags" .u8 tagsZ
theorem gTags : Tryz.prog.globalNamed "mailroom/cert.tags" = some 1 := by kernel_rfl
theorem GL.below {w w' : World} (h : GL w) (hb : Below w.heap.size w w') : GL w' := ⟨h.ml.step hb, tab_below h.tg gTags hb⟩
theorem GL.drew {w : World} (h : GL w) : GL w.drew := h.below (Below.refl _ w).drew
theorem GL.pos {w : World} (h : GL w) : 1 < w.heap.size := tab_lt h.tg gTags
theorem GL.tags {w : World} (h : GL w) : w.cell? ⟨1, 0, none⟩ = some (.int .u8 48) ∧ w.cell? ⟨1, 1, none⟩ = some (.int .u8 4) ∧ w.cell? ⟨1, 2, none⟩ = some (.int .u8 48) ∧ w.cell? ⟨1, 3, none⟩ = some (.int .u8 2) ∧ w.cell? ⟨1, 4, none⟩ = some (.int .u8 2) ∧ w.cell? ⟨1, 5, none⟩ = some (.int .u8 1) :=
  ⟨h.tg.cell gTags 0 (by decide), h.tg.cell gTags 1 (by decide), h.tg.cell gTags 2 (by decide), h.tg.cell gTags 3 (by decide), h.tg.cell gTags 4 (by decide), h.tg.cell gTags 5 (by decide)⟩

/-- Behind w, with the laid variables as they are. -/
def Gb (w W : World) : Prop := Below w.heap.size w W ∧ GL W
theorem Gb.start {w : World} (h : GL w) : Gb w w := ⟨Below.refl _ _, h⟩
theorem Gb.step {w W W' : World} (h : Gb w W) (hb : Below W.heap.size W W') : Gb w W' := ⟨h.1.trans (hb.mono h.1.size), h.2.below hb⟩
theorem Gb.alloc {w W : World} (h : Gb w W) (o : Obj) : Gb w (W.alloc o) := h.step (below_alloc _ _)
theorem Gb.drew {w W : World} (h : Gb w W) : Gb w W.drew := h.step (Below.refl _ W).drew

/-! ### Rows of texts -/
def SX (w : World) (v : Value) (xs : List (List UInt8)) : Prop :=
  ∃ A c, v = .slice A xs.length c ∧ (0 < xs.length → ∃ g off, A = some ⟨g, off, none⟩ ∧ g < w.heap.size ∧ ∀ j, j < xs.length → w.cell? ⟨g, off + j, none⟩ = some (sv (xs.getD j [])))
theorem SX.step {w w' : World} {v : Value} {xs : List (List UInt8)} (h : SX w v xs) (hb : Below w.heap.size w w') : SX w' v xs := by
  obtain ⟨A, c, rfl, h⟩ := h
  refine ⟨A, c, rfl, fun hp => ?_⟩
  obtain ⟨g, off, e, hl, hc⟩ := h hp
  exact ⟨g, off, e, Nat.lt_of_lt_of_le hl hb.size, fun j hj => (hb.cell (p := ⟨g, off + j, none⟩) hl).trans (hc j hj)⟩
theorem SX.nil (w : World) (A : Option Addr) (c : Nat) : SX w (.slice A 0 c) [] := ⟨A, c, rfl, fun h => absurd h (by decide)⟩
theorem SX.form {w : World} {v : Value} {xs : List (List UInt8)} (h : SX w v xs) : ∃ A c, v = .slice A xs.length c := by
  obtain ⟨A, c, e, _⟩ := h
  exact ⟨A, c, e⟩
/-- A row's cell, at a place. -/
theorem SX.at {w : World} {A : Option Addr} {n c k : Nat} {xs : List (List UInt8)} (h : SX w (.slice A n c) xs) (hk : k < xs.length) : ∃ g off, A = some ⟨g, off, none⟩ ∧ g < w.heap.size ∧ w.cell? ⟨g, off + k, none⟩ = some (sv (xs.getD k [])) := by
  obtain ⟨A', c', e, h⟩ := h
  simp only [Value.slice.injEq] at e
  obtain ⟨rfl, _, rfl⟩ := e
  obtain ⟨g, off, e, hl, hc⟩ := h (by omega)
  exact ⟨g, off, e, hl, hc k hk⟩
theorem mem_getD {xs : List (List UInt8)} {k : Nat} (hk : k < xs.length) : xs.getD k [] ∈ xs := by
  rw [List.getD_eq_getElem?_getD, List.getElem?_eq_getElem hk]
  exact List.getElem_mem hk
theorem take_text {l : List (List UInt8)} {k : Nat} (h : k < l.length) : l.take (k + 1) = l.take k ++ [l.getD k []] := by
  rw [List.take_succ_eq_append_getElem h, List.getD_eq_getElem?_getD, List.getElem?_eq_getElem h]
  rfl
theorem texts_one {xs : List (List UInt8)} : ∀ u ∈ xs.map sv, u.oneCell' = true := by
  intro u hu
  obtain ⟨x, _, rfl⟩ := List.mem_map.1 hu
  rfl
/-- A row of the call's own that holds these. -/
def TW (base : Nat) (W : World) (v : Value) (xs : List (List UInt8)) : Prop := W.ownsRow base 9 1 v xs.length (xs.map sv)
theorem TW.nil (base : Nat) (W : World) : TW base W (.slice none 0 0) [] := World.ownsRow_nil _ _ _ _
theorem TW.form {base : Nat} {W : World} {v : Value} {xs : List (List UInt8)} (h : TW base W v xs) : ∃ A c, v = .slice A xs.length c := by
  rcases h.2 with ⟨rfl, h0⟩ | ⟨g, cap, cur, rfl, _⟩
  · exact ⟨none, 0, by rw [h0]⟩
  · exact ⟨_, _, rfl⟩
theorem TW.lt {base g : Nat} {W : World} {v : Value} {xs : List (List UInt8)} (h : TW base W v xs) (hg : v.ownBlock = some g) : base ≤ g ∧ g < W.heap.size := World.ownsRow.lt h g hg
theorem TW.sx {base : Nat} {W : World} {v : Value} {xs : List (List UInt8)} (h : TW base W v xs) : SX W v xs := by
  obtain ⟨_, h⟩ := h
  rcases h with ⟨rfl, h0⟩ | ⟨g, cap, cur, rfl, _, hb, _, _, _, ht⟩
  · have : xs = [] := List.length_eq_zero_iff.1 h0
    subst this
    exact SX.nil _ _ _
  · refine ⟨_, _, rfl, fun hp => ⟨g, 0, rfl, (Array.getElem?_eq_some_iff.1 hb).1, fun j hj => ?_⟩⟩
    rw [Nat.zero_add, cell_of_row W g j cur _ _ hb, ← Array.getElem?_toList, ← List.getElem?_take_of_lt (show j < xs.length * 1 by omega), ht]
    rw [List.getElem?_map, List.getD_eq_getElem?_getD, List.getElem?_eq_getElem hj]; rfl
theorem TW.old {base : Nat} {w w' : World} {row : Option Nat} {v : Value} {xs : List (List UInt8)} (h : TW base w v xs) (hk : w.grownBy w' row) (hs : ∀ g, v.ownBlock = some g → some g ≠ row) : TW base w' v xs := by
  refine World.ownsRow.kept h hk ?_
  rcases h' : v.ownBlock with _ | g
  · exact .inl rfl
  · exact .inr (hs g h')
theorem TW.below {base : Nat} {w w' : World} {v : Value} {xs : List (List UInt8)} (h : TW base w v xs) (hb : Below w.heap.size w w') : TW base w' v xs :=
  h.old (row := none) ⟨hb.os, hb.tape, hb.output, hb.size, fun k hk _ => hb.block k hk⟩ (fun g _ => by simp)
theorem TW.lower {base base' : Nat} {w : World} {v : Value} {xs : List (List UInt8)} (h : TW base w v xs) (hb : base' ≤ base) : TW base' w v xs := by
  refine ⟨h.1, ?_⟩
  rcases h.2 with h | ⟨g, cap, cur, h1, h2, h3⟩
  · exact .inl h
  · exact .inr ⟨g, cap, cur, h1, by omega, h3⟩
theorem TW.drew {base : Nat} {w : World} {v : Value} {xs : List (List UInt8)} (h : TW base w v xs) : TW base w.drew v xs := h.below (Below.refl _ w).drew
theorem info_text : (Tryz.prog.info? 9).map (fun i => (i.zero, i.size, i.bytes)) = some (some (.string ⟨#[]⟩), 1, 16) := by kernel_rfl
/-- An append of one text. -/
theorem tw_app {w W : World} {v : Value} {xs : List (List UInt8)} (h : TW w.heap.size W v xs) (hB : Below w.heap.size w W) (hlen : xs.length ≤ 1000000) (x : List UInt8) :
    ∃ g cap w2, (Builtin.append_ #[25, 25] 25 #[v, .slice (some ⟨W.heap.size, 0, none⟩) 1 1]).run Tryz.prog (W.alloc (.cells #[sv x] 9)) = .ok (.slice (some ⟨g, 0, none⟩) (xs.length + 1) cap) w2 ∧
      TW w.heap.size w2 (.slice (some ⟨g, 0, none⟩) (xs.length + 1) cap) (xs ++ [x]) ∧ Below w.heap.size w w2 := by
  obtain ⟨i, hi, hz0, hz1, hz2⟩ := info_parts info_text
  have hown : (W.alloc (.cells #[sv x] 9)).ownsRow w.heap.size 9 1 v xs.length (xs.map sv) := h.below (below_alloc _ _)
  obtain ⟨v', w2, hrun, hown2, hgrow, hnil, hor⟩ := run_append_own_at (P := Tryz.prog) (W.alloc (.cells #[sv x] 9)) w.heap.size 25 25 9 i _ 1 16 Tryz.underlying25 hi hz0 hz1 hz2 rfl (by decide) v xs.length (xs.map sv) hown
    ⟨W.heap.size, 0, none⟩ 1 1 [sv x] rfl (World.news_of_block (heap_alloc_new W _)) (by simp [Value.oneCell']) (by unfold maxLen; omega) (by omega) (by simp; have := hB.size; omega)
  have hown3 : TW w.heap.size w2 v' (xs ++ [x]) := by
    unfold TW
    rw [List.length_append, List.map_append]
    exact hown2
  have hb2 : Below w.heap.size w w2 := Below.grown (hB.alloc hB.size _) hgrow (by simp; have := hB.size; omega) fun j hj => (h.lt hj).1
  rcases hown2.2 with ⟨_, h0⟩ | ⟨g, cap, cur, rfl, _⟩
  · omega
  · exact ⟨g, cap, w2, hrun, hown3, hb2⟩

/-! ### Certificates, as values -/
def certV (c : Ct) (nv : Value) : Value := .agg #[sv c.key, sv c.sig, nv, .int .i64 c.fr, .int .i64 c.un, .bool c.ca]
/-- No certificate. -/
def ct0 : Ct := ⟨[], [], [], 0, 0, false⟩
theorem certV0 : certV ct0 (.slice none 0 0) = .agg #[sv [], sv [], .slice none 0 0, .int .i64 0, .int .i64 0, .bool false] := rfl
/-- Not too long for the contracts. -/
def shortC (c : Ct) : Prop := c.key.length ≤ 1000000 ∧ c.sig.length ≤ 1000000 ∧ c.names.length ≤ 1000000 ∧ ∀ n ∈ c.names, n.length ≤ 1000000
end Go.Proofs.YtnaoandleelbkaaGreatDoor
