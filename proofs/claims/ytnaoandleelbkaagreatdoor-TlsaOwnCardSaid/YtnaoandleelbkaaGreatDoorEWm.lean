/-
  The contracts of Get, whole; of the laws' wrong.
  The laws' own awake: the examples.
  What the laws' walks share: contracts in worlds behind the first one.
  Rows of things: what they hold, an append of one.
-/
import Derived.Test.YtnaoandleelbkaaGreatDoorECm
import Derived.Maps.AppendAt
import Derived.OwnWalk
namespace Go.Proofs.YtnaoandleelbkaaGreatDoor
set_option linter.unusedSimpArgs false
set_option linter.unusedVariables false
open Go Go.RowKit
set_option maxRecDepth 100000

theorem get_any {w : World} (s : List UInt8) (hs : s.length ≤ 281474976710656) :
    Calls Tryz.prog 172 #[sv s] w fun e w' => e = .returned (cutV (cutP s)) ∧ Below w.heap.size w w' := by
  have hc := fun W => @cut_any W s (by omega)
  cases h : cutP s with
  | er x =>
    rw [h] at hc
    exact get_of (r := []) (t := 0) (v := []) (e := (x : Int)) (by simp) rfl hc
  | ok p =>
    obtain ⟨⟨t, v⟩, r⟩ := p
    rw [h] at hc
    have := cutP_len h
    exact get_of (r := r) (t := t) (v := v) (e := 0) (by omega) rfl hc
def wrongE (s : List UInt8) : Int := match cutP s with
  | .er e => (e : Int)
  | .ok _ => 0

end Go.Proofs.YtnaoandleelbkaaGreatDoor

namespace Go.Proofs.YtnaoandleelbkaaGreatDoor
set_option linter.unusedSimpArgs false
set_option linter.unusedVariables false
open Go Go.RowKit
set_option maxRecDepth 100000

theorem putE_ok {t : UInt8} {v : List UInt8} (ht : tagB t = true) (hv : v.length ≤ 65535) : putE t v = 0 ∧ putL t v = putT t v := by
  have : putE t v = 0 := by unfold putE; rw [if_neg (by rw [ht]; simp), if_neg (by omega)]
  exact ⟨this, by unfold putL; rw [if_pos this]⟩
end Go.Proofs.YtnaoandleelbkaaGreatDoor

namespace Go.Proofs.YtnaoandleelbkaaGreatDoor
set_option linter.unusedSimpArgs false
set_option linter.unusedVariables false
open Go Go.RowKit
set_option maxRecDepth 100000

/-- W lies behind w. -/
abbrev Bh (w W : World) : Prop := Below w.heap.size w W
theorem Bh.step {w W W' : World} (h : Bh w W) (h2 : Below W.heap.size W W') : Bh w W' := h.trans (h2.mono h.size)
theorem putB_cases (t : UInt8) (v : List UInt8) : (putE t v = 0 ∧ putL t v = putT t v ∧ tagB t = true ∧ v.length ≤ 65535) ∨ (putE t v ≠ 0 ∧ putL t v = []) := by
  cases ht : tagB t with
  | false =>
    right
    have : putE t v = 4 := by unfold putE; rw [if_pos ht]
    exact ⟨by omega, by unfold putL; rw [if_neg (by omega)]⟩
  | true =>
    by_cases hl : 65535 < v.length
    · right
      have : putE t v = 40 := by unfold putE; rw [if_neg (by rw [ht]; simp), if_pos hl]
      exact ⟨by omega, by unfold putL; rw [if_neg (by omega)]⟩
    · left
      obtain ⟨h1, h2⟩ := putE_ok (t := t) (v := v) ht (by omega)
      exact ⟨h1, h2, rfl, by omega⟩
theorem putT_ne (t : UInt8) (v : List UInt8) : 2 ≤ (putT t v).length := by
  have h1 := putT_length t v
  have h2 := lenL_length v.length
  omega
theorem putL_le (t : UInt8) (v : List UInt8) : (putL t v).length ≤ v.length + 4 := by
  rcases putB_cases t v with ⟨_, h, _⟩ | ⟨_, h⟩
  · rw [h, putT_length]; have := lenL_length v.length; omega
  · rw [h]; simp
end Go.Proofs.YtnaoandleelbkaaGreatDoor

namespace Go.Proofs.YtnaoandleelbkaaGreatDoor
open Go Go.RowKit
set_option maxRecDepth 100000
set_option linter.unusedSimpArgs false
set_option linter.unusedVariables false

def pm0 : Tv := (0, [])
abbrev bvi (b : UInt8) : Value := .int .u8 (b.toNat : Int)
def TR (w : World) (v : Value) (ps : List Tv) : Prop :=
  ∃ A c, v = .slice A ps.length c ∧ (0 < ps.length → ∃ g off, A = some ⟨g, off, none⟩ ∧ g < w.heap.size ∧
    ∀ j, j < ps.length → w.cell? ⟨g, off + j * 2, none⟩ = some (bvi (ps.getD j pm0).1) ∧ w.cell? ⟨g, off + j * 2 + 1, none⟩ = some (sv (ps.getD j pm0).2))
theorem TR.step {w w' : World} {v : Value} {ps : List Tv} (h : TR w v ps) (hb : Below w.heap.size w w') : TR w' v ps := by
  obtain ⟨A, c, rfl, h⟩ := h
  refine ⟨A, c, rfl, fun hp => ?_⟩
  obtain ⟨g, off, e, hl, hc⟩ := h hp
  exact ⟨g, off, e, Nat.lt_of_lt_of_le hl hb.size, fun j hj => ⟨(hb.cell (p := ⟨g, off + j * 2, none⟩) hl).trans (hc j hj).1, (hb.cell (p := ⟨g, off + j * 2 + 1, none⟩) hl).trans (hc j hj).2⟩⟩
theorem TR.nil (w : World) (A : Option Addr) (c : Nat) : TR w (.slice A 0 c) [] := ⟨A, c, rfl, fun h => absurd h (by decide)⟩
theorem TR.form {w : World} {v : Value} {ps : List Tv} (h : TR w v ps) : ∃ A c, v = .slice A ps.length c := by
  obtain ⟨A, c, e, _⟩ := h
  exact ⟨A, c, e⟩
/-- A row's cells, at a place. -/
theorem TR.at {w : World} {A : Option Addr} {n c k : Nat} {ps : List Tv} (h : TR w (.slice A n c) ps) (hk : k < ps.length) : ∃ g off, A = some ⟨g, off, none⟩ ∧ g < w.heap.size ∧
    w.cell? ⟨g, off + k * 2, none⟩ = some (bvi (ps.getD k pm0).1) ∧ w.cell? ⟨g, off + k * 2 + 1, none⟩ = some (sv (ps.getD k pm0).2) := by
  obtain ⟨A', c', e, h⟩ := h
  simp only [Value.slice.injEq] at e
  obtain ⟨rfl, _, rfl⟩ := e
  obtain ⟨g, off, e, hl, hc⟩ := h (by omega)
  exact ⟨g, off, e, hl, (hc k hk).1, (hc k hk).2⟩


/-- The cells of a row of parameters. -/
def flatT : List Tv → List Value
  | [] => []
  | r :: rs => bvi r.1 :: sv r.2 :: flatT rs
theorem flatt_len : ∀ rs : List Tv, (flatT rs).length = rs.length * 2
  | [] => rfl
  | r :: rs => by simp only [flatT, List.length_cons, flatt_len rs]; omega
theorem flatt_app : ∀ (rs : List Tv) (r : Tv), flatT rs ++ [bvi r.1, sv r.2] = flatT (rs ++ [r])
  | [], r => rfl
  | a :: rs, r => by simp only [flatT, List.cons_append, flatt_app rs r]
theorem flatt_at : ∀ (rs : List Tv) (j : Nat), j < rs.length → (flatT rs)[j * 2]? = some (bvi (rs.getD j pm0).1) ∧ (flatT rs)[j * 2 + 1]? = some (sv (rs.getD j pm0).2)
  | r :: rs, 0, _ => ⟨rfl, rfl⟩
  | r :: rs, j + 1, h => by
    have := flatt_at rs j (by simpa using h)
    rw [show (j + 1) * 2 = j * 2 + 1 + 1 by omega]
    exact this
theorem flatt_one (rs : List Tv) : ∀ u ∈ flatT rs, u.oneCell' = true := by
  induction rs with
  | nil => intro u h; cases h
  | cons r rs ih =>
    intro u h
    simp only [flatT, List.mem_cons] at h
    rcases h with rfl | rfl | h
    · rfl
    · rfl
    · exact ih u h
/-- A row of the call's own that holds these. -/
def TO (e : TypeId) (base : Nat) (W : World) (v : Value) (ps : List Tv) : Prop := W.ownsRow base e 2 v ps.length (flatT ps)
theorem TO.nil (e : TypeId) (base : Nat) (W : World) : TO e base W (.slice none 0 0) [] := World.ownsRow_nil _ _ _ _
theorem TO.form {e : TypeId} {base : Nat} {W : World} {v : Value} {ps : List Tv} (h : TO e base W v ps) : ∃ A c, v = .slice A ps.length c := by
  rcases h.2 with ⟨rfl, h0⟩ | ⟨g, cap, cur, rfl, _⟩
  · exact ⟨none, 0, by rw [h0]⟩
  · exact ⟨_, _, rfl⟩
theorem TO.lt {e : TypeId} {base g : Nat} {W : World} {v : Value} {ps : List Tv} (h : TO e base W v ps) (hg : v.ownBlock = some g) : base ≤ g ∧ g < W.heap.size := World.ownsRow.lt h g hg
theorem TO.pr {e : TypeId} {base : Nat} {W : World} {v : Value} {ps : List Tv} (h : TO e base W v ps) : TR W v ps := by
  obtain ⟨_, h⟩ := h
  rcases h with ⟨rfl, h0⟩ | ⟨g, cap, cur, rfl, _, hb, _, _, _, ht⟩
  · have : ps = [] := List.length_eq_zero_iff.1 h0
    subst this
    exact TR.nil _ _ _
  · refine ⟨_, _, rfl, fun hp => ?_⟩
    refine ⟨g, 0, rfl, (Array.getElem?_eq_some_iff.1 hb).1, fun j hj => ?_⟩
    have hc : ∀ k, k < ps.length * 2 → W.cell? ⟨g, k, none⟩ = (flatT ps)[k]? := by
      intro k hk
      rw [cell_of_row W g k cur _ _ hb, ← ht, List.getElem?_take_of_lt hk]
      simp
    obtain ⟨h1, h2⟩ := flatt_at ps j hj
    rw [Nat.zero_add, hc _ (by omega), hc _ (by omega)]
    exact ⟨h1, h2⟩
theorem TO.old {e : TypeId} {base : Nat} {w w' : World} {row : Option Nat} {v : Value} {ps : List Tv} (h : TO e base w v ps) (hk : w.grownBy w' row) (hs : ∀ g, v.ownBlock = some g → some g ≠ row) : TO e base w' v ps := by
  refine World.ownsRow.kept h hk ?_
  rcases h' : v.ownBlock with _ | g
  · exact .inl rfl
  · exact .inr (hs g h')
theorem TO.below {e : TypeId} {base : Nat} {w w' : World} {v : Value} {ps : List Tv} (h : TO e base w v ps) (hb : Below w.heap.size w w') : TO e base w' v ps :=
  h.old (row := none) ⟨hb.os, hb.tape, hb.output, hb.size, fun k hk _ => hb.block k hk⟩ (fun g _ => by simp)
theorem TO.lower {e : TypeId} {base base' : Nat} {w : World} {v : Value} {ps : List Tv} (h : TO e base w v ps) (hb : base' ≤ base) : TO e base' w v ps := by
  refine ⟨h.1, ?_⟩
  rcases h.2 with h | ⟨g, cap, cur, h1, h2, h3⟩
  · exact .inl h
  · exact .inr ⟨g, cap, cur, h1, by omega, h3⟩
theorem grownBy_cellF (W : World) (b i : Nat) (v : Value) : W.grownBy (W.setCell ⟨b, i, none⟩ v) (some b) :=
  ⟨rfl, rfl, rfl, by simp [World.setCell], fun k _ hk => Below.heap_setCell _ _ _ k (fun e => hk (by rw [e]))⟩
theorem TO.set {e : TypeId} {base : Nat} {w : World} {v : Value} {ps : List Tv} (h : TO e base w v ps) {b i : Nat} (hp : ∀ g, v.ownBlock = some g → g ≠ b) (u : Value) : TO e base (w.setCell ⟨b, i, none⟩ u) v ps :=
  h.old (row := some b) (grownBy_cellF w b i u) (fun g e => fun h => hp g e (by injection h))

/-- An append of one thing. -/
theorem to_append {t e : TypeId} {bytes : Nat} (ht : Tryz.prog.underlying t = some (.slice e)) (hi0 : (Tryz.prog.info? e).map (fun i => (i.zero, i.size, i.bytes)) = some (some (.agg #[.int .u8 0, .string ⟨#[]⟩]), 2, bytes)) (hb : bytes ≤ 64)
    {base : Nat} {W : World} {v : Value} {ps : List Tv} (h : TO e base W v ps) (hbase : base ≤ W.heap.size) (hlen : ps.length ≤ 1000000) (n : UInt8) (x : List UInt8) :
    ∃ g cap w2, (Builtin.append_ #[t, t] t #[v, .slice (some ⟨W.heap.size, 0, none⟩) 1 1]).run Tryz.prog (W.alloc (.cells #[bvi n, sv x] e)) = .ok (.slice (some ⟨g, 0, none⟩) (ps.length + 1) cap) w2 ∧
      TO e base w2 (.slice (some ⟨g, 0, none⟩) (ps.length + 1) cap) (ps ++ [(n, x)]) ∧ (W.alloc (.cells #[bvi n, sv x] e)).grownBy w2 v.ownBlock ∧ (v.ownBlock = some g ∨ g = W.heap.size + 1) := by
  obtain ⟨i, hi, hz0, hz1, hz2⟩ := info_parts hi0
  have hown : (W.alloc (.cells #[bvi n, sv x] e)).ownsRow base e 2 v ps.length (flatT ps) := h.below (below_alloc _ _)
  have hk : (ps.length + 1) * bytes ≤ 1000001 * 64 := Nat.mul_le_mul (by omega) hb
  obtain ⟨v', w2, hrun, hown2, hgrow, hnil, hor⟩ := run_append_own_at (P := Tryz.prog) (W.alloc (.cells #[bvi n, sv x] e)) base t t e i _ 2 bytes ht hi hz0 hz1 hz2 rfl (by decide) v ps.length (flatT ps) hown
    ⟨W.heap.size, 0, none⟩ 1 1 [bvi n, sv x] rfl (World.news_of_block (heap_alloc_new W _)) (by simp [Value.oneCell']) (by unfold maxLen; omega) (by omega) (by simp; omega)
  have hown3 : TO e base w2 v' (ps ++ [(n, x)]) := by
    unfold TO
    rw [List.length_append, ← flatt_app]
    exact hown2
  rcases hown2.2 with ⟨_, h0⟩ | ⟨g, cap, cur, rfl, hbg, hgb, _⟩
  · omega
  · refine ⟨g, cap, w2, hrun, hown3, hgrow, ?_⟩
    rcases hor with e | e
    · exact .inl (by rw [← e]; rfl)
    · refine .inr ?_
      simp only [Value.ownBlock, Option.some.injEq] at e
      rw [e, World.size_alloc]
theorem info_item : (Tryz.prog.info? 143).map (fun i => (i.zero, i.size, i.bytes)) = some (some (.agg #[.int .u8 0, .string ⟨#[]⟩]), 2, 24) := by kernel_rfl
theorem info_ritem : (Tryz.prog.info? 89).map (fun i => (i.zero, i.size, i.bytes)) = some (some (.agg #[.int .u8 0, .string ⟨#[]⟩]), 2, 24) := by kernel_rfl
end Go.Proofs.YtnaoandleelbkaaGreatDoor
