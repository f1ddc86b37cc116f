/-
  Words that the walks share: strings of lists of bytes; a block of one cell; rows that a call makes by appending: what they hold, and the worlds behind; a world that lies behind another one.
-/
import Derived.WalkKit
import Derived.IntWalk
import Derived.Lib.Hide
import Derived.Laws.Rows
import Derived.Laws.MakeOwn
import Derived.Deep.AppendLies
import Derived.Laws.OwnMore
import Derived.Lib.BufferRead
import Derived.Lib.OthersKept
import Derived.Test.YtnaoandleelbkaaGreatDoorChecked
namespace Go.Proofs.YtnaoandleelbkaaGreatDoor
open Go Go.RowKit
set_option maxRecDepth 100000

/-- A string of these bytes. -/
abbrev str (l : List UInt8) : ByteArray := ⟨l.toArray⟩
abbrev sv (l : List UInt8) : Value := .string (str l)

theorem cellAt {w : World} {b : Nat} {cs : Array Value} {t : TypeId} (h : w.heap[b]? = some (.cells cs t (0, 0))) (j : Nat) : w.cell? ⟨b, j, none⟩ = cs[j]? := cell_of_row w b j cs t (0, 0) h
theorem freeAt {w : World} {b : Nat} {cs : Array Value} {t : TypeId} (h : w.heap[b]? = some (.cells cs t (0, 0))) (j : Nat) : w.frozen? ⟨b, j, none⟩ = false := frozen_of_row w b j cs t h

theorem str_getD (S : List UInt8) (v : Nat) (h : v < S.length) (h' : v < (str S).size) : (str S)[v]'h' = S.getD v 0 := by
  rw [List.getD_eq_getElem?_getD, List.getElem?_eq_getElem h]; rfl
theorem getD_str (s : List UInt8) (j : Nat) (h : j < s.length) : s.getD j 0 = s[j] := by
  rw [List.getD_eq_getElem?_getD, List.getElem?_eq_getElem h]; rfl
theorem str_extract (t : List UInt8) (i j : Nat) : (str t).extract i j = str ((t.take j).drop i) := by
  apply ByteArray.ext
  simp [str, ByteArray.data_extract, List.extract_eq_take_drop, List.drop_take]
theorem to_str (s : ByteArray) : ∃ l : List UInt8, s = str l ∧ l.length = s.size := ⟨s.data.toList, by cases s; rfl, Array.length_toList⟩

theorem lt_of_blk {w : World} {b : Nat} {o : Obj} (h : w.heap[b]? = some o) : b < w.heap.size := (Array.getElem?_eq_some_iff.1 h).1

/-- Block k is one cell: v, of type T. -/
def Bx (w : World) (k : Nat) (v : Value) (T : TypeId) : Prop := w.heap[k]? = some (.cells #[v] T (0, 0))
theorem Bx.cell {w : World} {k : Nat} {v : Value} {T : TypeId} (h : Bx w k v T) : w.cell? ⟨k, 0, none⟩ = some v := by rw [cellAt h]; rfl
theorem Bx.free {w : World} {k : Nat} {v : Value} {T : TypeId} (h : Bx w k v T) : w.frozen? ⟨k, 0, none⟩ = false := freeAt h 0
theorem Bx.lt {w : World} {k : Nat} {v : Value} {T : TypeId} (h : Bx w k v T) : k < w.heap.size := lt_of_blk h
theorem Bx.new (w : World) (v : Value) (T : TypeId) : Bx (w.alloc (.cells #[v] T)) w.heap.size v T := heap_alloc_new w _
theorem Bx.alloc {w : World} {k : Nat} {v : Value} {T : TypeId} (h : Bx w k v T) (o : Obj) : Bx (w.alloc o) k v T := (Lib.alloc_old w o k h.lt).trans h
theorem Bx.set {w : World} {k : Nat} {v : Value} {T : TypeId} (h : Bx w k v T) (x : Value) : Bx (w.setCell ⟨k, 0, none⟩ x) k x T := by
  unfold Bx at h ⊢
  simp [World.setCell, Array.getElem?_modify, h]
theorem heap_set_ne {w : World} {k j i : Nat} (x : Value) (hne : j ≠ k) : (w.setCell ⟨j, i, none⟩ x).heap[k]? = w.heap[k]? := by
  simp [World.setCell, Array.getElem?_modify, hne]
theorem Bx.other {w : World} {k j : Nat} {v : Value} {T : TypeId} (h : Bx w k v T) (x : Value) (hne : j ≠ k) : Bx (w.setCell ⟨j, 0, none⟩ x) k v T := (heap_set_ne x hne).trans h
theorem Bx.below {w w' : World} {k n : Nat} {v : Value} {T : TypeId} (h : Bx w k v T) (hb : Below n w w') (hn : k < n) : Bx w' k v T := (hb.block k hn).trans h


/-- In a world behind w0, v is a row of the call's own that holds xs; no block that lay at w0 has turned. -/
def GV (e : TypeId) (w0 : World) (v : Value) (xs : List Value) (w : World) : Prop := Below w0.heap.size w0 w ∧ w.ownsRow w0.heap.size e 1 v xs.length xs

theorem GV.nil (e : TypeId) (w : World) : GV e w (.slice none 0 0) [] w := ⟨Below.refl _ _, World.ownsRow_nil _ _ _ _⟩
theorem GV.below {e : TypeId} {w0 w : World} {v : Value} {xs : List Value} (h : GV e w0 v xs w) : Below w0.heap.size w0 w := h.1
theorem GV.form {e : TypeId} {w0 w : World} {v : Value} {xs : List Value} (h : GV e w0 v xs w) : ∃ A c, v = .slice A xs.length c := by
  rcases h.2.2 with ⟨rfl, h0⟩ | ⟨g, cap, cur, rfl, _⟩
  · exact ⟨none, 0, by rw [h0]⟩
  · exact ⟨_, _, rfl⟩
theorem GV.drew {e : TypeId} {w0 w : World} {v : Value} {xs : List Value} (h : GV e w0 v xs w) : GV e w0 v xs w.drew := ⟨h.1.drew, h.2⟩
theorem GV.behind {e : TypeId} {w0 w w' : World} {v : Value} {xs : List Value} (h : GV e w0 v xs w) (hb : Below w.heap.size w w') : GV e w0 v xs w' :=
  ⟨h.1.trans (hb.mono h.1.size), h.2.kept (row := none) ⟨hb.os, hb.tape, hb.output, hb.size, fun k hk _ => hb.block k hk⟩ (by
    rcases h' : v.ownBlock with _ | g
    · exact .inl rfl
    · exact .inr (by simp))⟩
theorem GV.alloc {e : TypeId} {w0 w : World} {v : Value} {xs : List Value} (h : GV e w0 v xs w) (o : Obj) : GV e w0 v xs (w.alloc o) := h.behind ((Below.refl _ _).alloc (Nat.le_refl _) _)

theorem GV.cell {e : TypeId} {w0 w : World} {A : Option Addr} {n c : Nat} {xs : List Value} (h : GV e w0 (.slice A n c) xs w) (j : Nat) (hj : j < xs.length) : ∃ g, A = some ⟨g, 0, none⟩ ∧ w0.heap.size ≤ g ∧ g < w.heap.size ∧ w.cell? ⟨g, j, none⟩ = xs[j]? := by
  have ho := h.2
  rcases ho.2 with ⟨_, h0⟩ | ⟨g, cap, cur, hv, hb, hg, _⟩
  · omega
  · have hv' := hv
    simp only [Value.slice.injEq] at hv'
    obtain ⟨rfl, rfl, rfl⟩ := hv'
    exact ⟨g, rfl, hb, (ho.lt g rfl).2, ho.cellAt j (by omega)⟩

theorem gv_append {t e : TypeId} {z : Value} {bytes : Nat} (ht : Tryz.prog.underlying t = some (.slice e)) (hi0 : (Tryz.prog.info? e).map (fun i => (i.zero, i.size, i.bytes)) = some (some z, 1, bytes)) (hz : z.cells.size = 1)
    {w0 w1 : World} {v : Value} {xs : List Value} (h : GV e w0 v xs w1) (hb8 : bytes ≤ 64) (hlen : xs.length ≤ 1000000000)
    {ops : Array Oper} {rest : List Oper} {o : Oper} {a : Act} {Q : Exit → Act → World → Prop} (ys : List Value) (C : Array Value) (hC : C.toList = ys) (hy : 0 < ys.length ∧ ys.length ≤ 1000000) (h1 : ∀ u ∈ ys, u.oneCell' = true)
    (s x : Operand) (hgd : o.guard = none) (ho : o.op = .call { callee := .builtin .append, args := #[s, x], argTypes := #[t, t] }) (hs : a.eval s = v) (c : Nat) (hx : a.eval x = .slice (some ⟨w1.heap.size, 0, none⟩) ys.length c)
    (k : ∀ g cap w', GV e w0 (.slice (some ⟨g, 0, none⟩) (xs.length + ys.length) cap) (xs ++ ys) w' → wpList Tryz.prog ops Q rest (a.put o.dst (.slice (some ⟨g, 0, none⟩) (xs.length + ys.length) cap)) w') :
    wpList Tryz.prog ops Q (o :: rest) a (w1.alloc (.cells C e)) := by
  obtain ⟨i, hi, hz0, hz1, hz2⟩ := info_parts hi0
  have hsz := h.1.size
  refine wpList_append_lies _ hgd s x t ho w0.heap.size e i z 1 bytes ht hi hz0 hz1 hz2 hz (by decide) v xs.length xs hs (h.2.alloc _) ⟨w1.heap.size, 0, none⟩ ys.length c ys hx (by simp)
    (by rw [← hC]; exact World.news_of_block (heap_alloc_new w1 _)) h1 hy.1 (by unfold maxLen; omega) ?_ (by simp; omega) _ rfl ?_
  · have : (xs.length + ys.length) * bytes ≤ 1001000000 * 64 := Nat.mul_le_mul (by omega) hb8
    omega
  · intro g cap w' hown hgr _ _
    refine k g cap w' ⟨?_, by simpa using hown⟩
    refine Below.grown (h.1.alloc hsz _) hgr (by simp; omega) fun j hj => ?_
    exact (h.2.lt j hj).1

/-- A byte, as a value. -/
def bv (b : UInt8) : Value := .int .u8 b.toNat
theorem bv_one : ∀ {ys : List UInt8}, ∀ u ∈ ys.map bv, u.oneCell' = true := by
  intro ys u hu
  obtain ⟨b, _, rfl⟩ := List.mem_map.1 hu
  rfl

theorem info5' : (Tryz.prog.info? 5).map (fun i => (i.zero, i.size, i.bytes)) = some (some (.int .u8 0), 1, 1) := by kernel_rfl

/-- A row of bytes. -/
def GB (w0 : World) (v : Value) (l : List UInt8) (w : World) : Prop := GV 5 w0 v (l.map bv) w
theorem GB.nil (w : World) : GB w (.slice none 0 0) [] w := GV.nil _ _
theorem GB.below {w0 w : World} {v : Value} {l : List UInt8} (h : GB w0 v l w) : Below w0.heap.size w0 w := h.1
theorem GB.form {w0 w : World} {v : Value} {l : List UInt8} (h : GB w0 v l w) : ∃ A c, v = .slice A l.length c := by have := GV.form h; simpa using this
theorem GB.drew {w0 w : World} {v : Value} {l : List UInt8} (h : GB w0 v l w) : GB w0 v l w.drew := GV.drew h
theorem GB.behind {w0 w w' : World} {v : Value} {l : List UInt8} (h : GB w0 v l w) (hb : Below w.heap.size w w') : GB w0 v l w' := GV.behind h hb

theorem gb_append {w0 w1 : World} {v : Value} {l : List UInt8} (h : GB w0 v l w1) (hlen : l.length ≤ 1000000000)
    {ops : Array Oper} {rest : List Oper} {o : Oper} {a : Act} {Q : Exit → Act → World → Prop} (m : List UInt8) (C : Array Value) (hC : C.toList = m.map bv) (hm : 0 < m.length ∧ m.length ≤ 1000000)
    (s x : Operand) (hgd : o.guard = none) (ho : o.op = .call { callee := .builtin .append, args := #[s, x], argTypes := #[41, 41] }) (hs : a.eval s = v) (c : Nat) (hx : a.eval x = .slice (some ⟨w1.heap.size, 0, none⟩) m.length c)
    (k : ∀ g cap w', GB w0 (.slice (some ⟨g, 0, none⟩) (l.length + m.length) cap) (l ++ m) w' → wpList Tryz.prog ops Q rest (a.put o.dst (.slice (some ⟨g, 0, none⟩) (l.length + m.length) cap)) w') :
    wpList Tryz.prog ops Q (o :: rest) a (w1.alloc (.cells C 5)) := by
  refine gv_append Tryz.underlying41 info5' rfl h (by decide) (by simpa using hlen) (m.map bv) C hC (by simpa using hm) bv_one s x hgd ho hs c (by simpa using hx) fun g cap w' hg => ?_
  have := k g cap w' (by unfold GB; simpa using hg)
  simpa using this

/-- An append whose run is known, ahead of a region that draws its order. -/
theorem gb_run {w0 w1 : World} {v : Value} {l : List UInt8} (h : GB w0 v l w1) (hlen : l.length ≤ 1000000000) (m : List UInt8) (C : Array Value) (hC : C.toList = m.map bv) (hm : 0 < m.length ∧ m.length ≤ 1000000) (n c : Nat) (hn : n = m.length) :
    ∃ g cap w', (Builtin.append_ #[41, 41] 41 #[v, .slice (some ⟨w1.heap.size, 0, none⟩) n c]).run Tryz.prog (w1.alloc (.cells C 5)) = .ok (.slice (some ⟨g, 0, none⟩) (l.length + m.length) cap) w' ∧ GB w0 (.slice (some ⟨g, 0, none⟩) (l.length + m.length) cap) (l ++ m) w' := by
  subst hn
  obtain ⟨i, hi, hz0, hz1, hz2⟩ := info_parts info5'
  have hsz := h.1.size
  obtain ⟨g, cap, w', hrun, hown, hgr, _, _⟩ := run_append_lies (P := Tryz.prog) (w1.alloc (.cells C 5)) 41 41 w0.heap.size 5 i (.int .u8 0) 1 1 Tryz.underlying41 hi hz0 hz1 hz2 rfl (by decide) v (l.map bv).length (l.map bv) (h.2.alloc _) ⟨w1.heap.size, 0, none⟩ m.length c (m.map bv) (by simp)
    (by rw [← hC]; exact World.news_of_block (heap_alloc_new w1 _)) bv_one hm.1 (by rw [List.length_map]; unfold maxLen; omega) (by rw [List.length_map]; omega) (by simp; omega) _ rfl
  rw [List.length_map] at hrun hown
  refine ⟨g, cap, w', hrun, Below.grown (h.1.alloc hsz _) hgr (by simp; omega) (fun j hj => (h.2.lt j hj).1), ?_⟩
  simpa using hown

theorem step_app {P : Program} {ops : Array Oper} {o : Oper} {a : Act} {w w' : World} {K : Act → World → Prop} {Q : Exit → Act → World → Prop} {E : Prop} {v v' xv : Value}
    (hg : o.guard = none) (s x : Operand) (t : TypeId) (hop : o.op = Op.call { callee := Callee.builtin Builtin.append, args := #[s, x], argTypes := #[t, t] }) (hs : a.eval s = v) (hx : a.eval x = xv)
    (hrun : (Builtin.append_ #[t, t] o.type #[v, xv]).run P w = .ok v' w') (hK : K (a.put o.dst v') w') :
    if Region.wanted o (yielded ops a.tmps) = true then Oper.wp P o a w K Q else E := by
  have hw : Region.wanted o (yielded ops a.tmps) = true := by simp [Region.wanted, hg]
  rw [if_pos hw]
  unfold Oper.wp
  simp [execOp, hop, resolve, invoke, builtin, hs, hx, hrun, Result.andThen]
  exact hK

/-- 'string(b)'. -/
theorem gb_string {w0 w : World} {v : Value} {l : List UInt8} (h : GB w0 v l w) : (convert 41 9 v).run Tryz.prog w = .ok (.string (str l)) w := by
  obtain ⟨A, c, rfl⟩ := h.form
  cases l with
  | nil =>
    cases A with
    | none => exact Lib.run_convert_nil_bytes w 41 9 5 c Tryz.underlying41 Tryz.underlying5 Tryz.underlying9
    | some ad => exact run_convert_bytes_back w 41 9 5 ad c [] Tryz.underlying41 Tryz.underlying5 Tryz.underlying9 (fun j hj => by simp at hj)
  | cons b l =>
    obtain ⟨g, rfl, _⟩ := GV.cell h 0 (by simp)
    refine run_convert_bytes_back w 41 9 5 ⟨g, 0, none⟩ c (b :: l) Tryz.underlying41 Tryz.underlying5 Tryz.underlying9 (fun j hj => ?_)
    obtain ⟨g', he, _, _, hc⟩ := GV.cell h j (by simpa using hj)
    obtain rfl : g = g' := by simpa using he
    have e1 : (⟨g, 0, none⟩ : Addr).add j = ⟨g, j, none⟩ := by unfold Addr.add; split <;> simp_all
    rw [e1, hc]
    simp only [List.getElem?_map, List.getElem?_eq_getElem hj]
    rfl
end Go.Proofs.YtnaoandleelbkaaGreatDoor
