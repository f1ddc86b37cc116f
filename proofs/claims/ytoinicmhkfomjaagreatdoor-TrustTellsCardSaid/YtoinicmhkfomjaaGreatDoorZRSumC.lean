/-
  A row of bytes that '[]byte(s)' began, and that is appended to.
-/
import Derived.Deep.AppendSrc
import Derived.Laws.IdiomStrings
import Derived.Test.YtoinicmhkfomjaaGreatDoorZRSumB
namespace Go.Proofs.YtoinicmhkfomjaaGreatDoor
open Go Go.RowKit
set_option maxRecDepth 100000

/-- A row of bytes of the call's own, its end marked or not. -/
def RB (w0 : World) (v : Value) (l : List UInt8) (W : World) : Prop := Below w0.heap.size w0 W ∧ ∃ g cap, v = .slice (some ⟨g, 0, none⟩) l.length cap ∧ w0.heap.size ≤ g ∧ g < W.heap.size ∧ l.length ≤ cap ∧ cap ≤ maxLen ∧
  (∀ j, j < l.length → W.cell? ⟨g, j, none⟩ = some (bv (l.getD j 0))) ∧ ∀ j, j < cap → (W.cell? ⟨g, j, none⟩).isSome = true ∧ W.frozen? ⟨g, j, none⟩ = false

theorem RB.below {w0 w : World} {v : Value} {l : List UInt8} (h : RB w0 v l w) : Below w0.heap.size w0 w := h.1
theorem RB.form {w0 w : World} {v : Value} {l : List UInt8} (h : RB w0 v l w) : ∃ g c, v = .slice (some ⟨g, 0, none⟩) l.length c ∧ w0.heap.size ≤ g ∧ g < w.heap.size ∧ l.length ≤ c ∧ ∀ j, j < l.length → w.cell? ⟨g, j, none⟩ = some (bv (l.getD j 0)) := by
  obtain ⟨_, g, c, rfl, h1, h2, h3, _, h4, _⟩ := h
  exact ⟨g, c, rfl, h1, h2, h3, h4⟩

/-- '[]byte(s)'. -/
theorem rb_bytes (w0 w : World) (h : Below w0.heap.size w0 w) (s : List UInt8) (hs : s.length ≤ 1000000) : ∃ v W, (convert 9 41 (.string (str s))).run Tryz.prog w = .ok v W ∧ RB w0 v s W := by
  have hsz : (str s).size = s.length := by simp [ByteArray.size]
  have hr := run_bytes_of_string (P := Tryz.prog) w 9 41 5 (str s) Tryz.underlying9 Tryz.underlying41 Tryz.underlying5
  rw [hsz] at hr
  obtain ⟨c, hc⟩ : ∃ c, c = grownCap w s.length 0 5 := ⟨_, rfl⟩
  have hcl : s.length ≤ c := by rw [hc]; exact grownCap_ge _ _ _ _
  have hcm : c ≤ maxLen := by rw [hc]; exact grownCap_le_maxLen _ _ _ _ (by unfold maxLen; omega)
  rw [← hc] at hr
  have hbs : (bytesRow (str s) c).size = c := by
    unfold bytesRow
    simp only [Array.size_append, Array.size_map, Array.size_replicate]
    have : (str s).data.size = s.length := by simp
    rw [this, hsz]; omega
  have hcell : ∀ j, (w.drew.alloc (.cells (bytesRow (str s) c) 5 ((bytesRow (str s) c).size, (bytesRow (str s) c).size + 1))).cell? ⟨w.heap.size, j, none⟩ = (bytesRow (str s) c)[j]? := fun j => by
    have e := World.cell?_alloc_mark w.drew (bytesRow (str s) c) 5 ((bytesRow (str s) c).size, (bytesRow (str s) c).size + 1) j
    have e2 : w.drew.heap.size = w.heap.size := rfl
    rwa [e2] at e
  refine ⟨_, _, hr, (h.drew).alloc h.size _, w.heap.size, c, rfl, h.size, by rw [World.size_alloc]; exact Nat.lt_succ_self _, hcl, hcm, fun j hj => ?_, fun j hj => ⟨?_, ?_⟩⟩
  · rw [hcell, bytesRow_at (str s) c j (by simpa using hj), getD_str s j hj]
    simp [bv]
  · rw [hcell, Array.getElem?_eq_getElem (by rw [hbs]; exact hj)]; rfl
  · have e := World.frozen?_alloc_mark w.drew (bytesRow (str s) c) 5 (bytesRow (str s) c).size ((bytesRow (str s) c).size + 1) j
    have e2 : w.drew.heap.size = w.heap.size := rfl
    rw [e2] at e
    rw [e, decide_eq_false (show ¬ (bytesRow (str s) c).size ≤ j by omega)]; rfl

/-- A byte is appended. -/
theorem rb_append {w0 w1 : World} {v : Value} {l : List UInt8} (h : RB w0 v l w1) (hlen : l.length ≤ 1000000)
    {ops : Array Oper} {rest : List Oper} {o : Oper} {a : Act} {Q : Exit → Act → World → Prop} (b : UInt8) (z : Int) (hz : z = (b.toNat : Int))
    (s x : Operand) (hgd : o.guard = none) (ho : o.op = .call { callee := .builtin .append, args := #[s, x], argTypes := #[41, 41] }) (hs : a.eval s = v) (hx : a.eval x = .slice (some ⟨w1.heap.size, 0, none⟩) 1 1)
    (k : ∀ v' w', RB w0 v' (l ++ [b]) w' → wpList Tryz.prog ops Q rest (a.put o.dst v') w') :
    wpList Tryz.prog ops Q (o :: rest) a (w1.alloc (.cells #[.int .u8 z] 5)) := by
  subst hz
  have hl1 : (l ++ [b]).length = l.length + 1 := by simp
  obtain ⟨i, hi, hz0, hz1, hz2⟩ := info_parts info5'
  obtain ⟨hb, g, cap, hv, hg0, hg, hlc, hcm, hc, hf⟩ := h
  obtain ⟨wA, hwA⟩ : ∃ wA, wA = w1.alloc (.cells #[.int .u8 (b.toNat : Int)] 5) := ⟨_, rfl⟩
  have hold : ∀ k, k < w1.heap.size → wA.heap[k]? = w1.heap[k]? := fun k hk => by rw [hwA]; exact Lib.alloc_old _ _ _ hk
  have hbA : Below w0.heap.size w0 wA := by rw [hwA]; exact hb.alloc hb.size _
  have hzA : wA.heap.size = w1.heap.size + 1 := by rw [hwA]; simp
  have hcA : ∀ j, wA.cell? ⟨g, j, none⟩ = w1.cell? ⟨g, j, none⟩ := fun j => World.cell?_of_block (a := ⟨g, j, none⟩) (hold g hg)
  have hfA : ∀ j, wA.frozen? ⟨g, j, none⟩ = w1.frozen? ⟨g, j, none⟩ := fun j => World.frozen?_of_block (a := ⟨g, j, none⟩) (hold g hg)
  have hsrc : Src Tryz.prog 1 41 (.slice (some ⟨w1.heap.size, 0, none⟩) 1 1) 1 [.int .u8 (b.toNat : Int)] wA := by
    refine Src.ofSlice wA Tryz.underlying41 ⟨w1.heap.size, 0, none⟩ 1 1 [.int .u8 (b.toNat : Int)] rfl ?_ (by simp [Value.oneCell'])
    rw [hwA]
    exact World.news_of_block (cs := #[.int .u8 (b.toNat : Int)]) (heap_alloc_new w1 _)
  rw [← hwA]
  have hrun : ∃ v' w', (Builtin.append_ #[41, 41] o.type #[v, .slice (some ⟨w1.heap.size, 0, none⟩) 1 1]).run Tryz.prog wA = .ok v' w' ∧ RB w0 v' (l ++ [b]) w' := by
    subst hv
    by_cases hroom : l.length + 1 ≤ cap
    · have hr := run_append_room_src (P := Tryz.prog) wA 41 41 o.type 5 i Tryz.underlying41 hi g 0 l.length cap (.slice (some ⟨w1.heap.size, 0, none⟩) 1 1) 1 [.int .u8 (b.toNat : Int)] (by rw [hz1]; exact hsrc) hroom
        (fun j hj => by
          have : j = 0 := by simpa using hj
          subst this
          rw [hz1, Nat.mul_one, Nat.add_zero, Nat.zero_add, hcA]; exact (hf _ (by omega)).1)
        (fun j hj => by
          have : j = 0 := by simpa using hj
          subst this
          rw [hz1, Nat.mul_one, Nat.add_zero, Nat.zero_add, hfA]; exact (hf _ (by omega)).2)
      rw [hz1, Nat.mul_one, Nat.zero_add] at hr
      have e1 : wA.setCells g l.length [.int .u8 (b.toNat : Int)] = wA.setCell ⟨g, l.length, none⟩ (.int .u8 (b.toNat : Int)) := rfl
      rw [e1] at hr
      have hsame := World.cell?_setCell_same' wA ⟨g, l.length, none⟩ (.int .u8 (b.toNat : Int)) (by rw [hcA]; exact (hf _ (by omega)).1)
      have hoth : ∀ j, j ≠ l.length → (wA.setCell ⟨g, l.length, none⟩ (.int .u8 (b.toNat : Int))).cell? ⟨g, j, none⟩ = wA.cell? ⟨g, j, none⟩ := fun j hj => World.cell?_setCell_other _ _ _ _ (by intro he; injection he; omega)
      refine ⟨_, _, hr, hbA.setCell (p := ⟨g, l.length, none⟩) hg0 _, g, cap, by rw [hl1], hg0, by simp [World.setCell]; omega, by rw [hl1]; exact hroom, hcm, fun j hj => ?_, fun j hj => ⟨?_, ?_⟩⟩
      · rw [hl1] at hj
        by_cases e : j = l.length
        · subst e
          rw [hsame]
          simp [bv]
        · rw [hoth j e, hcA, hc j (by omega)]
          simp only [List.getD_eq_getElem?_getD]
          rw [List.getElem?_append_left (by omega)]
      · by_cases e : j = l.length
        · subst e; rw [hsame]; rfl
        · rw [hoth j e, hcA]; exact (hf j hj).1
      · rw [World.frozen?_setCell, hfA]; exact (hf j hj).2
    · have holds : (Builtin.firstCells i.size l.length (.slice (some ⟨g, 0, none⟩) l.length cap)).run Tryz.prog wA.drew = .ok (l.map bv).toArray wA.drew := by
        refine run_firstCells_some wA.drew i.size l.length ⟨g, 0, none⟩ l.length cap (l.map bv) (by rw [hz1]; simp) (fun j u hu => ?_)
        have hj : j < l.length := by
          have := (List.getElem?_eq_some_iff.1 hu).1
          simpa using this
        rw [Addr.add_lit]
        show wA.cell? ⟨g, 0 + j, none⟩ = some u
        rw [Nat.zero_add, hcA, hc j hj, ← hu]
        simp [List.getD_eq_getElem?_getD, hj]
      have hr := run_append_grow_src (P := Tryz.prog) wA 41 41 o.type 5 i (.int .u8 0) Tryz.underlying41 hi hz0 (some ⟨g, 0, none⟩) l.length cap (l.map bv) holds (.slice (some ⟨w1.heap.size, 0, none⟩) 1 1) 1 [.int .u8 (b.toNat : Int)] (by rw [hz1]; exact hsrc)
        (by omega) (by omega) (growslice_fits (by omega) (by rw [hz2]; omega))
      have hge := grownCap_ge wA (l.length + 1) cap 5
      have hcm2 := grownCap_le_maxLen wA (l.length + 1) cap 5 (by unfold maxLen; omega)
      have em : l.map bv ++ [.int .u8 (b.toNat : Int)] = (l ++ [b]).map bv := by simp [bv]
      rw [em] at hr
      obtain ⟨c2, hc2⟩ : ∃ c, c = grownCap wA (l.length + 1) cap 5 := ⟨_, rfl⟩
      rw [← hc2] at hr hge hcm2
      have hcell : ∀ j, (wA.drew.alloc (.cells (((l ++ [b]).map bv).toArray ++ Builtin.zeroCells (Value.int .u8 0).cells (c2 - (l.length + 1))) 5)).cell? ⟨wA.heap.size, j, none⟩ = (((l ++ [b]).map bv).toArray ++ Builtin.zeroCells (Value.int .u8 0).cells (c2 - (l.length + 1)))[j]? := fun j => World.cell?_alloc_new wA.drew _ _ j
      have hsz : (((l ++ [b]).map bv).toArray ++ Builtin.zeroCells (Value.int .u8 0).cells (c2 - (l.length + 1))).size = c2 := by
        rw [Array.size_append, size_zeroCells]
        simp [Value.cells]; omega
      refine ⟨_, _, hr, (hbA.drew).alloc hbA.size _, wA.heap.size, c2, by rw [hl1], hbA.size, by rw [World.size_alloc]; exact Nat.lt_succ_self _, by rw [hl1]; exact hge, hcm2, fun j hj => ?_, fun j hj => ⟨?_, ?_⟩⟩
      · rw [hcell, Array.getElem?_append_left (by simpa using hj)]
        simp only [List.getElem?_toArray, List.getElem?_map, List.getElem?_eq_getElem hj, List.getD_eq_getElem?_getD]
        rfl
      · rw [hcell, Array.getElem?_eq_getElem (by rw [hsz]; exact hj)]; rfl
      · exact World.frozen?_alloc_new wA.drew _ _ j
  obtain ⟨v', w', hr, hrb⟩ := hrun
  refine wpList_plain hgd fun K hK => ?_
  unfold Oper.wp execOp
  simp only [ho, resolve, invoke, builtin, Sem.run_bind, Sem.run_pure, Result.andThen_ok, List.map_toArray, List.map_cons, List.map_nil, hs, hx, hr]
  exact hK _ _ (k v' w' hrb)
end Go.Proofs.YtoinicmhkfomjaaGreatDoor
