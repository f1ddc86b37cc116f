/-
  Rows of texts of a call's own, that grow.
-/
import Derived.Test.YtanfonpbnamjmaaDoorCW
namespace Go.Proofs.YtanfonpbnamjmaaDoor
open Go Go.RowKit Go.Shelf
set_option maxRecDepth 100000

theorem info9' : (Tryd.prog.info? 9).map (fun i => (i.zero, i.size, i.bytes)) = some (some (.string ⟨#[]⟩), 1, 16) := by kernel_rfl
/-- An append of one text to a row of one's own. -/
theorem row_append {n : Nat} {w1 : World} {v : Value} {ls : List (List UInt8)} (h : w1.ownsRow n 9 1 v ls.length (ls.map sv)) (hn : n ≤ w1.heap.size) (hlen : ls.length ≤ 1000000)
    {ops : Array Oper} {rest : List Oper} {o : Oper} {a : Act} {Q : Exit → Act → World → Prop} (t : List UInt8) (C : Array Value) (hC : C.toList = [sv t])
    (s x : Operand) (hgd : o.guard = none) (ho : o.op = .call { callee := .builtin .append, args := #[s, x], argTypes := #[28, 28] }) (hs : a.eval s = v) (c : Nat) (hx : a.eval x = .slice (some ⟨w1.heap.size, 0, none⟩) 1 c)
    (k : ∀ g cap w', w'.ownsRow n 9 1 (.slice (some ⟨g, 0, none⟩) (ls.length + 1) cap) (ls.length + 1) ((ls ++ [t]).map sv) → (w1.alloc (.cells C 9)).grownBy w' v.ownBlock → (v.ownBlock = some g ∨ g = w1.heap.size + 1) → g < w'.heap.size →
      wpList Tryd.prog ops Q rest (a.put o.dst (.slice (some ⟨g, 0, none⟩) (ls.length + 1) cap)) w') :
    wpList Tryd.prog ops Q (o :: rest) a (w1.alloc (.cells C 9)) := by
  obtain ⟨i, hi, hz0, hz1, hz2⟩ := info_parts info9'
  obtain ⟨g, cap, w', hrun, hown, hgr, hor, hlt⟩ := run_append_lies (P := Tryd.prog) (w1.alloc (.cells C 9)) 28 o.type n 9 i (.string ⟨#[]⟩) 1 16 Tryd.underlying28 hi hz0 hz1 hz2 rfl (by decide) v ls.length (ls.map sv) (h.alloc _) ⟨w1.heap.size, 0, none⟩ 1 c [sv t] (by simp)
    (by rw [← hC]; exact World.news_of_block (heap_alloc_new w1 _)) (fun u hu => by simp at hu; subst hu; rfl) (by omega) (by unfold maxLen; omega) (by omega) (by simp; omega) (w1.heap.size + 1) (by simp)
  refine wpList_plain hgd fun K hK' => ?_
  unfold Oper.wp execOp
  simp only [ho, resolve, invoke, builtin, Sem.run_bind, Sem.run_pure, Result.andThen_ok, List.map_toArray, List.map_cons, List.map_nil, hs, hx, hrun]
  exact hK' _ _ (k g cap w' (by simpa using hown) hgr hor hlt)

theorem row_appendB {n : Nat} {w1 : World} {v : Value} {ls : List (List UInt8)} (h : w1.ownsRow n 9 1 v ls.length (ls.map sv)) (hn : n ≤ w1.heap.size) (hlen : ls.length ≤ 1000000)
    {ops : Array Oper} {rest : List Oper} {o : Oper} {a : Act} {Q : Exit → Act → World → Prop} (t : List UInt8) (C : Array Value) (hC : C.toList = [sv t])
    (s x : Operand) (hgd : o.guard = none) (ho : o.op = .call { callee := .builtin .append, args := #[s, x], argTypes := #[28, 28] }) (hs : a.eval s = v) (c B : Nat) (hx : a.eval x = .slice (some ⟨B, 0, none⟩) 1 c) (hB : w1.heap.size = B)
    (k : ∀ g cap w', w'.ownsRow n 9 1 (.slice (some ⟨g, 0, none⟩) (ls.length + 1) cap) (ls.length + 1) ((ls ++ [t]).map sv) → (w1.alloc (.cells C 9)).grownBy w' v.ownBlock → (v.ownBlock = some g ∨ g = w1.heap.size + 1) → g < w'.heap.size →
      wpList Tryd.prog ops Q rest (a.put o.dst (.slice (some ⟨g, 0, none⟩) (ls.length + 1) cap)) w') :
    wpList Tryd.prog ops Q (o :: rest) a (w1.alloc (.cells C 9)) := by
  subst hB
  exact row_append h hn hlen t C hC s x hgd ho hs c hx k
theorem row_appendL {n : Nat} {w1 : World} {v : Value} {ls xs : List (List UInt8)} (h : w1.ownsRow n 9 1 v ls.length (ls.map sv)) (hn : n ≤ w1.heap.size) (hlen : ls.length + xs.length ≤ 1000000) (hx0 : 0 < xs.length) {g0 : Nat} (hxs : ∀ j, j < xs.length → w1.cell? ⟨g0, j, none⟩ = some (sv (xs.getD j [])))
    {ops : Array Oper} {rest : List Oper} {o : Oper} {a : Act} {Q : Exit → Act → World → Prop}
    (s x : Operand) (hgd : o.guard = none) (ho : o.op = .call { callee := .builtin .append, args := #[s, x], argTypes := #[28, 28] }) (hs : a.eval s = v) (c : Nat) (hx : a.eval x = .slice (some ⟨g0, 0, none⟩) xs.length c)
    (k : ∀ g cap w', w'.ownsRow n 9 1 (.slice (some ⟨g, 0, none⟩) (ls.length + xs.length) cap) (ls.length + xs.length) ((ls ++ xs).map sv) → w1.grownBy w' v.ownBlock → (v.ownBlock = some g ∨ g = w1.heap.size) → g < w'.heap.size →
      wpList Tryd.prog ops Q rest (a.put o.dst (.slice (some ⟨g, 0, none⟩) (ls.length + xs.length) cap)) w') :
    wpList Tryd.prog ops Q (o :: rest) a w1 := by
  obtain ⟨i, hi, hz0, hz1, hz2⟩ := info_parts info9'
  obtain ⟨g, cap, w', hrun, hown, hgr, hor, hlt⟩ := run_append_lies (P := Tryd.prog) w1 28 o.type n 9 i (.string ⟨#[]⟩) 1 16 Tryd.underlying28 hi hz0 hz1 hz2 rfl (by decide) v ls.length (ls.map sv) h ⟨g0, 0, none⟩ xs.length c (xs.map sv) (by simp)
    (fun j u hu => by
      have hj : j < xs.length := by have := (List.getElem?_eq_some_iff.1 hu).1; simpa using this
      have e1 : (⟨g0, 0, none⟩ : Addr).add j = ⟨g0, j, none⟩ := by unfold Addr.add; split <;> simp_all
      rw [e1, hxs j hj]
      rw [List.getElem?_map, List.getElem?_eq_getElem hj] at hu
      rw [List.getD_eq_getElem?_getD, List.getElem?_eq_getElem hj]
      simpa using hu)
    (fun u hu => by obtain ⟨z, _, rfl⟩ := List.mem_map.1 hu; rfl) hx0 (by unfold maxLen; omega) (by omega) hn w1.heap.size rfl
  refine wpList_plain hgd fun K hK' => ?_
  unfold Oper.wp execOp
  simp only [ho, resolve, invoke, builtin, Sem.run_bind, Sem.run_pure, Result.andThen_ok, List.map_toArray, List.map_cons, List.map_nil, hs, hx, hrun]
  exact hK' _ _ (k g cap w' (by simpa using hown) hgr hor hlt)
theorem row_append0 {n : Nat} {w1 : World} {v : Value} {xs : List (List UInt8)} (h : w1.ownsRow n 9 1 v 0 []) (hn : n ≤ w1.heap.size) (hlen : xs.length ≤ 1000000) (hx0 : 0 < xs.length) {g0 : Nat} (hxs : ∀ j, j < xs.length → w1.cell? ⟨g0, j, none⟩ = some (sv (xs.getD j [])))
    {ops : Array Oper} {rest : List Oper} {o : Oper} {a : Act} {Q : Exit → Act → World → Prop}
    (s x : Operand) (hgd : o.guard = none) (ho : o.op = .call { callee := .builtin .append, args := #[s, x], argTypes := #[28, 28] }) (hs : a.eval s = v) (c : Nat) (hx : a.eval x = .slice (some ⟨g0, 0, none⟩) xs.length c)
    (k : ∀ g cap w', w'.ownsRow n 9 1 (.slice (some ⟨g, 0, none⟩) xs.length cap) xs.length (xs.map sv) → w1.grownBy w' v.ownBlock → (v.ownBlock = some g ∨ g = w1.heap.size) → g < w'.heap.size →
      wpList Tryd.prog ops Q rest (a.put o.dst (.slice (some ⟨g, 0, none⟩) xs.length cap)) w') :
    wpList Tryd.prog ops Q (o :: rest) a w1 := by
  refine row_appendL (ls := []) h hn (by simpa using hlen) hx0 hxs s x hgd ho hs c hx fun g cap w' h1 h2 h3 h4 => ?_
  rw [show ([] : List (List UInt8)).length + xs.length = xs.length from Nat.zero_add _] at h1 ⊢
  exact k g cap w' (by simpa using h1) h2 h3 h4
/-- An append of nothing. -/
theorem run_append_of_nil (w : World) (base : Nat) (v : Value) (n : Nat) (xs : List Value) (hown : w.ownsRow base 9 1 v n xs) (c : Nat) : (Builtin.append_ #[28, 28] 28 #[v, .slice none 0 c]).run Tryd.prog w = .ok v w := by
  obtain ⟨i, hi, _, _, _⟩ := info_parts info9'
  rcases hown.2 with ⟨rfl, rfl⟩ | ⟨g, cap, cur, rfl, _, _, hnc, _⟩
  · simp [Builtin.append_, run_underlying Tryd.underlying28, sizeOf, typeInfo, hi, Builtin.lenOf, Builtin.firstCells]
  · simp [Builtin.append_, run_underlying Tryd.underlying28, sizeOf, typeInfo, hi, Builtin.lenOf, Builtin.firstCells, hnc, storeCells]
theorem wpList_append_run {P : Program} {ops : Array Oper} {rest : List Oper} {o : Oper} {a : Act} {w w' : World} {Q : Exit → Act → World → Prop} {v v' xv : Value}
    (hg : o.guard = none) (s x : Operand) (t : TypeId) (hop : o.op = Op.call { callee := Callee.builtin Builtin.append, args := #[s, x], argTypes := #[t, t] }) (hs : a.eval s = v) (hx : a.eval x = xv)
    (hrun : (Builtin.append_ #[t, t] o.type #[v, xv]).run P w = .ok v' w') (hK : wpList P ops Q rest (a.put o.dst v') w') : wpList P ops Q (o :: rest) a w :=
  wpList_plain hg fun K hK' => by
    unfold Oper.wp execOp
    simp only [hop, resolve, invoke, builtin, Sem.run_bind, Sem.run_pure, Result.andThen_ok, List.map_toArray, List.map_cons, List.map_nil, hs, hx, hrun]
    exact hK' _ _ hK

theorem owns_old {w w' : World} {row : Option Nat} {n : Nat} {e : TypeId} {v : Value} {m : Nat} {xs : List Value} (h : w.ownsRow n e 1 v m xs) (hk : w.grownBy w' row) (hs : ∀ g, v.ownBlock = some g → some g ≠ row) : w'.ownsRow n e 1 v m xs := by
  refine ⟨h.1, ?_⟩
  rcases h.2 with hn | ⟨g, cap, cur, rfl, hb, hgg, rest⟩
  · exact .inl hn
  · exact .inr ⟨g, cap, cur, rfl, hb, (hk.block g (lt_of_blk hgg) (hs g rfl)).trans hgg, rest⟩
theorem owns_below {w w' : World} {n : Nat} {e : TypeId} {v : Value} {m : Nat} {xs : List Value} (h : w.ownsRow n e 1 v m xs) (hb : Below w.heap.size w w') : w'.ownsRow n e 1 v m xs := by
  refine ⟨h.1, ?_⟩
  rcases h.2 with hn | ⟨g, cap, cur, rfl, hg, hgg, rest⟩
  · exact .inl hn
  · exact .inr ⟨g, cap, cur, rfl, hg, (hb.block g (lt_of_blk hgg)).trans hgg, rest⟩
theorem owns_set {w : World} {n : Nat} {e : TypeId} {v : Value} {m : Nat} {xs : List Value} (h : w.ownsRow n e 1 v m xs) {p : Addr} (hp : ∀ g, v.ownBlock = some g → p.block ≠ g) (u : Value) : (w.setCell p u).ownsRow n e 1 v m xs := by
  refine ⟨h.1, ?_⟩
  rcases h.2 with hn | ⟨g, cap, cur, rfl, hg, hgg, rest⟩
  · exact .inl hn
  · exact .inr ⟨g, cap, cur, rfl, hg, (Below.heap_setCell _ _ _ _ (fun e => hp g rfl e.symm)).trans hgg, rest⟩
end Go.Proofs.YtanfonpbnamjmaaDoor
