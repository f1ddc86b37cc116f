/-
  Records that are split one behind the other: plain functions; two rows of one's own, of texts and of numbers.
-/
import Derived.Test.YteplndmgfaceiaaDoorFApp
import Derived.Test.YteplndmgfaceiaaDoorFBack
namespace Go.Proofs.YteplndmgfaceiaaDoor
set_option linter.unusedSimpArgs false
set_option linter.unusedVariables false
open Go Go.RowKit
set_option maxRecDepth 100000

/-- The sectors of the first k of these texts. -/
def allK (a p : Nat) (xs : List (List UInt8)) : Nat → List (List UInt8)
  | 0 => []
  | k + 1 => allK a p xs k ++ rowL a (p + (allK a p xs k).length) (recL (xs.getD k [])) (manyN (xs.getD k []).length)
def lenK (a p : Nat) (xs : List (List UInt8)) (k : Nat) : Nat := (allK a p xs k).length
theorem allK_zero (a p : Nat) (xs : List (List UInt8)) : allK a p xs 0 = [] := rfl
theorem allK_succ (a p : Nat) (xs : List (List UInt8)) (k : Nat) : allK a p xs (k + 1) = allK a p xs k ++ rowL a (p + lenK a p xs k) (recL (xs.getD k [])) (manyN (xs.getD k []).length) := rfl
theorem lenK_succ (a p : Nat) (xs : List (List UInt8)) (k : Nat) : lenK a p xs (k + 1) = lenK a p xs k + manyN (xs.getD k []).length := by
  unfold lenK
  rw [allK_succ, List.length_append, rowL_length]
theorem allK_split (a p : Nat) (xs : List (List UInt8)) {i n : Nat} (h : i < n) : ∃ rest, allK a p xs n = allK a p xs i ++ (rowL a (p + lenK a p xs i) (recL (xs.getD i [])) (manyN (xs.getD i []).length) ++ rest) := by
  induction n with
  | zero => omega
  | succ n ih =>
    by_cases e : i = n
    · subst e
      exact ⟨[], by rw [allK_succ, List.append_nil]⟩
    · obtain ⟨rest, hr⟩ := ih (by omega)
      refine ⟨rest ++ rowL a (p + lenK a p xs n) (recL (xs.getD n [])) (manyN (xs.getD n []).length), ?_⟩
      rw [allK_succ]
      conv => lhs; rw [hr]
      simp only [List.append_assoc]
theorem lenK_mono (a p : Nat) (xs : List (List UInt8)) {i n : Nat} (h : i ≤ n) : lenK a p xs i ≤ lenK a p xs n := by
  induction n with
  | zero =>
    obtain rfl : i = 0 := by omega
    exact Nat.le_refl _
  | succ n ih =>
    by_cases e : i = n + 1
    · rw [e]; exact Nat.le_refl _
    · have := ih (by omega)
      rw [lenK_succ]
      omega
/-- The record that stands at the i-th place is told. -/
theorem row_told {a p : Nat} {xs : List (List UInt8)} {i n : Nat} (ha : 1 ≤ a ∧ a < 4294967296) (h : i < n) (hp : p + lenK a p xs n ≤ 1024) :
    joinB ((allK a p xs n).drop (lenK a p xs i)) a ((p : Int) + lenK a p xs i) = true ∧ joinT ((allK a p xs n).drop (lenK a p xs i)) a ((p : Int) + lenK a p xs i) = xs.getD i [] ∧
      joinN ((allK a p xs n).drop (lenK a p xs i)) a ((p : Int) + lenK a p xs i) = manyN (xs.getD i []).length := by
  obtain ⟨rest, hr⟩ := allK_split a p xs h
  have h1 := lenK_mono a p xs (show i + 1 ≤ n by omega)
  rw [lenK_succ] at h1
  have hj := join_back (a := a) (p := p + lenK a p xs i) (s := xs.getD i []) (rest := rest) ha (by omega)
  have e : (allK a p xs n).drop (lenK a p xs i) = rowL a (p + lenK a p xs i) (recL (xs.getD i [])) (manyN (xs.getD i []).length) ++ rest := by
    rw [hr]
    exact List.drop_left' rfl
  rw [e, show (p : Int) + (lenK a p xs i : Nat) = ((p + lenK a p xs i : Nat) : Int) by push_cast; rfl]
  exact ⟨joinB_iff.2 hj.1, hj.2.1, hj.2.2⟩
theorem allK_lens (a p : Nat) (xs : List (List UInt8)) (n : Nat) : ∀ y ∈ allK a p xs n, y.length ≤ 9223372036854775807 := by
  induction n with
  | zero => intro y hy; simp [allK] at hy
  | succ n ih =>
    intro y hy
    rw [allK_succ] at hy
    rcases List.mem_append.1 hy with h | h
    · exact ih y h
    · rw [rowL, List.mem_map] at h
      obtain ⟨i, _, rfl⟩ := h
      rw [secL, frL_length (chL_length _ _)]
      omega

/-! ### Two rows of one's own -/
def ints (f : Nat → Nat) (k : Nat) : List Value := (List.range k).map fun i => Value.int .i64 (f i : Nat)
theorem ints_length (f : Nat → Nat) (k : Nat) : (ints f k).length = k := by simp [ints]
theorem ints_succ (f : Nat → Nat) (k : Nat) : ints f (k + 1) = ints f k ++ [Value.int .i64 (f k : Nat)] := by simp [ints, List.range_succ]
/-- Behind W0, v is a row of one's own that holds these numbers. -/
def Ri (W0 W : World) (v : Value) (f : Nat → Nat) (k : Nat) : Prop := W.ownsRow W0.heap.size 3 1 v k (ints f k)
theorem Ri.nil (W : World) (f : Nat → Nat) : Ri W W (.slice none 0 0) f 0 := World.ownsRow_nil _ _ _ _
theorem owns_apart {W W' : World} {B : Nat} {e e' : TypeId} {v v' : Value} {n n' : Nat} {xs xs' : List Value} (h : W.ownsRow B e 1 v n xs) (h' : W.ownsRow B e' 1 v' n' xs') (hne : e ≠ e') (hg : W.grownBy W' v'.ownBlock) : W'.ownsRow B e 1 v n xs := by
  refine ⟨h.1, ?_⟩
  rcases h.2 with hn | ⟨g, cap, cur, rfl, hb, hgg, rest⟩
  · exact .inl hn
  · refine .inr ⟨g, cap, cur, rfl, hb, (hg.block g (lt_of_blk hgg) (fun e1 => ?_)).trans hgg, rest⟩
    rcases h'.2 with ⟨rfl, _⟩ | ⟨g', cap', cur', rfl, _, hgg', _⟩
    · simp [Value.ownBlock] at e1
    · simp only [Value.ownBlock, Option.some.injEq] at e1
      subst e1
      rw [hgg] at hgg'
      simp only [Option.some.injEq, Obj.cells.injEq] at hgg'
      exact hne hgg'.2.1
theorem owns_step {W W' : World} {B : Nat} {e : TypeId} {v : Value} {n : Nat} {xs : List Value} (h : W.ownsRow B e 1 v n xs) (hb : Below W.heap.size W W') : W'.ownsRow B e 1 v n xs := by
  refine ⟨h.1, ?_⟩
  rcases h.2 with hn | ⟨g, cap, cur, rfl, hg, hgg, rest⟩
  · exact .inl hn
  · exact .inr ⟨g, cap, cur, rfl, hg, (hb.block g (lt_of_blk hgg)).trans hgg, rest⟩
theorem Ri.step {W0 W W' : World} {v : Value} {f : Nat → Nat} {k : Nat} (h : Ri W0 W v f k) (hb : Below W.heap.size W W') : Ri W0 W' v f k := owns_step h hb
theorem Ri.form {W0 W : World} {v : Value} {f : Nat → Nat} {k : Nat} (h : Ri W0 W v f k) : ∃ A c, v = .slice A k c ∧ ∀ j, j < k → ∃ g, A = some ⟨g, 0, none⟩ ∧ W.cell? ⟨g, j, none⟩ = some (.int .i64 (f j : Nat)) := by
  rcases h.2 with ⟨rfl, h0⟩ | ⟨g, cap, cur, rfl, hg, hgg, hnc, hcm, hsz, ht⟩
  · exact ⟨none, 0, by rw [h0], fun j hj => by omega⟩
  · refine ⟨_, cap, rfl, fun j hj => ⟨g, rfl, ?_⟩⟩
    rw [cellAt hgg]
    have h3 : (cur.toList.take (k * 1))[j]? = cur.toList[j]? := List.getElem?_take_of_lt (by omega)
    rw [ht, ints, List.getElem?_map, List.getElem?_range hj] at h3
    rw [← Array.getElem?_toList, ← h3]
    rfl
/-- One number more. -/
theorem Ri.app {W0 W : World} {v : Value} {f : Nat → Nat} {k : Nat} (h : Ri W0 W v f k) (hs : W0.heap.size ≤ W.heap.size) (hk : k ≤ 100000) :
    ∃ v' W', (Builtin.append_ #[44, 44] 44 #[v, .slice (some ⟨W.heap.size, 0, none⟩) 1 1]).run Tryd.prog (W.alloc (.cells #[.int .i64 (f k : Nat)] 3)) = .ok v' W' ∧ Ri W0 W' v' f (k + 1) ∧ (W.alloc (.cells #[.int .i64 (f k : Nat)] 3)).grownBy W' v.ownBlock := by
  obtain ⟨i, hi, hz0, hz1, hz2⟩ := info_parts (show (Tryd.prog.info? 3).map (fun i => (i.zero, i.size, i.bytes)) = some (some (.int .i64 0), 1, 8) by kernel_rfl)
  obtain ⟨g', cap', W', h1, h2, h3, _, _⟩ := run_append_lies (P := Tryd.prog) (W.alloc (.cells #[.int .i64 (f k : Nat)] 3)) 44 44 W0.heap.size 3 i _ 1 8 Tryd.underlying44 hi hz0 hz1 hz2 rfl (by decide) v k (ints f k) (h.alloc _) ⟨W.heap.size, 0, none⟩ 1 1 [.int .i64 (f k : Nat)] (by simp) (World.news_of_block (cs := #[.int .i64 (f k : Nat)]) (heap_alloc_new W _)) (by simp [Value.oneCell']) (by decide) (by unfold maxLen; omega) (by omega) (by simp; omega) _ rfl
  exact ⟨_, W', h1, by unfold Ri; rw [ints_succ]; exact h2, h3⟩
/-- Texts are appended; the numbers stay. -/
theorem Ro.app' {W0 W : World} {v u : Value} {xs ys : List (List UInt8)} {A : Option Addr} {f : Nat → Nat} {k : Nat} (h : Ro W0 W v xs) (hi : Ri W0 W u f k) (hy : Tx W A ys) (c : Nat) (hm : xs.length + ys.length ≤ 1000000) :
    ∃ v' W', (Builtin.append_ #[26, 26] 26 #[v, .slice A ys.length c]).run Tryd.prog W = .ok v' W' ∧ Ro W0 W' v' (xs ++ ys) ∧ Ri W0 W' u f k := by
  rcases Nat.eq_zero_or_pos ys.length with h0 | hp
  · obtain rfl : ys = [] := List.length_eq_zero_iff.1 h0
    exact ⟨v, W, app_none h.1 A, by simpa using h, hi⟩
  · obtain ⟨i, hi', hz0, hz1, hz2⟩ := info_parts info9t
    rcases hy with rfl | ⟨b, o, rfl, hlt, hc⟩
    · simp at hp
    · obtain ⟨g', cap', W', h1, h2, h3, _, _⟩ := run_append_lies (P := Tryd.prog) W 26 26 W0.heap.size 9 i _ 1 16 Tryd.underlying26 hi' hz0 hz1 hz2 rfl (by decide) _ xs.length (txs xs) h.1 ⟨b, o, none⟩ ys.length c (txs ys) (by simp [txs_length]) (fun j u hu => by
        have hj : j < ys.length := by have := (List.getElem?_eq_some_iff.1 hu).1; simpa [txs_length] using this
        rw [Go.WideShapes.add_plain, hc j hj, ← hu, txs, List.getElem?_map, List.getElem?_eq_getElem hj]
        rfl) (by
        intro u hu
        obtain ⟨y, _, rfl⟩ := List.mem_map.1 hu
        rfl) hp (by unfold maxLen; omega) (by omega) h.2.size _ rfl
      refine ⟨_, W', h1, ⟨?_, Below.grown h.2 h3 h.2.size fun j hj => (h.1.lt j hj).1⟩, owns_apart hi h.1 (by decide) h3⟩
      rw [List.length_append, show txs (xs ++ ys) = txs xs ++ txs ys from List.map_append]
      exact h2
/-- A number is appended; the texts stay. -/
theorem Ri.app' {W0 W : World} {v u : Value} {xs : List (List UInt8)} {f : Nat → Nat} {k : Nat} (h : Ro W0 W v xs) (hi : Ri W0 W u f k) (hk : k ≤ 100000) :
    ∃ u' W', (Builtin.append_ #[44, 44] 44 #[u, .slice (some ⟨W.heap.size, 0, none⟩) 1 1]).run Tryd.prog (W.alloc (.cells #[.int .i64 (f k : Nat)] 3)) = .ok u' W' ∧ Ri W0 W' u' f (k + 1) ∧ Ro W0 W' v xs := by
  obtain ⟨u', W', h1, h2, h3⟩ := hi.app h.2.size hk
  refine ⟨u', W', h1, h2, owns_apart (h.step (below_alloc W _)).1 (hi.step (below_alloc W (.cells #[.int .i64 (f k : Nat)] 3))) (by decide) h3, ?_⟩
  exact Below.grown (h.step (below_alloc W _)).2 h3 (h.step (below_alloc W _)).2.size fun j hj => ((hi.step (below_alloc W (.cells #[.int .i64 (f k : Nat)] 3))).lt j hj).1
end Go.Proofs.YteplndmgfaceiaaDoor
