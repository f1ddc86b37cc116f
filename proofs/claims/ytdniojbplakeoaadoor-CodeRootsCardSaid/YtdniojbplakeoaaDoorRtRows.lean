/-
  The contract of the reference's Roots.
-/
import Derived.Test.YtdniojbplakeoaaDoorRtPrimes
namespace Go.Proofs.YtdniojbplakeoaaDoor
open Go Go.RowKit Go.Shelf
set_option maxRecDepth 100000
set_option linter.unusedVariables false
set_option linter.unusedSimpArgs false

def u32v (d : Nat) : Value := .int .u32 (d : Int)
theorem row_append32 {n : Nat} {w1 : World} {v : Value} {ls : List Nat} (h : w1.ownsRow n 40 1 v ls.length (ls.map u32v)) (hn : n ≤ w1.heap.size) (hlen : ls.length ≤ 1000)
    {ops : Array Oper} {rest : List Oper} {o : Oper} {a : Act} {Q : Exit → Act → World → Prop} (t : Nat) (C : Array Value) (hC : C.toList = [u32v t])
    (s x : Operand) (hgd : o.guard = none) (ho : o.op = .call { callee := .builtin .append, args := #[s, x], argTypes := #[37, 37] }) (hs : a.eval s = v) (c : Nat) (hx : a.eval x = .slice (some ⟨w1.heap.size, 0, none⟩) 1 c)
    (k : ∀ g cap w', w'.ownsRow n 40 1 (.slice (some ⟨g, 0, none⟩) (ls.length + 1) cap) (ls.length + 1) ((ls ++ [t]).map u32v) → (w1.alloc (.cells C 40)).grownBy w' v.ownBlock → (v.ownBlock = some g ∨ g = w1.heap.size + 1) →
      wpList Tryd.prog ops Q rest (a.put o.dst (.slice (some ⟨g, 0, none⟩) (ls.length + 1) cap)) w') :
    wpList Tryd.prog ops Q (o :: rest) a (w1.alloc (.cells C 40)) := by
  obtain ⟨i, hi, hz0, hz1, hz2⟩ := info_parts (show (Tryd.prog.info? 40).map (fun i => (i.zero, i.size, i.bytes)) = some (some (.int .u32 0), 1, 4) by kernel_rfl)
  obtain ⟨g, cap, w', hrun, hown, hgr, hor, hlt⟩ := run_append_lies (P := Tryd.prog) (w1.alloc (.cells C 40)) 37 o.type n 40 i _ 1 4 Tryd.underlying37 hi hz0 hz1 hz2 rfl (by decide) v ls.length (ls.map u32v) (h.alloc _) ⟨w1.heap.size, 0, none⟩ 1 c [u32v t] (by simp)
    (by rw [← hC]; exact World.news_of_block (heap_alloc_new w1 _)) (fun u hu => by simp at hu; subst hu; rfl) (by omega) (by unfold maxLen; omega) (by omega) (by simp; omega) (w1.heap.size + 1) (by simp)
  exact wpList_append_run hgd s x 37 ho hs hx hrun (k g cap w' (by simpa using hown) hgr hor)

def r2 (p : Nat) : Nat := rootG p 2 41 0 % 4294967296
def r3 (p : Nat) : Nat := rootG p 3 41 0 % 4294967296
def rowH (i : Nat) : List Nat := ((primeS 310).take (min i 8)).map r2
def rowK (i : Nat) : List Nat := ((primeS 310).take i).map r3

/-- What the loop holds: two rows, apart. -/
structure QI (w : World) (i : Nat) (hv kv : Value) (W : World) : Prop where
  b : Below w.heap.size w W
  h : W.ownsRow w.heap.size 40 1 hv (rowH i).length ((rowH i).map u32v)
  k : W.ownsRow w.heap.size 40 1 kv (rowK i).length ((rowK i).map u32v)
  ne : ∀ g, hv.ownBlock = some g → kv.ownBlock = some g → False
theorem QI.below {w W W' : World} {i : Nat} {hv kv : Value} (h : QI w i hv kv W) (hb : Below W.heap.size W W') : QI w i hv kv W' :=
  ⟨h.b.trans (hb.mono h.b.size), owns_below h.h hb, owns_below h.k hb, h.ne⟩
theorem rowK_succ {i : Nat} {p : Nat} (h : i < (primeS 310).length) (hp : p = (primeS 310)[i]) : rowK (i + 1) = rowK i ++ [r3 p] := by
  unfold rowK; rw [List.take_succ_eq_append_getElem h, List.map_append, hp]; rfl
theorem rowH_succ {i : Nat} {p : Nat} (h : i < (primeS 310).length) (h8 : i < 8) (hp : p = (primeS 310)[i]) : rowH (i + 1) = rowH i ++ [r2 p] := by
  unfold rowH
  rw [Nat.min_eq_left (by omega), Nat.min_eq_left (by omega), List.take_succ_eq_append_getElem h, List.map_append, hp]; rfl
theorem rowH_same {i : Nat} (h8 : 8 ≤ i) : rowH (i + 1) = rowH i := by
  unfold rowH
  rw [Nat.min_eq_right (by omega), Nat.min_eq_right (by omega)]
/-- A row grows, the other one stays. -/
theorem QI.growH {w W w' : World} {i g cap : Nat} {hv kv : Value} {t : Nat} {C : Array Value} (q : QI w i hv kv W)
    (hown : w'.ownsRow w.heap.size 40 1 (.slice (some ⟨g, 0, none⟩) ((rowH i).length + 1) cap) ((rowH i).length + 1) ((rowH i ++ [t]).map u32v)) (hgr : (W.alloc (.cells C 40)).grownBy w' hv.ownBlock) (hor : hv.ownBlock = some g ∨ g = W.heap.size + 1) :
    Below w.heap.size w w' ∧ w'.ownsRow w.heap.size 40 1 kv (rowK i).length ((rowK i).map u32v) ∧ (∀ j, some g = some j → kv.ownBlock = some j → False) := by
  refine ⟨Below.grown (q.b.alloc q.b.size _) hgr (by simp only [World.size_alloc]; have := q.b.size; omega) (fun j e => (q.h.lt j (by rw [← e])).1), owns_old (q.k.alloc _) hgr (fun j e e' => q.ne j e'.symm e), fun j e e' => ?_⟩
  injection e with e
  subst e
  rcases hor with h | h
  · exact q.ne g h e'
  · have := (q.k.lt g e').2; omega
theorem QI.growK {w W w' : World} {i g cap : Nat} {hv kv : Value} {l m : List Nat} {t : Nat} {C : Array Value} (b : Below w.heap.size w W) (hh : W.ownsRow w.heap.size 40 1 hv m.length (m.map u32v)) (kk : W.ownsRow w.heap.size 40 1 kv l.length (l.map u32v)) (ne : ∀ g, hv.ownBlock = some g → kv.ownBlock = some g → False)
    (hgr : (W.alloc (.cells C 40)).grownBy w' kv.ownBlock) (hor : kv.ownBlock = some g ∨ g = W.heap.size + 1) :
    Below w.heap.size w w' ∧ w'.ownsRow w.heap.size 40 1 hv m.length (m.map u32v) ∧ (∀ j, hv.ownBlock = some j → some g = some j → False) := by
  refine ⟨Below.grown (b.alloc b.size _) hgr (by simp only [World.size_alloc]; have := b.size; omega) (fun j e => (kk.lt j (by rw [← e])).1), owns_old (hh.alloc _) hgr (fun j e e' => ne j e e'.symm), fun j e e' => ?_⟩
  injection e' with e'
  subst e'
  rcases hor with h | h
  · exact ne g e h
  · have := (hh.lt g e).2; omega
end Go.Proofs.YtdniojbplakeoaaDoor
