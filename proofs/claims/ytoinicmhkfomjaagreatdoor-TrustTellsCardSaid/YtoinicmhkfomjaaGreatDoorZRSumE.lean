/-
  An append of words, its length told; a turn's row.
-/
import Derived.Test.YtoinicmhkfomjaaGreatDoorZRSumD
namespace Go.Proofs.YtoinicmhkfomjaaGreatDoor
open Go Go.RowKit
set_option maxRecDepth 100000

theorem gw_app8 {wt w1 : World} (hb : Below wt.heap.size wt w1) (s : St) (x : W32) (gv : Nat) (hg : gv < w1.heap.size) (hc : ∀ j, j < 8 → w1.cell? ⟨gv, j, none⟩ = some (wv (s.l.getD j 0)))
    {ops : Array Oper} {rest : List Oper} {o : Oper} {a : Act} {Q : Exit → Act → World → Prop}
    (ss xx : Operand) (hgd : o.guard = none) (ho : o.op = .call { callee := .builtin .append, args := #[ss, xx], argTypes := #[129, 129] }) (hs : a.eval ss = .slice (some ⟨w1.heap.size, 0, none⟩) 1 1) (c : Nat) (hx : a.eval xx = .slice (some ⟨gv, 0, none⟩) 7 c)
    (k : ∀ g cap w', GW wt (.slice (some ⟨g, 0, none⟩) 8 cap) ([x] ++ s.l.take 7) w' → w'.cell? ⟨g, 4, none⟩ = some (wv s.d) → w'.frozen? ⟨g, 4, none⟩ = false → wt.heap.size ≤ g → wpList Tryz.prog ops Q rest (a.put o.dst (.slice (some ⟨g, 0, none⟩) 8 cap)) w') :
    wpList Tryz.prog ops Q (o :: rest) a (w1.alloc (.cells #[wv x] 104)) := by
  have h := GW.lit hb [x] #[wv x] rfl (by simp)
  refine gw_app h (by simp) (s.l.take 7) ⟨gv, 0, none⟩ (by simp [St.l]) (fun j hj => ?_) ss xx hgd ho hs 7 c rfl hx fun g cap w' hg2 => ?_
  · have hj7 : j < 7 := by simpa [St.l] using hj
    rw [Addr.add_lit, Nat.zero_add]
    rw [World.cell?_of_block (a := ⟨gv, j, none⟩) (Lib.alloc_old w1 _ gv hg), hc j (by omega)]
    simp only [List.getD_eq_getElem?_getD]
    rw [List.getElem?_take_of_lt hj7]
  · have hg3 : GW wt (.slice (some ⟨g, 0, none⟩) 8 cap) ([x] ++ s.l.take 7) w' := hg2
    exact k g cap w' hg3 (hg3.row 4 (by show 4 < 8; decide)) (World.ownsRow.frozenAt (show w'.ownsRow wt.heap.size 104 1 (.slice (some ⟨g, 0, none⟩) 8 cap) 8 (([x] ++ s.l.take 7).map wv) from hg3.2) 4) (hg3.2.lt g rfl).1

theorem rrot_z (x : W32) (z : Int) (hz : z = (z.toNat : Int) ∧ 0 < z.toNat ∧ z.toNat < 32) (W : World) (m : Nat) : Calls Tryz.prog 106 #[wv x, .int .u64 z] (W.drewN m) fun e w'' => e = .returned (wv (rotP x z.toNat)) ∧ ∃ k, w'' = W.drewN k :=
  rrot_q x z.toNat z hz.1 hz.2.1 hz.2.2 W m
end Go.Proofs.YtoinicmhkfomjaaGreatDoor
