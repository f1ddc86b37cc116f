/-
  An append onto a row of words, whose old cells stay as they were.
-/
import Derived.Test.YtoinicmhkfomjaaGreatDoorZRSumC
namespace Go.Proofs.YtoinicmhkfomjaaGreatDoor
open Go Go.RowKit
set_option maxRecDepth 100000

theorem gw_run2 {w0 w1 : World} {gw c0 : Nat} {l : List W32} (h : GW w0 (.slice (some ⟨gw, 0, none⟩) l.length c0) l w1) (hlen : l.length ≤ 1000000) (hpos : 0 < l.length) (x : W32) (y : Value) (hy : y = wv x) :
    ∃ v' w', (Builtin.append_ #[129, 129] 129 #[.slice (some ⟨gw, 0, none⟩) l.length c0, .slice (some ⟨w1.heap.size, 0, none⟩) 1 1]).run Tryz.prog (w1.alloc (.cells #[y] 104)) = .ok v' w' ∧ GW w0 v' (l ++ [x]) w' ∧ ∀ j, j < l.length → w'.cell? ⟨gw, j, none⟩ = some (wv (l.getD j 0)) := by
  subst hy
  obtain ⟨i, hi, hz0, hz1, hz2⟩ := info_parts info40'
  have hsz := h.1.size
  have hrow := h.row
  obtain ⟨wA, hwA⟩ : ∃ wA, wA = w1.alloc (.cells #[wv x] 104) := ⟨_, rfl⟩
  have hbA : Below w0.heap.size w0 wA := by rw [hwA]; exact h.1.alloc hsz _
  have hownA : wA.ownsRow w0.heap.size 104 1 (.slice (some ⟨gw, 0, none⟩) l.length c0) (l.map wv).length (l.map wv) := by rw [hwA]; exact h.2.alloc _
  have hnews : ∀ (j : Nat) (u : Value), [wv x][j]? = some u → wA.cell? ((⟨w1.heap.size, 0, none⟩ : Addr).add j) = some u := by
    rw [hwA]
    exact World.news_of_block (cs := #[wv x]) (heap_alloc_new w1 _)
  have hone : ∀ u ∈ [wv x], u.oneCell' = true := by simp [Value.oneCell']
  have hzA : wA.heap.size = w1.heap.size + 1 := by rw [hwA]; simp
  have hgl : gw < w1.heap.size := (h.2.lt gw rfl).2
  have hgw0 : w0.heap.size ≤ gw := (h.2.lt gw rfl).1
  have hcA : ∀ j, j < l.length → wA.cell? ⟨gw, j, none⟩ = some (wv (l.getD j 0)) := fun j hj => by
    rw [hwA]
    exact (World.cell?_of_block (a := ⟨gw, j, none⟩) (Lib.alloc_old _ _ _ hgl)).trans (hrow j hj)
  rw [List.length_map] at hownA
  rw [← hwA]
  have e1 : l.map wv ++ [wv x] = (l ++ [x]).map wv := by simp
  have el : (l ++ [x]).length = l.length + 1 := by simp
  rcases hownA.2 with ⟨h', _⟩ | ⟨g, cap, cur, hv, hbg, hg, hnc, hcm, hcs, htake⟩
  · simp at h'
  · obtain ⟨rfl, rfl⟩ : gw = g ∧ c0 = cap := by simpa using hv
    rw [Nat.mul_one] at hcs htake
    by_cases hroom : l.length + 1 ≤ c0
    · have hr := run_append_room (P := Tryz.prog) wA 129 129 104 i Tryz.underlying129 hi gw l.length c0 cur hg ⟨w1.heap.size, 0, none⟩ 1 1 [wv x] (by rw [hz1]; rfl) hnews hone hroom (by rw [hz1]; simp; omega)
      rw [hz1, Nat.mul_one, htake] at hr
      have hrow2 := setRow_heap wA gw cur ((l.map wv) ++ [wv x] ++ cur.toList.drop (l.length + [wv x].length)).toArray 104 (0, 0) hg
      refine ⟨_, _, hr, ⟨below_setRow hbA hgw0 _, ?_⟩, fun j hj => ?_⟩
      · rw [List.length_map, el]
        refine ⟨by simp, .inr ⟨gw, c0, _, rfl, hbg, hrow2, hroom, hcm, ?_, ?_⟩⟩
        · simp only [List.size_toArray, List.length_append, List.length_map, List.length_drop, Array.length_toList, List.length_cons, List.length_nil]
          omega
        · rw [e1, Nat.mul_one, ← el]
          have : ((l ++ [x]).map wv).length = (l ++ [x]).length := List.length_map _
          rw [← this]
          exact List.take_left
      · rw [cell_of_row _ _ _ _ _ _ hrow2]
        simp [List.getD_eq_getElem?_getD, List.getElem?_append_left, hj]
    · have holds : ∀ (j : Nat) (u : Value), (l.map wv)[j]? = some u → wA.cell? ((⟨gw, 0, none⟩ : Addr).add j) = some u := fun j u hu => by
        have hj : j < l.length := by
          have := (List.getElem?_eq_some_iff.1 hu).1
          simpa using this
        rw [Addr.add_lit]
        show wA.cell? ⟨gw, 0 + j, none⟩ = some u
        rw [Nat.zero_add, hcA j hj, ← hu]
        simp [List.getD_eq_getElem?_getD, hj]
      have hr := run_append_grow (P := Tryz.prog) wA 129 129 104 i (.int .u32 0) Tryz.underlying129 hi hz0 ⟨gw, 0, none⟩ l.length c0 (l.map wv) (by rw [hz1]; simp) holds ⟨w1.heap.size, 0, none⟩ 1 1 [wv x] (by rw [hz1]; rfl) hnews (by omega) (by omega) (growslice_fits (by omega) (by rw [hz2]; omega))
      have hge := grownCap_ge wA (l.length + 1) c0 104
      have hcm2 := grownCap_le_maxLen wA (l.length + 1) c0 104 (by unfold maxLen; omega)
      refine ⟨_, _, hr, ⟨(hbA.drew).alloc hbA.size _, ?_⟩, fun j hj => ?_⟩
      · rw [List.length_map, el]
        refine ⟨by simp, .inr ⟨wA.heap.size, _, _, rfl, hbA.size, heap_alloc_new wA.drew _, hge, hcm2, ?_, ?_⟩⟩
        · simp only [Array.size_append, List.size_toArray, size_zeroCells, List.length_map, List.length_cons, List.length_nil, Value.cells]
          simp
          omega
        · rw [Nat.mul_one, ← el, Array.toList_append, Array.toList_append]
          show List.take _ ((l.map wv ++ [wv x]) ++ _) = _
          rw [e1]
          have : ((l ++ [x]).map wv).length = (l ++ [x]).length := List.length_map _
          rw [← this]
          exact List.take_left
      · exact (World.cell?_of_block (a := ⟨gw, j, none⟩) (Lib.alloc_old wA.drew _ gw (by show gw < wA.heap.size; omega))).trans (hcA j hj)

/-- The words that a turn reads. -/
def TC (gv gk gw k : Nat) (t : St) (kw xw : W32) (W : World) : Prop :=
  W.cell? ⟨gv, 0, none⟩ = some (wv t.a) ∧ W.cell? ⟨gv, 1, none⟩ = some (wv t.b) ∧ W.cell? ⟨gv, 2, none⟩ = some (wv t.c) ∧ W.cell? ⟨gv, 3, none⟩ = some (wv t.d) ∧
  W.cell? ⟨gv, 4, none⟩ = some (wv t.e) ∧ W.cell? ⟨gv, 5, none⟩ = some (wv t.f) ∧ W.cell? ⟨gv, 6, none⟩ = some (wv t.g) ∧ W.cell? ⟨gv, 7, none⟩ = some (wv t.h) ∧
  W.cell? ⟨gk, k, none⟩ = some (wv kw) ∧ W.cell? ⟨gw, k, none⟩ = some (wv xw)
theorem TC.drewN {gv gk gw k : Nat} {t : St} {kw xw : W32} {W : World} (h : TC gv gk gw k t kw xw W) (n : Nat) : TC gv gk gw k t kw xw (W.drewN n) := h
end Go.Proofs.YtoinicmhkfomjaaGreatDoor
