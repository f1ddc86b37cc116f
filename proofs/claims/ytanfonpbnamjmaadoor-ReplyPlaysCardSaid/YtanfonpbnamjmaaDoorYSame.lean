/-
  The contracts of the reference's comparisons: of rows of texts, of replies.
-/
import Derived.Test.YtanfonpbnamjmaaDoorYLineC
namespace Go.Proofs.YtanfonpbnamjmaaDoor
open Go Go.RowKit Go.Shelf
set_option maxRecDepth 100000

/-- A row of texts, as a slice's value names it. -/
def RowIs (w : World) (v : Value) (xs : List (List UInt8)) : Prop :=
  ∃ A c, v = .slice A xs.length c ∧ (0 < xs.length → ∃ g, A = some ⟨g, 0, none⟩ ∧ g < w.heap.size ∧ (∀ j, j < xs.length → w.cell? ⟨g, j, none⟩ = some (sv (xs.getD j []))))
theorem RowIs.step {w w' : World} {v : Value} {xs : List (List UInt8)} (h : RowIs w v xs) (hb : Below w.heap.size w w') : RowIs w' v xs := by
  obtain ⟨A, c, rfl, h⟩ := h
  refine ⟨A, c, rfl, fun hp => ?_⟩
  obtain ⟨g, e, hl, hc⟩ := h hp
  exact ⟨g, e, Nat.lt_of_lt_of_le hl hb.size, fun j hj => (hb.cell (p := ⟨g, j, none⟩) hl).trans (hc j hj)⟩
theorem Rw.row {n : Nat} {w : World} {G : List Nat} {v : Value} {xs : List (List UInt8)} (h : Rw n w G v xs) : RowIs w v xs := by
  obtain ⟨A, c, rfl⟩ := h.form
  refine ⟨A, c, rfl, fun hp => ?_⟩
  obtain ⟨g, e, hl, _⟩ := h.cell hp
  refine ⟨g, e, hl, fun j hj => ?_⟩
  obtain ⟨g', e', _, _, _, hc⟩ := h.cell hj
  rw [e] at e'
  obtain rfl : g = g' := by simpa using e'
  exact hc
/-- A literal of texts. -/
theorem lit_row {w : World} {g c : Nat} {xs : List (List UInt8)} (h : w.heap[g]? = some (.cells (xs.map sv).toArray 9 (0, 0))) : RowIs w (.slice (some ⟨g, 0, none⟩) xs.length c) xs := by
  refine ⟨_, c, rfl, fun _ => ⟨g, rfl, lt_of_blk h, fun j hj => ?_⟩⟩
  rw [cellAt h]
  simp [List.getD_eq_getElem?_getD, hj]
theorem rows_next {xs ys : List (List UInt8)} {k : Nat} (ha : ∀ j, j < k → xs.getD j [] = ys.getD j []) (h : xs.getD k [] = ys.getD k []) : ∀ j, j < k + 1 → xs.getD j [] = ys.getD j [] := by
  intro j hj
  by_cases e : j = k
  · rw [e]; exact h
  · exact ha j (by omega)
theorem rows_eq {xs ys : List (List UInt8)} (hl : xs.length = ys.length) (ha : ∀ j, j < xs.length → xs.getD j [] = ys.getD j []) : xs = ys := by
  refine List.ext_getElem hl fun j h1 h2 => ?_
  have := ha j h1
  rwa [List.getD_eq_getElem?_getD, List.getD_eq_getElem?_getD, List.getElem?_eq_getElem h1, List.getElem?_eq_getElem h2] at this
theorem below_drewN {n : Nat} {w w' : World} (h : Below n w w') (k : Nat) : Below n w (w'.drewN k) := ⟨h.os, h.tape, h.output, h.size, h.block⟩

set_option maxHeartbeats 4000000 in
theorem lsame_any (xs ys : List (List UInt8)) (v u : Value) (w : World) (hx : RowIs w v xs) (hy : RowIs w u ys) (hxl : xs.length ≤ 1000000) (hyl : ys.length ≤ 1000000) :
    Calls Tryd.prog 80 #[v, u] w fun e w' => e = .returned (.bool (xs == ys)) ∧ Below w.heap.size w w' := by
  obtain ⟨A, c, rfl, hx⟩ := hx
  obtain ⟨B, d, rfl, hy⟩ := hy
  by_cases hl : xs.length = ys.length
  · have hne : ((xs.length : Int) != (ys.length : Int)) = false := by rw [hl]; simp
    have HX := Lib.hid hx
    have HY := Lib.hid hy
    have HLL := Lib.hid hl
    have HB := Lib.hid (Below.refl w.heap.size w)
    clear hx hy hl
    go_enter Tryd.func80, Tryd.ntmps80
    go_wp2_with fail
    go_loopw [5] (fun i wr => ∃ k : Nat, k ≤ xs.length ∧ i = .int .i64 k ∧ (∀ j, j < k → xs.getD j [] = ys.getD j []) ∧ Below w.heap.size w wr) (fun i _ => xs.length - (intOf i).toNat)
    case atStart => exact ⟨0, Nat.zero_le _, rfl, fun j hj => absurd hj (by omega), HB.out⟩
    case round =>
      obtain ⟨k, hk, rfl, ha, hbl⟩ := hrel
      have HA := Lib.hid ha
      have HL := Lib.hid hbl
      clear ha hbl
      by_cases hlt : k < xs.length
      · have hlt2 : k < ys.length := by have := HLL.out; omega
        obtain ⟨g, rfl, hg, hc⟩ := HX.out (by omega)
        obtain ⟨g2, rfl, hg2, hc2⟩ := HY.out (by omega)
        obtain ⟨x, hxe⟩ : ∃ x, x = xs.getD k [] := ⟨_, rfl⟩
        obtain ⟨y, hye⟩ : ∃ y, y = ys.getD k [] := ⟨_, rfl⟩
        have c1 : wr.cell? ⟨g, k, none⟩ = some (sv x) := by rw [hxe]; exact (HL.out.cell (p := ⟨g, k, none⟩) hg).trans (hc k hlt)
        have c2 : wr.cell? ⟨g2, k, none⟩ = some (sv y) := by rw [hye]; exact (HL.out.cell (p := ⟨g2, k, none⟩) hg2).trans (hc2 k hlt2)
        have HXE := Lib.hid hxe
        have HYE := Lib.hid hye
        clear hxe hye hc hc2
        by_cases hxy : x = y
        · have HN := Lib.hid (rows_next HA.out (by rw [← HXE.out, ← HYE.out, hxy]))
          subst hxy
          go_wp2_with fail
          go_quiet (fail)
          go_wp2_with fail
          go_roundw
          case rel => exact ⟨k + 1, by omega, by go_num, HN.out, below_drewN HL.out _⟩
          case measure => simp [intOf]; omega
        · have HF := Lib.hid (show (xs == ys) = false by
            rw [beq_eq_false_iff_ne]; intro e; exact hxy (by rw [HXE.out, HYE.out, e]))
          have e1 : (x == y) = false := by simpa using hxy
          have e2 : (x != y) = true := by simpa using hxy
          have HXY := Lib.hid hxy
          clear hxy
          go_wp2_with fail
          go_quiet (fail)
          go_wp2_with fail
          go_ret
          rw [HF.out]
          exact ⟨rfl, below_drewN HL.out _⟩
      · obtain rfl : k = xs.length := by omega
        have HE := Lib.hid (show (xs == ys) = true by rw [beq_iff_eq]; exact rows_eq HLL.out HA.out)
        go_wp2_with fail
        go_ret
        rw [HE.out]
        exact ⟨rfl, HL.out⟩
  · have hne : ((xs.length : Int) != (ys.length : Int)) = true := by rw [bne_iff_ne]; omega
    have HF := Lib.hid (show (xs == ys) = false by rw [beq_eq_false_iff_ne]; intro e; exact hl (by rw [e]))
    clear hx hy hl
    go_enter Tryd.func80, Tryd.ntmps80
    go_wp2_with fail
    go_ret
    rw [HF.out]
    exact ⟨rfl, Below.refl _ _⟩

/-! ### Replies -/
set_option maxHeartbeats 8000000 in
theorem rsame_any (c1 c2 : Nat) (a1 a2 : List UInt8) (xs ys : List (List UInt8)) (v u : Value) (w : World) (hx : RowIs w v xs) (hy : RowIs w u ys) (hxl : xs.length ≤ 1000000) (hyl : ys.length ≤ 1000000) :
    Calls Tryd.prog 58 #[repV c1 a1 v, repV c2 a2 u] w fun e w' => e = .returned (.bool (decide (c1 = c2) && (a1 == a2) && (xs == ys))) ∧ Below w.heap.size w w' := by
  obtain ⟨A, c, rfl, hx⟩ := hx
  obtain ⟨B, d, rfl, hy⟩ := hy
  obtain ⟨k, hk⟩ : ∃ k, k = w.heap.size := ⟨_, rfl⟩
  obtain ⟨W, hW⟩ : ∃ W, W = (w.alloc (.cells #[.int .i64 (c1 : Int), sv a1, .slice A xs.length c] 35)).alloc (.cells #[.int .i64 (c2 : Int), sv a2, .slice B ys.length d] 35) := ⟨_, rfl⟩
  have hbW : Below w.heap.size w W := by rw [hW]; exact ((Below.refl _ w).alloc (Nat.le_refl _) _).alloc (by simp) _
  have b1 : W.heap[k]? = some (.cells #[.int .i64 (c1 : Int), sv a1, .slice A xs.length c] 35 (0, 0)) := by
    rw [hW, hk]; exact (Lib.alloc_old _ _ _ (by simp)).trans (heap_alloc_new w _)
  have b2 : W.heap[k + 1]? = some (.cells #[.int .i64 (c2 : Int), sv a2, .slice B ys.length d] 35 (0, 0)) := by
    rw [hW, hk]
    have := heap_alloc_new (w.alloc (.cells #[.int .i64 (c1 : Int), sv a1, .slice A xs.length c] 35)) (.cells #[.int .i64 (c2 : Int), sv a2, .slice B ys.length d] 35)
    rwa [World.size_alloc] at this
  have HBW := Lib.hid hbW
  have HX := Lib.hid hx
  have HY := Lib.hid hy
  have HK := Lib.hid hk
  have HB1 := Lib.hid b1
  have HB2 := Lib.hid b2
  have HW := Lib.hid hW
  have H0 := Lib.hid (Below.refl W.heap.size W)
  clear hbW hx hy hk b1 b2 hW
  cases hc : decide (c1 = c2) with
  | false =>
    have hci : ((c1 : Int) != (c2 : Int)) = true := by rw [bne_iff_ne]; have := of_decide_eq_false hc; omega
    clear hc
    go_enter Tryd.func58, Tryd.ntmps58
    unfold repV
    go_wp2_with fail
    go_ret
    exact ⟨by simp, by rw [← HW.out]; exact HBW.out⟩
  | true =>
    have hci : ((c1 : Int) != (c2 : Int)) = false := by have := of_decide_eq_true hc; rw [this]; simp
    clear hc
    cases ha : a1 == a2 with
    | false =>
      have hai : (a1 != a2) = true := by simp only [bne, ha]; rfl
      go_enter Tryd.func58, Tryd.ntmps58
      unfold repV
      go_wp2_with fail
      go_ret
      exact ⟨by simp, by rw [← HW.out]; exact HBW.out⟩
    | true =>
      obtain rfl : a1 = a2 := by simpa using ha
      clear ha
      by_cases hl : xs.length = ys.length
      · have hne : ((xs.length : Int) != (ys.length : Int)) = false := by rw [hl]; simp
        have HLL := Lib.hid hl
        clear hl
        go_enter Tryd.func58, Tryd.ntmps58
        unfold repV
        go_wp2_with fail
        rw [← HK.out, ← HW.out]
        go_loopw [5] (fun i wr => ∃ m : Nat, m ≤ xs.length ∧ i = .int .i64 m ∧ (∀ j, j < m → xs.getD j [] = ys.getD j []) ∧ Below W.heap.size W wr) (fun i _ => xs.length - (intOf i).toNat)
        case atStart => exact ⟨0, Nat.zero_le _, rfl, fun j hj => absurd hj (by omega), H0.out⟩
        case round =>
          obtain ⟨m, hm, rfl, ha, hbl⟩ := hrel
          have q1 : wr.cell? ⟨k, 2, none⟩ = some (.slice A xs.length c) := by rw [cellAt ((hbl.block k (lt_of_blk HB1.out)).trans HB1.out)]; rfl
          have q2 : wr.cell? ⟨k + 1, 2, none⟩ = some (.slice B ys.length d) := by rw [cellAt ((hbl.block (k + 1) (lt_of_blk HB2.out)).trans HB2.out)]; rfl
          have HA := Lib.hid ha
          have HL := Lib.hid hbl
          clear ha hbl
          by_cases hlt : m < xs.length
          · have hlt2 : m < ys.length := by have := HLL.out; omega
            obtain ⟨g, rfl, hg, hc⟩ := HX.out (by omega)
            obtain ⟨g2, rfl, hg2, hc2⟩ := HY.out (by omega)
            obtain ⟨x, hxe⟩ : ∃ x, x = xs.getD m [] := ⟨_, rfl⟩
            obtain ⟨y, hye⟩ : ∃ y, y = ys.getD m [] := ⟨_, rfl⟩
            have hsz := HBW.out.size
            have c1' : wr.cell? ⟨g, m, none⟩ = some (sv x) := by rw [hxe]; exact (HL.out.cell (p := ⟨g, m, none⟩) (by show g < _; omega)).trans ((HBW.out.cell (p := ⟨g, m, none⟩) hg).trans (hc m hlt))
            have c2' : wr.cell? ⟨g2, m, none⟩ = some (sv y) := by rw [hye]; exact (HL.out.cell (p := ⟨g2, m, none⟩) (by show g2 < _; omega)).trans ((HBW.out.cell (p := ⟨g2, m, none⟩) hg2).trans (hc2 m hlt2))
            have HXE := Lib.hid hxe
            have HYE := Lib.hid hye
            clear hxe hye hc hc2 hsz
            by_cases hxy : x = y
            · have HN := Lib.hid (rows_next HA.out (by rw [← HXE.out, ← HYE.out, hxy]))
              subst hxy
              go_wp2_with fail
              go_quiet (fail)
              go_wp2_with fail
              go_roundw
              case rel => exact ⟨m + 1, by omega, by go_num, HN.out, below_drewN HL.out _⟩
              case measure => simp [intOf]; omega
            · have HF := Lib.hid (show (xs == ys) = false by
                rw [beq_eq_false_iff_ne]; intro e; exact hxy (by rw [HXE.out, HYE.out, e]))
              have e1 : (x == y) = false := by simpa using hxy
              have e2 : (x != y) = true := by simpa using hxy
              have HXY := Lib.hid hxy
              clear hxy
              go_wp2_with fail
              go_quiet (fail)
              go_wp2_with fail
              go_ret
              rw [HF.out]
              exact ⟨by simp, below_drewN (HBW.out.trans (HL.out.mono HBW.out.size)) _⟩
          · obtain rfl : m = xs.length := by omega
            have HE := Lib.hid (show (xs == ys) = true by rw [beq_iff_eq]; exact rows_eq HLL.out HA.out)
            have q3 : ¬ ((xs.length : Int) < xs.length) := by omega
            go_wp2_with fail
            go_ret
            rw [HE.out]
            exact ⟨by simp, HBW.out.trans (HL.out.mono HBW.out.size)⟩
      · have hne : ((xs.length : Int) != (ys.length : Int)) = true := by rw [bne_iff_ne]; omega
        have hle : (xs == ys) = false := by rw [beq_eq_false_iff_ne]; intro e; exact hl (by rw [e])
        clear hl
        go_enter Tryd.func58, Tryd.ntmps58
        unfold repV
        go_wp2_with fail
        go_ret
        exact ⟨by rw [hle]; simp, by rw [← HW.out]; exact HBW.out⟩
end Go.Proofs.YtanfonpbnamjmaaDoor
