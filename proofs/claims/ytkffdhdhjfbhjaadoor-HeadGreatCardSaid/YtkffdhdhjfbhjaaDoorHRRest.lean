/-
  The reference's Same, Get, Body, Show, Plain, Hops; the rows' comparison (mailroomref01.Same); the law's told.
-/
import Derived.Test.YtkffdhdhjfbhjaaDoorHRFields
namespace Go.Proofs.YtkffdhdhjfbhjaaDoor
set_option linter.unusedSimpArgs false
set_option linter.unusedVariables false
open Go Go.RowKit Go.Shelf
set_option maxRecDepth 100000

theorem rowsP_eq {xs ys : List FP} (hl : xs.length = ys.length) (ha : ∀ j, j < xs.length → xs.getD j pm0 = ys.getD j pm0) : xs = ys := by
  refine List.ext_getElem hl fun j h1 h2 => ?_
  have := ha j h1
  rwa [List.getD_eq_getElem?_getD, List.getD_eq_getElem?_getD, List.getElem?_eq_getElem h1, List.getElem?_eq_getElem h2] at this

set_option maxHeartbeats 4000000 in
theorem rsame_any (xs ys : List FP) (v u : Value) (w : World) (hx : PR w v xs) (hy : PR w u ys) (hxl : xs.length ≤ 1000000) (hyl : ys.length ≤ 1000000) :
    Calls Tryd.prog 18 #[v, u] w fun e w' => e = .returned (.bool (xs == ys)) ∧ Below w.heap.size w w' := by
  have HX := Lib.hid hx
  have HY := Lib.hid hy
  obtain ⟨A, c, rfl⟩ := hx.form
  obtain ⟨B, d, rfl⟩ := hy.form
  clear hx hy
  by_cases hl : xs.length = ys.length
  · have hne : ((xs.length : Int) != (ys.length : Int)) = false := by rw [hl]; simp
    have HLL := Lib.hid hl
    have HB := Lib.hid (Below.refl w.heap.size w)
    clear hl
    go_enter Tryd.func18, Tryd.ntmps18
    go_wp2_with fail
    go_loopw [5] (fun i wr => ∃ k : Nat, k ≤ xs.length ∧ i = .int .i64 k ∧ (∀ j, j < k → xs.getD j pm0 = ys.getD j pm0) ∧ Below w.heap.size w wr) (fun i _ => xs.length - (intOf i).toNat)
    case atStart => exact ⟨0, Nat.zero_le _, rfl, fun j hj => absurd hj (by omega), HB.out⟩
    case round =>
      obtain ⟨k, hk, rfl, ha, hbl⟩ := hrel
      have HA := Lib.hid ha
      have HL := Lib.hid hbl
      clear ha hbl
      by_cases hlt : k < xs.length
      · have hlt2 : k < ys.length := by have := HLL.out; omega
        obtain ⟨g, o, rfl, hg, a0, a1⟩ := PR.at (HX.out.step HL.out) hlt
        obtain ⟨g2, o2, rfl, hg2, b0, b1⟩ := PR.at (HY.out.step HL.out) hlt2
        obtain ⟨p, hp⟩ : ∃ p, p = xs.getD k pm0 := ⟨_, rfl⟩
        obtain ⟨q, hq⟩ : ∃ q, q = ys.getD k pm0 := ⟨_, rfl⟩
        rw [← hp] at a0 a1
        rw [← hq] at b0 b1
        have HP := Lib.hid hp
        have HQ := Lib.hid hq
        obtain ⟨n, x⟩ := p
        obtain ⟨m, y⟩ := q
        dsimp only at a0 a1 b0 b1
        have hk1 : (0 : Int) ≤ (k : Int) := by omega
        have hk2 : (k : Int) < (xs.length : Int) := by omega
        have hk3 : (k : Int) < (ys.length : Int) := by omega
        clear hp hq
        by_cases hnm : n = m
        · by_cases hxy : x = y
          · have HN := Lib.hid (show ∀ j, j < k + 1 → xs.getD j pm0 = ys.getD j pm0 from fun j hj => by
              by_cases e : j = k
              · rw [e, ← HP.out, ← HQ.out, hnm, hxy]
              · exact HA.out j (by omega))
            subst hnm hxy
            go_wp2_with fail
            go_quiet (fail)
            go_wp2_with fail
            go_roundw
            case rel => exact ⟨k + 1, by omega, by go_num, HN.out, below_drewN HL.out _⟩
            case measure => simp [intOf]; omega
          · have HF := Lib.hid (show (xs == ys) = false by
              rw [beq_eq_false_iff_ne]; intro e; rw [e, ← HQ.out] at HP; have := HP.out; simp only [Prod.mk.injEq] at this; exact hxy this.2)
            have e1 : (x == y) = false := by simpa using hxy
            have e2 : (x != y) = true := by simpa using hxy
            subst hnm
            clear hxy
            go_wp2_with fail
            go_quiet (fail)
            go_wp2_with fail
            go_ret
            rw [HF.out]
            exact ⟨rfl, below_drewN HL.out _⟩
        · have HF := Lib.hid (show (xs == ys) = false by
            rw [beq_eq_false_iff_ne]; intro e; rw [e, ← HQ.out] at HP; have := HP.out; simp only [Prod.mk.injEq] at this; exact hnm this.1)
          have e1 : (n == m) = false := by simpa using hnm
          have e2 : (n != m) = true := by simpa using hnm
          clear hnm
          go_wp2_with fail
          go_quiet (fail)
          go_wp2_with fail
          go_ret
          rw [HF.out]
          exact ⟨rfl, below_drewN HL.out _⟩
      · obtain rfl : k = xs.length := by omega
        have HE := Lib.hid (show (xs == ys) = true by rw [beq_iff_eq]; exact rowsP_eq HLL.out HA.out)
        go_wp2_with fail
        go_ret
        rw [HE.out]
        exact ⟨rfl, HL.out⟩
  · have hne : ((xs.length : Int) != (ys.length : Int)) = true := by rw [bne_iff_ne]; omega
    have HF := Lib.hid (show (xs == ys) = false by rw [beq_eq_false_iff_ne]; intro e; exact hl (by rw [e]))
    clear hl
    go_enter Tryd.func18, Tryd.ntmps18
    go_wp2_with fail
    go_ret
    rw [HF.out]
    exact ⟨rfl, Below.refl _ _⟩


/-! ### told -/
set_option maxHeartbeats 4000000 in
theorem told_any (ps : List FP) (v : Value) (w : World) (h : PR w v ps) (hl : ps.length ≤ 1000000) :
    Calls Tryd.prog 19 #[v] w fun e w' => ∃ u, e = .returned u ∧ Below w.heap.size w w' ∧ PO 45 w.heap.size w' u ps := by
  have H := Lib.hid h
  obtain ⟨A, c, rfl⟩ := h.form
  clear h
  have HB := Lib.hid (Below.refl w.heap.size w)
  go_enter Tryd.func19, Tryd.ntmps19
  go_wp2_with fail
  go_loopw [3, 4] (fun u i wr => ∃ k : Nat, k ≤ ps.length ∧ i = .int .i64 k ∧ PO 45 w.heap.size wr u (ps.take k) ∧ Below w.heap.size w wr) (fun _ i _ => ps.length - (intOf i).toNat)
  case atStart => exact ⟨0, Nat.zero_le _, rfl, PO.nil _ _ _, HB.out⟩
  case round =>
    obtain ⟨k, hk, rfl, hpo, hbl⟩ := hrel
    have HP := Lib.hid hpo
    have HL := Lib.hid hbl
    obtain ⟨B, d, rfl⟩ := HP.out.form
    clear hpo hbl
    have hkl : (ps.take k).length = k := by rw [List.length_take]; omega
    rw [hkl] at HP
    by_cases hlt : k < ps.length
    · obtain ⟨g, o, rfl, hg, a0, a1⟩ := PR.at (H.out.step HL.out) hlt
      obtain ⟨p, hp⟩ : ∃ p, p = ps.getD k pm0 := ⟨_, rfl⟩
      rw [← hp] at a0 a1
      obtain ⟨n, x⟩ := p
      dsimp only at a0 a1
      have htk : ps.take (k + 1) = ps.take k ++ [(n, x)] := by
        rw [List.take_succ_eq_append_getElem hlt, hp, List.getD_eq_getElem?_getD, List.getElem?_eq_getElem hlt]; rfl
      obtain ⟨g4, cap4, w5, hr4, hp4, hgr, hor⟩ := po_append (t := 39) Tryd.underlying39 info_rfield (by decide) HP.out HL.out.size (by omega) n x
      rw [hkl] at hr4 hp4
      have HR := Lib.hid hr4
      have HP4 := Lib.hid hp4
      have HB4 := Lib.hid ((HL.out.alloc HL.out.size (.cells #[sv n, sv x] 45)).grown hgr (by rw [World.size_alloc]; have := HL.out.size; omega) (fun j e => (HP.out.lt e).1))
      have HTK := Lib.hid htk
      have hk1 : (0 : Int) ≤ (k : Int) := by omega
      have hk2 : (k : Int) < (ps.length : Int) := by omega
      clear hp hr4 hp4 hgr hor htk
      rw [hkl]
      go_wp2_with (at_builtin; refine wpList_append_run rfl (.tmp 11) (.tmp 16) 39 rfl rfl rfl HR.out ?_)
      go_roundw
      case rel => exact ⟨k + 1, by omega, by go_num, by rw [HTK.out]; exact HP4.out, HB4.out⟩
      case measure => simp [intOf]; omega
    · obtain rfl : k = ps.length := by omega
      rw [List.take_of_length_le (Nat.le_refl _)] at HP
      rw [hkl]
      go_wp2_with fail
      go_ret
      exact ⟨_, rfl, HL.out, HP.out⟩
end Go.Proofs.YtkffdhdhjfbhjaaDoor
