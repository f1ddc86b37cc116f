/-
  The walk of CmdTells.
-/
import Derived.Test.YtbmjmiioobgbfaaGreatDoorQTells0
import Derived.Test.YtbmjmiioobgbfaaGreatDoorKWalk2
namespace Go.Proofs.YtbmjmiioobgbfaaGreatDoor
open Go Go.RowKit Go.Shelf
set_option maxRecDepth 100000
set_option linter.unusedSimpArgs false
set_option linter.unusedVariables false

set_option maxHeartbeats 32000000 in
theorem cmdTells_walk (a : Cm) (u : Value) (b : Cm) (v : Value) (l n : List UInt8) (w : World) (hu : PR w u a.ps) (ia : IN a) (hv : PR w v b.ps) (ib : IN b) (hl : l.length ≤ 140737488351232) (hn : n.length ≤ 140737488351232) (hL : LW w) :
    Calls Tryz.prog 5 #[cmV a u, cmV b v, sv l, sv n] w fun e w' => e = .returned (.bool true) ∧ Below w.heap.size w w' := by
  obtain ⟨A, ca, rfl⟩ := hu.form
  obtain ⟨B, cb, rfl⟩ := hv.form
  have IA := Lib.hid ia
  have IB := Lib.hid ib
  obtain ⟨X, hX⟩ : ∃ X, X = (w.alloc (.cells #[.int .u8 (a.verb : Int), sv a.arg, .slice A a.ps.length ca] 41)).alloc (.cells #[.int .u8 (b.verb : Int), sv b.arg, .slice B b.ps.length cb] 41) := ⟨_, rfl⟩
  have HS := Lib.hid (show KB w [(w.heap.size + 1, .cells #[.int .u8 (b.verb : Int), sv b.arg, .slice B b.ps.length cb] 41), (w.heap.size, .cells #[.int .u8 (a.verb : Int), sv a.arg, .slice A a.ps.length ca] 41)] [(.slice B b.ps.length cb, b.ps), (.slice A a.ps.length ca, a.ps)] X by
    rw [hX]; have := ((((KB.start hL).add hu).add hv).alloc #[.int .u8 (a.verb : Int), sv a.arg, .slice A a.ps.length ca] 41).alloc #[.int .u8 (b.verb : Int), sv b.arg, .slice B b.ps.length cb] 41; rw [World.size_alloc] at this; exact this)
  clear hu hv ia ib hL
  go_enter Tryz.func5, Tryz.ntmps5
  go_wp2_with fail
  rw [← hX]
  clear hX
  refine (IA.out.ml _ X (HS.out.row (.slice A a.ps.length ca, a.ps) (by simp))).mono ?_
  rintro e w1 ⟨la, rfl, hb1, hs1⟩
  have SA := Lib.hid hs1
  have HS1 := Lib.hid (HS.out.step hb1)
  clear hs1 hb1 HS
  cases la with
  | true =>
    go_wp2_with fail
    refine (awake_any _ HS1.out.lw).mono ?_
    rintro e w2 ⟨rfl, hb2⟩
    have HS2 := Lib.hid (HS1.out.step hb2)
    clear hb2
    go_wp2
    go_ret
    exact ⟨rfl, HS2.out.bl⟩
  | false =>
  have hcb := HS1.out.blk (w.heap.size + 1, .cells #[.int .u8 (b.verb : Int), sv b.arg, .slice B b.ps.length cb] 41) (by simp)
  obtain ⟨q0, q1, q2⟩ := cells3 hcb
  have lq := lt_of_blk hcb
  clear hcb
  go_wp2_with fail
  refine (IB.out.ml _ w1 (HS1.out.row (.slice B b.ps.length cb, b.ps) (by simp))).mono ?_
  rintro e w2 ⟨lb, rfl, hb2, hs2⟩
  have SB := Lib.hid hs2
  have HS2 := Lib.hid (HS1.out.step hb2)
  clear hs2 hb2 q0 q1 q2 lq HS1
  cases lb with
  | true =>
    go_wp2_with fail
    refine (awake_any _ HS2.out.lw).mono ?_
    rintro e w3 ⟨rfl, hb3⟩
    have HS3 := Lib.hid (HS2.out.step hb3)
    clear hb3
    go_wp2
    go_ret
    exact ⟨rfl, HS3.out.bl⟩
  | false =>
  have SA2 := Lib.hid (SA.out (by simp))
  have SB2 := Lib.hid (SB.out (by simp))
  clear SA SB IA IB
  by_cases hlen : 5000 < l.length + n.length
  · have i5 : (5000 : Int) < (l.length : Int) + (n.length : Int) := by omega
    have s5 : IntKind.i64.wrap ((l.length : Int) + (n.length : Int)) = (l.length : Int) + (n.length : Int) := IntWalk.i64_in _ (by omega)
    clear hlen
    go_wp2_with fail
    refine (awake_any _ HS2.out.lw).mono ?_
    rintro e w3 ⟨rfl, hb3⟩
    have HS3 := Lib.hid (HS2.out.step hb3)
    clear hb3
    go_wp2
    go_ret
    exact ⟨rfl, HS3.out.bl⟩
  · have i5 : ¬ (5000 : Int) < (l.length : Int) + (n.length : Int) := by omega
    have s5 : IntKind.i64.wrap ((l.length : Int) + (n.length : Int)) = (l.length : Int) + (n.length : Int) := IntWalk.i64_in _ (by omega)
    have hl' : l.length ≤ 5000 := by omega
    have hn' : n.length ≤ 5000 := by omega
    have hca := HS2.out.blk (w.heap.size, .cells #[.int .u8 (a.verb : Int), sv a.arg, .slice A a.ps.length ca] 41) (by simp)
    obtain ⟨q0, q1, q2⟩ := cells3 hca
    have lq := lt_of_blk hca
    clear hca hlen hl hn
    go_wp2_with fail
    refine (own_any a.verb a.arg a.ps A ca w2 (HS2.out.row (.slice A a.ps.length ca, a.ps) (by simp)) (by have := SA2.out.ps; omega)).mono ?_
    rintro e w3 ⟨A3, c3, rfl, hb3, hp3⟩
    clear q0 q1 q2 lq i5 s5
    have HS3 := Lib.hid ((HS2.out.step hb3).add hp3)
    go_wp2_with fail
    obtain ⟨Y, hY⟩ : ∃ Y, Y = w3.alloc (.cells #[.int .u8 (a.verb : Int), sv a.arg, .slice A3 a.ps.length c3] 41) := ⟨_, rfl⟩
    have HKY := Lib.hid (show KB w _ _ Y by rw [hY]; exact HS3.out.alloc #[.int .u8 (a.verb : Int), sv a.arg, .slice A3 a.ps.length c3] 41)
    change Code.wp _ _ _ _ (w3.alloc (.cells #[.int .u8 (a.verb : Int), sv a.arg, .slice A3 a.ps.length c3] 41))
    rw [← hY]
    have NA := Lib.hid (show Y.heap[w.heap.size]? = some (.cells #[.int .u8 (a.verb : Int), sv a.arg, .slice A a.ps.length ca] 41 (0, 0)) from HKY.out.blk (w.heap.size, .cells #[.int .u8 (a.verb : Int), sv a.arg, .slice A a.ps.length ca] 41) (by simp))
    have NB := Lib.hid (show Y.heap[w.heap.size + 1]? = some (.cells #[.int .u8 (b.verb : Int), sv b.arg, .slice B b.ps.length cb] 41 (0, 0)) from HKY.out.blk (w.heap.size + 1, .cells #[.int .u8 (b.verb : Int), sv b.arg, .slice B b.ps.length cb] 41) (by simp))
    have RA := Lib.hid (show PR Y (.slice A a.ps.length ca) a.ps from HKY.out.row (.slice A a.ps.length ca, a.ps) (by simp))
    have RB := Lib.hid (show PR Y (.slice B b.ps.length cb) b.ps from HKY.out.row (.slice B b.ps.length cb, b.ps) (by simp))
    have D1 := Lib.hid (fun W (h : Below Y.heap.size Y W) => (told_any a (.slice A a.ps.length ca) W (RA.out.step h) (by have := SA2.out.ps; omega)).mono (R' := fun e w' => ∃ A5 c5, e = .returned (.agg #[.int .u8 (a.verb : Int), sv a.arg, .slice A5 a.ps.length c5]) ∧ Below W.heap.size W w' ∧ PR w' (.slice A5 a.ps.length c5) a.ps) fun _ w' hq => rc_open hq)
    have D2 := Lib.hid (fun W (h : Below Y.heap.size Y W) => (told_any b (.slice B b.ps.length cb) W (RB.out.step h) (by have := SB2.out.ps; omega)).mono (R' := fun e w' => ∃ A6 c6, e = .returned (.agg #[.int .u8 (b.verb : Int), sv b.arg, .slice A6 b.ps.length c6]) ∧ Below W.heap.size W w' ∧ PR w' (.slice A6 b.ps.length c6) b.ps) fun _ w' hq => rc_open hq)
    clear hY HS3 HS2 hp3 hb3
    go_cut [10, 11] from 45 to 48 (fun x y W => ∃ g1 g2 A5 c5 A6 c6, x = .pointer (some ⟨g1, 0, none⟩) ∧ y = .pointer (some ⟨g2, 0, none⟩) ∧ Below Y.heap.size Y W ∧ W.heap[g1]? = some (.cells #[.int .u8 (a.verb : Int), sv a.arg, .slice A5 a.ps.length c5] 61 (0, 0)) ∧ W.heap[g2]? = some (.cells #[.int .u8 (b.verb : Int), sv b.arg, .slice A6 b.ps.length c6] 61 (0, 0)) ∧ PR W (.slice A5 a.ps.length c5) a.ps ∧ PR W (.slice A6 b.ps.length c6) b.ps)
    case first =>
      refine wp_region_held_drew (S := fun W => Below Y.heap.size Y W) (by kernel_rfl) ((Below.refl _ _).drew) (fun hHeld => ?_)
      refine wpAnyH_take (i := 0) (v := .agg #[.int .u8 (a.verb : Int), sv a.arg, .slice A a.ps.length ca]) rfl (by kernel_rfl) (by kernel_rfl) (by kernel_rfl) (fun _ _ _ h => h) (Or.inl ⟨by rfl, fun w' hSw => exec_load_rowQ w' rfl rfl (blk_below NA.out hSw) Tryz.underlying41 rfl cmd_size⟩) (by assumption) ?_
      try simp only [List.getElem_toArray, List.getElem_cons_zero, List.getElem_cons_succ, Act.put, List.setIfInBounds_toArray, List.set_cons_zero, List.set_cons_succ]
      refine wpAnyH_take (i := 2) (v := .agg #[.int .u8 (b.verb : Int), sv b.arg, .slice B b.ps.length cb]) rfl (by kernel_rfl) (by kernel_rfl) (by kernel_rfl) (fun _ _ _ h => h) (Or.inl ⟨by rfl, fun w' hSw => exec_load_rowQ w' rfl rfl (blk_below NB.out hSw) Tryz.underlying41 rfl cmd_size⟩) (by assumption) ?_
      try simp only [List.getElem_toArray, List.getElem_cons_zero, List.getElem_cons_succ, Act.put, List.setIfInBounds_toArray, List.set_cons_zero, List.set_cons_succ]
      have N0 := Lib.hid (Nd.start Y)
      generalize Y.drew = W0 at N0 hHeld ⊢
      refine wpAnyH_ready (rs := [1, 4, 5]) (by kernel_rfl) (by simp) ?_
      refine AllReadyH.cons rfl (fun K hK => ?_) (AllReadyH.cons rfl (fun K hK => ?_) (AllReadyH.cons rfl (fun K hK => ?_) AllReadyH.nil))
      · rw [if_pos (by rfl)]
        go_simp
        refine (D1.out _ N0.out.bl).mono ?_
        rintro e W1 ⟨A5, c5, rfl, hb, hp⟩
        (try go_wp2_with fail)
        refine hK.out _ _ (N0.out.step hb).bl (fun hHeld => ?_)
        clear hK K
        try simp only [List.getElem_toArray, List.getElem_cons_zero, List.getElem_cons_succ, Act.put, List.setIfInBounds_toArray, List.set_cons_zero, List.set_cons_succ]
        have N1 := Lib.hid ((N0.out.step hb).add hp)
        clear hb hp
        refine wpAnyH_ready (rs := [3, 4, 5]) (by kernel_rfl) (by simp) ?_
        refine AllReadyH.cons rfl (fun K hK => ?_) (AllReadyH.cons rfl (fun K hK => ?_) (AllReadyH.cons rfl (fun K hK => ?_) AllReadyH.nil))
        · rw [if_pos (by rfl)]
          go_simp
          refine (D2.out _ N1.out.bl).mono ?_
          rintro e W2 ⟨A6, c6, rfl, hb, hp⟩
          (try go_wp2_with fail)
          refine hK.out _ _ (N1.out.step hb).bl (fun hHeld => ?_)
          clear hK K
          try simp only [List.getElem_toArray, List.getElem_cons_zero, List.getElem_cons_succ, Act.put, List.setIfInBounds_toArray, List.set_cons_zero, List.set_cons_succ]
          have N2 := Lib.hid ((N1.out.step hb).add hp)
          clear hb hp
          refine wpAnyH_ready (rs := [4, 5]) (by kernel_rfl) (by simp) ?_
          refine AllReadyH.cons rfl (fun K hK => ?_) (AllReadyH.cons rfl (fun K hK => ?_) AllReadyH.nil)
          · go_simp
            refine hK.out _ _ N2.out.alloc.bl (fun hHeld => ?_)
            clear hK K
            try simp only [List.getElem_toArray, List.getElem_cons_zero, List.getElem_cons_succ, Act.put, List.setIfInBounds_toArray, List.set_cons_zero, List.set_cons_succ]
            have N3 := Lib.hid (show Nd Y _ _ ((W2).heap.size :: _) from N2.out.alloc)
            obtain ⟨g3, hg3⟩ : ∃ g, g = (W2).heap.size := ⟨_, rfl⟩
            rw [← hg3] at N3 ⊢
            have eW : (W2).alloc (.cells #[.int .u8 0, .string { data := #[] }, .slice none 0 0] 61) = (W2).alloc (.cells zC 61) := rfl
            try rw [eW]
            clear eW
            generalize (W2).alloc (.cells zC 61) = W3 at N3 hHeld ⊢
            clear hg3
            refine wpAnyH_ready (rs := [5]) (by kernel_rfl) (by simp) ?_
            refine AllReadyH.cons rfl (fun K hK => ?_) AllReadyH.nil
            · go_simp
              refine hK.out _ _ N3.out.alloc.bl (fun hHeld => ?_)
              clear hK K
              try simp only [List.getElem_toArray, List.getElem_cons_zero, List.getElem_cons_succ, Act.put, List.setIfInBounds_toArray, List.set_cons_zero, List.set_cons_succ]
              have N4 := Lib.hid (show Nd Y _ _ ((W3).heap.size :: _) from N3.out.alloc)
              obtain ⟨g4, hg4⟩ : ∃ g, g = (W3).heap.size := ⟨_, rfl⟩
              rw [← hg4] at N4 ⊢
              have eW : (W3).alloc (.cells #[.int .u8 0, .string { data := #[] }, .slice none 0 0] 61) = (W3).alloc (.cells zC 61) := rfl
              try rw [eW]
              clear eW
              generalize (W3).alloc (.cells zC 61) = W4 at N4 hHeld ⊢
              clear hg4
              have hne : g3 ≠ g4 := by have := N4.out.nd; simp at this; omega
              have hne2 : g4 ≠ g3 := fun e => hne e.symm
              obtain ⟨a0, a1, a2, f0, f1, f2⟩ := z3R (N4.out.zq g3 (by simp)).1
              obtain ⟨b0, b1, b2, e0, e1, e2⟩ := z3R (N4.out.zq g4 (by simp)).1
              have hqx := (N4.out.zq g3 (by simp)).2
              have hqy := (N4.out.zq g4 (by simp)).2
              refine wpAnyH_ready (rs := [6]) (by kernel_rfl) (by simp) ?_
              refine AllReadyH.cons rfl (fun K hK => ?_) AllReadyH.nil
              go_simp
              refine hK.out _ _ (below_fill N4.out.bl hqx _ _ _) (fun hHeld => ?_)
              clear hK K
              try simp only [List.getElem_toArray, List.getElem_cons_zero, List.getElem_cons_succ, Act.put, List.setIfInBounds_toArray, List.set_cons_zero, List.set_cons_succ]
              refine wpAnyH_ready (rs := [7]) (by kernel_rfl) (by simp) ?_
              refine AllReadyH.cons rfl (fun K hK => ?_) AllReadyH.nil
              go_simp
              refine hK.out _ _ (below_fill (below_fill N4.out.bl hqx _ _ _) hqy _ _ _) (fun hHeld => ?_)
              clear hK K
              try simp only [List.getElem_toArray, List.getElem_cons_zero, List.getElem_cons_succ, Act.put, List.setIfInBounds_toArray, List.set_cons_zero, List.set_cons_succ]
              refine wpAnyH_done (by kernel_rfl) ?_ _
              go_wp2_with fail
              go_meet
              case rel => exact ⟨g3, g4, _, _, _, _, rfl, rfl, N4.out.fill (by simp) (by simp) hne _ _ _ _ _ _ _ rfl⟩
          · go_simp
            refine hK.out _ _ N2.out.alloc.bl (fun hHeld => ?_)
            clear hK K
            try simp only [List.getElem_toArray, List.getElem_cons_zero, List.getElem_cons_succ, Act.put, List.setIfInBounds_toArray, List.set_cons_zero, List.set_cons_succ]
            have N5 := Lib.hid (show Nd Y _ _ ((W2).heap.size :: _) from N2.out.alloc)
            obtain ⟨g5, hg5⟩ : ∃ g, g = (W2).heap.size := ⟨_, rfl⟩
            rw [← hg5] at N5 ⊢
            have eW : (W2).alloc (.cells #[.int .u8 0, .string { data := #[] }, .slice none 0 0] 61) = (W2).alloc (.cells zC 61) := rfl
            try rw [eW]
            clear eW
            generalize (W2).alloc (.cells zC 61) = W5 at N5 hHeld ⊢
            clear hg5
            refine wpAnyH_ready (rs := [4]) (by kernel_rfl) (by simp) ?_
            refine AllReadyH.cons rfl (fun K hK => ?_) AllReadyH.nil
            · go_simp
              refine hK.out _ _ N5.out.alloc.bl (fun hHeld => ?_)
              clear hK K
              try simp only [List.getElem_toArray, List.getElem_cons_zero, List.getElem_cons_succ, Act.put, List.setIfInBounds_toArray, List.set_cons_zero, List.set_cons_succ]
              have N6 := Lib.hid (show Nd Y _ _ ((W5).heap.size :: _) from N5.out.alloc)
              obtain ⟨g6, hg6⟩ : ∃ g, g = (W5).heap.size := ⟨_, rfl⟩
              rw [← hg6] at N6 ⊢
              have eW : (W5).alloc (.cells #[.int .u8 0, .string { data := #[] }, .slice none 0 0] 61) = (W5).alloc (.cells zC 61) := rfl
              try rw [eW]
              clear eW
              generalize (W5).alloc (.cells zC 61) = W6 at N6 hHeld ⊢
              clear hg6
              have hne : g6 ≠ g5 := by have := N6.out.nd; simp at this; omega
              have hne2 : g5 ≠ g6 := fun e => hne e.symm
              obtain ⟨a0, a1, a2, f0, f1, f2⟩ := z3R (N6.out.zq g6 (by simp)).1
              obtain ⟨b0, b1, b2, e0, e1, e2⟩ := z3R (N6.out.zq g5 (by simp)).1
              have hqx := (N6.out.zq g6 (by simp)).2
              have hqy := (N6.out.zq g5 (by simp)).2
              refine wpAnyH_ready (rs := [6]) (by kernel_rfl) (by simp) ?_
              refine AllReadyH.cons rfl (fun K hK => ?_) AllReadyH.nil
              go_simp
              refine hK.out _ _ (below_fill N6.out.bl hqx _ _ _) (fun hHeld => ?_)
              clear hK K
              try simp only [List.getElem_toArray, List.getElem_cons_zero, List.getElem_cons_succ, Act.put, List.setIfInBounds_toArray, List.set_cons_zero, List.set_cons_succ]
              refine wpAnyH_ready (rs := [7]) (by kernel_rfl) (by simp) ?_
              refine AllReadyH.cons rfl (fun K hK => ?_) AllReadyH.nil
              go_simp
              refine hK.out _ _ (below_fill (below_fill N6.out.bl hqx _ _ _) hqy _ _ _) (fun hHeld => ?_)
              clear hK K
              try simp only [List.getElem_toArray, List.getElem_cons_zero, List.getElem_cons_succ, Act.put, List.setIfInBounds_toArray, List.set_cons_zero, List.set_cons_succ]
              refine wpAnyH_done (by kernel_rfl) ?_ _
              go_wp2_with fail
              go_meet
              case rel => exact ⟨g6, g5, _, _, _, _, rfl, rfl, N6.out.fill (by simp) (by simp) hne _ _ _ _ _ _ _ rfl⟩
        · go_simp
          refine hK.out _ _ N1.out.alloc.bl (fun hHeld => ?_)
          clear hK K
          try simp only [List.getElem_toArray, List.getElem_cons_zero, List.getElem_cons_succ, Act.put, List.setIfInBounds_toArray, List.set_cons_zero, List.set_cons_succ]
          have N7 := Lib.hid (show Nd Y _ _ ((W1).heap.size :: _) from N1.out.alloc)
          obtain ⟨g7, hg7⟩ : ∃ g, g = (W1).heap.size := ⟨_, rfl⟩
          rw [← hg7] at N7 ⊢
          have eW : (W1).alloc (.cells #[.int .u8 0, .string { data := #[] }, .slice none 0 0] 61) = (W1).alloc (.cells zC 61) := rfl
          try rw [eW]
          clear eW
          generalize (W1).alloc (.cells zC 61) = W7 at N7 hHeld ⊢
          clear hg7
          refine wpAnyH_ready (rs := [3, 5]) (by kernel_rfl) (by simp) ?_
          refine AllReadyH.cons rfl (fun K hK => ?_) (AllReadyH.cons rfl (fun K hK => ?_) AllReadyH.nil)
          · rw [if_pos (by rfl)]
            go_simp
            refine (D2.out _ N7.out.bl).mono ?_
            rintro e W8 ⟨A6, c6, rfl, hb, hp⟩
            (try go_wp2_with fail)
            refine hK.out _ _ (N7.out.step hb).bl (fun hHeld => ?_)
            clear hK K
            try simp only [List.getElem_toArray, List.getElem_cons_zero, List.getElem_cons_succ, Act.put, List.setIfInBounds_toArray, List.set_cons_zero, List.set_cons_succ]
            have N8 := Lib.hid ((N7.out.step hb).add hp)
            clear hb hp
            refine wpAnyH_ready (rs := [5]) (by kernel_rfl) (by simp) ?_
            refine AllReadyH.cons rfl (fun K hK => ?_) AllReadyH.nil
            · go_simp
              refine hK.out _ _ N8.out.alloc.bl (fun hHeld => ?_)
              clear hK K
              try simp only [List.getElem_toArray, List.getElem_cons_zero, List.getElem_cons_succ, Act.put, List.setIfInBounds_toArray, List.set_cons_zero, List.set_cons_succ]
              have N9 := Lib.hid (show Nd Y _ _ ((W8).heap.size :: _) from N8.out.alloc)
              obtain ⟨g9, hg9⟩ : ∃ g, g = (W8).heap.size := ⟨_, rfl⟩
              rw [← hg9] at N9 ⊢
              have eW : (W8).alloc (.cells #[.int .u8 0, .string { data := #[] }, .slice none 0 0] 61) = (W8).alloc (.cells zC 61) := rfl
              try rw [eW]
              clear eW
              generalize (W8).alloc (.cells zC 61) = W9 at N9 hHeld ⊢
              clear hg9
              have hne : g7 ≠ g9 := by have := N9.out.nd; simp at this; omega
              have hne2 : g9 ≠ g7 := fun e => hne e.symm
              obtain ⟨a0, a1, a2, f0, f1, f2⟩ := z3R (N9.out.zq g7 (by simp)).1
              obtain ⟨b0, b1, b2, e0, e1, e2⟩ := z3R (N9.out.zq g9 (by simp)).1
              have hqx := (N9.out.zq g7 (by simp)).2
              have hqy := (N9.out.zq g9 (by simp)).2
              refine wpAnyH_ready (rs := [6]) (by kernel_rfl) (by simp) ?_
              refine AllReadyH.cons rfl (fun K hK => ?_) AllReadyH.nil
              go_simp
              refine hK.out _ _ (below_fill N9.out.bl hqx _ _ _) (fun hHeld => ?_)
              clear hK K
              try simp only [List.getElem_toArray, List.getElem_cons_zero, List.getElem_cons_succ, Act.put, List.setIfInBounds_toArray, List.set_cons_zero, List.set_cons_succ]
              refine wpAnyH_ready (rs := [7]) (by kernel_rfl) (by simp) ?_
              refine AllReadyH.cons rfl (fun K hK => ?_) AllReadyH.nil
              go_simp
              refine hK.out _ _ (below_fill (below_fill N9.out.bl hqx _ _ _) hqy _ _ _) (fun hHeld => ?_)
              clear hK K
              try simp only [List.getElem_toArray, List.getElem_cons_zero, List.getElem_cons_succ, Act.put, List.setIfInBounds_toArray, List.set_cons_zero, List.set_cons_succ]
              refine wpAnyH_done (by kernel_rfl) ?_ _
              go_wp2_with fail
              go_meet
              case rel => exact ⟨g7, g9, _, _, _, _, rfl, rfl, N9.out.fill (by simp) (by simp) hne _ _ _ _ _ _ _ rfl⟩
          · go_simp
            refine hK.out _ _ N7.out.alloc.bl (fun hHeld => ?_)
            clear hK K
            try simp only [List.getElem_toArray, List.getElem_cons_zero, List.getElem_cons_succ, Act.put, List.setIfInBounds_toArray, List.set_cons_zero, List.set_cons_succ]
            have N10 := Lib.hid (show Nd Y _ _ ((W7).heap.size :: _) from N7.out.alloc)
            obtain ⟨g10, hg10⟩ : ∃ g, g = (W7).heap.size := ⟨_, rfl⟩
            rw [← hg10] at N10 ⊢
            have eW : (W7).alloc (.cells #[.int .u8 0, .string { data := #[] }, .slice none 0 0] 61) = (W7).alloc (.cells zC 61) := rfl
            try rw [eW]
            clear eW
            generalize (W7).alloc (.cells zC 61) = W10 at N10 hHeld ⊢
            clear hg10
            refine wpAnyH_ready (rs := [3]) (by kernel_rfl) (by simp) ?_
            refine AllReadyH.cons rfl (fun K hK => ?_) AllReadyH.nil
            · rw [if_pos (by rfl)]
              go_simp
              refine (D2.out _ N10.out.bl).mono ?_
              rintro e W11 ⟨A6, c6, rfl, hb, hp⟩
              (try go_wp2_with fail)
              refine hK.out _ _ (N10.out.step hb).bl (fun hHeld => ?_)
              clear hK K
              try simp only [List.getElem_toArray, List.getElem_cons_zero, List.getElem_cons_succ, Act.put, List.setIfInBounds_toArray, List.set_cons_zero, List.set_cons_succ]
              have N11 := Lib.hid ((N10.out.step hb).add hp)
              clear hb hp
              have hne : g7 ≠ g10 := by have := N11.out.nd; simp at this; omega
              have hne2 : g10 ≠ g7 := fun e => hne e.symm
              obtain ⟨a0, a1, a2, f0, f1, f2⟩ := z3R (N11.out.zq g7 (by simp)).1
              obtain ⟨b0, b1, b2, e0, e1, e2⟩ := z3R (N11.out.zq g10 (by simp)).1
              have hqx := (N11.out.zq g7 (by simp)).2
              have hqy := (N11.out.zq g10 (by simp)).2
              refine wpAnyH_ready (rs := [6]) (by kernel_rfl) (by simp) ?_
              refine AllReadyH.cons rfl (fun K hK => ?_) AllReadyH.nil
              go_simp
              refine hK.out _ _ (below_fill N11.out.bl hqx _ _ _) (fun hHeld => ?_)
              clear hK K
              try simp only [List.getElem_toArray, List.getElem_cons_zero, List.getElem_cons_succ, Act.put, List.setIfInBounds_toArray, List.set_cons_zero, List.set_cons_succ]
              refine wpAnyH_ready (rs := [7]) (by kernel_rfl) (by simp) ?_
              refine AllReadyH.cons rfl (fun K hK => ?_) AllReadyH.nil
              go_simp
              refine hK.out _ _ (below_fill (below_fill N11.out.bl hqx _ _ _) hqy _ _ _) (fun hHeld => ?_)
              clear hK K
              try simp only [List.getElem_toArray, List.getElem_cons_zero, List.getElem_cons_succ, Act.put, List.setIfInBounds_toArray, List.set_cons_zero, List.set_cons_succ]
              refine wpAnyH_done (by kernel_rfl) ?_ _
              go_wp2_with fail
              go_meet
              case rel => exact ⟨g7, g10, _, _, _, _, rfl, rfl, N11.out.fill (by simp) (by simp) hne _ _ _ _ _ _ _ rfl⟩
        · go_simp
          refine hK.out _ _ N1.out.alloc.bl (fun hHeld => ?_)
          clear hK K
          try simp only [List.getElem_toArray, List.getElem_cons_zero, List.getElem_cons_succ, Act.put, List.setIfInBounds_toArray, List.set_cons_zero, List.set_cons_succ]
          have N12 := Lib.hid (show Nd Y _ _ ((W1).heap.size :: _) from N1.out.alloc)
          obtain ⟨g12, hg12⟩ : ∃ g, g = (W1).heap.size := ⟨_, rfl⟩
          rw [← hg12] at N12 ⊢
          have eW : (W1).alloc (.cells #[.int .u8 0, .string { data := #[] }, .slice none 0 0] 61) = (W1).alloc (.cells zC 61) := rfl
          try rw [eW]
          clear eW
          generalize (W1).alloc (.cells zC 61) = W12 at N12 hHeld ⊢
          clear hg12
          refine wpAnyH_ready (rs := [3, 4]) (by kernel_rfl) (by simp) ?_
          refine AllReadyH.cons rfl (fun K hK => ?_) (AllReadyH.cons rfl (fun K hK => ?_) AllReadyH.nil)
          · rw [if_pos (by rfl)]
            go_simp
            refine (D2.out _ N12.out.bl).mono ?_
            rintro e W13 ⟨A6, c6, rfl, hb, hp⟩
            (try go_wp2_with fail)
            refine hK.out _ _ (N12.out.step hb).bl (fun hHeld => ?_)
            clear hK K
            try simp only [List.getElem_toArray, List.getElem_cons_zero, List.getElem_cons_succ, Act.put, List.setIfInBounds_toArray, List.set_cons_zero, List.set_cons_succ]
            have N13 := Lib.hid ((N12.out.step hb).add hp)
            clear hb hp
            refine wpAnyH_ready (rs := [4]) (by kernel_rfl) (by simp) ?_
            refine AllReadyH.cons rfl (fun K hK => ?_) AllReadyH.nil
            · go_simp
              refine hK.out _ _ N13.out.alloc.bl (fun hHeld => ?_)
              clear hK K
              try simp only [List.getElem_toArray, List.getElem_cons_zero, List.getElem_cons_succ, Act.put, List.setIfInBounds_toArray, List.set_cons_zero, List.set_cons_succ]
              have N14 := Lib.hid (show Nd Y _ _ ((W13).heap.size :: _) from N13.out.alloc)
              obtain ⟨g14, hg14⟩ : ∃ g, g = (W13).heap.size := ⟨_, rfl⟩
              rw [← hg14] at N14 ⊢
              have eW : (W13).alloc (.cells #[.int .u8 0, .string { data := #[] }, .slice none 0 0] 61) = (W13).alloc (.cells zC 61) := rfl
              try rw [eW]
              clear eW
              generalize (W13).alloc (.cells zC 61) = W14 at N14 hHeld ⊢
              clear hg14
              have hne : g14 ≠ g12 := by have := N14.out.nd; simp at this; omega
              have hne2 : g12 ≠ g14 := fun e => hne e.symm
              obtain ⟨a0, a1, a2, f0, f1, f2⟩ := z3R (N14.out.zq g14 (by simp)).1
              obtain ⟨b0, b1, b2, e0, e1, e2⟩ := z3R (N14.out.zq g12 (by simp)).1
              have hqx := (N14.out.zq g14 (by simp)).2
              have hqy := (N14.out.zq g12 (by simp)).2
              refine wpAnyH_ready (rs := [6]) (by kernel_rfl) (by simp) ?_
              refine AllReadyH.cons rfl (fun K hK => ?_) AllReadyH.nil
              go_simp
              refine hK.out _ _ (below_fill N14.out.bl hqx _ _ _) (fun hHeld => ?_)
              clear hK K
              try simp only [List.getElem_toArray, List.getElem_cons_zero, List.getElem_cons_succ, Act.put, List.setIfInBounds_toArray, List.set_cons_zero, List.set_cons_succ]
              refine wpAnyH_ready (rs := [7]) (by kernel_rfl) (by simp) ?_
              refine AllReadyH.cons rfl (fun K hK => ?_) AllReadyH.nil
              go_simp
              refine hK.out _ _ (below_fill (below_fill N14.out.bl hqx _ _ _) hqy _ _ _) (fun hHeld => ?_)
              clear hK K
              try simp only [List.getElem_toArray, List.getElem_cons_zero, List.getElem_cons_succ, Act.put, List.setIfInBounds_toArray, List.set_cons_zero, List.set_cons_succ]
              refine wpAnyH_done (by kernel_rfl) ?_ _
              go_wp2_with fail
              go_meet
              case rel => exact ⟨g14, g12, _, _, _, _, rfl, rfl, N14.out.fill (by simp) (by simp) hne _ _ _ _ _ _ _ rfl⟩
          · go_simp
            refine hK.out _ _ N12.out.alloc.bl (fun hHeld => ?_)
            clear hK K
            try simp only [List.getElem_toArray, List.getElem_cons_zero, List.getElem_cons_succ, Act.put, List.setIfInBounds_toArray, List.set_cons_zero, List.set_cons_succ]
            have N15 := Lib.hid (show Nd Y _ _ ((W12).heap.size :: _) from N12.out.alloc)
            obtain ⟨g15, hg15⟩ : ∃ g, g = (W12).heap.size := ⟨_, rfl⟩
            rw [← hg15] at N15 ⊢
            have eW : (W12).alloc (.cells #[.int .u8 0, .string { data := #[] }, .slice none 0 0] 61) = (W12).alloc (.cells zC 61) := rfl
            try rw [eW]
            clear eW
            generalize (W12).alloc (.cells zC 61) = W15 at N15 hHeld ⊢
            clear hg15
            refine wpAnyH_ready (rs := [3]) (by kernel_rfl) (by simp) ?_
            refine AllReadyH.cons rfl (fun K hK => ?_) AllReadyH.nil
            · rw [if_pos (by rfl)]
              go_simp
              refine (D2.out _ N15.out.bl).mono ?_
              rintro e W16 ⟨A6, c6, rfl, hb, hp⟩
              (try go_wp2_with fail)
              refine hK.out _ _ (N15.out.step hb).bl (fun hHeld => ?_)
              clear hK K
              try simp only [List.getElem_toArray, List.getElem_cons_zero, List.getElem_cons_succ, Act.put, List.setIfInBounds_toArray, List.set_cons_zero, List.set_cons_succ]
              have N16 := Lib.hid ((N15.out.step hb).add hp)
              clear hb hp
              have hne : g15 ≠ g12 := by have := N16.out.nd; simp at this; omega
              have hne2 : g12 ≠ g15 := fun e => hne e.symm
              obtain ⟨a0, a1, a2, f0, f1, f2⟩ := z3R (N16.out.zq g15 (by simp)).1
              obtain ⟨b0, b1, b2, e0, e1, e2⟩ := z3R (N16.out.zq g12 (by simp)).1
              have hqx := (N16.out.zq g15 (by simp)).2
              have hqy := (N16.out.zq g12 (by simp)).2
              refine wpAnyH_ready (rs := [6]) (by kernel_rfl) (by simp) ?_
              refine AllReadyH.cons rfl (fun K hK => ?_) AllReadyH.nil
              go_simp
              refine hK.out _ _ (below_fill N16.out.bl hqx _ _ _) (fun hHeld => ?_)
              clear hK K
              try simp only [List.getElem_toArray, List.getElem_cons_zero, List.getElem_cons_succ, Act.put, List.setIfInBounds_toArray, List.set_cons_zero, List.set_cons_succ]
              refine wpAnyH_ready (rs := [7]) (by kernel_rfl) (by simp) ?_
              refine AllReadyH.cons rfl (fun K hK => ?_) AllReadyH.nil
              go_simp
              refine hK.out _ _ (below_fill (below_fill N16.out.bl hqx _ _ _) hqy _ _ _) (fun hHeld => ?_)
              clear hK K
              try simp only [List.getElem_toArray, List.getElem_cons_zero, List.getElem_cons_succ, Act.put, List.setIfInBounds_toArray, List.set_cons_zero, List.set_cons_succ]
              refine wpAnyH_done (by kernel_rfl) ?_ _
              go_wp2_with fail
              go_meet
              case rel => exact ⟨g15, g12, _, _, _, _, rfl, rfl, N16.out.fill (by simp) (by simp) hne _ _ _ _ _ _ _ rfl⟩
      · go_simp
        refine hK.out _ _ N0.out.alloc.bl (fun hHeld => ?_)
        clear hK K
        try simp only [List.getElem_toArray, List.getElem_cons_zero, List.getElem_cons_succ, Act.put, List.setIfInBounds_toArray, List.set_cons_zero, List.set_cons_succ]
        have N17 := Lib.hid (show Nd Y _ _ ((W0).heap.size :: _) from N0.out.alloc)
        obtain ⟨g17, hg17⟩ : ∃ g, g = (W0).heap.size := ⟨_, rfl⟩
        rw [← hg17] at N17 ⊢
        have eW : (W0).alloc (.cells #[.int .u8 0, .string { data := #[] }, .slice none 0 0] 61) = (W0).alloc (.cells zC 61) := rfl
        try rw [eW]
        clear eW
        generalize (W0).alloc (.cells zC 61) = W17 at N17 hHeld ⊢
        clear hg17
        refine wpAnyH_ready (rs := [1, 5]) (by kernel_rfl) (by simp) ?_
        refine AllReadyH.cons rfl (fun K hK => ?_) (AllReadyH.cons rfl (fun K hK => ?_) AllReadyH.nil)
        · rw [if_pos (by rfl)]
          go_simp
          refine (D1.out _ N17.out.bl).mono ?_
          rintro e W18 ⟨A5, c5, rfl, hb, hp⟩
          (try go_wp2_with fail)
          refine hK.out _ _ (N17.out.step hb).bl (fun hHeld => ?_)
          clear hK K
          try simp only [List.getElem_toArray, List.getElem_cons_zero, List.getElem_cons_succ, Act.put, List.setIfInBounds_toArray, List.set_cons_zero, List.set_cons_succ]
          have N18 := Lib.hid ((N17.out.step hb).add hp)
          clear hb hp
          refine wpAnyH_ready (rs := [3, 5]) (by kernel_rfl) (by simp) ?_
          refine AllReadyH.cons rfl (fun K hK => ?_) (AllReadyH.cons rfl (fun K hK => ?_) AllReadyH.nil)
          · rw [if_pos (by rfl)]
            go_simp
            refine (D2.out _ N18.out.bl).mono ?_
            rintro e W19 ⟨A6, c6, rfl, hb, hp⟩
            (try go_wp2_with fail)
            refine hK.out _ _ (N18.out.step hb).bl (fun hHeld => ?_)
            clear hK K
            try simp only [List.getElem_toArray, List.getElem_cons_zero, List.getElem_cons_succ, Act.put, List.setIfInBounds_toArray, List.set_cons_zero, List.set_cons_succ]
            have N19 := Lib.hid ((N18.out.step hb).add hp)
            clear hb hp
            refine wpAnyH_ready (rs := [5]) (by kernel_rfl) (by simp) ?_
            refine AllReadyH.cons rfl (fun K hK => ?_) AllReadyH.nil
            · go_simp
              refine hK.out _ _ N19.out.alloc.bl (fun hHeld => ?_)
              clear hK K
              try simp only [List.getElem_toArray, List.getElem_cons_zero, List.getElem_cons_succ, Act.put, List.setIfInBounds_toArray, List.set_cons_zero, List.set_cons_succ]
              have N20 := Lib.hid (show Nd Y _ _ ((W19).heap.size :: _) from N19.out.alloc)
              obtain ⟨g20, hg20⟩ : ∃ g, g = (W19).heap.size := ⟨_, rfl⟩
              rw [← hg20] at N20 ⊢
              have eW : (W19).alloc (.cells #[.int .u8 0, .string { data := #[] }, .slice none 0 0] 61) = (W19).alloc (.cells zC 61) := rfl
              try rw [eW]
              clear eW
              generalize (W19).alloc (.cells zC 61) = W20 at N20 hHeld ⊢
              clear hg20
              have hne : g17 ≠ g20 := by have := N20.out.nd; simp at this; omega
              have hne2 : g20 ≠ g17 := fun e => hne e.symm
              obtain ⟨a0, a1, a2, f0, f1, f2⟩ := z3R (N20.out.zq g17 (by simp)).1
              obtain ⟨b0, b1, b2, e0, e1, e2⟩ := z3R (N20.out.zq g20 (by simp)).1
              have hqx := (N20.out.zq g17 (by simp)).2
              have hqy := (N20.out.zq g20 (by simp)).2
              refine wpAnyH_ready (rs := [6]) (by kernel_rfl) (by simp) ?_
              refine AllReadyH.cons rfl (fun K hK => ?_) AllReadyH.nil
              go_simp
              refine hK.out _ _ (below_fill N20.out.bl hqx _ _ _) (fun hHeld => ?_)
              clear hK K
              try simp only [List.getElem_toArray, List.getElem_cons_zero, List.getElem_cons_succ, Act.put, List.setIfInBounds_toArray, List.set_cons_zero, List.set_cons_succ]
              refine wpAnyH_ready (rs := [7]) (by kernel_rfl) (by simp) ?_
              refine AllReadyH.cons rfl (fun K hK => ?_) AllReadyH.nil
              go_simp
              refine hK.out _ _ (below_fill (below_fill N20.out.bl hqx _ _ _) hqy _ _ _) (fun hHeld => ?_)
              clear hK K
              try simp only [List.getElem_toArray, List.getElem_cons_zero, List.getElem_cons_succ, Act.put, List.setIfInBounds_toArray, List.set_cons_zero, List.set_cons_succ]
              refine wpAnyH_done (by kernel_rfl) ?_ _
              go_wp2_with fail
              go_meet
              case rel => exact ⟨g17, g20, _, _, _, _, rfl, rfl, N20.out.fill (by simp) (by simp) hne _ _ _ _ _ _ _ rfl⟩
          · go_simp
            refine hK.out _ _ N18.out.alloc.bl (fun hHeld => ?_)
            clear hK K
            try simp only [List.getElem_toArray, List.getElem_cons_zero, List.getElem_cons_succ, Act.put, List.setIfInBounds_toArray, List.set_cons_zero, List.set_cons_succ]
            have N21 := Lib.hid (show Nd Y _ _ ((W18).heap.size :: _) from N18.out.alloc)
            obtain ⟨g21, hg21⟩ : ∃ g, g = (W18).heap.size := ⟨_, rfl⟩
            rw [← hg21] at N21 ⊢
            have eW : (W18).alloc (.cells #[.int .u8 0, .string { data := #[] }, .slice none 0 0] 61) = (W18).alloc (.cells zC 61) := rfl
            try rw [eW]
            clear eW
            generalize (W18).alloc (.cells zC 61) = W21 at N21 hHeld ⊢
            clear hg21
            refine wpAnyH_ready (rs := [3]) (by kernel_rfl) (by simp) ?_
            refine AllReadyH.cons rfl (fun K hK => ?_) AllReadyH.nil
            · rw [if_pos (by rfl)]
              go_simp
              refine (D2.out _ N21.out.bl).mono ?_
              rintro e W22 ⟨A6, c6, rfl, hb, hp⟩
              (try go_wp2_with fail)
              refine hK.out _ _ (N21.out.step hb).bl (fun hHeld => ?_)
              clear hK K
              try simp only [List.getElem_toArray, List.getElem_cons_zero, List.getElem_cons_succ, Act.put, List.setIfInBounds_toArray, List.set_cons_zero, List.set_cons_succ]
              have N22 := Lib.hid ((N21.out.step hb).add hp)
              clear hb hp
              have hne : g17 ≠ g21 := by have := N22.out.nd; simp at this; omega
              have hne2 : g21 ≠ g17 := fun e => hne e.symm
              obtain ⟨a0, a1, a2, f0, f1, f2⟩ := z3R (N22.out.zq g17 (by simp)).1
              obtain ⟨b0, b1, b2, e0, e1, e2⟩ := z3R (N22.out.zq g21 (by simp)).1
              have hqx := (N22.out.zq g17 (by simp)).2
              have hqy := (N22.out.zq g21 (by simp)).2
              refine wpAnyH_ready (rs := [6]) (by kernel_rfl) (by simp) ?_
              refine AllReadyH.cons rfl (fun K hK => ?_) AllReadyH.nil
              go_simp
              refine hK.out _ _ (below_fill N22.out.bl hqx _ _ _) (fun hHeld => ?_)
              clear hK K
              try simp only [List.getElem_toArray, List.getElem_cons_zero, List.getElem_cons_succ, Act.put, List.setIfInBounds_toArray, List.set_cons_zero, List.set_cons_succ]
              refine wpAnyH_ready (rs := [7]) (by kernel_rfl) (by simp) ?_
              refine AllReadyH.cons rfl (fun K hK => ?_) AllReadyH.nil
              go_simp
              refine hK.out _ _ (below_fill (below_fill N22.out.bl hqx _ _ _) hqy _ _ _) (fun hHeld => ?_)
              clear hK K
              try simp only [List.getElem_toArray, List.getElem_cons_zero, List.getElem_cons_succ, Act.put, List.setIfInBounds_toArray, List.set_cons_zero, List.set_cons_succ]
              refine wpAnyH_done (by kernel_rfl) ?_ _
              go_wp2_with fail
              go_meet
              case rel => exact ⟨g17, g21, _, _, _, _, rfl, rfl, N22.out.fill (by simp) (by simp) hne _ _ _ _ _ _ _ rfl⟩
        · go_simp
          refine hK.out _ _ N17.out.alloc.bl (fun hHeld => ?_)
          clear hK K
          try simp only [List.getElem_toArray, List.getElem_cons_zero, List.getElem_cons_succ, Act.put, List.setIfInBounds_toArray, List.set_cons_zero, List.set_cons_succ]
          have N23 := Lib.hid (show Nd Y _ _ ((W17).heap.size :: _) from N17.out.alloc)
          obtain ⟨g23, hg23⟩ : ∃ g, g = (W17).heap.size := ⟨_, rfl⟩
          rw [← hg23] at N23 ⊢
          have eW : (W17).alloc (.cells #[.int .u8 0, .string { data := #[] }, .slice none 0 0] 61) = (W17).alloc (.cells zC 61) := rfl
          try rw [eW]
          clear eW
          generalize (W17).alloc (.cells zC 61) = W23 at N23 hHeld ⊢
          clear hg23
          refine wpAnyH_ready (rs := [1]) (by kernel_rfl) (by simp) ?_
          refine AllReadyH.cons rfl (fun K hK => ?_) AllReadyH.nil
          · rw [if_pos (by rfl)]
            go_simp
            refine (D1.out _ N23.out.bl).mono ?_
            rintro e W24 ⟨A5, c5, rfl, hb, hp⟩
            (try go_wp2_with fail)
            refine hK.out _ _ (N23.out.step hb).bl (fun hHeld => ?_)
            clear hK K
            try simp only [List.getElem_toArray, List.getElem_cons_zero, List.getElem_cons_succ, Act.put, List.setIfInBounds_toArray, List.set_cons_zero, List.set_cons_succ]
            have N24 := Lib.hid ((N23.out.step hb).add hp)
            clear hb hp
            refine wpAnyH_ready (rs := [3]) (by kernel_rfl) (by simp) ?_
            refine AllReadyH.cons rfl (fun K hK => ?_) AllReadyH.nil
            · rw [if_pos (by rfl)]
              go_simp
              refine (D2.out _ N24.out.bl).mono ?_
              rintro e W25 ⟨A6, c6, rfl, hb, hp⟩
              (try go_wp2_with fail)
              refine hK.out _ _ (N24.out.step hb).bl (fun hHeld => ?_)
              clear hK K
              try simp only [List.getElem_toArray, List.getElem_cons_zero, List.getElem_cons_succ, Act.put, List.setIfInBounds_toArray, List.set_cons_zero, List.set_cons_succ]
              have N25 := Lib.hid ((N24.out.step hb).add hp)
              clear hb hp
              have hne : g17 ≠ g23 := by have := N25.out.nd; simp at this; omega
              have hne2 : g23 ≠ g17 := fun e => hne e.symm
              obtain ⟨a0, a1, a2, f0, f1, f2⟩ := z3R (N25.out.zq g17 (by simp)).1
              obtain ⟨b0, b1, b2, e0, e1, e2⟩ := z3R (N25.out.zq g23 (by simp)).1
              have hqx := (N25.out.zq g17 (by simp)).2
              have hqy := (N25.out.zq g23 (by simp)).2
              refine wpAnyH_ready (rs := [6]) (by kernel_rfl) (by simp) ?_
              refine AllReadyH.cons rfl (fun K hK => ?_) AllReadyH.nil
              go_simp
              refine hK.out _ _ (below_fill N25.out.bl hqx _ _ _) (fun hHeld => ?_)
              clear hK K
              try simp only [List.getElem_toArray, List.getElem_cons_zero, List.getElem_cons_succ, Act.put, List.setIfInBounds_toArray, List.set_cons_zero, List.set_cons_succ]
              refine wpAnyH_ready (rs := [7]) (by kernel_rfl) (by simp) ?_
              refine AllReadyH.cons rfl (fun K hK => ?_) AllReadyH.nil
              go_simp
              refine hK.out _ _ (below_fill (below_fill N25.out.bl hqx _ _ _) hqy _ _ _) (fun hHeld => ?_)
              clear hK K
              try simp only [List.getElem_toArray, List.getElem_cons_zero, List.getElem_cons_succ, Act.put, List.setIfInBounds_toArray, List.set_cons_zero, List.set_cons_succ]
              refine wpAnyH_done (by kernel_rfl) ?_ _
              go_wp2_with fail
              go_meet
              case rel => exact ⟨g17, g23, _, _, _, _, rfl, rfl, N25.out.fill (by simp) (by simp) hne _ _ _ _ _ _ _ rfl⟩
      · go_simp
        refine hK.out _ _ N0.out.alloc.bl (fun hHeld => ?_)
        clear hK K
        try simp only [List.getElem_toArray, List.getElem_cons_zero, List.getElem_cons_succ, Act.put, List.setIfInBounds_toArray, List.set_cons_zero, List.set_cons_succ]
        have N26 := Lib.hid (show Nd Y _ _ ((W0).heap.size :: _) from N0.out.alloc)
        obtain ⟨g26, hg26⟩ : ∃ g, g = (W0).heap.size := ⟨_, rfl⟩
        rw [← hg26] at N26 ⊢
        have eW : (W0).alloc (.cells #[.int .u8 0, .string { data := #[] }, .slice none 0 0] 61) = (W0).alloc (.cells zC 61) := rfl
        try rw [eW]
        clear eW
        generalize (W0).alloc (.cells zC 61) = W26 at N26 hHeld ⊢
        clear hg26
        refine wpAnyH_ready (rs := [1, 4]) (by kernel_rfl) (by simp) ?_
        refine AllReadyH.cons rfl (fun K hK => ?_) (AllReadyH.cons rfl (fun K hK => ?_) AllReadyH.nil)
        · rw [if_pos (by rfl)]
          go_simp
          refine (D1.out _ N26.out.bl).mono ?_
          rintro e W27 ⟨A5, c5, rfl, hb, hp⟩
          (try go_wp2_with fail)
          refine hK.out _ _ (N26.out.step hb).bl (fun hHeld => ?_)
          clear hK K
          try simp only [List.getElem_toArray, List.getElem_cons_zero, List.getElem_cons_succ, Act.put, List.setIfInBounds_toArray, List.set_cons_zero, List.set_cons_succ]
          have N27 := Lib.hid ((N26.out.step hb).add hp)
          clear hb hp
          refine wpAnyH_ready (rs := [3, 4]) (by kernel_rfl) (by simp) ?_
          refine AllReadyH.cons rfl (fun K hK => ?_) (AllReadyH.cons rfl (fun K hK => ?_) AllReadyH.nil)
          · rw [if_pos (by rfl)]
            go_simp
            refine (D2.out _ N27.out.bl).mono ?_
            rintro e W28 ⟨A6, c6, rfl, hb, hp⟩
            (try go_wp2_with fail)
            refine hK.out _ _ (N27.out.step hb).bl (fun hHeld => ?_)
            clear hK K
            try simp only [List.getElem_toArray, List.getElem_cons_zero, List.getElem_cons_succ, Act.put, List.setIfInBounds_toArray, List.set_cons_zero, List.set_cons_succ]
            have N28 := Lib.hid ((N27.out.step hb).add hp)
            clear hb hp
            refine wpAnyH_ready (rs := [4]) (by kernel_rfl) (by simp) ?_
            refine AllReadyH.cons rfl (fun K hK => ?_) AllReadyH.nil
            · go_simp
              refine hK.out _ _ N28.out.alloc.bl (fun hHeld => ?_)
              clear hK K
              try simp only [List.getElem_toArray, List.getElem_cons_zero, List.getElem_cons_succ, Act.put, List.setIfInBounds_toArray, List.set_cons_zero, List.set_cons_succ]
              have N29 := Lib.hid (show Nd Y _ _ ((W28).heap.size :: _) from N28.out.alloc)
              obtain ⟨g29, hg29⟩ : ∃ g, g = (W28).heap.size := ⟨_, rfl⟩
              rw [← hg29] at N29 ⊢
              have eW : (W28).alloc (.cells #[.int .u8 0, .string { data := #[] }, .slice none 0 0] 61) = (W28).alloc (.cells zC 61) := rfl
              try rw [eW]
              clear eW
              generalize (W28).alloc (.cells zC 61) = W29 at N29 hHeld ⊢
              clear hg29
              have hne : g29 ≠ g26 := by have := N29.out.nd; simp at this; omega
              have hne2 : g26 ≠ g29 := fun e => hne e.symm
              obtain ⟨a0, a1, a2, f0, f1, f2⟩ := z3R (N29.out.zq g29 (by simp)).1
              obtain ⟨b0, b1, b2, e0, e1, e2⟩ := z3R (N29.out.zq g26 (by simp)).1
              have hqx := (N29.out.zq g29 (by simp)).2
              have hqy := (N29.out.zq g26 (by simp)).2
              refine wpAnyH_ready (rs := [6]) (by kernel_rfl) (by simp) ?_
              refine AllReadyH.cons rfl (fun K hK => ?_) AllReadyH.nil
              go_simp
              refine hK.out _ _ (below_fill N29.out.bl hqx _ _ _) (fun hHeld => ?_)
              clear hK K
              try simp only [List.getElem_toArray, List.getElem_cons_zero, List.getElem_cons_succ, Act.put, List.setIfInBounds_toArray, List.set_cons_zero, List.set_cons_succ]
              refine wpAnyH_ready (rs := [7]) (by kernel_rfl) (by simp) ?_
              refine AllReadyH.cons rfl (fun K hK => ?_) AllReadyH.nil
              go_simp
              refine hK.out _ _ (below_fill (below_fill N29.out.bl hqx _ _ _) hqy _ _ _) (fun hHeld => ?_)
              clear hK K
              try simp only [List.getElem_toArray, List.getElem_cons_zero, List.getElem_cons_succ, Act.put, List.setIfInBounds_toArray, List.set_cons_zero, List.set_cons_succ]
              refine wpAnyH_done (by kernel_rfl) ?_ _
              go_wp2_with fail
              go_meet
              case rel => exact ⟨g29, g26, _, _, _, _, rfl, rfl, N29.out.fill (by simp) (by simp) hne _ _ _ _ _ _ _ rfl⟩
          · go_simp
            refine hK.out _ _ N27.out.alloc.bl (fun hHeld => ?_)
            clear hK K
            try simp only [List.getElem_toArray, List.getElem_cons_zero, List.getElem_cons_succ, Act.put, List.setIfInBounds_toArray, List.set_cons_zero, List.set_cons_succ]
            have N30 := Lib.hid (show Nd Y _ _ ((W27).heap.size :: _) from N27.out.alloc)
            obtain ⟨g30, hg30⟩ : ∃ g, g = (W27).heap.size := ⟨_, rfl⟩
            rw [← hg30] at N30 ⊢
            have eW : (W27).alloc (.cells #[.int .u8 0, .string { data := #[] }, .slice none 0 0] 61) = (W27).alloc (.cells zC 61) := rfl
            try rw [eW]
            clear eW
            generalize (W27).alloc (.cells zC 61) = W30 at N30 hHeld ⊢
            clear hg30
            refine wpAnyH_ready (rs := [3]) (by kernel_rfl) (by simp) ?_
            refine AllReadyH.cons rfl (fun K hK => ?_) AllReadyH.nil
            · rw [if_pos (by rfl)]
              go_simp
              refine (D2.out _ N30.out.bl).mono ?_
              rintro e W31 ⟨A6, c6, rfl, hb, hp⟩
              (try go_wp2_with fail)
              refine hK.out _ _ (N30.out.step hb).bl (fun hHeld => ?_)
              clear hK K
              try simp only [List.getElem_toArray, List.getElem_cons_zero, List.getElem_cons_succ, Act.put, List.setIfInBounds_toArray, List.set_cons_zero, List.set_cons_succ]
              have N31 := Lib.hid ((N30.out.step hb).add hp)
              clear hb hp
              have hne : g30 ≠ g26 := by have := N31.out.nd; simp at this; omega
              have hne2 : g26 ≠ g30 := fun e => hne e.symm
              obtain ⟨a0, a1, a2, f0, f1, f2⟩ := z3R (N31.out.zq g30 (by simp)).1
              obtain ⟨b0, b1, b2, e0, e1, e2⟩ := z3R (N31.out.zq g26 (by simp)).1
              have hqx := (N31.out.zq g30 (by simp)).2
              have hqy := (N31.out.zq g26 (by simp)).2
              refine wpAnyH_ready (rs := [6]) (by kernel_rfl) (by simp) ?_
              refine AllReadyH.cons rfl (fun K hK => ?_) AllReadyH.nil
              go_simp
              refine hK.out _ _ (below_fill N31.out.bl hqx _ _ _) (fun hHeld => ?_)
              clear hK K
              try simp only [List.getElem_toArray, List.getElem_cons_zero, List.getElem_cons_succ, Act.put, List.setIfInBounds_toArray, List.set_cons_zero, List.set_cons_succ]
              refine wpAnyH_ready (rs := [7]) (by kernel_rfl) (by simp) ?_
              refine AllReadyH.cons rfl (fun K hK => ?_) AllReadyH.nil
              go_simp
              refine hK.out _ _ (below_fill (below_fill N31.out.bl hqx _ _ _) hqy _ _ _) (fun hHeld => ?_)
              clear hK K
              try simp only [List.getElem_toArray, List.getElem_cons_zero, List.getElem_cons_succ, Act.put, List.setIfInBounds_toArray, List.set_cons_zero, List.set_cons_succ]
              refine wpAnyH_done (by kernel_rfl) ?_ _
              go_wp2_with fail
              go_meet
              case rel => exact ⟨g30, g26, _, _, _, _, rfl, rfl, N31.out.fill (by simp) (by simp) hne _ _ _ _ _ _ _ rfl⟩
        · go_simp
          refine hK.out _ _ N26.out.alloc.bl (fun hHeld => ?_)
          clear hK K
          try simp only [List.getElem_toArray, List.getElem_cons_zero, List.getElem_cons_succ, Act.put, List.setIfInBounds_toArray, List.set_cons_zero, List.set_cons_succ]
          have N32 := Lib.hid (show Nd Y _ _ ((W26).heap.size :: _) from N26.out.alloc)
          obtain ⟨g32, hg32⟩ : ∃ g, g = (W26).heap.size := ⟨_, rfl⟩
          rw [← hg32] at N32 ⊢
          have eW : (W26).alloc (.cells #[.int .u8 0, .string { data := #[] }, .slice none 0 0] 61) = (W26).alloc (.cells zC 61) := rfl
          try rw [eW]
          clear eW
          generalize (W26).alloc (.cells zC 61) = W32 at N32 hHeld ⊢
          clear hg32
          refine wpAnyH_ready (rs := [1]) (by kernel_rfl) (by simp) ?_
          refine AllReadyH.cons rfl (fun K hK => ?_) AllReadyH.nil
          · rw [if_pos (by rfl)]
            go_simp
            refine (D1.out _ N32.out.bl).mono ?_
            rintro e W33 ⟨A5, c5, rfl, hb, hp⟩
            (try go_wp2_with fail)
            refine hK.out _ _ (N32.out.step hb).bl (fun hHeld => ?_)
            clear hK K
            try simp only [List.getElem_toArray, List.getElem_cons_zero, List.getElem_cons_succ, Act.put, List.setIfInBounds_toArray, List.set_cons_zero, List.set_cons_succ]
            have N33 := Lib.hid ((N32.out.step hb).add hp)
            clear hb hp
            refine wpAnyH_ready (rs := [3]) (by kernel_rfl) (by simp) ?_
            refine AllReadyH.cons rfl (fun K hK => ?_) AllReadyH.nil
            · rw [if_pos (by rfl)]
              go_simp
              refine (D2.out _ N33.out.bl).mono ?_
              rintro e W34 ⟨A6, c6, rfl, hb, hp⟩
              (try go_wp2_with fail)
              refine hK.out _ _ (N33.out.step hb).bl (fun hHeld => ?_)
              clear hK K
              try simp only [List.getElem_toArray, List.getElem_cons_zero, List.getElem_cons_succ, Act.put, List.setIfInBounds_toArray, List.set_cons_zero, List.set_cons_succ]
              have N34 := Lib.hid ((N33.out.step hb).add hp)
              clear hb hp
              have hne : g32 ≠ g26 := by have := N34.out.nd; simp at this; omega
              have hne2 : g26 ≠ g32 := fun e => hne e.symm
              obtain ⟨a0, a1, a2, f0, f1, f2⟩ := z3R (N34.out.zq g32 (by simp)).1
              obtain ⟨b0, b1, b2, e0, e1, e2⟩ := z3R (N34.out.zq g26 (by simp)).1
              have hqx := (N34.out.zq g32 (by simp)).2
              have hqy := (N34.out.zq g26 (by simp)).2
              refine wpAnyH_ready (rs := [6]) (by kernel_rfl) (by simp) ?_
              refine AllReadyH.cons rfl (fun K hK => ?_) AllReadyH.nil
              go_simp
              refine hK.out _ _ (below_fill N34.out.bl hqx _ _ _) (fun hHeld => ?_)
              clear hK K
              try simp only [List.getElem_toArray, List.getElem_cons_zero, List.getElem_cons_succ, Act.put, List.setIfInBounds_toArray, List.set_cons_zero, List.set_cons_succ]
              refine wpAnyH_ready (rs := [7]) (by kernel_rfl) (by simp) ?_
              refine AllReadyH.cons rfl (fun K hK => ?_) AllReadyH.nil
              go_simp
              refine hK.out _ _ (below_fill (below_fill N34.out.bl hqx _ _ _) hqy _ _ _) (fun hHeld => ?_)
              clear hK K
              try simp only [List.getElem_toArray, List.getElem_cons_zero, List.getElem_cons_succ, Act.put, List.setIfInBounds_toArray, List.set_cons_zero, List.set_cons_succ]
              refine wpAnyH_done (by kernel_rfl) ?_ _
              go_wp2_with fail
              go_meet
              case rel => exact ⟨g32, g26, _, _, _, _, rfl, rfl, N34.out.fill (by simp) (by simp) hne _ _ _ _ _ _ _ rfl⟩
    case rest =>
      obtain ⟨g1, g2, A5, c5, A6, c6, rfl, rfl, hbl, hx, hy, h5, h6⟩ := hcut
      have HZ := Lib.hid (((((HKY.out.step hbl).more hx).more hy).add h5).add h6)
      clear hbl hx hy h5 h6 D1 D2 NA NB RA RB HKY
      obtain ⟨P, hP⟩ : ∃ P : World → Prop, P = KB w [(g2, .cells #[.int .u8 (b.verb : Int), sv b.arg, .slice A6 b.ps.length c6] 61), (g1, .cells #[.int .u8 (a.verb : Int), sv a.arg, .slice A5 a.ps.length c5] 61), (w3.heap.size, .cells #[.int .u8 (a.verb : Int), sv a.arg, .slice A3 a.ps.length c3] 41), (w.heap.size + 1, .cells #[.int .u8 (b.verb : Int), sv b.arg, .slice B b.ps.length cb] 41), (w.heap.size, .cells #[.int .u8 (a.verb : Int), sv a.arg, .slice A a.ps.length ca] 41)] [(.slice A6 b.ps.length c6, b.ps), (.slice A5 a.ps.length c5, a.ps), (.slice A3 a.ps.length c3, a.ps), (.slice B b.ps.length cb, b.ps), (.slice A a.ps.length ca, a.ps)] := ⟨_, rfl⟩
      have PS := Lib.hid (show ∀ W W', P W → Below W.heap.size W W' → P W' by rw [hP]; exact fun W W' h hb => h.step hb)
      have PL := Lib.hid (show ∀ W, P W → LW W by rw [hP]; exact fun W h => h.lw)
      have PW := Lib.hid (show ∀ W, P W → Below w.heap.size w W by rw [hP]; exact fun W h => h.bl)
      have PA := Lib.hid (show ∀ W, P W → W.heap[w.heap.size]? = some (.cells #[.int .u8 (a.verb : Int), sv a.arg, .slice A a.ps.length ca] 41 (0, 0)) by rw [hP]; exact fun W h => h.blk (w.heap.size, .cells #[.int .u8 (a.verb : Int), sv a.arg, .slice A a.ps.length ca] 41) (by simp))
      have QA := Lib.hid (show ∀ W, P W → PR W (.slice A a.ps.length ca) a.ps by rw [hP]; exact fun W h => h.row (.slice A a.ps.length ca, a.ps) (by simp))
      have PB := Lib.hid (show ∀ W, P W → W.heap[w.heap.size + 1]? = some (.cells #[.int .u8 (b.verb : Int), sv b.arg, .slice B b.ps.length cb] 41 (0, 0)) by rw [hP]; exact fun W h => h.blk (w.heap.size + 1, .cells #[.int .u8 (b.verb : Int), sv b.arg, .slice B b.ps.length cb] 41) (by simp))
      have QB := Lib.hid (show ∀ W, P W → PR W (.slice B b.ps.length cb) b.ps by rw [hP]; exact fun W h => h.row (.slice B b.ps.length cb, b.ps) (by simp))
      have PC := Lib.hid (show ∀ W, P W → W.heap[w3.heap.size]? = some (.cells #[.int .u8 (a.verb : Int), sv a.arg, .slice A3 a.ps.length c3] 41 (0, 0)) by rw [hP]; exact fun W h => h.blk (w3.heap.size, .cells #[.int .u8 (a.verb : Int), sv a.arg, .slice A3 a.ps.length c3] 41) (by simp))
      have QC := Lib.hid (show ∀ W, P W → PR W (.slice A3 a.ps.length c3) a.ps by rw [hP]; exact fun W h => h.row (.slice A3 a.ps.length c3, a.ps) (by simp))
      have PX := Lib.hid (show ∀ W, P W → W.heap[g1]? = some (.cells #[.int .u8 (a.verb : Int), sv a.arg, .slice A5 a.ps.length c5] 61 (0, 0)) by rw [hP]; exact fun W h => h.blk (g1, .cells #[.int .u8 (a.verb : Int), sv a.arg, .slice A5 a.ps.length c5] 61) (by simp))
      have QX := Lib.hid (show ∀ W, P W → PR W (.slice A5 a.ps.length c5) a.ps by rw [hP]; exact fun W h => h.row (.slice A5 a.ps.length c5, a.ps) (by simp))
      have PY := Lib.hid (show ∀ W, P W → W.heap[g2]? = some (.cells #[.int .u8 (b.verb : Int), sv b.arg, .slice A6 b.ps.length c6] 61 (0, 0)) by rw [hP]; exact fun W h => h.blk (g2, .cells #[.int .u8 (b.verb : Int), sv b.arg, .slice A6 b.ps.length c6] 61) (by simp))
      have QY := Lib.hid (show ∀ W, P W → PR W (.slice A6 b.ps.length c6) b.ps by rw [hP]; exact fun W h => h.row (.slice A6 b.ps.length c6, b.ps) (by simp))
      have HP := Lib.hid (show P _ by rw [hP]; exact HZ.out)
      clear hP HZ
      have CSH := Lib.hid (fun W (h : P W) => (showK_any a (.slice A3 a.ps.length c3) W (QC.out W h) SA2.out (PL.out W h)).mono (R' := fun e w' => e = .returned (.tuple #[sv (showK a).1, .int .i64 ((showK a).2 : Int)]) ∧ P w') fun _ w' q => ⟨q.1, PS.out W w' h q.2⟩)
      have CRS := Lib.hid (fun W (h : P W) => (rshowK_any a (.slice A5 a.ps.length c5) W (QX.out W h) SA2.out.verb (by have := SA2.out.arg; omega) SA2.out.p6 (fun p hp => by have := SA2.out.each p hp; omega)).mono (R' := fun e w' => e = .returned (.tuple #[sv (showK a).1, .int .i64 ((showK a).2 : Int)]) ∧ P w') fun _ w' q => ⟨q.1, PS.out W w' h q.2⟩)
      have CG := Lib.hid (fun W (h : P W) => (getK_any a n (.slice A3 a.ps.length c3) W (QC.out W h) SA2.out.p6 (fun p hp => by have := SA2.out.each p hp; omega)).mono (R' := fun e w' => e = .returned (.tuple #[sv (getP a.ps n).1, .bool (getP a.ps n).2]) ∧ P w') fun _ w' q => ⟨q.1, PS.out W w' h q.2⟩)
      have CRG := Lib.hid (fun W (h : P W) => (rgetK_any a n (.slice A5 a.ps.length c5) W (QX.out W h) SA2.out.p6).mono (R' := fun e w' => e = .returned (.tuple #[sv (getP a.ps n).1, .bool (getP a.ps n).2]) ∧ P w') fun _ w' q => ⟨q.1, PS.out W w' h q.2⟩)
      have CM := Lib.hid (fun W (h : P W) => (may_any' a (.slice A3 a.ps.length c3) W (QC.out W h) SA2.out (PL.out W h)).mono (R' := fun e w' => e = .returned (.bool (mayK a)) ∧ P w') fun _ w' q => ⟨q.1, PS.out W w' h q.2⟩)
      have CRM := Lib.hid (fun W (h : P W) => (rmayK_any a (.slice A5 a.ps.length c5) W (QX.out W h) SA2.out.verb (by have := SA2.out.arg; omega) SA2.out.p6 (fun p hp => by have := SA2.out.each p hp; omega)).mono (R' := fun e w' => e = .returned (.bool (mayK a)) ∧ P w') fun _ w' q => ⟨q.1, PS.out W w' h q.2⟩)
      have CSM := Lib.hid (fun W (h : P W) => (sameK_any a b (.slice A a.ps.length ca) (.slice B b.ps.length cb) W (QA.out W h) (QB.out W h) SA2.out.p6 SB2.out.p6).mono (R' := fun e w' => e = .returned (.bool (sameK a b)) ∧ P w') fun _ w' q => ⟨q.1, PS.out W w' h q.2⟩)
      have CRM2 := Lib.hid (fun W (h : P W) => (rsameK_any a b (.slice A5 a.ps.length c5) (.slice A6 b.ps.length c6) W (QX.out W h) (QY.out W h) SA2.out.p6 SB2.out.p6).mono (R' := fun e w' => e = .returned (.bool (sameK a b)) ∧ P w') fun _ w' q => ⟨q.1, PS.out W w' h q.2⟩)
      have CAW := Lib.hid (fun W (h : P W) => (awake_any W (PL.out W h)).mono (R' := fun e w' => e = .returned (.bool true) ∧ P w') fun _ w' q => ⟨q.1, PS.out W w' h q.2⟩)
      have CT := Lib.hid (fun W (h : P W) => (told_any a (.slice A3 a.ps.length c3) W (QC.out W h) (by have := SA2.out.ps; omega)).mono (R' := fun e w' => ∃ A7 c7, e = .returned (.agg #[.int .u8 (a.verb : Int), sv a.arg, .slice A7 a.ps.length c7]) ∧ P w' ∧ PR w' (.slice A7 a.ps.length c7) a.ps) fun _ w' hq => by obtain ⟨A7, c7, q1, q2, q3⟩ := rc_open hq; exact ⟨A7, c7, q1, PS.out W w' h q2, q3⟩)
      have CRT := Lib.hid (fun W (h : P W) (A7 : Option Addr) (c7 : Nat) (hr : PR W (.slice A7 a.ps.length c7) a.ps) => (rsameK_any a a (.slice A7 a.ps.length c7) (.slice A5 a.ps.length c5) W hr (QX.out W h) SA2.out.p6 SA2.out.p6).mono (R' := fun e w' => e = .returned (.bool true) ∧ P w') fun _ w' q => ⟨by rw [← sameK_refl a]; exact q.1, PS.out W w' h q.2⟩)
      have HSL := Lib.hid (showK_len a)
      generalize showK a = sh at CSH CRS HSL
      generalize getP a.ps n = gp at CG CRG
      generalize mayK a = mk at CM CRM
      generalize sameK a b = sk at CSM CRM2
      obtain ⟨q0, q1, q2⟩ := cells3 (PC.out _ HP.out)
      obtain ⟨x0, x1, x2⟩ := cells3 (PX.out _ HP.out)
      go_wp2_with (first
        | (go_at_call 20; with_reducible refine (CSH.out _ HP.out).mono ?_; rintro e w5 ⟨rfl, h5⟩; have HP5 := Lib.hid h5; clear h5; clear q0 q1 q2 x0 x1 x2; obtain ⟨q0, q1, q2⟩ := cells3 (PC.out _ HP5.out); obtain ⟨x0, x1, x2⟩ := cells3 (PX.out _ HP5.out))
        | (go_at_call 29; with_reducible refine (CRS.out _ HP5.out).mono ?_; rintro e w6 ⟨rfl, h6⟩; have HP6 := Lib.hid h6; clear h6; clear q0 q1 q2 x0 x1 x2; obtain ⟨q0, q1, q2⟩ := cells3 (PC.out _ HP6.out); obtain ⟨x0, x1, x2⟩ := cells3 (PX.out _ HP6.out))
        | (go_at_call 25; with_reducible refine (CG.out _ HP6.out).mono ?_; rintro e w7 ⟨rfl, h7⟩; have HP7 := Lib.hid h7; clear h7; clear q0 q1 q2 x0 x1 x2; obtain ⟨q0, q1, q2⟩ := cells3 (PC.out _ HP7.out); obtain ⟨x0, x1, x2⟩ := cells3 (PX.out _ HP7.out))
        | (go_at_call 30; with_reducible refine (CRG.out _ HP7.out).mono ?_; rintro e w8 ⟨rfl, h8⟩; have HP8 := Lib.hid h8; clear h8; clear q0 q1 q2 x0 x1 x2; obtain ⟨q0, q1, q2⟩ := cells3 (PC.out _ HP8.out); obtain ⟨x0, x1, x2⟩ := cells3 (PX.out _ HP8.out)))
      refine wp_region_held_drew (S := P) (by kernel_rfl) (PS.out _ _ HP8.out (Below.refl _ _).drew) (fun hHeld => ?_)
      refine wpAnyH_take (i := 0) (v := ?vv0_14) rfl (by kernel_rfl) (by kernel_rfl) (by kernel_rfl) (fun _ _ _ h => h) (Or.inl ⟨by rfl, ?hy0_14⟩) (by assumption) ?rest0_14
      case hy0_14 => (intro w' hSw; (try dsimp only at hSw); go_simp; try with_reducible rfl)
      try simp only [List.getElem_toArray, List.getElem_cons_zero, List.getElem_cons_succ, Act.put, List.setIfInBounds_toArray, List.set_cons_zero, List.set_cons_succ]
      refine wpAnyH_take (i := 1) (v := ?vv1_14) rfl (by kernel_rfl) (by kernel_rfl) (by kernel_rfl) (fun _ _ _ h => h) (Or.inl ⟨by rfl, ?hy1_14⟩) (by assumption) ?rest1_14
      case hy1_14 => (intro w' hSw; (try dsimp only at hSw); go_simp; try with_reducible rfl)
      try simp only [List.getElem_toArray, List.getElem_cons_zero, List.getElem_cons_succ, Act.put, List.setIfInBounds_toArray, List.set_cons_zero, List.set_cons_succ]
      refine wpAnyH_take (i := 2) (v := ?vv2_14) rfl (by kernel_rfl) (by kernel_rfl) (by kernel_rfl) (fun _ _ _ h => h) (Or.inl ⟨by rfl, ?hy2_14⟩) (by assumption) ?rest2_14
      case hy2_14 => (intro w' hSw; (try dsimp only at hSw); go_simp; try with_reducible rfl)
      try simp only [List.getElem_toArray, List.getElem_cons_zero, List.getElem_cons_succ, Act.put, List.setIfInBounds_toArray, List.set_cons_zero, List.set_cons_succ]
      refine wpAnyH_take (i := 3) (v := ?vv3_14) rfl (by kernel_rfl) (by kernel_rfl) (by kernel_rfl) (fun _ _ _ h => h) (Or.inl ⟨by rfl, ?hy3_14⟩) (by assumption) ?rest3_14
      case hy3_14 => (intro w' hSw; (try dsimp only at hSw); go_simp; try with_reducible rfl)
      try simp only [List.getElem_toArray, List.getElem_cons_zero, List.getElem_cons_succ, Act.put, List.setIfInBounds_toArray, List.set_cons_zero, List.set_cons_succ]
      refine wpAnyH_take (i := 4) (v := ?vv4_14) rfl (by kernel_rfl) (by kernel_rfl) (by kernel_rfl) (fun _ _ _ h => h) (Or.inl ⟨by rfl, ?hy4_14⟩) (by assumption) ?rest4_14
      case hy4_14 => (intro w' hSw; (try dsimp only at hSw); go_simp; try with_reducible rfl)
      try simp only [List.getElem_toArray, List.getElem_cons_zero, List.getElem_cons_succ, Act.put, List.setIfInBounds_toArray, List.set_cons_zero, List.set_cons_succ]
      refine wpAnyH_take (i := 5) (v := ?vv5_14) rfl (by kernel_rfl) (by kernel_rfl) (by kernel_rfl) (fun _ _ _ h => h) (Or.inl ⟨by rfl, ?hy5_14⟩) (by assumption) ?rest5_14
      case hy5_14 => (intro w' hSw; (try dsimp only at hSw); go_simp; try with_reducible rfl)
      try simp only [List.getElem_toArray, List.getElem_cons_zero, List.getElem_cons_succ, Act.put, List.setIfInBounds_toArray, List.set_cons_zero, List.set_cons_succ]
      refine wpAnyH_take (i := 6) (v := ?vv6_14) rfl (by kernel_rfl) (by kernel_rfl) (by kernel_rfl) (fun _ _ _ h => h) (Or.inl ⟨by rfl, ?hy6_14⟩) (by assumption) ?rest6_14
      case hy6_14 => (intro w' hSw; (try dsimp only at hSw); go_simp; try with_reducible rfl)
      try simp only [List.getElem_toArray, List.getElem_cons_zero, List.getElem_cons_succ, Act.put, List.setIfInBounds_toArray, List.set_cons_zero, List.set_cons_succ]
      refine wpAnyH_take (i := 7) (v := ?vv7_14) rfl (by kernel_rfl) (by kernel_rfl) (by kernel_rfl) (fun _ _ _ h => h) (Or.inl ⟨by rfl, ?hy7_14⟩) (by assumption) ?rest7_14
      case hy7_14 => (intro w' hSw; (try dsimp only at hSw); go_simp; try with_reducible rfl)
      try simp only [List.getElem_toArray, List.getElem_cons_zero, List.getElem_cons_succ, Act.put, List.setIfInBounds_toArray, List.set_cons_zero, List.set_cons_succ]
      refine wpAnyH_take (i := 8) (v := ?vv8_14) rfl (by kernel_rfl) (by kernel_rfl) (by kernel_rfl) (fun _ _ _ h => h) (Or.inl ⟨by rfl, ?hy8_14⟩) (by assumption) ?rest8_14
      case hy8_14 => (intro w' hSw; (try dsimp only at hSw); go_simp; try with_reducible rfl)
      try simp only [List.getElem_toArray, List.getElem_cons_zero, List.getElem_cons_succ, Act.put, List.setIfInBounds_toArray, List.set_cons_zero, List.set_cons_succ]
      refine wpAnyH_take (i := 9) (v := ?vv9_14) rfl (by kernel_rfl) (by kernel_rfl) (by kernel_rfl) (fun _ _ _ h => h) (Or.inl ⟨by rfl, ?hy9_14⟩) (by assumption) ?rest9_14
      case hy9_14 => (intro w' hSw; (try dsimp only at hSw); go_simp; try with_reducible rfl)
      try simp only [List.getElem_toArray, List.getElem_cons_zero, List.getElem_cons_succ, Act.put, List.setIfInBounds_toArray, List.set_cons_zero, List.set_cons_succ]
      refine wpAnyH_take (i := 10) (v := ?vv10_14) rfl (by kernel_rfl) (by kernel_rfl) (by kernel_rfl) (fun _ _ _ h => h) (Or.inl ⟨by rfl, ?hy10_14⟩) (by assumption) ?rest10_14
      case hy10_14 => (intro w' hSw; (try dsimp only at hSw); go_simp; try with_reducible rfl)
      try simp only [List.getElem_toArray, List.getElem_cons_zero, List.getElem_cons_succ, Act.put, List.setIfInBounds_toArray, List.set_cons_zero, List.set_cons_succ]
      refine wpAnyH_take (i := 11) (v := ?vv11_14) rfl (by kernel_rfl) (by kernel_rfl) (by kernel_rfl) (fun _ _ _ h => h) (Or.inl ⟨by rfl, ?hy11_14⟩) (by assumption) ?rest11_14
      case hy11_14 => (intro w' hSw; (try dsimp only at hSw); go_simp; try with_reducible rfl)
      try simp only [List.getElem_toArray, List.getElem_cons_zero, List.getElem_cons_succ, Act.put, List.setIfInBounds_toArray, List.set_cons_zero, List.set_cons_succ]
      refine wpAnyH_take (i := 12) (v := ?vv12_14) rfl (by kernel_rfl) (by kernel_rfl) (by kernel_rfl) (fun _ _ _ h => h) (Or.inl ⟨by rfl, ?hy12_14⟩) (by assumption) ?rest12_14
      case hy12_14 => (intro w' hSw; (try dsimp only at hSw); go_simp; try with_reducible rfl)
      try simp only [List.getElem_toArray, List.getElem_cons_zero, List.getElem_cons_succ, Act.put, List.setIfInBounds_toArray, List.set_cons_zero, List.set_cons_succ]
      refine wpAnyH_take (i := 13) (v := ?vv13_14) rfl (by kernel_rfl) (by kernel_rfl) (by kernel_rfl) (fun _ _ _ h => h) (Or.inl ⟨by rfl, ?hy13_14⟩) (by assumption) ?rest13_14
      case hy13_14 => (intro w' hSw; (try dsimp only at hSw); go_simp; try with_reducible rfl)
      try simp only [List.getElem_toArray, List.getElem_cons_zero, List.getElem_cons_succ, Act.put, List.setIfInBounds_toArray, List.set_cons_zero, List.set_cons_succ]
      refine wpAnyH_take (i := 14) (v := ?vv14_14) rfl (by kernel_rfl) (by kernel_rfl) (by kernel_rfl) (fun _ _ _ h => h) (Or.inl ⟨by rfl, ?hy14_14⟩) (by assumption) ?rest14_14
      case hy14_14 => (intro w' hSw; (try dsimp only at hSw); go_simp; try with_reducible rfl)
      try simp only [List.getElem_toArray, List.getElem_cons_zero, List.getElem_cons_succ, Act.put, List.setIfInBounds_toArray, List.set_cons_zero, List.set_cons_succ]
      refine wpAnyH_take (i := 15) (v := ?vv15_14) rfl (by kernel_rfl) (by kernel_rfl) (by kernel_rfl) (fun _ _ _ h => h) (Or.inl ⟨by rfl, ?hy15_14⟩) (by assumption) ?rest15_14
      case hy15_14 => (intro w' hSw; (try dsimp only at hSw); go_simp; try with_reducible rfl)
      try simp only [List.getElem_toArray, List.getElem_cons_zero, List.getElem_cons_succ, Act.put, List.setIfInBounds_toArray, List.set_cons_zero, List.set_cons_succ]
      refine wpAnyH_take (i := 16) (v := ?vv16_14) rfl (by kernel_rfl) (by kernel_rfl) (by kernel_rfl) (fun _ _ _ h => h) (Or.inl ⟨by rfl, ?hy16_14⟩) (by assumption) ?rest16_14
      case hy16_14 => (intro w' hSw; (try dsimp only at hSw); go_simp; try with_reducible rfl)
      try simp only [List.getElem_toArray, List.getElem_cons_zero, List.getElem_cons_succ, Act.put, List.setIfInBounds_toArray, List.set_cons_zero, List.set_cons_succ]
      refine wpAnyH_take (i := 17) (v := ?vv17_14) rfl (by kernel_rfl) (by kernel_rfl) (by kernel_rfl) (fun _ _ _ h => h) (Or.inl ⟨by rfl, ?hy17_14⟩) (by assumption) ?rest17_14
      case hy17_14 => (intro w' hSw; (try dsimp only at hSw); go_simp; try with_reducible rfl)
      try simp only [List.getElem_toArray, List.getElem_cons_zero, List.getElem_cons_succ, Act.put, List.setIfInBounds_toArray, List.set_cons_zero, List.set_cons_succ]
      refine wpAnyH_take (i := 18) (v := ?vv18_14) rfl (by kernel_rfl) (by kernel_rfl) (by kernel_rfl) (fun _ _ _ h => h) (Or.inl ⟨by rfl, ?hy18_14⟩) (by assumption) ?rest18_14
      case hy18_14 => (intro w' hSw; (try dsimp only at hSw); go_simp; try with_reducible rfl)
      try simp only [List.getElem_toArray, List.getElem_cons_zero, List.getElem_cons_succ, Act.put, List.setIfInBounds_toArray, List.set_cons_zero, List.set_cons_succ]
      refine wpAnyH_take (i := 19) (v := .agg #[.int .u8 (a.verb : Int), sv a.arg, .slice A3 a.ps.length c3]) rfl (by kernel_rfl) (by kernel_rfl) (by kernel_rfl) (fun _ _ _ h => h) (Or.inl ⟨by rfl, fun w' hSw => exec_load_rowQ w' rfl rfl (PC.out _ hSw) Tryz.underlying41 rfl cmd_size⟩) (by assumption) ?_
      try simp only [List.getElem_toArray, List.getElem_cons_zero, List.getElem_cons_succ, Act.put, List.setIfInBounds_toArray, List.set_cons_zero, List.set_cons_succ]
      refine wpAnyH_take (i := 21) (v := .agg #[.int .u8 (a.verb : Int), sv a.arg, .slice A5 a.ps.length c5]) rfl (by kernel_rfl) (by kernel_rfl) (by kernel_rfl) (fun _ _ _ h => h) (Or.inl ⟨by rfl, fun w' hSw => exec_load_rowQ w' rfl rfl (PX.out _ hSw) Tryz.underlying61 rfl rcmd_size⟩) (by assumption) ?_
      try simp only [List.getElem_toArray, List.getElem_cons_zero, List.getElem_cons_succ, Act.put, List.setIfInBounds_toArray, List.set_cons_zero, List.set_cons_succ]
      refine wpAnyH_ready (rs := [20]) (by kernel_rfl) (by simp) ?_
      refine AllReadyH.cons rfl (fun K hK => ?_) AllReadyH.nil
      go_simp
      refine (CM.out _ hHeld).mono ?_
      rintro e v1 ⟨rfl, h9⟩
      (try go_wp2_with fail)
      refine hK.out _ _ h9 (fun hHeld => ?_)
      clear hK K
      try simp only [List.getElem_toArray, List.getElem_cons_zero, List.getElem_cons_succ, Act.put, List.setIfInBounds_toArray, List.set_cons_zero, List.set_cons_succ]
      refine wpAnyH_ready (rs := [22]) (by kernel_rfl) (by simp) ?_
      refine AllReadyH.cons rfl (fun K hK => ?_) AllReadyH.nil
      go_simp
      refine (CRM.out _ hHeld).mono ?_
      rintro e v2 ⟨rfl, h9⟩
      (try go_wp2_with fail)
      refine hK.out _ _ h9 (fun hHeld => ?_)
      clear hK K
      try simp only [List.getElem_toArray, List.getElem_cons_zero, List.getElem_cons_succ, Act.put, List.setIfInBounds_toArray, List.set_cons_zero, List.set_cons_succ]
      refine wpAnyH_take (i := 23) (v := ?vv23_14) rfl (by kernel_rfl) (by kernel_rfl) (by kernel_rfl) (fun _ _ _ h => h) (Or.inl ⟨by rfl, ?hy23_14⟩) (by assumption) ?rest23_14
      case hy23_14 => (intro w' hSw; (try dsimp only at hSw); go_simp; try with_reducible rfl)
      try simp only [List.getElem_toArray, List.getElem_cons_zero, List.getElem_cons_succ, Act.put, List.setIfInBounds_toArray, List.set_cons_zero, List.set_cons_succ]
      refine wpAnyH_take (i := 24) (v := ?vv24_14) rfl (by kernel_rfl) (by kernel_rfl) (by kernel_rfl) (fun _ _ _ h => h) (Or.inl ⟨by rfl, ?hy24_14⟩) (by assumption) ?rest24_14
      case hy24_14 => (intro w' hSw; (try dsimp only at hSw); go_simp; try with_reducible rfl)
      try simp only [List.getElem_toArray, List.getElem_cons_zero, List.getElem_cons_succ, Act.put, List.setIfInBounds_toArray, List.set_cons_zero, List.set_cons_succ]
      refine wpAnyH_take (i := 25) (v := ?vv25_14) rfl (by kernel_rfl) (by kernel_rfl) (by kernel_rfl) (fun _ _ _ h => h) (Or.inl ⟨by rfl, ?hy25_14⟩) (by assumption) ?rest25_14
      case hy25_14 => (intro w' hSw; (try dsimp only at hSw); go_simp; try with_reducible rfl)
      try simp only [List.getElem_toArray, List.getElem_cons_zero, List.getElem_cons_succ, Act.put, List.setIfInBounds_toArray, List.set_cons_zero, List.set_cons_succ]
      refine wpAnyH_take (i := 26) (v := .agg #[.int .u8 (a.verb : Int), sv a.arg, .slice A a.ps.length ca]) rfl (by kernel_rfl) (by kernel_rfl) (by kernel_rfl) (fun _ _ _ h => h) (Or.inl ⟨by rfl, fun w' hSw => exec_load_rowQ w' rfl rfl (PA.out _ hSw) Tryz.underlying41 rfl cmd_size⟩) (by assumption) ?_
      try simp only [List.getElem_toArray, List.getElem_cons_zero, List.getElem_cons_succ, Act.put, List.setIfInBounds_toArray, List.set_cons_zero, List.set_cons_succ]
      refine wpAnyH_take (i := 27) (v := .agg #[.int .u8 (b.verb : Int), sv b.arg, .slice B b.ps.length cb]) rfl (by kernel_rfl) (by kernel_rfl) (by kernel_rfl) (fun _ _ _ h => h) (Or.inl ⟨by rfl, fun w' hSw => exec_load_rowQ w' rfl rfl (PB.out _ hSw) Tryz.underlying41 rfl cmd_size⟩) (by assumption) ?_
      try simp only [List.getElem_toArray, List.getElem_cons_zero, List.getElem_cons_succ, Act.put, List.setIfInBounds_toArray, List.set_cons_zero, List.set_cons_succ]
      refine wpAnyH_take (i := 29) (v := .agg #[.int .u8 (a.verb : Int), sv a.arg, .slice A5 a.ps.length c5]) rfl (by kernel_rfl) (by kernel_rfl) (by kernel_rfl) (fun _ _ _ h => h) (Or.inl ⟨by rfl, fun w' hSw => exec_load_rowQ w' rfl rfl (PX.out _ hSw) Tryz.underlying61 rfl rcmd_size⟩) (by assumption) ?_
      try simp only [List.getElem_toArray, List.getElem_cons_zero, List.getElem_cons_succ, Act.put, List.setIfInBounds_toArray, List.set_cons_zero, List.set_cons_succ]
      refine wpAnyH_take (i := 30) (v := .agg #[.int .u8 (b.verb : Int), sv b.arg, .slice A6 b.ps.length c6]) rfl (by kernel_rfl) (by kernel_rfl) (by kernel_rfl) (fun _ _ _ h => h) (Or.inl ⟨by rfl, fun w' hSw => exec_load_rowQ w' rfl rfl (PY.out _ hSw) Tryz.underlying61 rfl rcmd_size⟩) (by assumption) ?_
      try simp only [List.getElem_toArray, List.getElem_cons_zero, List.getElem_cons_succ, Act.put, List.setIfInBounds_toArray, List.set_cons_zero, List.set_cons_succ]
      refine wpAnyH_ready (rs := [28]) (by kernel_rfl) (by simp) ?_
      refine AllReadyH.cons rfl (fun K hK => ?_) AllReadyH.nil
      go_simp
      refine (CSM.out _ hHeld).mono ?_
      rintro e v3 ⟨rfl, h9⟩
      (try go_wp2_with fail)
      refine hK.out _ _ h9 (fun hHeld => ?_)
      clear hK K
      try simp only [List.getElem_toArray, List.getElem_cons_zero, List.getElem_cons_succ, Act.put, List.setIfInBounds_toArray, List.set_cons_zero, List.set_cons_succ]
      refine wpAnyH_ready (rs := [31]) (by kernel_rfl) (by simp) ?_
      refine AllReadyH.cons rfl (fun K hK => ?_) AllReadyH.nil
      go_simp
      refine (CRM2.out _ hHeld).mono ?_
      rintro e v4 ⟨rfl, h9⟩
      (try go_wp2_with fail)
      refine hK.out _ _ h9 (fun hHeld => ?_)
      clear hK K
      try simp only [List.getElem_toArray, List.getElem_cons_zero, List.getElem_cons_succ, Act.put, List.setIfInBounds_toArray, List.set_cons_zero, List.set_cons_succ]
      refine wpAnyH_take (i := 32) (v := ?vv32_14) rfl (by kernel_rfl) (by kernel_rfl) (by kernel_rfl) (fun _ _ _ h => h) (Or.inl ⟨by rfl, ?hy32_14⟩) (by assumption) ?rest32_14
      case hy32_14 => (intro w' hSw; (try dsimp only at hSw); go_simp; try with_reducible rfl)
      try simp only [List.getElem_toArray, List.getElem_cons_zero, List.getElem_cons_succ, Act.put, List.setIfInBounds_toArray, List.set_cons_zero, List.set_cons_succ]
      refine wpAnyH_take (i := 33) (v := ?vv33_14) rfl (by kernel_rfl) (by kernel_rfl) (by kernel_rfl) (fun _ _ _ h => h) (Or.inl ⟨by rfl, ?hy33_14⟩) (by assumption) ?rest33_14
      case hy33_14 => (intro w' hSw; (try dsimp only at hSw); go_simp; try with_reducible rfl)
      try simp only [List.getElem_toArray, List.getElem_cons_zero, List.getElem_cons_succ, Act.put, List.setIfInBounds_toArray, List.set_cons_zero, List.set_cons_succ]
      have HP9 := Lib.hid hHeld
      refine wpAnyH_done (by kernel_rfl) ?_ _
      clear hHeld
      go_wp2_with fail
      go_loopw [20] (fun kx W => ∃ r : Nat, kx = .int .i64 (r : Int) ∧ r ≤ 2 ∧ P W) (fun kx _ => 2 - (RowKit.intOf kx).toNat)
      case atStart => exact ⟨0, rfl, by omega, HP9.out⟩
      case round =>
        obtain ⟨r, rfl, hr, hp⟩ := hrel
        have HR := Lib.hid hp
        clear hp
        by_cases hr2 : r < 2
        · have hri : (r : Int) < 2 := by omega
          have hwr : IntKind.i64.wrap ((r : Int) + 1) = (r : Int) + 1 := IntWalk.i64_in _ (by omega)
          go_wp2_with fail
          have hlit := heap_alloc_new wr (.cells #[sv l, sv sh.1] 9)
          have hpl := PS.out _ _ HR.out (below_alloc wr (.cells #[sv l, sv sh.1] 9))
          obtain ⟨gl, hgl⟩ : ∃ g, g = wr.heap.size := ⟨_, rfl⟩
          rw [← hgl] at hlit ⊢
          generalize wr.alloc (.cells #[sv l, sv sh.1] 9) = W1 at hlit hpl ⊢
          clear hgl
          have HLIT := Lib.hid hlit
          have HPL := Lib.hid hpl
          clear hlit hpl
          go_loopw [113] (fun ix W => ∃ i : Nat, ix = .int .i64 (i : Int) ∧ i ≤ 2 ∧ P W ∧ W.heap[gl]? = some (.cells #[sv l, sv sh.1] 9 (0, 0))) (fun ix _ => 2 - (RowKit.intOf ix).toNat)
          case atStart => exact ⟨0, rfl, by omega, HPL.out, HLIT.out⟩
          case round =>
            obtain ⟨i, rfl, hi, hp, hg⟩ := hrel
            obtain ⟨Wb, rfl⟩ : ∃ W, W = wr := ⟨_, rfl⟩
            have HB := Lib.hid hp
            have HG := Lib.hid hg
            by_cases hi2 : i < 2
            · obtain ⟨X, hX, hXl⟩ : ∃ X : List UInt8, Wb.cell? ⟨gl, i, none⟩ = some (sv X) ∧ X.length ≤ 5000 := by
                  rw [cellAt hg]
                  have hsl := HSL.out
                  match i, hi2 with
                  | 0, _ => exact ⟨l, rfl, by omega⟩
                  | 1, _ => exact ⟨sh.1, rfl, by omega⟩
              have hii : (i : Int) < 2 := by omega
              have hi0 : (0 : Int) ≤ (i : Int) := by omega
              have hwi : IntKind.i64.wrap ((i : Int) + 1) = (i : Int) + 1 := IntWalk.i64_in _ (by omega)
              have HSX := Lib.hid (parse_small X)
              have CPA := Lib.hid (parseK_any X Wb (PL.out _ HB.out))
              have CRP := Lib.hid (fun W (h : P W) => rparseK_any X W (by omega))
              unfold PaPost at CPA
              unfold MqPost at CRP
              generalize parseK X = pr at HSX CPA CRP
              obtain ⟨c, er⟩ := pr
              dsimp only at HSX CPA CRP
              clear hp hg
              go_wp2_with (first
                | (go_at_call 16; refine CPA.out.mono ?_; rintro e wp ⟨u, rfl, hb1, hpo⟩; obtain ⟨A7, c7, rfl⟩ := hpo.form; have HB1 := Lib.hid hb1; have HPO := Lib.hid hpo; clear hb1 hpo)
                | (go_at_call 33; have HBX := Lib.hid (heap_alloc_new wp (.cells #[.int .u8 (c.verb : Int), sv c.arg, .slice A7 c.ps.length c7] 41)); have HB2 := Lib.hid (HB1.out.trans ((below_alloc wp (.cells #[.int .u8 (c.verb : Int), sv c.arg, .slice A7 c.ps.length c7] 41)).mono HB1.out.size)); refine (CRP.out _ (PS.out _ _ HB.out HB2.out)).mono ?_; rintro e wq ⟨u, rfl, hb2, hpr⟩; obtain ⟨A8, c8, rfl⟩ := hpr.form; have HB3 := Lib.hid hb2; have HPR := Lib.hid hpr; clear hb2 hpr))
              have BP0 := Lib.hid (blk_below HBX.out HB3.out)
              have hbz := below_alloc wq (.cells #[.int .u8 (c.verb : Int), sv c.arg, .slice A8 c.ps.length c8] 61)
              have BQ0 := Lib.hid (heap_alloc_new wq (.cells #[.int .u8 (c.verb : Int), sv c.arg, .slice A8 c.ps.length c8] 61))
              have BP1 := Lib.hid (blk_below BP0.out hbz)
              have PRQ := Lib.hid (HPR.out.step hbz)
              have hbw := HB2.out.trans ((HB3.out.trans (hbz.mono HB3.out.size)).mono HB2.out.size)
              have POZ := Lib.hid (((HPO.out.below (below_alloc wp _)).below HB3.out).below hbz)
              have HBW := Lib.hid hbw
              have HPP := Lib.hid (show ∀ k, (Value.slice A7 c.ps.length c7).ownBlock = some k → k ≠ wp.heap.size from fun k hk e => by have := (HPO.out.lt hk).2; omega)
              generalize wq.alloc (.cells #[.int .u8 (c.verb : Int), sv c.arg, .slice A8 c.ps.length c8] 61) = Wz at BQ0 BP1 PRQ POZ HBW ⊢
              generalize wq.heap.size = gq at BQ0 ⊢
              generalize wp.heap.size = gp2 at BP1 HPP ⊢
              clear hbw hbz BP0 HPR HPO HBX HB1 HB2 HB3 CPA CRP hX
              have hpl2 : c.ps.length ≤ 5000 := by have := HSX.out.2.2.1; omega
              refine wp_region_held_drew (S := fun W => Below Wz.heap.size Wz W) (by kernel_rfl) ((Below.refl _ _).drew) (fun hHeld => ?_)
              refine wpAnyH_take (i := 0) (v := ?vv0_15) rfl (by kernel_rfl) (by kernel_rfl) (by kernel_rfl) (fun _ _ _ h => h) (Or.inl ⟨by rfl, ?hy0_15⟩) (by assumption) ?rest0_15
              case hy0_15 => (intro w' hSw; (try dsimp only at hSw); go_simp; try with_reducible rfl)
              try simp only [List.getElem_toArray, List.getElem_cons_zero, List.getElem_cons_succ, Act.put, List.setIfInBounds_toArray, List.set_cons_zero, List.set_cons_succ]
              refine wpAnyH_take (i := 1) (v := ?vv1_15) rfl (by kernel_rfl) (by kernel_rfl) (by kernel_rfl) (fun _ _ _ h => h) (Or.inl ⟨by rfl, ?hy1_15⟩) (by assumption) ?rest1_15
              case hy1_15 => (intro w' hSw; (try dsimp only at hSw); go_simp; try with_reducible rfl)
              try simp only [List.getElem_toArray, List.getElem_cons_zero, List.getElem_cons_succ, Act.put, List.setIfInBounds_toArray, List.set_cons_zero, List.set_cons_succ]
              refine wpAnyH_take (i := 2) (v := ?vv2_15) rfl (by kernel_rfl) (by kernel_rfl) (by kernel_rfl) (fun _ _ _ h => h) (Or.inl ⟨by rfl, ?hy2_15⟩) (by assumption) ?rest2_15
              case hy2_15 => (intro w' hSw; (try dsimp only at hSw); go_simp; try with_reducible rfl)
              try simp only [List.getElem_toArray, List.getElem_cons_zero, List.getElem_cons_succ, Act.put, List.setIfInBounds_toArray, List.set_cons_zero, List.set_cons_succ]
              refine wpAnyH_take (i := 3) (v := ?vv3_15) rfl (by kernel_rfl) (by kernel_rfl) (by kernel_rfl) (fun _ _ _ h => h) (Or.inl ⟨by rfl, ?hy3_15⟩) (by assumption) ?rest3_15
              case hy3_15 => (intro w' hSw; (try dsimp only at hSw); go_simp; try with_reducible rfl)
              try simp only [List.getElem_toArray, List.getElem_cons_zero, List.getElem_cons_succ, Act.put, List.setIfInBounds_toArray, List.set_cons_zero, List.set_cons_succ]
              refine wpAnyH_take (i := 4) (v := .agg #[.int .u8 (c.verb : Int), sv c.arg, .slice A7 c.ps.length c7]) rfl (by kernel_rfl) (by kernel_rfl) (by kernel_rfl) (fun _ _ _ h => h) (Or.inl ⟨by rfl, fun w' hSw => exec_load_rowQ w' rfl rfl (blk_below BP1.out hSw) Tryz.underlying41 rfl cmd_size⟩) (by assumption) ?_
              try simp only [List.getElem_toArray, List.getElem_cons_zero, List.getElem_cons_succ, Act.put, List.setIfInBounds_toArray, List.set_cons_zero, List.set_cons_succ]
              refine wpAnyH_take (i := 6) (v := .agg #[.int .u8 (c.verb : Int), sv c.arg, .slice A8 c.ps.length c8]) rfl (by kernel_rfl) (by kernel_rfl) (by kernel_rfl) (fun _ _ _ h => h) (Or.inl ⟨by rfl, fun w' hSw => exec_load_rowQ w' rfl rfl (blk_below BQ0.out hSw) Tryz.underlying61 rfl rcmd_size⟩) (by assumption) ?_
              try simp only [List.getElem_toArray, List.getElem_cons_zero, List.getElem_cons_succ, Act.put, List.setIfInBounds_toArray, List.set_cons_zero, List.set_cons_succ]
              refine wpAnyH_ready (rs := [5]) (by kernel_rfl) (by simp) ?_
              refine AllReadyH.cons rfl (fun K hK => ?_) AllReadyH.nil
              go_simp
              refine (told_any c (.slice A7 c.ps.length c7) _ (POZ.out.pr.step hHeld) (by omega)).mono ?_
              rintro e v1 hq
              obtain ⟨A9, c9, rfl, hb9, hp9⟩ := rc_open hq
              (try go_wp2_with fail)
              refine hK.out _ _ (hHeld.trans (hb9.mono hHeld.size)) (fun hHeld => ?_)
              clear hK K
              try simp only [List.getElem_toArray, List.getElem_cons_zero, List.getElem_cons_succ, Act.put, List.setIfInBounds_toArray, List.set_cons_zero, List.set_cons_succ]
              refine wpAnyH_ready (rs := [7]) (by kernel_rfl) (by simp) ?_
              refine AllReadyH.cons rfl (fun K hK => ?_) AllReadyH.nil
              go_simp
              refine (rsameK_any c c (.slice A9 c.ps.length c9) (.slice A8 c.ps.length c8) _ hp9 (PRQ.out.step hHeld) (by omega) (by omega)).mono ?_
              rintro e v2 ⟨he, hb8⟩
              rw [sameK_refl] at he
              subst he
              (try go_wp2_with fail)
              refine hK.out _ _ (hHeld.trans (hb8.mono hHeld.size)) (fun hHeld => ?_)
              clear hK K
              try simp only [List.getElem_toArray, List.getElem_cons_zero, List.getElem_cons_succ, Act.put, List.setIfInBounds_toArray, List.set_cons_zero, List.set_cons_succ]
              refine wpAnyH_take (i := 8) (v := ?vv8_15) rfl (by kernel_rfl) (by kernel_rfl) (by kernel_rfl) (fun _ _ _ h => h) (Or.inl ⟨by rfl, ?hy8_15⟩) (by assumption) ?rest8_15
              case hy8_15 => (intro w' hSw; (try dsimp only at hSw); go_simp; try with_reducible rfl)
              try simp only [List.getElem_toArray, List.getElem_cons_zero, List.getElem_cons_succ, Act.put, List.setIfInBounds_toArray, List.set_cons_zero, List.set_cons_succ]
              refine wpAnyH_take (i := 9) (v := ?vv9_15) rfl (by kernel_rfl) (by kernel_rfl) (by kernel_rfl) (fun _ _ _ h => h) (Or.inl ⟨by rfl, ?hy9_15⟩) (by assumption) ?rest9_15
              case hy9_15 => (intro w' hSw; (try dsimp only at hSw); go_simp; try with_reducible rfl)
              try simp only [List.getElem_toArray, List.getElem_cons_zero, List.getElem_cons_succ, Act.put, List.setIfInBounds_toArray, List.set_cons_zero, List.set_cons_succ]
              have HV := Lib.hid hHeld
              refine wpAnyH_done (by kernel_rfl) ?_ _
              clear hHeld
              go_wp2_with fail
              have HW0 := Lib.hid (Wr.of_po (POZ.out.below HV.out))
              have BP2 := Lib.hid (blk_below BP1.out HV.out)
              have HBV := Lib.hid (HBW.out.trans (HV.out.mono HBW.out.size))
              clear BP1 POZ HV HBW PRQ BQ0
              generalize hm : c.ps.length = m at HW0 BP2 HPP hpl2
              go_loopw [27] (fun jx W => ∃ j : Nat, jx = .int .i64 (j : Int) ∧ j ≤ m ∧ Below Wb.heap.size Wb W ∧ W.heap[gp2]? = some (.cells #[.int .u8 (c.verb : Int), sv c.arg, .slice A7 m c7] 41 (0, 0)) ∧ Wr W m A7 Wb.heap.size) (fun jx _ => m - (RowKit.intOf jx).toNat)
              case atStart => exact ⟨0, rfl, by omega, HBV.out, BP2.out, HW0.out⟩
              case round =>
                clear HBV BP2 HW0
                obtain ⟨j, rfl, hj, hbj, hbp, hwr3⟩ := hrel
                have HBJ := Lib.hid hbj
                have HBP := Lib.hid hbp
                have HWR := Lib.hid hwr3
                obtain ⟨z0, z1, z2⟩ := cells3 hbp
                have hwj : IntKind.i64.wrap ((j : Int) + 1) = (j : Int) + 1 := IntWalk.i64_in _ (by omega)
                by_cases hjm : j < m
                · have hji : (j : Int) < (m : Int) := by omega
                  have hj0 : (0 : Int) ≤ (j : Int) := by omega
                  obtain ⟨gr, cur, rfl, hBg, hgr, hsz⟩ := hwr3 (by omega)
                  have hne : gr ≠ gp2 := HPP.out gr rfl
                  have hcl : wr.cell? ⟨gr, j * 2, none⟩ = some (cur.getD (j * 2) undef) := by rw [cellAt hgr, Array.getElem?_eq_getElem (by omega)]; simp [Array.getD]; omega
                  have hfz := freeAt hgr (j * 2)
                  clear hbj hbp hwr3
                  go_wp2_with fail
                  go_roundw
                  case rel => exact ⟨j + 1, by go_num, by omega, HBJ.out.setCell hBg _, (Below.heap_setCell _ _ _ _ (fun e => hne e.symm)).trans HBP.out, fun _ => ⟨gr, _, rfl, hBg, blk_setQ hgr _ _, by simpa using hsz⟩⟩
                  case measure => simp [RowKit.intOf]; omega
                · have hji : ¬ (j : Int) < (m : Int) := by omega
                  clear hbj hbp hwr3
                  go_wp2_with fail
                  go_roundw
                  case rel => exact ⟨i + 1, by go_num, by omega, PS.out _ _ HB.out HBJ.out, blk_below HG.out HBJ.out⟩
                  case measure => simp [RowKit.intOf]; omega
            · have hii : ¬ (i : Int) < 2 := by omega
              clear hp hg
              go_wp2_with fail
              go_roundw
              case rel => exact ⟨r + 1, by go_num, by omega, HB.out⟩
              case measure => simp [RowKit.intOf]; omega
        · have hri : ¬ (r : Int) < 2 := by omega
          go_wp2_with fail
          refine wp_region_held_drew (S := P) (by kernel_rfl) (PS.out _ _ HR.out (Below.refl _ _).drew) (fun hHeld => ?_)
          refine wpAnyH_take (i := 0) (v := .agg #[.int .u8 (a.verb : Int), sv a.arg, .slice A3 a.ps.length c3]) rfl (by kernel_rfl) (by kernel_rfl) (by kernel_rfl) (fun _ _ _ h => h) (Or.inl ⟨by rfl, fun w' hSw => exec_load_rowQ w' rfl rfl (PC.out _ hSw) Tryz.underlying41 rfl cmd_size⟩) (by assumption) ?_
          try simp only [List.getElem_toArray, List.getElem_cons_zero, List.getElem_cons_succ, Act.put, List.setIfInBounds_toArray, List.set_cons_zero, List.set_cons_succ]
          refine wpAnyH_take (i := 2) (v := .agg #[.int .u8 (a.verb : Int), sv a.arg, .slice A5 a.ps.length c5]) rfl (by kernel_rfl) (by kernel_rfl) (by kernel_rfl) (fun _ _ _ h => h) (Or.inl ⟨by rfl, fun w' hSw => exec_load_rowQ w' rfl rfl (PX.out _ hSw) Tryz.underlying61 rfl rcmd_size⟩) (by assumption) ?_
          try simp only [List.getElem_toArray, List.getElem_cons_zero, List.getElem_cons_succ, Act.put, List.setIfInBounds_toArray, List.set_cons_zero, List.set_cons_succ]
          refine wpAnyH_ready (rs := [1]) (by kernel_rfl) (by simp) ?_
          refine AllReadyH.cons rfl (fun K hK => ?_) AllReadyH.nil
          go_simp
          refine (CT.out _ hHeld).mono ?_
          rintro e v1 ⟨A7, c7, rfl, h9, hr7⟩
          (try go_wp2_with fail)
          refine hK.out _ _ h9 (fun hHeld => ?_)
          clear hK K
          try simp only [List.getElem_toArray, List.getElem_cons_zero, List.getElem_cons_succ, Act.put, List.setIfInBounds_toArray, List.set_cons_zero, List.set_cons_succ]
          refine wpAnyH_ready (rs := [3]) (by kernel_rfl) (by simp) ?_
          refine AllReadyH.cons rfl (fun K hK => ?_) AllReadyH.nil
          go_simp
          refine (CRT.out _ hHeld A7 c7 hr7).mono ?_
          rintro e v2 ⟨rfl, h9⟩
          (try go_wp2_with fail)
          refine hK.out _ _ h9 (fun hHeld => ?_)
          clear hK K
          try simp only [List.getElem_toArray, List.getElem_cons_zero, List.getElem_cons_succ, Act.put, List.setIfInBounds_toArray, List.set_cons_zero, List.set_cons_succ]
          refine wpAnyH_take (i := 4) (v := ?vv4_16) rfl (by kernel_rfl) (by kernel_rfl) (by kernel_rfl) (fun _ _ _ h => h) (Or.inl ⟨by rfl, ?hy4_16⟩) (by assumption) ?rest4_16
          case hy4_16 => (intro w' hSw; (try dsimp only at hSw); go_simp; try with_reducible rfl)
          try simp only [List.getElem_toArray, List.getElem_cons_zero, List.getElem_cons_succ, Act.put, List.setIfInBounds_toArray, List.set_cons_zero, List.set_cons_succ]
          refine wpAnyH_ready (rs := [5]) (by kernel_rfl) (by simp) ?_
          refine AllReadyH.cons rfl (fun K hK => ?_) AllReadyH.nil
          go_simp
          refine (CAW.out _ hHeld).mono ?_
          rintro e v3 ⟨rfl, h9⟩
          (try go_wp2_with fail)
          refine hK.out _ _ h9 (fun hHeld => ?_)
          clear hK K
          try simp only [List.getElem_toArray, List.getElem_cons_zero, List.getElem_cons_succ, Act.put, List.setIfInBounds_toArray, List.set_cons_zero, List.set_cons_succ]
          refine wpAnyH_take (i := 6) (v := ?vv6_16) rfl (by kernel_rfl) (by kernel_rfl) (by kernel_rfl) (fun _ _ _ h => h) (Or.inl ⟨by rfl, ?hy6_16⟩) (by assumption) ?rest6_16
          case hy6_16 => (intro w' hSw; (try dsimp only at hSw); go_simp; try with_reducible rfl)
          try simp only [List.getElem_toArray, List.getElem_cons_zero, List.getElem_cons_succ, Act.put, List.setIfInBounds_toArray, List.set_cons_zero, List.set_cons_succ]
          refine wpAnyH_take (i := 7) (v := ?vv7_16) rfl (by kernel_rfl) (by kernel_rfl) (by kernel_rfl) (fun _ _ _ h => h) (Or.inl ⟨by rfl, ?hy7_16⟩) (by assumption) ?rest7_16
          case hy7_16 => (intro w' hSw; (try dsimp only at hSw); go_simp; try with_reducible rfl)
          try simp only [List.getElem_toArray, List.getElem_cons_zero, List.getElem_cons_succ, Act.put, List.setIfInBounds_toArray, List.set_cons_zero, List.set_cons_succ]
          have HPF := Lib.hid hHeld
          refine wpAnyH_done (by kernel_rfl) ?_ _
          clear hHeld
          go_wp2_with fail
          go_ret
          exact ⟨rfl, PW.out _ HPF.out⟩
end Go.Proofs.YtbmjmiioobgbfaaGreatDoor
