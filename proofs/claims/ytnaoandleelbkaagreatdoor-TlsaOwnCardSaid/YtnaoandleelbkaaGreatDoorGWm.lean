/-
  The contract of write.
  The contract of Encode.
-/
import Derived.Deep.RegionHeld3
import Derived.Deep.CutRange
import Derived.Test.YtnaoandleelbkaaGreatDoorGLm
namespace Go.Proofs.YtnaoandleelbkaaGreatDoor
set_option linter.unusedSimpArgs false
set_option linter.unusedVariables false
open Go Go.RowKit
set_option maxRecDepth 100000

theorem below_of_eq {w w' : World} (h : w = w') : Below w.heap.size w w' := h ▸ Below.refl _ _
theorem filled6 {w : World} {n : Nat} {a0 a1 a2 a3 a4 a5 v0 v1 v2 v3 v4 v5 : Value} {T : TypeId} (h : w.heap[n]? = some (.cells #[a0, a1, a2, a3, a4, a5] T (0, 0))) :
    ((((((w.setCell ⟨n, 0, none⟩ v0).setCell ⟨n, 1, none⟩ v1).setCell ⟨n, 2, none⟩ v2).setCell ⟨n, 3, none⟩ v3).setCell ⟨n, 4, none⟩ v4).setCell ⟨n, 5, none⟩ v5).heap[n]? = some (.cells #[v0, v1, v2, v3, v4, v5] T (0, 0)) := by
  have h0 := heap_setCell_same w n 0 _ T v0 h
  have h1 := heap_setCell_same _ n 1 _ T v1 h0
  have h2 := heap_setCell_same _ n 2 _ T v2 h1
  have h3 := heap_setCell_same _ n 3 _ T v3 h2
  have h4 := heap_setCell_same _ n 4 _ T v4 h3
  have h5 := heap_setCell_same _ n 5 _ T v5 h4
  rw [h5]; rfl
theorem Gb.set {w W : World} (h : Gb w W) (hw : GL w) {n j : Nat} (hn : w.heap.size ≤ n) (v : Value) : Gb w (W.setCell ⟨n, j, none⟩ v) := by
  have hb : Below w.heap.size w (W.setCell ⟨n, j, none⟩ v) := h.1.setCell (p := ⟨n, j, none⟩) hn v
  exact ⟨hb, hw.below hb⟩
theorem below6 {w W : World} {n : Nat} {v0 v1 v2 v3 v4 v5 : Value} (hw : GL w) (hn : w.heap.size ≤ n) (h : Gb w W) :
    Gb w ((((((W.setCell ⟨n, 0, none⟩ v0).setCell ⟨n, 1, none⟩ v1).setCell ⟨n, 2, none⟩ v2).setCell ⟨n, 3, none⟩ v3).setCell ⟨n, 4, none⟩ v4).setCell ⟨n, 5, none⟩ v5) :=
  (((((h.set hw hn _).set hw hn _).set hw hn _).set hw hn _).set hw hn _).set hw hn _
theorem CB.set {W : World} {k n j : Nat} {c : Ct} {nv : Value} (h : CB W k c nv) (hk : k ≠ n) (v : Value) : CB (W.setCell ⟨n, j, none⟩ v) k c nv := (heap_setCell_other W ⟨n, j, none⟩ k _ (by simpa using hk)).trans h
theorem stored6 {w W : World} {k n : Nat} {c : Ct} {nv v0 v1 v2 v3 v4 v5 : Value} (hw : GL w) (hn : w.heap.size ≤ n) (hk : k ≠ n) (h : CB W k c nv ∧ Gb w W) :
    CB ((((((W.setCell ⟨n, 0, none⟩ v0).setCell ⟨n, 1, none⟩ v1).setCell ⟨n, 2, none⟩ v2).setCell ⟨n, 3, none⟩ v3).setCell ⟨n, 4, none⟩ v4).setCell ⟨n, 5, none⟩ v5) k c nv ∧ Gb w ((((((W.setCell ⟨n, 0, none⟩ v0).setCell ⟨n, 1, none⟩ v1).setCell ⟨n, 2, none⟩ v2).setCell ⟨n, 3, none⟩ v3).setCell ⟨n, 4, none⟩ v4).setCell ⟨n, 5, none⟩ v5) :=
  ⟨(((((h.1.set hk _).set hk _).set hk _).set hk _).set hk _).set hk _, below6 hw hn h.2⟩

def tagV (n : Nat) : Value := .int .u8 ((tagsC.getD n 0).toNat : Int)
theorem tag_index (c : Ct) (j : Nat) (hj : j < 6) (W : World) : (Instr.index 146 (.agg #[.int .u8 48, .int .u8 4, .int .u8 48, .int .u8 2, .int .u8 2, .int .u8 1]) (.int .i64 (j : Int))).run Tryz.prog W = .ok (.int .u8 (((partsC c).getD j it0).1.toNat : Int)) W := by
  have hs : (sizeOf 5).run Tryz.prog W = .ok 1 W := by kernel_rfl
  have ha : (isAgg 5).run Tryz.prog W = .ok false W := by kernel_rfl
  match j, hj with
  | 0, _ => simp [Instr.index, run_underlying Tryz.underlying146, asIntOf, Sem.run_bind, hs, part, ha, partsC]
  | 1, _ => simp [Instr.index, run_underlying Tryz.underlying146, asIntOf, Sem.run_bind, hs, part, ha, partsC]
  | 2, _ => simp [Instr.index, run_underlying Tryz.underlying146, asIntOf, Sem.run_bind, hs, part, ha, partsC]
  | 3, _ => simp [Instr.index, run_underlying Tryz.underlying146, asIntOf, Sem.run_bind, hs, part, ha, partsC]
  | 4, _ => simp [Instr.index, run_underlying Tryz.underlying146, asIntOf, Sem.run_bind, hs, part, ha, partsC]
  | 5, _ => simp [Instr.index, run_underlying Tryz.underlying146, asIntOf, Sem.run_bind, hs, part, ha, partsC]
theorem puts_take_le (l : List Tv) (j : Nat) : (putsL (l.take j)).length ≤ (putsL l).length := by
  conv => rhs; rw [← List.take_append_drop j l, putsL_app, List.length_append]
  omega
theorem puts_next {l : List Tv} {j : Nat} (h : j < l.length) : putsL (l.take (j + 1)) = putsL (l.take j) ++ putT (l.getD j it0).1 (l.getD j it0).2 := by
  rw [List.take_succ_eq_append_getElem h, putsL_app, List.getD_eq_getElem?_getD, List.getElem?_eq_getElem h]
  show _ ++ (putT _ _ ++ []) = _
  rw [List.append_nil]; rfl
set_option maxHeartbeats 8000000 in
theorem write_any {w : World} (c : Ct) (A : Option Addr) (cp : Nat) (hx : SX w (.slice A c.names.length cp) c.names) (hm : fewB c = true) (hw : GL w) :
    Calls Tryz.prog 66 #[certV c (.slice A c.names.length cp)] w fun e w' => e = .returned (sv (writeC c)) ∧ Below w.heap.size w w' := by
  obtain ⟨hmm, hl64⟩ := fewB_iff.1 hm
  obtain ⟨⟨_, m1⟩, m2, m3, m4, m5⟩ := mayC_iff.1 hmm
  have H4 := Lib.hid (fun W : World => @put4 c.key (by omega) W)
  have HN := Lib.hid (fun W (h : Below w.heap.size w W) => @putNames_any W c.names A cp (hx.step h) m3 hl64)
  have HF := Lib.hid (fun W : World => @int_top W c.fr (time_int m4))
  have HU := Lib.hid (fun W : World => @int_top W c.un (time_int m5))
  have HB := Lib.hid (fun W : World => show Calls Tryz.prog 121 #[.bool c.ca] W (fun e w' => e = .returned (sv (caL c.ca)) ∧ W = w') from @bool_any W c.ca)
  have HW0 := Lib.hid hw
  have hrow := row_le hm
  have HGOOD := Lib.hid (parts_good hm)
  have H48 := Lib.hid (fun W : World => @put48 (rowC c) (by omega) W)
  obtain ⟨k, hk⟩ : ∃ k, k = w.heap.size := ⟨_, rfl⟩
  obtain ⟨W1, hW⟩ : ∃ W1, W1 = w.alloc (cellsC c (.slice A c.names.length cp)) := ⟨_, rfl⟩
  have HC1 := Lib.hid (show CB W1 k c (.slice A c.names.length cp) by rw [hW, hk]; exact CB.new _ _ _)
  have HG1 := Lib.hid (show Gb w W1 by rw [hW]; exact (Gb.start hw).alloc _)
  have HW := Lib.hid hW
  have HK := Lib.hid hk
  have HROW := Lib.hid hrow
  clear hW hk hx hw hm hmm m1 m2 m3 m4 m5 hl64 hrow
  unfold certV
  go_enter Tryz.func66, Tryz.ntmps66
  go_wp2_with fail
  rw [← HW.out, ← HK.out]
  go_cut [3] from 7 to 25 (fun v wr => ∃ g, v = .pointer (some ⟨g, 0, none⟩) ∧ w.heap.size ≤ g ∧ wr.heap[g]? = some (.cells #[sv (putT 4 c.key), sv c.sig, sv (namesL c.names), sv (intL c.fr), sv (intL c.un), sv (caL c.ca)] 145 (0, 0)) ∧ Gb w wr)
  case first =>
    refine wp_region_held_drew (S := fun W => CB W k c (.slice A c.names.length cp) ∧ Gb w W) (by kernel_rfl) ⟨HC1.out.step (Below.refl _ _).drew, HG1.out.drew⟩ (fun hHeld => ?_)
    refine wpAnyH_take (i := 0) (v := ?vv0_1) rfl (by kernel_rfl) (by kernel_rfl) (by kernel_rfl) (fun _ _ _ h => h) (Or.inl ⟨by rfl, ?hy0_1⟩) (by assumption) ?rest0_1
    case hy0_1 => (intro w' hSw; (try dsimp only at hSw); go_simp; try with_reducible rfl)
    try simp only [List.getElem_toArray, List.getElem_cons_zero, List.getElem_cons_succ, Act.put, List.setIfInBounds_toArray, List.set_cons_zero, List.set_cons_succ]
    refine wpAnyH_take (i := 1) (v := sv c.key) rfl (by kernel_rfl) (by kernel_rfl) (by kernel_rfl) (fun _ _ _ h => h) (Or.inl ⟨by rfl, fun w' hSw => exec_load1 w' rfl rfl hSw.1.c0 Tryz.underlying9 rfl⟩) (by assumption) ?_
    try simp only [List.getElem_toArray, List.getElem_cons_zero, List.getElem_cons_succ, Act.put, List.setIfInBounds_toArray, List.set_cons_zero, List.set_cons_succ]
    refine wpAnyH_take (i := 3) (v := ?vv3_1) rfl (by kernel_rfl) (by kernel_rfl) (by kernel_rfl) (fun _ _ _ h => h) (Or.inl ⟨by rfl, ?hy3_1⟩) (by assumption) ?rest3_1
    case hy3_1 => (intro w' hSw; (try dsimp only at hSw); go_simp; try with_reducible rfl)
    try simp only [List.getElem_toArray, List.getElem_cons_zero, List.getElem_cons_succ, Act.put, List.setIfInBounds_toArray, List.set_cons_zero, List.set_cons_succ]
    refine wpAnyH_take (i := 4) (v := sv c.sig) rfl (by kernel_rfl) (by kernel_rfl) (by kernel_rfl) (fun _ _ _ h => h) (Or.inl ⟨by rfl, fun w' hSw => exec_load1 w' rfl rfl hSw.1.c1 Tryz.underlying9 rfl⟩) (by assumption) ?_
    try simp only [List.getElem_toArray, List.getElem_cons_zero, List.getElem_cons_succ, Act.put, List.setIfInBounds_toArray, List.set_cons_zero, List.set_cons_succ]
    refine wpAnyH_take (i := 5) (v := ?vv5_1) rfl (by kernel_rfl) (by kernel_rfl) (by kernel_rfl) (fun _ _ _ h => h) (Or.inl ⟨by rfl, ?hy5_1⟩) (by assumption) ?rest5_1
    case hy5_1 => (intro w' hSw; (try dsimp only at hSw); go_simp; try with_reducible rfl)
    try simp only [List.getElem_toArray, List.getElem_cons_zero, List.getElem_cons_succ, Act.put, List.setIfInBounds_toArray, List.set_cons_zero, List.set_cons_succ]
    refine wpAnyH_take (i := 6) (v := .slice A c.names.length cp) rfl (by kernel_rfl) (by kernel_rfl) (by kernel_rfl) (fun _ _ _ h => h) (Or.inl ⟨by rfl, fun w' hSw => exec_load1 w' rfl rfl hSw.1.c2 Tryz.underlying25 rfl⟩) (by assumption) ?_
    try simp only [List.getElem_toArray, List.getElem_cons_zero, List.getElem_cons_succ, Act.put, List.setIfInBounds_toArray, List.set_cons_zero, List.set_cons_succ]
    refine wpAnyH_take (i := 8) (v := ?vv8_1) rfl (by kernel_rfl) (by kernel_rfl) (by kernel_rfl) (fun _ _ _ h => h) (Or.inl ⟨by rfl, ?hy8_1⟩) (by assumption) ?rest8_1
    case hy8_1 => (intro w' hSw; (try dsimp only at hSw); go_simp; try with_reducible rfl)
    try simp only [List.getElem_toArray, List.getElem_cons_zero, List.getElem_cons_succ, Act.put, List.setIfInBounds_toArray, List.set_cons_zero, List.set_cons_succ]
    refine wpAnyH_take (i := 9) (v := .int .i64 c.fr) rfl (by kernel_rfl) (by kernel_rfl) (by kernel_rfl) (fun _ _ _ h => h) (Or.inl ⟨by rfl, fun w' hSw => exec_load1 w' rfl rfl hSw.1.c3 Tryz.underlying3 rfl⟩) (by assumption) ?_
    try simp only [List.getElem_toArray, List.getElem_cons_zero, List.getElem_cons_succ, Act.put, List.setIfInBounds_toArray, List.set_cons_zero, List.set_cons_succ]
    refine wpAnyH_take (i := 11) (v := ?vv11_1) rfl (by kernel_rfl) (by kernel_rfl) (by kernel_rfl) (fun _ _ _ h => h) (Or.inl ⟨by rfl, ?hy11_1⟩) (by assumption) ?rest11_1
    case hy11_1 => (intro w' hSw; (try dsimp only at hSw); go_simp; try with_reducible rfl)
    try simp only [List.getElem_toArray, List.getElem_cons_zero, List.getElem_cons_succ, Act.put, List.setIfInBounds_toArray, List.set_cons_zero, List.set_cons_succ]
    refine wpAnyH_take (i := 12) (v := .int .i64 c.un) rfl (by kernel_rfl) (by kernel_rfl) (by kernel_rfl) (fun _ _ _ h => h) (Or.inl ⟨by rfl, fun w' hSw => exec_load1 w' rfl rfl hSw.1.c4 Tryz.underlying3 rfl⟩) (by assumption) ?_
    try simp only [List.getElem_toArray, List.getElem_cons_zero, List.getElem_cons_succ, Act.put, List.setIfInBounds_toArray, List.set_cons_zero, List.set_cons_succ]
    refine wpAnyH_take (i := 14) (v := ?vv14_1) rfl (by kernel_rfl) (by kernel_rfl) (by kernel_rfl) (fun _ _ _ h => h) (Or.inl ⟨by rfl, ?hy14_1⟩) (by assumption) ?rest14_1
    case hy14_1 => (intro w' hSw; (try dsimp only at hSw); go_simp; try with_reducible rfl)
    try simp only [List.getElem_toArray, List.getElem_cons_zero, List.getElem_cons_succ, Act.put, List.setIfInBounds_toArray, List.set_cons_zero, List.set_cons_succ]
    refine wpAnyH_take (i := 15) (v := .bool c.ca) rfl (by kernel_rfl) (by kernel_rfl) (by kernel_rfl) (fun _ _ _ h => h) (Or.inl ⟨by rfl, fun w' hSw => exec_load1 w' rfl rfl hSw.1.c5 Tryz.underlying4 rfl⟩) (by assumption) ?_
    try simp only [List.getElem_toArray, List.getElem_cons_zero, List.getElem_cons_succ, Act.put, List.setIfInBounds_toArray, List.set_cons_zero, List.set_cons_succ]
    refine wpAnyH_ready (rs := [2, 18]) (by kernel_rfl) (by simp) ?_
    refine AllReadyH.cons rfl (fun K hK => ?_) (AllReadyH.cons rfl (fun K hK => ?_) AllReadyH.nil)
    · go_simp
      go_at_call 65
      refine (H4.out _).mono ?_
      rintro e w1 ⟨rfl, hb1⟩
      refine hK.out _ _ ⟨hHeld.1.step hb1, hHeld.2.step hb1⟩ (fun hHeld => ?_)
      clear hK K
      try simp only [List.getElem_toArray, List.getElem_cons_zero, List.getElem_cons_succ, Act.put, List.setIfInBounds_toArray, List.set_cons_zero, List.set_cons_succ]
      refine wpAnyH_ready (rs := [7, 18]) (by kernel_rfl) (by simp) ?_
      refine AllReadyH.cons rfl (fun K hK => ?_) (AllReadyH.cons rfl (fun K hK => ?_) AllReadyH.nil)
      · go_simp
        go_at_call 119
        refine (HN.out _ hHeld.2.1).mono ?_
        rintro e w3 ⟨rfl, hb3⟩
        refine hK.out _ _ ⟨hHeld.1.step hb3, hHeld.2.step hb3⟩ (fun hHeld => ?_)
        clear hK K
        try simp only [List.getElem_toArray, List.getElem_cons_zero, List.getElem_cons_succ, Act.put, List.setIfInBounds_toArray, List.set_cons_zero, List.set_cons_succ]
        refine wpAnyH_ready (rs := [10, 18]) (by kernel_rfl) (by simp) ?_
        refine AllReadyH.cons rfl (fun K hK => ?_) (AllReadyH.cons rfl (fun K hK => ?_) AllReadyH.nil)
        · go_simp
          go_at_call 120
          refine (HF.out _).mono ?_
          rintro e w5 ⟨rfl, hb5⟩
          refine hK.out _ _ ⟨hHeld.1.step hb5, hHeld.2.step hb5⟩ (fun hHeld => ?_)
          clear hK K
          try simp only [List.getElem_toArray, List.getElem_cons_zero, List.getElem_cons_succ, Act.put, List.setIfInBounds_toArray, List.set_cons_zero, List.set_cons_succ]
          refine wpAnyH_ready (rs := [13, 18]) (by kernel_rfl) (by simp) ?_
          refine AllReadyH.cons rfl (fun K hK => ?_) (AllReadyH.cons rfl (fun K hK => ?_) AllReadyH.nil)
          · go_simp
            go_at_call 120
            refine (HU.out _).mono ?_
            rintro e w7 ⟨rfl, hb7⟩
            refine hK.out _ _ ⟨hHeld.1.step hb7, hHeld.2.step hb7⟩ (fun hHeld => ?_)
            clear hK K
            try simp only [List.getElem_toArray, List.getElem_cons_zero, List.getElem_cons_succ, Act.put, List.setIfInBounds_toArray, List.set_cons_zero, List.set_cons_succ]
            refine wpAnyH_ready (rs := [16, 18]) (by kernel_rfl) (by simp) ?_
            refine AllReadyH.cons rfl (fun K hK => ?_) (AllReadyH.cons rfl (fun K hK => ?_) AllReadyH.nil)
            · go_simp
              go_at_call 121
              refine (HB.out _).mono ?_
              rintro e w9 ⟨rfl, hw9⟩
              have hb9 := below_of_eq hw9
              refine hK.out _ _ ⟨hHeld.1.step hb9, hHeld.2.step hb9⟩ (fun hHeld => ?_)
              clear hK K
              try simp only [List.getElem_toArray, List.getElem_cons_zero, List.getElem_cons_succ, Act.put, List.setIfInBounds_toArray, List.set_cons_zero, List.set_cons_succ]
              refine wpAnyH_take (i := 17) (v := ?vv17_6) rfl (by kernel_rfl) (by kernel_rfl) (by kernel_rfl) (fun _ _ _ h => h) (Or.inl ⟨by rfl, ?hy17_6⟩) (by assumption) ?rest17_6
              case hy17_6 => (intro w' hSw; (try dsimp only at hSw); go_simp; try with_reducible rfl)
              try simp only [List.getElem_toArray, List.getElem_cons_zero, List.getElem_cons_succ, Act.put, List.setIfInBounds_toArray, List.set_cons_zero, List.set_cons_succ]
              refine wpAnyH_ready (rs := [18]) (by kernel_rfl) (by simp) ?_
              refine AllReadyH.cons rfl (fun K hK => ?_) AllReadyH.nil
              have hS11 := hHeld
              go_simp
              refine hK.out _ _ ⟨hHeld.1.step (below_alloc _ _), hHeld.2.alloc _⟩ (fun hHeld => ?_)
              clear hK K
              try simp only [List.getElem_toArray, List.getElem_cons_zero, List.getElem_cons_succ, Act.put, List.setIfInBounds_toArray, List.set_cons_zero, List.set_cons_succ]
              have hA11 : (w9.alloc (.cells #[sv [], sv [], sv [], sv [], sv [], sv []] 145)).heap[w9.heap.size]? = some (.cells #[sv [], sv [], sv [], sv [], sv [], sv []] 145 (0, 0)) := heap_alloc_new w9 _
              have hL11 : w.heap.size ≤ w9.heap.size := hS11.2.1.size
              have hK11 : k ≠ w9.heap.size := Nat.ne_of_lt hS11.1.lt
              generalize (w9.alloc (.cells #[sv [], sv [], sv [], sv [], sv [], sv []] 145)) = x11 at hHeld hA11 ⊢
              have d0 : x11.cell? ⟨w9.heap.size, 0, none⟩ = some (sv []) := by rw [cellAt hA11]; rfl
              have d1 : x11.cell? ⟨w9.heap.size, 1, none⟩ = some (sv []) := by rw [cellAt hA11]; rfl
              have d2 : x11.cell? ⟨w9.heap.size, 2, none⟩ = some (sv []) := by rw [cellAt hA11]; rfl
              have d3 : x11.cell? ⟨w9.heap.size, 3, none⟩ = some (sv []) := by rw [cellAt hA11]; rfl
              have d4 : x11.cell? ⟨w9.heap.size, 4, none⟩ = some (sv []) := by rw [cellAt hA11]; rfl
              have d5 : x11.cell? ⟨w9.heap.size, 5, none⟩ = some (sv []) := by rw [cellAt hA11]; rfl
              have g0 : x11.frozen? ⟨w9.heap.size, 0, none⟩ = false := freeAt hA11 0
              have g1 : x11.frozen? ⟨w9.heap.size, 1, none⟩ = false := freeAt hA11 1
              have g2 : x11.frozen? ⟨w9.heap.size, 2, none⟩ = false := freeAt hA11 2
              have g3 : x11.frozen? ⟨w9.heap.size, 3, none⟩ = false := freeAt hA11 3
              have g4 : x11.frozen? ⟨w9.heap.size, 4, none⟩ = false := freeAt hA11 4
              have g5 : x11.frozen? ⟨w9.heap.size, 5, none⟩ = false := freeAt hA11 5
              have HH := Lib.hid hHeld
              have HBB := Lib.hid (show w.heap.size ≤ w9.heap.size from hL11)
              refine wpAnyH_ready (rs := [19]) (by kernel_rfl) (by simp) ?_
              refine AllReadyH.cons rfl (fun K hK => ?_) AllReadyH.nil
              go_simp
              refine hK.out _ _ (stored6 HW0.out HBB.out hK11 HH.out) (fun hHeld => ?_)
              clear hK K
              try simp only [List.getElem_toArray, List.getElem_cons_zero, List.getElem_cons_succ, Act.put, List.setIfInBounds_toArray, List.set_cons_zero, List.set_cons_succ]
              refine wpAnyH_done (by kernel_rfl) ?_ _
              try go_wp2_with fail
              go_meet
              case rel => exact ⟨w9.heap.size, rfl, HBB.out, filled6 hA11, below6 HW0.out HBB.out HH.out.2⟩
            · have hS10 := hHeld
              go_simp
              refine hK.out _ _ ⟨hHeld.1.step (below_alloc _ _), hHeld.2.alloc _⟩ (fun hHeld => ?_)
              clear hK K
              try simp only [List.getElem_toArray, List.getElem_cons_zero, List.getElem_cons_succ, Act.put, List.setIfInBounds_toArray, List.set_cons_zero, List.set_cons_succ]
              have hA10 : (w7.alloc (.cells #[sv [], sv [], sv [], sv [], sv [], sv []] 145)).heap[w7.heap.size]? = some (.cells #[sv [], sv [], sv [], sv [], sv [], sv []] 145 (0, 0)) := heap_alloc_new w7 _
              have hL10 : w.heap.size ≤ w7.heap.size := hS10.2.1.size
              have hK10 : k ≠ w7.heap.size := Nat.ne_of_lt hS10.1.lt
              generalize (w7.alloc (.cells #[sv [], sv [], sv [], sv [], sv [], sv []] 145)) = x10 at hHeld hA10 ⊢
              refine wpAnyH_ready (rs := [16]) (by kernel_rfl) (by simp) ?_
              refine AllReadyH.cons rfl (fun K hK => ?_) AllReadyH.nil
              go_simp
              go_at_call 121
              refine (HB.out _).mono ?_
              rintro e w12 ⟨rfl, hw12⟩
              have hb12 := below_of_eq hw12
              refine hK.out _ _ ⟨hHeld.1.step hb12, hHeld.2.step hb12⟩ (fun hHeld => ?_)
              clear hK K
              try simp only [List.getElem_toArray, List.getElem_cons_zero, List.getElem_cons_succ, Act.put, List.setIfInBounds_toArray, List.set_cons_zero, List.set_cons_succ]
              have hA12 := (hb12.block _ (lt_of_blk hA10)).trans hA10
              refine wpAnyH_take (i := 17) (v := ?vv17_9) rfl (by kernel_rfl) (by kernel_rfl) (by kernel_rfl) (fun _ _ _ h => h) (Or.inl ⟨by rfl, ?hy17_9⟩) (by assumption) ?rest17_9
              case hy17_9 => (intro w' hSw; (try dsimp only at hSw); go_simp; try with_reducible rfl)
              try simp only [List.getElem_toArray, List.getElem_cons_zero, List.getElem_cons_succ, Act.put, List.setIfInBounds_toArray, List.set_cons_zero, List.set_cons_succ]
              have d0 : w12.cell? ⟨w7.heap.size, 0, none⟩ = some (sv []) := by rw [cellAt hA12]; rfl
              have d1 : w12.cell? ⟨w7.heap.size, 1, none⟩ = some (sv []) := by rw [cellAt hA12]; rfl
              have d2 : w12.cell? ⟨w7.heap.size, 2, none⟩ = some (sv []) := by rw [cellAt hA12]; rfl
              have d3 : w12.cell? ⟨w7.heap.size, 3, none⟩ = some (sv []) := by rw [cellAt hA12]; rfl
              have d4 : w12.cell? ⟨w7.heap.size, 4, none⟩ = some (sv []) := by rw [cellAt hA12]; rfl
              have d5 : w12.cell? ⟨w7.heap.size, 5, none⟩ = some (sv []) := by rw [cellAt hA12]; rfl
              have g0 : w12.frozen? ⟨w7.heap.size, 0, none⟩ = false := freeAt hA12 0
              have g1 : w12.frozen? ⟨w7.heap.size, 1, none⟩ = false := freeAt hA12 1
              have g2 : w12.frozen? ⟨w7.heap.size, 2, none⟩ = false := freeAt hA12 2
              have g3 : w12.frozen? ⟨w7.heap.size, 3, none⟩ = false := freeAt hA12 3
              have g4 : w12.frozen? ⟨w7.heap.size, 4, none⟩ = false := freeAt hA12 4
              have g5 : w12.frozen? ⟨w7.heap.size, 5, none⟩ = false := freeAt hA12 5
              have HH := Lib.hid hHeld
              have HBB := Lib.hid (show w.heap.size ≤ w7.heap.size from hL10)
              refine wpAnyH_ready (rs := [19]) (by kernel_rfl) (by simp) ?_
              refine AllReadyH.cons rfl (fun K hK => ?_) AllReadyH.nil
              go_simp
              refine hK.out _ _ (stored6 HW0.out HBB.out hK10 HH.out) (fun hHeld => ?_)
              clear hK K
              try simp only [List.getElem_toArray, List.getElem_cons_zero, List.getElem_cons_succ, Act.put, List.setIfInBounds_toArray, List.set_cons_zero, List.set_cons_succ]
              refine wpAnyH_done (by kernel_rfl) ?_ _
              try go_wp2_with fail
              go_meet
              case rel => exact ⟨w7.heap.size, rfl, HBB.out, filled6 hA12, below6 HW0.out HBB.out HH.out.2⟩
          · have hS8 := hHeld
            go_simp
            refine hK.out _ _ ⟨hHeld.1.step (below_alloc _ _), hHeld.2.alloc _⟩ (fun hHeld => ?_)
            clear hK K
            try simp only [List.getElem_toArray, List.getElem_cons_zero, List.getElem_cons_succ, Act.put, List.setIfInBounds_toArray, List.set_cons_zero, List.set_cons_succ]
            have hA8 : (w5.alloc (.cells #[sv [], sv [], sv [], sv [], sv [], sv []] 145)).heap[w5.heap.size]? = some (.cells #[sv [], sv [], sv [], sv [], sv [], sv []] 145 (0, 0)) := heap_alloc_new w5 _
            have hL8 : w.heap.size ≤ w5.heap.size := hS8.2.1.size
            have hK8 : k ≠ w5.heap.size := Nat.ne_of_lt hS8.1.lt
            generalize (w5.alloc (.cells #[sv [], sv [], sv [], sv [], sv [], sv []] 145)) = x8 at hHeld hA8 ⊢
            refine wpAnyH_ready (rs := [13]) (by kernel_rfl) (by simp) ?_
            refine AllReadyH.cons rfl (fun K hK => ?_) AllReadyH.nil
            go_simp
            go_at_call 120
            refine (HU.out _).mono ?_
            rintro e w13 ⟨rfl, hb13⟩
            refine hK.out _ _ ⟨hHeld.1.step hb13, hHeld.2.step hb13⟩ (fun hHeld => ?_)
            clear hK K
            try simp only [List.getElem_toArray, List.getElem_cons_zero, List.getElem_cons_succ, Act.put, List.setIfInBounds_toArray, List.set_cons_zero, List.set_cons_succ]
            have hA13 := (hb13.block _ (lt_of_blk hA8)).trans hA8
            refine wpAnyH_ready (rs := [16]) (by kernel_rfl) (by simp) ?_
            refine AllReadyH.cons rfl (fun K hK => ?_) AllReadyH.nil
            go_simp
            go_at_call 121
            refine (HB.out _).mono ?_
            rintro e w14 ⟨rfl, hw14⟩
            have hb14 := below_of_eq hw14
            refine hK.out _ _ ⟨hHeld.1.step hb14, hHeld.2.step hb14⟩ (fun hHeld => ?_)
            clear hK K
            try simp only [List.getElem_toArray, List.getElem_cons_zero, List.getElem_cons_succ, Act.put, List.setIfInBounds_toArray, List.set_cons_zero, List.set_cons_succ]
            have hA14 := (hb14.block _ (lt_of_blk hA13)).trans hA13
            refine wpAnyH_take (i := 17) (v := ?vv17_12) rfl (by kernel_rfl) (by kernel_rfl) (by kernel_rfl) (fun _ _ _ h => h) (Or.inl ⟨by rfl, ?hy17_12⟩) (by assumption) ?rest17_12
            case hy17_12 => (intro w' hSw; (try dsimp only at hSw); go_simp; try with_reducible rfl)
            try simp only [List.getElem_toArray, List.getElem_cons_zero, List.getElem_cons_succ, Act.put, List.setIfInBounds_toArray, List.set_cons_zero, List.set_cons_succ]
            have d0 : w14.cell? ⟨w5.heap.size, 0, none⟩ = some (sv []) := by rw [cellAt hA14]; rfl
            have d1 : w14.cell? ⟨w5.heap.size, 1, none⟩ = some (sv []) := by rw [cellAt hA14]; rfl
            have d2 : w14.cell? ⟨w5.heap.size, 2, none⟩ = some (sv []) := by rw [cellAt hA14]; rfl
            have d3 : w14.cell? ⟨w5.heap.size, 3, none⟩ = some (sv []) := by rw [cellAt hA14]; rfl
            have d4 : w14.cell? ⟨w5.heap.size, 4, none⟩ = some (sv []) := by rw [cellAt hA14]; rfl
            have d5 : w14.cell? ⟨w5.heap.size, 5, none⟩ = some (sv []) := by rw [cellAt hA14]; rfl
            have g0 : w14.frozen? ⟨w5.heap.size, 0, none⟩ = false := freeAt hA14 0
            have g1 : w14.frozen? ⟨w5.heap.size, 1, none⟩ = false := freeAt hA14 1
            have g2 : w14.frozen? ⟨w5.heap.size, 2, none⟩ = false := freeAt hA14 2
            have g3 : w14.frozen? ⟨w5.heap.size, 3, none⟩ = false := freeAt hA14 3
            have g4 : w14.frozen? ⟨w5.heap.size, 4, none⟩ = false := freeAt hA14 4
            have g5 : w14.frozen? ⟨w5.heap.size, 5, none⟩ = false := freeAt hA14 5
            have HH := Lib.hid hHeld
            have HBB := Lib.hid (show w.heap.size ≤ w5.heap.size from hL8)
            refine wpAnyH_ready (rs := [19]) (by kernel_rfl) (by simp) ?_
            refine AllReadyH.cons rfl (fun K hK => ?_) AllReadyH.nil
            go_simp
            refine hK.out _ _ (stored6 HW0.out HBB.out hK8 HH.out) (fun hHeld => ?_)
            clear hK K
            try simp only [List.getElem_toArray, List.getElem_cons_zero, List.getElem_cons_succ, Act.put, List.setIfInBounds_toArray, List.set_cons_zero, List.set_cons_succ]
            refine wpAnyH_done (by kernel_rfl) ?_ _
            try go_wp2_with fail
            go_meet
            case rel => exact ⟨w5.heap.size, rfl, HBB.out, filled6 hA14, below6 HW0.out HBB.out HH.out.2⟩
        · have hS6 := hHeld
          go_simp
          refine hK.out _ _ ⟨hHeld.1.step (below_alloc _ _), hHeld.2.alloc _⟩ (fun hHeld => ?_)
          clear hK K
          try simp only [List.getElem_toArray, List.getElem_cons_zero, List.getElem_cons_succ, Act.put, List.setIfInBounds_toArray, List.set_cons_zero, List.set_cons_succ]
          have hA6 : (w3.alloc (.cells #[sv [], sv [], sv [], sv [], sv [], sv []] 145)).heap[w3.heap.size]? = some (.cells #[sv [], sv [], sv [], sv [], sv [], sv []] 145 (0, 0)) := heap_alloc_new w3 _
          have hL6 : w.heap.size ≤ w3.heap.size := hS6.2.1.size
          have hK6 : k ≠ w3.heap.size := Nat.ne_of_lt hS6.1.lt
          generalize (w3.alloc (.cells #[sv [], sv [], sv [], sv [], sv [], sv []] 145)) = x6 at hHeld hA6 ⊢
          refine wpAnyH_ready (rs := [10]) (by kernel_rfl) (by simp) ?_
          refine AllReadyH.cons rfl (fun K hK => ?_) AllReadyH.nil
          go_simp
          go_at_call 120
          refine (HF.out _).mono ?_
          rintro e w15 ⟨rfl, hb15⟩
          refine hK.out _ _ ⟨hHeld.1.step hb15, hHeld.2.step hb15⟩ (fun hHeld => ?_)
          clear hK K
          try simp only [List.getElem_toArray, List.getElem_cons_zero, List.getElem_cons_succ, Act.put, List.setIfInBounds_toArray, List.set_cons_zero, List.set_cons_succ]
          have hA15 := (hb15.block _ (lt_of_blk hA6)).trans hA6
          refine wpAnyH_ready (rs := [13]) (by kernel_rfl) (by simp) ?_
          refine AllReadyH.cons rfl (fun K hK => ?_) AllReadyH.nil
          go_simp
          go_at_call 120
          refine (HU.out _).mono ?_
          rintro e w16 ⟨rfl, hb16⟩
          refine hK.out _ _ ⟨hHeld.1.step hb16, hHeld.2.step hb16⟩ (fun hHeld => ?_)
          clear hK K
          try simp only [List.getElem_toArray, List.getElem_cons_zero, List.getElem_cons_succ, Act.put, List.setIfInBounds_toArray, List.set_cons_zero, List.set_cons_succ]
          have hA16 := (hb16.block _ (lt_of_blk hA15)).trans hA15
          refine wpAnyH_ready (rs := [16]) (by kernel_rfl) (by simp) ?_
          refine AllReadyH.cons rfl (fun K hK => ?_) AllReadyH.nil
          go_simp
          go_at_call 121
          refine (HB.out _).mono ?_
          rintro e w17 ⟨rfl, hw17⟩
          have hb17 := below_of_eq hw17
          refine hK.out _ _ ⟨hHeld.1.step hb17, hHeld.2.step hb17⟩ (fun hHeld => ?_)
          clear hK K
          try simp only [List.getElem_toArray, List.getElem_cons_zero, List.getElem_cons_succ, Act.put, List.setIfInBounds_toArray, List.set_cons_zero, List.set_cons_succ]
          have hA17 := (hb17.block _ (lt_of_blk hA16)).trans hA16
          refine wpAnyH_take (i := 17) (v := ?vv17_16) rfl (by kernel_rfl) (by kernel_rfl) (by kernel_rfl) (fun _ _ _ h => h) (Or.inl ⟨by rfl, ?hy17_16⟩) (by assumption) ?rest17_16
          case hy17_16 => (intro w' hSw; (try dsimp only at hSw); go_simp; try with_reducible rfl)
          try simp only [List.getElem_toArray, List.getElem_cons_zero, List.getElem_cons_succ, Act.put, List.setIfInBounds_toArray, List.set_cons_zero, List.set_cons_succ]
          have d0 : w17.cell? ⟨w3.heap.size, 0, none⟩ = some (sv []) := by rw [cellAt hA17]; rfl
          have d1 : w17.cell? ⟨w3.heap.size, 1, none⟩ = some (sv []) := by rw [cellAt hA17]; rfl
          have d2 : w17.cell? ⟨w3.heap.size, 2, none⟩ = some (sv []) := by rw [cellAt hA17]; rfl
          have d3 : w17.cell? ⟨w3.heap.size, 3, none⟩ = some (sv []) := by rw [cellAt hA17]; rfl
          have d4 : w17.cell? ⟨w3.heap.size, 4, none⟩ = some (sv []) := by rw [cellAt hA17]; rfl
          have d5 : w17.cell? ⟨w3.heap.size, 5, none⟩ = some (sv []) := by rw [cellAt hA17]; rfl
          have g0 : w17.frozen? ⟨w3.heap.size, 0, none⟩ = false := freeAt hA17 0
          have g1 : w17.frozen? ⟨w3.heap.size, 1, none⟩ = false := freeAt hA17 1
          have g2 : w17.frozen? ⟨w3.heap.size, 2, none⟩ = false := freeAt hA17 2
          have g3 : w17.frozen? ⟨w3.heap.size, 3, none⟩ = false := freeAt hA17 3
          have g4 : w17.frozen? ⟨w3.heap.size, 4, none⟩ = false := freeAt hA17 4
          have g5 : w17.frozen? ⟨w3.heap.size, 5, none⟩ = false := freeAt hA17 5
          have HH := Lib.hid hHeld
          have HBB := Lib.hid (show w.heap.size ≤ w3.heap.size from hL6)
          refine wpAnyH_ready (rs := [19]) (by kernel_rfl) (by simp) ?_
          refine AllReadyH.cons rfl (fun K hK => ?_) AllReadyH.nil
          go_simp
          refine hK.out _ _ (stored6 HW0.out HBB.out hK6 HH.out) (fun hHeld => ?_)
          clear hK K
          try simp only [List.getElem_toArray, List.getElem_cons_zero, List.getElem_cons_succ, Act.put, List.setIfInBounds_toArray, List.set_cons_zero, List.set_cons_succ]
          refine wpAnyH_done (by kernel_rfl) ?_ _
          try go_wp2_with fail
          go_meet
          case rel => exact ⟨w3.heap.size, rfl, HBB.out, filled6 hA17, below6 HW0.out HBB.out HH.out.2⟩
      · have hS4 := hHeld
        go_simp
        refine hK.out _ _ ⟨hHeld.1.step (below_alloc _ _), hHeld.2.alloc _⟩ (fun hHeld => ?_)
        clear hK K
        try simp only [List.getElem_toArray, List.getElem_cons_zero, List.getElem_cons_succ, Act.put, List.setIfInBounds_toArray, List.set_cons_zero, List.set_cons_succ]
        have hA4 : (w1.alloc (.cells #[sv [], sv [], sv [], sv [], sv [], sv []] 145)).heap[w1.heap.size]? = some (.cells #[sv [], sv [], sv [], sv [], sv [], sv []] 145 (0, 0)) := heap_alloc_new w1 _
        have hL4 : w.heap.size ≤ w1.heap.size := hS4.2.1.size
        have hK4 : k ≠ w1.heap.size := Nat.ne_of_lt hS4.1.lt
        generalize (w1.alloc (.cells #[sv [], sv [], sv [], sv [], sv [], sv []] 145)) = x4 at hHeld hA4 ⊢
        refine wpAnyH_ready (rs := [7]) (by kernel_rfl) (by simp) ?_
        refine AllReadyH.cons rfl (fun K hK => ?_) AllReadyH.nil
        go_simp
        go_at_call 119
        refine (HN.out _ hHeld.2.1).mono ?_
        rintro e w18 ⟨rfl, hb18⟩
        refine hK.out _ _ ⟨hHeld.1.step hb18, hHeld.2.step hb18⟩ (fun hHeld => ?_)
        clear hK K
        try simp only [List.getElem_toArray, List.getElem_cons_zero, List.getElem_cons_succ, Act.put, List.setIfInBounds_toArray, List.set_cons_zero, List.set_cons_succ]
        have hA18 := (hb18.block _ (lt_of_blk hA4)).trans hA4
        refine wpAnyH_ready (rs := [10]) (by kernel_rfl) (by simp) ?_
        refine AllReadyH.cons rfl (fun K hK => ?_) AllReadyH.nil
        go_simp
        go_at_call 120
        refine (HF.out _).mono ?_
        rintro e w19 ⟨rfl, hb19⟩
        refine hK.out _ _ ⟨hHeld.1.step hb19, hHeld.2.step hb19⟩ (fun hHeld => ?_)
        clear hK K
        try simp only [List.getElem_toArray, List.getElem_cons_zero, List.getElem_cons_succ, Act.put, List.setIfInBounds_toArray, List.set_cons_zero, List.set_cons_succ]
        have hA19 := (hb19.block _ (lt_of_blk hA18)).trans hA18
        refine wpAnyH_ready (rs := [13]) (by kernel_rfl) (by simp) ?_
        refine AllReadyH.cons rfl (fun K hK => ?_) AllReadyH.nil
        go_simp
        go_at_call 120
        refine (HU.out _).mono ?_
        rintro e w20 ⟨rfl, hb20⟩
        refine hK.out _ _ ⟨hHeld.1.step hb20, hHeld.2.step hb20⟩ (fun hHeld => ?_)
        clear hK K
        try simp only [List.getElem_toArray, List.getElem_cons_zero, List.getElem_cons_succ, Act.put, List.setIfInBounds_toArray, List.set_cons_zero, List.set_cons_succ]
        have hA20 := (hb20.block _ (lt_of_blk hA19)).trans hA19
        refine wpAnyH_ready (rs := [16]) (by kernel_rfl) (by simp) ?_
        refine AllReadyH.cons rfl (fun K hK => ?_) AllReadyH.nil
        go_simp
        go_at_call 121
        refine (HB.out _).mono ?_
        rintro e w21 ⟨rfl, hw21⟩
        have hb21 := below_of_eq hw21
        refine hK.out _ _ ⟨hHeld.1.step hb21, hHeld.2.step hb21⟩ (fun hHeld => ?_)
        clear hK K
        try simp only [List.getElem_toArray, List.getElem_cons_zero, List.getElem_cons_succ, Act.put, List.setIfInBounds_toArray, List.set_cons_zero, List.set_cons_succ]
        have hA21 := (hb21.block _ (lt_of_blk hA20)).trans hA20
        refine wpAnyH_take (i := 17) (v := ?vv17_21) rfl (by kernel_rfl) (by kernel_rfl) (by kernel_rfl) (fun _ _ _ h => h) (Or.inl ⟨by rfl, ?hy17_21⟩) (by assumption) ?rest17_21
        case hy17_21 => (intro w' hSw; (try dsimp only at hSw); go_simp; try with_reducible rfl)
        try simp only [List.getElem_toArray, List.getElem_cons_zero, List.getElem_cons_succ, Act.put, List.setIfInBounds_toArray, List.set_cons_zero, List.set_cons_succ]
        have d0 : w21.cell? ⟨w1.heap.size, 0, none⟩ = some (sv []) := by rw [cellAt hA21]; rfl
        have d1 : w21.cell? ⟨w1.heap.size, 1, none⟩ = some (sv []) := by rw [cellAt hA21]; rfl
        have d2 : w21.cell? ⟨w1.heap.size, 2, none⟩ = some (sv []) := by rw [cellAt hA21]; rfl
        have d3 : w21.cell? ⟨w1.heap.size, 3, none⟩ = some (sv []) := by rw [cellAt hA21]; rfl
        have d4 : w21.cell? ⟨w1.heap.size, 4, none⟩ = some (sv []) := by rw [cellAt hA21]; rfl
        have d5 : w21.cell? ⟨w1.heap.size, 5, none⟩ = some (sv []) := by rw [cellAt hA21]; rfl
        have g0 : w21.frozen? ⟨w1.heap.size, 0, none⟩ = false := freeAt hA21 0
        have g1 : w21.frozen? ⟨w1.heap.size, 1, none⟩ = false := freeAt hA21 1
        have g2 : w21.frozen? ⟨w1.heap.size, 2, none⟩ = false := freeAt hA21 2
        have g3 : w21.frozen? ⟨w1.heap.size, 3, none⟩ = false := freeAt hA21 3
        have g4 : w21.frozen? ⟨w1.heap.size, 4, none⟩ = false := freeAt hA21 4
        have g5 : w21.frozen? ⟨w1.heap.size, 5, none⟩ = false := freeAt hA21 5
        have HH := Lib.hid hHeld
        have HBB := Lib.hid (show w.heap.size ≤ w1.heap.size from hL4)
        refine wpAnyH_ready (rs := [19]) (by kernel_rfl) (by simp) ?_
        refine AllReadyH.cons rfl (fun K hK => ?_) AllReadyH.nil
        go_simp
        refine hK.out _ _ (stored6 HW0.out HBB.out hK4 HH.out) (fun hHeld => ?_)
        clear hK K
        try simp only [List.getElem_toArray, List.getElem_cons_zero, List.getElem_cons_succ, Act.put, List.setIfInBounds_toArray, List.set_cons_zero, List.set_cons_succ]
        refine wpAnyH_done (by kernel_rfl) ?_ _
        try go_wp2_with fail
        go_meet
        case rel => exact ⟨w1.heap.size, rfl, HBB.out, filled6 hA21, below6 HW0.out HBB.out HH.out.2⟩
    · have hS2 := hHeld
      go_simp
      refine hK.out _ _ ⟨hHeld.1.step (below_alloc _ _), hHeld.2.alloc _⟩ (fun hHeld => ?_)
      clear hK K
      try simp only [List.getElem_toArray, List.getElem_cons_zero, List.getElem_cons_succ, Act.put, List.setIfInBounds_toArray, List.set_cons_zero, List.set_cons_succ]
      have hA2 : (W1.alloc (.cells #[sv [], sv [], sv [], sv [], sv [], sv []] 145)).drew.heap[W1.heap.size]? = some (.cells #[sv [], sv [], sv [], sv [], sv [], sv []] 145 (0, 0)) := heap_alloc_new W1 _
      have hL2 : w.heap.size ≤ W1.heap.size := hS2.2.1.size
      have hK2 : k ≠ W1.heap.size := Nat.ne_of_lt hS2.1.lt
      generalize (W1.alloc (.cells #[sv [], sv [], sv [], sv [], sv [], sv []] 145)).drew = x2 at hHeld hA2 ⊢
      refine wpAnyH_ready (rs := [2]) (by kernel_rfl) (by simp) ?_
      refine AllReadyH.cons rfl (fun K hK => ?_) AllReadyH.nil
      go_simp
      go_at_call 65
      refine (H4.out _).mono ?_
      rintro e w22 ⟨rfl, hb22⟩
      refine hK.out _ _ ⟨hHeld.1.step hb22, hHeld.2.step hb22⟩ (fun hHeld => ?_)
      clear hK K
      try simp only [List.getElem_toArray, List.getElem_cons_zero, List.getElem_cons_succ, Act.put, List.setIfInBounds_toArray, List.set_cons_zero, List.set_cons_succ]
      have hA22 := (hb22.block _ (lt_of_blk hA2)).trans hA2
      refine wpAnyH_ready (rs := [7]) (by kernel_rfl) (by simp) ?_
      refine AllReadyH.cons rfl (fun K hK => ?_) AllReadyH.nil
      go_simp
      go_at_call 119
      refine (HN.out _ hHeld.2.1).mono ?_
      rintro e w23 ⟨rfl, hb23⟩
      refine hK.out _ _ ⟨hHeld.1.step hb23, hHeld.2.step hb23⟩ (fun hHeld => ?_)
      clear hK K
      try simp only [List.getElem_toArray, List.getElem_cons_zero, List.getElem_cons_succ, Act.put, List.setIfInBounds_toArray, List.set_cons_zero, List.set_cons_succ]
      have hA23 := (hb23.block _ (lt_of_blk hA22)).trans hA22
      refine wpAnyH_ready (rs := [10]) (by kernel_rfl) (by simp) ?_
      refine AllReadyH.cons rfl (fun K hK => ?_) AllReadyH.nil
      go_simp
      go_at_call 120
      refine (HF.out _).mono ?_
      rintro e w24 ⟨rfl, hb24⟩
      refine hK.out _ _ ⟨hHeld.1.step hb24, hHeld.2.step hb24⟩ (fun hHeld => ?_)
      clear hK K
      try simp only [List.getElem_toArray, List.getElem_cons_zero, List.getElem_cons_succ, Act.put, List.setIfInBounds_toArray, List.set_cons_zero, List.set_cons_succ]
      have hA24 := (hb24.block _ (lt_of_blk hA23)).trans hA23
      refine wpAnyH_ready (rs := [13]) (by kernel_rfl) (by simp) ?_
      refine AllReadyH.cons rfl (fun K hK => ?_) AllReadyH.nil
      go_simp
      go_at_call 120
      refine (HU.out _).mono ?_
      rintro e w25 ⟨rfl, hb25⟩
      refine hK.out _ _ ⟨hHeld.1.step hb25, hHeld.2.step hb25⟩ (fun hHeld => ?_)
      clear hK K
      try simp only [List.getElem_toArray, List.getElem_cons_zero, List.getElem_cons_succ, Act.put, List.setIfInBounds_toArray, List.set_cons_zero, List.set_cons_succ]
      have hA25 := (hb25.block _ (lt_of_blk hA24)).trans hA24
      refine wpAnyH_ready (rs := [16]) (by kernel_rfl) (by simp) ?_
      refine AllReadyH.cons rfl (fun K hK => ?_) AllReadyH.nil
      go_simp
      go_at_call 121
      refine (HB.out _).mono ?_
      rintro e w26 ⟨rfl, hw26⟩
      have hb26 := below_of_eq hw26
      refine hK.out _ _ ⟨hHeld.1.step hb26, hHeld.2.step hb26⟩ (fun hHeld => ?_)
      clear hK K
      try simp only [List.getElem_toArray, List.getElem_cons_zero, List.getElem_cons_succ, Act.put, List.setIfInBounds_toArray, List.set_cons_zero, List.set_cons_succ]
      have hA26 := (hb26.block _ (lt_of_blk hA25)).trans hA25
      refine wpAnyH_take (i := 17) (v := ?vv17_27) rfl (by kernel_rfl) (by kernel_rfl) (by kernel_rfl) (fun _ _ _ h => h) (Or.inl ⟨by rfl, ?hy17_27⟩) (by assumption) ?rest17_27
      case hy17_27 => (intro w' hSw; (try dsimp only at hSw); go_simp; try with_reducible rfl)
      try simp only [List.getElem_toArray, List.getElem_cons_zero, List.getElem_cons_succ, Act.put, List.setIfInBounds_toArray, List.set_cons_zero, List.set_cons_succ]
      have d0 : w26.cell? ⟨W1.heap.size, 0, none⟩ = some (sv []) := by rw [cellAt hA26]; rfl
      have d1 : w26.cell? ⟨W1.heap.size, 1, none⟩ = some (sv []) := by rw [cellAt hA26]; rfl
      have d2 : w26.cell? ⟨W1.heap.size, 2, none⟩ = some (sv []) := by rw [cellAt hA26]; rfl
      have d3 : w26.cell? ⟨W1.heap.size, 3, none⟩ = some (sv []) := by rw [cellAt hA26]; rfl
      have d4 : w26.cell? ⟨W1.heap.size, 4, none⟩ = some (sv []) := by rw [cellAt hA26]; rfl
      have d5 : w26.cell? ⟨W1.heap.size, 5, none⟩ = some (sv []) := by rw [cellAt hA26]; rfl
      have g0 : w26.frozen? ⟨W1.heap.size, 0, none⟩ = false := freeAt hA26 0
      have g1 : w26.frozen? ⟨W1.heap.size, 1, none⟩ = false := freeAt hA26 1
      have g2 : w26.frozen? ⟨W1.heap.size, 2, none⟩ = false := freeAt hA26 2
      have g3 : w26.frozen? ⟨W1.heap.size, 3, none⟩ = false := freeAt hA26 3
      have g4 : w26.frozen? ⟨W1.heap.size, 4, none⟩ = false := freeAt hA26 4
      have g5 : w26.frozen? ⟨W1.heap.size, 5, none⟩ = false := freeAt hA26 5
      have HH := Lib.hid hHeld
      have HBB := Lib.hid (show w.heap.size ≤ W1.heap.size from hL2)
      refine wpAnyH_ready (rs := [19]) (by kernel_rfl) (by simp) ?_
      refine AllReadyH.cons rfl (fun K hK => ?_) AllReadyH.nil
      go_simp
      refine hK.out _ _ (stored6 HW0.out HBB.out hK2 HH.out) (fun hHeld => ?_)
      clear hK K
      try simp only [List.getElem_toArray, List.getElem_cons_zero, List.getElem_cons_succ, Act.put, List.setIfInBounds_toArray, List.set_cons_zero, List.set_cons_succ]
      refine wpAnyH_done (by kernel_rfl) ?_ _
      try go_wp2_with fail
      go_meet
      case rel => exact ⟨W1.heap.size, rfl, HBB.out, filled6 hA26, below6 HW0.out HBB.out HH.out.2⟩
  case rest =>
    obtain ⟨g, rfl, hle, hg, hgb⟩ := hcut
    obtain ⟨q0, q1, q2, q3, q4, q5⟩ := hgb.2.tags
    have HGC := Lib.hid hg
    have HGB := Lib.hid hgb
    have HLE := Lib.hid hle
    have HLT := Lib.hid (lt_of_blk hg)
    obtain ⟨L, hL⟩ : ∃ L, L = partsC c := ⟨_, rfl⟩
    have HLL := Lib.hid (show L.length = 6 by rw [hL]; rfl)
    have HLA := Lib.hid (show rowC c = putsL L by rw [hL]; rfl)
    have HIX := Lib.hid (show ∀ (j : Nat), j < 6 → ∀ W : World, (Instr.index 146 (.agg #[.int .u8 48, .int .u8 4, .int .u8 48, .int .u8 2, .int .u8 2, .int .u8 1]) (.int .i64 (j : Int))).run Tryz.prog W = .ok (.int .u8 ((L.getD j it0).1.toNat : Int)) W by
      intro j hj W
      rw [hL]
      exact tag_index c j hj W)
    have HCE := Lib.hid (show ∀ (W : World), W.heap[g]? = some (.cells #[sv (putT 4 c.key), sv c.sig, sv (namesL c.names), sv (intL c.fr), sv (intL c.un), sv (caL c.ca)] 145 (0, 0)) → ∀ (j : Nat), j < 6 → W.cell? ⟨g, j, none⟩ = some (sv (L.getD j it0).2) by
      intro W hW j hj
      rw [hL, cellAt hW]
      match j, hj with
      | 0, _ => rfl
      | 1, _ => rfl
      | 2, _ => rfl
      | 3, _ => rfl
      | 4, _ => rfl
      | 5, _ => rfl)
    have HGD := Lib.hid (show ∀ x ∈ L, goodT x by rw [hL]; exact HGOOD.out)
    have HWC := Lib.hid (show writeC c = putT 48 (rowC c) from rfl)
    obtain ⟨R, hR⟩ : ∃ R, R = rowC c := ⟨_, rfl⟩
    rw [← hR] at HLA H48 HROW HWC
    have hrl : R.length ≤ 17000 := HROW.out
    clear hL hR hle hg hgb
    go_wp2_with fail
    go_loopw [4, 26] (fun s i wr => ∃ j : Nat, j ≤ 6 ∧ i = .int .i64 j ∧ s = sv (putsL (L.take j)) ∧ wr.heap[g]? = some (.cells #[sv (putT 4 c.key), sv c.sig, sv (namesL c.names), sv (intL c.fr), sv (intL c.un), sv (caL c.ca)] 145 (0, 0)) ∧ Gb w wr) (fun _ i _ => 6 - (intOf i).toNat)
    case atStart => exact ⟨0, Nat.zero_le _, rfl, rfl, HGC.out, HGB.out⟩
    case round =>
      obtain ⟨j, hj, rfl, rfl, hg, hgb⟩ := hrel
      have HG := Lib.hid hg
      have HB2 := Lib.hid hgb
      clear hg hgb
      by_cases hlt : j < 6
      · have hix := HIX.out j hlt
        have c0 := HCE.out _ HG.out j hlt
        have hgd := HGD.out _ (show L.getD j it0 ∈ L by rw [List.getD_eq_getElem?_getD, List.getElem?_eq_getElem (show j < L.length by rw [HLL.out]; exact hlt)]; exact List.getElem_mem _)
        have HT := Lib.hid (puts_next (l := L) (j := j) (by rw [HLL.out]; exact hlt))
        have hs1 := puts_take_le L j
        have hs2 := puts_take_le L (j + 1)
        rw [HT.out, List.length_append, ← HLA.out] at hs2
        rw [← HLA.out] at hs1
        obtain ⟨x, hxe⟩ : ∃ x, x = L.getD j it0 := ⟨_, rfl⟩
        rw [← hxe] at c0 HT hgd hix hs2
        obtain ⟨t, v⟩ := x
        simp only at c0 HT hgd hix hs2
        have HP := Lib.hid (fun W : World => @put_one (t.toNat : Int) t v rfl hgd.1 hgd.2 W)
        obtain ⟨s, hse⟩ : ∃ s, s = putsL (L.take j) := ⟨_, rfl⟩
        rw [← hse] at HT hs1 hs2 ⊢
        have hz2 := str_size s
        have hz3 := str_size (putT t v)
        have hcat : str s ++ str (putT t v) = str (s ++ putT t v) := str_appendE _ _
        have hlt' : (j : Int) < 6 := by omega
        have hadd : ¬ 9223372036854775807 < s.length + (putT t v).length := by omega
        clear hxe hse hgd hs1 hs2
        go_wp2_with (go_at_call 65; refine (HP.out _).mono ?_; rintro e w1 ⟨rfl, hb1⟩)
        go_roundw
        case rel => exact ⟨j + 1, by omega, by go_num, by rw [HT.out], (hb1.block _ (lt_of_blk HG.out)).trans HG.out, HB2.out.step hb1⟩
        case measure => simp [intOf]; omega
      · obtain rfl : j = 6 := by omega
        rw [show ((6 : Nat) : Int) = 6 from rfl]
        rw [List.take_of_length_le (by rw [HLL.out]; exact Nat.le_refl _), ← HLA.out]
        go_wp2_with (go_at_call 65; refine (H48.out _).mono ?_; rintro e w1 ⟨rfl, hb1⟩)
        go_ret
        rw [HWC.out]
        exact ⟨rfl, (HB2.out.step hb1).1⟩
end Go.Proofs.YtnaoandleelbkaaGreatDoor

namespace Go.Proofs.YtnaoandleelbkaaGreatDoor
set_option linter.unusedSimpArgs false
set_option linter.unusedVariables false
open Go Go.RowKit
set_option maxRecDepth 100000

set_option maxHeartbeats 4000000 in
theorem encode_any {w : World} (c : Ct) (A : Option Addr) (cp : Nat) (hx : SX w (.slice A c.names.length cp) c.names) (hs : shortC c) (hw : GL w) :
    Calls Tryz.prog 18 #[certV c (.slice A c.names.length cp)] w fun e w' => e = .returned (.tuple #[sv (encL c), .int .i64 (encE c : Nat)]) ∧ Below w.heap.size w w' := by
  obtain ⟨k, hk⟩ : ∃ k, k = w.heap.size := ⟨_, rfl⟩
  obtain ⟨W1, hW⟩ : ∃ W1, W1 = w.alloc (cellsC c (.slice A c.names.length cp)) := ⟨_, rfl⟩
  have hC1 : CB W1 k c (.slice A c.names.length cp) := by rw [hW, hk]; exact CB.new _ _ _
  have HC1 := Lib.hid hC1
  have HG1 := Lib.hid (show Gb w W1 by rw [hW]; exact (Gb.start hw).alloc _)
  have HM := Lib.hid (fun W (h : Gb w W) => show Calls Tryz.prog 19 #[.agg #[sv c.key, sv c.sig, .slice A c.names.length cp, .int .i64 c.fr, .int .i64 c.un, .bool c.ca]] W (fun e w' => e = .returned (.bool (mayC c)) ∧ Below W.heap.size W w') from mayC_any c A cp (hx.step h.1) hs h.2)
  have HW := Lib.hid hW
  have HK := Lib.hid hk
  have HX := Lib.hid hx
  have c0 := hC1.c0
  have c1 := hC1.c1
  have c2 := hC1.c2
  have c3 := hC1.c3
  have c4 := hC1.c4
  have c5 := hC1.c5
  obtain ⟨E, hE⟩ : ∃ E, E = encE c := ⟨_, rfl⟩
  obtain ⟨S, hS⟩ : ∃ S, S = encL c := ⟨_, rfl⟩
  rw [← hE, ← hS]
  have HE := Lib.hid hE
  have HS := Lib.hid hS
  clear hW hk hx hw hs hE hS hC1
  cases hm : mayC c with
  | false =>
    rw [hm] at HM
    have h4 : encE c = 4 := encE_form.2 (.inl hm)
    rw [h4] at HE
    rw [encE_not (c := c) (by omega)] at HS
    rw [HE.out, HS.out]
    clear hm h4
    unfold certV
    go_enter Tryz.func18, Tryz.ntmps18
    go_wp2_with fail
    rw [← HW.out, ← HK.out]
    go_wp2_with (go_at_call 19; refine (HM.out _ HG1.out).mono ?_; rintro e w1 ⟨rfl, hb1⟩)
    go_ret2
    exact ⟨rfl, (HG1.out.step hb1).1⟩
  | true =>
    rw [hm] at HM
    by_cases hl : 64 < c.names.length
    · have h4 : encE c = 4 := encE_form.2 (.inr hl)
      rw [h4] at HE
      rw [encE_not (c := c) (by omega)] at HS
      rw [HE.out, HS.out]
      have hl' : (64 : Int) < (c.names.length : Int) := by omega
      clear hm h4 hl
      unfold certV
      go_enter Tryz.func18, Tryz.ntmps18
      go_wp2_with fail
      rw [← HW.out, ← HK.out]
      go_wp2_with (go_at_call 19; refine (HM.out _ HG1.out).mono ?_; rintro e w1 ⟨rfl, hb1⟩; have q2 := (HC1.out.step hb1).c2)
      go_ret2
      exact ⟨rfl, (HG1.out.step hb1).1⟩
    · have hf : fewB c = true := fewB_iff.2 ⟨hm, by omega⟩
      have HR := Lib.hid (fun W (h : Gb w W) => show Calls Tryz.prog 66 #[.agg #[sv c.key, sv c.sig, .slice A c.names.length cp, .int .i64 c.fr, .int .i64 c.un, .bool c.ca]] W (fun e w' => e = .returned (sv (writeC c)) ∧ Below W.heap.size W w') from write_any c A cp (HX.out.step h.1) hf h.2)
      have hl' : ¬ (64 : Int) < (c.names.length : Int) := by omega
      have hwl : (writeC c).length ≤ 20000 := by have := row_le hf; have := putT_most 48 (rowC c); show (putT 48 (rowC c)).length ≤ _; omega
      have hz := str_size (writeC c)
      have hen : encE c = if 512 < (writeC c).length then 40 else 0 := by unfold encE; rw [if_neg (by rw [hf]; simp)]
      have hsl : encE c = 0 → encL c = writeC c := fun h => (encE_zero h).2.2
      obtain ⟨T, hT⟩ : ∃ T, T = writeC c := ⟨_, rfl⟩
      rw [← hT] at HR hwl hz hen hsl
      clear hm hl hf hT
      by_cases h5 : 512 < T.length
      · rw [if_pos h5] at hen
        rw [hen] at HE
        rw [encE_not (c := c) (by omega)] at HS
        rw [HE.out, HS.out]
        have h5' : (512 : Int) < (T.length : Int) := by omega
        clear h5 hen hsl
        unfold certV
        go_enter Tryz.func18, Tryz.ntmps18
        go_wp2_with fail
        rw [← HW.out, ← HK.out]
        go_wp2_with (first | (go_at_call 19; refine (HM.out _ HG1.out).mono ?_; rintro e w1 ⟨rfl, hb1⟩; have HG2 := Lib.hid (HG1.out.step hb1); have hC2 := HC1.out.step hb1; have q0 := hC2.c0; have q1 := hC2.c1; have q2 := hC2.c2; have q3 := hC2.c3; have q4 := hC2.c4; have q5 := hC2.c5; clear hC2 hb1) | (go_at_call 66; refine (HR.out _ HG2.out).mono ?_; rintro e w2 ⟨rfl, hb2⟩))
        go_ret2
        exact ⟨rfl, (HG2.out.step hb2).1⟩
      · rw [if_neg h5] at hen
        rw [hsl hen] at HS
        rw [hen] at HE
        rw [HE.out, HS.out]
        have h5' : ¬ (512 : Int) < (T.length : Int) := by omega
        clear h5 hen hsl
        unfold certV
        go_enter Tryz.func18, Tryz.ntmps18
        go_wp2_with fail
        rw [← HW.out, ← HK.out]
        go_wp2_with (first | (go_at_call 19; refine (HM.out _ HG1.out).mono ?_; rintro e w1 ⟨rfl, hb1⟩; have HG2 := Lib.hid (HG1.out.step hb1); have hC2 := HC1.out.step hb1; have q0 := hC2.c0; have q1 := hC2.c1; have q2 := hC2.c2; have q3 := hC2.c3; have q4 := hC2.c4; have q5 := hC2.c5; clear hC2 hb1) | (go_at_call 66; refine (HR.out _ HG2.out).mono ?_; rintro e w2 ⟨rfl, hb2⟩))
        go_ret2
        exact ⟨rfl, (HG2.out.step hb2).1⟩
end Go.Proofs.YtnaoandleelbkaaGreatDoor
