/-
  The laws' does.
-/
import Derived.Test.YtechpecnanodfaaDRef8
namespace Go.Proofs.Ytechpecnanodfaa
open Go Go.RowKit Go.Maps
set_option maxRecDepth 100000
set_option linter.unusedSimpArgs false
set_option linter.unusedVariables false

theorem info3i : (Try.prog.info? 3).map (fun i => (i.zero, i.size, i.bytes)) = some (some (.int .i64 0), 1, 8) := by kernel_rfl
/-- 'append([]int{}, L...)': W is the world ahead of the literal. -/
theorem run_keep (w : World) {A : Option Addr} {c : Nat} {L : List Int} (h : IR w A L) (hl : L.length ≤ 100000) :
    ∃ A1 c1 w1, (Builtin.append_ #[33, 33] 33 #[.slice (some ⟨w.heap.size, 0, none⟩) 0 0, .slice A L.length c]).run Try.prog (w.alloc (.cells #[] 3)) = .ok (.slice A1 L.length c1) w1 ∧ IR w1 A1 L ∧ Below w.heap.size w w1 ∧ (∀ a, A1 = some a → w.heap.size ≤ a.block ∧ a.block < w1.heap.size) := by
  have ha := h.below ((Below.refl _ w).alloc (Nat.le_refl _) (.cells #[] 3))
  obtain ⟨i, hi, hz0, hz1, hz2⟩ := info_parts info3i
  have hown : (w.alloc (.cells #[] 3)).ownsRow w.heap.size 3 1 (.slice (some ⟨w.heap.size, 0, none⟩) 0 0) 0 [] := ⟨by simp, .inr ⟨w.heap.size, 0, #[], rfl, Nat.le_refl _, heap_alloc_new w _, Nat.le_refl _, by decide, rfl, by simp⟩⟩
  rcases Nat.eq_zero_or_pos L.length with h0 | hp
  · obtain rfl : L = [] := List.length_eq_zero_iff.1 h0
    refine ⟨some ⟨w.heap.size, 0, none⟩, 0, w.alloc (.cells #[] 3), ?_, fun j hj => by simp at hj, (Below.refl _ w).alloc (Nat.le_refl _) _, fun a ha => by cases ha; exact ⟨Nat.le_refl _, by simp⟩⟩
    cases A <;> simp [Builtin.append_, run_underlying Try.underlying33, sizeOf, typeInfo, hi, Builtin.lenOf, Builtin.firstCells, storeCells, loadCells, loadCellsFrom]
  · obtain ⟨b, o, rfl, hb, _⟩ := ha 0 hp
    obtain ⟨g, cap, w', hr, h2, h3, h4, h5⟩ := run_append_lies (P := Try.prog) (w.alloc (.cells #[] 3)) 33 33 w.heap.size 3 i _ 1 8 Try.underlying33 hi hz0 hz1 hz2 rfl (by decide) _ 0 [] hown ⟨b, o, none⟩ L.length c (L.map encZ) (by simp) (fun j u hu => by
      have hj : j < L.length := by have := (List.getElem?_eq_some_iff.1 hu).1; simpa using this
      obtain ⟨b', o', e, _, hc⟩ := ha j hj
      cases e
      rw [Addr.add_mid, hc, ← hu, List.getElem?_map, List.getElem?_eq_getElem hj, List.getD_eq_getElem?_getD, List.getElem?_eq_getElem hj]; rfl) (by intro u hu; obtain ⟨y, _, rfl⟩ := List.mem_map.1 hu; rfl) hp (by unfold maxLen; omega) (by omega) (by simp) _ rfl
    rw [Nat.zero_add] at hr h2
    rw [List.nil_append] at h2
    obtain ⟨A1, c1, e1, hI, hA⟩ := row_form h2
    have e2 : A1 = some ⟨g, 0, none⟩ := by cases e1; rfl
    refine ⟨A1, c1, w', by rw [← e1]; exact hr, hI, ?_, fun a ha => ⟨hA a ha, by rw [e2] at ha; cases ha; exact h5⟩⟩
    refine ((Below.refl _ w).alloc (Nat.le_refl _) _).grown h3 (by simp) (fun k e => ?_)
    simp [Value.ownBlock] at e
    omega
/-- A row of numbers as a thing. -/
def irOb (A : Option Addr) (L : List Int) : Ob := ⟨(match A with | some a => [a.block] | none => []), fun w => IR w A L⟩
theorem irOb_stays (A : Option Addr) (L : List Int) : (irOb A L).Stays := fun W W' h hP j hj => by
  obtain ⟨b, o, hA, hb, hc⟩ := hP j hj
  subst hA
  have hh := h b (by simp [irOb])
  exact ⟨b, o, rfl, (by
    rcases Nat.lt_or_ge b W'.heap.size with h1 | h1
    · exact h1
    · have h2 := hh.2
      rw [Array.getElem?_eq_none h1, Array.getElem?_eq_getElem hb] at h2
      cases h2), (World.cell?_of_block (w := W) hh.2).trans hc⟩
theorem Obs.tail {w0 w : World} {os : List Ob} {x A B : Ob} {i j : Nat} (hil : i < os.length) (hjl : j < os.length) (h : Obs w0 w (((os ++ [x]).set i A).set j B)) : Obs w0 w ((os.set i A).set j B) := by
  rw [List.set_append_left _ _ hil, List.set_append_left _ _ (by simpa using hjl)] at h
  exact h.drop

set_option maxHeartbeats 8000000 in
theorem does_o {w0 w : World} {os : List Ob} (h : Obs w0 w os) {p bl bd q g1 g2 g3 : Nat} {S : DS} (i j : Nat) (hij : i ≠ j) (hi : os[i]? = some (pdOb p bl bd S)) (hj : os[j]? = some (rdOb q g1 g2 g3 S)) (hops : S.ops < 4611686018427387904) {s : SD} (hs : s.Ok w0) (hkl : s.keep.length ≤ 100000) :
    Calls Try.prog 26 #[dp p, dp q, s.val] w fun e w' => e = .returned (.bool true) ∧ ∃ h1 h2 h3, Obs w0 w' ((os.set i (pdOb p bl bd (S.step s))).set j (rdOb q h1 h2 h3 (S.step s))) := by
  have CB := Lib.hid (fun W : World => bytes_any (w := W) s.wh s.a s.y (odd := s.odd) (.slice s.kA s.keep.length s.kc) rfl hs.odd)
  have HST := Lib.hid (show S.step s = if s.wh = 0 then S.wr s.a (stB s.odd s.y) else if s.wh = 1 then S.sync else if s.wh = 2 then S.fail s.a else if s.wh = 3 then S.boot s.keep else S from rfl)
  have hg := heap_alloc_new w (.cells (stC s) 48)
  have hil : i < os.length := (List.getElem?_eq_some_iff.1 hi).1
  have hjl : j < os.length := (List.getElem?_eq_some_iff.1 hj).1
  have hO := h.add (bxOb w.heap.size s) (w' := w.alloc (.cells (stC s) 48)) hg (bxOb_stays _ _) ((Below.refl _ _).alloc (Nat.le_refl _) _) (fun b hb => by simp [bxOb] at hb; subst hb; exact ⟨Nat.le_refl _, by simp⟩)
  have HS := Lib.hid (hs.kp (Kp.of_below (hO.bel) []) (by simp))
  have HKB := Lib.hid (show ∀ x, s.kA = some x → s.keep ≠ [] → x.block < w0.heap.size from hs.lo)
  have HIR0 := Lib.hid hs.ir
  clear h hs
  rw [show s.val = .agg (stC s) from rfl]
  go_enter Try.func26, Try.ntmps26
  go_upto_region 1 with fail
  generalize w.alloc (.cells (stC s) 48) = w1 at hg hO HS ⊢
  generalize w.heap.size = g at hg hO ⊢
  have c0 : w1.cell? ⟨g, 0, none⟩ = some (.int .u8 (s.wh.toNat : Int)) := cellAt hg 0
  have c1 : w1.cell? ⟨g, 1, none⟩ = some (.int .i64 s.a) := cellAt hg 1
  have c4 : w1.cell? ⟨g, 4, none⟩ = some (.slice s.kA s.keep.length s.kc) := cellAt hg 4
  have HEND := Lib.hid (fun W A B (hh : Obs w0 W (((os ++ [bxOb g s]).set i A).set j B)) => hh.tail hil hjl)
  have hI : (os ++ [bxOb g s])[i]? = some (pdOb p bl bd S) := by rw [List.getElem?_append_left hil]; exact hi
  have hJ : (os ++ [bxOb g s])[j]? = some (rdOb q g1 g2 g3 S) := by rw [List.getElem?_append_left hjl]; exact hj
  have hK : (os ++ [bxOb g s])[os.length]? = some (bxOb g s) := by simp
  have HIK := Lib.hid (show i ≠ os.length by omega)
  have HJK := Lib.hid (show j ≠ os.length by omega)
  have hil2 : i < (os ++ [bxOb g s]).length := by simp; omega
  have hjl2 : j < (os ++ [bxOb g s]).length := by simp; omega
  have hel : os.length < (os ++ [bxOb g s]).length := by simp
  have HSAME := Lib.hid (show ∀ W, Obs w0 W (os ++ [bxOb g s]) → Obs w0 W ((os.set i (pdOb p bl bd S)).set j (rdOb q g1 g2 g3 S)) from fun W hh => by
    have e1 : os.set i (pdOb p bl bd S) = os := by
      refine List.ext_getElem? fun m => ?_
      rw [List.getElem?_set]
      by_cases e : i = m
      · subst e; rw [if_pos rfl, if_pos hil, hi]
      · rw [if_neg e]
    have e2 : os.set j (rdOb q g1 g2 g3 S) = os := by
      refine List.ext_getElem? fun m => ?_
      rw [List.getElem?_set]
      by_cases e : j = m
      · subst e; rw [if_pos rfl, if_pos hjl, hj]
      · rw [if_neg e]
    rw [e1, e2]
    exact hh.drop)
  generalize os ++ [bxOb g s] = OS at hO hI hJ hK HEND hil2 hjl2 hel HSAME
  generalize os.length = kk at hK HIK HJK hel
  have H1 := Lib.hid hO
  have HG := Lib.hid hg
  have HI := Lib.hid hI
  have HJ := Lib.hid hJ
  have HK := Lib.hid hK
  have HIL := Lib.hid (And.intro hil2 (And.intro hjl2 hel))
  have GJ := Lib.hid (show ∀ A : Ob, (OS.set i A)[j]? = some (rdOb q g1 g2 g3 S) from fun A => by rw [List.getElem?_set_ne hij]; exact hJ)
  have GK := Lib.hid (show ∀ A : Ob, (OS.set i A)[kk]? = some (bxOb g s) from fun A => by rw [List.getElem?_set_ne HIK.out]; exact hK)
  have GKK := Lib.hid (show ∀ A B : Ob, ((OS.set i A).set j B)[kk]? = some (bxOb g s) from fun A B => by rw [List.getElem?_set_ne HJK.out, List.getElem?_set_ne HIK.out]; exact hK)
  have HIJ := Lib.hid hij
  clear hO hg hI hJ hK hil hjl hil2 hjl2 hel hi hj hij
  by_cases h0 : s.wh = 0
  · have e0 : (s.wh.toNat : Int) = 0 := by rw [h0]; rfl
    rw [e0] at c0
    have HR := Lib.hid (HST.out.trans (if_pos h0))
    clear e0 h0
    go_wp2_with fail
    refine wp_region_held_drew (S := fun W => W.heap[g]? = some (.cells (stC s) 48 (0, 0))) (by kernel_rfl) HG.out (fun hHeld => ?_)
    refine wpAnyH_take (i := 0) (v := ?vv0_1) rfl (by kernel_rfl) (by kernel_rfl) (by kernel_rfl) (fun _ _ _ h => h) (Or.inl ⟨by rfl, ?hy0_1⟩) (by assumption) ?rest0_1
    case hy0_1 => (intro w' hSw; (try dsimp only at hSw); go_simp; try with_reducible rfl)
    try simp only [List.getElem_toArray, List.getElem_cons_zero, List.getElem_cons_succ, Act.put, List.setIfInBounds_toArray, List.set_cons_zero, List.set_cons_succ]
    refine wpAnyH_take (i := 1) (v := ?vv1_1) rfl (by kernel_rfl) (by kernel_rfl) (by kernel_rfl) (fun _ _ _ h => h) (Or.inl ⟨by rfl, ?hy1_1⟩) (by assumption) ?rest1_1
    case hy1_1 => (intro w' hSw; (try dsimp only at hSw); go_simp; try with_reducible rfl)
    try simp only [List.getElem_toArray, List.getElem_cons_zero, List.getElem_cons_succ, Act.put, List.setIfInBounds_toArray, List.set_cons_zero, List.set_cons_succ]
    refine wpAnyH_take (i := 2) (v := .int .i64 s.a) rfl (by kernel_rfl) (by kernel_rfl) (by kernel_rfl) (fun _ _ _ h => h) (Or.inl ⟨by rfl, fun w' hSw => exec_load1 w' rfl rfl (cellAt hSw 1) Try.underlying3 rfl⟩) (by assumption) ?_
    try simp only [List.getElem_toArray, List.getElem_cons_zero, List.getElem_cons_succ, Act.put, List.setIfInBounds_toArray, List.set_cons_zero, List.set_cons_succ]
    refine wpAnyH_take (i := 3) (v := .agg (stC s)) rfl (by kernel_rfl) (by kernel_rfl) (by kernel_rfl) (fun _ _ _ h => h) (Or.inl ⟨by rfl, fun w' hSw => exec_load_row w' rfl rfl hSw Try.underlying48 rfl stC_size⟩) (by assumption) ?_
    try simp only [List.getElem_toArray, List.getElem_cons_zero, List.getElem_cons_succ, Act.put, List.setIfInBounds_toArray, List.set_cons_zero, List.set_cons_succ]
    refine wpAnyH_take (i := 6) (v := ?vv6_1) rfl (by kernel_rfl) (by kernel_rfl) (by kernel_rfl) (fun _ _ _ h => h) (Or.inl ⟨by rfl, ?hy6_1⟩) (by assumption) ?rest6_1
    case hy6_1 => (intro w' hSw; (try dsimp only at hSw); go_simp; try with_reducible rfl)
    try simp only [List.getElem_toArray, List.getElem_cons_zero, List.getElem_cons_succ, Act.put, List.setIfInBounds_toArray, List.set_cons_zero, List.set_cons_succ]
    refine wpAnyH_take (i := 7) (v := ?vv7_1) rfl (by kernel_rfl) (by kernel_rfl) (by kernel_rfl) (fun _ _ _ h => h) (Or.inl ⟨by rfl, ?hy7_1⟩) (by assumption) ?rest7_1
    case hy7_1 => (intro w' hSw; (try dsimp only at hSw); go_simp; try with_reducible rfl)
    try simp only [List.getElem_toArray, List.getElem_cons_zero, List.getElem_cons_succ, Act.put, List.setIfInBounds_toArray, List.set_cons_zero, List.set_cons_succ]
    refine wpAnyH_take (i := 8) (v := .int .i64 s.a) rfl (by kernel_rfl) (by kernel_rfl) (by kernel_rfl) (fun _ _ _ h => h) (Or.inl ⟨by rfl, fun w' hSw => exec_load1 w' rfl rfl (cellAt hSw 1) Try.underlying3 rfl⟩) (by assumption) ?_
    try simp only [List.getElem_toArray, List.getElem_cons_zero, List.getElem_cons_succ, Act.put, List.setIfInBounds_toArray, List.set_cons_zero, List.set_cons_succ]
    refine wpAnyH_take (i := 9) (v := .agg (stC s)) rfl (by kernel_rfl) (by kernel_rfl) (by kernel_rfl) (fun _ _ _ h => h) (Or.inl ⟨by rfl, fun w' hSw => exec_load_row w' rfl rfl hSw Try.underlying48 rfl stC_size⟩) (by assumption) ?_
    try simp only [List.getElem_toArray, List.getElem_cons_zero, List.getElem_cons_succ, Act.put, List.setIfInBounds_toArray, List.set_cons_zero, List.set_cons_succ]
    refine wpAnyH_ready (rs := [4]) (by kernel_rfl) (by simp) ?_
    refine AllReadyH.cons rfl (fun K hK => ?_) AllReadyH.nil
    go_simp
    refine (CB.out _).mono ?_
    rintro e wa ⟨rfl, hb1⟩
    (try go_wp2_with fail)
    refine hK.out _ _ ((H1.out.drew.step hb1).get HK.out) (fun hHeld => ?_)
    clear hK K
    try simp only [List.getElem_toArray, List.getElem_cons_zero, List.getElem_cons_succ, Act.put, List.setIfInBounds_toArray, List.set_cons_zero, List.set_cons_succ]
    have K1 := Lib.hid (H1.out.drew.step hb1)
    refine wpAnyH_ready (rs := [5]) (by kernel_rfl) (by simp) ?_
    refine AllReadyH.cons rfl (fun K hK => ?_) AllReadyH.nil
    go_simp
    refine (write_o K1.out i HI.out hops s.a (stB s.odd s.y) (by have := stB_le s.odd s.y; omega)).mono ?_
    rintro e wb ⟨rfl, hK2⟩
    (try go_wp2_with fail)
    refine hK.out _ _ (hK2.get (GK.out _)) (fun hHeld => ?_)
    clear hK K
    try simp only [List.getElem_toArray, List.getElem_cons_zero, List.getElem_cons_succ, Act.put, List.setIfInBounds_toArray, List.set_cons_zero, List.set_cons_succ]
    have K2 := Lib.hid hK2
    clear hK2 hb1
    refine wpAnyH_ready (rs := [10]) (by kernel_rfl) (by simp) ?_
    refine AllReadyH.cons rfl (fun K hK => ?_) AllReadyH.nil
    go_simp
    refine (CB.out _).mono ?_
    rintro e wc ⟨rfl, hb3⟩
    (try go_wp2_with fail)
    refine hK.out _ _ ((K2.out.step hb3).get (GK.out _)) (fun hHeld => ?_)
    clear hK K
    try simp only [List.getElem_toArray, List.getElem_cons_zero, List.getElem_cons_succ, Act.put, List.setIfInBounds_toArray, List.set_cons_zero, List.set_cons_succ]
    have K3 := Lib.hid (K2.out.step hb3)
    clear hb3
    refine wpAnyH_ready (rs := [11]) (by kernel_rfl) (by simp) ?_
    refine AllReadyH.cons rfl (fun K hK => ?_) AllReadyH.nil
    go_simp
    refine (writeR_o K3.out j (GJ.out _) hops s.a (stB s.odd s.y) (by have := stB_le s.odd s.y; omega)).mono ?_
    rintro e wd ⟨rfl, y1, y2, y3, hK4⟩
    (try go_wp2_with fail)
    refine hK.out _ _ (hK4.get (GKK.out _ _)) (fun hHeld => ?_)
    clear hK K
    try simp only [List.getElem_toArray, List.getElem_cons_zero, List.getElem_cons_succ, Act.put, List.setIfInBounds_toArray, List.set_cons_zero, List.set_cons_succ]
    have K4 := Lib.hid hK4
    clear hK4
    refine wpAnyH_take (i := 12) (v := ?vv12_1) rfl (by kernel_rfl) (by kernel_rfl) (by kernel_rfl) (fun _ _ _ h => h) (Or.inl ⟨by rfl, ?hy12_1⟩) (by assumption) ?rest12_1
    case hy12_1 => (intro w' hSw; (try dsimp only at hSw); go_simp; try with_reducible rfl)
    try simp only [List.getElem_toArray, List.getElem_cons_zero, List.getElem_cons_succ, Act.put, List.setIfInBounds_toArray, List.set_cons_zero, List.set_cons_succ]
    refine wpAnyH_take (i := 13) (v := ?vv13_1) rfl (by kernel_rfl) (by kernel_rfl) (by kernel_rfl) (fun _ _ _ h => h) (Or.inl ⟨by rfl, ?hy13_1⟩) (by assumption) ?rest13_1
    case hy13_1 => (intro w' hSw; (try dsimp only at hSw); go_simp; try with_reducible rfl)
    try simp only [List.getElem_toArray, List.getElem_cons_zero, List.getElem_cons_succ, Act.put, List.setIfInBounds_toArray, List.set_cons_zero, List.set_cons_succ]
    refine wpAnyH_done (by kernel_rfl) ?_ _
    go_wp2_with fail
    go_ret
    exact ⟨rfl, y1, y2, y3, by rw [HR.out]; exact HEND.out _ _ _ K4.out⟩
  · have e0 : ((s.wh.toNat : Int) == 0) = false := u8_ne (y := 0) h0
    by_cases h1 : s.wh = 1
    · have e1 : (s.wh.toNat : Int) = 1 := by rw [h1]; rfl
      rw [e1] at c0 e0
      have HR := Lib.hid ((HST.out.trans (if_neg h0)).trans (if_pos h1))
      clear e1 h0 h1
      go_wp2_with (first
        | (go_at_call 13; refine (sync_o H1.out i HI.out hops).mono ?_; rintro e wa ⟨rfl, h2⟩; have H2 := Lib.hid h2; clear h2)
        | (go_at_call 40; refine (syncR_o H2.out j (GJ.out _) hops).mono ?_; rintro e wb ⟨rfl, y1, y2, y3, h3⟩; have H3 := Lib.hid h3; clear h3))
      go_ret
      exact ⟨rfl, y1, y2, y3, by rw [HR.out]; exact HEND.out _ _ _ H3.out⟩
    · have e1 : ((s.wh.toNat : Int) == 1) = false := u8_ne (y := 1) h1
      by_cases h2 : s.wh = 2
      · have e2 : (s.wh.toNat : Int) = 2 := by rw [h2]; rfl
        rw [e2] at c0 e0 e1
        have HR := Lib.hid (((HST.out.trans (if_neg h0)).trans (if_neg h1)).trans (if_pos h2))
        clear e2 h0 h1 h2
        go_wp2_with (first
          | (go_at_call 8; refine (fail_o H1.out i HI.out HS.out.a).mono ?_; rintro e wa ⟨rfl, h2⟩; have H2 := Lib.hid h2; have c1b : wa.cell? ⟨g, 1, none⟩ = some (.int .i64 s.a) := cellAt (h2.get (GK.out _)) 1; clear h2)
          | (go_at_call 41; refine (failR_o H2.out j (GJ.out _) HS.out.a).mono ?_; rintro e wb ⟨rfl, y1, y2, y3, h3⟩; have H3 := Lib.hid h3; clear h3))
        go_ret
        exact ⟨rfl, y1, y2, y3, by rw [HR.out]; exact HEND.out _ _ _ H3.out⟩
      · have e2 : ((s.wh.toNat : Int) == 2) = false := u8_ne (y := 2) h2
        by_cases h3 : s.wh = 3
        · have e3 : (s.wh.toNat : Int) = 3 := by rw [h3]; rfl
          rw [e3] at c0 e0 e1 e2
          have HR := Lib.hid ((((HST.out.trans (if_neg h0)).trans (if_neg h1)).trans (if_neg h2)).trans (if_pos h3))
          have c4b : (w1.alloc (.cells #[] 3)).cell? ⟨g, 4, none⟩ = some (.slice s.kA s.keep.length s.kc) := (World.cell?_of_block (w := w1) (Lib.alloc_old w1 _ g (lt_of_blk HG.out))).trans c4
          clear e3 h0 h1 h2 h3
          go_wp2_with (at_builtin; obtain ⟨A1, C1, wa, hra, hia, hba, hga⟩ := run_keep w1 (c := s.kc) HS.out.ir hkl; refine wpList_builtin2_run _ rfl .append Builtin.append_ _ _ _ _ rfl (fun _ _ _ => rfl) _ _ rfl rfl hra ?_; have HIA := Lib.hid hia; have HBA := Lib.hid hba; have HGA := Lib.hid hga; clear hra hia hba hga)
          have hO2 := H1.out.add (irOb A1 s.keep) HIA.out (irOb_stays _ _) HBA.out (fun b hb => by cases hA : A1 with | none => rw [hA] at hb; simp [irOb] at hb | some a => rw [hA] at hb; simp [irOb] at hb; subst hb; exact HGA.out a hA)
          have HBX := Lib.hid ((HBA.out.block g (lt_of_blk HG.out)).trans HG.out)
          have q1 : (OS ++ [irOb A1 s.keep])[i]? = some (pdOb p bl bd S) := by rw [List.getElem?_append_left HIL.out.1]; exact HI.out
          have q2 : (OS ++ [irOb A1 s.keep])[j]? = some (rdOb q g1 g2 g3 S) := by rw [List.getElem?_append_left HIL.out.2.1]; exact HJ.out
          have q3 : (OS ++ [irOb A1 s.keep])[kk]? = some (bxOb g s) := by rw [List.getElem?_append_left HIL.out.2.2]; exact HK.out
          have q4 : (OS ++ [irOb A1 s.keep])[OS.length]? = some (irOb A1 s.keep) := by simp
          have HEND2 := Lib.hid (fun W A B (hh : Obs w0 W (((OS ++ [irOb A1 s.keep]).set i A).set j B)) => HEND.out _ _ _ (hh.tail HIL.out.1 HIL.out.2.1))
          have r1 := Lib.hid (show i ≠ OS.length from Nat.ne_of_lt HIL.out.1)
          have r2 := Lib.hid (show j ≠ OS.length from Nat.ne_of_lt HIL.out.2.1)
          generalize OS ++ [irOb A1 s.keep] = OT at hO2 q1 q2 q3 q4 HEND2
          generalize OS.length = ki at q4 r1 r2
          have J1 := Lib.hid hO2
          have Q1 := Lib.hid q1
          have Q2 := Lib.hid (show ∀ A : Ob, (OT.set i A)[j]? = some (rdOb q g1 g2 g3 S) from fun A => by rw [List.getElem?_set_ne HIJ.out]; exact q2)
          have Q3 := Lib.hid (show ∀ A : Ob, (OT.set i A)[kk]? = some (bxOb g s) from fun A => by rw [List.getElem?_set_ne HIK.out]; exact q3)
          have Q3b := Lib.hid (show ∀ A B : Ob, ((OT.set i A).set j B)[kk]? = some (bxOb g s) from fun A B => by rw [List.getElem?_set_ne HJK.out, List.getElem?_set_ne HIK.out]; exact q3)
          have Q4 := Lib.hid (show ∀ A B : Ob, ((OT.set i A).set j B)[ki]? = some (irOb A1 s.keep) from fun A B => by rw [List.getElem?_set_ne r2.out, List.getElem?_set_ne r1.out]; exact q4)
          have Q5 := Lib.hid q4
          have HNB := Lib.hid (show ∀ a, A1 = some a → s.keep ≠ [] → a.block ∉ [p, bl, bd] from fun a ha _ hm => by have h1 := (HGA.out a ha).1; have h2 := ((H1.out.this i _ HI.out).2.1 _ hm).2; omega)
          have HNR := Lib.hid (show ∀ x, s.kA = some x → s.keep ≠ [] → x.block ∉ [q, g1, g2, g3] from fun x hx hn hm => by have h1 := HKB.out x hx hn; have h2 := ((H1.out.this j _ HJ.out).2.1 _ hm).1; omega)
          have HIR := Lib.hid (show ∀ W os, Obs w0 W os → IR W s.kA s.keep from fun W os hh => HIR0.out.kp (Kp.of_below hh.bel []) (by simp))
          clear hO2 q1 q2 q3 r1 r2
          go_wp2_with fail
          refine wp_region_held_drew (S := fun W => W.heap[g]? = some (.cells (stC s) 48 (0, 0))) (by kernel_rfl) (HBX.out) (fun hHeld => ?_)
          refine wpAnyH_take (i := 0) (v := ?vv0_2) rfl (by kernel_rfl) (by kernel_rfl) (by kernel_rfl) (fun _ _ _ h => h) (Or.inl ⟨by rfl, ?hy0_2⟩) (by assumption) ?rest0_2
          case hy0_2 => (intro w' hSw; (try dsimp only at hSw); go_simp; try with_reducible rfl)
          try simp only [List.getElem_toArray, List.getElem_cons_zero, List.getElem_cons_succ, Act.put, List.setIfInBounds_toArray, List.set_cons_zero, List.set_cons_succ]
          refine wpAnyH_take (i := 1) (v := ?vv1_2) rfl (by kernel_rfl) (by kernel_rfl) (by kernel_rfl) (fun _ _ _ h => h) (Or.inl ⟨by rfl, ?hy1_2⟩) (by assumption) ?rest1_2
          case hy1_2 => (intro w' hSw; (try dsimp only at hSw); go_simp; try with_reducible rfl)
          try simp only [List.getElem_toArray, List.getElem_cons_zero, List.getElem_cons_succ, Act.put, List.setIfInBounds_toArray, List.set_cons_zero, List.set_cons_succ]
          refine wpAnyH_take (i := 3) (v := ?vv3_2) rfl (by kernel_rfl) (by kernel_rfl) (by kernel_rfl) (fun _ _ _ h => h) (Or.inl ⟨by rfl, ?hy3_2⟩) (by assumption) ?rest3_2
          case hy3_2 => (intro w' hSw; (try dsimp only at hSw); go_simp; try with_reducible rfl)
          try simp only [List.getElem_toArray, List.getElem_cons_zero, List.getElem_cons_succ, Act.put, List.setIfInBounds_toArray, List.set_cons_zero, List.set_cons_succ]
          refine wpAnyH_take (i := 4) (v := ?vv4_2) rfl (by kernel_rfl) (by kernel_rfl) (by kernel_rfl) (fun _ _ _ h => h) (Or.inl ⟨by rfl, ?hy4_2⟩) (by assumption) ?rest4_2
          case hy4_2 => (intro w' hSw; (try dsimp only at hSw); go_simp; try with_reducible rfl)
          try simp only [List.getElem_toArray, List.getElem_cons_zero, List.getElem_cons_succ, Act.put, List.setIfInBounds_toArray, List.set_cons_zero, List.set_cons_succ]
          refine wpAnyH_take (i := 5) (v := .slice s.kA s.keep.length s.kc) rfl (by kernel_rfl) (by kernel_rfl) (by kernel_rfl) (fun _ _ _ h => h) (Or.inl ⟨by rfl, fun w' hSw => exec_load1 w' rfl rfl (cellAt hSw 4) Try.underlying33 rfl⟩) (by assumption) ?_
          try simp only [List.getElem_toArray, List.getElem_cons_zero, List.getElem_cons_succ, Act.put, List.setIfInBounds_toArray, List.set_cons_zero, List.set_cons_succ]
          refine wpAnyH_ready (rs := [2]) (by kernel_rfl) (by simp) ?_
          refine AllReadyH.cons rfl (fun K hK => ?_) AllReadyH.nil
          go_simp
          refine (boot_o J1.out.drew i Q1.out (J1.out.drew.get Q5.out) HNB.out hkl).mono ?_
          rintro e wb ⟨rfl, hJ2⟩
          (try go_wp2_with fail)
          refine hK.out _ _ (hJ2.get (Q3.out _)) (fun hHeld => ?_)
          clear hK K
          try simp only [List.getElem_toArray, List.getElem_cons_zero, List.getElem_cons_succ, Act.put, List.setIfInBounds_toArray, List.set_cons_zero, List.set_cons_succ]
          have J2 := Lib.hid hJ2
          clear hJ2
          refine wpAnyH_ready (rs := [6]) (by kernel_rfl) (by simp) ?_
          refine AllReadyH.cons rfl (fun K hK => ?_) AllReadyH.nil
          go_simp
          refine (bootR_o J2.out j (Q2.out _) (HIR.out _ _ J2.out) HNR.out hkl).mono ?_
          rintro e wc ⟨rfl, y1, y2, y3, hJ3⟩
          (try go_wp2_with fail)
          refine hK.out _ _ (hJ3.get (Q3b.out _ _)) (fun hHeld => ?_)
          clear hK K
          try simp only [List.getElem_toArray, List.getElem_cons_zero, List.getElem_cons_succ, Act.put, List.setIfInBounds_toArray, List.set_cons_zero, List.set_cons_succ]
          have J3 := Lib.hid hJ3
          clear hJ3
          refine wpAnyH_take (i := 7) (v := ?vv7_2) rfl (by kernel_rfl) (by kernel_rfl) (by kernel_rfl) (fun _ _ _ h => h) (Or.inl ⟨by rfl, ?hy7_2⟩) (by assumption) ?rest7_2
          case hy7_2 => (intro w' hSw; (try dsimp only at hSw); go_simp; try with_reducible rfl)
          try simp only [List.getElem_toArray, List.getElem_cons_zero, List.getElem_cons_succ, Act.put, List.setIfInBounds_toArray, List.set_cons_zero, List.set_cons_succ]
          refine wpAnyH_take (i := 8) (v := ?vv8_2) rfl (by kernel_rfl) (by kernel_rfl) (by kernel_rfl) (fun _ _ _ h => h) (Or.inl ⟨by rfl, ?hy8_2⟩) (by assumption) ?rest8_2
          case hy8_2 => (intro w' hSw; (try dsimp only at hSw); go_simp; try with_reducible rfl)
          try simp only [List.getElem_toArray, List.getElem_cons_zero, List.getElem_cons_succ, Act.put, List.setIfInBounds_toArray, List.set_cons_zero, List.set_cons_succ]
          refine wpAnyH_take (i := 9) (v := ?vv9_2) rfl (by kernel_rfl) (by kernel_rfl) (by kernel_rfl) (fun _ _ _ h => h) (Or.inl ⟨by rfl, ?hy9_2⟩) (by assumption) ?rest9_2
          case hy9_2 => (intro w' hSw; (try dsimp only at hSw); go_simp; try with_reducible rfl)
          try simp only [List.getElem_toArray, List.getElem_cons_zero, List.getElem_cons_succ, Act.put, List.setIfInBounds_toArray, List.set_cons_zero, List.set_cons_succ]
          refine wpAnyH_take (i := 10) (v := ?vv10_2) rfl (by kernel_rfl) (by kernel_rfl) (by kernel_rfl) (fun _ _ _ h => h) (Or.inl ⟨by rfl, ?hy10_2⟩) (by assumption) ?rest10_2
          case hy10_2 => (intro w' hSw; (try dsimp only at hSw); go_simp; try with_reducible rfl)
          try simp only [List.getElem_toArray, List.getElem_cons_zero, List.getElem_cons_succ, Act.put, List.setIfInBounds_toArray, List.set_cons_zero, List.set_cons_succ]
          refine wpAnyH_take (i := 11) (v := .slice s.kA s.keep.length s.kc) rfl (by kernel_rfl) (by kernel_rfl) (by kernel_rfl) (fun _ _ _ h => h) (Or.inl ⟨by rfl, fun w' hSw => exec_load1 w' rfl rfl (cellAt hSw 4) Try.underlying33 rfl⟩) (by assumption) ?_
          try simp only [List.getElem_toArray, List.getElem_cons_zero, List.getElem_cons_succ, Act.put, List.setIfInBounds_toArray, List.set_cons_zero, List.set_cons_succ]
          refine wpAnyH_ready (rs := [12]) (by kernel_rfl) (by simp) ?_
          refine AllReadyH.cons rfl (fun K hK => ?_) AllReadyH.nil
          go_simp
          refine (ints_any (c := C1) (d := s.kc) (J3.out.get (Q4.out _ _)) (HIR.out _ _ J3.out) hkl (by omega)).mono ?_
          rintro e wd ⟨he, hb⟩
          simp at he
          subst he
          (try go_wp2_with fail)
          refine hK.out _ _ ((J3.out.step hb).get (Q3b.out _ _)) (fun hHeld => ?_)
          clear hK K
          try simp only [List.getElem_toArray, List.getElem_cons_zero, List.getElem_cons_succ, Act.put, List.setIfInBounds_toArray, List.set_cons_zero, List.set_cons_succ]
          have J4 := Lib.hid (J3.out.step hb)
          clear hb
          refine wpAnyH_take (i := 13) (v := ?vv13_2) rfl (by kernel_rfl) (by kernel_rfl) (by kernel_rfl) (fun _ _ _ h => h) (Or.inl ⟨by rfl, ?hy13_2⟩) (by assumption) ?rest13_2
          case hy13_2 => (intro w' hSw; (try dsimp only at hSw); go_simp; try with_reducible rfl)
          try simp only [List.getElem_toArray, List.getElem_cons_zero, List.getElem_cons_succ, Act.put, List.setIfInBounds_toArray, List.set_cons_zero, List.set_cons_succ]
          refine wpAnyH_take (i := 14) (v := ?vv14_2) rfl (by kernel_rfl) (by kernel_rfl) (by kernel_rfl) (fun _ _ _ h => h) (Or.inl ⟨by rfl, ?hy14_2⟩) (by assumption) ?rest14_2
          case hy14_2 => (intro w' hSw; (try dsimp only at hSw); go_simp; try with_reducible rfl)
          try simp only [List.getElem_toArray, List.getElem_cons_zero, List.getElem_cons_succ, Act.put, List.setIfInBounds_toArray, List.set_cons_zero, List.set_cons_succ]
          refine wpAnyH_done (by kernel_rfl) ?_ _
          go_wp2_with fail
          go_ret
          exact ⟨rfl, y1, y2, y3, by rw [HR.out]; exact HEND2.out _ _ _ J4.out⟩
        · have e3 : ((s.wh.toNat : Int) == 3) = false := u8_ne (y := 3) h3
          have HR := Lib.hid ((((HST.out.trans (if_neg h0)).trans (if_neg h1)).trans (if_neg h2)).trans (if_neg h3))
          clear h0 h1 h2 h3
          have CR1 := Lib.hid (read_o H1.out i HI.out s.a)
          have CR2 := Lib.hid (fun W (hh : Obs w0 W OS) => readR_o hh j HJ.out s.a)
          generalize (s.wh.toNat : Int) = x at c0 e0 e1 e2 e3
          generalize S.rdV s.a = rv at CR1 CR2
          generalize S.rdE s.a = re at CR1 CR2
          go_wp2_with (first
            | (go_at_call 9; refine CR1.out.mono ?_; rintro e wa ⟨rfl, h2⟩; have H2 := Lib.hid h2; have c1b : wa.cell? ⟨g, 1, none⟩ = some (.int .i64 s.a) := cellAt (h2.get HK.out) 1; clear h2)
            | (go_at_call 43; refine (CR2.out _ H2.out).mono ?_; rintro e wb ⟨rfl, h3⟩; have H3 := Lib.hid h3; clear h3))
          go_ret
          exact ⟨rfl, g1, g2, g3, by rw [HR.out]; exact HSAME.out _ H3.out⟩
end Go.Proofs.Ytechpecnanodfaa

