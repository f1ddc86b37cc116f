/-
  FrameRecords: the walk.
-/
import Derived.Deep.CutRange
import Derived.Test.YteplndmgfaceiaaDoorFLaw
import Derived.Test.YteplndmgfaceiaaDoorFApp
import Derived.Test.YteplndmgfaceiaaDoorFRSplit
import Derived.Test.YteplndmgfaceiaaDoorFRJoin
namespace Go.Proofs.YteplndmgfaceiaaDoor
set_option linter.unusedSimpArgs false
set_option linter.unusedVariables false
open Go Go.RowKit
set_option maxRecDepth 100000

theorem row_lens' (a p : Nat) (t : List UInt8) (n : Nat) : ∀ y ∈ rowL a p t n, y.length ≤ 9223372036854775807 := by
  intro y hy
  rw [rowL, List.mem_map] at hy
  obtain ⟨i, _, rfl⟩ := hy
  rw [secL, frL_length (chL_length _ _)]
  omega
theorem splL_lens (a p : Int) (s : List UInt8) : ∀ y ∈ splL a p s, y.length ≤ 9223372036854775807 := by
  intro y hy
  unfold splL at hy
  split at hy
  · exact row_lens' _ _ _ _ y hy
  · simp at hy
theorem splL_len (a p : Int) (s : List UInt8) : (splL a p s).length ≤ 1024 := by
  unfold splL
  split
  · rename_i h
    rw [rowL_length]
    have h1 := splE_ok.1 h
    have h2 := mayB_iff.1 h1.1
    omega
  · simp
/-- A row of texts, for the loop over three of them. -/
structure R3 where
  A : Option Addr
  c : Nat
  xs : List (List UInt8)
def R3.v (r : R3) : Value := .slice r.A r.xs.length r.c
def R3.ok (W : World) (r : R3) : Prop := Tx W r.A r.xs ∧ r.xs.length ≤ 2000 ∧ ∀ y ∈ r.xs, y.length ≤ 9223372036854775807

theorem R3.below' {W W' : World} {r : R3} (h : r.ok W) (hb : Below W.heap.size W W') : r.ok W' := ⟨h.1.below hb, h.2.1, h.2.2⟩
set_option maxHeartbeats 8000000 in
theorem frameRecords_walk {w : World} (a p : Int) (s : List UInt8) (z : Int) (A : Option Addr) (c : Nat) (xs : List (List UInt8)) (wa : (Lit.int .i64 a).wf = true) (wp : (Lit.int .i64 p).wf = true)
    (hs : s.length ≤ 140737488351232) (wz : (Lit.int .i64 z).wf = true) (hS : SR w (.slice A xs.length c) xs) (hn : xs.length ≤ 140737488351232) (hx : ∀ x ∈ xs, x.length ≤ 9223372036854775807) (hM : ML w) :
    Calls Tryd.prog 4 #[.int .i64 a, .int .i64 p, sv s, .int .i64 z, .slice A xs.length c] w fun e w' => e = .returned (.bool true) ∧ Below w.heap.size w w' := by
  obtain ⟨p0, p1⟩ := wf_bounds wp
  obtain ⟨z0, z1⟩ := wf_bounds wz
  have HT := Lib.hid hS.tx
  have AW := fun W => awake_any W
  clear wa wp wz hS
  by_cases h1 : (5000 : Int) < (s.length : Int)
  · clear hx
    go_enter Tryd.func4, Tryd.ntmps4
    go_wp2_with (go_at_call 9; with_reducible refine (AW _).mono ?_; rintro e w1 ⟨rfl, hb1⟩)
    go_ret
    exact ⟨rfl, hb1⟩
  · by_cases h2 : (60 : Int) < (xs.length : Int)
    · clear hx
      go_enter Tryd.func4, Tryd.ntmps4
      go_wp2_with (go_at_call 9; with_reducible refine (AW _).mono ?_; rintro e w1 ⟨rfl, hb1⟩)
      go_ret
      exact ⟨rfl, hb1⟩
    · have hl60 : xs.length ≤ 60 := by omega
      have HX := Lib.hid hx
      have HLL := Lib.hid (splL_lens a p s)
      have hL1 := splL_len a p s
      obtain ⟨E, hE⟩ : ∃ e, e = splE a p s.length := ⟨_, rfl⟩
      obtain ⟨L, hL⟩ : ∃ l, l = splL a p s := ⟨_, rfl⟩
      have SP : ∀ W, Calls Tryd.prog 16 #[.int .i64 a, .int .i64 p, sv s] W fun e w' => ∃ A c, e = .returned (.tuple #[.slice A L.length c, .int .i64 E]) ∧ Tx w' A L ∧ Below W.heap.size W w' := fun W => by
        have := @split_any W a p s (by omega)
        unfold SpPost at this
        rw [← hE, ← hL] at this
        exact this.mono fun e w' ⟨A, c, q1, q2, _, _, q3⟩ => ⟨A, c, q1, q2, q3⟩
      have RP : ∀ W, Calls Tryd.prog 17 #[.int .i64 a, .int .i64 p, sv s] W fun e w' => ∃ A c, e = .returned (.tuple #[.slice A L.length c, .int .i64 E]) ∧ Tx w' A L ∧ Below W.heap.size W w' := fun W => by
        have := @rsplit_any W a p s (by omega)
        unfold RSpPost at this
        rw [← hE, ← hL] at this
        exact this.mono fun e w' ⟨A, c, q1, q2, _, q3⟩ => ⟨A, c, q1, q2, q3⟩
      rw [← hL] at HLL hL1
      have SA : ∀ W A B c d, Tx W A L → Tx W B L → Calls Tryd.prog 18 #[.slice A L.length c, .slice B L.length d] W fun e w' => e = .returned (.bool true) ∧ Below W.heap.size W w' := fun W A B c d h1 h2 => by
        have := same_any (w := W) L L A B c d h1 h2 (by omega) (by omega)
        rw [show (L == L) = true by simp] at this
        exact this
      have SX : ∀ W A B c d, Tx W A xs → Tx W B xs → Calls Tryd.prog 18 #[.slice A xs.length c, .slice B xs.length d] W fun e w' => e = .returned (.bool true) ∧ Below W.heap.size W w' := fun W A B c d h1 h2 => by
        have := same_any (w := W) xs xs A B c d h1 h2 (by omega) (by omega)
        rw [show (xs == xs) = true by simp] at this
        exact this
      have M1 := fun W => @many_top W z z0 z1
      have M2 := fun W => @rmany_any W z z0 z1
      generalize manyI z = mz at M1 M2
      clear hE hL hx
      go_enter Tryd.func4, Tryd.ntmps4
      have HB0 := Lib.hid (Below.refl w.heap.size w)
      go_wp2_with fail
      go_loopw [11] (fun i wr => ∃ k : Nat, k ≤ xs.length ∧ i = .int .i64 k ∧ Below w.heap.size w wr) (fun i _ => xs.length - (intOf i).toNat)
      case atStart => exact ⟨0, by omega, rfl, HB0.out⟩
      case round =>
        obtain ⟨k, hk, rfl, hbl⟩ := hrel
        have HBL := Lib.hid hbl
        clear hbl
        by_cases hlt : k < xs.length
        · have hlt' : (k : Int) < (xs.length : Int) := by omega
          obtain ⟨b, o, rfl, c1⟩ := (HT.out.below HBL.out).cell hlt
          obtain ⟨y, hy⟩ : ∃ y, y = xs.getD k [] := ⟨_, rfl⟩
          rw [← hy] at c1
          clear hy SA SX SP RP
          by_cases hyl : (300 : Int) < (y.length : Int)
          · go_wp2_with (go_at_call 9; with_reducible refine (AW _).mono ?_; rintro e w1 ⟨rfl, hb1⟩)
            go_ret
            exact ⟨rfl, HBL.out.trans (hb1.mono HBL.out.size)⟩
          · go_wp2_with fail
            go_roundw
            case rel => exact ⟨k + 1, by omega, by go_num, HBL.out⟩
            case measure => simp [intOf]; omega
        · obtain rfl : k = xs.length := by omega
          have HTR := Lib.hid (HT.out.below HBL.out)
          clear hlt hk
          go_upto_region 12 with (first
            | (go_at_call 16; with_reducible refine (SP _).mono ?_; rintro e w3 ⟨B, d, rfl, ht3, hb3⟩; have HT3 := Lib.hid ht3; clear ht3)
            | (go_at_call 17; with_reducible refine (RP _).mono ?_; rintro e w4 ⟨B4, d4, rfl, ht4, hb4⟩; have HT4 := Lib.hid ht4; clear ht4)
            | (go_at_call 18; with_reducible refine (SA _ _ _ _ _ (HT3.out.below hb4) HT4.out).mono ?_; rintro e w5 ⟨rfl, hb5⟩)
            | (go_at_call 19; with_reducible refine (M1 _).mono ?_; rintro e w6 ⟨rfl, rfl⟩)
            | (go_at_call 20; with_reducible refine (M2 _).mono ?_; rintro e w7 ⟨rfl, rfl⟩))
          have q4 := hb3.trans (hb4.mono hb3.size)
          have q5 := q4.trans (hb5.mono q4.size)
          have HXW := Lib.hid (HTR.out.below q5)
          have HLW := Lib.hid (HT4.out.below hb5)
          have HBW := Lib.hid (HBL.out.trans (q5.mono HBL.out.size))
          clear q4 q5 hb3 hb4 hb5 SP RP SA M1 M2
          go_wp2_with (first
            | (at_builtin; obtain ⟨v6, w6, hr_v6, HR_v6⟩ := Ro.app (Ro.lit w5) (HXW.out.below (below_alloc w5 (.cells #[] 9))) c (by show 0 + xs.length ≤ 1000000; omega); refine wpList_builtin2_run _ rfl .append Builtin.append_ _ _ _ _ rfl (fun _ _ _ => rfl) (.slice (some ⟨w5.heap.size, 0, none⟩) 0 0) (.slice A xs.length c) rfl rfl hr_v6 ?_; clear hr_v6; rw [List.nil_append] at HR_v6; have HX6 := Lib.hid (HXW.out.below HR_v6.2); have HL6 := Lib.hid (HLW.out.below HR_v6.2); have HB6 := Lib.hid (HBW.out.trans (HR_v6.2.mono HBW.out.size)); obtain ⟨A6, c6, rfl, hT6, _, _, _⟩ := HR_v6.form; have HT6 := Lib.hid hT6; clear hT6 HR_v6)
            | (at_builtin; obtain ⟨v7, w7, hr_v7, HR_v7⟩ := Ro.app (Ro.lit w6) (HL6.out.below (below_alloc w6 (.cells #[] 9))) d4 (by show 0 + L.length ≤ 1000000; omega); refine wpList_builtin2_run _ rfl .append Builtin.append_ _ _ _ _ rfl (fun _ _ _ => rfl) (.slice (some ⟨w6.heap.size, 0, none⟩) 0 0) (.slice B4 L.length d4) rfl rfl hr_v7 ?_; clear hr_v7; rw [List.nil_append] at HR_v7; have HX7 := Lib.hid (HX6.out.below HR_v7.2))
            | (at_builtin; obtain ⟨v8, w8, hr_v8, HR_v8⟩ := Ro.app HR_v7 HX7.out c (by omega); refine wpList_builtin2_run _ rfl .append Builtin.append_ _ _ _ _ rfl (fun _ _ _ => rfl) v7 (.slice A xs.length c) rfl rfl hr_v8 ?_; clear hr_v8; have HX8 := Lib.hid (HX6.out.below HR_v8.2); have HL8 := Lib.hid (HL6.out.below HR_v8.2); have HT8 := Lib.hid (HT6.out.below HR_v8.2); have HB8 := Lib.hid (HB6.out.trans (HR_v8.2.mono HB6.out.size)); obtain ⟨A8, c8, rfl, hU8, _, _, _⟩ := HR_v8.form; have HU8 := Lib.hid hU8; clear hU8 HR_v8)
            | (at_builtin; obtain ⟨v9, w9, hr_v9, HR_v9⟩ := Ro.app (Ro.lit w8) (HX8.out.below (below_alloc w8 (.cells #[] 9))) c (by show 0 + xs.length ≤ 1000000; omega); refine wpList_builtin2_run _ rfl .append Builtin.append_ _ _ _ _ rfl (fun _ _ _ => rfl) (.slice (some ⟨w8.heap.size, 0, none⟩) 0 0) (.slice A xs.length c) rfl rfl hr_v9 ?_; clear hr_v9; rw [List.nil_append] at HR_v9; have HL9 := Lib.hid (HL8.out.below HR_v9.2))
            | (at_builtin; obtain ⟨v10, w10, hr_v10, HR_v10⟩ := Ro.app HR_v9 HL9.out d4 (by omega); refine wpList_builtin2_run _ rfl .append Builtin.append_ _ _ _ _ rfl (fun _ _ _ => rfl) v9 (.slice B4 L.length d4) rfl rfl hr_v10 ?_; clear hr_v10; have HX10 := Lib.hid (HX8.out.below HR_v10.2); have HT10 := Lib.hid (HT8.out.below HR_v10.2); have HU10 := Lib.hid (HU8.out.below HR_v10.2); have HB10 := Lib.hid (HB8.out.trans (HR_v10.2.mono HB8.out.size)); obtain ⟨A10, c10, rfl, hV10, _, _, _⟩ := HR_v10.form; have HV10 := Lib.hid hV10; clear hV10 HR_v10))
          have r1 : R3.ok w10 ⟨A6, c6, xs⟩ := ⟨HT10.out, by show xs.length ≤ 2000; omega, HX.out⟩
          have r2 : R3.ok w10 ⟨A8, c8, L ++ xs⟩ := ⟨HU10.out, by show (L ++ xs).length ≤ 2000; rw [List.length_append]; omega, fun y hy => by
            rcases List.mem_append.1 hy with h | h
            · exact HLL.out y h
            · exact HX.out y h⟩
          have r3 : R3.ok w10 ⟨A10, c10, xs ++ L⟩ := ⟨HV10.out, by show (xs ++ L).length ≤ 2000; rw [List.length_append]; omega, fun y hy => by
            rcases List.mem_append.1 hy with h | h
            · exact HX.out y h
            · exact HLL.out y h⟩
          have e1 : R3.v ⟨A6, c6, xs⟩ = .slice A6 xs.length c6 := rfl
          have e2 : R3.v ⟨A8, c8, L ++ xs⟩ = .slice A8 (L.length + xs.length) c8 := by unfold R3.v; rw [List.length_append]
          have e3 : R3.v ⟨A10, c10, xs ++ L⟩ = .slice A10 (xs.length + L.length) c10 := by unfold R3.v; rw [List.length_append]
          have g0 : (w10.alloc (.cells #[.slice A6 xs.length c6, .slice A8 (L.length + xs.length) c8, .slice A10 (xs.length + L.length) c10] 26)).heap[w10.heap.size]? = some (.cells #[R3.v ⟨A6, c6, xs⟩, R3.v ⟨A8, c8, L ++ xs⟩, R3.v ⟨A10, c10, xs ++ L⟩] 26 (0, 0)) := by
            rw [e1, e2, e3]
            exact heap_alloc_new w10 _
          have gb := below_alloc w10 (.cells #[.slice A6 xs.length c6, .slice A8 (L.length + xs.length) c8, .slice A10 (xs.length + L.length) c10] 26)
          obtain ⟨r1', hr1⟩ : ∃ r, r = (⟨A6, c6, xs⟩ : R3) := ⟨_, rfl⟩
          obtain ⟨r2', hr2⟩ : ∃ r, r = (⟨A8, c8, L ++ xs⟩ : R3) := ⟨_, rfl⟩
          obtain ⟨r3', hr3⟩ : ∃ r, r = (⟨A10, c10, xs ++ L⟩ : R3) := ⟨_, rfl⟩
          rw [← hr1] at r1
          rw [← hr2] at r2
          rw [← hr3] at r3
          rw [← hr1, ← hr2, ← hr3] at g0
          have HG := Lib.hid g0
          have HS3 := Lib.hid (And.intro (R3.below' r1 gb) (And.intro (R3.below' r2 gb) (And.intro (R3.below' r3 gb) (HB10.out.trans (gb.mono HB10.out.size)))))
          have HT11 := Lib.hid (HT10.out.below gb)
          have HX11 := Lib.hid (HX10.out.below gb)
          clear g0 gb r1 r2 r3 e1 e2 e3 hr1 hr2 hr3
          generalize w10.alloc (.cells #[.slice A6 xs.length c6, .slice A8 (L.length + xs.length) c8, .slice A10 (xs.length + L.length) c10] 26) = w11 at HG HS3 HT11 HX11 ⊢
          obtain ⟨g, hg⟩ : ∃ g, g = w10.heap.size := ⟨_, rfl⟩
          rw [← hg] at HG ⊢
          clear hg
          have J1 : ∀ W (r : R3), r.ok W → Calls Tryd.prog 21 #[r.v, .int .i64 a, .int .i64 p] W fun e w' => e = .returned (.tuple #[sv (joinT r.xs a p), .int .i64 (joinN r.xs a p), .bool (joinB r.xs a p)]) ∧ Below W.heap.size W w' := fun W r h => join_any r.xs r.A r.c a p h.1 h.2.2 (by have := h.2.1; omega) p0 p1
          have J2 : ∀ W (r : R3), r.ok W → Calls Tryd.prog 22 #[r.v, .int .i64 a, .int .i64 p] W fun e w' => e = .returned (.tuple #[sv (joinT r.xs a p), .int .i64 (joinN r.xs a p), .bool (joinB r.xs a p)]) ∧ Below W.heap.size W w' := fun W r h => rjoin_any r.xs r.A r.c a p h.1 h.2.2 (by have := h.2.1; omega) p0 p1
          have HJ1 := Lib.hid J1
          have HJ2 := Lib.hid J2
          clear J1 J2
          go_loopw [93] (fun i wr => ∃ k : Nat, k ≤ 3 ∧ i = .int .i64 k ∧ Below w11.heap.size w11 wr) (fun i _ => 3 - (intOf i).toNat)
          case atStart => exact ⟨0, by omega, rfl, Below.refl _ _⟩
          case round =>
            obtain ⟨k, hk, rfl, hbl⟩ := hrel
            have HBL3 := Lib.hid hbl
            clear hbl
            have hgr := (HBL3.out.block g (lt_of_blk HG.out)).trans HG.out
            by_cases hlt : k < 3
            · have hlt' : (k : Int) < 3 := by omega
              obtain ⟨r, hro, hrc⟩ : ∃ r : R3, r.ok wr ∧ wr.cell? ⟨g, k, none⟩ = some r.v := by
                rw [cellAt hgr]
                obtain ⟨q1, q2, q3, _⟩ := HS3.out
                match k, hlt with
                | 0, _ => exact ⟨r1', R3.below' q1 HBL3.out, rfl⟩
                | 1, _ => exact ⟨r2', R3.below' q2 HBL3.out, rfl⟩
                | 2, _ => exact ⟨r3', R3.below' q3 HBL3.out, rfl⟩
              have K1 := HJ1.out wr r hro
              have K2 := fun W (hb : Below wr.heap.size wr W) => HJ2.out W r (R3.below' hro hb)
              generalize joinT r.xs a p = jT at K1 K2
              generalize joinN r.xs a p = jN at K1 K2
              generalize joinB r.xs a p = jB at K1 K2
              obtain ⟨v, hv⟩ : ∃ v, v = r.v := ⟨_, rfl⟩
              rw [← hv] at K1 K2 hrc
              clear hro hv hgr
              go_wp2_with (first
                | (go_at_call 21; with_reducible refine K1.mono ?_; rintro e w12 ⟨rfl, hb12⟩)
                | (go_at_call 22; with_reducible refine (K2 _ hb12).mono ?_; rintro e w13 ⟨rfl, hb13⟩))
              go_roundw
              case rel => exact ⟨k + 1, by omega, by go_num, HBL3.out.trans ((hb12.trans (hb13.mono hb12.size)).mono HBL3.out.size)⟩
              case measure => simp [intOf]; omega
            · obtain rfl : k = 3 := by omega
              clear hgr
              have hTx := HT11.out.below HBL3.out
              have hXx := HX11.out.below HBL3.out
              go_wp2_with (first
                | (go_at_call 18; with_reducible refine (SX _ _ _ _ _ hTx hXx).mono ?_; rintro e w12 ⟨rfl, hb12⟩)
                | (go_at_call 9; with_reducible refine (AW _).mono ?_; rintro e w13 ⟨rfl, hb13⟩))
              go_ret
              have q := HS3.out.2.2.2
              have q1 := q.trans (HBL3.out.mono q.size)
              have q2 := q1.trans (hb12.mono q1.size)
              exact ⟨rfl, q2.trans (hb13.mono q2.size)⟩
end Go.Proofs.YteplndmgfaceiaaDoor
