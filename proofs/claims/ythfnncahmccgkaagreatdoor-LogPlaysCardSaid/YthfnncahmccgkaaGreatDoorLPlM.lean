/-
  Any step of a room.
  LogPlays.
-/
import Derived.Test.YthfnncahmccgkaaGreatDoorLR8
import Derived.Test.YthfnncahmccgkaaGreatDoorLR9
import Derived.Test.YthfnncahmccgkaaGreatDoorLSteps
import Derived.Test.YthfnncahmccgkaaGreatDoorLWorks
import Derived.Test.YthfnncahmccgkaaGreatDoorLLaw
namespace Go.Proofs.YthfnncahmccgkaaGreatDoor
open Go Go.RowKit Go.Maps
set_option maxRecDepth 100000
set_option linter.unusedSimpArgs false
set_option linter.unusedVariables false

theorem begE_may {S : DS} {half age : Int} {s : List UInt8} (h : begE S half age s = 0) : 0 ≤ half ∧ half < 2 ∧ 1 ≤ age := by
  unfold begE at h
  split at h
  · rename_i hm
    simp only [mayH, decide_eq_true_eq] at hm
    omega
  · cases h
theorem does12_o {w0 w : World} {r n o : Nat} (h : RoomI w0 w r n o) (ho2 : o ≤ 4611686018427370000) {t : S2} (ht : t.Ok w0) (hkl : t.keep.length ≤ 3000) (hsl : t.s.length ≤ 3000) :
    Calls Tryz.prog 24 #[dp r, t.val] w fun e w' => e = .returned (.bool true) ∧ RoomI w0 w' r n (o + 1100) := by
  obtain ⟨p, bl, bd, x, g1, g2, g3, gL, gM, S, a, b, hO, ha, hb, hn, ho⟩ := h
  by_cases h0 : t.wh = 0
  · by_cases a0 : 0 < t.age
    · by_cases a1 : t.age < 1000
      · by_cases hE : begE S (t.half % 2) (((topV S : Nat) : Int) + t.age) t.txt = 0
        · rcases (show t.half % 2 = 0 ∨ t.half % 2 = 1 by omega) with hk | hk
          · exact does_begA0 hO ha hb hn ho ho2 ht hkl hsl h0 a0 a1 hE hk
          · exact does_begA1 hO ha hb hn ho ho2 ht hkl hsl h0 a0 a1 hE hk
        · exact does_begAn hO ha hb hn ho ho2 ht hkl hsl h0 a0 a1 hE
      · by_cases hE : begE S t.half t.age t.txt = 0
        · have hm := begE_may hE
          rcases (show t.half = 0 ∨ t.half = 1 by omega) with hk | hk
          · exact does_begB20 hO ha hb hn ho ho2 ht hkl hsl h0 a0 a1 hE hk
          · exact does_begB21 hO ha hb hn ho ho2 ht hkl hsl h0 a0 a1 hE hk
        · exact does_begBn hO ha hb hn ho ho2 ht hkl hsl h0 a0 a1 hE
    · exact does_begB1 hO ha hb hn ho ho2 ht hkl hsl h0 a0 (fun hE => a0 (by have := begE_may hE; omega))
  · by_cases h1 : t.wh = 1
    · rcases (show t.half % 2 = 0 ∨ t.half % 2 = 1 by omega) with hk | hk
      · exact does_add0 hO ha hb hn ho ho2 ht hkl hsl h1 hk
      · exact does_add1 hO ha hb hn ho ho2 ht hkl hsl h1 hk
    · by_cases h2 : t.wh = 2
      · exact does_sync hO ha hb hn ho ho2 ht hkl hsl h2
      · by_cases h3 : t.wh = 3
        · exact does_fail hO ha hb hn ho ho2 ht hkl hsl h3
        · by_cases h4 : t.wh = 4
          · exact does_boot hO ha hb hn ho ho2 ht hkl hsl h4
          · exact does_copy hO ha hb hn ho ho2 ht hkl hsl ⟨h0, h1, h2, h3, h4⟩
theorem like12_o {w0 w : World} {r n o : Nat} (h : RoomI w0 w r n o) : Calls Tryz.prog 25 #[dp r] w fun e w' => e = .returned (.bool true) ∧ RoomI w0 w' r n o := by
  obtain ⟨p, bl, bd, x, g1, g2, g3, gL, gM, S, a, b, hO, ha, hb, hn, ho⟩ := h
  exact (like_o hO ha hb hn).mono fun e w' hh => ⟨hh.1, p, bl, bd, x, g1, g2, g3, gL, gM, S, a, b, hh.2, ha, hb, hn, ho⟩
end Go.Proofs.YthfnncahmccgkaaGreatDoor

namespace Go.Proofs.YthfnncahmccgkaaGreatDoor
open Go Go.RowKit Go.Maps
set_option maxRecDepth 100000
set_option linter.unusedSimpArgs false
set_option linter.unusedVariables false

theorem make_refs (W : World) : (Instr.makeSlice 56 (.int .i64 2) (.int .i64 2)).run Tryz.prog W = .ok (.slice (some ⟨W.heap.size, 0, none⟩) 2 2) (W.alloc (.cells #[.pointer none, .pointer none] 98)) := by
  obtain ⟨i, hi, hz0, hz1, hz2⟩ := info_parts (show (Tryz.prog.info? 98).map (fun i => (i.zero, i.size, i.bytes)) = some (some (.pointer none), 1, 8) by kernel_rfl)
  have := run_make W _ 98 i _ Tryz.underlying56 hi hz0 .i64 .i64 2 2 (by omega) (by omega) (by rw [hz2]; omega) (by omega)
  have e : madeCells (Value.pointer none).cells (2 * i.size) = #[.pointer none, .pointer none] := by
    rw [hz1]
    apply Array.ext
    · simp [madeCells]
    · intro j h1 h2
      have hc : (Value.pointer none).cells = #[Value.pointer none] := rfl
      have hm : ∀ x : Nat, x % 1 = 0 := fun x => by omega
      have h3 : j = 0 ∨ j = 1 := by simp at h2; omega
      rcases h3 with rfl | rfl <;> simp [madeCells, hc, hm]
  rw [show Int.toNat 2 = 2 from rfl, e] at this
  exact this
theorem room_of {w0 W : World} {p bl bd x g1 g2 g3 r gL gM n o : Nat} {S : DS} (h : Obs w0 W [pdOb p bl bd S, rdOb x g1 g2 g3 S, rmOb r p x gL gM, xOb 22 gL 2 [.pointer none, .pointer none], xOb 98 gM 2 [.pointer none, .pointer none]]) (hn : S.was.length = n) (ho : S.ops ≤ o) : RoomI w0 W r n o :=
  ⟨p, bl, bd, x, g1, g2, g3, gL, gM, S, none, none, (((h.add (olOb p none) trivial (olOb_stays p none) (Below.refl _ _) (fun b hb => by simp [olOb] at hb)).add (olOb p none) trivial (olOb_stays p none) (Below.refl _ _) (fun b hb => by simp [olOb] at hb)).add (orOb x n none) trivial (orOb_stays x n none) (Below.refl _ _) (fun b hb => by simp [orOb] at hb)).add (orOb x n none) trivial (orOb_stays x n none) (Below.refl _ _) (fun b hb => by simp [orOb] at hb), okO_none _, okO_none _, hn, ho⟩
theorem room_ml {w0 W : World} {p bl bd x g1 g2 g3 : Nat} {S : DS} (h : Obs w0 W [pdOb p bl bd S, rdOb x g1 g2 g3 S]) : Obs w0 (W.alloc (.cells #[.pointer none, .pointer none] 22)) [pdOb p bl bd S, rdOb x g1 g2 g3 S, xOb 22 W.heap.size 2 [.pointer none, .pointer none]] :=
  h.addX (XR.lit (heap_alloc_new W _) (by decide)) (below_alloc W _) (Nat.le_refl _)
theorem room_mm {w0 W : World} {os : List Ob} (h : Obs w0 W os) : Obs w0 (W.alloc (.cells #[.pointer none, .pointer none] 98)) (os ++ [xOb 98 W.heap.size 2 [.pointer none, .pointer none]]) :=
  h.addX (XR.lit (heap_alloc_new W _) (by decide)) (below_alloc W _) (Nat.le_refl _)
theorem room_mL {w0 W : World} {os : List Ob} (h : Obs w0 W os) : Obs w0 (W.alloc (.cells #[.pointer none, .pointer none] 22)) (os ++ [xOb 22 W.heap.size 2 [.pointer none, .pointer none]]) :=
  h.addX (XR.lit (heap_alloc_new W _) (by decide)) (below_alloc W _) (Nat.le_refl _)
theorem room_mr {w0 W : World} {os : List Ob} (h : Obs w0 W os) (p x gL gM : Nat) : Obs w0 (W.alloc (.cells #[dp p, dp x, .slice (some ⟨gL, 0, none⟩) 2 2, .slice (some ⟨gM, 0, none⟩) 2 2] 58)) (os ++ [rmOb W.heap.size p x gL gM]) :=
  h.add (rmOb W.heap.size p x gL gM) (heap_alloc_new W _) (rmOb_stays _ _ _ _ _) (below_alloc W _) (fun b hb => by simp [rmOb] at hb; subst hb; exact ⟨Nat.le_refl _, by simp⟩)

set_option maxHeartbeats 16000000 in
theorem logPlays_walk {w : World} {a : Int} (ha : -9223372036854775808 ≤ a ∧ a ≤ 9223372036854775807) {A : Option Addr} {c : Nat} {l : List S2} (hl : S2At w A l) (hll : l.length ≤ 9223372036854775807) :
    Calls Tryz.prog 4 #[.int .i64 a, .slice A l.length c] w fun e w' => e = .returned (.bool true) ∧ Below w.heap.size w w' := by
  have H0 := Lib.hid (Obs.start w)
  have LO := Lib.hid (long12_any (c := c) hl hll)
  have HL := Lib.hid hl
  generalize hln : l.length = ln at hll LO ⊢
  have HLN := Lib.hid hln
  have WK : Hid (∀ W, Calls Tryz.prog 10 #[] W fun e w' => e = .returned (.bool true) ∧ Below W.heap.size W w') := Lib.hid (fun W => works12_any)
  clear hl hln
  go_enter Tryz.func4, Tryz.ntmps4
  go_wp2_with fail
  refine LO.out.mono ?_
  rintro e w2 ⟨b1, rfl, hs1, hb2⟩
  have HB2 := Lib.hid hb2
  clear hb2 LO
  cases b1 with
  | true =>
    clear hs1
    go_wp2_with fail
    refine (WK.out _).mono ?_
    rintro e w3 ⟨rfl, hb3⟩
    have HB3 := Lib.hid (HB2.out.trans (hb3.mono HB2.out.size))
    clear hb3
    go_wp2_with fail
    go_ret
    exact ⟨rfl, HB3.out⟩
  | false =>
    have HS1 := Lib.hid (hs1 rfl)
    clear hs1 hll
    have hl100 : ln ≤ 100 := by rw [← HLN.out]; exact HS1.out.1
    by_cases a40 : 40 < a
    · go_wp2_with fail
      refine (WK.out _).mono ?_
      rintro e w3 ⟨rfl, hb3⟩
      have HB3 := Lib.hid (HB2.out.trans (hb3.mono HB2.out.size))
      clear hb3
      go_wp2_with fail
      go_ret
      exact ⟨rfl, HB3.out⟩
    · by_cases a0 : a < 1
      · have HN1 := Lib.hid (fun W : World => new_none (w := W) (n := a) (.inl a0))
        have HN2 := Lib.hid (fun W : World => new_none_rd (w := W) (a := a) (.inl a0))
        go_wp2_with (first
          | (go_at_call 14; refine (HN1.out _).mono ?_; rintro e w3 ⟨rfl, hb⟩; have HB3 := Lib.hid (HB2.out.trans (hb.mono HB2.out.size)); clear hb)
          | (go_at_call 23; refine (HN2.out _).mono ?_; rintro e w4 ⟨rfl, hb⟩; have HB4 := Lib.hid (HB3.out.trans (hb.mono HB3.out.size)); clear hb)
          | (go_at_call 10; refine (WK.out _).mono ?_; rintro e w5 ⟨rfl, hb⟩; have HB5 := Lib.hid (HB4.out.trans (hb.mono HB4.out.size)); clear hb))
        go_ret
        exact ⟨rfl, HB5.out⟩
      · obtain ⟨n, rfl⟩ : ∃ n : Nat, a = (n : Int) := ⟨a.toNat, by omega⟩
        have HN1 := Lib.hid (new_o (n := n) (H0.out.step HB2.out) (by omega) (by omega))
        have HN2 := Lib.hid (fun W os (h : Obs w W os) => newR_o h (n := n) (by omega) (by omega))
        have HML := Lib.hid make_logs
        have HMM := Lib.hid make_refs
        go_wp2_with (first
          | (go_at_call 14; refine HN1.out.mono ?_; rintro e w3 ⟨p, bl, bd, rfl, h3⟩; have H3 := Lib.hid (show Obs w w3 [pdOb p bl bd (DS.new n)] from h3); clear h3)
          | (go_at_call 23; refine (HN2.out _ _ H3.out).mono ?_; rintro e w4 ⟨x, g1, g2, g3, rfl, h4⟩; have H4 := Lib.hid (show Obs w w4 [pdOb p bl bd (DS.new n), rdOb x g1 g2 g3 (DS.new n)] from h4); clear h4))
        clear HN1 HN2
        refine wp_region_held_drew (S := fun _ => True) (by kernel_rfl) trivial (fun hHeld => ?_)
        refine wpAnyH_take (i := 0) (v := ?vv0_4) rfl (by kernel_rfl) (by kernel_rfl) (by kernel_rfl) (fun _ _ _ h => h) (Or.inl ⟨by rfl, ?hy0_4⟩) (by assumption) ?rest0_4
        case hy0_4 => (intro w' hSw; (try dsimp only at hSw); go_simp; try with_reducible rfl)
        try simp only [List.getElem_toArray, List.getElem_cons_zero, List.getElem_cons_succ, Act.put, List.setIfInBounds_toArray, List.set_cons_zero, List.set_cons_succ]
        refine wpAnyH_take (i := 1) (v := ?vv1_4) rfl (by kernel_rfl) (by kernel_rfl) (by kernel_rfl) (fun _ _ _ h => h) (Or.inl ⟨by rfl, ?hy1_4⟩) (by assumption) ?rest1_4
        case hy1_4 => (intro w' hSw; (try dsimp only at hSw); go_simp; try with_reducible rfl)
        try simp only [List.getElem_toArray, List.getElem_cons_zero, List.getElem_cons_succ, Act.put, List.setIfInBounds_toArray, List.set_cons_zero, List.set_cons_succ]
        refine wpAnyH_ready (rs := [2, 3]) (by kernel_rfl) (by simp) ?_
        refine AllReadyH.cons rfl (fun K hK => ?_) (AllReadyH.cons rfl (fun K hK => ?_) AllReadyH.nil)
        · go_simp
          rw [HML.out]
          simp only [Result.andThen]
          refine hK.out _ _ trivial (fun hHeld => ?_)
          clear hK K
          try simp only [List.getElem_toArray, List.getElem_cons_zero, List.getElem_cons_succ, Act.put, List.setIfInBounds_toArray, List.set_cons_zero, List.set_cons_succ]
          have h5 := room_mL H4.out.drew
          generalize w4.drew.alloc (.cells #[.pointer none, .pointer none] 22) = w5 at h5 ⊢
          generalize w4.drew.heap.size = gL at h5 ⊢
          refine wpAnyH_ready (rs := [3]) (by kernel_rfl) (by simp) ?_
          refine AllReadyH.cons rfl (fun K hK => ?_) AllReadyH.nil
          go_simp
          rw [HMM.out]
          simp only [Result.andThen]
          refine hK.out _ _ trivial (fun hHeld => ?_)
          clear hK K
          try simp only [List.getElem_toArray, List.getElem_cons_zero, List.getElem_cons_succ, Act.put, List.setIfInBounds_toArray, List.set_cons_zero, List.set_cons_succ]
          have h6 := room_mm h5
          generalize w5.alloc (.cells #[.pointer none, .pointer none] 98) = w6 at h6 ⊢
          generalize w5.heap.size = gM at h6 ⊢
          clear h5
          refine wpAnyH_take (i := 4) (v := ?vv4_5) rfl (by kernel_rfl) (by kernel_rfl) (by kernel_rfl) (fun _ _ _ h => h) (Or.inl ⟨by rfl, ?hy4_5⟩) (by assumption) ?rest4_5
          case hy4_5 => (intro w' hSw; (try dsimp only at hSw); go_simp; try with_reducible rfl)
          try simp only [List.getElem_toArray, List.getElem_cons_zero, List.getElem_cons_succ, Act.put, List.setIfInBounds_toArray, List.set_cons_zero, List.set_cons_succ]
          refine wpAnyH_ready (rs := [5]) (by kernel_rfl) (by simp) ?_
          refine AllReadyH.cons rfl (fun K hK => ?_) AllReadyH.nil
          go_simp
          have hr7 := room_mr h6 p x gL gM
          refine hK.out _ (w6.alloc (.cells #[dp p, dp x, .slice (some ⟨gL, 0, none⟩) 2 2, .slice (some ⟨gM, 0, none⟩) 2 2] 58)) trivial (fun hHeld => ?_)
          clear hK K
          try simp only [List.getElem_toArray, List.getElem_cons_zero, List.getElem_cons_succ, Act.put, List.setIfInBounds_toArray, List.set_cons_zero, List.set_cons_succ]
          generalize w6.alloc (.cells #[dp p, dp x, .slice (some ⟨gL, 0, none⟩) 2 2, .slice (some ⟨gM, 0, none⟩) 2 2] 58) = w7 at hr7 ⊢
          generalize w6.heap.size = r at hr7 ⊢
          refine wpAnyH_take (i := 6) (v := ?vv6_5) rfl (by kernel_rfl) (by kernel_rfl) (by kernel_rfl) (fun _ _ _ h => h) (Or.inl ⟨by rfl, ?hy6_5⟩) (by assumption) ?rest6_5
          case hy6_5 => (intro w' hSw; (try dsimp only at hSw); go_simp; try with_reducible rfl)
          try simp only [List.getElem_toArray, List.getElem_cons_zero, List.getElem_cons_succ, Act.put, List.setIfInBounds_toArray, List.set_cons_zero, List.set_cons_succ]
          refine wpAnyH_done (by kernel_rfl) ?_ _
          have h7 : Obs w w7 [pdOb p bl bd (DS.new n), rdOb x g1 g2 g3 (DS.new n), rmOb r p x gL gM, xOb 22 gL 2 [.pointer none, .pointer none], xOb 98 gM 2 [.pointer none, .pointer none]] := hr7.pick [0, 1, 4, 2, 3] (by decide) rfl (fun j o hj => by
            match j, hj with
            | 0, hj => exact hj
            | 1, hj => exact hj
            | 2, hj => exact hj
            | 3, hj => exact hj
            | 4, hj => exact hj
            | k + 5, hj => cases hj)
          clear hr7 h6 hHeld
          have HR0 : Hid (RoomI w w7 r n 1) := Lib.hid (room_of h7 (by simp [DS.new]) (by simp [DS.new]))
          clear h7
          go_wp2_with fail
          go_loopw [10] (fun kx wr => ∃ k : Nat, kx = .int .i64 (k : Int) ∧ k ≤ ln ∧ RoomI w wr r n (1 + 1100 * k)) (fun kx _ => ln - (RowKit.intOf kx).toNat)
          case atStart => exact ⟨0, rfl, Nat.zero_le _, HR0.out⟩
          case round =>
            obtain ⟨k, rfl, hk, hri⟩ := hrel
            have HRI := Lib.hid hri
            have hbw : Below w.heap.size w wr := by
              obtain ⟨_, _, _, _, _, _, _, _, _, _, _, _, hO, _⟩ := hri
              exact hO.bel
            clear hri HR0
            by_cases hlt : k < ln
            · have hlt' : (k : Int) < (ln : Int) := by omega
              have hk0 : (0 : Int) ≤ (k : Int) := by omega
              obtain ⟨b, o, rfl, hb, hc, hok⟩ := HL.out k (by rw [HLN.out]; exact hlt)
              obtain ⟨hkl, hsl⟩ := HS1.out.at (k := k) (by rw [HLN.out]; exact hlt)
              have hcw := hc.of_block (hbw.block b hb)
              obtain ⟨t, ht⟩ : ∃ t, t = l.getD k s20 := ⟨_, rfl⟩
              rw [← ht] at hc hok hkl hsl hcw
              have d0 : wr.cell? ⟨b, o + k * 6, none⟩ = some (.int .u8 (t.wh.toNat : Int)) := hcw 0 (by omega)
              have d1 : wr.cell? ⟨b, o + k * 6 + 1, none⟩ = some (.int .i64 t.half) := hcw 1 (by omega)
              have d2 : wr.cell? ⟨b, o + k * 6 + 2, none⟩ = some (.int .i64 t.age) := hcw 2 (by omega)
              have d3 : wr.cell? ⟨b, o + k * 6 + 3, none⟩ = some (sv t.s) := hcw 3 (by omega)
              have d4 : wr.cell? ⟨b, o + k * 6 + 4, none⟩ = some (.int .i64 t.many) := hcw 4 (by omega)
              have d5 : wr.cell? ⟨b, o + k * 6 + 5, none⟩ = some (.slice t.kA t.keep.length t.kc) := hcw 5 (by omega)
              have DO : Calls Tryz.prog 24 #[dp r, .agg #[.int .u8 (t.wh.toNat : Int), .int .i64 t.half, .int .i64 t.age, sv t.s, .int .i64 t.many, .slice t.kA t.keep.length t.kc]] wr fun e w' => e = .returned (.bool true) ∧ RoomI w w' r n (1 + 1100 * k + 1100) := does12_o HRI.out (by omega) hok hkl hsl
              have LK := Lib.hid (fun W (h : RoomI w W r n (1 + 1100 * k + 1100)) => like12_o h)
              clear hc hok hcw ht hbw hb
              go_wp2_with (first
                | (go_at_call 24; refine DO.mono ?_; rintro e w8 ⟨rfl, h8⟩; have H8 := Lib.hid h8; clear h8)
                | (go_at_call 25; refine (LK.out _ H8.out).mono ?_; rintro e w9 ⟨rfl, h9⟩; have H9 := Lib.hid h9; clear h9))
              go_roundw
              case rel => exact ⟨k + 1, by go_num, by omega, H9.out⟩
              case measure => simp [RowKit.intOf]; omega
            · obtain rfl : k = ln := by omega
              have HBW := Lib.hid hbw
              have HA := Lib.hid (fun (W : World) z => @half_any W (n : Int) z (by omega))
              have HB := Lib.hid (fun (W : World) z => @rhalf_any W (n : Int) z (by omega))
              clear hbw
              go_wp2_with fail
              go_loopw [11] (fun hx W => ∃ z : Int, hx = .int .i64 z ∧ -1 ≤ z ∧ z ≤ 3 ∧ Below w.heap.size w W) (fun hx _ => (3 - RowKit.intOf hx).toNat)
              case atStart => exact ⟨-1, rfl, by omega, by omega, HBW.out⟩
              case round =>
                obtain ⟨z, rfl, hz1, hz2, hbz⟩ := hrel
                have HBZ := Lib.hid hbz
                clear hbz
                by_cases hz : z ≤ 2
                · have hwz : IntKind.i64.wrap (z + 1) = z + 1 := IntWalk.i64_in _ (by omega)
                  have HA2 := fun W => HA.out W z
                  have HB3 := fun W => HB.out W z
                  generalize (halfF (n : Int) z).1 = f1 at HA2 HB3
                  generalize (halfF (n : Int) z).2 = f2 at HA2 HB3
                  go_wp2_with (first
                    | (go_at_call 16; refine (HA2 _).mono ?_; rintro e w5 ⟨rfl, rfl⟩)
                    | (go_at_call 26; refine (HB3 _).mono ?_; rintro e w6 ⟨rfl, rfl⟩))
                  go_roundw
                  case rel => exact ⟨z + 1, by go_num, by omega, by omega, HBZ.out⟩
                  case measure => simp [RowKit.intOf]; omega
                · obtain rfl : z = 3 := by omega
                  go_wp2_with (go_at_call 10; refine (WK.out _).mono ?_; rintro e w5 ⟨rfl, hb5⟩; have HB5 := Lib.hid (HBZ.out.trans (hb5.mono HBZ.out.size)); clear hb5)
                  go_ret
                  exact ⟨rfl, HB5.out⟩
        · go_simp
          rw [HMM.out]
          simp only [Result.andThen]
          refine hK.out _ _ trivial (fun hHeld => ?_)
          clear hK K
          try simp only [List.getElem_toArray, List.getElem_cons_zero, List.getElem_cons_succ, Act.put, List.setIfInBounds_toArray, List.set_cons_zero, List.set_cons_succ]
          have h5 := room_mm H4.out.drew
          generalize w4.drew.alloc (.cells #[.pointer none, .pointer none] 98) = w5 at h5 ⊢
          generalize w4.drew.heap.size = gM at h5 ⊢
          refine wpAnyH_ready (rs := [2]) (by kernel_rfl) (by simp) ?_
          refine AllReadyH.cons rfl (fun K hK => ?_) AllReadyH.nil
          go_simp
          rw [HML.out]
          simp only [Result.andThen]
          refine hK.out _ _ trivial (fun hHeld => ?_)
          clear hK K
          try simp only [List.getElem_toArray, List.getElem_cons_zero, List.getElem_cons_succ, Act.put, List.setIfInBounds_toArray, List.set_cons_zero, List.set_cons_succ]
          have h6 := room_mL h5
          generalize w5.alloc (.cells #[.pointer none, .pointer none] 22) = w6 at h6 ⊢
          generalize w5.heap.size = gL at h6 ⊢
          clear h5
          refine wpAnyH_take (i := 4) (v := ?vv4_6) rfl (by kernel_rfl) (by kernel_rfl) (by kernel_rfl) (fun _ _ _ h => h) (Or.inl ⟨by rfl, ?hy4_6⟩) (by assumption) ?rest4_6
          case hy4_6 => (intro w' hSw; (try dsimp only at hSw); go_simp; try with_reducible rfl)
          try simp only [List.getElem_toArray, List.getElem_cons_zero, List.getElem_cons_succ, Act.put, List.setIfInBounds_toArray, List.set_cons_zero, List.set_cons_succ]
          refine wpAnyH_ready (rs := [5]) (by kernel_rfl) (by simp) ?_
          refine AllReadyH.cons rfl (fun K hK => ?_) AllReadyH.nil
          go_simp
          have hr7 := room_mr h6 p x gL gM
          refine hK.out _ (w6.alloc (.cells #[dp p, dp x, .slice (some ⟨gL, 0, none⟩) 2 2, .slice (some ⟨gM, 0, none⟩) 2 2] 58)) trivial (fun hHeld => ?_)
          clear hK K
          try simp only [List.getElem_toArray, List.getElem_cons_zero, List.getElem_cons_succ, Act.put, List.setIfInBounds_toArray, List.set_cons_zero, List.set_cons_succ]
          generalize w6.alloc (.cells #[dp p, dp x, .slice (some ⟨gL, 0, none⟩) 2 2, .slice (some ⟨gM, 0, none⟩) 2 2] 58) = w7 at hr7 ⊢
          generalize w6.heap.size = r at hr7 ⊢
          refine wpAnyH_take (i := 6) (v := ?vv6_6) rfl (by kernel_rfl) (by kernel_rfl) (by kernel_rfl) (fun _ _ _ h => h) (Or.inl ⟨by rfl, ?hy6_6⟩) (by assumption) ?rest6_6
          case hy6_6 => (intro w' hSw; (try dsimp only at hSw); go_simp; try with_reducible rfl)
          try simp only [List.getElem_toArray, List.getElem_cons_zero, List.getElem_cons_succ, Act.put, List.setIfInBounds_toArray, List.set_cons_zero, List.set_cons_succ]
          refine wpAnyH_done (by kernel_rfl) ?_ _
          have h7 : Obs w w7 [pdOb p bl bd (DS.new n), rdOb x g1 g2 g3 (DS.new n), rmOb r p x gL gM, xOb 22 gL 2 [.pointer none, .pointer none], xOb 98 gM 2 [.pointer none, .pointer none]] := hr7.pick [0, 1, 4, 3, 2] (by decide) rfl (fun j o hj => by
            match j, hj with
            | 0, hj => exact hj
            | 1, hj => exact hj
            | 2, hj => exact hj
            | 3, hj => exact hj
            | 4, hj => exact hj
            | k + 5, hj => cases hj)
          clear hr7 h6 hHeld
          have HR0 : Hid (RoomI w w7 r n 1) := Lib.hid (room_of h7 (by simp [DS.new]) (by simp [DS.new]))
          clear h7
          go_wp2_with fail
          go_loopw [10] (fun kx wr => ∃ k : Nat, kx = .int .i64 (k : Int) ∧ k ≤ ln ∧ RoomI w wr r n (1 + 1100 * k)) (fun kx _ => ln - (RowKit.intOf kx).toNat)
          case atStart => exact ⟨0, rfl, Nat.zero_le _, HR0.out⟩
          case round =>
            obtain ⟨k, rfl, hk, hri⟩ := hrel
            have HRI := Lib.hid hri
            have hbw : Below w.heap.size w wr := by
              obtain ⟨_, _, _, _, _, _, _, _, _, _, _, _, hO, _⟩ := hri
              exact hO.bel
            clear hri HR0
            by_cases hlt : k < ln
            · have hlt' : (k : Int) < (ln : Int) := by omega
              have hk0 : (0 : Int) ≤ (k : Int) := by omega
              obtain ⟨b, o, rfl, hb, hc, hok⟩ := HL.out k (by rw [HLN.out]; exact hlt)
              obtain ⟨hkl, hsl⟩ := HS1.out.at (k := k) (by rw [HLN.out]; exact hlt)
              have hcw := hc.of_block (hbw.block b hb)
              obtain ⟨t, ht⟩ : ∃ t, t = l.getD k s20 := ⟨_, rfl⟩
              rw [← ht] at hc hok hkl hsl hcw
              have d0 : wr.cell? ⟨b, o + k * 6, none⟩ = some (.int .u8 (t.wh.toNat : Int)) := hcw 0 (by omega)
              have d1 : wr.cell? ⟨b, o + k * 6 + 1, none⟩ = some (.int .i64 t.half) := hcw 1 (by omega)
              have d2 : wr.cell? ⟨b, o + k * 6 + 2, none⟩ = some (.int .i64 t.age) := hcw 2 (by omega)
              have d3 : wr.cell? ⟨b, o + k * 6 + 3, none⟩ = some (sv t.s) := hcw 3 (by omega)
              have d4 : wr.cell? ⟨b, o + k * 6 + 4, none⟩ = some (.int .i64 t.many) := hcw 4 (by omega)
              have d5 : wr.cell? ⟨b, o + k * 6 + 5, none⟩ = some (.slice t.kA t.keep.length t.kc) := hcw 5 (by omega)
              have DO : Calls Tryz.prog 24 #[dp r, .agg #[.int .u8 (t.wh.toNat : Int), .int .i64 t.half, .int .i64 t.age, sv t.s, .int .i64 t.many, .slice t.kA t.keep.length t.kc]] wr fun e w' => e = .returned (.bool true) ∧ RoomI w w' r n (1 + 1100 * k + 1100) := does12_o HRI.out (by omega) hok hkl hsl
              have LK := Lib.hid (fun W (h : RoomI w W r n (1 + 1100 * k + 1100)) => like12_o h)
              clear hc hok hcw ht hbw hb
              go_wp2_with (first
                | (go_at_call 24; refine DO.mono ?_; rintro e w8 ⟨rfl, h8⟩; have H8 := Lib.hid h8; clear h8)
                | (go_at_call 25; refine (LK.out _ H8.out).mono ?_; rintro e w9 ⟨rfl, h9⟩; have H9 := Lib.hid h9; clear h9))
              go_roundw
              case rel => exact ⟨k + 1, by go_num, by omega, H9.out⟩
              case measure => simp [RowKit.intOf]; omega
            · obtain rfl : k = ln := by omega
              have HBW := Lib.hid hbw
              have HA := Lib.hid (fun (W : World) z => @half_any W (n : Int) z (by omega))
              have HB := Lib.hid (fun (W : World) z => @rhalf_any W (n : Int) z (by omega))
              clear hbw
              go_wp2_with fail
              go_loopw [11] (fun hx W => ∃ z : Int, hx = .int .i64 z ∧ -1 ≤ z ∧ z ≤ 3 ∧ Below w.heap.size w W) (fun hx _ => (3 - RowKit.intOf hx).toNat)
              case atStart => exact ⟨-1, rfl, by omega, by omega, HBW.out⟩
              case round =>
                obtain ⟨z, rfl, hz1, hz2, hbz⟩ := hrel
                have HBZ := Lib.hid hbz
                clear hbz
                by_cases hz : z ≤ 2
                · have hwz : IntKind.i64.wrap (z + 1) = z + 1 := IntWalk.i64_in _ (by omega)
                  have HA2 := fun W => HA.out W z
                  have HB3 := fun W => HB.out W z
                  generalize (halfF (n : Int) z).1 = f1 at HA2 HB3
                  generalize (halfF (n : Int) z).2 = f2 at HA2 HB3
                  go_wp2_with (first
                    | (go_at_call 16; refine (HA2 _).mono ?_; rintro e w5 ⟨rfl, rfl⟩)
                    | (go_at_call 26; refine (HB3 _).mono ?_; rintro e w6 ⟨rfl, rfl⟩))
                  go_roundw
                  case rel => exact ⟨z + 1, by go_num, by omega, by omega, HBZ.out⟩
                  case measure => simp [RowKit.intOf]; omega
                · obtain rfl : z = 3 := by omega
                  go_wp2_with (go_at_call 10; refine (WK.out _).mono ?_; rintro e w5 ⟨rfl, hb5⟩; have HB5 := Lib.hid (HBZ.out.trans (hb5.mono HBZ.out.size)); clear hb5)
                  go_ret
                  exact ⟨rfl, HB5.out⟩
end Go.Proofs.YthfnncahmccgkaaGreatDoor
