/-
  LogNames.
-/
import Derived.Test.YthfnncahmccgkaaGreatDoorLNmM
namespace Go.Proofs.YthfnncahmccgkaaGreatDoor
open Go Go.RowKit Go.Maps
set_option maxRecDepth 100000
set_option linter.unusedSimpArgs false
set_option linter.unusedVariables false

theorem add_off {S : DS} {l : LS} (h : l.off = true) (s : List UInt8) (_ : Unit) : addE S l s = 7 ∧ addS S l s = S ∧ addL S l s = l := ⟨by rw [addE, if_pos h], by rw [addS, if_pos h], by rw [addL, if_pos h]⟩
theorem Obs.less {w0 w : World} {os : List Ob} {o : Ob} (h : Obs w0 w (os ++ [o])) : Obs w0 w os :=
  h.sub (fun j => j) (fun _ _ _ _ h => h) (fun j u hj => by rw [List.getElem?_append_left (List.getElem?_eq_some_iff.1 hj).1]; exact hj)
theorem conv_made (n : Nat) (W : World) : (convert 44 9 (.slice (some ⟨W.heap.size, 0, none⟩) n n)).run Tryz.prog (W.alloc (.cells (cellsOfF (List.replicate n 0)).toArray 5)) = .ok (sv (List.replicate n 0)) (W.alloc (.cells (cellsOfF (List.replicate n 0)).toArray 5)) := by
  have := run_convert_bytes_back (P := Tryz.prog) (W.alloc (.cells (cellsOfF (List.replicate n 0)).toArray 5)) 44 9 5 ⟨W.heap.size, 0, none⟩ n (List.replicate n 0) Tryz.underlying44 Tryz.underlying5 Tryz.underlying9 (fun j hj => by
    rw [show (⟨W.heap.size, 0, none⟩ : Addr).add j = ⟨W.heap.size, j, none⟩ from by unfold Addr.add; split <;> simp_all, cellAt (heap_alloc_new W _)]
    have hj' : j < n := by simpa using hj
    simp [cellsOfF, hj']
    rfl)
  rwa [List.length_replicate] at this
set_option maxHeartbeats 32000000 in
theorem logNames_walk {w : World} : Calls Tryz.prog 3 #[] w fun e w' => e = .returned (.bool true) ∧ Below w.heap.size w w' := by
  have FO := nmO
  have SCN := Lib.hid (fun W (hb : Below w.heap.size w W) => show Calls Tryz.prog 8 #[.pointer none, .int .i64 0] W (fun e w' => e = .returned (.tuple #[.int .i64 0, .slice none 0 0, .int .i64 2]) ∧ Below w.heap.size w w') from (scan_nil 0).mono fun e w' h => ⟨h.1, hb.trans (h.2.mono hb.size)⟩)
  have WK := Lib.hid (fun W (hb : Below w.heap.size w W) => show Calls Tryz.prog 10 #[] W (fun e w' => e = .returned (.bool true) ∧ Below w.heap.size w w') from works12_any.mono fun e w' h => ⟨h.1, hb.trans (h.2.mono hb.size)⟩)
  have NW1 := Lib.hid (fun W (hb : Below w.heap.size w W) => show Calls Tryz.prog 14 #[.int .i64 1] W (fun e w' => ∃ p bl bd, e = .returned (.tuple #[dp p, .int .i64 0]) ∧ Obs w w' [pdOb p bl bd (DS.new 1)]) from new_o ((Obs.start w).step hb) (n := 1) (by omega) (by omega))
  have NW7 := Lib.hid (fun W (hb : Below w.heap.size w W) => show Calls Tryz.prog 14 #[.int .i64 7] W (fun e w' => ∃ p bl bd, e = .returned (.tuple #[dp p, .int .i64 0]) ∧ Obs w w' [pdOb p bl bd (DS.new 7)]) from new_o ((Obs.start w).step hb) (n := 7) (by omega) (by omega))
  have BG1 := Lib.hid (fun W p bl bd (hO : Obs w W [pdOb p bl bd (DS.new 1)]) => show Calls Tryz.prog 7 #[dp p, .int .i64 0, .int .i64 1, .string ⟨#[]⟩] W (fun e w' => e = .returned (.tuple #[.pointer none, .int .i64 41]) ∧ Obs w w' [pdOb p bl bd (DS.new 1)]) from by
    have := begin_no_o hO 0 rfl (by decide) 0 1 [] (by decide) FO.b (by decide)
    rw [FO.bs] at this
    exact this)
  have SC1 := Lib.hid (fun W p bl bd (hO : Obs w W [pdOb p bl bd (DS.new 1)]) => show Calls Tryz.prog 8 #[dp p, .int .i64 1] W (fun e w' => ∃ a v, e = .returned (.tuple #[.int .i64 a, v, .int .i64 5]) ∧ Obs w w' [pdOb p bl bd (DS.new 1)]) from (scan_o hO 0 rfl 1).mono fun e w' ⟨v, he, hro⟩ => ⟨((scnA (DS.new 1) 1 : Nat) : Int), v, he.trans (by rw [FO.sc]), hO.step hro.below⟩)
  have TP1 := Lib.hid (fun W p bl bd (hO : Obs w W [pdOb p bl bd (DS.new 1)]) => show Calls Tryz.prog 15 #[dp p] W (fun e w' => e = .returned (.int .i64 0) ∧ Obs w w' [pdOb p bl bd (DS.new 1)]) from (top12_any (hO.get (i := 0) rfl)).mono fun e w' h => ⟨by rw [h.1, FO.tp], hO.step h.2⟩)
  have hB0 := Below.refl w.heap.size w
  have BN := Lib.hid (fun W : World => show Calls Tryz.prog 7 #[.pointer none, .int .i64 0, .int .i64 1, .string ⟨#[]⟩] W (fun e w' => e = .returned (.tuple #[.pointer none, .int .i64 2]) ∧ W = w') from begin_nil 0 1 [])
  have TN := Lib.hid (fun W : World => @top_nil W)
  have AN := Lib.hid (fun W : World => show Calls Tryz.prog 11 #[.pointer none, .string ⟨#[]⟩] W (fun e w' => e = .returned (.int .i64 2) ∧ W = w') from add_nil [])
  have RN := Lib.hid (fun W : World => @room_nil W)
  have ON := Lib.hid (fun W : World => @over_nil_log W)
  clear FO
  go_enter Tryz.func3, Tryz.ntmps3
  go_wp2_with (first
    | (go_at_call 7; with_reducible refine (BG1.out _ _ _ _ hO5).mono ?_; rintro e w6 ⟨rfl, hO6⟩)
    | (go_at_call 7; with_reducible refine (BN.out _).mono ?_; rintro e w1 ⟨rfl, rfl⟩)
    | (go_at_call 8; with_reducible refine (SC1.out _ _ _ _ hO6).mono ?_; rintro e w7 ⟨a7, v7, rfl, hO7⟩)
    | (go_at_call 8; with_reducible refine (SCN.out _ hB0).mono ?_; rintro e w2 ⟨rfl, hB2⟩)
    | (go_at_call 9; with_reducible refine (TN.out _).mono ?_; rintro e w3 ⟨rfl, rfl⟩)
    | (go_at_call 10; with_reducible refine (WK.out _ hB2).mono ?_; rintro e w4 ⟨rfl, hB4⟩)
    | (go_at_call 11; with_reducible refine (AN.out _).mono ?_; rintro e w3 ⟨rfl, rfl⟩)
    | (go_at_call 12; with_reducible refine (RN.out _).mono ?_; rintro e w3 ⟨rfl, rfl⟩)
    | (go_at_call 13; with_reducible refine (ON.out _).mono ?_; rintro e w3 ⟨rfl, rfl⟩)
    | (go_at_call 15; with_reducible refine (TP1.out _ _ _ _ hO7).mono ?_; rintro e w8 ⟨rfl, hO8⟩)
    | (go_at_call 14; with_reducible refine (NW7.out _ hO8.bel).mono ?_; rintro e w9 ⟨p2, bl2, bd2, rfl, hO9⟩)
    | (go_at_call 14; with_reducible refine (NW1.out _ hB4).mono ?_; rintro e w5 ⟨p, bl, bd, rfl, hO5⟩))
  have hL := Lib.hid (show Obs w (w9.alloc (.cells #[.int .i64 (-1), .int .i64 1, .int .i64 2, .int .i64 1, .int .i64 0, .int .i64 0, .int .i64 0, .int .i64 (-1), .int .i64 0, .int .i64 4294967296] 39)) [pdOb p2 bl2 bd2 (DS.new 7), xOb 39 w9.heap.size 10 [.int .i64 (-1), .int .i64 1, .int .i64 2, .int .i64 1, .int .i64 0, .int .i64 0, .int .i64 0, .int .i64 (-1), .int .i64 0, .int .i64 4294967296]] from hO9.addX (XR.lit (heap_alloc_new w9 (.cells #[.int .i64 (-1), .int .i64 1, .int .i64 2, .int .i64 1, .int .i64 0, .int .i64 0, .int .i64 0, .int .i64 (-1), .int .i64 0, .int .i64 4294967296] 39)) (by decide)) (below_alloc w9 _) (Nat.le_refl _))
  clear hO9 BG1 SC1 TP1 SCN WK NW1 NW7 BN TN AN RN ON hO5 hO6 hO7 hO8 hB2 hB4 hB0
  generalize w9.heap.size = g9 at hL ⊢
  go_loopw [131] (fun kx W => ∃ k : Nat, kx = .int .i64 (k : Int) ∧ k ≤ 5 ∧ Obs w W [pdOb p2 bl2 bd2 (DS.new 7), xOb 39 g9 10 [.int .i64 (-1), .int .i64 1, .int .i64 2, .int .i64 1, .int .i64 0, .int .i64 0, .int .i64 0, .int .i64 (-1), .int .i64 0, .int .i64 4294967296]]) (fun kx _ => 5 - (RowKit.intOf kx).toNat)
  case atStart => exact ⟨0, rfl, by omega, hL.out⟩
  case round =>
    clear hL
    obtain ⟨k, rfl, hk5, hO⟩ := hrel
    have HO := Lib.hid hO
    have hX : XR wr 39 g9 10 [.int .i64 (-1), .int .i64 1, .int .i64 2, .int .i64 1, .int .i64 0, .int .i64 0, .int .i64 0, .int .i64 (-1), .int .i64 0, .int .i64 4294967296] := hO.get (i := 1) rfl
    have BG := Lib.hid (fun W (h a : Int) (hm : mayH h a = false) (hO : Obs w W [pdOb p2 bl2 bd2 (DS.new 7), xOb 39 g9 10 [.int .i64 (-1), .int .i64 1, .int .i64 2, .int .i64 1, .int .i64 0, .int .i64 0, .int .i64 0, .int .i64 (-1), .int .i64 0, .int .i64 4294967296]]) => show Calls Tryz.prog 7 #[dp p2, .int .i64 h, .int .i64 a, .string ⟨#[]⟩] W (fun e w' => e = .returned (.tuple #[.pointer none, .int .i64 1]) ∧ Obs w w' [pdOb p2 bl2 bd2 (DS.new 7), xOb 39 g9 10 [.int .i64 (-1), .int .i64 1, .int .i64 2, .int .i64 1, .int .i64 0, .int .i64 0, .int .i64 0, .int .i64 (-1), .int .i64 0, .int .i64 4294967296]]) from by
      have := begin_no_o hO 0 rfl (by decide) h a [] (by decide) (beg_bad _ hm _).1 (by decide)
      rw [(beg_bad _ hm _).2] at this
      exact this)
    by_cases hk : k < 5
    · clear hO
      rcases (show k = 0 ∨ k = 1 ∨ k = 2 ∨ k = 3 ∨ k = 4 by omega) with rfl | rfl | rfl | rfl | rfl
      · as_aux_lemma =>
        have c0 : wr.cell? ⟨g9, 0, none⟩ = some (.int .i64 (-1)) := (hX.cell (j := 0) (by decide)).1
        have c1 : wr.cell? ⟨g9, 1, none⟩ = some (.int .i64 1) := (hX.cell (j := 1) (by decide)).1
        have BG := Lib.hid (fun W hO => BG.out W (-1) (1) (by decide) hO)
        clear hX
        go_wp2_with (go_at_call 7; with_reducible refine (BG.out _ (HO.out.alloc _)).mono ?_; rintro e y1 ⟨rfl, hO1⟩; have HO1 := Lib.hid hO1; clear hO1)
        go_roundw
        case rel => exact ⟨1, by go_num, by omega, HO1.out⟩
        case measure => simp [RowKit.intOf]
      · as_aux_lemma =>
        have c0 : wr.cell? ⟨g9, 2, none⟩ = some (.int .i64 2) := (hX.cell (j := 2) (by decide)).1
        have c1 : wr.cell? ⟨g9, 3, none⟩ = some (.int .i64 1) := (hX.cell (j := 3) (by decide)).1
        have BG := Lib.hid (fun W hO => BG.out W (2) (1) (by decide) hO)
        clear hX
        go_wp2_with (go_at_call 7; with_reducible refine (BG.out _ (HO.out.alloc _)).mono ?_; rintro e y1 ⟨rfl, hO1⟩; have HO1 := Lib.hid hO1; clear hO1)
        go_roundw
        case rel => exact ⟨2, by go_num, by omega, HO1.out⟩
        case measure => simp [RowKit.intOf]
      · as_aux_lemma =>
        have c0 : wr.cell? ⟨g9, 4, none⟩ = some (.int .i64 0) := (hX.cell (j := 4) (by decide)).1
        have c1 : wr.cell? ⟨g9, 5, none⟩ = some (.int .i64 0) := (hX.cell (j := 5) (by decide)).1
        have BG := Lib.hid (fun W hO => BG.out W (0) (0) (by decide) hO)
        clear hX
        go_wp2_with (go_at_call 7; with_reducible refine (BG.out _ (HO.out.alloc _)).mono ?_; rintro e y1 ⟨rfl, hO1⟩; have HO1 := Lib.hid hO1; clear hO1)
        go_roundw
        case rel => exact ⟨3, by go_num, by omega, HO1.out⟩
        case measure => simp [RowKit.intOf]
      · as_aux_lemma =>
        have c0 : wr.cell? ⟨g9, 6, none⟩ = some (.int .i64 0) := (hX.cell (j := 6) (by decide)).1
        have c1 : wr.cell? ⟨g9, 7, none⟩ = some (.int .i64 (-1)) := (hX.cell (j := 7) (by decide)).1
        have BG := Lib.hid (fun W hO => BG.out W (0) (-1) (by decide) hO)
        clear hX
        go_wp2_with (go_at_call 7; with_reducible refine (BG.out _ (HO.out.alloc _)).mono ?_; rintro e y1 ⟨rfl, hO1⟩; have HO1 := Lib.hid hO1; clear hO1)
        go_roundw
        case rel => exact ⟨4, by go_num, by omega, HO1.out⟩
        case measure => simp [RowKit.intOf]
      · as_aux_lemma =>
        have c0 : wr.cell? ⟨g9, 8, none⟩ = some (.int .i64 0) := (hX.cell (j := 8) (by decide)).1
        have c1 : wr.cell? ⟨g9, 9, none⟩ = some (.int .i64 4294967296) := (hX.cell (j := 9) (by decide)).1
        have BG := Lib.hid (fun W hO => BG.out W (0) (4294967296) (by decide) hO)
        clear hX
        go_wp2_with (go_at_call 7; with_reducible refine (BG.out _ (HO.out.alloc _)).mono ?_; rintro e y1 ⟨rfl, hO1⟩; have HO1 := Lib.hid hO1; clear hO1)
        go_roundw
        case rel => exact ⟨5, by go_num, by omega, HO1.out⟩
        case measure => simp [RowKit.intOf]
    · obtain rfl : k = 5 := by omega
      have hO7 : Obs w wr [pdOb p2 bl2 bd2 (DS.new 7)] := Obs.less (os := [_]) hO
      clear HO hX hk5 hk hO BG
      have FO := nmO
      obtain ⟨S1, S2, S3, l1, l2, FA⟩ := nmA
      obtain ⟨S4, S5, S6, l4, l5, l6, FB⟩ := nmB
      have SCA := Lib.hid (fun W (hO : Obs w W [pdOb p2 bl2 bd2 (DS.new 7)]) => show Calls Tryz.prog 8 #[dp p2, .int .i64 2] W (fun e w' => ∃ (a : Int) (v : Value), e = .returned (.tuple #[.int .i64 a, v, .int .i64 1]) ∧ Obs w w' [pdOb p2 bl2 bd2 (DS.new 7)]) from (scan_o hO 0 rfl 2).mono fun e w' ⟨v, he, hro⟩ => ⟨((scnA (DS.new 7) 2 : Nat) : Int), v, he.trans (by rw [FO.sc7]), hO.step hro.below⟩)
      have HFA := Lib.hid (fun W => show Calls Tryz.prog 16 #[.int .i64 7, .int .i64 1] W (fun e w' => e = .returned (.tuple #[.int .i64 3, .int .i64 3]) ∧ W = w') from (by have := @half_any W 7 1 (by omega); rwa [show halfF 7 1 = (3, 3) by decide] at this))
      have HFB := Lib.hid (fun W => show Calls Tryz.prog 16 #[.int .i64 (-2), .int .i64 1] W (fun e w' => e = .returned (.tuple #[.int .i64 0, .int .i64 0]) ∧ W = w') from (by have := @half_any W (-2) 1 (by omega); rwa [show halfF (-2) 1 = (0, 0) by decide] at this))
      have HFC := Lib.hid (fun W => show Calls Tryz.prog 16 #[.int .i64 7, .int .i64 2] W (fun e w' => e = .returned (.tuple #[.int .i64 0, .int .i64 0]) ∧ W = w') from (by have := @half_any W 7 2 (by omega); rwa [show halfF 7 2 = (0, 0) by decide] at this))
      have BGA := Lib.hid (fun W (hO : Obs w W [pdOb p2 bl2 bd2 (DS.new 7)]) => show Calls Tryz.prog 7 #[dp p2, .int .i64 0, .int .i64 4294967295, .string ⟨#[97, 98, 99]⟩] W (fun e w' => ∃ q, e = .returned (.tuple #[dp q, .int .i64 0]) ∧ Obs w w' [pdOb p2 bl2 bd2 S1, lgOb q p2 l1]) from (by have := begin_ok_o hO 0 rfl (by decide) 0 4294967295 abcL (by decide) FA.b; rw [FA.bs, FA.bl] at this; exact this))
      have OPA := Lib.hid (fun W q (hO : Obs w W [pdOb p2 bl2 bd2 S1, lgOb q p2 l1]) => show Calls Tryz.prog 17 #[dp p2] W (fun e w' => e = .returned (.int .i64 1) ∧ Obs w w' [pdOb p2 bl2 bd2 S1, lgOb q p2 l1]) from (by have := ops_o hO 0 rfl; rwa [FA.ops1] at this))
      have TPA := Lib.hid (fun W q (hO : Obs w W [pdOb p2 bl2 bd2 S1, lgOb q p2 l1]) => show Calls Tryz.prog 15 #[dp p2] W (fun e w' => e = .returned (.int .i64 4294967295) ∧ Obs w w' [pdOb p2 bl2 bd2 S1, lgOb q p2 l1]) from (top12_any (hO.get (i := 0) rfl)).mono fun e w' h => ⟨by rw [h.1, FA.top1], hO.step h.2⟩)
      have FLA := Lib.hid (fun W q (hO : Obs w W [pdOb p2 bl2 bd2 S1, lgOb q p2 l1]) => show Calls Tryz.prog 18 #[dp p2, .int .i64 1] W (fun e w' => e = .returned (.tuple #[]) ∧ Obs w w' [pdOb p2 bl2 bd2 (S1.fail 1), lgOb q p2 l1]) from fail_o hO 0 rfl (by omega))
      have SCB := Lib.hid (fun W q (hO : Obs w W [pdOb p2 bl2 bd2 (S1.fail 1), lgOb q p2 l1]) => show Calls Tryz.prog 8 #[dp p2, .int .i64 0] W (fun e w' => ∃ (a : Int) (v : Value), e = .returned (.tuple #[.int .i64 a, v, .int .i64 0]) ∧ Obs w w' [pdOb p2 bl2 bd2 (S1.fail 1), lgOb q p2 l1]) from (scan_o hO 0 rfl 0).mono fun e w' ⟨v, he, hro⟩ => ⟨((scnA (S1.fail 1) 0 : Nat) : Int), v, he.trans (by rw [FA.sc1]), hO.step hro.below⟩)
      have AD3 := Lib.hid (fun W q (hO : Obs w W [pdOb p2 bl2 bd2 (S1.fail 1), lgOb q p2 l1]) => show Calls Tryz.prog 11 #[dp q, sv z300] W (fun e w' => e = .returned (.int .i64 41) ∧ Obs w w' [pdOb p2 bl2 bd2 (S1.fail 1), lgOb q p2 l1]) from (by have := add_o hO 0 rfl 1 (by decide) rfl (by show l1.Ok S1.was.length; rw [FA.n1]; exact FA.k1) (by show S1.ops < _; rw [FA.ops1]; decide) z300 (by simp [z300]); rw [FA.e300, FA.s300, FA.l300] at this; exact this))
      have AD1 := Lib.hid (fun W q (hO : Obs w W [pdOb p2 bl2 bd2 (S1.fail 1), lgOb q p2 l1]) => show Calls Tryz.prog 11 #[dp q, sv z110] W (fun e w' => e = .returned (.int .i64 42) ∧ Obs w w' [pdOb p2 bl2 bd2 S2, lgOb q p2 l2]) from (by have := add_o hO 0 rfl 1 (by decide) rfl (by show l1.Ok S1.was.length; rw [FA.n1]; exact FA.k1) (by show S1.ops < _; rw [FA.ops1]; decide) z110 (by simp [z110]); rw [FA.e110, FA.s110, FA.l110] at this; exact this))
      have AD0 := Lib.hid (fun W q (hO : Obs w W [pdOb p2 bl2 bd2 S2, lgOb q p2 l2]) => show Calls Tryz.prog 11 #[dp q, .string ⟨#[]⟩] W (fun e w' => e = .returned (.int .i64 7) ∧ Obs w w' [pdOb p2 bl2 bd2 S2, lgOb q p2 l2]) from (by have := add_o hO 0 rfl 1 (by decide) rfl (by rw [FA.n2]; exact FA.k2) (by rw [FA.o2]; decide) [] (by decide); rw [(add_off FA.loff _ ()).1, (add_off FA.loff _ ()).2.1, (add_off FA.loff _ ()).2.2] at this; exact this))
      have RMA := Lib.hid (fun W q (hO : Obs w W [pdOb p2 bl2 bd2 S2, lgOb q p2 l2]) => show Calls Tryz.prog 12 #[dp q] W (fun e w' => e = .returned (.int .i64 2) ∧ Obs w w' [pdOb p2 bl2 bd2 S2, lgOb q p2 l2]) from (by have := room_o hO 0 rfl 1 rfl (by rw [FA.n2]; exact FA.k2); rw [FA.n2, FA.room] at this; exact this))
      have SCC := Lib.hid (fun W q (hO : Obs w W [pdOb p2 bl2 bd2 S2, lgOb q p2 l2]) => show Calls Tryz.prog 8 #[dp p2, .int .i64 0] W (fun e w' => ∃ (a : Int) (v : Value), e = .returned (.tuple #[.int .i64 a, v, .int .i64 42]) ∧ Obs w w' [pdOb p2 bl2 bd2 S2, lgOb q p2 l2]) from (scan_o hO 0 rfl 0).mono fun e w' ⟨v, he, hro⟩ => ⟨((scnA S2 0 : Nat) : Int), v, he.trans (by rw [FA.sc2]), hO.step hro.below⟩)
      have TPB := Lib.hid (fun W q (hO : Obs w W [pdOb p2 bl2 bd2 S2, lgOb q p2 l2]) => show Calls Tryz.prog 9 #[dp p2] W (fun e w' => ∃ a : Int, e = .returned (.tuple #[.int .i64 a, .int .i64 42]) ∧ Obs w w' [pdOb p2 bl2 bd2 S2, lgOb q p2 l2]) from (top_o hO 0 rfl).mono fun e w' h => ⟨((topV S2 : Nat) : Int), h.1.trans (by rw [FA.tp2]), h.2⟩)
      have BGB := Lib.hid (fun W q (hO : Obs w W [pdOb p2 bl2 bd2 S2, lgOb q p2 l2]) => show Calls Tryz.prog 7 #[dp p2, .int .i64 1, .int .i64 5, .string ⟨#[]⟩] W (fun e w' => e = .returned (.tuple #[.pointer none, .int .i64 42]) ∧ Obs w w' [pdOb p2 bl2 bd2 S2, lgOb q p2 l2]) from (by have := begin_no_o hO 0 rfl (by rw [FA.o2]; decide) 1 5 [] (by decide) FA.b2 (by decide); rw [FA.bs2] at this; exact this))
      have BTA := Lib.hid (fun W q (hO : Obs w W [pdOb p2 bl2 bd2 S2, lgOb q p2 l2]) => show Calls Tryz.prog 19 #[dp p2, .slice (some ⟨W.heap.size, 0, none⟩) 2 2] (W.alloc (.cells #[.int .i64 128, .int .i64 128] 3)) (fun e w' => e = .returned (.int .i64 0) ∧ Obs w w' [pdOb p2 bl2 bd2 S3, lgOb q p2 l2]) from (by have := boot_o (hO.alloc (.cells #[.int .i64 128, .int .i64 128] 3)) 0 rfl (ck := 2) (L := [128, 128]) (IR.lit W [128, 128]) (fun a ha _ hm => by cases ha; exact Nat.lt_irrefl _ ((hO.this 0 _ rfl).2.1 _ hm).2) (by decide); rw [FA.be, FA.bt] at this; exact this))
      have AD4 := Lib.hid (fun W q (hO : Obs w W [pdOb p2 bl2 bd2 S3, lgOb q p2 l2]) => show Calls Tryz.prog 11 #[dp q, .string ⟨#[]⟩] W (fun e w' => e = .returned (.int .i64 7) ∧ Obs w w' [pdOb p2 bl2 bd2 S3, lgOb q p2 l2]) from (by have := add_o hO 0 rfl 1 (by decide) rfl (by rw [FA.n3]; exact FA.k2) (by rw [FA.o3]; decide) [] (by decide); rw [(add_off FA.loff _ ()).1, (add_off FA.loff _ ()).2.1, (add_off FA.loff _ ()).2.2] at this; exact this))
      have OVA := Lib.hid (fun W q (hO : Obs w W [pdOb p2 bl2 bd2 S3, lgOb q p2 l2]) => show Calls Tryz.prog 13 #[dp q, dp p2] W (fun e w' => ∃ q2, e = .returned (dp q2) ∧ Obs w w' [pdOb p2 bl2 bd2 S3, lgOb q p2 l2, lgOb q2 p2 l2]) from over_o hO 1 rfl p2)
      have AD5 := Lib.hid (fun W q q2 (hO : Obs w W [pdOb p2 bl2 bd2 S3, lgOb q p2 l2, lgOb q2 p2 l2]) => show Calls Tryz.prog 11 #[dp q2, .string ⟨#[]⟩] W (fun e w' => e = .returned (.int .i64 7) ∧ Obs w w' [pdOb p2 bl2 bd2 S3, lgOb q p2 l2, lgOb q2 p2 l2]) from (by have := add_o hO 0 rfl 2 (by decide) rfl (by rw [FA.n3]; exact FA.k2) (by rw [FA.o3]; decide) [] (by decide); rw [(add_off FA.loff _ ()).1, (add_off FA.loff _ ()).2.1, (add_off FA.loff _ ()).2.2] at this; exact this))
      have HSA := Lib.hid (fun W q q2 (hO : Obs w W [pdOb p2 bl2 bd2 S3, lgOb q p2 l2, lgOb q2 p2 l2]) => show Calls Tryz.prog 20 #[dp p2, .int .i64 0, .int .i64 4294967295, .slice (some ⟨W.heap.size, 0, none⟩) 1 1] (W.alloc (.cells #[.string ⟨#[97, 98, 99]⟩] 9)) (fun e w' => e = .returned (.bool true) ∧ Obs w w' [pdOb p2 bl2 bd2 S3, lgOb q p2 l2, lgOb q2 p2 l2]) from (has12_any ((hO.alloc (.cells #[.string ⟨#[97, 98, 99]⟩] 9)).get (i := 0) rfl) 0 4294967295 (c := 1) (L := [[97, 98, 99]]) (TB.tx (xs := [[97, 98, 99]]) (heap_alloc_new W _)) (by decide)).mono fun e w' h => ⟨by rw [h.1, hasB_true (show HasB S3 0 4294967295 [[97, 98, 99]] from FA.hs)], (hO.alloc _).step h.2⟩)
      have NW8 := Lib.hid (fun W (hb : Below w.heap.size w W) => show Calls Tryz.prog 14 #[.int .i64 8] W (fun e w' => ∃ p bl bd, e = .returned (.tuple #[dp p, .int .i64 0]) ∧ Obs w w' [pdOb p bl bd (DS.new 8)]) from new_o ((Obs.start w).step hb) (n := 8) (by omega) (by omega))
      have BGC := Lib.hid (fun W p5 bl5 bd5 (hO : Obs w W [pdOb p5 bl5 bd5 (DS.new 8)]) => show Calls Tryz.prog 7 #[dp p5, .int .i64 0, .int .i64 7, .string ⟨#[115]⟩] W (fun e w' => ∃ q5, e = .returned (.tuple #[dp q5, .int .i64 0]) ∧ Obs w w' [pdOb p5 bl5 bd5 S4, lgOb q5 p5 l4]) from (by have := begin_ok_o hO 0 rfl (by decide) 0 7 [115] (by decide) FB.b; rw [FB.bs, FB.bl] at this; exact this))
      have CPC := Lib.hid (fun W p5 bl5 bd5 q5 (hO : Obs w W [pdOb p5 bl5 bd5 S4, lgOb q5 p5 l4]) => show Calls Tryz.prog 21 #[dp p5] W (fun e w' => ∃ p6 bl6 bd6, e = .returned (dp p6) ∧ Obs w w' [pdOb p5 bl5 bd5 S4, lgOb q5 p5 l4, pdOb p6 bl6 bd6 S4]) from copy_o hO 0 rfl)
      have OVC := Lib.hid (fun W p5 bl5 bd5 q5 p6 bl6 bd6 (hO : Obs w W [pdOb p5 bl5 bd5 S4, lgOb q5 p5 l4, pdOb p6 bl6 bd6 S4]) => show Calls Tryz.prog 13 #[dp q5, dp p6] W (fun e w' => ∃ q6, e = .returned (dp q6) ∧ Obs w w' [pdOb p5 bl5 bd5 S4, lgOb q5 p5 l4, pdOb p6 bl6 bd6 S4, lgOb q6 p6 l4]) from over_o hO 1 rfl p6)
      have ADR := Lib.hid (fun W p5 bl5 bd5 q5 p6 bl6 bd6 q6 (hO : Obs w W [pdOb p5 bl5 bd5 S4, lgOb q5 p5 l4, pdOb p6 bl6 bd6 S4, lgOb q6 p6 l4]) => show Calls Tryz.prog 11 #[dp q6, .string ⟨#[114]⟩] W (fun e w' => e = .returned (.int .i64 0) ∧ Obs w w' [pdOb p5 bl5 bd5 S4, lgOb q5 p5 l4, pdOb p6 bl6 bd6 S5, lgOb q6 p6 l5]) from (by have := add_o hO 2 rfl 3 (by decide) rfl (by rw [FB.n4]; exact FB.k4) (by rw [FB.o4]; decide) [114] (by decide); rw [FB.er, FB.sr, FB.lr] at this; exact this))
      have RMR := Lib.hid (fun W p5 bl5 bd5 q5 p6 bl6 bd6 q6 (hO : Obs w W [pdOb p5 bl5 bd5 S4, lgOb q5 p5 l4, pdOb p6 bl6 bd6 S5, lgOb q6 p6 l5]) => show Calls Tryz.prog 12 #[dp q6] W (fun e w' => e = .returned (.int .i64 2) ∧ Obs w w' [pdOb p5 bl5 bd5 S4, lgOb q5 p5 l4, pdOb p6 bl6 bd6 S5, lgOb q6 p6 l5]) from (by have := room_o hO 2 rfl 3 rfl (by rw [FB.n5]; exact FB.k5); rw [FB.n5, FB.r5] at this; exact this))
      have RML := Lib.hid (fun W p5 bl5 bd5 q5 p6 bl6 bd6 q6 (hO : Obs w W [pdOb p5 bl5 bd5 S4, lgOb q5 p5 l4, pdOb p6 bl6 bd6 S5, lgOb q6 p6 l5]) => show Calls Tryz.prog 12 #[dp q5] W (fun e w' => e = .returned (.int .i64 3) ∧ Obs w w' [pdOb p5 bl5 bd5 S4, lgOb q5 p5 l4, pdOb p6 bl6 bd6 S5, lgOb q6 p6 l5]) from (by have := room_o hO 0 rfl 1 rfl (by rw [FB.n4]; exact FB.k4); rw [FB.n4, FB.r4] at this; exact this))
      have HS1 := Lib.hid (fun W p5 bl5 bd5 q5 p6 bl6 bd6 q6 (hO : Obs w W [pdOb p5 bl5 bd5 S4, lgOb q5 p5 l4, pdOb p6 bl6 bd6 S5, lgOb q6 p6 l5]) => show Calls Tryz.prog 20 #[dp p5, .int .i64 0, .int .i64 7, .slice (some ⟨W.heap.size, 0, none⟩) 1 1] (W.alloc (.cells #[.string ⟨#[115]⟩] 9)) (fun e w' => e = .returned (.bool true) ∧ Obs w w' [pdOb p5 bl5 bd5 S4, lgOb q5 p5 l4, pdOb p6 bl6 bd6 S5, lgOb q6 p6 l5]) from (has12_any ((hO.alloc (.cells #[.string ⟨#[115]⟩] 9)).get (i := 0) rfl) 0 7 (c := 1) (L := [[115]]) (TB.tx (xs := [[115]]) (heap_alloc_new W _)) (by decide)).mono fun e w' h => ⟨by rw [h.1, hasB_true FB.h4], (hO.alloc _).step h.2⟩)
      have HS2 := Lib.hid (fun W p5 bl5 bd5 q5 p6 bl6 bd6 q6 (hO : Obs w W [pdOb p5 bl5 bd5 S4, lgOb q5 p5 l4, pdOb p6 bl6 bd6 S5, lgOb q6 p6 l5]) => show Calls Tryz.prog 20 #[dp p6, .int .i64 0, .int .i64 7, .slice (some ⟨W.heap.size, 0, none⟩) 2 2] (W.alloc (.cells #[.string ⟨#[115]⟩, .string ⟨#[114]⟩] 9)) (fun e w' => e = .returned (.bool true) ∧ Obs w w' [pdOb p5 bl5 bd5 S4, lgOb q5 p5 l4, pdOb p6 bl6 bd6 S5, lgOb q6 p6 l5]) from (has12_any ((hO.alloc (.cells #[.string ⟨#[115]⟩, .string ⟨#[114]⟩] 9)).get (i := 2) rfl) 0 7 (c := 2) (L := [[115], [114]]) (TB.tx (xs := [[115], [114]]) (heap_alloc_new W _)) (by decide)).mono fun e w' h => ⟨by rw [h.1, hasB_true FB.h5], (hO.alloc _).step h.2⟩)
      have ADT := Lib.hid (fun W p5 bl5 bd5 q5 p6 bl6 bd6 q6 (hO : Obs w W [pdOb p5 bl5 bd5 S4, lgOb q5 p5 l4, pdOb p6 bl6 bd6 S5, lgOb q6 p6 l5]) => show Calls Tryz.prog 11 #[dp q5, .string ⟨#[116]⟩] W (fun e w' => e = .returned (.int .i64 0) ∧ Obs w w' [pdOb p5 bl5 bd5 S6, lgOb q5 p5 l6, pdOb p6 bl6 bd6 S5, lgOb q6 p6 l5]) from (by have := add_o hO 0 rfl 1 (by decide) rfl (by rw [FB.n4]; exact FB.k4) (by rw [FB.o4]; decide) [116] (by decide); rw [FB.et, FB.st, FB.lt] at this; exact this))
      have HS3 := Lib.hid (fun W p5 bl5 bd5 q5 p6 bl6 bd6 q6 (hO : Obs w W [pdOb p5 bl5 bd5 S6, lgOb q5 p5 l6, pdOb p6 bl6 bd6 S5, lgOb q6 p6 l5]) => show Calls Tryz.prog 20 #[dp p5, .int .i64 0, .int .i64 7, .slice (some ⟨W.heap.size, 0, none⟩) 2 2] (W.alloc (.cells #[.string ⟨#[115]⟩, .string ⟨#[116]⟩] 9)) (fun e w' => e = .returned (.bool true) ∧ Obs w w' [pdOb p5 bl5 bd5 S6, lgOb q5 p5 l6, pdOb p6 bl6 bd6 S5, lgOb q6 p6 l5]) from (has12_any ((hO.alloc (.cells #[.string ⟨#[115]⟩, .string ⟨#[116]⟩] 9)).get (i := 0) rfl) 0 7 (c := 2) (L := [[115], [116]]) (TB.tx (xs := [[115], [116]]) (heap_alloc_new W _)) (by decide)).mono fun e w' h => ⟨by rw [h.1, hasB_true FB.h6], (hO.alloc _).step h.2⟩)
      have HS4 := Lib.hid (fun W p5 bl5 bd5 q5 p6 bl6 bd6 q6 (hO : Obs w W [pdOb p5 bl5 bd5 S6, lgOb q5 p5 l6, pdOb p6 bl6 bd6 S5, lgOb q6 p6 l5]) => show Calls Tryz.prog 20 #[dp p6, .int .i64 0, .int .i64 7, .slice (some ⟨W.heap.size, 0, none⟩) 2 2] (W.alloc (.cells #[.string ⟨#[115]⟩, .string ⟨#[114]⟩] 9)) (fun e w' => e = .returned (.bool true) ∧ Obs w w' [pdOb p5 bl5 bd5 S6, lgOb q5 p5 l6, pdOb p6 bl6 bd6 S5, lgOb q6 p6 l5]) from (has12_any ((hO.alloc (.cells #[.string ⟨#[115]⟩, .string ⟨#[114]⟩] 9)).get (i := 2) rfl) 0 7 (c := 2) (L := [[115], [114]]) (TB.tx (xs := [[115], [114]]) (heap_alloc_new W _)) (by decide)).mono fun e w' h => ⟨by rw [h.1, hasB_true FB.h5], (hO.alloc _).step h.2⟩)
      clear FO FA FB
      have MK1 : ∀ W : World, (Instr.makeSlice 44 (.int .i64 110) (.int .i64 110)).run Tryz.prog W = .ok (.slice (some ⟨W.heap.size, 0, none⟩) 110 110) (W.alloc (.cells (cellsOfF (List.replicate 110 0)).toArray 5)) := fun W => make_bytes 110 (by decide) W
      have MK3 : ∀ W : World, (Instr.makeSlice 44 (.int .i64 300) (.int .i64 300)).run Tryz.prog W = .ok (.slice (some ⟨W.heap.size, 0, none⟩) 300 300) (W.alloc (.cells (cellsOfF (List.replicate 300 0)).toArray 5)) := fun W => make_bytes 300 (by decide) W
      have CV1 : ∀ W : World, (convert 44 9 (.slice (some ⟨W.heap.size, 0, none⟩) 110 110)).run Tryz.prog (W.alloc (.cells (cellsOfF (List.replicate 110 0)).toArray 5)) = .ok (sv z110) (W.alloc (.cells (cellsOfF (List.replicate 110 0)).toArray 5)) := fun W => conv_made 110 W
      have CV3 : ∀ W : World, (convert 44 9 (.slice (some ⟨W.heap.size, 0, none⟩) 300 300)).run Tryz.prog (W.alloc (.cells (cellsOfF (List.replicate 300 0)).toArray 5)) = .ok (sv z300) (W.alloc (.cells (cellsOfF (List.replicate 300 0)).toArray 5)) := fun W => conv_made 300 W
      generalize (cellsOfF (List.replicate 110 0)).toArray = C110 at MK1 CV1
      generalize (cellsOfF (List.replicate 300 0)).toArray = C300 at MK3 CV3
      go_wp2_with (first
        | (go_at_call 16; with_reducible refine (HFA.out _).mono ?_; rintro e yy ⟨rfl, rfl⟩)
        | (go_at_call 16; with_reducible refine (HFB.out _).mono ?_; rintro e yy ⟨rfl, rfl⟩)
        | (go_at_call 16; with_reducible refine (HFC.out _).mono ?_; rintro e yy ⟨rfl, rfl⟩)
        | (go_at_call 7; with_reducible refine (BGC.out _ _ _ _ t1).mono ?_; rintro e yy ⟨q5, rfl, t2⟩)
        | (go_at_call 7; with_reducible refine (BGB.out _ q s3).mono ?_; rintro e yy ⟨rfl, s4⟩)
        | (go_at_call 7; with_reducible refine (BGA.out _ r1).mono ?_; rintro e yy ⟨q, rfl, r2⟩)
        | (go_at_call 17; with_reducible refine (OPA.out _ q r2).mono ?_; rintro e yy ⟨rfl, r3⟩)
        | (go_at_call 15; with_reducible refine (TPA.out _ q r3).mono ?_; rintro e yy ⟨rfl, r4⟩)
        | (go_at_call 18; with_reducible refine (FLA.out _ q r4).mono ?_; rintro e yy ⟨rfl, r5⟩)
        | (go_at_call 8; with_reducible refine (SCC.out _ q s1).mono ?_; rintro e yy ⟨a3, v3, rfl, s2⟩)
        | (go_at_call 8; with_reducible refine (SCB.out _ q (r5.alloc _)).mono ?_; rintro e yy ⟨a2, v2, rfl, r6⟩)
        | (go_at_call 8; with_reducible refine (SCA.out _ hO7).mono ?_; rintro e yy ⟨a1, v1, rfl, r1⟩)
        | (go_at_call 11; with_reducible refine (ADT.out _ _ _ _ _ _ _ _ _ t9).mono ?_; rintro e yy ⟨rfl, t10⟩)
        | (go_at_call 11; with_reducible refine (ADR.out _ _ _ _ _ _ _ _ _ t4).mono ?_; rintro e yy ⟨rfl, t5⟩)
        | (go_at_call 11; with_reducible refine (AD5.out _ q q2 s7).mono ?_; rintro e yy ⟨rfl, s8⟩)
        | (go_at_call 11; with_reducible refine (AD4.out _ q s5).mono ?_; rintro e yy ⟨rfl, s6⟩)
        | (go_at_call 11; with_reducible refine (AD0.out _ q r8).mono ?_; rintro e yy ⟨rfl, r9⟩)
        | (go_at_call 11; with_reducible refine (AD1.out _ q r7).mono ?_; rintro e yy ⟨rfl, r8⟩)
        | (go_at_call 11; with_reducible refine (AD3.out _ q (r6.alloc _)).mono ?_; rintro e yy ⟨rfl, r7⟩)
        | (go_at_call 12; with_reducible refine (RML.out _ _ _ _ _ _ _ _ _ t6).mono ?_; rintro e yy ⟨rfl, t7⟩)
        | (go_at_call 12; with_reducible refine (RMR.out _ _ _ _ _ _ _ _ _ t5).mono ?_; rintro e yy ⟨rfl, t6⟩)
        | (go_at_call 12; with_reducible refine (RMA.out _ q r9).mono ?_; rintro e yy ⟨rfl, s1⟩)
        | (go_at_call 9; with_reducible refine (TPB.out _ q s2).mono ?_; rintro e yy ⟨a4, rfl, s3⟩)
        | (go_at_call 19; with_reducible refine (BTA.out _ q s4).mono ?_; rintro e yy ⟨rfl, s5⟩)
        | (go_at_call 13; with_reducible refine (OVC.out _ _ _ _ _ _ _ _ t3).mono ?_; rintro e yy ⟨q6, rfl, t4⟩)
        | (go_at_call 13; with_reducible refine (OVA.out _ q s6).mono ?_; rintro e yy ⟨q2, rfl, s7⟩)
        | (go_at_call 20; with_reducible refine (HS4.out _ _ _ _ _ _ _ _ _ t11).mono ?_; rintro e yy ⟨rfl, t12⟩)
        | (go_at_call 20; with_reducible refine (HS3.out _ _ _ _ _ _ _ _ _ t10).mono ?_; rintro e yy ⟨rfl, t11⟩)
        | (go_at_call 20; with_reducible refine (HS2.out _ _ _ _ _ _ _ _ _ t8).mono ?_; rintro e yy ⟨rfl, t9⟩)
        | (go_at_call 20; with_reducible refine (HS1.out _ _ _ _ _ _ _ _ _ t7).mono ?_; rintro e yy ⟨rfl, t8⟩)
        | (go_at_call 20; with_reducible refine (HSA.out _ q q2 s8).mono ?_; rintro e yy ⟨rfl, s9⟩)
        | (go_at_call 14; with_reducible refine (NW8.out _ s9.bel).mono ?_; rintro e yy ⟨p5, bl5, bd5, rfl, t1⟩)
        | (go_at_call 21; with_reducible refine (CPC.out _ _ _ _ _ t2).mono ?_; rintro e yy ⟨p6, bl6, bd6, rfl, t3⟩))
      go_ret
      exact ⟨rfl, t12.bel⟩
end Go.Proofs.YthfnncahmccgkaaGreatDoor
