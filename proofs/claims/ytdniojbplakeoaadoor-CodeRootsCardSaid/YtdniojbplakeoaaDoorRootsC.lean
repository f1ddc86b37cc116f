/-
  CodeRoots: the walk.
-/
import Derived.Test.YtdniojbplakeoaaDoorRtWords
import Derived.Test.YtdniojbplakeoaaDoorRSum
import Derived.Deep.QuietTactic
namespace Go.Proofs.YtdniojbplakeoaaDoor
open Go Go.RowKit Go.Shelf
set_option maxRecDepth 100000

/-- A block that holds the row's words. -/
structure FW (W : World) (g : Nat) (xs : List Int) : Prop where
  lt : g < W.heap.size
  at_ : ∀ j, j < xs.length → W.cell? ⟨g, j, none⟩ = some (.int .u32 (xs.getD j 0))
theorem FW.below {W W' : World} {g : Nat} {xs : List Int} (h : FW W g xs) (hb : Below W.heap.size W W') : FW W' g xs :=
  ⟨Nat.lt_of_lt_of_le h.lt hb.size, fun j hj => (hb.cell (p := ⟨g, j, none⟩) h.lt).trans (h.at_ j hj)⟩
theorem fw_own {W : World} {n m : Nat} {v : Value} {l : List Value} {xs : List Int} (h : W.ownsRow n 40 1 v m l) (e : l = xs.map (Value.int .u32)) (hm : m = xs.length) (hp : 0 < m) : ∃ g cap, v = .slice (some ⟨g, 0, none⟩) m cap ∧ FW W g xs := by
  subst e
  obtain ⟨g, cap, rfl, _, hg⟩ := h.form hp
  refine ⟨g, cap, rfl, hg, fun j hj => ?_⟩
  rw [h.cellAt j (by omega), List.getElem?_map, List.getD_eq_getElem?_getD]
  simp [hj]
theorem fw_blk {W : World} {g : Nat} {xs : List Int} (h : W.heap[g]? = some (.cells (xs.map (Value.int .u32)).toArray 40 (0, 0))) : FW W g xs := by
  refine ⟨lt_of_blk h, fun j hj => ?_⟩
  rw [cell_of_row W g j _ _ (0, 0) h, List.getD_eq_getElem?_getD]
  simp [hj]

def rootsT : List UInt8 := [114, 111, 111, 116, 115]
theorem codeRoots_walk (w : World) (hw : LW w) : Calls Tryd.prog 10 #[] w fun e w' => e = .returned (.bool true) ∧ Below w.heap.size w w' := by
  have B0 := BL.start hw
  clear hw
  obtain ⟨t, ht⟩ : ∃ t, sumP rootsT = t := ⟨_, rfl⟩
  have H1 := Lib.hid (fun (W : World) (B : BL w W) => sum_of ht (by decide) W B.lw)
  have H2 := Lib.hid (show ∀ W : World, BL w W → Calls Tryd.prog 26 #[.string (str rootsT)] W fun e w' => e = .returned (sv t) ∧ Below W.heap.size W w' from fun W B => by rw [← ht]; exact rsum_any rootsT W (by decide))
  clear ht
  have E1 := Lib.hid (show (rowH 64).map u32v = firstZ.map (Value.int .u32) by rw [show firstZ = (rowH 64).map Int.ofNat from by rw [rowH_is]; decide +kernel, List.map_map]; rfl)
  have E2 := Lib.hid (show (rowK 64).map u32v = roundZ.map (Value.int .u32) by rw [show roundZ = (rowK 64).map Int.ofNat from by rw [rowK_is]; decide +kernel, List.map_map]; rfl)
  have L1 := Lib.hid (show (rowH 64).length = 8 by rw [rowH_is]; rfl)
  have L2 := Lib.hid (show (rowK 64).length = 64 by rw [rowK_is]; rfl)
  have M1 := Lib.hid (show firstZ.length = 8 by decide +kernel)
  have M2 := Lib.hid (show roundZ.length = 64 by decide +kernel)
  go_enter Tryd.func10, Tryd.ntmps10
  go_wp2_with fail
  refine (Roots_any w).mono ?_
  rintro e w1 ⟨u, v, rfl, hb1, hu, hv⟩
  rw [L1.out] at hu
  rw [L2.out] at hv
  obtain ⟨g1, c1, rfl, f1⟩ := fw_own hu E1.out (by rw [M1.out]) (by decide)
  obtain ⟨g2, c2, rfl, f2⟩ := fw_own hv E2.out (by rw [M2.out]) (by decide)
  have B1 := B0.step hb1
  have HF1 := Lib.hid f1
  have HF2 := Lib.hid f2
  clear hu hv hb1 f1 f2
  go_wp2_with fail
  refine (rwords_any w1).mono ?_
  rintro e w2 ⟨g3, g4, rfl, -, -, hg3, hg4, hb2⟩
  have B2 := B1.step hb2
  have HF3 := Lib.hid (fw_blk hg3)
  have HF4 := Lib.hid (fw_blk hg4)
  have HG1 := Lib.hid (HF1.out.below hb2)
  have HG2 := Lib.hid (HF2.out.below hb2)
  clear hg3 hg4 hb2
  go_wp2_with fail
  refine (H1.out _ B2).mono ?_
  rintro e w3 ⟨rfl, hb3⟩
  have B3 := B2.step hb3
  go_wp2_with fail
  refine (H2.out _ B3).mono ?_
  rintro e w4 ⟨rfl, hb4⟩
  have B4 := B3.step hb4
  have HB := Lib.hid (hb3.trans (hb4.mono hb3.size))
  have K1 := Lib.hid (HG1.out.below HB.out)
  have K2 := Lib.hid (HG2.out.below HB.out)
  have K3 := Lib.hid (HF3.out.below HB.out)
  have K4 := Lib.hid (HF4.out.below HB.out)
  clear hb3 hb4 HB HF1 HF2 HF3 HF4 HG1 HG2 H1 H2 B0 B1 B2 B3
  go_wp2_with fail
  go_loopw [5] (fun iv W => ∃ i : Nat, i ≤ 64 ∧ iv = .int .i64 i ∧ Below w4.heap.size w4 W) (fun iv _ => 64 - (intOf iv).toNat)
  case atStart => exact ⟨0, by omega, by go_num, Below.refl _ _⟩
  case round =>
    obtain ⟨i, hi, rfl, hb⟩ := hrel
    have HBI := Lib.hid hb
    by_cases hlt : i < 64
    · obtain ⟨y, hy⟩ : ∃ y, roundZ.getD i 0 = y := ⟨_, rfl⟩
      have y2 := (K2.out.below hb).at_ i (by rw [M2.out]; exact hlt)
      have y4 := (K4.out.below hb).at_ i (by rw [M2.out]; exact hlt)
      rw [hy] at y2 y4
      have q0 : (i : Int) < 64 := by omega
      have s0 : IntKind.i64.wrap (i : Int) = (i : Int) := IntWalk.i64_in _ (by omega)
      by_cases h8 : i < 8
      · obtain ⟨x, hx⟩ : ∃ x, firstZ.getD i 0 = x := ⟨_, rfl⟩
        have x1 := (K1.out.below hb).at_ i (by rw [M1.out]; exact h8)
        have x3 := (K3.out.below hb).at_ i (by rw [M1.out]; exact h8)
        rw [hx] at x1 x3
        have q8 : (i : Int) < 8 := by omega
        clear hb hx hy hi
        go_wp2_with fail
        go_quiet (fail)
        go_wp2_with fail
        exact ⟨⟨i + 1, by omega, by go_num, below_drewN HBI.out _⟩, by simp [intOf]; omega⟩
      · have q8 : decide ((i : Int) < 8) = false := by simp; omega
        clear hb hy hi
        go_wp2_with fail
        go_quiet (fail)
        go_wp2_with fail
        exact ⟨⟨i + 1, by omega, by go_num, below_drewN HBI.out _⟩, by simp [intOf]; omega⟩
    · obtain rfl : i = 64 := by omega
      have B5 := B4.step hb
      clear hb HBI
      go_wp2_with fail
      refine (bl_works B5).mono ?_
      rintro e w6 ⟨rfl, B6⟩
      go_wp2
      go_ret
      exact ⟨rfl, B6.below⟩
end Go.Proofs.YtdniojbplakeoaaDoor
