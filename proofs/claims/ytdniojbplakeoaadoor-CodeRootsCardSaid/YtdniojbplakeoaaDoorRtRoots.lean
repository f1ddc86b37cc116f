/-
  The contract of the reference's Roots.
-/
import Derived.Test.YtdniojbplakeoaaDoorRtRows
namespace Go.Proofs.YtdniojbplakeoaaDoor
open Go Go.RowKit Go.Shelf
set_option maxRecDepth 100000
set_option linter.unusedVariables false
set_option linter.unusedSimpArgs false

theorem owns_less32 {W : World} {a b n : Nat} {v : Value} {xs : List Value} (h : W.ownsRow a 40 1 v n xs) (hb : b ≤ a) : W.ownsRow b 40 1 v n xs := by
  refine ⟨h.1, h.2.imp id ?_⟩
  rintro ⟨g, cap, cur, e, hg, rest⟩
  exact ⟨g, cap, cur, e, by omega, rest⟩
set_option maxHeartbeats 8000000 in
theorem Roots_any (w : World) : Calls Tryd.prog 27 #[] w fun e w' => ∃ u v, e = .returned (.tuple #[u, v]) ∧ Below w.heap.size w w' ∧ w'.ownsRow w.heap.size 40 1 u (rowH 64).length ((rowH 64).map u32v) ∧ w'.ownsRow w.heap.size 40 1 v (rowK 64).length ((rowK 64).map u32v) := by
  have HP := Lib.hid (primes_any w)
  have HPS := Lib.hid primeS_full.1
  have HPOS := Lib.hid (primeS_pos 310)
  go_enter Tryd.func27, Tryd.ntmps27
  go_wp2_with fail
  refine (HP.out).mono ?_
  rintro e w1 ⟨lv, rfl, hu, hb⟩
  obtain ⟨A, c, rfl, -⟩ := id hu
  rw [HPS.out] at hu ⊢
  have HU := Lib.hid hu
  have HB := Lib.hid hb
  have HQ := Lib.hid (show QI w1 0 (.slice none 0 0) (.slice none 0 0) w1 from ⟨Below.refl _ _, World.ownsRow_nil _ _ _ _, World.ownsRow_nil _ _ _ _, fun g e => by simp [Value.ownBlock] at e⟩)
  clear hu hb
  go_wp2_with fail
  go_loopw [2, 3, 5] (fun hv kv iv W => ∃ i : Nat, i ≤ 64 ∧ iv = .int .i64 i ∧ QI w1 i hv kv W) (fun _ _ iv _ => 64 - (intOf iv).toNat)
  case atStart => exact ⟨0, by omega, rfl, HQ.out⟩
  case round =>
    obtain ⟨i, hi, rfl, hq⟩ := hrel
    have HQI := Lib.hid hq
    by_cases hlt : i < 64
    · have hip : i < (primeS 310).length := by rw [HPS.out]; exact hlt
      obtain ⟨b, rfl, hbl, hc⟩ := HU.out.at_ hip
      obtain ⟨p, hp⟩ : ∃ p, p = (primeS 310)[i] := ⟨_, rfl⟩
      rw [← hp] at hc
      have hpb : p < 1000000 := by have := HPOS.out p (by rw [hp]; exact List.getElem_mem hip); omega
      have HR2 := Lib.hid (fun W => root_any p 2 W hpb (.inl rfl))
      have HR3 := Lib.hid (fun W => root_any p 3 W hpb (.inr rfl))
      have e2 : rootG p 2 41 0 % 4294967296 = r2 p := rfl
      have e3 : rootG p 3 41 0 % 4294967296 = r3 p := rfl
      rw [e2] at HR2
      rw [e3] at HR3
      generalize hx2 : r2 p = x2 at HR2
      generalize hx3 : r3 p = x3 at HR3
      have HK1 := Lib.hid (show rowK (i + 1) = rowK i ++ [x3] by rw [← hx3]; exact rowK_succ hip hp)
      have HCB := Lib.hid (show ∀ W, Below w1.heap.size w1 W → W.cell? ⟨b, i, none⟩ = some (.int .u64 (p : Int)) from fun W h => (h.cell (p := ⟨b, i, none⟩) hbl).trans hc)
      have HLK := Lib.hid (show (rowK i).length ≤ 1000 by unfold rowK; rw [List.length_map, List.length_take]; omega)
      have HLH := Lib.hid (show (rowH i).length ≤ 1000 by unfold rowH; rw [List.length_map, List.length_take]; omega)
      have q1 := HCB.out wr hq.b
      by_cases h8 : i < 8
      · have HH1 := Lib.hid (show rowH (i + 1) = rowH i ++ [x2] by rw [← hx2]; exact rowH_succ hip h8 hp)
        clear hq hp hc hx2 hx3 e2 e3
        go_wp2_with fail
        refine (HR2.out _).mono ?_
        rintro e w2 ⟨rfl, hb2⟩
        have HQ2 := Lib.hid (HQI.out.below hb2)
        have HZ2 := Lib.hid HQ2.out.b.size
        clear hb2 q1
        go_wp2_with (at_builtin; refine row_append32 HQ2.out.h HZ2.out HLH.out x2 _ rfl _ _ rfl rfl rfl _ rfl ?_; intro g cap w3 hown hgr hor; have HG := Lib.hid (HQ2.out.growH hown hgr hor); have HOW := Lib.hid hown; have q3 := HCB.out w3 HG.out.1; clear hown hgr hor)
        refine (HR3.out _).mono ?_
        rintro e w4 ⟨rfl, hb4⟩
        have HB4 := Lib.hid (HG.out.1.trans (hb4.mono HG.out.1.size))
        have HZ4 := Lib.hid HB4.out.size
        have HH4 := Lib.hid (show w4.ownsRow w1.heap.size 40 1 (.slice (some ⟨g, 0, none⟩) ((rowH i).length + 1) cap) (rowH (i + 1)).length ((rowH (i + 1)).map u32v) by
          rw [HH1.out, List.length_append]; exact owns_below HOW.out hb4)
        have HK4 := Lib.hid (owns_below HG.out.2.1 hb4)
        clear hb4 q3
        go_wp2_with (at_builtin; refine row_append32 HK4.out HZ4.out HLK.out x3 _ rfl _ _ rfl rfl rfl _ rfl ?_; intro g5 cap5 w5 hown hgr hor; have HG5 := Lib.hid (QI.growK (i := i) (cap := cap5) (t := x3) HB4.out HH4.out HK4.out HG.out.2.2 hgr hor); have HF := Lib.hid (show QI w1 (i + 1) (.slice (some ⟨g, 0, none⟩) ((rowH i).length + 1) cap) (.slice (some ⟨g5, 0, none⟩) ((rowK i).length + 1) cap5) w5 from ⟨HG5.out.1, HG5.out.2.1, by rw [HK1.out, List.length_append]; exact hown, HG5.out.2.2⟩); clear hown hgr hor)
        go_roundw
        case rel => exact ⟨i + 1, by omega, by go_num, HF.out⟩
        case measure => simp [intOf]; omega
      · have HH1 := Lib.hid (rowH_same (show 8 ≤ i by omega))
        clear hq hp hc hx2 hx3 e2 e3
        go_wp2_with fail
        refine (HR3.out _).mono ?_
        rintro e w4 ⟨rfl, hb4⟩
        have HQ4 := Lib.hid (HQI.out.below hb4)
        have HZ4 := Lib.hid HQ4.out.b.size
        clear hb4 q1
        go_wp2_with (at_builtin; refine row_append32 HQ4.out.k HZ4.out HLK.out x3 _ rfl _ _ rfl rfl rfl _ rfl ?_; intro g5 cap5 w5 hown hgr hor; have HG5 := Lib.hid (QI.growK (i := i) (cap := cap5) (t := x3) HQ4.out.b HQ4.out.h HQ4.out.k HQ4.out.ne hgr hor); have HF := Lib.hid (show QI w1 (i + 1) _ (.slice (some ⟨g5, 0, none⟩) ((rowK i).length + 1) cap5) w5 from ⟨HG5.out.1, by rw [HH1.out]; exact HG5.out.2.1, by rw [HK1.out, List.length_append]; exact hown, HG5.out.2.2⟩); clear hown hgr hor)
        go_roundw
        case rel => exact ⟨i + 1, by omega, by go_num, HF.out⟩
        case measure => simp [intOf]; omega
    · obtain rfl : i = 64 := by omega
      have HE := Lib.hid (show Below w.heap.size w wr from HB.out.trans (hq.b.mono HB.out.size))
      have HL := Lib.hid (show w.heap.size ≤ w1.heap.size from HB.out.size)
      clear hq
      go_wp2_with fail
      go_ret2
      exact ⟨_, _, rfl, HE.out, owns_less32 HQI.out.h HL.out, owns_less32 HQI.out.k HL.out⟩
end Go.Proofs.YtdniojbplakeoaaDoor
