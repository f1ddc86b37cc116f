/-
  DerNames, walked.
-/
import Derived.Deep.RegionHeld3
import Derived.Test.YtablllincjoabaaENamesA
namespace Go.Proofs.Ytablllincjoabaa
set_option linter.unusedSimpArgs false
set_option linter.unusedVariables false
open Go Go.RowKit
set_option maxRecDepth 100000

set_option maxHeartbeats 32000000 in
theorem derNames_walk {w : World} : Calls Try.prog 3 #[] w fun e w' => e = .returned (.bool true) ∧ Below w.heap.size w w' := by
  have HAW := Lib.hid (fun W (h : Bh w W) => show Calls Try.prog 9 #[] W (fun e w' => e = .returned (.bool true) ∧ Bh w w') from (awake_any W).mono fun e w' ⟨h1, h2⟩ => ⟨h1, h.step h2⟩)
  have hB0 : Bh w w := Below.refl _ _
  go_enter Try.func3, Try.ntmps3
  go_wp2_with (go_at_call 9; with_reducible refine (HAW.out _ (by assumption)).mono ?_; rintro e w1 ⟨rfl, hb1⟩)
  have HB1 := Lib.hid (show Bh w (w1.alloc (.cells (nLens.map iv0).toArray 3)) from hb1.step (below_alloc _ _))
  have hLB := LB.new w1 3 (nLens.map iv0)
  obtain ⟨X, hX⟩ : ∃ X, X = w1.alloc (.cells (nLens.map iv0).toArray 3) := ⟨_, rfl⟩
  obtain ⟨b, hb⟩ : ∃ b, b = w1.heap.size := ⟨_, rfl⟩
  rw [← hX] at HB1
  rw [← hX, ← hb] at hLB
  change Code.wp _ _ _ _ (w1.alloc (.cells (nLens.map iv0).toArray 3))
  rw [← hX, ← hb]
  have HLB := Lib.hid hLB
  clear HAW hB0 hb1 hX hb hLB
  go_loopw [55] (fun i wr => ∃ k : Nat, k ≤ 7 ∧ i = .int .i64 k ∧ Bh X wr) (fun i _ => 7 - (intOf i).toNat)
  case atStart => exact ⟨0, by omega, rfl, Below.refl _ _⟩
  case round =>
    obtain ⟨k, hk, rfl, hbr⟩ := hrel
    by_cases hlt : k < 7
    · have c0 := (HLB.out.below hbr HLB.out.lt).cell (k := k) (by simpa [nLens] using hlt)
      rw [map_at iv0 nLens 0 (by simpa [nLens] using hlt)] at c0
      have hn := nLens_ok k hlt
      obtain ⟨n, hne⟩ : ∃ n, n = nLens.getD k 0 := ⟨_, rfl⟩
      rw [← hne] at c0 hn
      unfold iv0 at c0
      have hlt' : (k : Int) < 7 := by omega
      obtain ⟨M, hM⟩ : ∃ M, M = List.replicate n (7 : UInt8) := ⟨_, rfl⟩
      have lM : M.length = n := by rw [hM]; simp
      obtain ⟨P, hP⟩ : ∃ P, P = putT 48 M := ⟨_, rfl⟩
      have lP := putT_length 48 M
      have lL := lenL_length M.length
      rw [← hP] at lP
      obtain ⟨m, hm⟩ : ∃ m, P.length = m + 1 := ⟨P.length - 1, by omega⟩
      have hwr := wrong_cut (t := 48) (v := M) (by decide) (by omega) (m := m) (by rw [← hP]; exact hm)
      rw [← hP] at hwr
      have MA := Lib.hid (fun W (h : Bh X W) => show Calls Try.prog 11 #[.int .u8 7, .int .i64 (n : Int)] W (fun e w' => e = .returned (sv M) ∧ Bh X w' ∧ Below W.heap.size W w') from (@many_any W 7 n (by omega)).mono fun e w' ⟨h1, h2⟩ => ⟨by rw [← hM] at h1; exact h1, h.step h2, h2⟩)
      have PU := Lib.hid (fun W (h : Bh X W) => show Calls Try.prog 10 #[.agg #[.int .u8 48, sv M]] W (fun e w' => e = .returned (.tuple #[sv P, .int .i64 0]) ∧ Bh X w' ∧ Below W.heap.size W w') from (@put_any W 48 M (by omega)).mono fun e w' ⟨h1, h2⟩ => ⟨by obtain ⟨e1, e2⟩ := putE_ok (t := 48) (v := M) (by decide) (by omega); rw [e1, e2, ← hP] at h1; exact h1, h.step h2, h2⟩)
      have GE := Lib.hid (fun W (h : Bh X W) => show Calls Try.prog 12 #[sv (P ++ [122])] W (fun e w' => e = .returned (.tuple #[.agg #[.int .u8 48, sv M], .string ⟨#[122]⟩, .int .i64 0]) ∧ Bh X w' ∧ Below W.heap.size W w') from (@get_any W (P ++ [122]) (by simp; omega)).mono fun e w' ⟨h1, h2⟩ => ⟨by rw [hP, cutP_put 48 M [122] (by decide) (by omega)] at h1; exact h1, h.step h2, h2⟩)
      have WR := Lib.hid (fun W (h : Bh X W) => show Calls Try.prog 13 #[sv (P.take m)] W (fun e w' => e = .returned (.int .i64 8) ∧ Bh X w' ∧ Below W.heap.size W w') from (@wrong_any W (P.take m) (by rw [List.length_take]; omega)).mono fun e w' ⟨h1, h2⟩ => ⟨by rw [hwr] at h1; exact h1, h.step h2, h2⟩)
      have hcat : str P ++ (⟨#[122]⟩ : ByteArray) = str (P ++ [122]) := str_append P [122]
      have hzP := str_size P
      have hPl : P.length ≤ 70000 := by omega
      have hex : (str P).extract 0 m = str (P.take m) := by rw [str_extract]; simp
      have hmi : (P.length : Int) - 1 = (m : Int) := by omega
      have hml : (m : Int) ≤ (P.length : Int) := by omega
      have hm0 : m ≤ P.length := by omega
      have hmw : IntKind.i64.wrap (m : Int) = (m : Int) := by rw [IntKind.wrap_i64]; omega
      have HBR := Lib.hid hbr
      clear hbr hne hM hP lP lL hwr hm
      go_wp2_with (first
        | (go_at_call 11; with_reducible refine (MA.out _ HBR.out).mono ?_; rintro e w2 ⟨rfl, hb2, hs2⟩)
        | (go_at_call 10; with_reducible refine (PU.out _ hb2).mono ?_; rintro e w3 ⟨rfl, hb3, hs3⟩)
        | (go_at_call 12; with_reducible refine (GE.out _ hb3).mono ?_; rintro e w4 ⟨rfl, hb4, hs4⟩))
      have hI4 : IB (w4.alloc (.cells #[.int .u8 48, .string (str M)] 29)) w4.heap.size 48 M := IB.new w4 48 M
      have hB4 : Bh X (w4.alloc (.cells #[.int .u8 48, .string (str M)] 29)) := hb4.step (below_alloc _ _)
      obtain ⟨X4, hX4⟩ : ∃ X4, X4 = w4.alloc (.cells #[.int .u8 48, .string (str M)] 29) := ⟨_, rfl⟩
      obtain ⟨k5, hk5⟩ : ∃ k, k = w4.heap.size := ⟨_, rfl⟩
      rw [← hX4] at hI4 hB4
      rw [← hk5] at hI4
      rw [← hX4, ← hk5]
      have HKP := Lib.hid (fun W (h : Below X4.heap.size X4 W) => show Bh X W ∧ W.cell? ⟨k5, 0, none⟩ = some (.int .u8 48) ∧ W.cell? ⟨k5, 1, none⟩ = some (sv M) from ⟨hB4.step h, (hI4.below h hI4.lt).c0, (hI4.below h hI4.lt).c1⟩)
      have MA4 := Lib.hid (fun W (h : Below X4.heap.size X4 W) => show Calls Try.prog 11 #[.int .u8 7, .int .i64 (n : Int)] W (fun e w' => e = .returned (sv M) ∧ Below X4.heap.size X4 w') from (MA.out W (hB4.step h)).mono fun e w' ⟨h1, h2, h3⟩ => ⟨h1, h.trans (h3.mono h.size)⟩)
      have WR4 := Lib.hid (fun W (h : Below X4.heap.size X4 W) => show Calls Try.prog 13 #[sv (P.take m)] W (fun e w' => e = .returned (.int .i64 8) ∧ Below X4.heap.size X4 w') from (WR.out W (hB4.step h)).mono fun e w' ⟨h1, h2, h3⟩ => ⟨h1, h.trans (h3.mono h.size)⟩)
      have hR : Below X4.heap.size X4 X4 := Below.refl _ _
      clear MA PU GE WR hI4 hX4 hk5 hb2 hb3 hb4 hs2 hs3 hs4
      refine wp_region_held_drew (S := fun W => Below X4.heap.size X4 W) (by kernel_rfl) (Below.refl _ _).drew (fun hHeld => ?_)
      refine wpAnyH_take (i := 0) (v := ?vv0_1) rfl (by kernel_rfl) (by kernel_rfl) (by kernel_rfl) (fun _ _ _ h => h) (Or.inl ⟨by rfl, ?hy0_1⟩) (by assumption) ?rest0_1
      case hy0_1 => (intro w' hSw; (try dsimp only at hSw); go_simp; try with_reducible rfl)
      try simp only [List.getElem_toArray, List.getElem_cons_zero, List.getElem_cons_succ, Act.put, List.setIfInBounds_toArray, List.set_cons_zero, List.set_cons_succ]
      refine wpAnyH_take (i := 1) (v := ?vv1_1) rfl (by kernel_rfl) (by kernel_rfl) (by kernel_rfl) (fun _ _ _ h => h) (Or.inl ⟨by rfl, ?hy1_1⟩) (by assumption) ?rest1_1
      case hy1_1 => (intro w' hSw; (try dsimp only at hSw); go_simp; try with_reducible rfl)
      try simp only [List.getElem_toArray, List.getElem_cons_zero, List.getElem_cons_succ, Act.put, List.setIfInBounds_toArray, List.set_cons_zero, List.set_cons_succ]
      refine wpAnyH_take (i := 2) (v := ?vv2_1) rfl (by kernel_rfl) (by kernel_rfl) (by kernel_rfl) (fun _ _ _ h => h) (Or.inl ⟨by rfl, ?hy2_1⟩) (by assumption) ?rest2_1
      case hy2_1 => (intro w' hSw; (try dsimp only at hSw); go_simp; try with_reducible rfl)
      try simp only [List.getElem_toArray, List.getElem_cons_zero, List.getElem_cons_succ, Act.put, List.setIfInBounds_toArray, List.set_cons_zero, List.set_cons_succ]
      refine wpAnyH_take (i := 3) (v := ?vv3_1) rfl (by kernel_rfl) (by kernel_rfl) (by kernel_rfl) (fun _ _ _ h => h) (Or.inl ⟨by rfl, ?hy3_1⟩) (by assumption) ?rest3_1
      case hy3_1 => (intro w' hSw; (try dsimp only at hSw); go_simp; try with_reducible rfl)
      try simp only [List.getElem_toArray, List.getElem_cons_zero, List.getElem_cons_succ, Act.put, List.setIfInBounds_toArray, List.set_cons_zero, List.set_cons_succ]
      refine wpAnyH_take (i := 4) (v := ?vv4_1) rfl (by kernel_rfl) (by kernel_rfl) (by kernel_rfl) (fun _ _ _ h => h) (Or.inl ⟨by rfl, ?hy4_1⟩) (by assumption) ?rest4_1
      case hy4_1 => (intro w' hSw; (try dsimp only at hSw); go_simp; try with_reducible rfl)
      try simp only [List.getElem_toArray, List.getElem_cons_zero, List.getElem_cons_succ, Act.put, List.setIfInBounds_toArray, List.set_cons_zero, List.set_cons_succ]
      refine wpAnyH_take (i := 5) (v := ?vv5_1) rfl (by kernel_rfl) (by kernel_rfl) (by kernel_rfl) (fun _ _ _ h => h) (Or.inl ⟨by rfl, ?hy5_1⟩) (by assumption) ?rest5_1
      case hy5_1 => (intro w' hSw; (try dsimp only at hSw); go_simp; try with_reducible rfl)
      try simp only [List.getElem_toArray, List.getElem_cons_zero, List.getElem_cons_succ, Act.put, List.setIfInBounds_toArray, List.set_cons_zero, List.set_cons_succ]
      refine wpAnyH_take (i := 6) (v := ?vv6_1) rfl (by kernel_rfl) (by kernel_rfl) (by kernel_rfl) (fun _ _ _ h => h) (Or.inl ⟨by rfl, ?hy6_1⟩) (by assumption) ?rest6_1
      case hy6_1 => (intro w' hSw; (try dsimp only at hSw); go_simp; try with_reducible rfl)
      try simp only [List.getElem_toArray, List.getElem_cons_zero, List.getElem_cons_succ, Act.put, List.setIfInBounds_toArray, List.set_cons_zero, List.set_cons_succ]
      refine wpAnyH_take (i := 7) (v := ?vv7_1) rfl (by kernel_rfl) (by kernel_rfl) (by kernel_rfl) (fun _ _ _ h => h) (Or.inl ⟨by rfl, ?hy7_1⟩) (by assumption) ?rest7_1
      case hy7_1 => (intro w' hSw; (try dsimp only at hSw); go_simp; try with_reducible rfl)
      try simp only [List.getElem_toArray, List.getElem_cons_zero, List.getElem_cons_succ, Act.put, List.setIfInBounds_toArray, List.set_cons_zero, List.set_cons_succ]
      refine wpAnyH_take (i := 8) (v := .int .u8 48) rfl (by kernel_rfl) (by kernel_rfl) (by kernel_rfl) (fun _ _ _ h => h) (Or.inl ⟨by rfl, fun w' hSw => exec_load1 w' rfl rfl ((HKP.out _ hSw).2.1) Try.underlying5 rfl⟩) (by assumption) ?_
      try simp only [List.getElem_toArray, List.getElem_cons_zero, List.getElem_cons_succ, Act.put, List.setIfInBounds_toArray, List.set_cons_zero, List.set_cons_succ]
      refine wpAnyH_take (i := 9) (v := ?vv9_1) rfl (by kernel_rfl) (by kernel_rfl) (by kernel_rfl) (fun _ _ _ h => h) (Or.inl ⟨by rfl, ?hy9_1⟩) (by assumption) ?rest9_1
      case hy9_1 => (intro w' hSw; (try dsimp only at hSw); go_simp; try with_reducible rfl)
      try simp only [List.getElem_toArray, List.getElem_cons_zero, List.getElem_cons_succ, Act.put, List.setIfInBounds_toArray, List.set_cons_zero, List.set_cons_succ]
      refine wpAnyH_take (i := 10) (v := ?vv10_1) rfl (by kernel_rfl) (by kernel_rfl) (by kernel_rfl) (fun _ _ _ h => h) (Or.inl ⟨by rfl, ?hy10_1⟩) (by assumption) ?rest10_1
      case hy10_1 => (intro w' hSw; (try dsimp only at hSw); go_simp; try with_reducible rfl)
      try simp only [List.getElem_toArray, List.getElem_cons_zero, List.getElem_cons_succ, Act.put, List.setIfInBounds_toArray, List.set_cons_zero, List.set_cons_succ]
      refine wpAnyH_take (i := 11) (v := ?vv11_1) rfl (by kernel_rfl) (by kernel_rfl) (by kernel_rfl) (fun _ _ _ h => h) (Or.inl ⟨by rfl, ?hy11_1⟩) (by assumption) ?rest11_1
      case hy11_1 => (intro w' hSw; (try dsimp only at hSw); go_simp; try with_reducible rfl)
      try simp only [List.getElem_toArray, List.getElem_cons_zero, List.getElem_cons_succ, Act.put, List.setIfInBounds_toArray, List.set_cons_zero, List.set_cons_succ]
      refine wpAnyH_take (i := 12) (v := ?vv12_1) rfl (by kernel_rfl) (by kernel_rfl) (by kernel_rfl) (fun _ _ _ h => h) (Or.inl ⟨by rfl, ?hy12_1⟩) (by assumption) ?rest12_1
      case hy12_1 => (intro w' hSw; (try dsimp only at hSw); go_simp; try with_reducible rfl)
      try simp only [List.getElem_toArray, List.getElem_cons_zero, List.getElem_cons_succ, Act.put, List.setIfInBounds_toArray, List.set_cons_zero, List.set_cons_succ]
      refine wpAnyH_take (i := 13) (v := sv M) rfl (by kernel_rfl) (by kernel_rfl) (by kernel_rfl) (fun _ _ _ h => h) (Or.inl ⟨by rfl, fun w' hSw => exec_load1 w' rfl rfl ((HKP.out _ hSw).2.2) Try.underlying9 rfl⟩) (by assumption) ?_
      try simp only [List.getElem_toArray, List.getElem_cons_zero, List.getElem_cons_succ, Act.put, List.setIfInBounds_toArray, List.set_cons_zero, List.set_cons_succ]
      refine wpAnyH_take (i := 14) (v := ?vv14_1) rfl (by kernel_rfl) (by kernel_rfl) (by kernel_rfl) (fun _ _ _ h => h) (Or.inl ⟨by rfl, ?hy14_1⟩) (by assumption) ?rest14_1
      case hy14_1 => (intro w' hSw; (try dsimp only at hSw); go_simp; try with_reducible rfl)
      try simp only [List.getElem_toArray, List.getElem_cons_zero, List.getElem_cons_succ, Act.put, List.setIfInBounds_toArray, List.set_cons_zero, List.set_cons_succ]
      refine wpAnyH_ready (rs := [15]) (by kernel_rfl) (by simp) ?_
      refine AllReadyH.cons rfl (fun K hK => ?_) AllReadyH.nil
      go_simp
      go_at_call 11
      with_reducible refine (MA4.out _ (by first | assumption | exact Below.drew (by assumption))).mono ?_
      rintro e1 w8 ⟨rfl, hR8⟩
      refine hK.out _ _ hR8 (fun hHeld => ?_)
      clear hK K
      try simp only [List.getElem_toArray, List.getElem_cons_zero, List.getElem_cons_succ, Act.put, List.setIfInBounds_toArray, List.set_cons_zero, List.set_cons_succ]
      refine wpAnyH_take (i := 16) (v := ?vv16_1) rfl (by kernel_rfl) (by kernel_rfl) (by kernel_rfl) (fun _ _ _ h => h) (Or.inl ⟨by rfl, ?hy16_1⟩) (by assumption) ?rest16_1
      case hy16_1 => (intro w' hSw; (try dsimp only at hSw); go_simp; try with_reducible rfl)
      try simp only [List.getElem_toArray, List.getElem_cons_zero, List.getElem_cons_succ, Act.put, List.setIfInBounds_toArray, List.set_cons_zero, List.set_cons_succ]
      refine wpAnyH_take (i := 17) (v := ?vv17_1) rfl (by kernel_rfl) (by kernel_rfl) (by kernel_rfl) (fun _ _ _ h => h) (Or.inl ⟨by rfl, ?hy17_1⟩) (by assumption) ?rest17_1
      case hy17_1 => (intro w' hSw; (try dsimp only at hSw); go_simp; try with_reducible rfl)
      try simp only [List.getElem_toArray, List.getElem_cons_zero, List.getElem_cons_succ, Act.put, List.setIfInBounds_toArray, List.set_cons_zero, List.set_cons_succ]
      refine wpAnyH_take (i := 18) (v := ?vv18_1) rfl (by kernel_rfl) (by kernel_rfl) (by kernel_rfl) (fun _ _ _ h => h) (Or.inl ⟨by rfl, ?hy18_1⟩) (by assumption) ?rest18_1
      case hy18_1 => (intro w' hSw; (try dsimp only at hSw); go_simp; try with_reducible rfl)
      try simp only [List.getElem_toArray, List.getElem_cons_zero, List.getElem_cons_succ, Act.put, List.setIfInBounds_toArray, List.set_cons_zero, List.set_cons_succ]
      refine wpAnyH_take (i := 19) (v := ?vv19_1) rfl (by kernel_rfl) (by kernel_rfl) (by kernel_rfl) (fun _ _ _ h => h) (Or.inl ⟨by rfl, ?hy19_1⟩) (by assumption) ?rest19_1
      case hy19_1 => (intro w' hSw; (try dsimp only at hSw); go_simp; try with_reducible rfl)
      try simp only [List.getElem_toArray, List.getElem_cons_zero, List.getElem_cons_succ, Act.put, List.setIfInBounds_toArray, List.set_cons_zero, List.set_cons_succ]
      refine wpAnyH_take (i := 20) (v := ?vv20_1) rfl (by kernel_rfl) (by kernel_rfl) (by kernel_rfl) (fun _ _ _ h => h) (Or.inl ⟨by rfl, ?hy20_1⟩) (by assumption) ?rest20_1
      case hy20_1 => (intro w' hSw; (try dsimp only at hSw); go_simp; try with_reducible rfl)
      try simp only [List.getElem_toArray, List.getElem_cons_zero, List.getElem_cons_succ, Act.put, List.setIfInBounds_toArray, List.set_cons_zero, List.set_cons_succ]
      refine wpAnyH_take (i := 21) (v := ?vv21_1) rfl (by kernel_rfl) (by kernel_rfl) (by kernel_rfl) (fun _ _ _ h => h) (Or.inl ⟨by rfl, ?hy21_1⟩) (by assumption) ?rest21_1
      case hy21_1 => (intro w' hSw; (try dsimp only at hSw); go_simp; try with_reducible rfl)
      try simp only [List.getElem_toArray, List.getElem_cons_zero, List.getElem_cons_succ, Act.put, List.setIfInBounds_toArray, List.set_cons_zero, List.set_cons_succ]
      refine wpAnyH_take (i := 22) (v := ?vv22_1) rfl (by kernel_rfl) (by kernel_rfl) (by kernel_rfl) (fun _ _ _ h => h) (Or.inl ⟨by rfl, ?hy22_1⟩) (by assumption) ?rest22_1
      case hy22_1 => (intro w' hSw; (try dsimp only at hSw); go_simp; try with_reducible rfl)
      try simp only [List.getElem_toArray, List.getElem_cons_zero, List.getElem_cons_succ, Act.put, List.setIfInBounds_toArray, List.set_cons_zero, List.set_cons_succ]
      refine wpAnyH_take (i := 23) (v := ?vv23_1) rfl (by kernel_rfl) (by kernel_rfl) (by kernel_rfl) (fun _ _ _ h => h) (Or.inl ⟨by rfl, ?hy23_1⟩) (by assumption) ?rest23_1
      case hy23_1 => (intro w' hSw; (try dsimp only at hSw); go_simp; try with_reducible rfl)
      try simp only [List.getElem_toArray, List.getElem_cons_zero, List.getElem_cons_succ, Act.put, List.setIfInBounds_toArray, List.set_cons_zero, List.set_cons_succ]
      refine wpAnyH_take (i := 24) (v := ?vv24_1) rfl (by kernel_rfl) (by kernel_rfl) (by kernel_rfl) (fun _ _ _ h => h) (Or.inl ⟨by rfl, ?hy24_1⟩) (by assumption) ?rest24_1
      case hy24_1 => (intro w' hSw; (try dsimp only at hSw); go_simp; try with_reducible rfl)
      try simp only [List.getElem_toArray, List.getElem_cons_zero, List.getElem_cons_succ, Act.put, List.setIfInBounds_toArray, List.set_cons_zero, List.set_cons_succ]
      refine wpAnyH_take (i := 25) (v := ?vv25_1) rfl (by kernel_rfl) (by kernel_rfl) (by kernel_rfl) (fun _ _ _ h => h) (Or.inl ⟨by rfl, ?hy25_1⟩) (by assumption) ?rest25_1
      case hy25_1 => (intro w' hSw; (try dsimp only at hSw); go_simp; try with_reducible rfl)
      try simp only [List.getElem_toArray, List.getElem_cons_zero, List.getElem_cons_succ, Act.put, List.setIfInBounds_toArray, List.set_cons_zero, List.set_cons_succ]
      refine wpAnyH_take (i := 26) (v := ?vv26_1) rfl (by kernel_rfl) (by kernel_rfl) (by kernel_rfl) (fun _ _ _ h => h) (Or.inl ⟨by rfl, ?hy26_1⟩) (by assumption) ?rest26_1
      case hy26_1 => (intro w' hSw; (try dsimp only at hSw); go_simp; try with_reducible rfl)
      try simp only [List.getElem_toArray, List.getElem_cons_zero, List.getElem_cons_succ, Act.put, List.setIfInBounds_toArray, List.set_cons_zero, List.set_cons_succ]
      refine wpAnyH_take (i := 27) (v := ?vv27_1) rfl (by kernel_rfl) (by kernel_rfl) (by kernel_rfl) (fun _ _ _ h => h) (Or.inl ⟨by rfl, ?hy27_1⟩) (by assumption) ?rest27_1
      case hy27_1 => (intro w' hSw; (try dsimp only at hSw); go_simp; try with_reducible rfl)
      try simp only [List.getElem_toArray, List.getElem_cons_zero, List.getElem_cons_succ, Act.put, List.setIfInBounds_toArray, List.set_cons_zero, List.set_cons_succ]
      refine wpAnyH_ready (rs := [28]) (by kernel_rfl) (by simp) ?_
      refine AllReadyH.cons rfl (fun K hK => ?_) AllReadyH.nil
      go_simp
      go_at_call 13
      with_reducible refine (WR4.out _ hR8).mono ?_
      rintro e1 w9 ⟨rfl, hR9⟩
      refine hK.out _ _ hR9 (fun hHeld => ?_)
      clear hK K
      try simp only [List.getElem_toArray, List.getElem_cons_zero, List.getElem_cons_succ, Act.put, List.setIfInBounds_toArray, List.set_cons_zero, List.set_cons_succ]
      refine wpAnyH_take (i := 29) (v := ?vv29_1) rfl (by kernel_rfl) (by kernel_rfl) (by kernel_rfl) (fun _ _ _ h => h) (Or.inl ⟨by rfl, ?hy29_1⟩) (by assumption) ?rest29_1
      case hy29_1 => (intro w' hSw; (try dsimp only at hSw); go_simp; try with_reducible rfl)
      try simp only [List.getElem_toArray, List.getElem_cons_zero, List.getElem_cons_succ, Act.put, List.setIfInBounds_toArray, List.set_cons_zero, List.set_cons_succ]
      refine wpAnyH_take (i := 30) (v := ?vv30_1) rfl (by kernel_rfl) (by kernel_rfl) (by kernel_rfl) (fun _ _ _ h => h) (Or.inl ⟨by rfl, ?hy30_1⟩) (by assumption) ?rest30_1
      case hy30_1 => (intro w' hSw; (try dsimp only at hSw); go_simp; try with_reducible rfl)
      try simp only [List.getElem_toArray, List.getElem_cons_zero, List.getElem_cons_succ, Act.put, List.setIfInBounds_toArray, List.set_cons_zero, List.set_cons_succ]
      refine wpAnyH_done (by kernel_rfl) ?_ _
      have hR := hR9
      all_goals
        have HRR := Lib.hid (hB4.step hR)
        clear hR
        go_wp2_with fail
        go_roundw
        case rel => exact ⟨k + 1, by omega, by go_num, HRR.out⟩
        case measure => simp [intOf]; omega
    · obtain rfl : k = 7 := by omega
      have hbw : Bh w wr := HB1.out.trans (hbr.mono HB1.out.size)
      rw [show ((7 : Nat) : Int) = 7 from rfl]
      obtain ⟨Z, hZ⟩ : ∃ M, M = List.replicate 65536 (0 : UInt8) := ⟨_, rfl⟩
      have lZ : Z.length = 65536 := by rw [hZ, List.length_replicate]
      have MZ := Lib.hid (fun W (h : Bh w W) => show Calls Try.prog 11 #[.int .u8 0, .int .i64 65536] W (fun e w' => e = .returned (sv Z) ∧ Bh w w') from (@many_any W 0 65536 (by omega)).mono fun e w' ⟨h1, h2⟩ => ⟨by rw [← hZ] at h1; exact h1, h.step h2⟩)
      have P1 := Lib.hid (fun W (h : Bh w W) => show Calls Try.prog 10 #[.agg #[.int .u8 4, sv Z]] W (fun e w' => e = .returned (.tuple #[.string ⟨#[]⟩, .int .i64 40]) ∧ Bh w w') from (@put_any W 4 Z (by omega)).mono fun e w' ⟨h1, h2⟩ => ⟨by
        have he : putE 4 Z = 40 := by unfold putE; rw [if_neg (by decide), if_pos (by omega)]
        have hl : putL 4 Z = [] := by unfold putL; rw [he]; rfl
        rw [he, hl] at h1; exact h1, h.step h2⟩)
      have PX := fun (t : UInt8) (r : List UInt8) (e : Nat) (hr : putL t [] = r) (he : putE t [] = e) W (h : Bh w W) => show Calls Try.prog 10 #[.agg #[.int .u8 (t.toNat : Int), sv []]] W (fun x w' => x = .returned (.tuple #[sv r, .int .i64 (e : Int)]) ∧ Bh w w') from (@put_any W t [] (by simp)).mono fun e w' ⟨h1, h2⟩ => ⟨by rw [hr, he] at h1; exact h1, h.step h2⟩
      have P2 := Lib.hid (fun W (h : Bh w W) => show Calls Try.prog 10 #[.agg #[.int .u8 255, .string ⟨#[]⟩]] W (fun x w' => x = .returned (.tuple #[.string ⟨#[]⟩, .int .i64 4]) ∧ Bh w w') from PX 255 [] 4 (by decide) (by decide) W h)
      have P3 := Lib.hid (fun W (h : Bh w W) => show Calls Try.prog 10 #[.agg #[.int .u8 31, .string ⟨#[]⟩]] W (fun x w' => x = .returned (.tuple #[.string ⟨#[]⟩, .int .i64 4]) ∧ Bh w w') from PX 31 [] 4 (by decide) (by decide) W h)
      have P4 := Lib.hid (fun W (h : Bh w W) => show Calls Try.prog 10 #[.agg #[.int .u8 0, .string ⟨#[]⟩]] W (fun x w' => x = .returned (.tuple #[.string ⟨#[0, 0]⟩, .int .i64 0]) ∧ Bh w w') from PX 0 [0, 0] 0 (by decide) (by decide) W h)
      have WR0 := Lib.hid (fun W (h : Bh w W) => show Calls Try.prog 13 #[.string ⟨#[]⟩] W (fun e w' => e = .returned (.int .i64 8) ∧ Bh w w') from (@wrong_any W [] (by simp)).mono fun e w' ⟨h1, h2⟩ => ⟨by rw [show wrongE [] = 8 from rfl] at h1; exact h1, h.step h2⟩)
      clear hbr HLB HB1 hlt hk PX hZ
      go_wp2_with (first
        | (go_at_call 11; with_reducible refine (MZ.out _ (by assumption)).mono ?_; rintro e w2 ⟨rfl, hb2⟩)
        | (go_at_call 10; with_reducible refine (P1.out _ (by assumption)).mono ?_; rintro e w3 ⟨rfl, hb3⟩)
        | (go_at_call 10; with_reducible refine (P2.out _ (by assumption)).mono ?_; rintro e w4 ⟨rfl, hb4⟩)
        | (go_at_call 10; with_reducible refine (P3.out _ (by assumption)).mono ?_; rintro e w5 ⟨rfl, hb5⟩)
        | (go_at_call 10; with_reducible refine (P4.out _ (by assumption)).mono ?_; rintro e w6 ⟨rfl, hb6⟩)
        | (go_at_call 13; with_reducible refine (WR0.out _ (by assumption)).mono ?_; rintro e w7 ⟨rfl, hb7⟩))
      clear MZ P1 P2 P3 P4 WR0 lZ hbw
      have HB2 := Lib.hid (show Bh w (w7.alloc (.cells (nForm.map sv).toArray 9)) from hb7.step (below_alloc _ _))
      have hLB := LB.new w7 9 (nForm.map sv)
      obtain ⟨X2, hX⟩ : ∃ X, X = w7.alloc (.cells (nForm.map sv).toArray 9) := ⟨_, rfl⟩
      obtain ⟨b2, hb⟩ : ∃ b, b = w7.heap.size := ⟨_, rfl⟩
      rw [← hX] at HB2
      rw [← hX, ← hb] at hLB
      change Code.wp _ _ _ _ (w7.alloc (.cells (nForm.map sv).toArray 9))
      rw [← hX, ← hb]
      have HL2 := Lib.hid hLB
      clear hX hb hLB
      clear hb2 hb3 hb4 hb5 hb6 hb7
      go_loopw [150] (fun i wr => ∃ k : Nat, k ≤ 8 ∧ i = .int .i64 k ∧ Bh X2 wr) (fun i _ => 8 - (intOf i).toNat)
      case atStart => exact ⟨0, by omega, rfl, Below.refl _ _⟩
      case round =>
        obtain ⟨k, hk, rfl, hbr⟩ := hrel
        by_cases hlt : k < 8
        · have c0 := (HL2.out.below hbr HL2.out.lt).cell (k := k) (by simpa [nForm] using hlt)
          rw [map_at sv nForm [] (by simpa [nForm] using hlt)] at c0
          obtain ⟨hw1, hw2⟩ := nForm_ok k hlt
          obtain ⟨s, hs⟩ : ∃ s, s = nForm.getD k [] := ⟨_, rfl⟩
          rw [← hs] at c0 hw1 hw2
          have hlt' : (k : Int) < 8 := by omega
          have WR := Lib.hid (show Calls Try.prog 13 #[sv s] wr (fun e w' => e = .returned (.int .i64 4) ∧ Bh X2 w') from (@wrong_any wr s (by omega)).mono fun e w' ⟨h1, h2⟩ => ⟨by rw [hw1] at h1; exact h1, hbr.step h2⟩)
          clear hs hw1 hw2 hbr
          go_wp2_with (go_at_call 13; with_reducible refine WR.out.mono ?_; rintro e w2 ⟨rfl, hb2⟩)
          go_roundw
          case rel => exact ⟨k + 1, by omega, by go_num, hb2⟩
          case measure => simp [intOf]; omega
        · obtain rfl : k = 8 := by omega
          have hbw : Bh w wr := HB2.out.trans (hbr.mono HB2.out.size)
          rw [show ((8 : Nat) : Int) = 8 from rfl]
          clear hbr HB2 HL2 hlt hk
          go_wp2_with fail
          have HB3 := Lib.hid (show Bh w (wr.alloc (.cells (nShort.map sv).toArray 9)) from hbw.step (below_alloc _ _))
          have hLB := LB.new wr 9 (nShort.map sv)
          obtain ⟨X3, hX⟩ : ∃ X, X = wr.alloc (.cells (nShort.map sv).toArray 9) := ⟨_, rfl⟩
          obtain ⟨b3, hb⟩ : ∃ b, b = wr.heap.size := ⟨_, rfl⟩
          rw [← hX] at HB3
          rw [← hX, ← hb] at hLB
          change Code.wp _ _ _ _ (wr.alloc (.cells (nShort.map sv).toArray 9))
          rw [← hX, ← hb]
          have HL3 := Lib.hid hLB
          clear hX hb hLB
          clear hbw
          go_loopw [160] (fun i wr => ∃ k : Nat, k ≤ 6 ∧ i = .int .i64 k ∧ Bh X3 wr) (fun i _ => 6 - (intOf i).toNat)
          case atStart => exact ⟨0, by omega, rfl, Below.refl _ _⟩
          case round =>
            obtain ⟨k, hk, rfl, hbr⟩ := hrel
            by_cases hlt : k < 6
            · have c0 := (HL3.out.below hbr HL3.out.lt).cell (k := k) (by simpa [nShort] using hlt)
              rw [map_at sv nShort [] (by simpa [nShort] using hlt)] at c0
              obtain ⟨hw1, hw2⟩ := nShort_ok k hlt
              obtain ⟨s, hs⟩ : ∃ s, s = nShort.getD k [] := ⟨_, rfl⟩
              rw [← hs] at c0 hw1 hw2
              have hlt' : (k : Int) < 6 := by omega
              have WR := Lib.hid (show Calls Try.prog 13 #[sv s] wr (fun e w' => e = .returned (.int .i64 8) ∧ Bh X3 w') from (@wrong_any wr s (by omega)).mono fun e w' ⟨h1, h2⟩ => ⟨by rw [hw1] at h1; exact h1, hbr.step h2⟩)
              clear hs hw1 hw2 hbr
              go_wp2_with (go_at_call 13; with_reducible refine WR.out.mono ?_; rintro e w2 ⟨rfl, hb2⟩)
              go_roundw
              case rel => exact ⟨k + 1, by omega, by go_num, hb2⟩
              case measure => simp [intOf]; omega
            · obtain rfl : k = 6 := by omega
              have hbw : Bh w wr := HB3.out.trans (hbr.mono HB3.out.size)
              rw [show ((6 : Nat) : Int) = 6 from rfl]
              clear hbr HB3 HL3 hlt hk
              have hB3w := hbw
              go_wp2_with fail
              go_loop [21, 22] (fun f i => ∃ k : Nat, k ≤ 64 ∧ i = .int .i64 k ∧ f = sv (nFull k)) (fun _ i => 64 - (intOf i).toNat)
              case atStart => exact ⟨0, by omega, rfl, rfl⟩
              case round =>
                obtain ⟨k, hk, rfl, rfl⟩ := hrel
                by_cases hlt : k < 64
                · have hnx := nFull_next k
                  have hln := nFull_len k
                  obtain ⟨F, hF⟩ : ∃ F, F = nFull k := ⟨_, rfl⟩
                  rw [← hF] at hnx hln ⊢
                  have hcat : str F ++ (⟨#[5, 0]⟩ : ByteArray) = str (F ++ [5, 0]) := str_append F [5, 0]
                  have hzF := str_size F
                  have hFl : F.length ≤ 128 := by omega
                  have HNX := Lib.hid hnx
                  have hlt' : (k : Int) < 64 := by omega
                  clear hnx hln hF
                  go_wp2_with fail
                  go_round
                  case rel => exact ⟨k + 1, by omega, by go_num, by rw [HNX.out]⟩
                  case measure => simp [intOf]; omega
                · obtain rfl : k = 64 := by omega
                  rw [show ((64 : Nat) : Int) = 64 from rfl]
                  have a1 := nFull_all
                  have a2 := nFull_more
                  have a3 := nFull_cut
                  have hln := nFull_len 64
                  obtain ⟨F, hF⟩ : ∃ F, F = nFull 64 := ⟨_, rfl⟩
                  rw [← hF] at a1 a2 a3 hln ⊢
                  have hcat : str F ++ (⟨#[5, 0]⟩ : ByteArray) = str (F ++ [5, 0]) := str_append F [5, 0]
                  have hcat2 : str F ++ (⟨#[5]⟩ : ByteArray) = str (F ++ [5]) := str_append F [5]
                  have hzF := str_size F
                  have hFl : F.length ≤ 128 := by omega
                  have A1 := Lib.hid (fun W (h : Bh w W) => show Calls Try.prog 14 #[sv F] W (fun e w' => ∃ A c, e = .returned (.tuple #[.slice A 64 c, .int .i64 0]) ∧ Bh w w') from by
                    have := @all_any F W (by omega)
                    rw [a1] at this
                    exact this.mono fun e w' ⟨v, q1, q2, q3⟩ => by
                      obtain ⟨A, c, rfl⟩ := q2.form
                      rw [List.length_replicate] at q1
                      exact ⟨A, c, q1, h.step q3⟩)
                  have A2 := Lib.hid (fun W (h : Bh w W) => show Calls Try.prog 14 #[sv (F ++ [5, 0])] W (fun e w' => e = .returned (.tuple #[.slice none 0 0, .int .i64 40]) ∧ Bh w w') from by
                    have := @all_any (F ++ [5, 0]) W (by simp; omega)
                    rw [a2] at this
                    exact this.mono fun e w' ⟨q1, q3⟩ => ⟨q1, h.step q3⟩)
                  have A3 := Lib.hid (fun W (h : Bh w W) => show Calls Try.prog 14 #[sv (F ++ [5])] W (fun e w' => e = .returned (.tuple #[.slice none 0 0, .int .i64 8]) ∧ Bh w w') from by
                    have := @all_any (F ++ [5]) W (by simp; omega)
                    rw [a3] at this
                    exact this.mono fun e w' ⟨q1, q3⟩ => ⟨q1, h.step q3⟩)
                  have A4 := Lib.hid (fun W (h : Bh w W) => show Calls Try.prog 14 #[.string ⟨#[]⟩] W (fun e w' => ∃ A c, e = .returned (.tuple #[.slice A 0 c, .int .i64 0]) ∧ Bh w w') from by
                    have := @all_any [] W (by simp)
                    rw [nNone] at this
                    exact this.mono fun e w' ⟨v, q1, q2, q3⟩ => by
                      obtain ⟨A, c, rfl⟩ := q2.form
                      exact ⟨A, c, q1, h.step q3⟩)
                  clear a1 a2 a3 hln hF hlt hk
                  go_wp2_with (first
                    | (go_at_call 14; with_reducible refine (A1.out _ (by assumption)).mono ?_; rintro e wa ⟨Ax, cx, rfl, hba⟩)
                    | (go_at_call 14; with_reducible refine (A2.out _ (by assumption)).mono ?_; rintro e wb ⟨rfl, hbb⟩)
                    | (go_at_call 14; with_reducible refine (A3.out _ (by assumption)).mono ?_; rintro e wc ⟨rfl, hbc⟩)
                    | (go_at_call 14; with_reducible refine (A4.out _ (by assumption)).mono ?_; rintro e wd ⟨Ay, cy, rfl, hbd⟩))
                  clear A1 A2 A3 A4 hcat hcat2 hzF hFl
                  have HB5 := Lib.hid (show Bh w (wd.alloc (.cells (nInts.map iz0).toArray 3)) from hbd.step (below_alloc _ _))
                  have hLB := LB.new wd 3 (nInts.map iz0)
                  obtain ⟨X5, hX⟩ : ∃ X, X = wd.alloc (.cells (nInts.map iz0).toArray 3) := ⟨_, rfl⟩
                  obtain ⟨b5, hb⟩ : ∃ b, b = wd.heap.size := ⟨_, rfl⟩
                  rw [← hX] at HB5
                  rw [← hX, ← hb] at hLB
                  change Code.wp _ _ _ _ (wd.alloc (.cells (nInts.map iz0).toArray 3))
                  rw [← hX, ← hb]
                  have HL5 := Lib.hid hLB
                  clear hX hb hLB
                  clear hba hbb hbc hbd hbw hB3w
                  go_loopw [223] (fun i wr => ∃ k : Nat, k ≤ 8 ∧ i = .int .i64 k ∧ Bh X5 wr) (fun i _ => 8 - (intOf i).toNat)
                  case atStart => exact ⟨0, by omega, rfl, Below.refl _ _⟩
                  case round =>
                    obtain ⟨k, hk, rfl, hbr⟩ := hrel
                    by_cases hlt : k < 8
                    · have c0 := (HL5.out.below hbr HL5.out.lt).cell (k := k) (by simpa [nInts] using hlt)
                      rw [map_at iz0 nInts 0 (by simpa [nInts] using hlt)] at c0
                      have hw1 := nInts_ok k hlt
                      obtain ⟨n, hs⟩ : ∃ s, s = nInts.getD k 0 := ⟨_, rfl⟩
                      rw [← hs] at c0 hw1
                      unfold iz0 at c0
                      have hlt' : (k : Int) < 8 := by omega
                      have IN := Lib.hid (show Calls Try.prog 16 #[.int .i64 n] wr (fun e w' => e = .returned (sv (intL n)) ∧ Bh X5 w') from (@int_top wr n hw1).mono fun e w' ⟨h1, h2⟩ => ⟨h1, hbr.step h2⟩)
                      have RD := Lib.hid (fun W (h : Bh X5 W) => show Calls Try.prog 15 #[sv (intL n)] W (fun e w' => e = .returned (.tuple #[.int .i64 n, .int .i64 0]) ∧ Bh X5 w') from (@readInt_any W (intL n) (by have := (intL_length n).2; omega)).mono fun e w' ⟨h1, h2⟩ => ⟨by rw [show readN (intL n) = n by unfold readN; rw [readB_intL hw1, if_pos rfl, valL_intL hw1], readB_intL hw1] at h1; exact h1, h.step h2⟩)
                      obtain ⟨Q, hQ⟩ : ∃ Q, Q = intL n := ⟨_, rfl⟩
                      rw [← hQ] at IN RD
                      clear hs hw1 hbr hQ
                      go_wp2_with (first
                        | (go_at_call 16; with_reducible refine IN.out.mono ?_; rintro e w2 ⟨rfl, hb2⟩)
                        | (go_at_call 15; with_reducible refine (RD.out _ (by assumption)).mono ?_; rintro e w3 ⟨rfl, hb3⟩))
                      go_roundw
                      case rel => exact ⟨k + 1, by omega, by go_num, hb3⟩
                      case measure => simp [intOf]; omega
                    · obtain rfl : k = 8 := by omega
                      have hbw : Bh w wr := HB5.out.trans (hbr.mono HB5.out.size)
                      rw [show ((8 : Nat) : Int) = 8 from rfl]
                      clear hbr HB5 HL5 hlt hk
                      obtain ⟨Z8, hZ8⟩ : ∃ M, M = List.replicate 8 (0 : UInt8) := ⟨_, rfl⟩
                      obtain ⟨Z9, hZ9⟩ : ∃ M, M = List.replicate 9 (0 : UInt8) := ⟨_, rfl⟩
                      obtain ⟨T9, hT9⟩ : ∃ M, M = [1] ++ Z8 := ⟨_, rfl⟩
                      have hcat8 : (⟨#[1]⟩ : ByteArray) ++ str Z8 = str T9 := by rw [hT9]; exact str_append [1] Z8
                      have z8 : (str Z8).size = 8 := by rw [str_size, hZ8]; simp
                      have l8 : Z8.length = 8 := by rw [hZ8]; simp
                      have MA8 := Lib.hid (fun W (h : Bh w W) => show Calls Try.prog 11 #[.int .u8 0, .int .i64 8] W (fun e w' => e = .returned (sv Z8) ∧ Bh w w') from (@many_any W 0 8 (by omega)).mono fun e w' ⟨h1, h2⟩ => ⟨by rw [← hZ8] at h1; exact h1, h.step h2⟩)
                      have MA9 := Lib.hid (fun W (h : Bh w W) => show Calls Try.prog 11 #[.int .u8 0, .int .i64 9] W (fun e w' => e = .returned (sv Z9) ∧ Bh w w') from (@many_any W 0 9 (by omega)).mono fun e w' ⟨h1, h2⟩ => ⟨by rw [← hZ9] at h1; exact h1, h.step h2⟩)
                      have HBAD := Lib.hid (nBad_ok T9 Z9 (by rw [hT9, hZ8]) hZ9)
                      clear hZ8 hZ9 hT9
                      go_wp2_with (first
                        | (go_at_call 11; with_reducible refine (MA8.out _ (by assumption)).mono ?_; rintro e w8 ⟨rfl, hb8⟩)
                        | (go_at_call 11; with_reducible refine (MA9.out _ (by assumption)).mono ?_; rintro e w9 ⟨rfl, hb9⟩))
                      clear MA8 MA9 z8 l8 hcat8
                      have HB6 := Lib.hid (show Bh w (w9.alloc (.cells ([[255, 255], [255, 128], [0, 0], T9, Z9].map sv).toArray 9)) from hb9.step (below_alloc _ _))
                      have hLB := LB.new w9 9 ([[255, 255], [255, 128], [0, 0], T9, Z9].map sv)
                      obtain ⟨X6, hX⟩ : ∃ X, X = w9.alloc (.cells ([[255, 255], [255, 128], [0, 0], T9, Z9].map sv).toArray 9) := ⟨_, rfl⟩
                      obtain ⟨b6, hb⟩ : ∃ b, b = w9.heap.size := ⟨_, rfl⟩
                      rw [← hX] at HB6
                      rw [← hX, ← hb] at hLB
                      change Code.wp _ _ _ _ (w9.alloc (.cells ([[255, 255], [255, 128], [0, 0], T9, Z9].map sv).toArray 9))
                      rw [← hX, ← hb]
                      have HL6 := Lib.hid hLB
                      clear hX hb hLB
                      clear hb8 hb9 hbw
                      go_loopw [246] (fun i wr => ∃ k : Nat, k ≤ 5 ∧ i = .int .i64 k ∧ Bh X6 wr) (fun i _ => 5 - (intOf i).toNat)
                      case atStart => exact ⟨0, by omega, rfl, Below.refl _ _⟩
                      case round =>
                        obtain ⟨k, hk, rfl, hbr⟩ := hrel
                        by_cases hlt : k < 5
                        · have c0 := (HL6.out.below hbr HL6.out.lt).cell (k := k) (by simpa using hlt)
                          rw [map_at sv [[255, 255], [255, 128], [0, 0], T9, Z9] [] (by simpa using hlt)] at c0
                          obtain ⟨hw1, hw2⟩ := HBAD.out k hlt
                          obtain ⟨s, hs⟩ : ∃ s, s = [[255, 255], [255, 128], [0, 0], T9, Z9].getD k [] := ⟨_, rfl⟩
                          rw [← hs] at c0 hw1 hw2
                          have hlt' : (k : Int) < 5 := by omega
                          have RD := Lib.hid (show Calls Try.prog 15 #[sv s] wr (fun e w' => e = .returned (.tuple #[.int .i64 0, .int .i64 4]) ∧ Bh X6 w') from (@readInt_any wr s (by omega)).mono fun e w' ⟨h1, h2⟩ => ⟨by rw [show readN s = 0 by unfold readN; rw [hw1]; rfl, hw1] at h1; exact h1, hbr.step h2⟩)
                          clear hs hw1 hw2 hbr
                          go_wp2_with (go_at_call 15; with_reducible refine RD.out.mono ?_; rintro e w2 ⟨rfl, hb2⟩)
                          go_roundw
                          case rel => exact ⟨k + 1, by omega, by go_num, hb2⟩
                          case measure => simp [intOf]; omega
                        · obtain rfl : k = 5 := by omega
                          have hbw : Bh w wr := HB6.out.trans (hbr.mono HB6.out.size)
                          rw [show ((5 : Nat) : Int) = 5 from rfl]
                          clear hbr HB6 HL6 HBAD hlt hk
                          have RB := fun (s : List UInt8) (b : Bool) (e : Int) (hb : (s == [255]) = b) (he : okN (boolB s) = e) (hl : s.length ≤ 9223372036854775807) W (h : Bh w W) => show Calls Try.prog 17 #[sv s] W (fun x w' => x = .returned (.tuple #[.bool b, .int .i64 e]) ∧ Bh w w') from (@readBool_any W s hl).mono fun x w' ⟨h1, h2⟩ => ⟨by rw [hb, he] at h1; exact h1, h2 ▸ h⟩
                          have RB1 := Lib.hid (RB [255] true 0 (by decide) (by decide) (by decide))
                          have RB2 := Lib.hid (RB [0] false 0 (by decide) (by decide) (by decide))
                          have RB3 := Lib.hid (RB [] false 4 (by decide) (by decide) (by decide))
                          have RB4 := Lib.hid (RB [255, 255] false 4 (by decide) (by decide) (by decide))
                          have IN := fun (n : Int) (s : List UInt8) (hn : -9223372036854775808 ≤ n ∧ n < 9223372036854775808) (hs : intL n = s) W (h : Bh w W) => show Calls Try.prog 16 #[.int .i64 n] W (fun e w' => e = .returned (sv s) ∧ Bh w w') from
                            (@int_top W n hn).mono fun e w' ⟨h1, h2⟩ => ⟨by rw [hs] at h1; exact h1, h.step h2⟩
                          have IN1 := Lib.hid (IN (-9223372036854775808) [128, 0, 0, 0, 0, 0, 0, 0] (by decide) (by decide))
                          have IN2 := Lib.hid (IN (-128) [128] (by decide) (by decide))
                          clear RB IN
                          go_wp2_with (first
                            | (go_at_call 17; with_reducible refine (RB1.out _ (by assumption)).mono ?_; rintro e w1 ⟨rfl, hb⟩)
                            | (go_at_call 17; with_reducible refine (RB2.out _ (by assumption)).mono ?_; rintro e w1 ⟨rfl, hb⟩)
                            | (go_at_call 17; with_reducible refine (RB3.out _ (by assumption)).mono ?_; rintro e w1 ⟨rfl, hb⟩)
                            | (go_at_call 17; with_reducible refine (RB4.out _ (by assumption)).mono ?_; rintro e w1 ⟨rfl, hb⟩)
                            | (go_at_call 16; with_reducible refine (IN1.out _ (by assumption)).mono ?_; rintro e w1 ⟨rfl, hb⟩)
                            | (go_at_call 16; with_reducible refine (IN2.out _ (by assumption)).mono ?_; rintro e w1 ⟨rfl, hb⟩))
                          go_ret
                          exact ⟨rfl, by assumption⟩
end Go.Proofs.Ytablllincjoabaa
