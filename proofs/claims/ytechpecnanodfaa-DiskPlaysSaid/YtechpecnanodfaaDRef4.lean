/-
  The reference's disk: Dirty.
-/
import Derived.Test.YtechpecnanodfaaDRef3
namespace Go.Proofs.Ytechpecnanodfaa
open Go Go.RowKit Go.Maps
set_option maxRecDepth 100000
set_option linter.unusedSimpArgs false
set_option linter.unusedVariables false

theorem info3r : (Try.prog.info? 3).map (fun i => (i.zero, i.size, i.bytes)) = some (some (.int .i64 0), 1, 8) := by kernel_rfl
theorem app_int {W : World} {B n : Nat} {v : Value} {L : List Int} (hown : W.ownsRow B 3 1 v n (L.map encZ)) (x : Int) (hB : B ≤ W.heap.size) (hn : n ≤ 1100) :
    ∃ g cap w', (Builtin.append_ #[33, 33] 33 #[v, .slice (some ⟨W.heap.size, 0, none⟩) 1 1]).run Try.prog (W.alloc (.cells #[.int .i64 x] 3)) = .ok (.slice (some ⟨g, 0, none⟩) (n + 1) cap) w' ∧
      w'.ownsRow B 3 1 (.slice (some ⟨g, 0, none⟩) (n + 1) cap) (n + 1) ((L ++ [x]).map encZ) ∧ ∃ T, Kp T W w' ∧ ∀ b ∈ T, B ≤ b := by
  obtain ⟨i, hi, hz0, hz1, hz2⟩ := info_parts info3r
  obtain ⟨g, cap, w', hr, h2, h3, h4, h5⟩ := run_append_lies (P := Try.prog) (W.alloc (.cells #[.int .i64 x] 3)) 33 33 B 3 i _ 1 8 Try.underlying33 hi hz0 hz1 hz2 rfl (by decide) _ n (L.map encZ) (hown.alloc _) ⟨W.heap.size, 0, none⟩ 1 1 [.int .i64 x] (by rfl) (World.news_of_block (cs := #[.int .i64 x]) (heap_alloc_new W _)) (by simp [Value.oneCell']) (by decide) (by unfold maxLen; omega) (by omega) (by simp; omega) _ rfl
  refine ⟨g, cap, w', hr, by simpa [encZ] using h2, (match v.ownBlock with | some b => [b] | none => []), ?_, ?_⟩
  · refine ((Kp.refl _ W).alloc _).grown h3 (fun k e hk => ?_)
    rw [e]; simp
  · intro b hb
    rcases hown.2 with ⟨e, _⟩ | ⟨g', cap', cur, e, hgb, _⟩
    · rw [e] at hb; simp [Value.ownBlock] at hb
    · rw [e] at hb; simp [Value.ownBlock] at hb; omega
def dLk (wet : List Bool) (k : Nat) : List Int := ((List.range k).filter (fun i => wet.getD i false)).map (fun i : Nat => (i : Int))
theorem dLk_all (wet : List Bool) : dLk wet wet.length = dL wet := rfl
theorem dLk_yes {wet : List Bool} {k : Nat} (h : wet.getD k false = true) : dLk wet (k + 1) = dLk wet k ++ [(k : Int)] := by
  unfold dLk
  rw [List.range_succ, List.filter_append, List.map_append]
  simp only [List.filter_cons, h, if_true, List.filter_nil, List.map_cons, List.map_nil]
theorem dLk_no {wet : List Bool} {k : Nat} (h : wet.getD k false = false) : dLk wet (k + 1) = dLk wet k := by
  unfold dLk
  rw [List.range_succ, List.filter_append, List.map_append]
  simp only [List.filter_cons, h, Bool.false_eq_true, if_false, List.filter_nil, List.map_nil, List.append_nil]
theorem dLk_le (wet : List Bool) (k : Nat) : (dLk wet k).length ≤ k := by
  unfold dLk
  rw [List.length_map]
  exact Nat.le_trans (List.length_filter_le _ _) (by simp)

set_option maxHeartbeats 4000000 in
theorem dirty_rd {w : World} {q g1 g2 g3 : Nat} {S : DS} (h : RD w q g1 g2 g3 S) :
    Calls Try.prog 44 #[dp q] w fun e w' => ∃ A c, e = .returned (.slice A (dL S.wet).length c) ∧ IR w' A (dL S.wet) ∧ (∀ a, A = some a → w.heap.size ≤ a.block) ∧ Below w.heap.size w w' := by
  obtain ⟨c1, c2, c3, left, fails, hq, h1, h2, h3, hr⟩ := h.box
  have HQ := Lib.hid (show ∀ W, Below w.heap.size w W → W.cell? ⟨q, 2, none⟩ = some (.slice (some ⟨g3, 0, none⟩) S.was.length c3) from fun W hW => cellAt ((hW.block q (lt_of_blk hq)).trans hq) 2)
  have HX := Lib.hid (show ∀ W, Below w.heap.size w W → XR W 4 g3 c3 (bls S.wet) from fun W hW => h3.of_block (hW.block g3 h3.lt))
  have hwl := h.ok.hw
  have hn2 := h.ok.n2
  generalize hn : S.was.length = n at HQ hn2 hwl
  have HWL := Lib.hid hwl
  generalize S.wet = wet at HX HWL ⊢
  have HFIN := Lib.hid (show dLk wet n = dL wet by rw [← dLk_all, HWL.out])
  clear h hq h1 h2 h3 hr hn hwl
  go_enter Try.func44, Try.ntmps44
  go_wp2_with fail
  go_loopw [3, 4] (fun ov kx W => ∃ k : Nat, kx = .int .i64 (k : Int) ∧ k ≤ n ∧ W.ownsRow w.heap.size 3 1 ov (dLk wet k).length ((dLk wet k).map encZ) ∧ Below w.heap.size w W) (fun _ kx _ => n - (RowKit.intOf kx).toNat)
  case atStart => exact ⟨0, rfl, by omega, World.ownsRow_nil _ _ _ _, Below.refl _ _⟩
  case round =>
    obtain ⟨k, rfl, hkn, hown, hB⟩ := hrel
    have HOW := Lib.hid hown
    have HB := Lib.hid hB
    have k2 := HQ.out _ hB
    by_cases hk : k < n
    · have hki : (k : Int) < (n : Int) := by omega
      have hk0 : (0 : Int) ≤ (k : Int) := by omega
      have hkw : IntKind.i64.wrap ((k : Int) + 1) = (k : Int) + 1 := IntWalk.i64_in _ (by omega)
      have hc := ((HX.out _ hB).cell (j := k) (by rw [bls_length, HWL.out]; exact hk)).1
      rw [bls_getD (by rw [HWL.out]; exact hk)] at hc
      clear hown hB
      cases hb : wet.getD k false with
      | true =>
        rw [hb] at hc
        have HD := Lib.hid (dLk_yes hb)
        have HL := Lib.hid (dLk_le wet k)
        clear hb
        go_wp2_with (at_builtin; obtain ⟨g, cap, w7, hr7, hown7, T7, hk7, hT7⟩ := app_int HOW.out (k : Int) HB.out.size (by have := HL.out; omega); refine wpList_builtin2_run _ rfl .append Builtin.append_ _ _ _ _ rfl (fun _ _ _ => rfl) _ _ rfl rfl hr7 ?_)
        go_roundw
        case rel => exact ⟨k + 1, by go_num, by omega, by rw [HD.out, List.length_append]; exact hown7, HB.out.trans (hk7.to_below hT7 HB.out.size)⟩
        case measure => simp [RowKit.intOf]; omega
      | false =>
        rw [hb] at hc
        have HD := Lib.hid (dLk_no hb)
        clear hb
        go_wp2_with fail
        go_roundw
        case rel => exact ⟨k + 1, by go_num, by omega, by rw [HD.out]; exact HOW.out, HB.out⟩
        case measure => simp [RowKit.intOf]; omega
    · have hki : ¬ (k : Int) < (n : Int) := by omega
      obtain rfl : n = k := by omega
      clear hown hB
      go_wp2_with fail
      go_ret
      have hr := HOW.out
      rw [HFIN.out] at hr
      obtain ⟨A, c, rfl, hI, hA⟩ := row_form hr
      exact ⟨A, ⟨c, rfl⟩, hI, hA, HB.out⟩
end Go.Proofs.Ytechpecnanodfaa
