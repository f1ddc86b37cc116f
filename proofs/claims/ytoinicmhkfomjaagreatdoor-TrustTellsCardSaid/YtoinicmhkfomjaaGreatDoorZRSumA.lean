/-
  Contract of the reference's words (105).
-/
import Derived.Test.YtoinicmhkfomjaaGreatDoorZRWords
import Derived.Deep.RegionHeld3
import Derived.Deep.DrawnRows
namespace Go.Proofs.YtoinicmhkfomjaaGreatDoor
open Go Go.RowKit
set_option maxRecDepth 100000

theorem info40' : (Tryz.prog.info? 104).map (fun i => (i.zero, i.size, i.bytes)) = some (some (.int .u32 0), 1, 4) := by kernel_rfl

theorem wv_one {ys : List W32} : ∀ u ∈ ys.map wv, u.oneCell' = true := by
  intro u hu
  obtain ⟨b, _, rfl⟩ := List.mem_map.1 hu
  rfl

/-- A row of words. -/
def GW (w0 : World) (v : Value) (l : List W32) (w : World) : Prop := GV 104 w0 v (l.map wv) w
theorem GW.nil (w : World) : GW w (.slice none 0 0) [] w := GV.nil _ _
theorem GW.below {w0 w : World} {v : Value} {l : List W32} (h : GW w0 v l w) : Below w0.heap.size w0 w := h.1
theorem GW.form {w0 w : World} {v : Value} {l : List W32} (h : GW w0 v l w) : ∃ A c, v = .slice A l.length c := by have := GV.form h; simpa using this
theorem GW.drew {w0 w : World} {v : Value} {l : List W32} (h : GW w0 v l w) : GW w0 v l w.drew := GV.drew h
theorem GW.behind {w0 w w' : World} {v : Value} {l : List W32} (h : GW w0 v l w) (hb : Below w.heap.size w w') : GW w0 v l w' := GV.behind h hb

/-- An append of words whose run is known, ahead of a region that draws its order. -/
theorem gw_run {w0 w1 : World} {v : Value} {l : List W32} (h : GW w0 v l w1) (hlen : l.length ≤ 1000000) (m : List W32) (C : Array Value) (hC : C.toList = m.map wv) (hm : 0 < m.length ∧ m.length ≤ 1000000) (n c : Nat) (hn : n = m.length) :
    ∃ g cap w', (Builtin.append_ #[129, 129] 129 #[v, .slice (some ⟨w1.heap.size, 0, none⟩) n c]).run Tryz.prog (w1.alloc (.cells C 104)) = .ok (.slice (some ⟨g, 0, none⟩) (l.length + m.length) cap) w' ∧ GW w0 (.slice (some ⟨g, 0, none⟩) (l.length + m.length) cap) (l ++ m) w' := by
  subst hn
  obtain ⟨i, hi, hz0, hz1, hz2⟩ := info_parts info40'
  have hsz := h.1.size
  obtain ⟨g, cap, w', hrun, hown, hgr, _, _⟩ := run_append_lies (P := Tryz.prog) (w1.alloc (.cells C 104)) 129 129 w0.heap.size 104 i (.int .u32 0) 1 4 Tryz.underlying129 hi hz0 hz1 hz2 rfl (by decide) v (l.map wv).length (l.map wv) (h.2.alloc _) ⟨w1.heap.size, 0, none⟩ m.length c (m.map wv) (by simp)
    (by rw [← hC]; exact World.news_of_block (heap_alloc_new w1 _)) wv_one hm.1 (by rw [List.length_map]; unfold maxLen; omega) (by rw [List.length_map]; omega) (by simp; omega) _ rfl
  rw [List.length_map] at hrun hown
  refine ⟨g, cap, w', hrun, Below.grown (h.1.alloc hsz _) hgr (by simp; omega) (fun j hj => (h.2.lt j hj).1), ?_⟩
  simpa using hown

theorem drop_four {l : List UInt8} {j : Nat} (h : j + 4 ≤ l.length) : l.drop j = l.getD j 0 :: l.getD (j + 1) 0 :: l.getD (j + 2) 0 :: l.getD (j + 3) 0 :: l.drop (j + 4) := by
  rw [List.drop_eq_getElem_cons (by omega), List.drop_eq_getElem_cons (i := j + 1) (by omega), List.drop_eq_getElem_cons (i := j + 1 + 1) (by omega), List.drop_eq_getElem_cons (i := j + 1 + 1 + 1) (by omega)]
  simp only [List.getD_eq_getElem?_getD]
  rw [List.getElem?_eq_getElem (show j < l.length by omega), List.getElem?_eq_getElem (show j + 1 < l.length by omega), List.getElem?_eq_getElem (show j + 2 < l.length by omega), List.getElem?_eq_getElem (show j + 3 < l.length by omega)]
  rfl

set_option maxHeartbeats 2000000 in
theorem words_any (l : List UInt8) (g f c : Nat) (w : World) (hl : l.length ≤ 1000) (hc : ∀ j, j < l.length → w.cell? ⟨g, f + j, none⟩ = some (bv (l.getD j 0))) :
    Calls Tryz.prog 105 #[.slice (some ⟨g, f, none⟩) l.length c] w fun e w' => ∃ v, e = .returned v ∧ GW w v (wordsP l) w' := by
  have HC := Lib.hid (show ∀ W : World, Below w.heap.size w W → ∀ j, j < l.length → W.cell? ⟨g, f + j, none⟩ = some (bv (l.getD j 0)) from fun W hW j hj =>
    (hW.cell (p := ⟨g, f + j, none⟩) (World.block_lt_of_cell? w _ (hc j hj))).trans (hc j hj))
  have HG := Lib.hid (show GW w (.slice none 0 0) ((wordsP l).take 0) w by rw [List.take_zero]; exact GW.nil w)
  clear hc
  go_enter Tryz.func105, Tryz.ntmps105
  go_wp2_with fail
  go_loopw [3, 4] (fun v i wr => ∃ j q : Nat, j = 4 * q ∧ j ≤ l.length ∧ i = .int .i64 j ∧ GW w v ((wordsP l).take q) wr) (fun _ i _ => l.length - (intOf i).toNat)
  case atStart => exact ⟨0, 0, rfl, Nat.zero_le _, rfl, HG.out⟩
  case round =>
    obtain ⟨j, q, hjq, hj, rfl, hg⟩ := hrel
    have hwl := wordsP_length l
    have htl : ((wordsP l).take q).length = q := by rw [List.length_take]; omega
    obtain ⟨A, cp, rfl⟩ := hg.form
    rw [htl] at hg ⊢
    by_cases hlt : j + 4 ≤ l.length
    · have HT := Lib.hid (words_take q l (by rw [← hjq]; exact drop_four hlt))
      have hc0 := HC.out wr hg.below j (by omega)
      have hc1 := HC.out wr hg.below (j + 1) (by omega)
      have hc2 := HC.out wr hg.below (j + 2) (by omega)
      have hc3 := HC.out wr hg.below (j + 3) (by omega)
      obtain ⟨x0, h0⟩ : ∃ x, x = l.getD j 0 := ⟨_, rfl⟩
      obtain ⟨x1, h1⟩ : ∃ x, x = l.getD (j + 1) 0 := ⟨_, rfl⟩
      obtain ⟨x2, h2⟩ : ∃ x, x = l.getD (j + 2) 0 := ⟨_, rfl⟩
      obtain ⟨x3, h3⟩ : ∃ x, x = l.getD (j + 3) 0 := ⟨_, rfl⟩
      rw [← h0] at hc0 HT
      rw [← h1] at hc1 HT
      rw [← h2] at hc2 HT
      rw [← h3] at hc3 HT
      unfold bv at hc0 hc1 hc2 hc3
      obtain ⟨g2, cap, w3, hrun, hg3⟩ := gw_run hg.drew (by rw [htl]; omega) [wordP x0 x1 x2 x3] #[wv (wordP x0 x1 x2 x3)] rfl ⟨by simp, by simp⟩ 1 1 rfl
      rw [htl] at hrun hg3
      rw [← HT.out] at hg3
      have k0 := HC.out w3 hg3.below j (by omega)
      have k1 := HC.out w3 hg3.below (j + 1) (by omega)
      have k2 := HC.out w3 hg3.below (j + 2) (by omega)
      have k3 := HC.out w3 hg3.below (j + 3) (by omega)
      rw [← h0] at k0
      rw [← h1] at k1
      rw [← h2] at k2
      rw [← h3] at k3
      unfold bv at k0 k1 k2 k3
      clear h0 h1 h2 h3
      have HRUN := Lib.hid hrun
      have HG3 := Lib.hid hg3
      have HQ := Lib.hid hjq
      have hlen : l.length = l.length := rfl
      clear hrun hg3 hg HT htl hwl hjq hlen
      have s1 : IntKind.i64.wrap ((j : Int) + 1) = (j : Int) + 1 := IntWalk.i64_in _ (by omega)
      have s2 : IntKind.i64.wrap ((j : Int) + 2) = (j : Int) + 2 := IntWalk.i64_in _ (by omega)
      have s3 : IntKind.i64.wrap ((j : Int) + 3) = (j : Int) + 3 := IntWalk.i64_in _ (by omega)
      have t1 : ((j : Int) + 1).toNat = j + 1 := by omega
      have t2 : ((j : Int) + 2).toNat = j + 2 := by omega
      have t3 : ((j : Int) + 3).toNat = j + 3 := by omega
      have p0 : 0 ≤ (j : Int) := by omega
      have p1 : 0 ≤ (j : Int) + 1 := by omega
      have p2 : 0 ≤ (j : Int) + 2 := by omega
      have p3 : 0 ≤ (j : Int) + 3 := by omega
      have q0 : (j : Int) < l.length := by omega
      have q1 : (j : Int) + 1 < l.length := by omega
      have q2 : (j : Int) + 2 < l.length := by omega
      have q3 : (j : Int) + 3 < l.length := by omega
      go_wp2_with fail
      have r0 := wrap_byte
      have r24 := wrap_24
      have r16 := wrap_16
      have r8 := wrap_8
      have ro := bits_or32
      go_region_held3 (fun w' => w'.cell? ⟨g, f + j, none⟩ = some (.int .u8 x0.toNat) ∧ w'.cell? ⟨g, f + (j + 1), none⟩ = some (.int .u8 x1.toNat) ∧ w'.cell? ⟨g, f + (j + 2), none⟩ = some (.int .u8 x2.toNat) ∧ w'.cell? ⟨g, f + (j + 3), none⟩ = some (.int .u8 x3.toNat)) (go_keep)
        (refine step_app rfl (.tmp 12) (.tmp 42) 129 rfl rfl rfl HRUN.out ?_)
      all_goals
        clear r0 r24 r16 r8 ro k0 k1 k2 k3
        go_wp2
        go_roundw
        case rel => exact ⟨j + 4, q + 1, by have := HQ.out; omega, by omega, by go_num, HG3.out⟩
        case measure => simp [intOf]; omega
    · have HB := Lib.hid hg
      rw [List.take_of_length_le (by omega)] at HB
      clear hg
      go_wp2
      go_ret
      exact ⟨_, rfl, HB.out⟩
end Go.Proofs.YtoinicmhkfomjaaGreatDoor
