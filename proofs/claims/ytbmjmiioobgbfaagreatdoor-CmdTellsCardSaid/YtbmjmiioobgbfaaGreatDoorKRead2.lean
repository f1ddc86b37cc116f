/-
  Contracts of package cmd's cutPath, paramOf; strings.Cut at one byte.
-/
import Derived.Test.YtbmjmiioobgbfaaGreatDoorKRead1
namespace Go.Proofs.YtbmjmiioobgbfaaGreatDoor
open Go Go.RowKit Go.Shelf
set_option maxRecDepth 100000
set_option linter.unusedSimpArgs false
set_option linter.unusedVariables false

def cutPV (s : List UInt8) (r : Option (List UInt8 × List UInt8)) : Value := match r with
  | some (a, b) => .tuple #[sv a, sv b, .bool true]
  | none => .tuple #[sv [], sv s, .bool false]
theorem cutPF_step {s : List UInt8} {k : Nat} (hk : k < s.length) : cutPF s (s.length - k) k = match unpathL (s.take (k + 1)) with
    | some a => some (a, s.drop (k + 1))
    | none => cutPF s (s.length - (k + 1)) (k + 1) := by
  rw [show s.length - k = (s.length - (k + 1)) + 1 by omega]
  rfl
theorem unpath_last {s : List UInt8} {k : Nat} (hk : k < s.length) (h : s.getD k 0 ≠ 62) : unpathL (s.take (k + 1)) = none := by
  cases e : unpathL (s.take (k + 1)) with
  | none => rfl
  | some a =>
    obtain ⟨_, e2⟩ := unpath_some e
    have h1 : (s.take (k + 1)).getLast? = some 62 := by rw [e2, List.getLast?_cons]; simp
    rw [List.take_succ_eq_append_getElem hk, List.getLast?_concat] at h1
    rw [getD_str s k hk] at h
    exact absurd (Option.some.inj h1) h

set_option maxHeartbeats 2000000 in
theorem cutPath_any (s : List UInt8) (w : World) (hs : s.length ≤ 1000000) (hM : ML w) : Calls Tryz.prog 88 #[sv s] w fun e w' => e = .returned (cutPV s (cutP s)) ∧ Below w.heap.size w w' := by
  have HM := Lib.hid hM
  obtain ⟨r, hr⟩ : ∃ r, r = cutP s := ⟨_, rfl⟩
  rw [← hr]
  have HR := Lib.hid hr
  clear hM hr
  go_enter Tryz.func88, Tryz.ntmps88
  go_wp2_with fail
  go_loopw [5, 6, 7, 10] (fun _ _ _ i wr => ∃ k : Nat, k ≤ s.length ∧ i = .int .i64 k ∧ cutPF s (s.length - k) k = r ∧ Below w.heap.size w wr) (fun _ _ _ i _ => s.length - (intOf i).toNat)
  case atStart => exact ⟨0, Nat.zero_le _, rfl, HR.out.symm, Below.refl _ _⟩
  case round =>
    obtain ⟨k, hk, rfl, hf, hb⟩ := hrel
    have HB := Lib.hid hb
    clear hb
    by_cases hlt : k < s.length
    · rw [cutPF_step hlt] at hf
      obtain ⟨c, hc⟩ : ∃ c, (s.getD k 0).toNat = c := ⟨_, rfl⟩
      have hcs : (((str s)[k]'(by simpa [ByteArray.size] using hlt)).toNat) = c := by rw [str_getD s k hlt, hc]
      by_cases h62 : c = 62
      · have hX := str_to s (k + 1)
        have hY := str_from s (k + 1)
        obtain ⟨t, ht⟩ : ∃ t, t = s.take (k + 1) := ⟨_, rfl⟩
        obtain ⟨z, hz⟩ : ∃ z, z = s.drop (k + 1) := ⟨_, rfl⟩
        rw [← ht] at hX hf
        rw [← hz] at hY hf
        have htl : t.length ≤ 1000000 := by rw [ht, List.length_take]; omega
        have ec : ((c : Int) != 62) = false := by rw [h62]; rfl
        obtain ⟨q, hq⟩ : ∃ q, q = unpathL t := ⟨_, rfl⟩
        have HQ := Lib.hid hq
        rw [← hq] at hf
        clear ht hz hq hc h62
        cases q with
        | some a =>
          have HF := Lib.hid (show r = some (a, z) from hf.symm)
          clear hf
          go_wp2_with fail
          refine (unpath_any t _ htl (HM.out.step HB.out)).mono ?_
          rintro e w1 ⟨rfl, hb1⟩
          rw [← HQ.out]
          have HB1 := Lib.hid (HB.out.trans (hb1.mono HB.out.size))
          clear hb1
          unfold unpathV
          go_wp2_with fail
          have q1 : IntKind.i64.wrap ((k : Int) + 1) = (k : Int) + 1 := IntWalk.i64_in _ (by omega)
          have q2 : (0 : Int) ≤ (k : Int) + 1 := by omega
          have q3 : ((k : Int) + 1).toNat = k + 1 := by omega
          have q4 : (k : Int) + 1 ≤ (s.length : Int) := by omega
          go_quiet (fail)
          clear q1 q2 q3 q4
          go_wp2_with fail
          first | go_ret2 | refine bodyPost_ret (v := .tuple #[sv a, sv z, .bool true]) (by simp [results, Tryz.results88, go_sem]) rfl ?_
          rw [HF.out]
          exact ⟨by first | rfl | (rw [hY]; rfl), below_drewN HB1.out _⟩
        | none =>
          have HF := Lib.hid hf
          clear hf
          go_wp2_with fail
          refine (unpath_any t _ htl (HM.out.step HB.out)).mono ?_
          rintro e w1 ⟨rfl, hb1⟩
          rw [← HQ.out]
          have HB1 := Lib.hid (HB.out.trans (hb1.mono HB.out.size))
          clear hb1
          unfold unpathV
          go_wp2_with fail
          go_roundw
          case rel => exact ⟨k + 1, by omega, by go_num, HF.out, HB1.out⟩
          case measure => simp [intOf]; omega
      · have hu := unpath_last hlt (fun e => h62 (by rw [← hc, e]; rfl))
        rw [hu] at hf
        have HF := Lib.hid hf
        have ec : ((c : Int) != 62) = true := by rw [bne_iff_ne]; omega
        clear hf hu hc h62
        go_wp2
        go_roundw
        case rel => exact ⟨k + 1, by omega, by go_num, HF.out, HB.out⟩
        case measure => simp [intOf]; omega
    · obtain rfl : k = s.length := by omega
      rw [Nat.sub_self] at hf
      have HF := Lib.hid (show r = none from hf.symm)
      clear hf
      go_wp2
      refine bodyPost_ret (v := .tuple #[sv [], sv s, .bool false]) (by simp [results, Tryz.results88, go_sem]) rfl ?_
      rw [HF.out]
      exact ⟨rfl, HB.out⟩

/-! ### Cut at a byte -/
theorem occ_byte (s : List UInt8) (b : UInt8) (j : Nat) : Lib.occAt s [b] j = (s[j]? == some b) := by
  unfold Lib.occAt
  rcases Nat.lt_or_ge j s.length with h | h
  · rw [List.getElem?_eq_getElem h, List.drop_eq_getElem_cons h]
    generalize s[j] = c
    generalize List.drop (j + 1) s = t
    show (b == c && List.isPrefixOf [] t) = (some c == some b)
    rw [show List.isPrefixOf [] t = true by cases t <;> rfl, Bool.and_true, Option.some_beq_some, BEq.comm]
  · rw [List.getElem?_eq_none h, List.drop_eq_nil_of_le h]; rfl
theorem cut_byte (s : List UInt8) (b : UInt8) : Lib.cut s [b] = (untilB s b, (s.drop (untilB s b).length).tail, s.contains b) := by
  rcases until_cases b s with ⟨h1, h2⟩ | ⟨a, t, rfl, h2, h3⟩
  · have hc : s.contains b = false := by
      rw [Bool.eq_false_iff]
      intro e
      exact h1 b (by simpa using e) rfl
    have : Lib.index s [b] = -1 := Lib.index_none fun j _ => by
      rw [occ_byte]
      rcases Nat.lt_or_ge j s.length with hj | hj
      · rw [List.getElem?_eq_getElem hj]
        have := h1 s[j] (List.getElem_mem hj)
        simp [this]
      · rw [List.getElem?_eq_none hj]; rfl
    unfold Lib.cut
    rw [this, if_neg (by omega), h2, hc]
    simp
  · have : Lib.index (a ++ b :: t) [b] = a.length := Lib.index_first (by simp) (by rw [occ_byte]; simp) fun j hj => by
      rw [occ_byte, List.getElem?_append_left hj, List.getElem?_eq_getElem hj]
      have := h2 a[j] (List.getElem_mem hj)
      simp [this]
    unfold Lib.cut
    rw [this, if_pos (by omega), h3]
    simp
theorem cutb_call (s : List UInt8) (b : UInt8) (w : World) (hs : s.length ≤ 1000000) (hm : ML w) {x y : List UInt8} {z : Bool} (h : Lib.cut s [b] = (x, y, z)) :
    Calls Tryz.prog 130 #[sv s, .string ⟨#[b]⟩] w fun e w' => e = .returned (.tuple #[sv x, sv y, .bool z]) ∧ ∃ n, w' = w.drewN n := by
  obtain ⟨mx, hm⟩ := hm
  have := Tryz.strings_Cut (str s) ⟨#[b]⟩ mx w (by simp [ByteArray.size]; omega) hm
  have e1 : (str s).data.toList = s := by simp
  have e2 : (⟨#[b]⟩ : ByteArray).data.toList = [b] := rfl
  rw [e1, e2, h] at this
  exact this
theorem untilB_len (s : List UInt8) (b : UInt8) : (untilB s b).length ≤ s.length := by
  rcases until_cases b s with ⟨_, h⟩ | ⟨a, t, rfl, _, h⟩ <;> rw [h]
  · exact Nat.le_refl _
  · simp

/-! ### paramOf -/
def wordV (r : Option PM) : Value := match r with
  | some p => .tuple #[pmV p, .bool true]
  | none => .tuple #[pmV pm0, .bool false]

set_option maxHeartbeats 4000000 in
theorem paramOf_any (s : List UInt8) (w : World) (hs : s.length ≤ 1000000) (hM : ML w) : Calls Tryz.prog 131 #[sv s] w fun e w' => e = .returned (wordV (wordP s)) ∧ Below w.heap.size w w' := by
  obtain ⟨x, hx⟩ : ∃ x, x = untilB s 61 := ⟨_, rfl⟩
  obtain ⟨y, hy⟩ : ∃ y, y = (s.drop (untilB s 61).length).tail := ⟨_, rfl⟩
  obtain ⟨z, hz⟩ : ∃ z, z = s.contains 61 := ⟨_, rfl⟩
  have hxl : x.length ≤ 1000000 := by have := untilB_len s 61; rw [hx]; omega
  have hyl : y.length ≤ 1000000 := by rw [hy, List.length_tail, List.length_drop]; omega
  have HC := Lib.hid (show Lib.cut s [61] = (x, y, z) by rw [cut_byte, hx, hy, hz])
  have HW := Lib.hid (show wordP s = if pL (gr x, y) && (z == !y.isEmpty) then some (gr x, y) else none by rw [hx, hy, hz]; rfl)
  have HM := Lib.hid hM
  obtain ⟨n, hn⟩ : ∃ n, n = gr x := ⟨_, rfl⟩
  rw [← hn] at HW
  have HN := Lib.hid hn
  have hnl : n.length ≤ 1000000 := by rw [hn, List.length_map]; exact hxl
  obtain ⟨a, ha⟩ : ∃ a, a = pL (n, y) := ⟨_, rfl⟩
  rw [← ha] at HW
  have HA := Lib.hid ha
  obtain ⟨ey, hey⟩ : ∃ e, y.isEmpty = e := ⟨_, rfl⟩
  rw [hey] at HW
  clear hx hy hz hM hn ha
  have HR0 := Lib.hid (heap_alloc_new w (.cells #[sv [], sv []] 38))
  have HB0 := Lib.hid (below_alloc w (.cells #[sv [], sv []] 38))
  go_enter Tryz.func131, Tryz.ntmps131
  go_wp2_with fail
  refine (cutb_call s 61 _ hs (HM.out.step HB0.out) HC.out).mono ?_
  rintro e w1 ⟨rfl, q, rfl⟩
  have HB1 := Lib.hid (below_drewN HB0.out q)
  have HR1 := Lib.hid (show ((w.alloc (.cells #[sv [], sv []] 38)).drewN q).heap[w.heap.size]? = some (.cells #[sv [], sv []] 38 (0, 0)) from HR0.out)
  obtain ⟨wa, hwa⟩ : ∃ wa, wa = (w.alloc (.cells #[sv [], sv []] 38)).drewN q := ⟨_, rfl⟩
  rw [← hwa] at HB1 HR1 ⊢
  clear hwa
  go_wp2_with fail
  refine (great_any x _ hxl).mono ?_
  rintro e w2 ⟨rfl, hb2⟩
  rw [← HN.out]
  have HB2 := Lib.hid (HB1.out.trans (hb2.mono HB1.out.size))
  have HR2 := Lib.hid (blk_below HR1.out hb2)
  clear hb2
  go_wp2_with fail
  refine (clone_any (str y) _ (by simp [ByteArray.size]; omega)).mono ?_
  rintro e w3 ⟨rfl, hb3⟩
  have HB3 := Lib.hid (HB2.out.trans (hb3.mono HB2.out.size))
  have HR3 := Lib.hid (blk_below HR2.out hb3)
  clear hb3
  have HB4 := Lib.hid (HB3.out.trans ((below_alloc w3 (.cells #[sv n, sv y] 38)).mono HB3.out.size))
  have HR4 := Lib.hid (blk_below HR3.out (below_alloc w3 (.cells #[sv n, sv y] 38)))
  have HP4 := Lib.hid (heap_alloc_new w3 (.cells #[sv n, sv y] 38))
  go_wp2_with fail
  refine (isParam_any (n, y) _ hnl hyl).mono ?_
  rintro e w4 ⟨rfl, hb4⟩
  rw [← HA.out]
  have HB5 := Lib.hid (HB4.out.trans (hb4.mono HB4.out.size))
  have hr5 := blk_below HR4.out hb4
  have hp5 := blk_below HP4.out hb4
  have c0 : w4.cell? ⟨w3.heap.size, 0, none⟩ = some (sv n) := by rw [cellAt hp5]; rfl
  have c1 : w4.cell? ⟨w3.heap.size, 1, none⟩ = some (sv y) := by rw [cellAt hp5]; rfl
  have d0 : w4.cell? ⟨w.heap.size, 0, none⟩ = some (sv []) := by rw [cellAt hr5]; rfl
  have d1 : w4.cell? ⟨w.heap.size, 1, none⟩ = some (sv []) := by rw [cellAt hr5]; rfl
  have f0 := freeAt hr5 0
  have f1 := freeAt hr5 1
  have HR5 := Lib.hid hr5
  have fin : ∀ n y : List UInt8, ((w4.setCell ⟨w.heap.size, 0, none⟩ (sv n)).setCell ⟨w.heap.size, 1, none⟩ (sv y)).heap[w.heap.size]? = some (.cells #[sv n, sv y] 38 (0, 0)) ∧ Below w.heap.size w ((w4.setCell ⟨w.heap.size, 0, none⟩ (sv n)).setCell ⟨w.heap.size, 1, none⟩ (sv y)) := by
    intro n y
    refine ⟨?_, (HB5.out.setCell (p := ⟨w.heap.size, 0, none⟩) (Nat.le_refl _) _).setCell (p := ⟨w.heap.size, 1, none⟩) (Nat.le_refl _) _⟩
    simp [World.setCell, Array.getElem?_modify, HR5.out]
  have FIN := Lib.hid fin
  clear fin hb4 hr5 hp5
  cases a with
  | false =>
    have HF := Lib.hid (show wordP s = none by rw [HW.out]; rfl)
    go_wp2_with fail
    refine bodyPost_ret (v := .tuple #[pmV pm0, .bool false]) (results_row_tmp (p := 2) (u := 3) (fr := (0, 0)) Tryz.results131 _ _ w.heap.size 38 _ _ rfl (FIN.out [] []).1 Tryz.underlying38 rfl (by kernel_rfl)) rfl ⟨?_, (FIN.out [] []).2⟩
    rw [HF.out]; rfl
  | true =>
    obtain ⟨t, ht⟩ : ∃ t, t = (z == !ey) := ⟨_, rfl⟩
    rw [← ht, Bool.true_and] at HW
    cases t with
    | false =>
      have HF := Lib.hid (show wordP s = none by rw [HW.out]; rfl)
      have hne : (z != !ey) = true := by rw [bne, ← ht]; rfl
      cases z <;> cases ey
      rotate_left
      · cases hne
      · cases hne
      all_goals clear ht hne
      all_goals
        go_wp2_with fail
        refine bodyPost_ret (v := .tuple #[pmV pm0, .bool false]) (results_row_tmp (p := 2) (u := 3) (fr := (0, 0)) Tryz.results131 _ _ w.heap.size 38 _ _ rfl (FIN.out [] []).1 Tryz.underlying38 rfl (by kernel_rfl)) rfl ⟨?_, (FIN.out [] []).2⟩
        rw [HF.out]; rfl
    | true =>
      have HF := Lib.hid (show wordP s = some (n, y) by rw [HW.out]; rfl)
      have hne : (z != !ey) = false := by rw [bne, ← ht]; rfl
      cases z <;> cases ey
      · cases hne
      rotate_right
      · cases hne
      all_goals clear ht hne
      all_goals
        go_wp2_with fail
        refine bodyPost_ret (v := .tuple #[pmV (n, y), .bool true]) (results_row_tmp (p := 2) (u := 3) (fr := (0, 0)) Tryz.results131 _ _ w.heap.size 38 _ _ rfl (FIN.out n y).1 Tryz.underlying38 rfl (by kernel_rfl)) rfl ⟨?_, (FIN.out n y).2⟩
        rw [HF.out]; rfl
end Go.Proofs.YtbmjmiioobgbfaaGreatDoor
