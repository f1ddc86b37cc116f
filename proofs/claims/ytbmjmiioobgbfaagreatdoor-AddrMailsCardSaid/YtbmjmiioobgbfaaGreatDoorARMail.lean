/-
  The contract of the reference's Mail.
-/
import Derived.Deep.RegionHeld3
import Derived.Test.YtbmjmiioobgbfaaGreatDoorARPars
import Derived.Test.YtbmjmiioobgbfaaGreatDoorARText
import Derived.Test.YtbmjmiioobgbfaaGreatDoorALess0
namespace Go.Proofs.YtbmjmiioobgbfaaGreatDoor
set_option linter.unusedSimpArgs false
set_option linter.unusedVariables false
open Go Go.RowKit
set_option maxRecDepth 100000

theorem same_can {a b : List UInt8} (ha : amayL a = true) (hb : amayL b = true) : sameL a b = decide (canL a = canL b) := by
  unfold amayL at ha hb
  obtain ⟨⟨l, d⟩, h1⟩ := Option.isSome_iff_exists.1 ha
  obtain ⟨⟨m, e⟩, h2⟩ := Option.isSome_iff_exists.1 hb
  rw [can_is h1, can_is h2]
  unfold sameL
  rw [h1, h2, Bool.eq_iff_iff, decide_eq_true_eq]
  constructor
  · intro h
    simp only [Option.isSome_some, Bool.true_and, beq_iff_eq, Option.some.injEq, Prod.mk.injEq] at h
    rw [h.1, h.2]
  · intro h
    have h3 := parse_show h1
    have h4 := parse_show h2
    rw [h, h4] at h3
    simp only [Option.some.injEq] at h3
    simp [h3]
theorem rc_at {W : World} {g off n c : Nat} {rs : List RC} (h : RcIs W (.slice (some ⟨g, off, none⟩) n c) rs) {j : Nat} (hj : j < rs.length) : W.cell? ⟨g, off + j * 2, none⟩ = some (sv (rs.getD j rc0).1) := by
  obtain ⟨A, c', e, h⟩ := h
  simp only [Value.slice.injEq] at e
  obtain ⟨rfl, _, _⟩ := e
  obtain ⟨g', off', e, hg, hc⟩ := h (by omega)
  simp only [Option.some.injEq, Addr.mk.injEq, and_true] at e
  obtain ⟨rfl, rfl⟩ := e
  exact (hc j hj).1
theorem are_no_may {xs : List (List UInt8)} {k : Nat} (hk : k < xs.length) (h : amayL (xs.getD k []) = false) : areL xs = false := by
  cases ha : areL xs with
  | false => rfl
  | true => rw [(are_is ha).2.1 _ (getD_mem hk)] at h; cases h
theorem are_no_same {xs : List (List UInt8)} {k j : Nat} (hk : k < xs.length) (hj : j < k) (h : sameL (xs.getD k []) (xs.getD j []) = true) : areL xs = false := by
  cases ha : areL xs with
  | false => rfl
  | true =>
    obtain ⟨_, h2, h3⟩ := are_is ha
    rw [same_can (h2 _ (getD_mem hk)) (h2 _ (getD_mem (by omega)))] at h
    have h := of_decide_eq_true h
    have h4 := (List.pairwise_iff_getElem.1 h3) j k (by rw [List.length_map]; omega) (by rw [List.length_map]; exact hk) hj
    rw [List.getElem_map, List.getElem_map] at h4
    rw [List.getD_eq_getElem?_getD, List.getD_eq_getElem?_getD, List.getElem?_eq_getElem hk, List.getElem?_eq_getElem (show j < xs.length by omega)] at h
    exact absurd h.symm h4
theorem nodup_next {xs : List (List UInt8)} {k : Nat} (hk : k < xs.length) (hm : ∀ j, j < k + 1 → amayL (xs.getD j []) = true) (hn : ((xs.take k).map canL).Nodup) (hs : ∀ j, j < k → sameL (xs.getD k []) (xs.getD j []) = false) : ((xs.take (k + 1)).map canL).Nodup := by
  rw [← take_can hk, List.nodup_append]
  refine ⟨hn, by simp, fun a ha b hb => ?_⟩
  simp only [List.mem_singleton] at hb
  subst hb
  obtain ⟨y, hy, rfl⟩ := List.mem_map.1 ha
  obtain ⟨j, hj, rfl⟩ := List.getElem_of_mem hy
  rw [List.length_take] at hj
  have h := hs j (by omega)
  rw [same_can (hm k (by omega)) (hm j (by omega))] at h
  have h := of_decide_eq_false h
  rw [List.getElem_take]
  rw [List.getD_eq_getElem?_getD (i := j), List.getElem?_eq_getElem (show j < xs.length by omega)] at h
  exact fun e => h e.symm
theorem are_all {xs : List (List UInt8)} (h0 : 0 < xs.length) (hm : ∀ j, j < xs.length → amayL (xs.getD j []) = true) (hn : ((xs.take xs.length).map canL).Nodup) : areL xs = true := by
  rw [List.take_length] at hn
  refine are_mk h0 (fun x hx => ?_) hn
  obtain ⟨j, hj, rfl⟩ := List.getElem_of_mem hx
  have := hm j hj
  rwa [List.getD_eq_getElem?_getD, List.getElem?_eq_getElem hj] at this
theorem MB.drew {w W : World} {cs : Array Value} (h : MB w cs W) : MB w cs W.drew := ⟨h.1.drew, h.2⟩


theorem box_there {w : World} (cs : Array Value) (hM : ML w) : MB w cs (w.alloc (.cells cs 24)) := ⟨(BL.start hM).alloc _, heap_alloc_new _ _⟩
theorem mail_at {f en tx : List UInt8} {xs : List (List UInt8)} {r m : Int} (h1 : (tx.length : Int) ≤ m) (h2 : (xs.length : Int) ≤ r) : mailL f xs en tx r m = if (endL f && areL xs && envidL en && mtextL tx) = true then 0 else 4 := by
  unfold mailL
  rw [if_neg (by rintro (h | h) <;> omega)]

set_option maxHeartbeats 1000000 in
theorem rmail_nil_none (f en tx : List UInt8) (q : Bool) (A : Option Addr) (c : Nat) (r m : Int) (w : World) (hv : RcIs w (.slice A ([] : List RC).length c) ([] : List RC)) (hl : ([] : List RC).length ≤ 100000) (hx : ∀ r ∈ ([] : List RC), r.1.length ≤ 1000000) (hf : f.length ≤ 1000000) (hen : en.length ≤ 1000000) (htx : tx.length ≤ 1000000) (hM : ML w) (hm : (tx.length : Int) ≤ m) (hr0 : (([] : List RC).length : Int) ≤ r) (hfe : f = []) : Calls Tryz.prog 14 #[mailV f (.slice A ([] : List RC).length c) q en tx, .int .i64 r, .int .i64 m] w fun e w' => e = .returned (.int .i64 (mailL f (tosL ([] : List RC)) en tx r m)) ∧ Below w.heap.size w w' := by
  subst hfe
  have HB0 := Lib.hid (box_there (mailCells [] (.slice A ([] : List RC).length c) q en tx) hM)
  have hr : ((tosL ([] : List RC)).length : Int) ≤ r := by rw [List.length_map]; exact hr0
  have HZ := Lib.hid (show mailL [] (tosL ([] : List RC)) en tx r m = 4 by rw [mail_at hm hr]; rw [if_neg]; rw [show areL (tosL ([] : List RC)) = false from rfl]; simp)
  clear hr hM
  go_enter Tryz.func14, Tryz.ntmps14
  go_wp2_with fail
  go_ret
  rw [HZ.out]
  exact ⟨rfl, HB0.out.1.below⟩


set_option maxHeartbeats 1000000 in
theorem rmail_nil_envid (f en tx : List UInt8) (q : Bool) (rs : List RC) (A : Option Addr) (c : Nat) (r m : Int) (w : World) (hv : RcIs w (.slice A rs.length c) rs) (hl : rs.length ≤ 100000) (hx : ∀ r ∈ rs, r.1.length ≤ 1000000) (hf : f.length ≤ 1000000) (hen : en.length ≤ 1000000) (htx : tx.length ≤ 1000000) (hM : ML w) (hm : (tx.length : Int) ≤ m) (hr0 : (rs.length : Int) ≤ r) (hfe : f = []) (h0 : 0 < rs.length) (he : envidL en = false) : Calls Tryz.prog 14 #[mailV f (.slice A rs.length c) q en tx, .int .i64 r, .int .i64 m] w fun e w' => e = .returned (.int .i64 (mailL f (tosL rs) en tx r m)) ∧ Below w.heap.size w w' := by
  subst hfe
  have HB0 := Lib.hid (box_there (mailCells [] (.slice A rs.length c) q en tx) hM)
  have hr : ((tosL rs).length : Int) ≤ r := by rw [List.length_map]; exact hr0
  have HZ := Lib.hid (show mailL [] (tosL rs) en tx r m = 4 by rw [mail_at hm hr]; rw [if_neg]; rw [he]; simp)
  have HE := Lib.hid he
  have hn0 : ((rs.length : Int) == 0) = false := by rw [beq_eq_false_iff_ne]; omega
  clear hr hM
  clear he
  go_enter Tryz.func14, Tryz.ntmps14
  go_wp2_with fail
  refine (renvid_any en _ hen).mono ?_
  rintro e w2 ⟨rfl, rfl⟩
  rw [HE.out]
  go_wp2_with fail
  go_ret
  rw [HZ.out]
  exact ⟨rfl, HB0.out.1.below⟩

set_option maxHeartbeats 1000000 in
theorem rmail_nil_text (f en tx : List UInt8) (q : Bool) (rs : List RC) (A : Option Addr) (c : Nat) (r m : Int) (w : World) (hv : RcIs w (.slice A rs.length c) rs) (hl : rs.length ≤ 100000) (hx : ∀ r ∈ rs, r.1.length ≤ 1000000) (hf : f.length ≤ 1000000) (hen : en.length ≤ 1000000) (htx : tx.length ≤ 1000000) (hM : ML w) (hm : (tx.length : Int) ≤ m) (hr0 : (rs.length : Int) ≤ r) (hfe : f = []) (h0 : 0 < rs.length) (he : envidL en = true) (ht : mtextL tx = false) : Calls Tryz.prog 14 #[mailV f (.slice A rs.length c) q en tx, .int .i64 r, .int .i64 m] w fun e w' => e = .returned (.int .i64 (mailL f (tosL rs) en tx r m)) ∧ Below w.heap.size w w' := by
  subst hfe
  have HB0 := Lib.hid (box_there (mailCells [] (.slice A rs.length c) q en tx) hM)
  have hr : ((tosL rs).length : Int) ≤ r := by rw [List.length_map]; exact hr0
  have HZ := Lib.hid (show mailL [] (tosL rs) en tx r m = 4 by rw [mail_at hm hr]; rw [if_neg]; rw [ht]; simp)
  have HE := Lib.hid he
  have HT := Lib.hid ht
  have hn0 : ((rs.length : Int) == 0) = false := by rw [beq_eq_false_iff_ne]; omega
  clear hr hM
  clear he ht
  go_enter Tryz.func14, Tryz.ntmps14
  go_wp2_with fail
  refine (renvid_any en _ hen).mono ?_
  rintro e w2 ⟨rfl, rfl⟩
  rw [HE.out]
  go_wp2_with fail
  refine (rtext_any tx _ htx).mono ?_
  rintro e w3 ⟨rfl, rfl⟩
  rw [HT.out]
  go_wp2_with fail
  go_ret
  rw [HZ.out]
  exact ⟨rfl, HB0.out.1.below⟩

set_option maxHeartbeats 4000000 in
theorem rmail_nil_loop (f en tx : List UInt8) (q : Bool) (rs : List RC) (ga oa : Nat) (c : Nat) (r m : Int) (w : World) (hv : RcIs w (.slice (some ⟨ga, oa, none⟩) rs.length c) rs) (hl : rs.length ≤ 100000) (hx : ∀ r ∈ rs, r.1.length ≤ 1000000) (hf : f.length ≤ 1000000) (hen : en.length ≤ 1000000) (htx : tx.length ≤ 1000000) (hM : ML w) (hm : (tx.length : Int) ≤ m) (hr0 : (rs.length : Int) ≤ r) (hfe : f = []) (h0 : 0 < rs.length) (he : envidL en = true) (ht : mtextL tx = true) : Calls Tryz.prog 14 #[mailV f (.slice (some ⟨ga, oa, none⟩) rs.length c) q en tx, .int .i64 r, .int .i64 m] w fun e w' => e = .returned (.int .i64 (mailL f (tosL rs) en tx r m)) ∧ Below w.heap.size w w' := by
  subst hfe
  have HB0 := Lib.hid (box_there (mailCells [] (.slice (some ⟨ga, oa, none⟩) rs.length c) q en tx) hM)
  have hr : ((tosL rs).length : Int) ≤ r := by rw [List.length_map]; exact hr0
  have HZA := Lib.hid (show ∀ b, areL (tosL rs) = b → mailL [] (tosL rs) en tx r m = if b = true then 0 else 4 from fun b hb => by rw [mail_at hm hr, hb, he, ht, end_nil]; cases b <;> rfl)
  have HE := Lib.hid he
  have HT := Lib.hid ht
  have HV := Lib.hid hv
  have HX := Lib.hid hx
  have HXL := Lib.hid (show (tosL rs).length = rs.length from List.length_map _)
  have hn0 : ((rs.length : Int) == 0) = false := by rw [beq_eq_false_iff_ne]; omega
  clear hr hM
  clear he ht hv hx
  go_enter Tryz.func14, Tryz.ntmps14
  go_wp2_with fail
  refine (renvid_any en _ hen).mono ?_
  rintro e w2 ⟨rfl, rfl⟩
  rw [HE.out]
  go_wp2_with fail
  refine (rtext_any tx _ htx).mono ?_
  rintro e w3 ⟨rfl, rfl⟩
  rw [HT.out]
  go_wp2_with fail
  go_loopw [7] (fun i wr => ∃ k : Nat, k ≤ rs.length ∧ i = .int .i64 k ∧ (∀ j, j < k → amayL ((tosL rs).getD j []) = true) ∧ (((tosL rs).take k).map canL).Nodup ∧ MB w (mailCells [] (.slice (some ⟨ga, oa, none⟩) rs.length c) q en tx) wr) (fun i _ => rs.length - (intOf i).toNat)
  case atStart => exact ⟨0, Nat.zero_le _, rfl, fun j hj => absurd hj (by omega), by simp, HB0.out⟩
  case round =>
    obtain ⟨k, hk, rfl, hm1, hn1, hmb⟩ := hrel
    have HM1 := Lib.hid hm1
    have HN1 := Lib.hid hn1
    have HMB := Lib.hid hmb
    obtain ⟨m0, m1, m3, m4⟩ := hmb.cells
    clear hm1 hn1 hmb
    by_cases hlt : k < rs.length
    · have q1 := rc_at (HV.out.step HMB.out.1.below) hlt
      obtain ⟨x, hx⟩ : ∃ x, x = (rs.getD k rc0).1 := ⟨_, rfl⟩
      rw [← hx] at q1
      have HTX := Lib.hid (show (tosL rs).getD k [] = x by rw [tos_getD hlt, hx])
      have hxl : x.length ≤ 1000000 := by
        rw [hx]; refine HX.out _ ?_
        rw [List.getD_eq_getElem?_getD, List.getElem?_eq_getElem hlt]
        exact List.getElem_mem hlt
      cases hm : amayL x with
      | false =>
        have HZ := Lib.hid (show mailL [] (tosL rs) en tx r m = 4 from HZA.out false (are_no_may (k := k) (by rw [HXL.out]; exact hlt) (by rw [HTX.out]; exact hm)))
        have HM := Lib.hid hm
        clear hx hm
        go_wp2_with fail
        refine (mb (rmay4_any x _ hxl) HMB.out).mono ?_
        rintro e w4 ⟨rfl, hb⟩
        rw [HM.out]
        have HB4 := Lib.hid hb
        clear hb
        go_wp2_with fail
        go_ret
        rw [HZ.out]
        exact ⟨rfl, HB4.out.1.below⟩
      | true =>
        have HM := Lib.hid hm
        have HM2 := Lib.hid (show ∀ j, j < k + 1 → amayL ((tosL rs).getD j []) = true from fun j hj => by
          by_cases e : j = k
          · rw [e, HTX.out]; exact hm
          · exact HM1.out j (by omega))
        clear hx hm
        go_wp2_with fail
        refine (mb (rmay4_any x _ hxl) HMB.out).mono ?_
        rintro e w4 ⟨rfl, hb⟩
        rw [HM.out]
        have HB4 := Lib.hid hb
        clear hb q1 m0 m1 m3 m4
        go_wp2_with fail
        go_loopw [8] (fun u wr => ∃ j : Nat, j ≤ k ∧ u = .int .i64 j ∧ (∀ i, i < j → sameL x ((tosL rs).getD i []) = false) ∧ MB w (mailCells [] (.slice (some ⟨ga, oa, none⟩) rs.length c) q en tx) wr) (fun u _ => k - (intOf u).toNat)
        case atStart => exact ⟨0, Nat.zero_le _, rfl, fun j hj => absurd hj (by omega), HB4.out⟩
        case round =>
          obtain ⟨j, hj, rfl, hs1, hmb⟩ := hrel
          have HS1 := Lib.hid hs1
          have HMJ := Lib.hid hmb
          clear hs1 hmb
          by_cases hjl : j < k
          · have hjr : j < rs.length := by omega
            obtain ⟨y, hy⟩ : ∃ y, y = (rs.getD j rc0).1 := ⟨_, rfl⟩
            have HTY := Lib.hid (show (tosL rs).getD j [] = y by rw [tos_getD hjr, hy])
            have hyl : y.length ≤ 1000000 := by
              rw [hy]; refine HX.out _ ?_
              rw [List.getD_eq_getElem?_getD, List.getElem?_eq_getElem hjr]
              exact List.getElem_mem hjr
            obtain ⟨s, hs⟩ : ∃ s, sameL x y = s := ⟨_, rfl⟩
            have HS := Lib.hid hs
            have HTX2 := Lib.hid (show (rs.getD k rc0).1 = x by rw [← tos_getD hlt, HTX.out])
            have HC := Lib.hid (fun (W : World) (h : MB w (mailCells [] (.slice (some ⟨ga, oa, none⟩) rs.length c) q en tx) W) => show MB w (mailCells [] (.slice (some ⟨ga, oa, none⟩) rs.length c) q en tx) W ∧ W.cell? ⟨w.heap.size, 1, none⟩ = some (.slice (some ⟨ga, oa, none⟩) rs.length c) ∧ W.cell? ⟨ga, oa + k * 2, none⟩ = some (sv x) ∧ W.cell? ⟨ga, oa + j * 2, none⟩ = some (sv y) from
              ⟨h, h.cells.2.1, by rw [← HTX2.out]; exact rc_at (HV.out.step h.1.below) hlt, by rw [hy]; exact rc_at (HV.out.step h.1.below) hjr⟩)
            have C1 := fun (W : World) (h : MB w (mailCells [] (.slice (some ⟨ga, oa, none⟩) rs.length c) q en tx) W) => mb (rsame4_any x y W hxl hyl) h
            rw [hs] at C1
            have D1 := Lib.hid C1
            obtain ⟨t0, t1, t2, t3⟩ := HC.out _ HMJ.out
            clear hy hs C1
            go_wp2_with fail
            go_region_held3 (fun W => MB w (mailCells [] (.slice (some ⟨ga, oa, none⟩) rs.length c) q en tx) W ∧ W.cell? ⟨w.heap.size, 1, none⟩ = some (.slice (some ⟨ga, oa, none⟩) rs.length c) ∧ W.cell? ⟨ga, oa + k * 2, none⟩ = some (sv x) ∧ W.cell? ⟨ga, oa + j * 2, none⟩ = some (sv y))
              (first | exact HC.out _ (by assumption) | exact HC.out _ (MB.drew (by assumption)))
              (first
                | (go_at_call 50; with_reducible refine (D1.out _ (by first | assumption | exact MB.drew (by assumption))).mono ?_; rintro e1 w8 ⟨rfl, hR⟩))
            have HR := Lib.hid hR
            clear hR t0 t1 t2 t3
            cases s with
            | true =>
              have HZ := Lib.hid (show mailL [] (tosL rs) en tx r m = 4 from HZA.out false (are_no_same (k := k) (j := j) (by rw [HXL.out]; exact hlt) hjl (by rw [HTX.out, HTY.out]; exact HS.out)))
              go_wp2_with fail
              go_ret
              rw [HZ.out]
              exact ⟨rfl, HR.out.1.below⟩
            | false =>
              have HS2 := Lib.hid (show ∀ i, i < j + 1 → sameL x ((tosL rs).getD i []) = false from fun i hi => by
                by_cases e : i = j
                · rw [e, HTY.out]; exact HS.out
                · exact HS1.out i (by omega))
              go_wp2_with fail
              go_roundw
              case rel => exact ⟨j + 1, by omega, by go_num, HS2.out, HR.out⟩
              case measure => simp [intOf]; omega
          · obtain rfl : j = k := by omega
            have HN2 := Lib.hid (show (((tosL rs).take (j + 1)).map canL).Nodup from nodup_next (by rw [HXL.out]; exact hlt) HM2.out HN1.out (fun i hi => by rw [HTX.out]; exact HS1.out i hi))
            go_wp2_with fail
            go_roundw
            case rel => exact ⟨j + 1, by omega, by go_num, HM2.out, HN2.out, HMJ.out⟩
            case measure => simp [intOf]; omega
    · obtain rfl : k = rs.length := by omega
      have HZ := Lib.hid (show mailL [] (tosL rs) en tx r m = 0 from HZA.out true (are_all (by rw [HXL.out]; exact h0) (by rw [HXL.out]; exact HM1.out) (by rw [HXL.out]; exact HN1.out)))
      go_wp2_with fail
      go_ret
      rw [HZ.out]
      exact ⟨rfl, HMB.out.1.below⟩

set_option maxHeartbeats 1000000 in
theorem rmail_cons_none (f en tx : List UInt8) (q : Bool) (A : Option Addr) (c : Nat) (r m : Int) (w : World) (hv : RcIs w (.slice A ([] : List RC).length c) ([] : List RC)) (hl : ([] : List RC).length ≤ 100000) (hx : ∀ r ∈ ([] : List RC), r.1.length ≤ 1000000) (hf : f.length ≤ 1000000) (hen : en.length ≤ 1000000) (htx : tx.length ≤ 1000000) (hM : ML w) (hm : (tx.length : Int) ≤ m) (hr0 : (([] : List RC).length : Int) ≤ r) (hfe : f.isEmpty = false) (hfm : amayL f = true) : Calls Tryz.prog 14 #[mailV f (.slice A ([] : List RC).length c) q en tx, .int .i64 r, .int .i64 m] w fun e w' => e = .returned (.int .i64 (mailL f (tosL ([] : List RC)) en tx r m)) ∧ Below w.heap.size w w' := by
  have hfm0 := hfm
  have HB0 := Lib.hid (box_there (mailCells f (.slice A ([] : List RC).length c) q en tx) hM)
  have HF := Lib.hid hfm
  clear hfm
  have hr : ((tosL ([] : List RC)).length : Int) ≤ r := by rw [List.length_map]; exact hr0
  have HZ := Lib.hid (show mailL f (tosL ([] : List RC)) en tx r m = 4 by rw [mail_at hm hr]; rw [if_neg]; rw [show areL (tosL ([] : List RC)) = false from rfl]; simp)
  clear hr hM hfm0
  go_enter Tryz.func14, Tryz.ntmps14
  go_wp2_with fail
  refine (mb (rmay4_any f _ hf) HB0.out).mono ?_
  rintro e w1 ⟨rfl, hb⟩
  rw [HF.out]
  have HB1 := Lib.hid hb
  obtain ⟨c0, c1, c3, c4⟩ := hb.cells
  clear hb
  go_wp2_with fail
  go_ret
  rw [HZ.out]
  exact ⟨rfl, HB1.out.1.below⟩


set_option maxHeartbeats 1000000 in
theorem rmail_cons_envid (f en tx : List UInt8) (q : Bool) (rs : List RC) (A : Option Addr) (c : Nat) (r m : Int) (w : World) (hv : RcIs w (.slice A rs.length c) rs) (hl : rs.length ≤ 100000) (hx : ∀ r ∈ rs, r.1.length ≤ 1000000) (hf : f.length ≤ 1000000) (hen : en.length ≤ 1000000) (htx : tx.length ≤ 1000000) (hM : ML w) (hm : (tx.length : Int) ≤ m) (hr0 : (rs.length : Int) ≤ r) (hfe : f.isEmpty = false) (hfm : amayL f = true) (h0 : 0 < rs.length) (he : envidL en = false) : Calls Tryz.prog 14 #[mailV f (.slice A rs.length c) q en tx, .int .i64 r, .int .i64 m] w fun e w' => e = .returned (.int .i64 (mailL f (tosL rs) en tx r m)) ∧ Below w.heap.size w w' := by
  have hfm0 := hfm
  have HB0 := Lib.hid (box_there (mailCells f (.slice A rs.length c) q en tx) hM)
  have HF := Lib.hid hfm
  clear hfm
  have hr : ((tosL rs).length : Int) ≤ r := by rw [List.length_map]; exact hr0
  have HZ := Lib.hid (show mailL f (tosL rs) en tx r m = 4 by rw [mail_at hm hr]; rw [if_neg]; rw [he]; simp)
  have HE := Lib.hid he
  have hn0 : ((rs.length : Int) == 0) = false := by rw [beq_eq_false_iff_ne]; omega
  clear hr hM hfm0
  clear he
  go_enter Tryz.func14, Tryz.ntmps14
  go_wp2_with fail
  refine (mb (rmay4_any f _ hf) HB0.out).mono ?_
  rintro e w1 ⟨rfl, hb⟩
  rw [HF.out]
  have HB1 := Lib.hid hb
  obtain ⟨c0, c1, c3, c4⟩ := hb.cells
  clear hb
  go_wp2_with fail
  refine (renvid_any en _ hen).mono ?_
  rintro e w2 ⟨rfl, rfl⟩
  rw [HE.out]
  go_wp2_with fail
  go_ret
  rw [HZ.out]
  exact ⟨rfl, HB1.out.1.below⟩

set_option maxHeartbeats 1000000 in
theorem rmail_cons_text (f en tx : List UInt8) (q : Bool) (rs : List RC) (A : Option Addr) (c : Nat) (r m : Int) (w : World) (hv : RcIs w (.slice A rs.length c) rs) (hl : rs.length ≤ 100000) (hx : ∀ r ∈ rs, r.1.length ≤ 1000000) (hf : f.length ≤ 1000000) (hen : en.length ≤ 1000000) (htx : tx.length ≤ 1000000) (hM : ML w) (hm : (tx.length : Int) ≤ m) (hr0 : (rs.length : Int) ≤ r) (hfe : f.isEmpty = false) (hfm : amayL f = true) (h0 : 0 < rs.length) (he : envidL en = true) (ht : mtextL tx = false) : Calls Tryz.prog 14 #[mailV f (.slice A rs.length c) q en tx, .int .i64 r, .int .i64 m] w fun e w' => e = .returned (.int .i64 (mailL f (tosL rs) en tx r m)) ∧ Below w.heap.size w w' := by
  have hfm0 := hfm
  have HB0 := Lib.hid (box_there (mailCells f (.slice A rs.length c) q en tx) hM)
  have HF := Lib.hid hfm
  clear hfm
  have hr : ((tosL rs).length : Int) ≤ r := by rw [List.length_map]; exact hr0
  have HZ := Lib.hid (show mailL f (tosL rs) en tx r m = 4 by rw [mail_at hm hr]; rw [if_neg]; rw [ht]; simp)
  have HE := Lib.hid he
  have HT := Lib.hid ht
  have hn0 : ((rs.length : Int) == 0) = false := by rw [beq_eq_false_iff_ne]; omega
  clear hr hM hfm0
  clear he ht
  go_enter Tryz.func14, Tryz.ntmps14
  go_wp2_with fail
  refine (mb (rmay4_any f _ hf) HB0.out).mono ?_
  rintro e w1 ⟨rfl, hb⟩
  rw [HF.out]
  have HB1 := Lib.hid hb
  obtain ⟨c0, c1, c3, c4⟩ := hb.cells
  clear hb
  go_wp2_with fail
  refine (renvid_any en _ hen).mono ?_
  rintro e w2 ⟨rfl, rfl⟩
  rw [HE.out]
  go_wp2_with fail
  refine (rtext_any tx _ htx).mono ?_
  rintro e w3 ⟨rfl, rfl⟩
  rw [HT.out]
  go_wp2_with fail
  go_ret
  rw [HZ.out]
  exact ⟨rfl, HB1.out.1.below⟩

set_option maxHeartbeats 4000000 in
theorem rmail_cons_loop (f en tx : List UInt8) (q : Bool) (rs : List RC) (ga oa : Nat) (c : Nat) (r m : Int) (w : World) (hv : RcIs w (.slice (some ⟨ga, oa, none⟩) rs.length c) rs) (hl : rs.length ≤ 100000) (hx : ∀ r ∈ rs, r.1.length ≤ 1000000) (hf : f.length ≤ 1000000) (hen : en.length ≤ 1000000) (htx : tx.length ≤ 1000000) (hM : ML w) (hm : (tx.length : Int) ≤ m) (hr0 : (rs.length : Int) ≤ r) (hfe : f.isEmpty = false) (hfm : amayL f = true) (h0 : 0 < rs.length) (he : envidL en = true) (ht : mtextL tx = true) : Calls Tryz.prog 14 #[mailV f (.slice (some ⟨ga, oa, none⟩) rs.length c) q en tx, .int .i64 r, .int .i64 m] w fun e w' => e = .returned (.int .i64 (mailL f (tosL rs) en tx r m)) ∧ Below w.heap.size w w' := by
  have hfm0 := hfm
  have HB0 := Lib.hid (box_there (mailCells f (.slice (some ⟨ga, oa, none⟩) rs.length c) q en tx) hM)
  have HF := Lib.hid hfm
  clear hfm
  have hr : ((tosL rs).length : Int) ≤ r := by rw [List.length_map]; exact hr0
  have HZA := Lib.hid (show ∀ b, areL (tosL rs) = b → mailL f (tosL rs) en tx r m = if b = true then 0 else 4 from fun b hb => by rw [mail_at hm hr, hb, he, ht, (show endL f = true by unfold endL; rw [hfm0]; simp)]; cases b <;> rfl)
  have HE := Lib.hid he
  have HT := Lib.hid ht
  have HV := Lib.hid hv
  have HX := Lib.hid hx
  have HXL := Lib.hid (show (tosL rs).length = rs.length from List.length_map _)
  have hn0 : ((rs.length : Int) == 0) = false := by rw [beq_eq_false_iff_ne]; omega
  clear hr hM hfm0
  clear he ht hv hx
  go_enter Tryz.func14, Tryz.ntmps14
  go_wp2_with fail
  refine (mb (rmay4_any f _ hf) HB0.out).mono ?_
  rintro e w1 ⟨rfl, hb⟩
  rw [HF.out]
  have HB1 := Lib.hid hb
  obtain ⟨c0, c1, c3, c4⟩ := hb.cells
  clear hb
  go_wp2_with fail
  refine (renvid_any en _ hen).mono ?_
  rintro e w2 ⟨rfl, rfl⟩
  rw [HE.out]
  go_wp2_with fail
  refine (rtext_any tx _ htx).mono ?_
  rintro e w3 ⟨rfl, rfl⟩
  rw [HT.out]
  go_wp2_with fail
  go_loopw [7] (fun i wr => ∃ k : Nat, k ≤ rs.length ∧ i = .int .i64 k ∧ (∀ j, j < k → amayL ((tosL rs).getD j []) = true) ∧ (((tosL rs).take k).map canL).Nodup ∧ MB w (mailCells f (.slice (some ⟨ga, oa, none⟩) rs.length c) q en tx) wr) (fun i _ => rs.length - (intOf i).toNat)
  case atStart => exact ⟨0, Nat.zero_le _, rfl, fun j hj => absurd hj (by omega), by simp, HB1.out⟩
  case round =>
    obtain ⟨k, hk, rfl, hm1, hn1, hmb⟩ := hrel
    have HM1 := Lib.hid hm1
    have HN1 := Lib.hid hn1
    have HMB := Lib.hid hmb
    obtain ⟨m0, m1, m3, m4⟩ := hmb.cells
    clear hm1 hn1 hmb
    by_cases hlt : k < rs.length
    · have q1 := rc_at (HV.out.step HMB.out.1.below) hlt
      obtain ⟨x, hx⟩ : ∃ x, x = (rs.getD k rc0).1 := ⟨_, rfl⟩
      rw [← hx] at q1
      have HTX := Lib.hid (show (tosL rs).getD k [] = x by rw [tos_getD hlt, hx])
      have hxl : x.length ≤ 1000000 := by
        rw [hx]; refine HX.out _ ?_
        rw [List.getD_eq_getElem?_getD, List.getElem?_eq_getElem hlt]
        exact List.getElem_mem hlt
      cases hm : amayL x with
      | false =>
        have HZ := Lib.hid (show mailL f (tosL rs) en tx r m = 4 from HZA.out false (are_no_may (k := k) (by rw [HXL.out]; exact hlt) (by rw [HTX.out]; exact hm)))
        have HM := Lib.hid hm
        clear hx hm
        go_wp2_with fail
        refine (mb (rmay4_any x _ hxl) HMB.out).mono ?_
        rintro e w4 ⟨rfl, hb⟩
        rw [HM.out]
        have HB4 := Lib.hid hb
        clear hb
        go_wp2_with fail
        go_ret
        rw [HZ.out]
        exact ⟨rfl, HB4.out.1.below⟩
      | true =>
        have HM := Lib.hid hm
        have HM2 := Lib.hid (show ∀ j, j < k + 1 → amayL ((tosL rs).getD j []) = true from fun j hj => by
          by_cases e : j = k
          · rw [e, HTX.out]; exact hm
          · exact HM1.out j (by omega))
        clear hx hm
        go_wp2_with fail
        refine (mb (rmay4_any x _ hxl) HMB.out).mono ?_
        rintro e w4 ⟨rfl, hb⟩
        rw [HM.out]
        have HB4 := Lib.hid hb
        clear hb q1 m0 m1 m3 m4
        go_wp2_with fail
        go_loopw [8] (fun u wr => ∃ j : Nat, j ≤ k ∧ u = .int .i64 j ∧ (∀ i, i < j → sameL x ((tosL rs).getD i []) = false) ∧ MB w (mailCells f (.slice (some ⟨ga, oa, none⟩) rs.length c) q en tx) wr) (fun u _ => k - (intOf u).toNat)
        case atStart => exact ⟨0, Nat.zero_le _, rfl, fun j hj => absurd hj (by omega), HB4.out⟩
        case round =>
          obtain ⟨j, hj, rfl, hs1, hmb⟩ := hrel
          have HS1 := Lib.hid hs1
          have HMJ := Lib.hid hmb
          clear hs1 hmb
          by_cases hjl : j < k
          · have hjr : j < rs.length := by omega
            obtain ⟨y, hy⟩ : ∃ y, y = (rs.getD j rc0).1 := ⟨_, rfl⟩
            have HTY := Lib.hid (show (tosL rs).getD j [] = y by rw [tos_getD hjr, hy])
            have hyl : y.length ≤ 1000000 := by
              rw [hy]; refine HX.out _ ?_
              rw [List.getD_eq_getElem?_getD, List.getElem?_eq_getElem hjr]
              exact List.getElem_mem hjr
            obtain ⟨s, hs⟩ : ∃ s, sameL x y = s := ⟨_, rfl⟩
            have HS := Lib.hid hs
            have HTX2 := Lib.hid (show (rs.getD k rc0).1 = x by rw [← tos_getD hlt, HTX.out])
            have HC := Lib.hid (fun (W : World) (h : MB w (mailCells f (.slice (some ⟨ga, oa, none⟩) rs.length c) q en tx) W) => show MB w (mailCells f (.slice (some ⟨ga, oa, none⟩) rs.length c) q en tx) W ∧ W.cell? ⟨w.heap.size, 1, none⟩ = some (.slice (some ⟨ga, oa, none⟩) rs.length c) ∧ W.cell? ⟨ga, oa + k * 2, none⟩ = some (sv x) ∧ W.cell? ⟨ga, oa + j * 2, none⟩ = some (sv y) from
              ⟨h, h.cells.2.1, by rw [← HTX2.out]; exact rc_at (HV.out.step h.1.below) hlt, by rw [hy]; exact rc_at (HV.out.step h.1.below) hjr⟩)
            have C1 := fun (W : World) (h : MB w (mailCells f (.slice (some ⟨ga, oa, none⟩) rs.length c) q en tx) W) => mb (rsame4_any x y W hxl hyl) h
            rw [hs] at C1
            have D1 := Lib.hid C1
            obtain ⟨t0, t1, t2, t3⟩ := HC.out _ HMJ.out
            clear hy hs C1
            go_wp2_with fail
            go_region_held3 (fun W => MB w (mailCells f (.slice (some ⟨ga, oa, none⟩) rs.length c) q en tx) W ∧ W.cell? ⟨w.heap.size, 1, none⟩ = some (.slice (some ⟨ga, oa, none⟩) rs.length c) ∧ W.cell? ⟨ga, oa + k * 2, none⟩ = some (sv x) ∧ W.cell? ⟨ga, oa + j * 2, none⟩ = some (sv y))
              (first | exact HC.out _ (by assumption) | exact HC.out _ (MB.drew (by assumption)))
              (first
                | (go_at_call 50; with_reducible refine (D1.out _ (by first | assumption | exact MB.drew (by assumption))).mono ?_; rintro e1 w8 ⟨rfl, hR⟩))
            have HR := Lib.hid hR
            clear hR t0 t1 t2 t3
            cases s with
            | true =>
              have HZ := Lib.hid (show mailL f (tosL rs) en tx r m = 4 from HZA.out false (are_no_same (k := k) (j := j) (by rw [HXL.out]; exact hlt) hjl (by rw [HTX.out, HTY.out]; exact HS.out)))
              go_wp2_with fail
              go_ret
              rw [HZ.out]
              exact ⟨rfl, HR.out.1.below⟩
            | false =>
              have HS2 := Lib.hid (show ∀ i, i < j + 1 → sameL x ((tosL rs).getD i []) = false from fun i hi => by
                by_cases e : i = j
                · rw [e, HTY.out]; exact HS.out
                · exact HS1.out i (by omega))
              go_wp2_with fail
              go_roundw
              case rel => exact ⟨j + 1, by omega, by go_num, HS2.out, HR.out⟩
              case measure => simp [intOf]; omega
          · obtain rfl : j = k := by omega
            have HN2 := Lib.hid (show (((tosL rs).take (j + 1)).map canL).Nodup from nodup_next (by rw [HXL.out]; exact hlt) HM2.out HN1.out (fun i hi => by rw [HTX.out]; exact HS1.out i hi))
            go_wp2_with fail
            go_roundw
            case rel => exact ⟨j + 1, by omega, by go_num, HM2.out, HN2.out, HMJ.out⟩
            case measure => simp [intOf]; omega
    · obtain rfl : k = rs.length := by omega
      have HZ := Lib.hid (show mailL f (tosL rs) en tx r m = 0 from HZA.out true (are_all (by rw [HXL.out]; exact h0) (by rw [HXL.out]; exact HM1.out) (by rw [HXL.out]; exact HN1.out)))
      go_wp2_with fail
      go_ret
      rw [HZ.out]
      exact ⟨rfl, HMB.out.1.below⟩

set_option maxHeartbeats 1000000 in
theorem rmail_no (f en tx : List UInt8) (q : Bool) (rs : List RC) (A : Option Addr) (c : Nat) (r m : Int) (w : World) (hv : RcIs w (.slice A rs.length c) rs) (hl : rs.length ≤ 100000) (hx : ∀ r ∈ rs, r.1.length ≤ 1000000) (hf : f.length ≤ 1000000) (hen : en.length ≤ 1000000) (htx : tx.length ≤ 1000000) (hM : ML w) (hm : (tx.length : Int) ≤ m) (hr0 : (rs.length : Int) ≤ r) (hfe : f.isEmpty = false) (hfm : amayL f = false) : Calls Tryz.prog 14 #[mailV f (.slice A rs.length c) q en tx, .int .i64 r, .int .i64 m] w fun e w' => e = .returned (.int .i64 (mailL f (tosL rs) en tx r m)) ∧ Below w.heap.size w w' := by
  have HB0 := Lib.hid (box_there (mailCells f (.slice A rs.length c) q en tx) hM)
  have hr : ((tosL rs).length : Int) ≤ r := by rw [List.length_map]; exact hr0
  have HZ := Lib.hid (show mailL f (tosL rs) en tx r m = 4 by rw [mail_at hm hr, if_neg]; rw [show endL f = false by unfold endL; rw [hfe, hfm]; rfl]; simp)
  have HF := Lib.hid hfm
  clear hfm hr hM
  go_enter Tryz.func14, Tryz.ntmps14
  go_wp2_with fail
  refine (mb (rmay4_any f _ hf) HB0.out).mono ?_
  rintro e w1 ⟨rfl, hb⟩
  rw [HF.out]
  have HB1 := Lib.hid hb
  obtain ⟨c0, c1, c3, c4⟩ := hb.cells
  clear hb
  go_wp2_with fail
  go_ret
  rw [HZ.out]
  exact ⟨rfl, HB1.out.1.below⟩

set_option maxHeartbeats 1000000 in
theorem rmail_any (f en tx : List UInt8) (q : Bool) (rs : List RC) (A : Option Addr) (c : Nat) (r m : Int) (w : World) (hv : RcIs w (.slice A rs.length c) rs) (hl : rs.length ≤ 100000) (hx : ∀ r ∈ rs, r.1.length ≤ 1000000) (hf : f.length ≤ 1000000) (hen : en.length ≤ 1000000) (htx : tx.length ≤ 1000000) (hM : ML w) : Calls Tryz.prog 14 #[mailV f (.slice A rs.length c) q en tx, .int .i64 r, .int .i64 m] w fun e w' => e = .returned (.int .i64 (mailL f (tosL rs) en tx r m)) ∧ Below w.heap.size w w' := by
  by_cases h1 : m < tx.length
  · have HZ := Lib.hid (show mailL f (tosL rs) en tx r m = 40 by unfold mailL; rw [if_pos (.inl h1)])
    have HB0 := Lib.hid (box_there (mailCells f (.slice A rs.length c) q en tx) hM)
    clear hM
    go_enter Tryz.func14, Tryz.ntmps14
    go_wp2_with fail
    go_ret
    rw [HZ.out]
    exact ⟨rfl, HB0.out.1.below⟩
  by_cases h2 : r < rs.length
  · have HZ := Lib.hid (show mailL f (tosL rs) en tx r m = 40 by unfold mailL; rw [if_pos (.inr (by rw [List.length_map]; exact h2))])
    have HB0 := Lib.hid (box_there (mailCells f (.slice A rs.length c) q en tx) hM)
    have h1' : (tx.length : Int) ≤ m := by omega
    clear hM h1
    go_enter Tryz.func14, Tryz.ntmps14
    go_wp2_with fail
    go_ret
    rw [HZ.out]
    exact ⟨rfl, HB0.out.1.below⟩
  have h1' : (tx.length : Int) ≤ m := by omega
  have h2' : (rs.length : Int) ≤ r := by omega
  by_cases h0 : rs.length = 0
  · obtain rfl : rs = [] := List.length_eq_zero_iff.1 h0
    cases hfe : f.isEmpty with
    | true => exact rmail_nil_none f en tx q A c r m w hv hl hx hf hen htx hM h1' h2' (List.isEmpty_iff.1 hfe)
    | false =>
      cases hfm : amayL f with
      | true => exact rmail_cons_none f en tx q A c r m w hv hl hx hf hen htx hM h1' h2' hfe hfm
      | false => exact rmail_no f en tx q [] A c r m w hv hl hx hf hen htx hM h1' h2' hfe hfm
  have h0' : 0 < rs.length := by omega
  cases hfe : f.isEmpty with
  | true =>
    have hf0 := List.isEmpty_iff.1 hfe
    cases he : envidL en with
    | false => exact rmail_nil_envid f en tx q rs A c r m w hv hl hx hf hen htx hM h1' h2' hf0 h0' he
    | true =>
      cases ht : mtextL tx with
      | false => exact rmail_nil_text f en tx q rs A c r m w hv hl hx hf hen htx hM h1' h2' hf0 h0' he ht
      | true =>
        obtain ⟨A', c', e, hg⟩ := id hv
        simp only [Value.slice.injEq, true_and] at e
        obtain ⟨ga, oa, hA, _⟩ := hg h0'
        obtain ⟨rfl, rfl⟩ := e
        subst hA
        exact rmail_nil_loop f en tx q rs ga oa c r m w hv hl hx hf hen htx hM h1' h2' hf0 h0' he ht
  | false =>
    cases hfm : amayL f with
    | false => exact rmail_no f en tx q rs A c r m w hv hl hx hf hen htx hM h1' h2' hfe hfm
    | true =>
      cases he : envidL en with
      | false => exact rmail_cons_envid f en tx q rs A c r m w hv hl hx hf hen htx hM h1' h2' hfe hfm h0' he
      | true =>
        cases ht : mtextL tx with
        | false => exact rmail_cons_text f en tx q rs A c r m w hv hl hx hf hen htx hM h1' h2' hfe hfm h0' he ht
        | true =>
          obtain ⟨A', c', e, hg⟩ := id hv
          simp only [Value.slice.injEq, true_and] at e
          obtain ⟨ga, oa, hA, _⟩ := hg h0'
          obtain ⟨rfl, rfl⟩ := e
          subst hA
          exact rmail_cons_loop f en tx q rs ga oa c r m w hv hl hx hf hen htx hM h1' h2' hfe hfm h0' he ht
end Go.Proofs.YtbmjmiioobgbfaaGreatDoor
