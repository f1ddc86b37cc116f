/-
  PROVED: LineNames returns true: the examples, the bounds, a line of just as many bytes as may be, lines ahead of one that is too long, nobody's framer (the closed statement of stage 1).
  Conditions: none.
-/
import Derived.Test.YtgjngldkeiblbaaTop
namespace Go.Proofs.Ytgjngldkeiblbaa
open Go Go.RowKit Go.Shelf Go.WideShapes Go.ChangeShapes Go.ChangeAt

/-- 510 bytes 0. -/
def zs : List UInt8 := List.replicate 510 0
theorem zs_length : zs.length = 510 := List.length_replicate
theorem zs_get {i : Nat} {x : UInt8} (h : zs[i]? = some x) : x = 0 := by
  unfold zs at h
  rw [List.getElem?_replicate] at h
  split at h <;> simp_all

theorem noCL_zs13 : NoCL (zs ++ [13]) := by
  intro i ⟨h1, h2⟩
  rcases Nat.lt_or_ge (i + 1) zs.length with h | h
  · rw [List.getElem?_append_left h] at h2
    have := zs_get h2; cases this
  · rw [List.getElem?_append_right h] at h2
    have := (List.getElem?_eq_some_iff.1 h2).1
    have e : i + 1 - zs.length = 0 := by simpa using this
    rw [e] at h2; simp at h2

theorem noCL_zs0 : NoCL zs := by
  intro i ⟨h1, h2⟩
  have := zs_get h2; cases this

theorem run1 : run 512 [] (zs ++ [13, 10] ++ zs) = ([zs], zs, false) := by
  have h := run_hit (m := 512) (a := zs) (r := zs) noCL_zs13 (by rw [zs_length]; omega) (zs ++ [13, 10] ++ zs) [] (by simp) (by simp)
  rw [h, run_rest zs [] (by simpa using noCL_zs0) (by simp [zs_length])]
  simp
theorem live2x : Live 512 zs := ⟨by rw [run_rest zs [] (by simpa using noCL_zs0) (by simp [zs_length])]; simp, by rw [zs_length]; omega⟩
theorem run2 : run 512 zs [13] = ([], zs ++ [13], false) := by
  rw [run_on [] (by simp) (by rw [zs_length]; omega), run_nil]
theorem live3 : Live 512 (zs ++ [13]) := ⟨by rw [run_rest (zs ++ [13]) [] (by simpa using noCL_zs13) (by simp [zs_length])]; simp, by simp [zs_length]⟩
theorem run3 : run 512 (zs ++ [13]) ([10] ++ zs ++ [13]) = ([zs], zs ++ [13], false) := by
  have h := run_hit (m := 512) (a := zs) (r := zs ++ [13]) noCL_zs13 (by rw [zs_length]; omega) ([10] ++ zs ++ [13]) (zs ++ [13]) (by simp) (by simp)
  rw [h, live3.1]
theorem run4 : run 512 (zs ++ [13]) [13] = ([], [], true) := run_dies _ (by simp) (by simp [zs_length])

theorem ejoin1 : str zs ++ { data := #[13, 10] } ++ str zs = str (zs ++ [13, 10] ++ zs) := by apply ByteArray.ext; simp
theorem ejoin3 : { data := #[10] } ++ str zs ++ { data := #[13] } = str ([10] ++ zs ++ [13]) := by apply ByteArray.ext; simp

theorem SR.at_ {W : World} {A : Option Addr} {c : Nat} {xs : List (List UInt8)} (h : SR W (.slice A xs.length c) xs) (h0 : 0 < xs.length) : ∃ b o, A = some ⟨b, o, none⟩ ∧ ∀ k, ∀ h : k < xs.length, W.cell? ⟨b, o + k, none⟩ = some (sv xs[k]) := by
  obtain ⟨A', c', e, h⟩ := h
  obtain ⟨rfl, rfl⟩ : A = A' ∧ c = c' := by simpa using e
  rcases h with rfl | h
  · simp at h0
  · exact h

set_option maxRecDepth 100000 in
set_option maxHeartbeats 4000000 in
theorem names_walk (w : World) (hML : ML w) : Calls Try.prog 3 #[] w fun e w' => e = .returned (.bool true) ∧ Below w.heap.size w w' := by
  have HM := Lib.hid hML
  clear hML
  obtain ⟨i0, hi, hz0, hz1, hz2⟩ := info_parts Try.info5
  obtain ⟨M, hM⟩ : ∃ M, M = madeCells (Value.int .u8 0).cells (((510 : Nat) : Int).toNat * i0.size) := ⟨_, rfl⟩
  have hMl : M = (Lib.byteCells zs).toArray := by
    rw [hM, hz1]
    apply Array.ext'
    rw [show (Value.int .u8 0).cells = #[.int .u8 0] from rfl, toList_madeCells_one]
    simp [Lib.byteCells, zs]
  have hmk : ∀ W : World, (Instr.makeSlice 34 (.int .i64 510) (.int .i64 510)).run Try.prog W = .ok (.slice (some ⟨W.heap.size, 0, none⟩) 510 510) (W.alloc (.cells M 5)) := fun W => by
    have h := run_make (P := Try.prog) W 34 5 i0 (.int .u8 0) Try.underlying34 hi hz0 .i64 .i64 ((510 : Nat) : Int) ((510 : Nat) : Int) (by omega) (by omega) (by rw [hz2]; omega) (by omega)
    rw [← hM] at h
    simpa using h
  have hcv : ∀ W : World, (convert 34 9 (.slice (some ⟨W.heap.size, 0, none⟩) 510 510)).run Try.prog (W.alloc (.cells M 5)) = .ok (.string (str zs)) (W.alloc (.cells M 5)) := fun W => by
    refine run_have (w := W.alloc (.cells M 5)) (v := .slice (some ⟨W.heap.size, 0, none⟩) 510 510) (l := zs) (.inr ⟨W.heap.size, by rw [zs_length], ?_⟩)
    rw [heap_alloc_new, hMl]
  clear hMl hM hi hz0 hz1 hz2
  go_enter Try.func3, Try.ntmps3
  go_wp2_with fail
  refine (reset_nil w).mono ?_
  rintro e w' ⟨rfl, rfl⟩
  go_wp2_with fail
  refine (feed_nil (str [97, 13, 10]) w).mono ?_
  rintro e w2 ⟨rfl, hg⟩
  have hb : Below w.heap.size w w2 := ⟨hg.os, hg.tape, hg.output, hg.size, fun k hk => hg.block k hk (by simp)⟩
  have HB1 := Lib.hid ((Below.refl w.heap.size w).trans (hb.mono (Below.refl w.heap.size w).size))
  have HM2 := Lib.hid (HM.out.below hb)
  clear hg hb
  go_wp2_with fail
  refine (awake_any w2 HM2.out HM2.out.pos).mono ?_
  rintro e w3 ⟨rfl, hb⟩
  have HB3 := Lib.hid (HB1.out.trans (hb.mono HB1.out.size))
  have HM4 := Lib.hid (HM2.out.below hb)
  clear hb
  go_wp2_with fail
  refine (left_nil w3).mono ?_
  rintro e w' ⟨rfl, rfl⟩
  go_wp2_with fail
  refine (dead_nil w3).mono ?_
  rintro e w' ⟨rfl, rfl⟩
  go_wp2_with fail
  refine (copy_nil w3).mono ?_
  rintro e w' ⟨rfl, rfl⟩
  go_wp2_with fail
  obtain ⟨w4, hw⟩ : ∃ w4, w4 = w3.alloc (.cells #[.int .i64 1, .int .i64 0, .int .i64 (-1), .int .i64 513, .int .i64 1099511627776] 3) := ⟨_, rfl⟩
  rw [← hw]
  have hb : Below w3.heap.size w3 w4 := by rw [hw]; exact below_alloc _ _
  have hc : w4.heap[w3.heap.size]? = some (.cells #[.int .i64 1, .int .i64 0, .int .i64 (-1), .int .i64 513, .int .i64 1099511627776] 3 (0, 0)) := by rw [hw]; exact heap_alloc_new _ _
  have HB5 := Lib.hid (HB3.out.trans (hb.mono HB3.out.size))
  have HM6 := Lib.hid (HM4.out.below hb)
  have HC := Lib.hid hc
  clear hw hb hc
  go_loop [67] (fun i => ∃ k : Nat, k ≤ 5 ∧ i = .int .i64 k) (fun i => 5 - (intOf i).toNat)
  case atStart => exact ⟨0, by omega, rfl⟩
  case round =>
    obtain ⟨k, hk, rfl⟩ := hrel
    by_cases hlt : k < 5
    · rcases (show k = 0 ∨ k = 1 ∨ k = 2 ∨ k = 3 ∨ k = 4 by omega) with rfl | rfl | rfl | rfl | rfl
      · have hck : w4.cell? ⟨w3.heap.size, 0, none⟩ = some (.int .i64 1) := by rw [cellAt HC.out]; rfl
        go_wp2_with fail
        refine (new_low 1 w4 (by decide)).mono ?_
        rintro e w' ⟨rfl, rfl⟩
        go_wp2
        go_round
        case rel => exact ⟨1, by omega, rfl⟩
        case measure => simp [intOf]
      · have hck : w4.cell? ⟨w3.heap.size, 1, none⟩ = some (.int .i64 0) := by rw [cellAt HC.out]; rfl
        go_wp2_with fail
        refine (new_low 0 w4 (by decide)).mono ?_
        rintro e w' ⟨rfl, rfl⟩
        go_wp2
        go_round
        case rel => exact ⟨2, by omega, rfl⟩
        case measure => simp [intOf]
      · have hck : w4.cell? ⟨w3.heap.size, 2, none⟩ = some (.int .i64 (-1)) := by rw [cellAt HC.out]; rfl
        go_wp2_with fail
        refine (new_low (-1) w4 (by decide)).mono ?_
        rintro e w' ⟨rfl, rfl⟩
        go_wp2
        go_round
        case rel => exact ⟨3, by omega, rfl⟩
        case measure => simp [intOf]
      · have hck : w4.cell? ⟨w3.heap.size, 3, none⟩ = some (.int .i64 513) := by rw [cellAt HC.out]; rfl
        go_wp2_with fail
        refine (new_high 513 w4 (by decide)).mono ?_
        rintro e w' ⟨rfl, rfl⟩
        go_wp2
        go_round
        case rel => exact ⟨4, by omega, rfl⟩
        case measure => simp [intOf]
      · have hck : w4.cell? ⟨w3.heap.size, 4, none⟩ = some (.int .i64 1099511627776) := by rw [cellAt HC.out]; rfl
        go_wp2_with fail
        refine (new_high 1099511627776 w4 (by decide)).mono ?_
        rintro e w' ⟨rfl, rfl⟩
        go_wp2
        go_round
        case rel => exact ⟨5, by omega, rfl⟩
        case measure => simp [intOf]
    · obtain rfl : k = 5 := by omega
      go_wp2_with fail
      refine (new_yes 2 w4 (by decide) (by decide)).mono ?_
      rintro e w5 ⟨rfl, hw⟩
      have hb : Below w4.heap.size w4 w5 := by rw [hw]; exact below_alloc _ _
      have hf : Fr w5 w4.heap.size 2 [] false := by rw [hw]; exact new_fr 2 w4
      have HP7 := Lib.hid (show 0 < w4.heap.size from HM6.out.pos)
      have HL8 := Lib.hid (show w.heap.size ≤ w4.heap.size from HB5.out.size)
      have HB9 := Lib.hid (HB5.out.trans (hb.mono HB5.out.size))
      have HM10 := Lib.hid (HM6.out.below hb)
      have HF11 := Lib.hid hf
      clear hw hb hf
      go_wp2_with fail
      refine (feed_run HF11.out (live_nil (by decide)) (by decide) (by decide) (by decide) HP7.out HM10.out (show run 2 [] [13, 10, 13, 10, 13] = ([[], []], [13], false) by decide)).mono ?_
      rintro e w6 ⟨A12, c12, rfl, hgr, hf, ho⟩
      have HB13 := Lib.hid (HB9.out.grown hgr HB9.out.size (fun k e => by cases e; exact HL8.out))
      have HM14 := Lib.hid (HM10.out.fed HP7.out hgr)
      have HF15 := Lib.hid hf
      clear hgr hf ho
      go_wp2_with fail
      refine (feed_run HF15.out ⟨by decide, by decide⟩ (by decide) (by decide) (by decide) HP7.out HM14.out (show run 2 [13] [10] = ([[]], [], false) by decide)).mono ?_
      rintro e w7 ⟨A16, c16, rfl, hgr, hf, ho⟩
      have HB17 := Lib.hid (HB13.out.grown hgr HB13.out.size (fun k e => by cases e; exact HL8.out))
      have HM18 := Lib.hid (HM14.out.fed HP7.out hgr)
      have HF19 := Lib.hid hf
      clear hgr hf ho
      go_wp2_with fail
      refine (feed_run HF19.out (live_nil (by decide)) (by decide) (by decide) (by decide) HP7.out HM18.out (show run 2 [] [97] = ([], [97], false) by decide)).mono ?_
      rintro e w8 ⟨A20, c20, rfl, hgr, hf, ho⟩
      have HB21 := Lib.hid (HB17.out.grown hgr HB17.out.size (fun k e => by cases e; exact HL8.out))
      have HM22 := Lib.hid (HM18.out.fed HP7.out hgr)
      have HF23 := Lib.hid hf
      clear hgr hf ho
      go_wp2_with fail
      refine (feed_run HF23.out ⟨by decide, by decide⟩ (by decide) (by decide) (by decide) HP7.out HM22.out (show run 2 [97] [13] = ([], [], true) by decide)).mono ?_
      rintro e w9 ⟨A24, c24, rfl, hgr, hf, ho⟩
      have HB25 := Lib.hid (HB21.out.grown hgr HB21.out.size (fun k e => by cases e; exact HL8.out))
      have HM26 := Lib.hid (HM22.out.fed HP7.out hgr)
      have HF27 := Lib.hid hf
      clear hgr hf ho
      go_wp2_with fail
      refine (feed_dead (str [13, 10]) w9 HF27.out).mono ?_
      rintro e w10 ⟨rfl, hg⟩
      have hb : Below w9.heap.size w9 w10 := ⟨hg.os, hg.tape, hg.output, hg.size, fun k hk => hg.block k hk (by simp)⟩
      have HB28 := Lib.hid (HB25.out.trans (hb.mono HB25.out.size))
      have HM29 := Lib.hid (HM26.out.below hb)
      have HF30 := Lib.hid (HF27.out.below hb)
      clear hg hb
      go_wp2_with fail
      refine (reset_any w10 HF30.out).mono ?_
      rintro e w11 ⟨rfl, hgr, hf⟩
      have HB31 := Lib.hid (HB28.out.grown hgr HB28.out.size (fun k e => by cases e; exact HL8.out))
      have HM32 := Lib.hid (HM29.out.fed HP7.out hgr)
      have HF33 := Lib.hid hf
      clear hgr hf
      go_wp2_with fail
      refine (feed_run HF33.out (live_nil (by decide)) (by decide) (by decide) (by decide) HP7.out HM32.out (show run 2 [] [13, 10, 97, 98, 13, 10] = ([[]], [], true) by decide)).mono ?_
      rintro e w12 ⟨A34, c34, rfl, hgr, hf, ho⟩
      have HB35 := Lib.hid (HB31.out.grown hgr HB31.out.size (fun k e => by cases e; exact HL8.out))
      have HM36 := Lib.hid (HM32.out.fed HP7.out hgr)
      have HF37 := Lib.hid hf
      have HO38 := Lib.hid ho
      clear hgr hf ho
      go_wp2_with fail
      have HS39 := Lib.hid (SR.of_own HO38.out)
      refine (same_true (HS39.out.below (below_alloc _ _)) (SR.lit w12 []) (by decide)).mono ?_
      rintro e w13 ⟨rfl, hb'⟩
      have hb : Below w12.heap.size w12 w13 := (below_alloc w12 _).trans (hb'.mono (by simp))
      have HB40 := Lib.hid (HB35.out.trans (hb.mono HB35.out.size))
      have HM41 := Lib.hid (HM36.out.below hb)
      have HF42 := Lib.hid (HF37.out.below hb)
      have HS43 := Lib.hid (HS39.out.below hb)
      clear hb hb'
      go_wp2_with fail
      refine (dead_any w13 HF42.out).mono ?_
      rintro e w' ⟨rfl, rfl⟩
      go_wp2_with fail
      refine (new_yes 512 w13 (by decide) (by decide)).mono ?_
      rintro e w14 ⟨rfl, hw⟩
      have hb : Below w13.heap.size w13 w14 := by rw [hw]; exact below_alloc _ _
      have hf : Fr w14 w13.heap.size 512 [] false := by rw [hw]; exact new_fr 512 w13
      have HP44 := Lib.hid (show 0 < w13.heap.size from HM41.out.pos)
      have HL45 := Lib.hid (show w.heap.size ≤ w13.heap.size from HB40.out.size)
      have HB46 := Lib.hid (HB40.out.trans (hb.mono HB40.out.size))
      have HM47 := Lib.hid (HM41.out.below hb)
      have HF48 := Lib.hid hf
      clear hw hb hf
      go_wp2_with fail
      rw [ejoin1]
      obtain ⟨w15, hw⟩ : ∃ w15, w15 = w14.alloc (.cells M 5) := ⟨_, rfl⟩
      rw [← hw]
      have hb : Below w14.heap.size w14 w15 := by rw [hw]; exact below_alloc _ _
      have HB49 := Lib.hid (HB46.out.trans (hb.mono HB46.out.size))
      have HM50 := Lib.hid (HM47.out.below hb)
      have HF51 := Lib.hid (HF48.out.below hb)
      clear hw hb
      go_wp2_with fail
      refine (feed_run HF51.out (live_nil (by decide)) (by decide) (by decide) (by simp [zs_length]) HP44.out HM50.out run1).mono ?_
      rintro e w16 ⟨A52, c52, rfl, hgr, hf, ho⟩
      have HB53 := Lib.hid (HB49.out.grown hgr HB49.out.size (fun k e => by cases e; exact HL45.out))
      have HM54 := Lib.hid (HM50.out.fed HP44.out hgr)
      have HF55 := Lib.hid hf
      have HO56 := Lib.hid ho
      clear hgr hf ho
      go_wp2_with fail
      refine (feed_run HF55.out live2x (by decide) (by decide) (by decide) HP44.out HM54.out run2).mono ?_
      rintro e w17 ⟨A57, c57, rfl, hgr, hf, ho⟩
      have HB58 := Lib.hid (HB53.out.grown hgr HB53.out.size (fun k e => by cases e; exact HL45.out))
      have HM59 := Lib.hid (HM54.out.fed HP44.out hgr)
      have HO60 := Lib.hid (HO56.out.fed HF55.out hgr)
      have HF61 := Lib.hid hf
      clear hgr hf ho
      go_wp2_with fail
      rw [ejoin3]
      refine (feed_run HF61.out live3 (by decide) (by decide) (by simp [zs_length]) HP44.out HM59.out run3).mono ?_
      rintro e w18 ⟨A62, c62, rfl, hgr, hf, ho⟩
      have HB63 := Lib.hid (HB58.out.grown hgr HB58.out.size (fun k e => by cases e; exact HL45.out))
      have HM64 := Lib.hid (HM59.out.fed HP44.out hgr)
      have HO65 := Lib.hid (HO60.out.fed HF61.out hgr)
      have HF66 := Lib.hid hf
      have HO67 := Lib.hid ho
      clear hgr hf ho
      go_wp2_with fail
      refine (feed_run HF66.out live3 (by decide) (by decide) (by decide) HP44.out HM64.out run4).mono ?_
      rintro e w19 ⟨A68, c68, rfl, hgr, hf, ho⟩
      have HB69 := Lib.hid (HB63.out.grown hgr HB63.out.size (fun k e => by cases e; exact HL45.out))
      have HM70 := Lib.hid (HM64.out.fed HP44.out hgr)
      have HO71 := Lib.hid (HO65.out.fed HF66.out hgr)
      have HO72 := Lib.hid (HO67.out.fed HF66.out hgr)
      have HF73 := Lib.hid hf
      clear hgr hf ho
      have HS74 := Lib.hid (SR.of_own HO71.out)
      obtain ⟨b1, o1, rfl, hc1⟩ := SR.at_ HS74.out (by simp)
      have hc0 : w19.cell? ⟨b1, o1, none⟩ = some (sv zs) := hc1 0 (by simp)
      clear hc1
      go_wp2
      go_ret
      exact ⟨rfl, HB69.out⟩

set_option maxRecDepth 100000 in
theorem names_lifted (os : Os) (started : os.Started) (H : Type) (enc : TypeId × Value → H) :
    ReturnsInHanded {} Try.checked os 3 .any (Rows.lineNamesSpec.pre6 enc Try.prog Try.f3 Rows.lineNamesRow.domain false) (Rows.lineNamesSpec.post enc Try.prog Try.f3 false true false false) := by
  refine returnsInHanded_of_change_shaped (C := Try.checked) Try.own started (by kernel_rfl) Try.func3
    (ChangeSpec.witness6 (enc := enc) (C := Try.checked) false ⟨#[], #[], []⟩ 8 (by kernel_rfl) (by kernel_rfl) (by kernel_rfl) (by kernel_rfl)) ?_
  intro W base args ds gs before hval0 hW hcnd hsz0 hsh _
  have hW' := hW
  obtain ⟨p, q, hA0, hV, rfl, hfz, hnd⟩ := hW
  have hA : DataW.TrodAll enc Try.prog W 0 (fun _ => true) true Try.f3.params.toList args.toList ds p := hA0
  rw [Try.params3] at hA
  obtain ⟨hargs, rfl, rfl⟩ := trodAll_nil hA
  obtain rfl : args = #[] := by cases args; simp_all
  obtain ⟨rfl, rfl⟩ := trodVars_none hV
  clear hA0 hval0 hsz0
  simp only [List.append_nil] at hW'
  refine (names_walk W (ml_of_shape hsh)).mono fun e W' ⟨he, hg⟩ => ?_
  subst he
  exact ⟨_, rfl, post_of_below (pa := []) (pv := []) hW' (fun _ _ _ => (trodAll_cons_mk (shut_bool Try.underlying4 _) trodAll_mk0)) (fun sp _ => trodAll_mk0) (fun _ _ => rfl) rfl
    hg (ok_one (by kernel_rfl) rfl (okWide_bool_mk Try.underlying4 _))⟩

theorem names_over : Rows.lineNamesRow.holds Try.pinned (OpenSpec.ofChange Rows.lineNamesSpec) :=
  OpenClaim.holds_of_wide 3 Try.f3 rfl rfl rfl rfl rfl rfl rfl ⟨rfl, rfl, rfl, rfl, rfl⟩ rfl rfl rfl rfl rfl (by kernel_rfl) Try.func3 (by kernel_rfl)
    (of_decide_eq_true (by kernel_rfl)) (by unfold Func.isWrapper; first | (rw [if_pos (by decide +kernel)]; kernel_rfl) | (rw [if_neg (by decide +kernel)]; exact ⟨rfl, rfl⟩))
    (fun os started H enc _ => names_lifted os started H enc)

theorem lineNames_holds : Rows.LineNamesSaid := names_over

end Go.Proofs.Ytgjngldkeiblbaa
