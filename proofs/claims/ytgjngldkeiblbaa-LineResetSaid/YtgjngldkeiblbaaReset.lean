/-
  PROVED: LineReset returns true for every input: behind a Reset a framer tells what a new one would (P1.6), and its arguments read as they did.
  Conditions: none beyond the statement's own (each argument takes at most 2^47 - 4096 bytes).
-/
import Derived.Test.YtgjngldkeiblbaaTop
namespace Go.Proofs.Ytgjngldkeiblbaa
open Go Go.RowKit Go.Shelf Go.WideShapes Go.ChangeShapes Go.ChangeAt
open Go.ChangeMaps (open_string shut_string)

theorem reset_long (m : Int) (s t : List UInt8) (w : World) (hs : s.length ≤ 140737488351232) (ht : t.length ≤ 140737488351232) (hl : 6000 < s.length + t.length) (hML : ML w) :
    Calls Try.prog 9 #[.int .i64 m, .string (str s), .string (str t)] w fun e w' => e = .returned (.bool true) ∧ Below w.heap.size w w' := by
  have hl' : (6000 : Int) < (s.length : Int) + t.length := by omega
  have HM := Lib.hid hML
  clear hML hl
  go_enter Try.func9, Try.ntmps9
  go_wp2_with fail
  refine (awake_any w HM.out HM.out.pos).mono ?_
  rintro e w1 ⟨rfl, hb⟩
  go_wp2
  go_ret
  exact ⟨rfl, hb⟩

theorem reset_bad (m : Int) (s t : List UInt8) (w : World) (hs : s.length + t.length ≤ 6000) (hm : m < 2 ∨ 512 < m) (hML : ML w) :
    Calls Try.prog 9 #[.int .i64 m, .string (str s), .string (str t)] w fun e w' => e = .returned (.bool true) ∧ Below w.heap.size w w' := by
  have hl' : (s.length : Int) + t.length ≤ 6000 := by omega
  have new : ∀ w, Calls Try.prog 16 #[.int .i64 m] w fun e w' => e = .returned (.tuple #[.pointer none, .int .i64 1]) ∧ w = w' := fun w => by
    rcases hm with h | h
    · exact new_low m w h
    · exact new_high m w h
  have NEW := Lib.hid new
  have HM := Lib.hid hML
  clear new hML hs hm
  go_enter Try.func9, Try.ntmps9
  go_wp2_with fail
  refine (awake_any w HM.out HM.out.pos).mono ?_
  rintro e w1 ⟨rfl, hb⟩
  have HB := Lib.hid hb
  clear hb
  go_wp2_with fail
  refine (NEW.out w1).mono ?_
  rintro e w1' ⟨rfl, rfl⟩
  go_wp2_with fail
  refine (NEW.out w1).mono ?_
  rintro e w1' ⟨rfl, rfl⟩
  go_wp2
  go_ret
  exact ⟨rfl, HB.out⟩

set_option maxRecDepth 100000 in
set_option maxHeartbeats 1000000 in
theorem reset_good (m : Nat) (s t : List UInt8) (w : World) (hs : s.length + t.length ≤ 6000) (hm2 : 2 ≤ m) (hm5 : m ≤ 512) (hML : ML w) :
    Calls Try.prog 9 #[.int .i64 m, .string (str s), .string (str t)] w fun e w' => e = .returned (.bool true) ∧ Below w.heap.size w w' := by
  have hl' : (s.length : Int) + t.length ≤ 6000 := by omega
  obtain ⟨o1, l1, d1, hr1⟩ : ∃ o l d, run m [] s = (o, l, d) := ⟨_, _, _, rfl⟩
  obtain ⟨o2, l2, d2, hr2⟩ : ∃ o l d, run m [] t = (o, l, d) := ⟨_, _, _, rfl⟩
  have HR1 := Lib.hid hr1
  have HR2 := Lib.hid hr2
  have HM := Lib.hid hML
  clear hr1 hr2 hML
  go_enter Try.func9, Try.ntmps9
  go_wp2_with fail
  refine (awake_any w HM.out HM.out.pos).mono ?_
  rintro e w1 ⟨rfl, hb1⟩
  have HB1 := Lib.hid hb1
  have HM1 := Lib.hid (HM.out.below hb1)
  clear hb1
  go_wp2_with fail
  refine (new_yes m w1 hm2 hm5).mono ?_
  rintro e w2 ⟨rfl, hw2⟩
  have hf2 : Fr w2 w1.heap.size m [] false := by rw [hw2]; exact new_fr m w1
  have hb2 : Below w1.heap.size w1 w2 := by rw [hw2]; exact below_alloc _ _
  have hlt2 : w1.heap.size < w2.heap.size := by rw [hw2]; simp
  have HM2 := Lib.hid (HM1.out.below hb2)
  have HB2 := Lib.hid (HB1.out.trans (hb2.mono HB1.out.size))
  have HF2 := Lib.hid hf2
  have HN1 := Lib.hid (Nat.le_trans HM.out.pos HB1.out.size)
  clear hw2 hb2 hf2
  go_wp2_with fail
  refine (new_yes m w2 hm2 hm5).mono ?_
  rintro e w3 ⟨rfl, hw3⟩
  have hb3 : Below w2.heap.size w2 w3 := by rw [hw3]; exact below_alloc _ _
  have hg3 : Fr w3 w2.heap.size m [] false := by rw [hw3]; exact new_fr m w2
  have HF3 := Lib.hid (HF2.out.below hb3)
  have HG3 := Lib.hid hg3
  have HM3 := Lib.hid (HM2.out.below hb3)
  have HB3 := Lib.hid (HB2.out.trans (hb3.mono HB2.out.size))
  have HNE := Lib.hid (show w1.heap.size ≠ w2.heap.size by omega)
  have HLE := Lib.hid (show w.heap.size ≤ w1.heap.size from HB1.out.size)
  have HLE2 := Lib.hid (show w1.heap.size ≤ w2.heap.size by omega)
  clear hw3 hb3 hg3 hlt2
  go_wp2_with fail
  refine (feed_go HF3.out (live_nil (by omega)) hm2 hm5 (by omega) HN1.out HM3.out HR1.out).mono ?_
  rintro e w4 ⟨A1, c1, rfl, hgr, hf4, ho4⟩
  have HB4 := Lib.hid (HB3.out.grown hgr HB3.out.size (fun k e => by cases e; exact HLE.out))
  have HG4 := Lib.hid (HG3.out.other HF3.out HNE.out hgr)
  have HM4 := Lib.hid (HM3.out.fed HN1.out hgr)
  have HF4 := Lib.hid hf4
  clear hgr hf4 ho4
  go_wp2_with fail
  refine (reset_any w4 HF4.out).mono ?_
  rintro e w5 ⟨rfl, hgr, hf5⟩
  have HB5 := Lib.hid (HB4.out.grown hgr HB4.out.size (fun k e => by cases e; exact HLE.out))
  have HG5 := Lib.hid (HG4.out.other HF4.out HNE.out hgr)
  have HM5 := Lib.hid (HM4.out.fed HN1.out hgr)
  have HF5 := Lib.hid hf5
  clear hgr hf5
  go_wp2_with fail
  refine (dead_any w5 HF5.out).mono ?_
  rintro e w5' ⟨rfl, rfl⟩
  go_wp2_with fail
  refine (left_any w5 HF5.out).mono ?_
  rintro e w5' ⟨rfl, rfl⟩
  go_wp2_with fail
  refine (feed_go HF5.out (live_nil (by omega)) hm2 hm5 (by omega) HN1.out HM5.out HR2.out).mono ?_
  rintro e w6 ⟨A2, c2, rfl, hgr, hf6, ho6⟩
  have HB6 := Lib.hid (HB5.out.grown hgr HB5.out.size (fun k e => by cases e; exact HLE.out))
  have HG6 := Lib.hid (HG5.out.other HF5.out HNE.out hgr)
  have HM6 := Lib.hid (HM5.out.fed HN1.out hgr)
  have HF6 := Lib.hid hf6
  have HO6 := Lib.hid ho6
  clear hgr hf6 ho6
  go_wp2_with fail
  refine (feed_go HG6.out (live_nil (by omega)) hm2 hm5 (by omega) (Nat.lt_of_lt_of_le HN1.out HLE2.out) HM6.out HR2.out).mono ?_
  rintro e w7 ⟨A3, c3, rfl, hgr, hf7, ho7⟩
  have HB7 := Lib.hid (HB6.out.grown hgr HB6.out.size (fun k e => by cases e; exact Nat.le_trans HLE.out HLE2.out))
  have HF7 := Lib.hid (HF6.out.other HG6.out HNE.out.symm hgr)
  have HO67 := Lib.hid (SR.of_own (HO6.out.fed HG6.out hgr))
  have HG7 := Lib.hid hf7
  have HO7 := Lib.hid (SR.of_own ho7)
  clear hgr hf7 ho7
  go_wp2_with fail
  refine (same_true HO67.out HO7.out (by have := run_count m t []; rw [HR2.out] at this; simp only at this; omega)).mono ?_
  rintro e w8 ⟨rfl, hb8⟩
  have HB8 := Lib.hid (HB7.out.trans (hb8.mono HB7.out.size))
  have HF8 := Lib.hid (HF7.out.below hb8)
  have HG8 := Lib.hid (HG7.out.below hb8)
  clear hb8
  go_wp2_with fail
  refine (left_any w8 HF8.out).mono ?_
  rintro e w8' ⟨rfl, rfl⟩
  go_wp2_with fail
  refine (left_any w8 HG8.out).mono ?_
  rintro e w8' ⟨rfl, rfl⟩
  go_wp2_with fail
  refine (dead_any w8 HF8.out).mono ?_
  rintro e w8' ⟨rfl, rfl⟩
  go_wp2_with fail
  refine (dead_any w8 HG8.out).mono ?_
  rintro e w8' ⟨rfl, rfl⟩
  go_wp2
  go_ret
  exact ⟨rfl, HB8.out⟩

theorem reset_walk (a : Int) (s t : ByteArray) (hw : (Lit.int .i64 a).wf = true) (hs : s.size ≤ 140737488351232) (ht : t.size ≤ 140737488351232) (w : World) (hML : ML w) :
    Calls Try.prog 9 #[.int .i64 a, .string s, .string t] w fun e w' => e = .returned (.bool true) ∧ Below w.heap.size w w' := by
  obtain ⟨s, rfl, hs'⟩ := to_str s
  obtain ⟨t, rfl, ht'⟩ := to_str t
  by_cases hl : s.length + t.length ≤ 6000
  · by_cases hm : a < 2 ∨ 512 < a
    · exact reset_bad a s t w hl hm hML
    · obtain ⟨m, rfl⟩ := Int.eq_ofNat_of_zero_le (show 0 ≤ a by omega)
      exact reset_good m s t w hl (by omega) (by omega) hML
  · exact reset_long a s t w (by omega) (by omega) (by omega) hML

set_option maxRecDepth 100000 in
theorem reset_lifted (os : Os) (started : os.Started) (H : Type) (enc : TypeId × Value → H) :
    ReturnsInHanded {} Try.checked os 9 .any (Rows.lineResetSpec.pre6 enc Try.prog Try.f9 Rows.lineResetRow.domain false) (Rows.lineResetSpec.post enc Try.prog Try.f9 false true false false) := by
  refine returnsInHanded_of_change_shaped (C := Try.checked) Try.own started (by kernel_rfl) Try.func9
    (ChangeSpec.witness6 (enc := enc) (C := Try.checked) false ⟨#[], #[.int .i64 0, .string ByteArray.empty, .string ByteArray.empty], []⟩ 8 (by kernel_rfl) (by kernel_rfl) (by kernel_rfl) (by kernel_rfl)) ?_
  intro W base args ds gs before hval0 hW hcnd hsz0 hsh _
  have hval : ∀ (j : Nat) t v, Try.f9.params[j]? = some t → args[j]? = some v → Value.okWide Try.prog W .any base t v := hval0
  have hsz : (DataW.weightsEach Try.prog (Try.f9.params.toList ++ Rows.lineResetSpec.plain.varTypes Try.prog) (ds ++ gs)).all (· ≤ reachBytes) = true := hsz0
  have hW' := hW
  obtain ⟨p, q, hA0, hV, rfl, hfz, hnd⟩ := hW
  have hA : DataW.TrodAll enc Try.prog W 0 (fun _ => true) true Try.f9.params.toList args.toList ds p := hA0
  rw [Try.params9] at hA hval hsz
  obtain ⟨v0, vs0, d0, ds0, p0, q0, hargs, rfl, rfl, h0, r0⟩ := trodAll_cons hA
  obtain ⟨v1, vs1, d1, ds1, p1, q1, rfl, rfl, rfl, h1, r1⟩ := trodAll_cons r0
  obtain ⟨v2, vs2, d2, ds2, p2, q2, rfl, rfl, rfl, h2, r2⟩ := trodAll_cons r1
  obtain ⟨rfl, rfl, rfl⟩ := trodAll_nil r2
  obtain rfl : args = #[v0, v1, v2] := by cases args; simp_all
  obtain ⟨rfl, rfl⟩ := trodVars_none hV
  obtain ⟨a0, rfl, rfl, rfl, w0⟩ := open_int Try.underlying3 (hval 0 3 v0 rfl rfl) h0
  obtain ⟨a1, rfl, rfl, rfl, w1⟩ := open_string Try.underlying9 (hval 1 9 v1 rfl rfl) h1
  obtain ⟨a2, rfl, rfl, rfl, w2⟩ := open_string Try.underlying9 (hval 2 9 v2 rfl rfl) h2
  have z1 := sized_string hsz (j := 1) (t := 9) rfl rfl
  have z2 := sized_string hsz (j := 2) (t := 9) rfl rfl
  clear hA0 hval0 hsz0
  simp only [List.append_nil] at hW'
  refine (reset_walk a0 a1 a2 w0 (by rw [Array.length_toList] at z1; exact z1) (by rw [Array.length_toList] at z2; exact z2) W (ml_of_shape hsh)).mono fun e W' ⟨he, hg⟩ => ?_
  subst he
  exact ⟨_, rfl, post_of_below (pa := []) (pv := []) hW' (fun _ _ _ => (trodAll_cons_mk (shut_bool Try.underlying4 _) trodAll_mk0)) (fun sp _ => (trodAll_cons_mk (shut_int Try.underlying3 w0) (trodAll_cons_mk (shut_string Try.underlying9 w1) (trodAll_cons_mk (shut_string Try.underlying9 w2) trodAll_mk0)))) (fun _ _ => rfl) rfl
    hg (ok_one (by kernel_rfl) rfl (okWide_bool_mk Try.underlying4 _))⟩

theorem reset_over : Rows.lineResetRow.holds Try.pinned (OpenSpec.ofChange Rows.lineResetSpec) :=
  OpenClaim.holds_of_wide 9 Try.f9 rfl rfl rfl rfl rfl rfl rfl ⟨rfl, rfl, rfl, rfl, rfl⟩ rfl rfl rfl rfl rfl (by kernel_rfl) Try.func9 (by kernel_rfl)
    (of_decide_eq_true (by kernel_rfl)) (by unfold Func.isWrapper; first | (rw [if_pos (by decide +kernel)]; kernel_rfl) | (rw [if_neg (by decide +kernel)]; exact ⟨rfl, rfl⟩))
    (fun os started H enc _ => reset_lifted os started H enc)

theorem lineReset_holds : Rows.LineResetSaid := reset_over
end Go.Proofs.Ytgjngldkeiblbaa
