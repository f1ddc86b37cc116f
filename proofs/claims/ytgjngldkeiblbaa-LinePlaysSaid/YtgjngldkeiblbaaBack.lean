/-
  PROVED: LineBack returns true for every input: Cut of what was joined, of lines in none of which there is a CR LF, nor a CR at the end, are these, and no rest; what is cut, joined, and the rest behind it, is the text (P1.4), and its arguments read as they did.
  Conditions: none beyond the statement's own (each argument takes at most 2^47 - 4096 bytes).
-/
import Derived.Test.YtgjngldkeiblbaaTop
import Derived.Test.YtgjngldkeiblbaaBoundPure
import Derived.Test.YtgjngldkeiblbaaClean
namespace Go.Proofs.Ytgjngldkeiblbaa
open Go Go.RowKit Go.Shelf Go.WideShapes Go.ChangeShapes Go.ChangeAt
open Go.ChangeMaps (open_string shut_string)

theorem long_is (xs : List (List UInt8)) (v : Value) (w : World) (h : SR w v xs) (b : Bool) (hb : longB xs = b) (hx : xs.length ≤ 140737488351232) (hl : ∀ x ∈ xs, x.length ≤ 9223372036854775807) :
    Calls Try.prog 18 #[v] w fun e w' => e = .returned (.bool b) ∧ w = w' := by
  subst hb
  exact long_any xs v w h hx hl

theorem clean_is (x : List UInt8) (w : World) (b : Bool) (hb : cleanB x = b) (hx : x.length ≤ 100000) : Calls Try.prog 26 #[.string (str x)] w fun e w' => e = .returned (.bool b) ∧ w = w' := by
  subst hb
  exact clean_any x w hx

theorem sr_addr {W : World} {A : Option Addr} {c : Nat} {xs : List (List UInt8)} (h : SR W (.slice A xs.length c) xs) (h0 : 0 < xs.length) : ∃ b o, A = some ⟨b, o, none⟩ ∧ ∀ k, ∀ h : k < xs.length, W.cell? ⟨b, o + k, none⟩ = some (sv xs[k]) := by
  obtain ⟨A', c', e, h⟩ := h
  obtain ⟨rfl, rfl⟩ : A = A' ∧ c = c' := by simpa using e
  rcases h with rfl | h
  · simp at h0
  · exact h

/-- Texts that are not long are short, and so is what they come to. -/
theorem short_of {xs : List (List UInt8)} (h : longB xs = false) : (joinL xs).length ≤ 6000 ∧ xs.length ≤ 6000 ∧ ∀ x ∈ xs, x.length ≤ 6000 := by
  have h6 : bulk xs < 6000 := by
    unfold longB at h
    simpa using h
  clear h
  have key : ∀ ys : List (List UInt8), bulk ys < 6000 → (joinL ys).length ≤ bulk ys ∧ ys.length ≤ bulk ys ∧ ∀ x ∈ ys, x.length ≤ 6000 := by
    intro ys
    induction ys with
    | nil => intro _; exact ⟨by simp [joinL], by simp, by simp⟩
    | cons y ys ih =>
      intro hb
      have e : bulk (y :: ys) = 5 + min 6000 y.length + bulk ys := by simp [bulk]
      rw [e] at hb ⊢
      obtain ⟨i1, i2, i3⟩ := ih (by omega)
      have ej : joinL (y :: ys) = y ++ [13, 10] ++ joinL ys := by simp [joinL]
      refine ⟨by rw [ej]; simp; omega, by simp; omega, fun x hx => ?_⟩
      rcases List.mem_cons.1 hx with rfl | hx
      · omega
      · exact i3 x hx
  obtain ⟨k1, k2, k3⟩ := key xs h6
  exact ⟨by omega, by omega, k3⟩

set_option maxRecDepth 100000 in
set_option maxHeartbeats 4000000 in
theorem back_good (xs : List (List UInt8)) (A : Option Addr) (c : Nat) (s : List UInt8) (w : World) (h : SR w (.slice A xs.length c) xs) (hlb : longB xs = false) (hs : s.length ≤ 6000) (hML : ML w) :
    Calls Try.prog 7 #[.slice A xs.length c, .string (str s)] w fun e w' => e = .returned (.bool true) ∧ Below w.heap.size w w' := by
  obtain ⟨hj, hxl, hxx⟩ := short_of hlb
  have hfar := (run_far (M := s.length + 1) s [] (by simp)).1
  have hcnt := run_count (s.length + 1) s []
  have hjn := run_join (M := s.length + 1) s [] (by simp)
  obtain ⟨a, r, e0, hr2⟩ : ∃ a r e, run (s.length + 1) [] s = (a, r, e) := ⟨_, _, _, rfl⟩
  rw [hr2] at hfar hcnt hjn
  obtain rfl : e0 = false := hfar
  simp only [List.nil_append] at hcnt hjn
  have hja : (joinL a).length ≤ 6000 := by have := congrArg List.length hjn; simp at this; omega
  have hrl : r.length ≤ 6000 := by have := congrArg List.length hjn; simp at this; omega
  have ej : str (joinL a) ++ str r = str s := by apply ByteArray.ext; rw [← hjn]; simp
  have HR2 := Lib.hid hr2
  have HS0 := Lib.hid h
  have HLB := Lib.hid hlb
  have HM := Lib.hid hML
  have HLX := Lib.hid (show ∀ x ∈ xs, x.length ≤ 9223372036854775807 from fun x hx => by have := hxx x hx; omega)
  have HXX := Lib.hid hxx
  clear hr2 h hlb hML hjn hxx
  go_enter Try.func7, Try.ntmps7
  go_wp2_with fail
  refine (long_is xs _ w HS0.out false HLB.out (by omega) HLX.out).mono ?_
  rintro e w' ⟨rfl, rfl⟩
  go_wp2_with fail
  refine (awake_any w HM.out HM.out.pos).mono ?_
  rintro e w2 ⟨rfl, hb⟩
  have HB1 := Lib.hid ((Below.refl w.heap.size w).trans (hb.mono (Below.refl w.heap.size w).size))
  have HM2 := Lib.hid (HM.out.below hb)
  have HS3 := Lib.hid (HS0.out.below hb)
  clear hb
  go_wp2_with fail
  refine (cut_run (by omega) HM2.out HM2.out.pos HR2.out).mono ?_
  rintro e w3 ⟨A9, c9, rfl, hb, ho⟩
  have HB4 := Lib.hid (HB1.out.trans (hb.mono HB1.out.size))
  have HM5 := Lib.hid (HM2.out.below hb)
  have HS6 := Lib.hid (HS3.out.below hb)
  have HSA := Lib.hid (SR.of_own ho)
  clear hb ho
  go_wp2_with fail
  refine (join_any a _ w3 HSA.out (by omega) (by omega)).mono ?_
  rintro e w4 ⟨rfl, hb⟩
  have HB7 := Lib.hid (HB4.out.trans (hb.mono HB4.out.size))
  have HM8 := Lib.hid (HM5.out.below hb)
  have HS9 := Lib.hid (HS6.out.below hb)
  have HS10 := Lib.hid (HSA.out.below hb)
  clear hb
  go_wp2_with fail
  go_loop [7] (fun i => ∃ k : Nat, k ≤ xs.length ∧ i = .int .i64 k ∧ ∀ j, ∀ hj : j < xs.length, j < k → NoCL xs[j]) (fun i => xs.length - (intOf i).toNat)
  case atStart => exact ⟨0, Nat.zero_le _, rfl, fun j _ h => absurd h (by omega)⟩
  case round =>
    obtain ⟨k, hk, rfl, hcl⟩ := hrel
    have HCL := Lib.hid hcl
    clear hcl
    by_cases hlt : k < xs.length
    · obtain ⟨b1, p1, rfl, hc1⟩ := sr_addr HS9.out (by omega)
      obtain ⟨x, hx⟩ : ∃ x, x = xs[k] := ⟨_, rfl⟩
      have e1 : w4.cell? ⟨b1, p1 + k, none⟩ = some (sv x) := by rw [hx]; exact hc1 k hlt
      have hx6 : x.length ≤ 6000 := HXX.out x (by rw [hx]; exact List.getElem_mem hlt)
      have HX := Lib.hid hx
      clear hc1 hx
      by_cases hcx : cleanB x = true
      · have HCX := Lib.hid hcx
        clear hcx
        go_wp2_with fail
        refine (clean_is x w4 true HCX.out (by omega)).mono ?_
        rintro e w' ⟨rfl, rfl⟩
        go_wp2
        go_round
        case rel =>
          refine ⟨k + 1, by omega, by go_num, fun j hj hjk => ?_⟩
          rcases Nat.lt_or_ge j k with h | h
          · exact HCL.out j hj h
          · obtain rfl : j = k := by omega
            have := ((cleanB_iff x).1 HCX.out).1
            rwa [HX.out] at this
        case measure => simp [intOf]; omega
      · have hcx' : cleanB x = false := by simpa using hcx
        have HCX := Lib.hid hcx'
        clear hcx hcx'
        go_wp2_with fail
        refine (clean_is x w4 false HCX.out (by omega)).mono ?_
        rintro e w' ⟨rfl, rfl⟩
        go_wp2
        go_ret
        exact ⟨rfl, HB7.out⟩
    · obtain rfl : k = xs.length := by omega
      have HRJ := Lib.hid (run_joined (M := (joinL xs).length + 1) xs (fun x hx => by
        obtain ⟨j, hj, e⟩ := List.getElem_of_mem hx
        rw [← e]; exact HCL.out j hj hj) (by omega))
      go_wp2_with fail
      refine (join_any xs _ w4 HS9.out (by omega) (by omega)).mono ?_
      rintro e w5 ⟨rfl, hb⟩
      have HB11 := Lib.hid (HB7.out.trans (hb.mono HB7.out.size))
      have HM12 := Lib.hid (HM8.out.below hb)
      have HS13 := Lib.hid (HS9.out.below hb)
      clear hb
      go_wp2_with fail
      refine (cut_run (by omega) HM12.out HM12.out.pos HRJ.out).mono ?_
      rintro e w6 ⟨A8, c8, rfl, hb, ho⟩
      have HB14 := Lib.hid (HB11.out.trans (hb.mono HB11.out.size))
      have HM15 := Lib.hid (HM12.out.below hb)
      have HS16 := Lib.hid (HS13.out.below hb)
      have HSB := Lib.hid (SR.of_own ho)
      clear hb ho
      go_wp2_with fail
      refine (same_true HSB.out HS16.out (by omega)).mono ?_
      rintro e w7 ⟨rfl, hb⟩
      have HB17 := Lib.hid (HB14.out.trans (hb.mono HB14.out.size))
      have HM18 := Lib.hid (HM15.out.below hb)
      have HS19 := Lib.hid (HS16.out.below hb)
      have HS20 := Lib.hid (HSB.out.below hb)
      clear hb
      go_wp2
      go_ret
      exact ⟨rfl, HB17.out⟩

set_option maxHeartbeats 1000000 in
theorem back_long (xs : List (List UInt8)) (A : Option Addr) (c : Nat) (s : List UInt8) (w : World) (h : SR w (.slice A xs.length c) xs) (hl : longB xs = true ∨ 6000 < s.length) (hs : s.length ≤ 140737488351232) (hx : xs.length ≤ 140737488351232) (hxx : ∀ x ∈ xs, x.length ≤ 9223372036854775807) (hML : ML w) :
    Calls Try.prog 7 #[.slice A xs.length c, .string (str s)] w fun e w' => e = .returned (.bool true) ∧ Below w.heap.size w w' := by
  have HS0 := Lib.hid h
  have HM := Lib.hid hML
  have HXX := Lib.hid hxx
  clear h hML hxx
  cases hlb : longB xs with
  | true =>
    have HLB := Lib.hid hlb
    clear hlb hl
    go_enter Try.func7, Try.ntmps7
    go_wp2_with fail
    refine (long_is xs _ w HS0.out true HLB.out hx HXX.out).mono ?_
    rintro e w' ⟨rfl, rfl⟩
    go_wp2_with fail
    refine (awake_any w HM.out HM.out.pos).mono ?_
    rintro e w1 ⟨rfl, hb⟩
    go_wp2
    go_ret
    exact ⟨rfl, hb⟩
  | false =>
    have h6 : (6000 : Int) < (s.length : Int) := by
      rcases hl with h | h
      · rw [hlb] at h; cases h
      · omega
    have HLB := Lib.hid hlb
    clear hlb hl
    go_enter Try.func7, Try.ntmps7
    go_wp2_with fail
    refine (long_is xs _ w HS0.out false HLB.out hx HXX.out).mono ?_
    rintro e w' ⟨rfl, rfl⟩
    go_wp2_with fail
    refine (awake_any w HM.out HM.out.pos).mono ?_
    rintro e w1 ⟨rfl, hb⟩
    go_wp2
    go_ret
    exact ⟨rfl, hb⟩

theorem Try.laidOutB : laidOutB Try.prog = true := by kernel_rfl
theorem Try.cells9 : Try.prog.cellsOf 9 = 1 := by kernel_rfl
theorem Try.bytes9 : Try.prog.bytesOf 9 = 16 := by kernel_rfl

/-- The texts of a slice that came in. -/
theorem sr_of_open {W : World} {a : Addr} {n cap : Nat} {ss : List ByteArray} (hl : n ≤ ss.length) (hc : ∀ i, i < ss.length → W.cell? (a.add i) = some (.string (ss.getD i ByteArray.empty))) :
    SR W (.slice (some a) ((ss.take n).map fun s => s.data.toList).length cap) ((ss.take n).map fun s => s.data.toList) := by
  refine ⟨some a, cap, rfl, ?_⟩
  rcases Nat.eq_zero_or_pos n with h0 | h0
  · subst h0; exact .inl (by simp)
  · obtain ⟨b, off, spot⟩ := a
    have hspot : spot = none := by simpa [Addr.add] using World.cell?_spot (hc 0 (by omega))
    subst hspot
    refine .inr ⟨b, off, rfl, fun k hk => ?_⟩
    rw [List.length_map, List.length_take] at hk
    rw [← Go.WideShapes.add_plain, hc k (by omega)]
    have e : ss.getD k ByteArray.empty = ss[k]'(by omega) := by simp [List.getD, List.getElem?_eq_getElem (show k < ss.length by omega)]
    rw [e]
    simp

theorem back_walk (xs : List (List UInt8)) (A : Option Addr) (c : Nat) (s : ByteArray) (w : World) (h : SR w (.slice A xs.length c) xs) (hs : s.size ≤ 140737488351232) (hx : xs.length ≤ 140737488351232) (hxx : ∀ x ∈ xs, x.length ≤ 9223372036854775807) (hML : ML w) :
    Calls Try.prog 7 #[.slice A xs.length c, .string s] w fun e w' => e = .returned (.bool true) ∧ Below w.heap.size w w' := by
  obtain ⟨s, rfl, hs'⟩ := to_str s
  by_cases hl : longB xs = true ∨ 6000 < s.length
  · exact back_long xs A c s w h hl (by omega) hx hxx hML
  · have hlb : longB xs = false := by
      cases e : longB xs
      · rfl
      · exact absurd (.inl e) hl
    exact back_good xs A c s w h hlb (by omega) hML

set_option maxRecDepth 100000 in
theorem back_lifted (os : Os) (started : os.Started) (H : Type) (enc : TypeId × Value → H) :
    ReturnsInHanded {} Try.checked os 7 .any (Rows.lineBackSpec.pre6 enc Try.prog Try.f7 Rows.lineBackRow.domain false) (Rows.lineBackSpec.post enc Try.prog Try.f7 false true false false) := by
  refine returnsInHanded_of_change_shaped (C := Try.checked) Try.own started (by kernel_rfl) Try.func7
    (ChangeSpec.witness6 (enc := enc) (C := Try.checked) false ⟨#[], #[.slice none 0 0, .string ByteArray.empty], []⟩ 8 (by kernel_rfl) (by kernel_rfl) (by kernel_rfl) (by kernel_rfl)) ?_
  intro W base args ds gs before hval0 hW hcnd hsz0 hsh _
  have hval : ∀ (j : Nat) t v, Try.f7.params[j]? = some t → args[j]? = some v → Value.okWide Try.prog W .any base t v := hval0
  have hsz : (DataW.weightsEach Try.prog (Try.f7.params.toList ++ Rows.lineBackSpec.plain.varTypes Try.prog) (ds ++ gs)).all (· ≤ reachBytes) = true := hsz0
  have hW' := hW
  obtain ⟨p, q, hA0, hV, rfl, hfz, hnd⟩ := hW
  have hA : DataW.TrodAll enc Try.prog W 0 (fun _ => true) true Try.f7.params.toList args.toList ds p := hA0
  rw [Try.params7] at hA hval hsz
  obtain ⟨v0, vs0, d0, ds0, p0, q0, hargs, rfl, rfl, h0, r0⟩ := trodAll_cons hA
  obtain ⟨v1, vs1, d1, ds1, p1, q1, rfl, rfl, rfl, h1, r1⟩ := trodAll_cons r0
  obtain ⟨rfl, rfl, rfl⟩ := trodAll_nil r1
  obtain rfl : args = #[v0, v1] := by cases args; simp_all
  obtain ⟨rfl, rfl⟩ := trodVars_none hV
  obtain ⟨aA, len, cap, rfl⟩ := okWide_slice Try.underlying23 (hval 0 23 v0 rfl rfl)
  obtain ⟨a1, rfl, rfl, rfl, w1⟩ := open_string Try.underlying9 (hval 1 9 v1 rfl rfl) h1
  have z1 := sized_string hsz (j := 1) (t := 9) rfl rfl
  have h0k := h0
  obtain ⟨fuel, hf⟩ := h0
  have hlt : ∀ x ∈ p0, x.block < W.heap.size := fun x hx => hW'.lt x (by simp [hx])
  have hSR : ∃ xs : List (List UInt8), xs.length = len ∧ SR W (.slice aA xs.length cap) xs ∧ len ≤ 140737488351232 ∧ ∀ x ∈ xs, x.length ≤ 9223372036854775807 := by
    rcases open_strings Try.underlying23 Try.underlying9 Try.cells9 hf with ⟨hcs, hx⟩ | ⟨a, len', cap', ss, hcs, _, hl, hm, hz, hx, hcell, hws⟩
    · simp [Value.cells] at hcs
      obtain ⟨rfl, rfl, rfl⟩ := hcs
      exact ⟨[], rfl, ⟨none, 0, rfl, .inl rfl⟩, by omega, by simp⟩
    · simp [Value.cells] at hcs
      obtain ⟨rfl, rfl, rfl⟩ := hcs
      simp only [Prod.mk.injEq] at hx
      obtain ⟨rfl, rfl⟩ := hx
      simp only [if_true] at hz
      refine ⟨(ss.take len).map fun s => s.data.toList, by rw [List.length_map, List.length_take]; omega, sr_of_open (by omega) hcell, ?_, ?_⟩
      · have := sized_slice hsz (j := 0) (t := 23) (e := 9) rfl rfl Try.underlying23
        rw [Try.bytes9] at this
        simp only [strs, List.length_map, List.length_take, List.length_drop, reachBytes] at this
        omega
      · intro x hx
        obtain ⟨s, hs, rfl⟩ := List.mem_map.1 hx
        exact hws s (List.mem_of_mem_take hs)
  obtain ⟨xs, rfl, hSR, hlen, hxx⟩ := hSR
  clear hA0 hval0 hsz0
  refine (back_walk xs aA cap a1 W hSR (by rw [Array.length_toList] at z1; exact z1) hlen hxx (ml_of_shape hsh)).mono fun e W' ⟨he, hg⟩ => ?_
  subst he
  refine ⟨_, rfl, _, _, _, [], p0 ++ ([] ++ []), [], hW', ?_, ?_, rfl, hg.frame _, fun h => by cases h⟩
  · exact trodAll_cons_mk (shut_bool Try.underlying4 _) trodAll_mk0
  · exact trodAll_cons_mk (Below.trod Try.laidOutB (by kernel_rfl) (of_decide_eq_true (by kernel_rfl)) h0k hg hlt) (trodAll_cons_mk (shut_string Try.underlying9 w1) trodAll_mk0)

theorem back_over : Rows.lineBackRow.holds Try.pinned (OpenSpec.ofChange Rows.lineBackSpec) :=
  OpenClaim.holds_of_wide 7 Try.f7 rfl rfl rfl rfl rfl rfl rfl ⟨rfl, rfl, rfl, rfl, rfl⟩ rfl rfl rfl rfl rfl (by kernel_rfl) Try.func7 (by kernel_rfl)
    (of_decide_eq_true (by kernel_rfl)) (by unfold Func.isWrapper; first | (rw [if_pos (by decide +kernel)]; kernel_rfl) | (rw [if_neg (by decide +kernel)]; exact ⟨rfl, rfl⟩))
    (fun os started H enc _ => back_lifted os started H enc)

theorem lineBack_holds : Rows.LineBackSaid := back_over
end Go.Proofs.Ytgjngldkeiblbaa
