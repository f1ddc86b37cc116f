/-
  PROVED: LineCuts returns true for every input: the lines of any text, and any lines put together, are what byte by byte comes out; what is handed in stays (P1.2), and its arguments read as they did.
  Conditions: none beyond the statement's own (each argument takes at most 2^47 - 4096 bytes).
-/
import Derived.Test.YtgjngldkeiblbaaBack
import Derived.Test.YtgjngldkeiblbaaRefCut
namespace Go.Proofs.Ytgjngldkeiblbaa
open Go Go.RowKit Go.Shelf Go.WideShapes Go.ChangeShapes Go.ChangeAt
open Go.ChangeMaps (open_string shut_string)

set_option maxRecDepth 100000 in
set_option maxHeartbeats 4000000 in
theorem lines_good (s : List UInt8) (xs : List (List UInt8)) (A : Option Addr) (c : Nat) (w : World) (h : SR w (.slice A xs.length c) xs) (hlb : longB xs = false) (hs : s.length ≤ 6000) (hML : ML w) :
    Calls Try.prog 5 #[.string (str s), .slice A xs.length c] w fun e w' => e = .returned (.bool true) ∧ Below w.heap.size w w' := by
  obtain ⟨hj, hxl, hxx⟩ := short_of hlb
  have hfar := (run_far (M := s.length + 1) s [] (by simp)).1
  have hcnt := run_count (s.length + 1) s []
  obtain ⟨a, r, e0, hr2⟩ : ∃ a r e, run (s.length + 1) [] s = (a, r, e) := ⟨_, _, _, rfl⟩
  rw [hr2] at hfar hcnt
  obtain rfl : e0 = false := hfar
  simp only at hcnt
  have HR2 := Lib.hid hr2
  have HS0 := Lib.hid h
  have HLB := Lib.hid hlb
  have HM := Lib.hid hML
  have HLX := Lib.hid (show ∀ x ∈ xs, x.length ≤ 9223372036854775807 from fun x hx => by have := hxx x hx; omega)
  clear hr2 h hlb hML hxx
  go_enter Try.func5, Try.ntmps5
  go_wp2_with fail
  refine (long_is xs _ w HS0.out false HLB.out (by omega) HLX.out).mono ?_
  rintro e w' ⟨rfl, rfl⟩
  obtain ⟨Ao, co, w2, hrun, ho, hg⟩ := append_many (w.alloc (.cells #[] 9)) w.heap.size (.slice (some ⟨w.heap.size, 0, none⟩) 0 0) [] xs A c
    ⟨rfl, .inr ⟨w.heap.size, 0, #[], rfl, Nat.le_refl _, heap_alloc_new w _, Nat.le_refl _, by unfold maxLen; omega, rfl, rfl⟩⟩ (HS0.out.below (below_alloc _ _)) (by simp) (by simp; omega)
  simp only [List.length_nil, Nat.zero_add, List.nil_append] at hrun ho
  have hb : Below w.heap.size w w2 := (below_alloc w _).grown hg (by simp) (fun k e => by simp [Value.ownBlock] at e; omega)
  have HRUN := Lib.hid hrun
  have HBo := Lib.hid hb
  have HMo := Lib.hid (HM.out.below hb)
  have HSl := Lib.hid (HS0.out.below hb)
  have HSo := Lib.hid (SR.of_own ho)
  clear hrun ho hg hb
  go_wp2_with (at_builtin; refine wpList_append_run rfl (.tmp 19) (.tmp 20) 23 rfl rfl rfl HRUN.out ?_)
  go_wp2_with fail
  refine (cut_run (by omega) HMo.out HMo.out.pos HR2.out).mono ?_
  rintro e w3 ⟨Aa, ca, rfl, hb, ho⟩
  have HB1 := Lib.hid (HBo.out.trans (hb.mono HBo.out.size))
  have HM2 := Lib.hid (HMo.out.below hb)
  have HS3 := Lib.hid (HSl.out.below hb)
  have HS4 := Lib.hid (HSo.out.below hb)
  have HSa := Lib.hid (SR.of_own ho)
  clear hb ho
  go_wp2_with fail
  refine (refCut_run s w3 (by omega) HR2.out).mono ?_
  rintro e w4 ⟨Ab, cb, rfl, hb, ho⟩
  have HB5 := Lib.hid (HB1.out.trans (hb.mono HB1.out.size))
  have HM6 := Lib.hid (HM2.out.below hb)
  have HS7 := Lib.hid (HS3.out.below hb)
  have HS8 := Lib.hid (HS4.out.below hb)
  have HS9 := Lib.hid (HSa.out.below hb)
  have HSb := Lib.hid (SR.of_own ho)
  clear hb ho
  go_wp2_with fail
  refine (join_any xs _ w4 HS8.out (by omega) (by omega)).mono ?_
  rintro e w5 ⟨rfl, hb⟩
  have HB10 := Lib.hid (HB5.out.trans (hb.mono HB5.out.size))
  have HM11 := Lib.hid (HM6.out.below hb)
  have HS12 := Lib.hid (HS7.out.below hb)
  have HS13 := Lib.hid (HS8.out.below hb)
  have HS14 := Lib.hid (HS9.out.below hb)
  have HS15 := Lib.hid (HSb.out.below hb)
  clear hb
  go_wp2_with fail
  refine (same_true HS14.out HS15.out (by omega)).mono ?_
  rintro e w6 ⟨rfl, hb⟩
  have HB16 := Lib.hid (HB10.out.trans (hb.mono HB10.out.size))
  have HM17 := Lib.hid (HM11.out.below hb)
  have HS18 := Lib.hid (HS12.out.below hb)
  have HS19 := Lib.hid (HS13.out.below hb)
  have HS20 := Lib.hid (HS14.out.below hb)
  have HS21 := Lib.hid (HS15.out.below hb)
  clear hb
  go_wp2_with fail
  refine (refJoin_any xs _ w6 HS18.out (by omega) (by omega)).mono ?_
  rintro e w' ⟨rfl, rfl⟩
  go_wp2_with fail
  refine (same_true HS19.out HS18.out (by omega)).mono ?_
  rintro e w7 ⟨rfl, hb⟩
  have HB22 := Lib.hid (HB16.out.trans (hb.mono HB16.out.size))
  have HM23 := Lib.hid (HM17.out.below hb)
  have HS24 := Lib.hid (HS18.out.below hb)
  have HS25 := Lib.hid (HS19.out.below hb)
  have HS26 := Lib.hid (HS20.out.below hb)
  have HS27 := Lib.hid (HS21.out.below hb)
  clear hb
  go_wp2_with fail
  refine (awake_any w7 HM23.out HM23.out.pos).mono ?_
  rintro e w8 ⟨rfl, hb⟩
  have HB28 := Lib.hid (HB22.out.trans (hb.mono HB22.out.size))
  have HM29 := Lib.hid (HM23.out.below hb)
  have HS30 := Lib.hid (HS24.out.below hb)
  have HS31 := Lib.hid (HS25.out.below hb)
  have HS32 := Lib.hid (HS26.out.below hb)
  have HS33 := Lib.hid (HS27.out.below hb)
  clear hb
  go_wp2
  go_ret
  exact ⟨rfl, HB28.out⟩

set_option maxHeartbeats 1000000 in
theorem lines_long (s : List UInt8) (xs : List (List UInt8)) (A : Option Addr) (c : Nat) (w : World) (h : SR w (.slice A xs.length c) xs) (hl : longB xs = true ∨ 6000 < s.length) (hs : s.length ≤ 140737488351232) (hx : xs.length ≤ 140737488351232) (hxx : ∀ x ∈ xs, x.length ≤ 9223372036854775807) (hML : ML w) :
    Calls Try.prog 5 #[.string (str s), .slice A xs.length c] w fun e w' => e = .returned (.bool true) ∧ Below w.heap.size w w' := by
  have HS0 := Lib.hid h
  have HM := Lib.hid hML
  have HXX := Lib.hid hxx
  clear h hML hxx
  by_cases h6 : 6000 < s.length
  · have h6' : (6000 : Int) < (s.length : Int) := by omega
    clear hl
    go_enter Try.func5, Try.ntmps5
    go_wp2_with fail
    refine (awake_any w HM.out HM.out.pos).mono ?_
    rintro e w1 ⟨rfl, hb⟩
    go_wp2
    go_ret
    exact ⟨rfl, hb⟩
  · have h6' : (s.length : Int) ≤ 6000 := by omega
    have hlb : longB xs = true := by
      rcases hl with h | h
      · exact h
      · exact absurd h h6
    have HLB := Lib.hid hlb
    clear hlb hl
    go_enter Try.func5, Try.ntmps5
    go_wp2_with fail
    refine (long_is xs _ w HS0.out true HLB.out hx HXX.out).mono ?_
    rintro e w' ⟨rfl, rfl⟩
    go_wp2_with fail
    refine (awake_any w HM.out HM.out.pos).mono ?_
    rintro e w1 ⟨rfl, hb⟩
    go_wp2
    go_ret
    exact ⟨rfl, hb⟩

theorem lines_walk (s : ByteArray) (xs : List (List UInt8)) (A : Option Addr) (c : Nat) (w : World) (h : SR w (.slice A xs.length c) xs) (hs : s.size ≤ 140737488351232) (hx : xs.length ≤ 140737488351232) (hxx : ∀ x ∈ xs, x.length ≤ 9223372036854775807) (hML : ML w) :
    Calls Try.prog 5 #[.string s, .slice A xs.length c] w fun e w' => e = .returned (.bool true) ∧ Below w.heap.size w w' := by
  obtain ⟨s, rfl, hs'⟩ := to_str s
  by_cases hl : longB xs = true ∨ 6000 < s.length
  · exact lines_long s xs A c w h hl (by omega) hx hxx hML
  · have hlb : longB xs = false := by
      cases e : longB xs
      · rfl
      · exact absurd (.inl e) hl
    exact lines_good s xs A c w h hlb (by omega) hML

set_option maxRecDepth 100000 in
theorem lines_lifted (os : Os) (started : os.Started) (H : Type) (enc : TypeId × Value → H) :
    ReturnsInHanded {} Try.checked os 5 .any (Rows.lineCutsSpec.pre6 enc Try.prog Try.f5 Rows.lineCutsRow.domain false) (Rows.lineCutsSpec.post enc Try.prog Try.f5 false true false false) := by
  refine returnsInHanded_of_change_shaped (C := Try.checked) Try.own started (by kernel_rfl) Try.func5
    (ChangeSpec.witness6 (enc := enc) (C := Try.checked) false ⟨#[], #[.string ByteArray.empty, .slice none 0 0], []⟩ 8 (by kernel_rfl) (by kernel_rfl) (by kernel_rfl) (by kernel_rfl)) ?_
  intro W base args ds gs before hval0 hW hcnd hsz0 hsh _
  have hval : ∀ (j : Nat) t v, Try.f5.params[j]? = some t → args[j]? = some v → Value.okWide Try.prog W .any base t v := hval0
  have hsz : (DataW.weightsEach Try.prog (Try.f5.params.toList ++ Rows.lineCutsSpec.plain.varTypes Try.prog) (ds ++ gs)).all (· ≤ reachBytes) = true := hsz0
  have hW' := hW
  obtain ⟨p, q, hA0, hV, rfl, hfz, hnd⟩ := hW
  have hA : DataW.TrodAll enc Try.prog W 0 (fun _ => true) true Try.f5.params.toList args.toList ds p := hA0
  rw [Try.params5] at hA hval hsz
  obtain ⟨v0, vs0, d0, ds0, p0, q0, hargs, rfl, rfl, h0, r0⟩ := trodAll_cons hA
  obtain ⟨v1, vs1, d1, ds1, p1, q1, rfl, rfl, rfl, h1, r1⟩ := trodAll_cons r0
  obtain ⟨rfl, rfl, rfl⟩ := trodAll_nil r1
  obtain rfl : args = #[v0, v1] := by cases args; simp_all
  obtain ⟨rfl, rfl⟩ := trodVars_none hV
  obtain ⟨a0, rfl, rfl, rfl, w0⟩ := open_string Try.underlying9 (hval 0 9 v0 rfl rfl) h0
  obtain ⟨aA, len, cap, rfl⟩ := okWide_slice Try.underlying23 (hval 1 23 v1 rfl rfl)
  have z0 := sized_string hsz (j := 0) (t := 9) rfl rfl
  have h1k := h1
  obtain ⟨fuel, hf⟩ := h1
  have hlt : ∀ x ∈ p1, x.block < W.heap.size := fun x hx => hW'.lt x (by simp [hx])
  have hSR : ∃ xs : List (List UInt8), xs.length = len ∧ SR W (.slice aA xs.length cap) xs ∧ len ≤ 140737488351232 ∧ ∀ x ∈ xs, x.length ≤ 9223372036854775807 := by
    rcases open_strings Try.underlying23 Try.underlying9 Try.cells9 hf with ⟨hcs, hx⟩ | ⟨a, len', cap', ss, hcs, _, hl, hm, hz, hx, hcell, hws⟩
    · simp [Value.cells] at hcs
      obtain ⟨rfl, rfl, rfl⟩ := hcs
      exact ⟨[], rfl, ⟨none, 0, rfl, .inl rfl⟩, by omega, by simp⟩
    · simp [Value.cells] at hcs
      obtain ⟨rfl, rfl, rfl⟩ := hcs
      simp only [Prod.mk.injEq] at hx
      obtain ⟨rfl, rfl⟩ := hx
      simp only [if_true] at hz
      refine ⟨(ss.take len).map fun s => s.data.toList, by rw [List.length_map, List.length_take]; omega, sr_of_open (by omega) hcell, ?_, ?_⟩
      · have := sized_slice hsz (j := 1) (t := 23) (e := 9) rfl rfl Try.underlying23
        rw [Try.bytes9] at this
        simp only [strs, List.length_map, List.length_take, List.length_drop, reachBytes] at this
        omega
      · intro x hx
        obtain ⟨s, hs, rfl⟩ := List.mem_map.1 hx
        exact hws s (List.mem_of_mem_take hs)
  obtain ⟨xs, rfl, hSR, hlen, hxx⟩ := hSR
  clear hA0 hval0 hsz0
  refine (lines_walk a0 xs aA cap W hSR (by rw [Array.length_toList] at z0; exact z0) hlen hxx (ml_of_shape hsh)).mono fun e W' ⟨he, hg⟩ => ?_
  subst he
  refine ⟨_, rfl, _, _, _, [], [] ++ (p1 ++ []), [], hW', ?_, ?_, rfl, hg.frame _, fun h => by cases h⟩
  · exact trodAll_cons_mk (shut_bool Try.underlying4 _) trodAll_mk0
  · exact trodAll_cons_mk (shut_string Try.underlying9 w0) (trodAll_cons_mk (Below.trod Try.laidOutB (by kernel_rfl) (of_decide_eq_true (by kernel_rfl)) h1k hg hlt) trodAll_mk0)

theorem lines_over : Rows.lineCutsRow.holds Try.pinned (OpenSpec.ofChange Rows.lineCutsSpec) :=
  OpenClaim.holds_of_wide 5 Try.f5 rfl rfl rfl rfl rfl rfl rfl ⟨rfl, rfl, rfl, rfl, rfl⟩ rfl rfl rfl rfl rfl (by kernel_rfl) Try.func5 (by kernel_rfl)
    (of_decide_eq_true (by kernel_rfl)) (by unfold Func.isWrapper; first | (rw [if_pos (by decide +kernel)]; kernel_rfl) | (rw [if_neg (by decide +kernel)]; exact ⟨rfl, rfl⟩))
    (fun os started H enc _ => lines_lifted os started H enc)

theorem lineCuts_holds : Rows.LineCutsSaid := lines_over
end Go.Proofs.Ytgjngldkeiblbaa
