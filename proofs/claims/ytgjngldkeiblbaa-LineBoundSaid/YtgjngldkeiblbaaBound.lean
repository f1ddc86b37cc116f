/-
  PROVED: LineBound returns true for every input: a framer tells no line longer than most less 2; and each that is not longer, and ended, as long as it lives; what is left is shorter than most (P1.5), and its arguments read as they did.
  Conditions: none beyond the statement's own (each argument takes at most 2^47 - 4096 bytes).
-/
import Derived.BigQuiet
import Derived.Deep.QuietTactic
import Derived.Test.YtgjngldkeiblbaaTop
import Derived.Test.YtgjngldkeiblbaaBoundPure
namespace Go.Proofs.Ytgjngldkeiblbaa
open Go Go.RowKit Go.Shelf Go.WideShapes Go.ChangeShapes Go.ChangeAt
open Go.ChangeMaps (open_string shut_string)

theorem run_line_le (m : Nat) : ∀ (s l x : List UInt8), x ∈ (run m l s).1 → x.length ≤ l.length + s.length := by
  intro s
  induction s with
  | nil => intro l x h; simp [run_nil] at h
  | cons b s ih =>
    intro l x hx
    by_cases h : b = 10 ∧ l.getLast? = some 13
    · rw [run_end _ h] at hx
      rcases List.mem_cons.1 hx with rfl | hx
      · rw [List.length_dropLast]; simp; omega
      · have := ih [] x hx; simp at this ⊢; omega
    · by_cases hm : m ≤ l.length + 1
      · rw [run_dies _ h hm] at hx; simp at hx
      · rw [run_on _ h (by omega)] at hx
        have := ih (l ++ [b]) x hx; simp at this ⊢; omega

theorem sr_at {W : World} {A : Option Addr} {c : Nat} {xs : List (List UInt8)} (h : SR W (.slice A xs.length c) xs) (h0 : 0 < xs.length) : ∃ b o, A = some ⟨b, o, none⟩ ∧ ∀ k, ∀ h : k < xs.length, W.cell? ⟨b, o + k, none⟩ = some (sv xs[k]) := by
  obtain ⟨A', c', e, h⟩ := h
  obtain ⟨rfl, rfl⟩ : A = A' ∧ c = c' := by simpa using e
  rcases h with rfl | h
  · simp at h0
  · exact h

set_option maxRecDepth 100000 in
set_option maxHeartbeats 4000000 in
theorem bound_good (m : Nat) (s : List UInt8) (w : World) (hs : s.length ≤ 6000) (hm2 : 2 ≤ m) (hm5 : m ≤ 512) (hML : ML w) :
    Calls Try.prog 8 #[.int .i64 m, .string (str s)] w fun e w' => e = .returned (.bool true) ∧ Below w.heap.size w w' := by
  have hbd := run_bound (M := s.length + 1) hm2 s [] (by simp; omega) (by simp)
  have hfar := (run_far (M := s.length + 1) s [] (by simp)).1
  have hcnt := run_count (s.length + 1) s []
  obtain ⟨o, l1, d, hr1⟩ : ∃ o l d, run m [] s = (o, l, d) := ⟨_, _, _, rfl⟩
  obtain ⟨a, r, e0, hr2⟩ : ∃ a r e, run (s.length + 1) [] s = (a, r, e) := ⟨_, _, _, rfl⟩
  rw [hr2] at hfar hcnt
  obtain rfl : e0 = false := hfar
  rw [hr1, hr2] at hbd
  obtain ⟨hpre, hlen, hlive, hdead⟩ := hbd
  simp only at hpre hlen hlive hdead hcnt
  have hle : o.length ≤ a.length := hpre.length_le
  have HR1 := Lib.hid hr1
  have HR2 := Lib.hid hr2
  have HM := Lib.hid hML
  have HPRE := Lib.hid hpre
  have HLEN := Lib.hid hlen
  have HLIVE := Lib.hid hlive
  have HDEAD := Lib.hid hdead
  clear hr1 hr2 hML hpre hlen hlive hdead
  go_enter Try.func8, Try.ntmps8
  go_wp2_with fail
  refine (awake_any w HM.out HM.out.pos).mono ?_
  rintro e w2 ⟨rfl, hb⟩
  have HB1 := Lib.hid ((Below.refl w.heap.size w).trans (hb.mono (Below.refl w.heap.size w).size))
  have HM2 := Lib.hid (HM.out.below hb)
  clear hb
  go_wp2_with fail
  refine (new_yes m w2 hm2 hm5).mono ?_
  rintro e w3 ⟨rfl, hw⟩
  have hb : Below w2.heap.size w2 w3 := by rw [hw]; exact below_alloc _ _
  have hf : Fr w3 w2.heap.size m [] false := by rw [hw]; exact new_fr m w2
  have HP3 := Lib.hid (show 0 < w2.heap.size from HM2.out.pos)
  have HL4 := Lib.hid (show w.heap.size ≤ w2.heap.size from HB1.out.size)
  have HB5 := Lib.hid (HB1.out.trans (hb.mono HB1.out.size))
  have HM6 := Lib.hid (HM2.out.below hb)
  have HF7 := Lib.hid hf
  clear hw hb hf
  go_wp2_with fail
  refine (feed_go HF7.out (live_nil (by omega)) hm2 hm5 (by omega) HP3.out HM6.out HR1.out).mono ?_
  rintro e w4 ⟨A8, c8, rfl, hgr, hf, ho⟩
  have HB9 := Lib.hid (HB5.out.grown hgr HB5.out.size (fun k e => by cases e; exact HL4.out))
  have HM10 := Lib.hid (HM6.out.fed HP3.out hgr)
  have HF11 := Lib.hid hf
  have HO12 := Lib.hid ho
  clear hgr hf ho
  go_wp2_with fail
  refine (cut_run (by omega) HM10.out HM10.out.pos HR2.out).mono ?_
  rintro e w5 ⟨A9, c9, rfl, hb, ho⟩
  have HB13 := Lib.hid (HB9.out.trans (hb.mono HB9.out.size))
  have HM14 := Lib.hid (HM10.out.below hb)
  have HF15 := Lib.hid (HF11.out.below hb)
  have HO16 := Lib.hid (HO12.out.below hb)
  have HOA := Lib.hid ho
  clear hb ho
  have HSL := Lib.hid (SR.of_own HO16.out)
  have HSA := Lib.hid (SR.of_own HOA.out)
  go_wp2_with fail
  go_loopw [11] (fun i wr => ∃ k nd : Nat, k ≤ o.length ∧ i = .int .i64 k ∧ wr = w5.drewN nd) (fun i _ => o.length - (intOf i).toNat)
  case atStart => exact ⟨0, 0, Nat.zero_le _, rfl, rfl⟩
  case round =>
    obtain ⟨k, nd, hk, rfl, rfl⟩ := hrel
    by_cases hlt : k < o.length
    · obtain ⟨b1, p1, rfl, hc1⟩ := sr_at HSL.out (by omega)
      obtain ⟨b2, p2, rfl, hc2⟩ := sr_at HSA.out (by omega)
      have hlt2 : k < a.length := by omega
      obtain ⟨x, hx⟩ : ∃ x, x = o[k] := ⟨_, rfl⟩
      have hy : x = a[k] := by
        obtain ⟨t, ht⟩ := HPRE.out
        rw [hx]; simp [← ht, List.getElem_append_left hlt]
      have e1 : w5.cell? ⟨b1, p1 + k, none⟩ = some (sv x) := by rw [hx]; exact hc1 k hlt
      have e2 : w5.cell? ⟨b2, p2 + k, none⟩ = some (sv x) := by rw [hy]; exact hc2 k hlt2
      have hxl : x.length + 2 ≤ m := HLEN.out x (by rw [hx]; exact List.getElem_mem hlt)
      have hd1 : decide ((m : Int) - 2 < (x.length : Int)) = false := by simp; omega
      have hd2 : decide (a.length ≤ k) = false := by simp; omega
      clear hc1 hc2 hx hy
      go_wp2
      go_quiet (fail)
      go_wp2
      go_roundw
      case rel => exact ⟨k + 1, _, by omega, by go_num, rfl⟩
      case measure => simp [intOf]; omega
    · obtain rfl : k = o.length := by omega
      have hF8 : Fr (w5.drewN nd) w2.heap.size m l1 d := HF15.out
      have HF8 := Lib.hid hF8
      have HBE := Lib.hid (HB13.out.trans (below_drewN w5 nd _))
      clear hF8
      cases d
      · rw [show eno false = 0 from rfl]
        obtain ⟨hoa, hlr, hlm⟩ := HLIVE.out rfl
        subst hoa hlr
        have hlm' : (l1.length : Int) < m := by omega
        go_wp2_with fail
        refine (left_any _ HF8.out).mono ?_
        rintro e w' ⟨rfl, rfl⟩
        go_wp2_with fail
        refine (dead_any _ HF8.out).mono ?_
        rintro e w' ⟨rfl, rfl⟩
        go_wp2
        go_ret
        exact ⟨rfl, HBE.out⟩
      · rw [show eno true = 40 from rfl]
        have hl1 : l1 = [] := by have := run_dead_left (m := m) s [] (by rw [HR1.out]); rw [HR1.out] at this; exact this
        rcases HDEAD.out rfl with ⟨x, hax, hxm⟩ | ⟨hoa, hrm⟩
        · have hlt : o.length < a.length := (List.getElem?_eq_some_iff.1 hax).1
          obtain ⟨b2, p2, rfl, hc2⟩ := sr_at HSA.out (by omega)
          have e2 : w5.cell? ⟨b2, p2 + o.length, none⟩ = some (sv x) := by
            rw [hc2 o.length hlt]
            rw [List.getElem?_eq_getElem hlt] at hax
            rw [Option.some.inj hax]
          have hxb : x.length + 2 ≤ 9223372036854775807 := by
            have := run_line_le (s.length + 1) s [] x (by rw [HR2.out]; exact List.mem_of_getElem? hax)
            simp at this; omega
          have hxm' : (m : Int) < (x.length : Int) + 2 := by omega
          have ej : str x ++ { data := #[13, 10] } = str (x ++ [13, 10]) := by apply ByteArray.ext; simp
          have EJ := Lib.hid ej
          subst hl1
          clear hc2 hax ej
          go_wp2_with fail
          refine (dead_any _ HF8.out).mono ?_
          rintro e w' ⟨rfl, rfl⟩
          go_wp2_with fail
          refine (left_any _ HF8.out).mono ?_
          rintro e w' ⟨rfl, rfl⟩
          go_wp2
          go_ret
          exact ⟨rfl, HBE.out⟩
        · have hno : ¬ o.length < a.length := by omega
          subst hl1
          have HOA := Lib.hid hoa
          clear hno hoa
          rw [← HOA.out]
          by_cases hgt : m < r.length
          · have hgt' : (m : Int) < (r.length : Int) := by omega
            go_wp2_with fail
            refine (dead_any _ HF8.out).mono ?_
            rintro e w' ⟨rfl, rfl⟩
            go_wp2_with fail
            refine (left_any _ HF8.out).mono ?_
            rintro e w' ⟨rfl, rfl⟩
            go_wp2
            go_ret
            exact ⟨rfl, HBE.out⟩
          · obtain rfl : m = r.length := by omega
            go_wp2_with fail
            refine (dead_any _ HF8.out).mono ?_
            rintro e w' ⟨rfl, rfl⟩
            go_wp2_with fail
            refine (left_any _ HF8.out).mono ?_
            rintro e w' ⟨rfl, rfl⟩
            go_wp2
            go_ret
            exact ⟨rfl, HBE.out⟩

set_option maxHeartbeats 1000000 in
theorem bound_long (m : Int) (s : List UInt8) (w : World) (hl : 6000 < s.length) (hs : s.length ≤ 140737488351232) (hML : ML w) :
    Calls Try.prog 8 #[.int .i64 m, .string (str s)] w fun e w' => e = .returned (.bool true) ∧ Below w.heap.size w w' := by
  have HM := Lib.hid hML
  have h4' : (6000 : Int) < (s.length : Int) := by omega
  clear hML
  go_enter Try.func8, Try.ntmps8
  go_wp2_with fail
  refine (awake_any w HM.out HM.out.pos).mono ?_
  rintro e w1 ⟨rfl, hb⟩
  go_wp2
  go_ret
  exact ⟨rfl, hb⟩

theorem bound_bad (m : Int) (s : List UInt8) (w : World) (hs : s.length ≤ 6000) (hm : m < 2 ∨ 512 < m) (hML : ML w) :
    Calls Try.prog 8 #[.int .i64 m, .string (str s)] w fun e w' => e = .returned (.bool true) ∧ Below w.heap.size w w' := by
  have new : ∀ w, Calls Try.prog 16 #[.int .i64 m] w fun e w' => e = .returned (.tuple #[.pointer none, .int .i64 1]) ∧ w = w' := fun w => by
    rcases hm with h | h
    · exact new_low m w h
    · exact new_high m w h
  have NEW := Lib.hid new
  have HM := Lib.hid hML
  clear new hML hm
  go_enter Try.func8, Try.ntmps8
  go_wp2_with fail
  refine (awake_any w HM.out HM.out.pos).mono ?_
  rintro e w1 ⟨rfl, hb⟩
  have HB := Lib.hid hb
  clear hb
  go_wp2_with fail
  refine (NEW.out w1).mono ?_
  rintro e w1' ⟨rfl, rfl⟩
  go_wp2
  go_ret
  exact ⟨rfl, HB.out⟩

theorem bound_walk (a : Int) (s : ByteArray) (w : World) (hw : (Lit.int .i64 a).wf = true) (hs : s.size ≤ 140737488351232) (hML : ML w) :
    Calls Try.prog 8 #[.int .i64 a, .string s] w fun e w' => e = .returned (.bool true) ∧ Below w.heap.size w w' := by
  obtain ⟨s, rfl, hs'⟩ := to_str s
  by_cases hl : 6000 < s.length
  · exact bound_long a s w hl (by omega) hML
  · by_cases hm : a < 2 ∨ 512 < a
    · exact bound_bad a s w (by omega) hm hML
    · obtain ⟨m, rfl⟩ := Int.eq_ofNat_of_zero_le (show 0 ≤ a by omega)
      exact bound_good m s w (by omega) (by omega) (by omega) hML

set_option maxRecDepth 100000 in
theorem bound_lifted (os : Os) (started : os.Started) (H : Type) (enc : TypeId × Value → H) :
    ReturnsInHanded {} Try.checked os 8 .any (Rows.lineBoundSpec.pre6 enc Try.prog Try.f8 Rows.lineBoundRow.domain false) (Rows.lineBoundSpec.post enc Try.prog Try.f8 false true false false) := by
  refine returnsInHanded_of_change_shaped (C := Try.checked) Try.own started (by kernel_rfl) Try.func8
    (ChangeSpec.witness6 (enc := enc) (C := Try.checked) false ⟨#[], #[.int .i64 0, .string ByteArray.empty], []⟩ 8 (by kernel_rfl) (by kernel_rfl) (by kernel_rfl) (by kernel_rfl)) ?_
  intro W base args ds gs before hval0 hW hcnd hsz0 hsh _
  have hval : ∀ (j : Nat) t v, Try.f8.params[j]? = some t → args[j]? = some v → Value.okWide Try.prog W .any base t v := hval0
  have hsz : (DataW.weightsEach Try.prog (Try.f8.params.toList ++ Rows.lineBoundSpec.plain.varTypes Try.prog) (ds ++ gs)).all (· ≤ reachBytes) = true := hsz0
  have hW' := hW
  obtain ⟨p, q, hA0, hV, rfl, hfz, hnd⟩ := hW
  have hA : DataW.TrodAll enc Try.prog W 0 (fun _ => true) true Try.f8.params.toList args.toList ds p := hA0
  rw [Try.params8] at hA hval hsz
  obtain ⟨v0, vs0, d0, ds0, p0, q0, hargs, rfl, rfl, h0, r0⟩ := trodAll_cons hA
  obtain ⟨v1, vs1, d1, ds1, p1, q1, rfl, rfl, rfl, h1, r1⟩ := trodAll_cons r0
  obtain ⟨rfl, rfl, rfl⟩ := trodAll_nil r1
  obtain rfl : args = #[v0, v1] := by cases args; simp_all
  obtain ⟨rfl, rfl⟩ := trodVars_none hV
  obtain ⟨a0, rfl, rfl, rfl, w0⟩ := open_int Try.underlying3 (hval 0 3 v0 rfl rfl) h0
  obtain ⟨a1, rfl, rfl, rfl, w1⟩ := open_string Try.underlying9 (hval 1 9 v1 rfl rfl) h1
  have z1 := sized_string hsz (j := 1) (t := 9) rfl rfl
  clear hA0 hval0 hsz0
  simp only [List.append_nil] at hW'
  refine (bound_walk a0 a1 W w0 (by rw [Array.length_toList] at z1; exact z1) (ml_of_shape hsh)).mono fun e W' ⟨he, hg⟩ => ?_
  subst he
  exact ⟨_, rfl, post_of_below (pa := []) (pv := []) hW' (fun _ _ _ => (trodAll_cons_mk (shut_bool Try.underlying4 _) trodAll_mk0)) (fun sp _ => (trodAll_cons_mk (shut_int Try.underlying3 w0) (trodAll_cons_mk (shut_string Try.underlying9 w1) trodAll_mk0))) (fun _ _ => rfl) rfl
    hg (ok_one (by kernel_rfl) rfl (okWide_bool_mk Try.underlying4 _))⟩

theorem bound_over : Rows.lineBoundRow.holds Try.pinned (OpenSpec.ofChange Rows.lineBoundSpec) :=
  OpenClaim.holds_of_wide 8 Try.f8 rfl rfl rfl rfl rfl rfl rfl ⟨rfl, rfl, rfl, rfl, rfl⟩ rfl rfl rfl rfl rfl (by kernel_rfl) Try.func8 (by kernel_rfl)
    (of_decide_eq_true (by kernel_rfl)) (by unfold Func.isWrapper; first | (rw [if_pos (by decide +kernel)]; kernel_rfl) | (rw [if_neg (by decide +kernel)]; exact ⟨rfl, rfl⟩))
    (fun os started H enc _ => bound_lifted os started H enc)

theorem lineBound_holds : Rows.LineBoundSaid := bound_over
end Go.Proofs.Ytgjngldkeiblbaa
