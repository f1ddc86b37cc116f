/-
  The reference's Line: where a reply is whole by it; Line of any.
-/
import Derived.Test.YtanfonpbnamjmaaDoorYRxM
namespace Go.Proofs.YtanfonpbnamjmaaDoor
open Go Go.RowKit Go.Shelf
set_option maxRecDepth 100000

set_option maxHeartbeats 16000000 in
theorem rline_whole {n : Nat} {w : World} {b : Nat} {G raw} {st : RS} (h : Rx n w b G raw st) (s : List UInt8) (hs : s.length ≤ 1000000) (hd : st.d = false) (hbad : badL st s = false) (h32 : st.ls.length < 32) (hm : moreR s = false) :
    Calls Tryd.prog 21 #[.pointer (some ⟨b, 0, none⟩), sv s] w (RLinePost n w b G st s) := by
  have HM := Lib.hid hm
  have HP := Lib.hid (rparse_any s w hs)
  have HR := Lib.hid h
  have hf : okForm s = true := by
    unfold badL at hbad
    cases e : okForm s with
    | true => rfl
    | false => rw [e] at hbad; simp at hbad
  have hv : parseV s = .tuple #[.int .i64 (codeR s : Int), .bool (moreR s), sv (textR s), .int .i64 0] := by unfold parseV; rw [if_pos hf]
  rw [hv, hm] at HP
  have HBAD := Lib.hid hbad
  have HF := Lib.hid hf
  have HCB := Lib.hid (codeR_bounds hf)
  have hb2 : 0 < st.ls.length → codeR s = st.c := by unfold badL at hbad; rw [hf] at hbad; simpa using hbad
  have H32 := Lib.hid h32
  have HD := Lib.hid hd
  have hlr : st.ls.length = raw.length := by rw [h.ls, List.length_map]
  rw [hlr] at hb2
  have hr32 : raw.length < 32 := by omega
  obtain ⟨q, hq⟩ : ∃ q, q = codeR s := ⟨_, rfl⟩
  obtain ⟨t, htx⟩ : ∃ t, t = textR s := ⟨_, rfl⟩
  rw [← hq] at HP hb2
  rw [← htx] at HP
  have HQ := Lib.hid hq
  have HT := Lib.hid htx
  obtain ⟨-, -, -, -, -, -, -, v, u, hb, hv0, -, hvn, -⟩ := h
  obtain ⟨Av, cv, rfl, hrow⟩ := hv0
  have c5 := hb.c5
  rw [hd] at c5
  have HB := Lib.hid hb
  have HX := Lib.hid (show ∀ w1, Below w.heap.size w w1 → w1.cell? ⟨b, 0, none⟩ = some (.slice Av raw.length cv) from fun w1 hb1 => ((HB.out).below hb1).c0)
  have HRL := Lib.hid hr32
  by_cases h0 : raw = []
  · subst h0
    obtain ⟨rfl, -, rfl⟩ : Av = none ∧ ([] : List (List UInt8)).length = 0 ∧ cv = 0 := by have := hvn rfl; simpa using this
    clear hf hv hbad hb hrow hvn hlr hr32 hq htx hb2 h32 hd hm
    go_enter Tryd.func21, Tryd.ntmps21
    go_wp2_with fail
    refine (HP.out).mono ?_
    rintro e w2 ⟨rfl, hb1⟩
    have k0 := HX.out _ hb1
    have HB2 := Lib.hid hb1
    have HLT := Lib.hid (show b < w2.heap.size from Nat.lt_of_lt_of_le HR.out.lt hb1.size)
    have k0' := (HX.out _ (hb1.trans ((below_alloc w2 (.cells #[] 9)).mono hb1.size)))
    clear hb1
    go_wp2_with first
      | (at_builtin; refine wpList_append_run rfl (.tmp 71) (.tmp 75) 28 rfl rfl rfl (run_append_of_nil _ w2.heap.size _ _ _ (owns_none #[] rfl) 0) ?_)
      | (at_builtin; refine row_appendB (n := w2.heap.size) (ls := []) (owns_none #[] rfl) (by simp) (by decide) s _ rfl (.tmp 76) (.tmp 78) rfl rfl rfl _ _ rfl (by simp) ?_; intro g cap w4 hown hgr hor hlt4; have hb4 : Below w2.heap.size w2 w4 := Below.grown ((below_alloc w2 _).alloc (by simp) _) hgr (by simp; omega) (fun j hj => by simp [Value.ownBlock] at hj; omega); have hTK := HR.out.took s HB2.out hb4 (by simpa using hown); have d0 := hTK.1.trans (HX.out _ (Below.refl _ _)); have f0 := hTK.2.1; have HTK := Lib.hid hTK.2.2; have HB4 := Lib.hid hb4; clear hTK hown hgr hor hlt4 hb4)
    have HN1 := Lib.hid (show ([] ++ [s]).length = 1 from rfl)
    replace HTK := Lib.hid (show Took n w (w4.setCell ⟨b, 0, none⟩ (.slice (some ⟨g, 0, none⟩) 1 cap)) b G [] st s (.slice (some ⟨g, 0, none⟩) 1 cap) g from HTK.out)
    obtain ⟨W5, hW5⟩ : ∃ X, X = w4.setCell ⟨b, 0, none⟩ (.slice (some ⟨g, 0, none⟩) 1 cap) := ⟨_, rfl⟩
    rw [← hW5] at HTK ⊢
    obtain ⟨t1, t2, t3, ⟨u5, t4, t5, t6⟩, t7⟩ := HTK.out
    have HK5 := Lib.hid t1
    have HST := Lib.hid (rstat_any q t W5 (by rw [HQ.out]; exact HCB.out.1) (by rw [HQ.out]; exact HCB.out.2.1) (by rw [HT.out]; unfold textR; rw [List.length_drop]; omega))
    obtain ⟨zs, hzs⟩ : ∃ z, z = statR q t := ⟨_, rfl⟩
    rw [← hzs] at HST
    have HZS := Lib.hid hzs
    have HX5 := Lib.hid t4
    have HR5 := Lib.hid t7
    have HG5 := Lib.hid (And.intro t2 t3)
    clear hW5 d0 f0 t1 t2 t3 t4 t5 t6 t7 hzs
    go_wp2_with fail
    refine (HST.out).mono ?_
    rintro e W6 ⟨rfl, hb6⟩
    have hx6 := HX5.out.below hb6
    obtain ⟨W7, hW7⟩ : ∃ X, X = (((W6.setCell ⟨b, 1, none⟩ (.int .i64 (q : Int))).setCell ⟨b, 2, none⟩ (sv zs)).setCell ⟨b, 3, none⟩ (.slice none 0 0)).setCell ⟨b, 4, none⟩ (.bool true) := ⟨_, rfl⟩
    have hx7 : Xlk W7 b (.slice (some ⟨g, 0, none⟩) 1 cap) q zs (.slice none 0 0) true st.d := by rw [hW7]; exact ((((hx6.set1 q).set2 zs).set3 _).set4 true)
    have hk67 : Kp [b] W6 W7 := by rw [hW7]; exact ((((Kp.refl [b] W6).setCell (p := ⟨b, 1, none⟩) (by simp) _).setCell (p := ⟨b, 2, none⟩) (by simp) _).setCell (p := ⟨b, 3, none⟩) (by simp) _).setCell (p := ⟨b, 4, none⟩) (by simp) _
    have HGB := Lib.hid (show g ≠ b by have := HG5.out.1; have := HR.out.lt; omega)
    have HK7 := Lib.hid (show Kp [b] w W7 from ((HK5.out).below hb6).trans hk67 (fun k hk _ => hk))
    have HR7 := Lib.hid (show RowG W7 [g] (.slice (some ⟨g, 0, none⟩) 1 cap) ([] ++ [s]) from (HR5.out.kp (Kp.of_below hb6 []) (fun k _ => by simp)).kp hk67 (fun k hk hk' => by simp at hk hk'; have := HGB.out; omega))
    have HX7 := Lib.hid hx7
    have m1 := hx6.c1; have m2 := hx6.c2; have m3 := hx6.c3; have m4 := hx6.c4
    have f1 := hx6.fr 1; have f2 := hx6.fr 2; have f3 := hx6.fr 3; have f4 := hx6.fr 4
    have HW7 := Lib.hid hW7
    clear hx6 hx7 hk67 hb6 hW7
    go_wp2_with fail
    rw [← HW7.out]
    clear m1 m2 m3 m4 f1 f2 f3 f4
    have HK77 := Lib.hid (Kp.refl [b] W7)
    go_loopw [14, 15, 16, 17, 18] (fun i _ _ _ _ wr => ∃ k : Nat, k ≤ 1 ∧ i = .int .i64 k ∧ ∃ (uk : Value) (tk : List (List UInt8)), tk = (([] ++ [s]).take k).map textR ∧ tk.length = k ∧ Xlk wr b (.slice (some ⟨g, 0, none⟩) 1 cap) q zs uk true st.d ∧ wr.ownsRow W7.heap.size 9 1 uk tk.length (tk.map sv) ∧ Kp [b] W7 wr) (fun i _ _ _ _ _ => 1 - (intOf i).toNat)
    case atStart => exact ⟨0, Nat.zero_le _, rfl, .slice none 0 0, [], rfl, rfl, HX7.out, World.ownsRow_nil _ _ _ _, HK77.out⟩
    case round =>
      obtain ⟨k, hk, rfl, uk, tk, htk, htl, hxk, hok, hkp⟩ := hrel
      obtain ⟨Ak, ck, rfl⟩ := owns_form hok
      have m0 := hxk.c0
      by_cases hlt : k < 1
      · obtain ⟨x, hx⟩ : ∃ x, x = ([] ++ [s]).getD k [] := ⟨_, rfl⟩
        have hkl : k < ([] ++ [s]).length := by rw [HN1.out]; exact hlt
        have hmem : x ∈ [] ++ [s] := by rw [hx, List.getD_eq_getElem?_getD, List.getElem?_eq_getElem hkl]; exact List.getElem_mem hkl
        have hxo : okForm x = true ∧ x.length ≤ 1000000 := by
          rcases List.mem_append.1 hmem with h | h
          · exact HR.out.ok x h
          · simp only [List.mem_singleton] at h; subst h; exact ⟨HF.out, hs⟩
        have hcx : wr.cell? ⟨g, k, none⟩ = some (sv x) := by
          obtain ⟨A', c', e', hc⟩ := (HR7.out).kp hkp (fun k hk hk' => by simp at hk hk'; have := HGB.out; omega)
          simp only [Value.slice.injEq] at e'
          obtain ⟨rfl, _, rfl⟩ := e'
          obtain ⟨g', hg', e2, _, hcc⟩ := hc (by rw [HN1.out]; omega)
          simp only [Option.some.injEq, Addr.mk.injEq] at e2
          obtain ⟨rfl, _⟩ := e2
          rw [hx]
          exact hcc k hkl
        have HPX := Lib.hid (rparse_any x wr hxo.2)
        rw [show parseV x = .tuple #[.int .i64 (codeR x : Int), .bool (moreR x), sv (textR x), .int .i64 0] by unfold parseV; rw [if_pos hxo.1]] at HPX
        obtain ⟨xc, hxc⟩ : ∃ c, c = codeR x := ⟨_, rfl⟩
        obtain ⟨xm, hxm⟩ : ∃ c, c = moreR x := ⟨_, rfl⟩
        obtain ⟨xt, hxt⟩ : ∃ c, c = textR x := ⟨_, rfl⟩
        rw [← hxc, ← hxm, ← hxt] at HPX
        have HTK2 := Lib.hid (show tk ++ [xt] = (([] ++ [s]).take (k + 1)).map textR by
          rw [List.take_succ_eq_append_getElem hkl, List.map_append, ← htk, hxt, hx, List.getD_eq_getElem?_getD, List.getElem?_eq_getElem hkl]
          rfl)
        have HTL := Lib.hid htl
        have HXK := Lib.hid hxk
        have HOK := Lib.hid hok
        have HKP := Lib.hid hkp
        have HS7 := Lib.hid hkp.size
        clear hx hkl hmem hxo hxc hxm hxt htk htl hxk hok hkp
        go_wp2_with fail
        refine (HPX.out).mono ?_
        rintro e w8 ⟨rfl, hb8⟩
        have hx8 := HXK.out.below hb8
        have HX8 := Lib.hid hx8
        have HO8 := Lib.hid (ownsRow_kp HOK.out (Kp.of_below hb8 []) (fun g _ => by simp))
        have HS8 := Lib.hid (show W7.heap.size ≤ w8.heap.size from Nat.le_trans HS7.out hb8.size)
        have HB8 := Lib.hid hb8
        have m3 := hx8.c3; have f3 := hx8.fr 3
        clear hx8 hb8 m0
        go_wp2_with (first
          | (at_builtin; refine row_append (n := W7.heap.size) (ls := tk) HO8.out HS8.out (by have := HTL.out; have := HRL.out; have := HN1.out; simp at this; omega) xt _ ?hC (.tmp 121) (.tmp 123) rfl rfl rfl _ rfl ?_; rotate_left; intro g9 cap9 w9 hown hgr hor hlt9; have hk9 : Below w8.heap.size w8 w9 ∨ True := .inr trivial; have hkb : Kp (Value.slice Ak tk.length ck).ownBlock.toList w8 w9 := ((Kp.refl _ w8).alloc _).grown hgr (fun k e _ => by rw [e]; simp); have hx9 := HX8.out.kp hkb (fun e => by have := (HO8.out.lt b (by simpa using e)).1; have := HR.out.lt; have := HK7.out.size; omega); have HX9 := Lib.hid hx9; have n3 := hx9.c3; have h3 := hx9.fr 3; have HO9 := Lib.hid hown; have HKB := Lib.hid hkb; clear hk9 hkb hx9 hown hgr hor hlt9))
        case hC => rfl
        have hk10 : Kp [b] w9 (w9.setCell ⟨b, 3, none⟩ (.slice (some ⟨g9, 0, none⟩) (tk.length + 1) cap9)) := (Kp.refl [b] w9).setCell (by simp) _
        have HX10 := Lib.hid ((HX9.out).set3 (.slice (some ⟨g9, 0, none⟩) (tk.length + 1) cap9))
        have HO10 := Lib.hid (ownsRow_kp HO9.out hk10 (fun g' e hg => by have := (HO9.out.lt g' e).1; have := HR.out.lt; have := HK7.out.size; simp at hg; omega))
        have HK10 := Lib.hid (show Kp [b] W7 (w9.setCell ⟨b, 3, none⟩ (.slice (some ⟨g9, 0, none⟩) (tk.length + 1) cap9)) from (((HKP.out).below HB8.out).trans (S' := (Value.slice Ak tk.length ck).ownBlock.toList) HKB.out (fun k hk hl => by have := (HO8.out.lt k (by simpa using hk)).1; omega)).trans hk10 (fun k hk _ => hk))
        clear hk10
        go_roundw
        case rel => exact ⟨k + 1, by omega, by go_num, _, tk ++ [xt], HTK2.out, by rw [List.length_append, HTL.out]; rfl, HX10.out, by rw [List.length_append]; exact HO10.out, HK10.out⟩
        case measure => simp [intOf]; omega
      · obtain rfl : k = 1 := by omega
        have htk2 : tk = st.ls ++ [textR s] := by
          rw [htk, List.take_of_length_le (by rw [HN1.out]; exact Nat.le_refl _), List.map_append, HR.out.ls]
          rfl
        have hk11 : Kp [b] wr (wr.setCell ⟨b, 0, none⟩ (.slice none 0 0)) := (Kp.refl [b] wr).setCell (by simp) _
        have HFIN := Lib.hid (show RLinePost n w b G st s (.returned (.tuple #[.bool true, .int .i64 0])) (wr.setCell ⟨b, 0, none⟩ (.slice none 0 0)) by
          have H32' : ¬ st.ls.length = 32 := by have := H32.out; omega
          have e1 : doneR st s = true := by unfold doneR; rw [HD.out, HBAD.out, HM.out, decide_eq_false H32']; rfl
          have e2 : errR st s = 0 := by unfold errR; rw [HD.out, HBAD.out, if_neg H32']; rfl
          have e3 : stepR st s = { st with ls := [], c := codeR s, lc := codeR s, lst := statR (codeR s) (textR s), lls := st.ls ++ [textR s] } := by unfold stepR; rw [HD.out, HBAD.out, if_neg H32', HM.out]; rfl
          refine ⟨(Value.slice Ak tk.length ck).ownBlock.toList, [], by rw [e1, e2], ?_, ((HK7.out).trans hkp (fun k hk _ => hk)).trans hk11 (fun k hk _ => hk), fun k hk => .inr ?_⟩
          · rw [e3]
            refine ⟨fun hg => ?_, HR.out.up, rfl, fun x hx => by simp at hx, fun h => absurd rfl h, ⟨by simp, by show (st.ls ++ [textR s]).length ≤ 32; have := H32.out; rw [List.length_append, List.length_singleton]; omega⟩, fun e => by have e' : st.ls ++ [textR s] = [] := e; simp at e', .slice none 0 0, .slice Ak tk.length ck, ?_, RowG.nil _ _, ?_, fun _ => rfl, fun e => by have e' : st.ls ++ [textR s] = [] := e; simp at e'⟩
            · have := (hok.lt b (by simpa using hg)).1
              have := HR.out.lt
              have := HK7.out.size
              omega
            · have := hxk.set0 (.slice none 0 0)
              rw [HZS.out, HQ.out, HT.out] at this
              show Xlk _ b _ (codeR s) (statR (codeR s) (textR s)) _ (decide (0 < (st.ls ++ [textR s]).length)) st.d
              rw [decide_eq_true (by simp)]
              exact this
            · have := RowG.of_owns (G := (Value.slice Ak tk.length ck).ownBlock.toList) (ownsRow_kp hok hk11 (fun g' e hg => by have := (hok.lt g' e).1; have := HR.out.lt; have := HK7.out.size; simp at hg; omega)) (fun g' e => by rw [e]; simp)
              show RowG _ _ _ (st.ls ++ [textR s])
              rw [← htk2]
              exact this
          · have := (hok.lt k (by simpa using hk)).1
            have := HK7.out.size
            omega)
        have f0 := hxk.fr 0
        clear htk htl hxk hok hkp htk2 hk11 hlt hk
        go_wp2_with fail
        go_ret2
        exact HFIN.out
  · have hp : 0 < raw.length := List.length_pos_iff.2 h0
    obtain ⟨x, hx, hok, hxl, hcx⟩ := HR.out.head hp
    obtain ⟨g0, hgG, rfl, hgl, hcell⟩ := hrow hp
    have HCL := Lib.hid (show ∀ w1, Below w.heap.size w w1 → ∀ j, j < raw.length → w1.cell? ⟨g0, j, none⟩ = some (sv (raw.getD j [])) from fun w1 hb1 j hj => (hb1.cell (p := ⟨g0, j, none⟩) hgl).trans (hcell j hj))
    have HC0 := Lib.hid (show ∀ w1, Below w.heap.size w w1 → w1.cell? ⟨g0, 0, none⟩ = some (sv x) from fun w1 hb1 => by rw [hx]; exact HCL.out w1 hb1 0 hp)
    have HP2 := Lib.hid (fun W => rparse_any x W hxl)
    rw [show parseV x = .tuple #[.int .i64 (codeR x : Int), .bool (moreR x), sv (textR x), .int .i64 0] by unfold parseV; rw [if_pos hok]] at HP2
    rw [hcx] at HP2
    have hne : ((st.c : Int) != (q : Int)) = false := by rw [hb2 hp]; simp
    have hl : (0 : Int) < raw.length := by omega
    have hl2 : ¬ (32 : Int) ≤ raw.length := by omega
    have HPL := Lib.hid hp
    clear hf hv hbad hb hrow hvn hlr hr32 hq htx hb2 h32 hd hm hx hok hxl hcx hgl hcell h0 hp hgG
    go_enter Tryd.func21, Tryd.ntmps21
    go_wp2_with fail
    refine (HP.out).mono ?_
    rintro e w1 ⟨rfl, hb1⟩
    have k0 := HX.out _ hb1
    have kg := HC0.out _ hb1
    have HB1 := Lib.hid hb1
    clear hb1
    go_wp2_with fail
    refine (HP2.out w1).mono ?_
    rintro e w2 ⟨rfl, hb2⟩
    have hb1 := (HB1.out).trans (hb2.mono HB1.out.size)
    have HB2 := Lib.hid hb1
    have k0' := HX.out _ hb1
    have HLT := Lib.hid (show b < w2.heap.size from Nat.lt_of_lt_of_le HR.out.lt hb1.size)
    have k0'' := (HX.out _ (hb1.trans ((below_alloc w2 (.cells #[] 9)).mono hb1.size)))
    clear hb1 hb2 k0 kg
    go_wp2_with first
      | (at_builtin; refine row_append0 (n := w2.heap.size) (xs := raw) (owns_none #[] rfl) (by simp) (by have := HRL.out; omega) HPL.out (fun j hj => HCL.out _ ((HB2.out).trans ((below_alloc w2 (.cells #[] 9)).mono HB2.out.size)) j hj) (.tmp 71) (.tmp 75) rfl rfl rfl _ rfl ?_; intro g1 cap1 w3 hown hgr hor hlt3; have hb3 : Below w2.heap.size w2 w3 := Below.grown (below_alloc w2 (.cells #[] 9)) hgr (by simp) (fun j hj => by simp [Value.ownBlock] at hj; omega); have HB3 := Lib.hid hb3; have HO3 := Lib.hid hown; have k3 := HX.out _ ((HB2.out).trans (hb3.mono HB2.out.size)); clear hown hgr hor hlt3 hb3)
      | (at_builtin; refine row_append (n := w2.heap.size) (ls := raw) HO3.out HB3.out.size (by have := HRL.out; omega) s _ ?hC (.tmp 76) (.tmp 78) rfl rfl rfl _ rfl ?_; rotate_left; intro g cap w4 hown hgr hor hlt4; have hb4 : Below w2.heap.size w2 w4 := Below.grown ((HB3.out).alloc HB3.out.size _) hgr (by have := HB3.out.size; simp; omega) (fun j hj => (HO3.out.lt j hj).1); have hTK := HR.out.took s HB2.out hb4 (by simpa using hown); have d0 := hTK.1.trans (HX.out _ (Below.refl _ _)); have f0 := hTK.2.1; have HTK := Lib.hid hTK.2.2; have HB4 := Lib.hid hb4; clear hTK hown hgr hor hlt4 hb4)
    case hC => rfl
    obtain ⟨n1, hn1⟩ : ∃ m, m = raw.length + 1 := ⟨_, rfl⟩
    have HN1 := Lib.hid (show (raw ++ [s]).length = n1 by rw [hn1]; simp)
    have hnb : n1 ≤ 32 := by have := HRL.out; omega
    obtain ⟨W5, hW5⟩ : ∃ X, X = w4.setCell ⟨b, 0, none⟩ (.slice (some ⟨g, 0, none⟩) n1 cap) := ⟨_, rfl⟩
    rw [← hn1] at HTK ⊢
    rw [← hW5] at HTK ⊢
    obtain ⟨t1, t2, t3, ⟨u5, t4, t5, t6⟩, t7⟩ := HTK.out
    have HK5 := Lib.hid t1
    have HST := Lib.hid (rstat_any q t W5 (by rw [HQ.out]; exact HCB.out.1) (by rw [HQ.out]; exact HCB.out.2.1) (by rw [HT.out]; unfold textR; rw [List.length_drop]; omega))
    obtain ⟨zs, hzs⟩ : ∃ z, z = statR q t := ⟨_, rfl⟩
    rw [← hzs] at HST
    have HZS := Lib.hid hzs
    have HX5 := Lib.hid t4
    have HR5 := Lib.hid t7
    have HG5 := Lib.hid (And.intro t2 t3)
    clear hn1 hW5 d0 f0 t1 t2 t3 t4 t5 t6 t7 hzs
    go_wp2_with fail
    refine (HST.out).mono ?_
    rintro e W6 ⟨rfl, hb6⟩
    have hx6 := HX5.out.below hb6
    obtain ⟨W7, hW7⟩ : ∃ X, X = (((W6.setCell ⟨b, 1, none⟩ (.int .i64 (q : Int))).setCell ⟨b, 2, none⟩ (sv zs)).setCell ⟨b, 3, none⟩ (.slice none 0 0)).setCell ⟨b, 4, none⟩ (.bool true) := ⟨_, rfl⟩
    have hx7 : Xlk W7 b (.slice (some ⟨g, 0, none⟩) n1 cap) q zs (.slice none 0 0) true st.d := by rw [hW7]; exact ((((hx6.set1 q).set2 zs).set3 _).set4 true)
    have hk67 : Kp [b] W6 W7 := by rw [hW7]; exact ((((Kp.refl [b] W6).setCell (p := ⟨b, 1, none⟩) (by simp) _).setCell (p := ⟨b, 2, none⟩) (by simp) _).setCell (p := ⟨b, 3, none⟩) (by simp) _).setCell (p := ⟨b, 4, none⟩) (by simp) _
    have HGB := Lib.hid (show g ≠ b by have := HG5.out.1; have := HR.out.lt; omega)
    have HK7 := Lib.hid (show Kp [b] w W7 from ((HK5.out).below hb6).trans hk67 (fun k hk _ => hk))
    have HR7 := Lib.hid (show RowG W7 [g] (.slice (some ⟨g, 0, none⟩) n1 cap) (raw ++ [s]) from (HR5.out.kp (Kp.of_below hb6 []) (fun k _ => by simp)).kp hk67 (fun k hk hk' => by simp at hk hk'; have := HGB.out; omega))
    have HX7 := Lib.hid hx7
    have m1 := hx6.c1; have m2 := hx6.c2; have m3 := hx6.c3; have m4 := hx6.c4
    have f1 := hx6.fr 1; have f2 := hx6.fr 2; have f3 := hx6.fr 3; have f4 := hx6.fr 4
    have HW7 := Lib.hid hW7
    clear hx6 hx7 hk67 hb6 hW7
    go_wp2_with fail
    rw [← HW7.out]
    clear m1 m2 m3 m4 f1 f2 f3 f4
    have HK77 := Lib.hid (Kp.refl [b] W7)
    go_loopw [14, 15, 16, 17, 18] (fun i _ _ _ _ wr => ∃ k : Nat, k ≤ n1 ∧ i = .int .i64 k ∧ ∃ (uk : Value) (tk : List (List UInt8)), tk = ((raw ++ [s]).take k).map textR ∧ tk.length = k ∧ Xlk wr b (.slice (some ⟨g, 0, none⟩) n1 cap) q zs uk true st.d ∧ wr.ownsRow W7.heap.size 9 1 uk tk.length (tk.map sv) ∧ Kp [b] W7 wr) (fun i _ _ _ _ _ => n1 - (intOf i).toNat)
    case atStart => exact ⟨0, Nat.zero_le _, rfl, .slice none 0 0, [], rfl, rfl, HX7.out, World.ownsRow_nil _ _ _ _, HK77.out⟩
    case round =>
      obtain ⟨k, hk, rfl, uk, tk, htk, htl, hxk, hok, hkp⟩ := hrel
      obtain ⟨Ak, ck, rfl⟩ := owns_form hok
      have m0 := hxk.c0
      by_cases hlt : k < n1
      · obtain ⟨x, hx⟩ : ∃ x, x = (raw ++ [s]).getD k [] := ⟨_, rfl⟩
        have hkl : k < (raw ++ [s]).length := by rw [HN1.out]; exact hlt
        have hmem : x ∈ raw ++ [s] := by rw [hx, List.getD_eq_getElem?_getD, List.getElem?_eq_getElem hkl]; exact List.getElem_mem hkl
        have hxo : okForm x = true ∧ x.length ≤ 1000000 := by
          rcases List.mem_append.1 hmem with h | h
          · exact HR.out.ok x h
          · simp only [List.mem_singleton] at h; subst h; exact ⟨HF.out, hs⟩
        have hcx : wr.cell? ⟨g, k, none⟩ = some (sv x) := by
          obtain ⟨A', c', e', hc⟩ := (HR7.out).kp hkp (fun k hk hk' => by simp at hk hk'; have := HGB.out; omega)
          simp only [Value.slice.injEq] at e'
          obtain ⟨rfl, _, rfl⟩ := e'
          obtain ⟨g', hg', e2, _, hcc⟩ := hc (by rw [HN1.out]; omega)
          simp only [Option.some.injEq, Addr.mk.injEq] at e2
          obtain ⟨rfl, _⟩ := e2
          rw [hx]
          exact hcc k hkl
        have HPX := Lib.hid (rparse_any x wr hxo.2)
        rw [show parseV x = .tuple #[.int .i64 (codeR x : Int), .bool (moreR x), sv (textR x), .int .i64 0] by unfold parseV; rw [if_pos hxo.1]] at HPX
        obtain ⟨xc, hxc⟩ : ∃ c, c = codeR x := ⟨_, rfl⟩
        obtain ⟨xm, hxm⟩ : ∃ c, c = moreR x := ⟨_, rfl⟩
        obtain ⟨xt, hxt⟩ : ∃ c, c = textR x := ⟨_, rfl⟩
        rw [← hxc, ← hxm, ← hxt] at HPX
        have HTK2 := Lib.hid (show tk ++ [xt] = ((raw ++ [s]).take (k + 1)).map textR by
          rw [List.take_succ_eq_append_getElem hkl, List.map_append, ← htk, hxt, hx, List.getD_eq_getElem?_getD, List.getElem?_eq_getElem hkl]
          rfl)
        have HTL := Lib.hid htl
        have HXK := Lib.hid hxk
        have HOK := Lib.hid hok
        have HKP := Lib.hid hkp
        have HS7 := Lib.hid hkp.size
        clear hx hkl hmem hxo hxc hxm hxt htk htl hxk hok hkp
        go_wp2_with fail
        refine (HPX.out).mono ?_
        rintro e w8 ⟨rfl, hb8⟩
        have hx8 := HXK.out.below hb8
        have HX8 := Lib.hid hx8
        have HO8 := Lib.hid (ownsRow_kp HOK.out (Kp.of_below hb8 []) (fun g _ => by simp))
        have HS8 := Lib.hid (show W7.heap.size ≤ w8.heap.size from Nat.le_trans HS7.out hb8.size)
        have HB8 := Lib.hid hb8
        have m3 := hx8.c3; have f3 := hx8.fr 3
        clear hx8 hb8 m0
        go_wp2_with (first
          | (at_builtin; refine row_append (n := W7.heap.size) (ls := tk) HO8.out HS8.out (by have := HTL.out; have := HRL.out; have := HN1.out; simp at this; omega) xt _ ?hC (.tmp 121) (.tmp 123) rfl rfl rfl _ rfl ?_; rotate_left; intro g9 cap9 w9 hown hgr hor hlt9; have hk9 : Below w8.heap.size w8 w9 ∨ True := .inr trivial; have hkb : Kp (Value.slice Ak tk.length ck).ownBlock.toList w8 w9 := ((Kp.refl _ w8).alloc _).grown hgr (fun k e _ => by rw [e]; simp); have hx9 := HX8.out.kp hkb (fun e => by have := (HO8.out.lt b (by simpa using e)).1; have := HR.out.lt; have := HK7.out.size; omega); have HX9 := Lib.hid hx9; have n3 := hx9.c3; have h3 := hx9.fr 3; have HO9 := Lib.hid hown; have HKB := Lib.hid hkb; clear hk9 hkb hx9 hown hgr hor hlt9))
        case hC => rfl
        have hk10 : Kp [b] w9 (w9.setCell ⟨b, 3, none⟩ (.slice (some ⟨g9, 0, none⟩) (tk.length + 1) cap9)) := (Kp.refl [b] w9).setCell (by simp) _
        have HX10 := Lib.hid ((HX9.out).set3 (.slice (some ⟨g9, 0, none⟩) (tk.length + 1) cap9))
        have HO10 := Lib.hid (ownsRow_kp HO9.out hk10 (fun g' e hg => by have := (HO9.out.lt g' e).1; have := HR.out.lt; have := HK7.out.size; simp at hg; omega))
        have HK10 := Lib.hid (show Kp [b] W7 (w9.setCell ⟨b, 3, none⟩ (.slice (some ⟨g9, 0, none⟩) (tk.length + 1) cap9)) from (((HKP.out).below HB8.out).trans (S' := (Value.slice Ak tk.length ck).ownBlock.toList) HKB.out (fun k hk hl => by have := (HO8.out.lt k (by simpa using hk)).1; omega)).trans hk10 (fun k hk _ => hk))
        clear hk10
        go_roundw
        case rel => exact ⟨k + 1, by omega, by go_num, _, tk ++ [xt], HTK2.out, by rw [List.length_append, HTL.out]; rfl, HX10.out, by rw [List.length_append]; exact HO10.out, HK10.out⟩
        case measure => simp [intOf]; omega
      · obtain rfl : k = n1 := by omega
        have htk2 : tk = st.ls ++ [textR s] := by
          rw [htk, List.take_of_length_le (by rw [HN1.out]; exact Nat.le_refl _), List.map_append, HR.out.ls]
          rfl
        have hk11 : Kp [b] wr (wr.setCell ⟨b, 0, none⟩ (.slice none 0 0)) := (Kp.refl [b] wr).setCell (by simp) _
        have HFIN := Lib.hid (show RLinePost n w b G st s (.returned (.tuple #[.bool true, .int .i64 0])) (wr.setCell ⟨b, 0, none⟩ (.slice none 0 0)) by
          have H32' : ¬ st.ls.length = 32 := by have := H32.out; omega
          have e1 : doneR st s = true := by unfold doneR; rw [HD.out, HBAD.out, HM.out, decide_eq_false H32']; rfl
          have e2 : errR st s = 0 := by unfold errR; rw [HD.out, HBAD.out, if_neg H32']; rfl
          have e3 : stepR st s = { st with ls := [], c := codeR s, lc := codeR s, lst := statR (codeR s) (textR s), lls := st.ls ++ [textR s] } := by unfold stepR; rw [HD.out, HBAD.out, if_neg H32', HM.out]; rfl
          refine ⟨(Value.slice Ak tk.length ck).ownBlock.toList, [], by rw [e1, e2], ?_, ((HK7.out).trans hkp (fun k hk _ => hk)).trans hk11 (fun k hk _ => hk), fun k hk => .inr ?_⟩
          · rw [e3]
            refine ⟨fun hg => ?_, HR.out.up, rfl, fun x hx => by simp at hx, fun h => absurd rfl h, ⟨by simp, by show (st.ls ++ [textR s]).length ≤ 32; have := H32.out; rw [List.length_append, List.length_singleton]; omega⟩, fun e => by have e' : st.ls ++ [textR s] = [] := e; simp at e', .slice none 0 0, .slice Ak tk.length ck, ?_, RowG.nil _ _, ?_, fun _ => rfl, fun e => by have e' : st.ls ++ [textR s] = [] := e; simp at e'⟩
            · have := (hok.lt b (by simpa using hg)).1
              have := HR.out.lt
              have := HK7.out.size
              omega
            · have := hxk.set0 (.slice none 0 0)
              rw [HZS.out, HQ.out, HT.out] at this
              show Xlk _ b _ (codeR s) (statR (codeR s) (textR s)) _ (decide (0 < (st.ls ++ [textR s]).length)) st.d
              rw [decide_eq_true (by simp)]
              exact this
            · have := RowG.of_owns (G := (Value.slice Ak tk.length ck).ownBlock.toList) (ownsRow_kp hok hk11 (fun g' e hg => by have := (hok.lt g' e).1; have := HR.out.lt; have := HK7.out.size; simp at hg; omega)) (fun g' e => by rw [e]; simp)
              show RowG _ _ _ (st.ls ++ [textR s])
              rw [← htk2]
              exact this
          · have := (hok.lt k (by simpa using hk)).1
            have := HK7.out.size
            omega)
        have f0 := hxk.fr 0
        clear htk htl hxk hok hkp htk2 hk11 hlt hk
        go_wp2_with fail
        go_ret2
        exact HFIN.out

theorem rline_any {n : Nat} {w : World} {b : Nat} {G raw} {st : RS} (h : Rx n w b G raw st) (s : List UInt8) (hs : s.length ≤ 1000000) :
    Calls Tryd.prog 21 #[.pointer (some ⟨b, 0, none⟩), sv s] w (RLinePost n w b G st s) := by
  cases hd : st.d with
  | true => exact rline_dead h s hd
  | false =>
    cases hb : badL st s with
    | true => exact rline_bad h s hs hd hb
    | false =>
      by_cases h32 : st.ls.length = 32
      · exact rline_full h s hs hd hb h32
      · have hl : st.ls.length < 32 := by have := h.len.1; rw [h.ls, List.length_map] at h32 ⊢; omega
        cases hm : moreR s with
        | true => exact rline_more h s hs hd hb hl hm
        | false => exact rline_whole h s hs hd hb hl hm
end Go.Proofs.YtanfonpbnamjmaaDoor
