/-
  kept and Boot of the program's disk.
-/
import Derived.Test.YtechpecnanodfaaDSync
namespace Go.Proofs.Ytechpecnanodfaa
open Go Go.RowKit Go.Maps
set_option maxRecDepth 100000
set_option linter.unusedSimpArgs false
set_option linter.unusedVariables false

theorem keptN_le (L : List Int) (k : Nat) : keptN L k ≤ 128 := by unfold keptN; split <;> omega
theorem kept_any {w : World} {A : Option Addr} {c k : Nat} {L : List Int} (h : IR w A L) (hk : k ≤ 100000) (hL : L.length ≤ 100000) :
    Calls Try.prog 35 #[.slice A L.length c, .int .i64 (k : Int)] w fun e w' => e = .returned (.int .i64 (keptN L k : Int)) ∧ Below w.heap.size w w' := by
  by_cases hlt : k < L.length
  · obtain ⟨b, o, rfl, hb, hc⟩ := h k hlt
    have h1 : (k : Int) < (L.length : Int) := by omega
    have hN := Lib.hid (show keptN L k = (min (max (L.getD k 0) 0) 128).toNat by simp only [keptN, if_pos hlt])
    have hx : ((min (max (L.getD k 0) 0) 128).toNat : Int) = min (max (L.getD k 0) 0) 128 := by omega
    have HX := Lib.hid hx
    clear hx hb h
    generalize L.getD k 0 = x at hc hN HX
    go_enter Try.func35, Try.ntmps35
    go_wp2_with fail
    go_ret
    exact ⟨by rw [hN.out, HX.out]; rfl, Below.refl _ _⟩
  · have h1 : ¬ (k : Int) < (L.length : Int) := by omega
    go_enter Try.func35, Try.ntmps35
    go_wp2_with fail
    go_ret
    exact ⟨by simp [keptN, hlt], Below.refl _ _⟩

set_option maxHeartbeats 4000000 in
theorem boot_any {w : World} {p bl bd : Nat} {S : DS} (h : PD w p bl bd S) {Ak : Option Addr} {ck : Nat} {L : List Int} (hL : IR w Ak L) (hLA : ∀ a, Ak = some a → L ≠ [] → a.block ∉ [p, bl, bd]) (hLl : L.length ≤ 100000) :
    Calls Try.prog 14 #[dp p, .slice Ak L.length ck] w fun e w' => e = .returned (.int .i64 S.bootE) ∧ PD w' p bl bd (S.boot L) ∧ Kp [p, bl, bd] w w' := by
  obtain ⟨c0, c1, c2, c3, c4, c5⟩ := h.cells
  have HH := Lib.hid h
  have HDL0 := Lib.hid (dL_length S.wet)
  have hlt := h.lt
  clear h
  go_enter Try.func14, Try.ntmps14
  cases hoff : S.off with
  | false =>
    rw [hoff] at c5
    go_wp2_with fail
    go_ret
    exact ⟨by simp [DS.bootE, hoff], by simp only [DS.boot, hoff]; exact HH.out, Kp.refl _ _⟩
  | true =>
    rw [hoff] at c5
    go_wp2_with (go_at_call 17; refine (dirty_any HH.out).mono ?_; rintro e w1 ⟨v, rfl, hrow, hb1⟩; obtain ⟨A, c, rfl, hir, hA⟩ := row_form hrow)
    have HIR := Lib.hid hir
    have HA := Lib.hid hA
    have HB1 := Lib.hid hb1
    have hsz := HB1.out.size
    have hmax : (dL S.wet).length ≤ 1024 := by
      rw [HDL0.out]
      exact dirtyL_le HH.out.ok
    have hdl := HDL0.out
    generalize hn : (dL S.wet).length = n at hmax hdl ⊢
    have HN := Lib.hid hn
    have HDL := Lib.hid hdl
    clear hir hA hb1 hrow hn hdl
    go_loopw [5, 6, 19] (fun x y kv wr => ∃ (k : Nat) (T : DS), kv = .int .i64 (k : Int) ∧ k ≤ n ∧ PD wr p bl bd T ∧ Rem S (keptN L) k T ∧ Kp [p, bl, bd] w wr ∧ IR wr A (dL S.wet)) (fun _ _ kv _ => n - (intOf kv).toNat)
    case atStart => exact ⟨0, S, rfl, by omega, HH.out.below HB1.out, Rem.start HH.out.ok _, Kp.of_below HB1.out _, HIR.out⟩
    case round =>
      obtain ⟨k, T, rfl, hkn, hP, hR, hK, hI⟩ := hrel
      have HP := Lib.hid hP
      have HR := Lib.hid hR
      have HK := Lib.hid hK
      have HI := Lib.hid hI
      by_cases hk : k < n
      · obtain ⟨b, o, hAe, hb, hc⟩ := hI k (by rw [HN.out]; exact hk)
        rw [getD_dL] at hc
        obtain ⟨q1, q2⟩ := hR.lt HH.out.ok (by rw [← HDL.out]; exact hk)
        have HST := Lib.hid (hR.step HH.out.ok (by rw [← HDL.out]; exact hk))
        have cset := Lib.hid (fun W (hW : PD W p bl bd T) => settle_any hW q1 q2 (m := keptN L k) (keptN_le L k))
        have hIk := hL.kp hK hLA
        have ckept := Lib.hid (kept_any (k := k) (c := ck) hIk (by omega) hLl)
        have HAB := Lib.hid (HA.out _ hAe)
        have hki : (k : Int) < (n : Int) := by omega
        have hwr : IntKind.i64.wrap ((k : Int) + 1) = (k : Int) + 1 := IntWalk.i64_in _ (by omega)
        have hfree : True := trivial
        generalize (dirtyL S.wet).getD k 0 = d at hc q1 q2 HST cset
        have HAE := Lib.hid hAe
        rw [hAe]
        clear hP hR hK hI hAe q1 q2 hb
        go_wp2_with (first
          | (go_at_call 35; refine ckept.out.mono ?_; rintro e w2 ⟨rfl, hb2⟩)
          | (go_at_call 34; refine (cset.out _ (HP.out.below hb2)).mono ?_; rintro e w3 ⟨rfl, hP3, hk3⟩))
        go_roundw
        case rel =>
          refine ⟨k + 1, _, by go_num, by omega, hP3, HST.out, HK.out.trans ((Kp.of_below hb2 _).trans hk3 (fun j hj _ => hj)) (fun j hj _ => hj), ?_⟩
          rw [← HAE.out]
          refine (HI.out.below hb2).kp hk3 (fun a ha _ => ?_)
          have := HA.out a ha
          obtain ⟨l1, l2, l3⟩ := hlt
          simp
          omega
        case measure => simp [intOf]; omega
      · have hk2 : ¬ (k : Int) < (n : Int) := by omega
        have HD := Lib.hid (hR.done (by rw [← HDL.out]; omega))
        obtain ⟨d0, d1, d2, d3, d4, d5⟩ := hP.cells
        have f4 := hP.free 4
        have f5 := hP.free 5
        clear hP hR hK hI
        go_wp2_with fail
        go_ret
        have hkf : Kp [p] wr ((wr.setCell ⟨p, 4, none⟩ (.int .i64 0)).setCell ⟨p, 5, none⟩ (.bool false)) := ((Kp.refl _ _).setCell (by simp) _).setCell (by simp) _
        refine ⟨by simp [DS.bootE, hoff], ?_, HK.out.trans hkf (fun j hj _ => by simp at hj; simp [hj])⟩
        have hb := HH.out.ok.boot L
        unfold DS.boot at hb ⊢
        rw [hoff] at hb ⊢
        simp only [if_true] at hb ⊢
        rw [← HD.out] at hb ⊢
        refine HP.out.turn hb rfl rfl rfl hkf ?_
        rw [blk_set (blk_set HP.out.blk 4 _) 5]
        simp [dCells]
end Go.Proofs.Ytechpecnanodfaa
