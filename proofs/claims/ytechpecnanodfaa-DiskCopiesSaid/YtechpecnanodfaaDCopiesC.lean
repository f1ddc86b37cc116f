/-
  DiskCopies' walk.
-/
import Derived.Test.YtechpecnanodfaaDFailsC
namespace Go.Proofs.Ytechpecnanodfaa
open Go Go.RowKit Go.Maps
set_option maxRecDepth 100000
set_option linter.unusedSimpArgs false
set_option linter.unusedVariables false

theorem dL_le9 {S : DS} (h : S.Ok) (h9 : S.was.length = 9) : (dL S.wet).length ≤ 100000 := by
  rw [dL_length]; have := dirtyL_le h; omega
def quadC (p a q b : Nat) : Array Value := #[dp p, dp a, dp q, dp b]

set_option maxHeartbeats 8000000 in
theorem diskCopies_walk {w : World} {A B C : Option Addr} {c d f : Nat} {l m o : List SD} (hl : StAt w A l) (hll : l.length ≤ 9223372036854775807) (hm : StAt w B m) (hml : m.length ≤ 9223372036854775807) (ho : StAt w C o) (hol : o.length ≤ 9223372036854775807) :
    Calls Try.prog 7 #[.slice A l.length c, .slice B m.length d, .slice C o.length f] w fun e w' => e = .returned (.bool true) ∧ Below w.heap.size w w' := by
  have H0 := Lib.hid (Obs.start w)
  have HL := Lib.hid hl
  have HM := Lib.hid hm
  have HO := Lib.hid ho
  have HLG1 := Lib.hid (fun W (h : Below w.heap.size w W) => long_any (c := c) (hl.below h) hll)
  have HLG2 := Lib.hid (fun W (h : Below w.heap.size w W) => long_any (c := d) (hm.below h) hml)
  have HLG3 := Lib.hid (fun W (h : Below w.heap.size w W) => long_any (c := f) (ho.below h) hol)
  generalize hln : l.length = ln at hll HLG1 ⊢
  generalize hmn : m.length = mn at hml HLG2 ⊢
  generalize hon : o.length = on at hol HLG3 ⊢
  have HLN := Lib.hid hln
  have HMN := Lib.hid hmn
  have HON := Lib.hid hon
  clear hl hm ho hln hmn hon
  go_enter Try.func7, Try.ntmps7
  go_wp2_with fail
  refine works_any.mono ?_
  rintro e w1 ⟨rfl, hb1⟩
  have HB1 := Lib.hid hb1
  clear hb1
  go_wp2_with fail
  refine (HLG1.out _ HB1.out).mono ?_
  rintro e w2 ⟨b1, rfl, hs1, hb2⟩
  have HB2 := Lib.hid (HB1.out.trans (hb2.mono HB1.out.size))
  clear hb2
  cases b1 with
  | true =>
    clear hs1
    go_wp2_with fail
    refine works_any.mono ?_
    rintro e w3 ⟨rfl, hb3⟩
    have HB3 := Lib.hid (HB2.out.trans (hb3.mono HB2.out.size))
    clear hb3
    go_wp2_with fail
    go_ret
    exact ⟨rfl, HB3.out⟩
  | false =>
    have HS1 := Lib.hid (hs1 rfl)
    clear hs1
    go_wp2_with fail
    refine (HLG2.out _ HB2.out).mono ?_
    rintro e w3 ⟨b2, rfl, hs2, hb3⟩
    have HB3 := Lib.hid (HB2.out.trans (hb3.mono HB2.out.size))
    clear hb3
    cases b2 with
    | true =>
      clear hs2
      go_wp2_with fail
      refine works_any.mono ?_
      rintro e w4 ⟨rfl, hb4⟩
      have HB4 := Lib.hid (HB3.out.trans (hb4.mono HB3.out.size))
      clear hb4
      go_wp2_with fail
      go_ret
      exact ⟨rfl, HB4.out⟩
    | false =>
      have HS2 := Lib.hid (hs2 rfl)
      clear hs2
      go_wp2_with fail
      refine (HLG3.out _ HB3.out).mono ?_
      rintro e w4 ⟨b3, rfl, hs3, hb4⟩
      have HB4 := Lib.hid (HB3.out.trans (hb4.mono HB3.out.size))
      clear hb4
      cases b3 with
      | true =>
        clear hs3
        go_wp2_with fail
        refine works_any.mono ?_
        rintro e w5 ⟨rfl, hb5⟩
        have HB5 := Lib.hid (HB4.out.trans (hb5.mono HB4.out.size))
        clear hb5
        go_wp2_with fail
        go_ret
        exact ⟨rfl, HB5.out⟩
      | false =>
        have HS3 := Lib.hid (hs3 rfl)
        clear hs3
        have hl300 : ln ≤ 300 := by rw [← HLN.out]; exact HS1.out.1
        have hm300 : mn ≤ 300 := by rw [← HMN.out]; exact HS2.out.1
        have ho300 : on ≤ 300 := by rw [← HON.out]; exact HS3.out.1
        clear HLG1 HLG2 HLG3 hll hml hol
        go_wp2_with (go_at_call 20; refine (new_o (n := 9) (H0.out.step HB4.out) (by omega) (by omega)).mono ?_; rintro e w5 ⟨p, pl, pd, rfl, h5⟩; have H5 := Lib.hid (show Obs w w5 [pdOb p pl pd (DS.new 9)] from h5); clear h5 H0)
        go_wp2_with (go_at_call 20; refine (new_o (n := 9) H5.out (by omega) (by omega)).mono ?_; rintro e w6 ⟨a, al, ad, rfl, h6⟩; have H6 := Lib.hid (show Obs w w6 [pdOb p pl pd (DS.new 9), pdOb a al ad (DS.new 9)] from h6); clear h6 H5)
        go_wp2_with (go_at_call 20; refine (new_o (n := 9) H6.out (by omega) (by omega)).mono ?_; rintro e w7 ⟨b, bl, bd, rfl, h7⟩; have H7 := Lib.hid (show Obs w w7 [pdOb p pl pd (DS.new 9), pdOb a al ad (DS.new 9), pdOb b bl bd (DS.new 9)] from h7); clear h7 H6)
        go_loopw [13] (fun kx wr => ∃ (k : Nat) (S : DS), kx = .int .i64 (k : Int) ∧ k ≤ ln ∧ Obs w wr [pdOb p pl pd S, pdOb a al ad S, pdOb b bl bd S] ∧ S.was.length = 9 ∧ S.ops ≤ k) (fun kx _ => ln - (RowKit.intOf kx).toNat)
        case atStart => exact ⟨0, _, rfl, by omega, H7.out, by simp [DS.new], Nat.le_refl _⟩
        case round =>
          obtain ⟨k, S, rfl, hkn, hOb, hlen, hops⟩ := hrel
          have H8 := Lib.hid hOb
          have HLE := Lib.hid hlen
          clear hOb hlen
          by_cases hk : k < ln
          · have hki : (k : Int) < (ln : Int) := by omega
            have hk0 : (0 : Int) ≤ (k : Int) := by omega
            have hwr : IntKind.i64.wrap ((k : Int) + 1) = (k : Int) + 1 := IntWalk.i64_in _ (by omega)
            obtain ⟨g, x, hAe, hc⟩ := cells_k HL.out (by rw [HLN.out]; exact hk) H8.out
            have CS1 := Lib.hid (step_k HL.out HS1.out (by rw [HLN.out]; exact hk) H8.out 0 rfl (by omega))
            have CS2 := Lib.hid (fun W T (h : Obs w W [pdOb p pl pd T, pdOb a al ad S, pdOb b bl bd S]) => step_k HL.out HS1.out (by rw [HLN.out]; exact hk) h 1 rfl (by omega))
            have CS3 := Lib.hid (fun W T (h : Obs w W [pdOb p pl pd T, pdOb a al ad T, pdOb b bl bd S]) => step_k HL.out HS1.out (by rw [HLN.out]; exact hk) h 2 rfl (by omega))
            have HCK := Lib.hid (fun W os (h : Obs w W os) => cells_k HL.out (k := k) (by rw [HLN.out]; exact hk) h)
            have HSL := Lib.hid (step_len S (l.getD k sd0))
            obtain ⟨d0, d1, d2, d3, d4⟩ := hc
            generalize l.getD k sd0 = s at d0 d1 d2 d3 d4 CS1 CS2 CS3 HCK HSL
            have HAE := Lib.hid hAe
            rw [hAe]
            rw [hAe] at HCK
            clear hAe
            unfold SD.val stepV at CS1 CS2 CS3
            have HCK2 : Hid (∀ W os, Obs w W os → StCells W g (x + k * 5) s) := fun W os h => by
              obtain ⟨b', o', e, hc⟩ := HCK.out W os h
              cases e
              exact hc
            go_wp2_with (go_at_call 30; refine CS1.out.mono ?_; rintro e w8 ⟨rfl, h8⟩; have H9 := Lib.hid (show Obs w w8 [pdOb p pl pd (S.step s), pdOb a al ad S, pdOb b bl bd S] from h8); clear h8 CS1 d0 d1 d2 d3 d4; obtain ⟨d0, d1, d2, d3, d4⟩ := HCK2.out _ _ H9.out)
            go_wp2_with (go_at_call 30; refine (CS2.out _ _ H9.out).mono ?_; rintro e w9 ⟨rfl, h8⟩; have H10 := Lib.hid (show Obs w w9 [pdOb p pl pd (S.step s), pdOb a al ad (S.step s), pdOb b bl bd S] from h8); clear h8 CS2 d0 d1 d2 d3 d4; obtain ⟨d0, d1, d2, d3, d4⟩ := HCK2.out _ _ H10.out)
            go_wp2_with (go_at_call 30; refine (CS3.out _ _ H10.out).mono ?_; rintro e w10 ⟨rfl, h8⟩; have H11 := Lib.hid (show Obs w w10 [pdOb p pl pd (S.step s), pdOb a al ad (S.step s), pdOb b bl bd (S.step s)] from h8); clear h8 CS3 d0 d1 d2 d3 d4)
            go_roundw
            case rel => exact ⟨k + 1, _, by go_num, by omega, H11.out, by rw [HSL.out.1]; exact HLE.out, by have := HSL.out.2; omega⟩
            case measure => simp [RowKit.intOf]; omega
          · have hki : ¬ (k : Int) < (ln : Int) := by omega
            go_wp2_with (go_at_call 19; refine (copy_o H8.out 0 rfl).mono ?_; rintro e w9 ⟨q, ql, qd, rfl, h9⟩; have H9 := Lib.hid (show Obs w w9 [pdOb p pl pd S, pdOb a al ad S, pdOb b bl bd S, pdOb q ql qd S] from h9); clear h9)
            clear hk hki
            go_loopw [15] (fun kx wr => ∃ (k : Nat) (X Y : DS), kx = .int .i64 (k : Int) ∧ k ≤ 300 ∧ Obs w wr [pdOb p pl pd X, pdOb a al ad X, pdOb b bl bd Y, pdOb q ql qd Y] ∧ X.was.length = 9 ∧ Y.was.length = 9 ∧ X.ops ≤ 300 + k ∧ Y.ops ≤ 300 + k) (fun kx _ => mn + on - (RowKit.intOf kx).toNat)
            case atStart => exact ⟨0, S, S, rfl, by omega, H9.out, HLE.out, HLE.out, by omega, by omega⟩
            case round =>
              clear hops hkn
              obtain ⟨k, X, Y, rfl, hkn, hOb, hlx, hly, hox, hoy⟩ := hrel
              have H10 := Lib.hid hOb
              have HLX := Lib.hid hlx
              have HLY := Lib.hid hly
              clear hOb hlx hly
              by_cases hk : k < mn
              · have hki : (k : Int) < (mn : Int) := by omega
                by_cases hk2 : k < on
                · have hki2 : (k : Int) < (on : Int) := by omega
                  obtain ⟨gs, xs, hAs, hcs⟩ := cells_k HM.out (k := k) (by rw [HMN.out]; assumption) H10.out
                  have HCs0 := Lib.hid (fun W os (h : Obs w W os) => cells_k HM.out (k := k) (by rw [HMN.out]; assumption) h)
                  have CTs := Lib.hid (fun W os (h : Obs w W os) i p' bl' bd' T (hi : os[i]? = some (pdOb p' bl' bd' T)) (hT : T.ops < 4611686018427387904) => step_k HM.out HS2.out (k := k) (by rw [HMN.out]; assumption) h i hi hT)
                  have HSLs := Lib.hid (fun T : DS => step_len T (m.getD k sd0))
                  clear hcs
                  generalize m.getD k sd0 = s at CTs HSLs HCs0
                  have HAEs := Lib.hid hAs
                  rw [hAs] at HCs0 ⊢
                  clear hAs
                  unfold SD.val stepV at CTs
                  have HCs : Hid (∀ W os, Obs w W os → StCells W gs (xs + k * 5) s) := fun W os h => by
                    obtain ⟨b', o', e, hc⟩ := HCs0.out W os h
                    cases e
                    exact hc
                  clear HCs0
                  obtain ⟨gu, xu, hAu, hcu⟩ := cells_k HO.out (k := k) (by rw [HON.out]; assumption) H10.out
                  have HCu0 := Lib.hid (fun W os (h : Obs w W os) => cells_k HO.out (k := k) (by rw [HON.out]; assumption) h)
                  have CTu := Lib.hid (fun W os (h : Obs w W os) i p' bl' bd' T (hi : os[i]? = some (pdOb p' bl' bd' T)) (hT : T.ops < 4611686018427387904) => step_k HO.out HS3.out (k := k) (by rw [HON.out]; assumption) h i hi hT)
                  have HSLu := Lib.hid (fun T : DS => step_len T (o.getD k sd0))
                  clear hcu
                  generalize o.getD k sd0 = u at CTu HSLu HCu0
                  have HAEu := Lib.hid hAu
                  rw [hAu] at HCu0 ⊢
                  clear hAu
                  unfold SD.val stepV at CTu
                  have HCu : Hid (∀ W os, Obs w W os → StCells W gu (xu + k * 5) u) := fun W os h => by
                    obtain ⟨b', o', e, hc⟩ := HCu0.out W os h
                    cases e
                    exact hc
                  clear HCu0
                  have hk0 : (0 : Int) ≤ (k : Int) := by omega
                  have hwr : IntKind.i64.wrap ((k : Int) + 1) = (k : Int) + 1 := IntWalk.i64_in _ (by omega)
                  obtain ⟨d0, d1, d2, d3, d4⟩ := HCs.out _ _ H10.out
                  go_wp2_with (go_at_call 30; refine (CTs.out _ _ H10.out 3 q ql qd Y rfl (by omega)).mono ?_; rintro e w11 ⟨rfl, h9⟩; have H11 := Lib.hid (show Obs w w11 [pdOb p pl pd X, pdOb a al ad X, pdOb b bl bd Y, pdOb q ql qd (Y.step s)] from h9); clear h9 d0 d1 d2 d3 d4 H10; obtain ⟨d0, d1, d2, d3, d4⟩ := HCs.out _ _ H11.out)
                  go_wp2_with (go_at_call 30; refine (CTs.out _ _ H11.out 2 b bl bd Y rfl (by omega)).mono ?_; rintro e w12 ⟨rfl, h9⟩; have H12 := Lib.hid (show Obs w w12 [pdOb p pl pd X, pdOb a al ad X, pdOb b bl bd (Y.step s), pdOb q ql qd (Y.step s)] from h9); clear h9 d0 d1 d2 d3 d4 H11; obtain ⟨d0, d1, d2, d3, d4⟩ := HCu.out _ _ H12.out)
                  go_wp2_with (go_at_call 30; refine (CTu.out _ _ H12.out 0 p pl pd X rfl (by omega)).mono ?_; rintro e w13 ⟨rfl, h9⟩; have H13 := Lib.hid (show Obs w w13 [pdOb p pl pd (X.step u), pdOb a al ad X, pdOb b bl bd (Y.step s), pdOb q ql qd (Y.step s)] from h9); clear h9 d0 d1 d2 d3 d4 H12; obtain ⟨d0, d1, d2, d3, d4⟩ := HCu.out _ _ H13.out)
                  go_wp2_with (go_at_call 30; refine (CTu.out _ _ H13.out 1 a al ad X rfl (by omega)).mono ?_; rintro e w14 ⟨rfl, h9⟩; have H14 := Lib.hid (show Obs w w14 [pdOb p pl pd (X.step u), pdOb a al ad (X.step u), pdOb b bl bd (Y.step s), pdOb q ql qd (Y.step s)] from h9); clear h9 d0 d1 d2 d3 d4 H13)
                  go_roundw
                  case rel => exact ⟨k + 1, (X.step u), (Y.step s), by go_num, by omega, H14.out, by rw [(HSLu.out X).1]; exact HLX.out, by rw [(HSLs.out Y).1]; exact HLY.out, by have := (HSLu.out X).2; omega, by have := (HSLs.out Y).2; omega⟩
                  case measure => simp [RowKit.intOf]; omega
                · have hki2 : ¬ (k : Int) < (on : Int) := by omega
                  obtain ⟨gs, xs, hAs, hcs⟩ := cells_k HM.out (k := k) (by rw [HMN.out]; assumption) H10.out
                  have HCs0 := Lib.hid (fun W os (h : Obs w W os) => cells_k HM.out (k := k) (by rw [HMN.out]; assumption) h)
                  have CTs := Lib.hid (fun W os (h : Obs w W os) i p' bl' bd' T (hi : os[i]? = some (pdOb p' bl' bd' T)) (hT : T.ops < 4611686018427387904) => step_k HM.out HS2.out (k := k) (by rw [HMN.out]; assumption) h i hi hT)
                  have HSLs := Lib.hid (fun T : DS => step_len T (m.getD k sd0))
                  clear hcs
                  generalize m.getD k sd0 = s at CTs HSLs HCs0
                  have HAEs := Lib.hid hAs
                  rw [hAs] at HCs0 ⊢
                  clear hAs
                  unfold SD.val stepV at CTs
                  have HCs : Hid (∀ W os, Obs w W os → StCells W gs (xs + k * 5) s) := fun W os h => by
                    obtain ⟨b', o', e, hc⟩ := HCs0.out W os h
                    cases e
                    exact hc
                  clear HCs0
                  have hk0 : (0 : Int) ≤ (k : Int) := by omega
                  have hwr : IntKind.i64.wrap ((k : Int) + 1) = (k : Int) + 1 := IntWalk.i64_in _ (by omega)
                  obtain ⟨d0, d1, d2, d3, d4⟩ := HCs.out _ _ H10.out
                  go_wp2_with (go_at_call 30; refine (CTs.out _ _ H10.out 3 q ql qd Y rfl (by omega)).mono ?_; rintro e w11 ⟨rfl, h9⟩; have H11 := Lib.hid (show Obs w w11 [pdOb p pl pd X, pdOb a al ad X, pdOb b bl bd Y, pdOb q ql qd (Y.step s)] from h9); clear h9 d0 d1 d2 d3 d4 H10; obtain ⟨d0, d1, d2, d3, d4⟩ := HCs.out _ _ H11.out)
                  go_wp2_with (go_at_call 30; refine (CTs.out _ _ H11.out 2 b bl bd Y rfl (by omega)).mono ?_; rintro e w12 ⟨rfl, h9⟩; have H12 := Lib.hid (show Obs w w12 [pdOb p pl pd X, pdOb a al ad X, pdOb b bl bd (Y.step s), pdOb q ql qd (Y.step s)] from h9); clear h9 d0 d1 d2 d3 d4 H11)
                  go_wp2_with fail
                  go_roundw
                  case rel => exact ⟨k + 1, X, (Y.step s), by go_num, by omega, H12.out, HLX.out, by rw [(HSLs.out Y).1]; exact HLY.out, by omega, by have := (HSLs.out Y).2; omega⟩
                  case measure => simp [RowKit.intOf]; omega
              · have hki : ¬ (k : Int) < (mn : Int) := by omega
                by_cases hk2 : k < on
                · have hki2 : (k : Int) < (on : Int) := by omega
                  obtain ⟨gu, xu, hAu, hcu⟩ := cells_k HO.out (k := k) (by rw [HON.out]; assumption) H10.out
                  have HCu0 := Lib.hid (fun W os (h : Obs w W os) => cells_k HO.out (k := k) (by rw [HON.out]; assumption) h)
                  have CTu := Lib.hid (fun W os (h : Obs w W os) i p' bl' bd' T (hi : os[i]? = some (pdOb p' bl' bd' T)) (hT : T.ops < 4611686018427387904) => step_k HO.out HS3.out (k := k) (by rw [HON.out]; assumption) h i hi hT)
                  have HSLu := Lib.hid (fun T : DS => step_len T (o.getD k sd0))
                  clear hcu
                  generalize o.getD k sd0 = u at CTu HSLu HCu0
                  have HAEu := Lib.hid hAu
                  rw [hAu] at HCu0 ⊢
                  clear hAu
                  unfold SD.val stepV at CTu
                  have HCu : Hid (∀ W os, Obs w W os → StCells W gu (xu + k * 5) u) := fun W os h => by
                    obtain ⟨b', o', e, hc⟩ := HCu0.out W os h
                    cases e
                    exact hc
                  clear HCu0
                  have hk0 : (0 : Int) ≤ (k : Int) := by omega
                  have hwr : IntKind.i64.wrap ((k : Int) + 1) = (k : Int) + 1 := IntWalk.i64_in _ (by omega)
                  obtain ⟨d0, d1, d2, d3, d4⟩ := HCu.out _ _ H10.out
                  go_wp2_with (go_at_call 30; refine (CTu.out _ _ H10.out 0 p pl pd X rfl (by omega)).mono ?_; rintro e w11 ⟨rfl, h9⟩; have H11 := Lib.hid (show Obs w w11 [pdOb p pl pd (X.step u), pdOb a al ad X, pdOb b bl bd Y, pdOb q ql qd Y] from h9); clear h9 d0 d1 d2 d3 d4 H10; obtain ⟨d0, d1, d2, d3, d4⟩ := HCu.out _ _ H11.out)
                  go_wp2_with (go_at_call 30; refine (CTu.out _ _ H11.out 1 a al ad X rfl (by omega)).mono ?_; rintro e w12 ⟨rfl, h9⟩; have H12 := Lib.hid (show Obs w w12 [pdOb p pl pd (X.step u), pdOb a al ad (X.step u), pdOb b bl bd Y, pdOb q ql qd Y] from h9); clear h9 d0 d1 d2 d3 d4 H11)
                  go_wp2_with fail
                  go_roundw
                  case rel => exact ⟨k + 1, (X.step u), Y, by go_num, by omega, H12.out, by rw [(HSLu.out X).1]; exact HLX.out, HLY.out, by have := (HSLu.out X).2; omega, by omega⟩
                  case measure => simp [RowKit.intOf]; omega
                · have hki2 : ¬ (k : Int) < (on : Int) := by omega
                  clear hk hk2 hkn
                  have HDX := Lib.hid (dL_le9 (H10.out.get (i := 0) rfl : PD wr p pl pd X).ok HLX.out)
                  have HDY := Lib.hid (dL_le9 (H10.out.get (i := 3) rfl : PD wr q ql qd Y).ok HLY.out)
                  obtain ⟨OS, HOS⟩ : ∃ OS, OS = [pdOb p pl pd X, pdOb a al ad X, pdOb b bl bd Y, pdOb q ql qd Y] := ⟨_, rfl⟩
                  have H20 := Lib.hid (show Obs w wr OS by rw [HOS]; exact H10.out)
                  have HPAIR : Hid (∀ k : Nat, k < 2 → ∃ (u v ul ud vl vd : Nat) (Z : DS) (i j : Nat), (quadC p a q b)[2 * k]? = some (dp u) ∧ (quadC p a q b)[2 * k + 1]? = some (dp v) ∧ OS[i]? = some (pdOb u ul ud Z) ∧ OS[j]? = some (pdOb v vl vd Z) ∧ Z.was.length = 9 ∧ (dL Z.wet).length ≤ 100000) := by
                    intro k hk
                    match k, hk with
                    | 0, _ => exact ⟨p, a, pl, pd, al, ad, X, 0, 1, rfl, rfl, by rw [HOS]; rfl, by rw [HOS]; rfl, HLX.out, HDX.out⟩
                    | 1, _ => exact ⟨q, b, ql, qd, bl, bd, Y, 3, 2, rfl, rfl, by rw [HOS]; rfl, by rw [HOS]; rfl, HLY.out, HDY.out⟩
                  have hqb := heap_alloc_new wr (.cells (quadC p a q b) 58)
                  have HQB := Lib.hid hqb
                  have H21 := Lib.hid (H20.out.alloc (.cells (quadC p a q b) 58))
                  clear hqb HOS H10 H20 HDX HDY HLX HLY hox hoy
                  go_wp2_with fail
                  obtain ⟨gq, hgq⟩ : ∃ gq, gq = wr.heap.size := ⟨_, rfl⟩
                  rw [← hgq] at HQB ⊢
                  clear hgq
                  go_loopw [128] (fun kx W => ∃ k : Nat, kx = .int .i64 (k : Int) ∧ k ≤ 2 ∧ Obs w W OS ∧ W.heap[gq]? = some (.cells (quadC p a q b) 58 (0, 0))) (fun kx _ => 2 - (RowKit.intOf kx).toNat)
                  case atStart => exact ⟨0, rfl, by omega, H21.out, HQB.out⟩
                  case round =>
                    obtain ⟨k, rfl, hk2, hOb, hqb⟩ := hrel
                    have H22 := Lib.hid hOb
                    have HQ := Lib.hid hqb
                    by_cases hk : k < 2
                    · obtain ⟨u, v, ul, ud, vl, vd, Z, i, j, hu, hv, hi, hj, hz9, hdl⟩ := HPAIR.out k hk
                      have hki : (k : Int) < 2 := by omega
                      have hk0 : (0 : Int) ≤ (k : Int) := by omega
                      have hwr : IntKind.i64.wrap ((k : Int) + 1) = (k : Int) + 1 := IntWalk.i64_in _ (by omega)
                      have q0 : wr.cell? ⟨gq, k * 2, none⟩ = some (dp u) := by rw [cellAt hqb, Nat.mul_comm]; exact hu
                      have q1 : wr.cell? ⟨gq, k * 2 + 1, none⟩ = some (dp v) := by rw [cellAt hqb, Nat.mul_comm k 2]; exact hv
                      have HI := Lib.hid hi
                      have HJ := Lib.hid hj
                      have HZ9 := Lib.hid hz9
                      have HDL := Lib.hid hdl
                      clear hi hj hz9 hdl hu hv hOb hqb
                      go_upto_region 25 with fail
                      have hxb := heap_alloc_new wr (.cells #[dp u, dp v] 58)
                      have X0 := Lib.hid ((H22.out.alloc (.cells #[dp u, dp v] 58)).drew)
                      have HQ0 := Lib.hid (show (wr.alloc (.cells #[dp u, dp v] 58)).heap[gq]? = _ from (Lib.alloc_old wr _ gq (lt_of_blk HQ.out)).trans HQ.out)
                      obtain ⟨gx, hgx⟩ : ∃ gx, gx = wr.heap.size := ⟨_, rfl⟩
                      rw [← hgx] at hxb ⊢
                      generalize wr.alloc (.cells #[dp u, dp v] 58) = wz at hxb X0 HQ0 ⊢
                      have HGX := Lib.hid (show wz.drew.heap[gx]? = some (.cells #[dp u, dp v] 58 (0, 0)) from hxb)
                      have hgqx := lt_of_blk HQ0.out
                      clear hxb hgx q0 q1
                      refine wp_region_held_drew (S := fun W => W.heap[gx]? = some (.cells #[dp u, dp v] 58 (0, 0)) ∧ W.heap[gq]? = some (.cells (quadC p a q b) 58 (0, 0))) (by kernel_rfl) ⟨HGX.out, HQ0.out⟩ (fun hHeld => ?_)
                      refine wpAnyH_take (i := 0) (v := ?vv0_1) rfl (by kernel_rfl) (by kernel_rfl) (by kernel_rfl) (fun _ _ _ h => h) (Or.inl ⟨by rfl, ?hy0_1⟩) (by assumption) ?rest0_1
                      case hy0_1 => (intro w' hSw; (try dsimp only at hSw); go_simp; try with_reducible rfl)
                      try simp only [List.getElem_toArray, List.getElem_cons_zero, List.getElem_cons_succ, Act.put, List.setIfInBounds_toArray, List.set_cons_zero, List.set_cons_succ]
                      refine wpAnyH_take (i := 1) (v := dp u) rfl (by kernel_rfl) (by kernel_rfl) (by kernel_rfl) (fun _ _ _ h => h) (Or.inl ⟨by rfl, fun w' hSw => exec_load1 w' rfl rfl (cellAt hSw.1 0) Try.underlying22 rfl⟩) (by assumption) ?_
                      try simp only [List.getElem_toArray, List.getElem_cons_zero, List.getElem_cons_succ, Act.put, List.setIfInBounds_toArray, List.set_cons_zero, List.set_cons_succ]
                      refine wpAnyH_take (i := 3) (v := ?vv3_1) rfl (by kernel_rfl) (by kernel_rfl) (by kernel_rfl) (fun _ _ _ h => h) (Or.inl ⟨by rfl, ?hy3_1⟩) (by assumption) ?rest3_1
                      case hy3_1 => (intro w' hSw; (try dsimp only at hSw); go_simp; try with_reducible rfl)
                      try simp only [List.getElem_toArray, List.getElem_cons_zero, List.getElem_cons_succ, Act.put, List.setIfInBounds_toArray, List.set_cons_zero, List.set_cons_succ]
                      refine wpAnyH_take (i := 4) (v := dp v) rfl (by kernel_rfl) (by kernel_rfl) (by kernel_rfl) (fun _ _ _ h => h) (Or.inl ⟨by rfl, fun w' hSw => exec_load1 w' rfl rfl (cellAt hSw.1 1) Try.underlying22 rfl⟩) (by assumption) ?_
                      try simp only [List.getElem_toArray, List.getElem_cons_zero, List.getElem_cons_succ, Act.put, List.setIfInBounds_toArray, List.set_cons_zero, List.set_cons_succ]
                      refine wpAnyH_ready (rs := [2]) (by kernel_rfl) (by simp) ?_
                      refine AllReadyH.cons rfl (fun K hK => ?_) AllReadyH.nil
                      go_simp
                      refine (on_any (X0.out.get HI.out)).mono ?_
                      rintro e x1 ⟨rfl, hb1⟩
                      (try go_wp2_with fail)
                      refine hK.out _ _ ⟨(hb1.block gx (lt_of_blk hHeld.1)).trans hHeld.1, (hb1.block gq (lt_of_blk hHeld.2)).trans hHeld.2⟩ (fun hHeld => ?_)
                      clear hK K
                      try simp only [List.getElem_toArray, List.getElem_cons_zero, List.getElem_cons_succ, Act.put, List.setIfInBounds_toArray, List.set_cons_zero, List.set_cons_succ]
                      have X1 := Lib.hid (X0.out.step hb1)
                      clear hb1
                      refine wpAnyH_ready (rs := [5]) (by kernel_rfl) (by simp) ?_
                      refine AllReadyH.cons rfl (fun K hK => ?_) AllReadyH.nil
                      go_simp
                      refine (on_any (X1.out.get HJ.out)).mono ?_
                      rintro e x2 ⟨rfl, hb2⟩
                      (try go_wp2_with fail)
                      refine hK.out _ _ ⟨(hb2.block gx (lt_of_blk hHeld.1)).trans hHeld.1, (hb2.block gq (lt_of_blk hHeld.2)).trans hHeld.2⟩ (fun hHeld => ?_)
                      clear hK K
                      try simp only [List.getElem_toArray, List.getElem_cons_zero, List.getElem_cons_succ, Act.put, List.setIfInBounds_toArray, List.set_cons_zero, List.set_cons_succ]
                      have X2 := Lib.hid (X1.out.step hb2)
                      clear hb2
                      refine wpAnyH_take (i := 6) (v := ?vv6_1) rfl (by kernel_rfl) (by kernel_rfl) (by kernel_rfl) (fun _ _ _ h => h) (Or.inl ⟨by rfl, ?hy6_1⟩) (by assumption) ?rest6_1
                      case hy6_1 => (intro w' hSw; (try dsimp only at hSw); go_simp; try with_reducible rfl)
                      try simp only [List.getElem_toArray, List.getElem_cons_zero, List.getElem_cons_succ, Act.put, List.setIfInBounds_toArray, List.set_cons_zero, List.set_cons_succ]
                      refine wpAnyH_take (i := 7) (v := ?vv7_1) rfl (by kernel_rfl) (by kernel_rfl) (by kernel_rfl) (fun _ _ _ h => h) (Or.inl ⟨by rfl, ?hy7_1⟩) (by assumption) ?rest7_1
                      case hy7_1 => (intro w' hSw; (try dsimp only at hSw); go_simp; try with_reducible rfl)
                      try simp only [List.getElem_toArray, List.getElem_cons_zero, List.getElem_cons_succ, Act.put, List.setIfInBounds_toArray, List.set_cons_zero, List.set_cons_succ]
                      refine wpAnyH_take (i := 8) (v := ?vv8_1) rfl (by kernel_rfl) (by kernel_rfl) (by kernel_rfl) (fun _ _ _ h => h) (Or.inl ⟨by rfl, ?hy8_1⟩) (by assumption) ?rest8_1
                      case hy8_1 => (intro w' hSw; (try dsimp only at hSw); go_simp; try with_reducible rfl)
                      try simp only [List.getElem_toArray, List.getElem_cons_zero, List.getElem_cons_succ, Act.put, List.setIfInBounds_toArray, List.set_cons_zero, List.set_cons_succ]
                      refine wpAnyH_take (i := 9) (v := dp u) rfl (by kernel_rfl) (by kernel_rfl) (by kernel_rfl) (fun _ _ _ h => h) (Or.inl ⟨by rfl, fun w' hSw => exec_load1 w' rfl rfl (cellAt hSw.1 0) Try.underlying22 rfl⟩) (by assumption) ?_
                      try simp only [List.getElem_toArray, List.getElem_cons_zero, List.getElem_cons_succ, Act.put, List.setIfInBounds_toArray, List.set_cons_zero, List.set_cons_succ]
                      refine wpAnyH_take (i := 11) (v := ?vv11_1) rfl (by kernel_rfl) (by kernel_rfl) (by kernel_rfl) (fun _ _ _ h => h) (Or.inl ⟨by rfl, ?hy11_1⟩) (by assumption) ?rest11_1
                      case hy11_1 => (intro w' hSw; (try dsimp only at hSw); go_simp; try with_reducible rfl)
                      try simp only [List.getElem_toArray, List.getElem_cons_zero, List.getElem_cons_succ, Act.put, List.setIfInBounds_toArray, List.set_cons_zero, List.set_cons_succ]
                      refine wpAnyH_take (i := 12) (v := dp v) rfl (by kernel_rfl) (by kernel_rfl) (by kernel_rfl) (fun _ _ _ h => h) (Or.inl ⟨by rfl, fun w' hSw => exec_load1 w' rfl rfl (cellAt hSw.1 1) Try.underlying22 rfl⟩) (by assumption) ?_
                      try simp only [List.getElem_toArray, List.getElem_cons_zero, List.getElem_cons_succ, Act.put, List.setIfInBounds_toArray, List.set_cons_zero, List.set_cons_succ]
                      refine wpAnyH_ready (rs := [10]) (by kernel_rfl) (by simp) ?_
                      refine AllReadyH.cons rfl (fun K hK => ?_) AllReadyH.nil
                      go_simp
                      refine (ops_any (X2.out.get HI.out)).mono ?_
                      rintro e x3 ⟨rfl, hb3⟩
                      (try go_wp2_with fail)
                      refine hK.out _ _ ⟨(hb3.block gx (lt_of_blk hHeld.1)).trans hHeld.1, (hb3.block gq (lt_of_blk hHeld.2)).trans hHeld.2⟩ (fun hHeld => ?_)
                      clear hK K
                      try simp only [List.getElem_toArray, List.getElem_cons_zero, List.getElem_cons_succ, Act.put, List.setIfInBounds_toArray, List.set_cons_zero, List.set_cons_succ]
                      have X3 := Lib.hid (X2.out.step hb3)
                      clear hb3
                      refine wpAnyH_ready (rs := [13]) (by kernel_rfl) (by simp) ?_
                      refine AllReadyH.cons rfl (fun K hK => ?_) AllReadyH.nil
                      go_simp
                      refine (ops_any (X3.out.get HJ.out)).mono ?_
                      rintro e x4 ⟨rfl, hb4⟩
                      (try go_wp2_with fail)
                      refine hK.out _ _ ⟨(hb4.block gx (lt_of_blk hHeld.1)).trans hHeld.1, (hb4.block gq (lt_of_blk hHeld.2)).trans hHeld.2⟩ (fun hHeld => ?_)
                      clear hK K
                      try simp only [List.getElem_toArray, List.getElem_cons_zero, List.getElem_cons_succ, Act.put, List.setIfInBounds_toArray, List.set_cons_zero, List.set_cons_succ]
                      have X4 := Lib.hid (X3.out.step hb4)
                      clear hb4
                      refine wpAnyH_take (i := 14) (v := ?vv14_1) rfl (by kernel_rfl) (by kernel_rfl) (by kernel_rfl) (fun _ _ _ h => h) (Or.inl ⟨by rfl, ?hy14_1⟩) (by assumption) ?rest14_1
                      case hy14_1 => (intro w' hSw; (try dsimp only at hSw); go_simp; try with_reducible rfl)
                      try simp only [List.getElem_toArray, List.getElem_cons_zero, List.getElem_cons_succ, Act.put, List.setIfInBounds_toArray, List.set_cons_zero, List.set_cons_succ]
                      refine wpAnyH_take (i := 15) (v := ?vv15_1) rfl (by kernel_rfl) (by kernel_rfl) (by kernel_rfl) (fun _ _ _ h => h) (Or.inl ⟨by rfl, ?hy15_1⟩) (by assumption) ?rest15_1
                      case hy15_1 => (intro w' hSw; (try dsimp only at hSw); go_simp; try with_reducible rfl)
                      try simp only [List.getElem_toArray, List.getElem_cons_zero, List.getElem_cons_succ, Act.put, List.setIfInBounds_toArray, List.set_cons_zero, List.set_cons_succ]
                      refine wpAnyH_take (i := 16) (v := ?vv16_1) rfl (by kernel_rfl) (by kernel_rfl) (by kernel_rfl) (fun _ _ _ h => h) (Or.inl ⟨by rfl, ?hy16_1⟩) (by assumption) ?rest16_1
                      case hy16_1 => (intro w' hSw; (try dsimp only at hSw); go_simp; try with_reducible rfl)
                      try simp only [List.getElem_toArray, List.getElem_cons_zero, List.getElem_cons_succ, Act.put, List.setIfInBounds_toArray, List.set_cons_zero, List.set_cons_succ]
                      refine wpAnyH_take (i := 17) (v := ?vv17_1) rfl (by kernel_rfl) (by kernel_rfl) (by kernel_rfl) (fun _ _ _ h => h) (Or.inl ⟨by rfl, ?hy17_1⟩) (by assumption) ?rest17_1
                      case hy17_1 => (intro w' hSw; (try dsimp only at hSw); go_simp; try with_reducible rfl)
                      try simp only [List.getElem_toArray, List.getElem_cons_zero, List.getElem_cons_succ, Act.put, List.setIfInBounds_toArray, List.set_cons_zero, List.set_cons_succ]
                      refine wpAnyH_take (i := 18) (v := dp u) rfl (by kernel_rfl) (by kernel_rfl) (by kernel_rfl) (fun _ _ _ h => h) (Or.inl ⟨by rfl, fun w' hSw => exec_load1 w' rfl rfl (cellAt hSw.1 0) Try.underlying22 rfl⟩) (by assumption) ?_
                      try simp only [List.getElem_toArray, List.getElem_cons_zero, List.getElem_cons_succ, Act.put, List.setIfInBounds_toArray, List.set_cons_zero, List.set_cons_succ]
                      refine wpAnyH_take (i := 20) (v := ?vv20_1) rfl (by kernel_rfl) (by kernel_rfl) (by kernel_rfl) (fun _ _ _ h => h) (Or.inl ⟨by rfl, ?hy20_1⟩) (by assumption) ?rest20_1
                      case hy20_1 => (intro w' hSw; (try dsimp only at hSw); go_simp; try with_reducible rfl)
                      try simp only [List.getElem_toArray, List.getElem_cons_zero, List.getElem_cons_succ, Act.put, List.setIfInBounds_toArray, List.set_cons_zero, List.set_cons_succ]
                      refine wpAnyH_take (i := 21) (v := dp v) rfl (by kernel_rfl) (by kernel_rfl) (by kernel_rfl) (fun _ _ _ h => h) (Or.inl ⟨by rfl, fun w' hSw => exec_load1 w' rfl rfl (cellAt hSw.1 1) Try.underlying22 rfl⟩) (by assumption) ?_
                      try simp only [List.getElem_toArray, List.getElem_cons_zero, List.getElem_cons_succ, Act.put, List.setIfInBounds_toArray, List.set_cons_zero, List.set_cons_succ]
                      refine wpAnyH_ready (rs := [19]) (by kernel_rfl) (by simp) ?_
                      refine AllReadyH.cons rfl (fun K hK => ?_) AllReadyH.nil
                      go_simp
                      refine (dirty_o X4.out i HI.out).mono ?_
                      rintro e x5 ⟨A5, c5, rfl, hI5, _, hb5⟩
                      (try go_wp2_with fail)
                      refine hK.out _ _ ⟨(hb5.block gx (lt_of_blk hHeld.1)).trans hHeld.1, (hb5.block gq (lt_of_blk hHeld.2)).trans hHeld.2⟩ (fun hHeld => ?_)
                      clear hK K
                      try simp only [List.getElem_toArray, List.getElem_cons_zero, List.getElem_cons_succ, Act.put, List.setIfInBounds_toArray, List.set_cons_zero, List.set_cons_succ]
                      have X5 := Lib.hid (X4.out.step hb5)
                      have I5 := Lib.hid hI5
                      clear hb5 hI5
                      refine wpAnyH_ready (rs := [22]) (by kernel_rfl) (by simp) ?_
                      refine AllReadyH.cons rfl (fun K hK => ?_) AllReadyH.nil
                      go_simp
                      refine (dirty_o X5.out j HJ.out).mono ?_
                      rintro e x6 ⟨A6, c6, rfl, hI6, _, hb6⟩
                      (try go_wp2_with fail)
                      refine hK.out _ _ ⟨(hb6.block gx (lt_of_blk hHeld.1)).trans hHeld.1, (hb6.block gq (lt_of_blk hHeld.2)).trans hHeld.2⟩ (fun hHeld => ?_)
                      clear hK K
                      try simp only [List.getElem_toArray, List.getElem_cons_zero, List.getElem_cons_succ, Act.put, List.setIfInBounds_toArray, List.set_cons_zero, List.set_cons_succ]
                      have X6 := Lib.hid (X5.out.step hb6)
                      have I6 := Lib.hid hI6
                      have I5' := Lib.hid (I5.out.below hb6)
                      clear hb6 hI6
                      refine wpAnyH_ready (rs := [23]) (by kernel_rfl) (by simp) ?_
                      refine AllReadyH.cons rfl (fun K hK => ?_) AllReadyH.nil
                      go_simp
                      refine (ints_any I5'.out I6.out HDL.out (by have := HDL.out; omega)).mono ?_
                      rintro e x7 ⟨rfl, hb7⟩
                      (try go_wp2_with fail)
                      refine hK.out _ _ ⟨(hb7.block gx (lt_of_blk hHeld.1)).trans hHeld.1, (hb7.block gq (lt_of_blk hHeld.2)).trans hHeld.2⟩ (fun hHeld => ?_)
                      clear hK K
                      try simp only [List.getElem_toArray, List.getElem_cons_zero, List.getElem_cons_succ, Act.put, List.setIfInBounds_toArray, List.set_cons_zero, List.set_cons_succ]
                      have X7 := Lib.hid (X6.out.step hb7)
                      clear hb7
                      refine wpAnyH_take (i := 24) (v := ?vv24_1) rfl (by kernel_rfl) (by kernel_rfl) (by kernel_rfl) (fun _ _ _ h => h) (Or.inl ⟨by rfl, ?hy24_1⟩) (by assumption) ?rest24_1
                      case hy24_1 => (intro w' hSw; (try dsimp only at hSw); go_simp; try with_reducible rfl)
                      try simp only [List.getElem_toArray, List.getElem_cons_zero, List.getElem_cons_succ, Act.put, List.setIfInBounds_toArray, List.set_cons_zero, List.set_cons_succ]
                      refine wpAnyH_take (i := 25) (v := ?vv25_1) rfl (by kernel_rfl) (by kernel_rfl) (by kernel_rfl) (fun _ _ _ h => h) (Or.inl ⟨by rfl, ?hy25_1⟩) (by assumption) ?rest25_1
                      case hy25_1 => (intro w' hSw; (try dsimp only at hSw); go_simp; try with_reducible rfl)
                      try simp only [List.getElem_toArray, List.getElem_cons_zero, List.getElem_cons_succ, Act.put, List.setIfInBounds_toArray, List.set_cons_zero, List.set_cons_succ]
                      have HKQ := Lib.hid hHeld
                      refine wpAnyH_done (by kernel_rfl) ?_ _
                      go_wp2_with fail
                      go_loopw [18] (fun kx W => ∃ n : Nat, kx = .int .i64 (n : Int) ∧ n ≤ 9 ∧ Obs w W OS ∧ W.heap[gx]? = some (.cells #[dp u, dp v] 58 (0, 0)) ∧ W.heap[gq]? = some (.cells (quadC p a q b) 58 (0, 0))) (fun kx _ => 9 - (RowKit.intOf kx).toNat)
                      case atStart => exact ⟨0, rfl, by omega, X7.out, HKQ.out.1, HKQ.out.2⟩
                      case round =>
                        obtain ⟨n, rfl, hn9, hOb, hxb, hqb⟩ := hrel
                        have Y0 := Lib.hid hOb
                        have HXB := Lib.hid hxb
                        have HQB := Lib.hid hqb
                        by_cases hn : n < 9
                        · have hni : (n : Int) < 9 := by omega
                          have hn0 : (0 : Int) ≤ (n : Int) := by omega
                          have hnw : IntKind.i64.wrap ((n : Int) + 1) = (n : Int) + 1 := IntWalk.i64_in _ (by omega)
                          have x0 : wr.cell? ⟨gx, 0, none⟩ = some (dp u) := cellAt hxb 0
                          have CR1 := Lib.hid (read_any (Y0.out.get HI.out) (n : Int))
                          have CR2 := Lib.hid (fun W (h : Obs w W OS) => read_any (h.get HJ.out) (n : Int))
                          generalize Z.rdV (n : Int) = rv at CR1 CR2
                          generalize Z.rdE (n : Int) = re at CR1 CR2
                          have hrv : (rv != rv) = false := by simp
                          have hre : (re != re) = false := by simp
                          have hgx1 := lt_of_blk hxb
                          clear hOb hxb hqb
                          go_wp2_with (go_at_call 9; refine CR1.out.mono ?_; rintro e y1 ⟨rfl, hb1⟩; have Y1 := Lib.hid (Y0.out.step hb1); have HXB1 := Lib.hid ((hb1.block gx (lt_of_blk HXB.out)).trans HXB.out); have HQB1 := Lib.hid ((hb1.block gq (lt_of_blk HQB.out)).trans HQB.out); clear hb1 CR1; have x1 : y1.cell? ⟨gx, 1, none⟩ = some (dp v) := cellAt HXB1.out 1)
                          go_wp2_with (go_at_call 9; refine (CR2.out _ Y1.out).mono ?_; rintro e y2 ⟨rfl, hb2⟩; have Y2 := Lib.hid (Y1.out.step hb2); have HXB2 := Lib.hid ((hb2.block gx (lt_of_blk HXB1.out)).trans HXB1.out); have HQB2 := Lib.hid ((hb2.block gq (lt_of_blk HQB1.out)).trans HQB1.out); clear hb2 CR2)
                          go_roundw
                          case rel => exact ⟨n + 1, by go_num, by omega, Y2.out, HXB2.out, HQB2.out⟩
                          case measure => simp [RowKit.intOf]; omega
                        · have hni : ¬ (n : Int) < 9 := by omega
                          clear hOb hxb hqb
                          go_wp2_with fail
                          go_roundw
                          case rel => exact ⟨k + 1, by go_num, by omega, Y0.out, HQB.out⟩
                          case measure => simp [RowKit.intOf]; omega
                    · have hki : ¬ (k : Int) < 2 := by omega
                      clear hOb hqb
                      go_wp2_with fail
                      go_ret
                      exact ⟨rfl, H22.out.bel⟩
end Go.Proofs.Ytechpecnanodfaa

