/-
  DiskFails' walk.
-/
import Derived.Test.YtechpecnanodfaaDFi
namespace Go.Proofs.Ytechpecnanodfaa
open Go Go.RowKit Go.Maps
set_option maxRecDepth 100000
set_option linter.unusedSimpArgs false
set_option linter.unusedVariables false

theorem rem40 (n : Int) : ∃ u : Int, IntKind.u64.wrap n = u ∧ 0 ≤ u ∧ u < 18446744073709551616 := by
  refine ⟨_, rfl, ?_, ?_⟩ <;> simp [IntKind.wrap, IntKind.signed, IntKind.bits] <;> omega

set_option maxHeartbeats 8000000 in
theorem diskFails_walk {w : World} {A B : Option Addr} {c d : Nat} {l m : List SD} {n : Int} (hl : StAt w A l) (hll : l.length ≤ 9223372036854775807) (hn : -9223372036854775808 ≤ n ∧ n ≤ 9223372036854775807) (hm : StAt w B m) (hml : m.length ≤ 9223372036854775807) :
    Calls Try.prog 6 #[.slice A l.length c, .int .i64 n, .slice B m.length d] w fun e w' => e = .returned (.bool true) ∧ Below w.heap.size w w' := by
  have H0 := Lib.hid (Obs.start w)
  have HL := Lib.hid hl
  have HM := Lib.hid hm
  have HLG1 := Lib.hid (fun W (h : Below w.heap.size w W) => long_any (c := c) (hl.below h) hll)
  have HLG2 := Lib.hid (fun W (h : Below w.heap.size w W) => long_any (c := d) (hm.below h) hml)
  generalize hln : l.length = ln at hll HLG1 ⊢
  generalize hmn : m.length = mn at hml HLG2 ⊢
  have HLN := Lib.hid hln
  have HMN := Lib.hid hmn
  clear hl hm hln hmn
  go_enter Try.func6, Try.ntmps6
  go_wp2_with fail
  refine works_any.mono ?_
  rintro e w1 ⟨rfl, hb1⟩
  have HB1 := Lib.hid hb1
  clear hb1
  go_wp2_with fail
  refine (HLG1.out _ HB1.out).mono ?_
  rintro e w2 ⟨b1, rfl, hs1, hb2⟩
  have HB2 := Lib.hid (HB1.out.trans (hb2.mono HB1.out.size))
  clear hb2
  cases b1 with
  | true =>
    clear hs1
    go_wp2_with fail
    refine works_any.mono ?_
    rintro e w3 ⟨rfl, hb3⟩
    have HB3 := Lib.hid (HB2.out.trans (hb3.mono HB2.out.size))
    clear hb3
    go_wp2_with fail
    go_ret
    exact ⟨rfl, HB3.out⟩
  | false =>
    have HS1 := Lib.hid (hs1 rfl)
    clear hs1
    go_wp2_with fail
    refine (HLG2.out _ HB2.out).mono ?_
    rintro e w3 ⟨b2, rfl, hs2, hb3⟩
    have HB3 := Lib.hid (HB2.out.trans (hb3.mono HB2.out.size))
    clear hb3
    cases b2 with
    | true =>
      clear hs2
      go_wp2_with fail
      refine works_any.mono ?_
      rintro e w4 ⟨rfl, hb4⟩
      have HB4 := Lib.hid (HB3.out.trans (hb4.mono HB3.out.size))
      clear hb4
      go_wp2_with fail
      go_ret
      exact ⟨rfl, HB4.out⟩
    | false =>
      have HS2 := Lib.hid (hs2 rfl)
      clear hs2
      have hl300 : ln ≤ 300 := by rw [← HLN.out]; exact HS1.out.1
      have hm300 : mn ≤ 300 := by rw [← HMN.out]; exact HS2.out.1
      go_wp2_with (go_at_call 20; refine (new_o (n := 9) (H0.out.step HB3.out) (by omega) (by omega)).mono ?_; rintro e w4 ⟨p, bl, bd, rfl, h4⟩; have H4 := Lib.hid (show Obs w w4 [pdOb p bl bd (DS.new 9)] from h4); clear h4)
      clear HLG1 HLG2 hll hml
      go_loopw [9] (fun kx wr => ∃ (k : Nat) (S : DS), kx = .int .i64 (k : Int) ∧ k ≤ ln ∧ Obs w wr [pdOb p bl bd S] ∧ S.was.length = 9 ∧ S.ops ≤ k) (fun kx _ => ln - (RowKit.intOf kx).toNat)
      case atStart => exact ⟨0, _, rfl, by omega, H4.out, by simp [DS.new], Nat.le_refl _⟩
      case round =>
        obtain ⟨k, S, rfl, hkn, hO, hlen, hops⟩ := hrel
        have HO := Lib.hid hO
        have HLE := Lib.hid hlen
        clear hO hlen
        by_cases hk : k < ln
        · have hki : (k : Int) < (ln : Int) := by omega
          have hk0 : (0 : Int) ≤ (k : Int) := by omega
          have hwr : IntKind.i64.wrap ((k : Int) + 1) = (k : Int) + 1 := IntWalk.i64_in _ (by omega)
          obtain ⟨b, o, hAe, hc⟩ := cells_k HL.out (by rw [HLN.out]; exact hk) HO.out
          have CS := Lib.hid (step_k HL.out HS1.out (by rw [HLN.out]; exact hk) HO.out 0 rfl (by omega))
          have HSL := Lib.hid (step_len S (l.getD k sd0))
          obtain ⟨d0, d1, d2, d3, d4⟩ := hc
          generalize l.getD k sd0 = s at d0 d1 d2 d3 d4 CS HSL
          have HAE := Lib.hid hAe
          rw [hAe]
          clear hAe
          unfold SD.val stepV at CS
          go_wp2_with (go_at_call 30; refine CS.out.mono ?_; rintro e w5 ⟨rfl, h5⟩; have H5 := Lib.hid (show Obs w w5 [pdOb p bl bd (S.step s)] from h5); clear h5)
          go_roundw
          case rel => exact ⟨k + 1, _, by go_num, by omega, H5.out, by rw [HSL.out.1]; exact HLE.out, by have := HSL.out.2; omega⟩
          case measure => simp [RowKit.intOf]; omega
        · have hki : ¬ (k : Int) < (ln : Int) := by omega
          go_upto_if 41 with (go_at_call 15; refine (on_o HO.out 0 rfl).mono ?_; rintro e w5 ⟨rfl, h5⟩; have H5 := Lib.hid h5; clear h5)
          go_cut [] from 39 to 43 (fun W => ∃ T : DS, Obs w W [pdOb p bl bd T] ∧ T.off = false ∧ T.was.length = 9 ∧ T.ops ≤ 300)
          case first =>
            cases hof : S.off with
            | true =>
              have HBL := Lib.hid (boot_len S [])
              have HOF := Lib.hid (show (S.boot []).off = false by unfold DS.boot; rw [hof]; rfl)
              have CB := Lib.hid (boot_o (ck := 0) (L := []) (Ak := none) H5.out 0 rfl (fun j hj => by cases hj) (by simp) (by decide))
              go_wp2_with (go_at_call 14; refine CB.out.mono ?_; rintro e w6 ⟨rfl, h6⟩; have H6 := Lib.hid (show Obs w w6 [pdOb p bl bd (S.boot [])] from h6); clear h6)
              go_meet
              case rel => exact ⟨_, H6.out, HOF.out, HBL.out.1.trans HLE.out, by rw [HBL.out.2]; omega⟩
            | false =>
              have HOF := Lib.hid hof
              go_wp2_with fail
              go_meet
              case rel => exact ⟨S, H5.out, HOF.out, HLE.out, by omega⟩
          case rest =>
            obtain ⟨T, hT, hTo, hTl, hTn⟩ := hcut
            have HT := Lib.hid hT
            have HTO := Lib.hid hTo
            have HTL := Lib.hid hTl
            clear hT hTo hTl
            obtain ⟨u, hu, hu0, hu1⟩ := rem40 n
            obtain ⟨r, hr, hr2⟩ : ∃ r : Nat, u % 40 = (r : Int) ∧ r < 40 := ⟨(u % 40).toNat, by omega, by omega⟩
            have CO := Lib.hid (ops_o HT.out 0 rfl)
            have HFI := Lib.hid (FI.start HTO.out r)
            generalize hgo : T.ops = o at CO HFI hTn
            have HGO := Lib.hid hgo
            clear hgo
            go_wp2_with (go_at_call 18; refine CO.out.mono ?_; rintro e w6 ⟨rfl, h6⟩; have H6 := Lib.hid h6; clear h6)
            have CF := Lib.hid (fail_o H6.out 0 rfl (a := (r : Int)) (by omega))
            refine CF.out.mono ?_
            rintro e w7 ⟨rfl, h7⟩
            have H7 := Lib.hid (show Obs w w7 [pdOb p bl bd (T.fail (r : Int))] from h7)
            clear h7 hu hr
            go_wp2_with fail
            go_loopw [11] (fun kx wr => ∃ (k : Nat) (S : DS), kx = .int .i64 (k : Int) ∧ k ≤ mn ∧ Obs w wr [pdOb p bl bd S] ∧ S.was.length = 9 ∧ S.ops ≤ o + k ∧ FI o r S) (fun kx _ => mn - (RowKit.intOf kx).toNat)
            case atStart => exact ⟨0, _, rfl, by omega, H7.out, HTL.out, by show T.ops ≤ o + 0; rw [HGO.out]; omega, HFI.out⟩
            case round =>
              obtain ⟨k, S, rfl, hkn, hO, hlen, hops, hfi⟩ := hrel
              have HO := Lib.hid hO
              have HLE := Lib.hid hlen
              have HF := Lib.hid hfi
              clear hO hlen hfi
              by_cases hk : k < mn
              · have hki : (k : Int) < (mn : Int) := by omega
                have hk0 : (0 : Int) ≤ (k : Int) := by omega
                have hwr : IntKind.i64.wrap ((k : Int) + 1) = (k : Int) + 1 := IntWalk.i64_in _ (by omega)
                obtain ⟨b, oo, hAe, hc⟩ := cells_k HM.out (by rw [HMN.out]; exact hk) HO.out
                have CS := Lib.hid (fun W (h : Obs w W [pdOb p bl bd S]) => step_k HM.out HS2.out (by rw [HMN.out]; exact hk) h 0 rfl (by omega))
                have HSL := Lib.hid (step_len S (m.getD k sd0))
                obtain ⟨d0, d1, d2, d3, d4⟩ := hc
                generalize m.getD k sd0 = s at d0 d1 d2 d3 d4 CS HSL
                have HAE := Lib.hid hAe
                rw [hAe]
                clear hAe
                unfold SD.val stepV at CS
                by_cases h2 : s.wh = 2
                · have e2 : (s.wh.toNat : Int) = 2 := by rw [h2]; rfl
                  rw [e2] at d0
                  go_wp2_with fail
                  go_roundw
                  case rel => exact ⟨k + 1, S, by go_num, by omega, HO.out, HLE.out, by omega, HF.out⟩
                  case measure => simp [RowKit.intOf]; omega
                by_cases h3 : s.wh = 3
                · have e3 : (s.wh.toNat : Int) = 3 := by rw [h3]; rfl
                  rw [e3] at d0
                  go_wp2_with fail
                  go_roundw
                  case rel => exact ⟨k + 1, S, by go_num, by omega, HO.out, HLE.out, by omega, HF.out⟩
                  case measure => simp [RowKit.intOf]; omega
                have e2 : ((s.wh.toNat : Int) == 2) = false := u8_ne (y := 2) h2
                have e3 : ((s.wh.toNat : Int) == 3) = false := u8_ne (y := 3) h3
                have HFN := Lib.hid (HF.out.step h2 h3)
                clear h2 h3
                have CN := Lib.hid (fun W (h : Obs w W [pdOb p bl bd (S.step s)]) => on_o h 0 rfl)
                have CO := Lib.hid (fun W (h : Obs w W [pdOb p bl bd (S.step s)]) => ops_o h 0 rfl)
                rcases HFN.out with ⟨h0, hof, _⟩ | ⟨hp, kk, hkk, ⟨hkr, hof, _⟩ | ⟨hkr, hof⟩⟩
                · have q3 : ¬ (0 : Int) < (r : Int) := by omega
                  have q5 : ((r : Int) == 0) = true := by rw [beq_iff_eq]; omega
                  clear h0
                  have HOF := Lib.hid hof
                  clear hof
                  rw [HOF.out] at CN
                  go_wp2_with (first
                      | (go_at_call 30; refine (CS.out _ HO.out).mono ?_; rintro e w8 ⟨rfl, h8⟩; have H8 := Lib.hid (show Obs w w8 [pdOb p bl bd (S.step s)] from h8); clear h8)
                      | (go_at_call 18; refine (CO.out _ H8.out).mono ?_; rintro e w9 ⟨rfl, h9⟩; have H9 := Lib.hid h9; clear h9 H8)
                      | (go_at_call 15; refine (CN.out _ H8.out).mono ?_; rintro e w10 ⟨rfl, h10⟩; have H10 := Lib.hid h10; clear h10 H8)
                      | (go_at_call 18; refine (CO.out _ H10.out).mono ?_; rintro e w11 ⟨rfl, h11⟩; have H11 := Lib.hid h11; clear h11 H10))
                  go_roundw
                  case rel => exact ⟨k + 1, _, by go_num, by omega, H10.out, by rw [HSL.out.1]; exact HLE.out, by have := HSL.out.2; omega, HFN.out⟩
                  case measure => simp [RowKit.intOf]; omega
                · have HOF := Lib.hid hof
                  clear hof
                  rw [HOF.out] at CN
                  have q1 : IntKind.i64.wrap (((S.step s).ops : Int) - (o : Int)) = (kk : Int) := by rw [IntWalk.i64_in _ (by omega)]; omega
                  have q2 : (kk : Int) < (r : Int) := by omega
                  have q3 : (0 : Int) < (r : Int) := by omega
                  have q4 : ¬ (r : Int) < (kk : Int) := by omega
                  have q5 : ((r : Int) == 0) = false := by rw [beq_eq_false_iff_ne]; omega
                  clear hkk
                  go_wp2_with (first
                      | (go_at_call 30; refine (CS.out _ HO.out).mono ?_; rintro e w8 ⟨rfl, h8⟩; have H8 := Lib.hid (show Obs w w8 [pdOb p bl bd (S.step s)] from h8); clear h8)
                      | (go_at_call 18; refine (CO.out _ H8.out).mono ?_; rintro e w9 ⟨rfl, h9⟩; have H9 := Lib.hid h9; clear h9 H8)
                      | (go_at_call 15; refine (CN.out _ H9.out).mono ?_; rintro e w10 ⟨rfl, h10⟩; have H10 := Lib.hid h10; clear h10 H9)
                      | (go_at_call 18; refine (CO.out _ H10.out).mono ?_; rintro e w11 ⟨rfl, h11⟩; have H11 := Lib.hid h11; clear h11 H10))
                  go_roundw
                  case rel => exact ⟨k + 1, _, by go_num, by omega, H11.out, by rw [HSL.out.1]; exact HLE.out, by have := HSL.out.2; omega, HFN.out⟩
                  case measure => simp [RowKit.intOf]; omega
                · have HOF := Lib.hid hof
                  clear hof
                  rw [HOF.out] at CN
                  have HKR := Lib.hid hkr
                  have q1 : IntKind.i64.wrap (((S.step s).ops : Int) - (o : Int)) = (kk : Int) := by rw [IntWalk.i64_in _ (by omega)]; omega
                  have q2 : ¬ (kk : Int) < (r : Int) := by omega
                  have q3 : (0 : Int) < (r : Int) := by omega
                  have q4 : ¬ (r : Int) < (kk : Int) := by omega
                  have q5 : ((r : Int) == 0) = false := by rw [beq_eq_false_iff_ne]; omega
                  clear hkk hkr
                  go_wp2_with (first
                      | (go_at_call 30; refine (CS.out _ HO.out).mono ?_; rintro e w8 ⟨rfl, h8⟩; have H8 := Lib.hid (show Obs w w8 [pdOb p bl bd (S.step s)] from h8); clear h8)
                      | (go_at_call 18; refine (CO.out _ H8.out).mono ?_; rintro e w9 ⟨rfl, h9⟩; have H9 := Lib.hid h9; clear h9 H8)
                      | (go_at_call 15; refine (CN.out _ H9.out).mono ?_; rintro e w10 ⟨rfl, h10⟩; have H10 := Lib.hid h10; clear h10 H9)
                      | (go_at_call 18; refine (CO.out _ H10.out).mono ?_; rintro e w11 ⟨rfl, h11⟩; have H11 := Lib.hid h11; clear h11 H10))
                  go_roundw
                  case rel => exact ⟨k + 1, _, by go_num, by omega, H11.out, by rw [HSL.out.1]; exact HLE.out, by have := HSL.out.2; omega, HFN.out⟩
                  case measure => simp [RowKit.intOf]; omega
              · have hki : ¬ (k : Int) < (mn : Int) := by omega
                have CSC := Lib.hid (sectors_o HO.out 0 rfl)
                have hq := HLE.out
                go_wp2_with (go_at_call 16; refine CSC.out.mono ?_; rintro e w8 ⟨rfl, h8⟩; have H8 := Lib.hid h8; clear h8)
                go_ret
                exact ⟨rfl, H8.out.bel⟩
end Go.Proofs.Ytechpecnanodfaa
