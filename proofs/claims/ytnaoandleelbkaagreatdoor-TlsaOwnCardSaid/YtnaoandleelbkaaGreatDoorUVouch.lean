/-
  The contract of vouching.
-/
import Derived.Test.YtnaoandleelbkaaGreatDoorUGood
namespace Go.Proofs.YtnaoandleelbkaaGreatDoor
set_option linter.unusedSimpArgs false
set_option linter.unusedVariables false
open Go Go.RowKit
set_option maxRecDepth 100000

theorem vouch_len {chain : List (List UInt8)} {host : List UInt8} {now : Int} {n : Nat} (hn : n = goodN (chainT chain) now) : n ≤ chain.length := by
  have h1 := good_le (chainT chain) now
  have h2 := readL_len (chain.take 4)
  rw [List.length_take] at h2
  unfold chainT at h1
  unfold chainT at hn
  omega
/-- The texts from the second one on, of so many. -/
theorem SX.behind {w : World} {g off n c : Nat} {xs : List (List UInt8)} (h : SX w (.slice (some ⟨g, off, none⟩) xs.length c) xs) (h0 : 0 < xs.length) (hn : n ≤ xs.length) (c' : Nat) : SX w (.slice (some ⟨g, off + 1, none⟩) ((xs.take n).drop 1).length c') ((xs.take n).drop 1) := by
  refine ⟨_, _, rfl, fun hp => ?_⟩
  rw [List.length_drop, List.length_take] at hp
  obtain ⟨A', c1, e, hh⟩ := h
  simp only [Value.slice.injEq, true_and] at e
  obtain ⟨rfl, rfl⟩ := e
  obtain ⟨g', off', e2, hl, hc⟩ := hh h0
  cases e2
  refine ⟨g, off + 1, rfl, hl, fun j hj => ?_⟩
  rw [List.length_drop, List.length_take] at hj
  have := hc (j + 1) (by omega)
  rw [show off + (j + 1) = off + 1 + j by omega] at this
  rw [this, List.getD_eq_getElem?_getD, List.getD_eq_getElem?_getD, List.getElem?_drop, List.getElem?_take_of_lt (by omega), show 1 + j = j + 1 by omega]
/-- What vouching tells. -/
def VPost (w : World) (v : List (List UInt8)) (e : Ending) (w' : World) : Prop := ∃ B c, e = .returned (.slice B v.length c) ∧ SX w' (.slice B v.length c) v ∧ Below w.heap.size w w'
set_option maxHeartbeats 4000000 in
theorem vouching_any {w : World} (chain : List (List UInt8)) (A : Option Addr) (cp : Nat) (host : List UInt8) (now : Int) (hx : SX w (.slice A chain.length cp) chain) (hl : ∀ s ∈ chain, s.length ≤ 9223372036854775807) (hcp : chain.length ≤ cp) (hlen : chain.length ≤ 9223372036854775807) (hh : host.length ≤ 1000000) (hw : GA w) :
    Calls Tryz.prog 157 #[.slice A chain.length cp, sv host, .int .i64 now] w (VPost w (vouchL chain host now)) := by
  have HRD := Lib.hid (tread_any chain A cp hx hl hcp hlen hw.gl)
  have HX := Lib.hid hx
  have HG := Lib.hid (Ga.start hw)
  have hsh := chainT_short chain
  have hv : vouchL chain host now = if goodN (chainT chain) now = 0 ∨ hostB (ctAt (chainT chain) 0) host = false then [] else (chain.take (goodN (chainT chain) now)).drop 1 := rfl
  have hnl := good_le (chainT chain) now
  have hn4 := chainT_len chain
  obtain ⟨n, hn⟩ : ∃ n, n = goodN (chainT chain) now := ⟨_, rfl⟩
  have hnc := vouch_len hn (host := host)
  obtain ⟨l, hle⟩ : ∃ l, l = chainT chain := ⟨_, rfl⟩
  have HSH := Lib.hid hsh
  rw [← hle] at HSH hn4 hnl hv hn
  rw [← hn] at hnl hv
  obtain ⟨v, hvv⟩ : ∃ v, v = vouchL chain host now := ⟨_, rfl⟩
  rw [← hvv] at hv ⊢
  have HM := Lib.hid hle
  have HN := Lib.hid hn
  obtain ⟨m, hm⟩ : ∃ m, m = chain.length := ⟨_, rfl⟩
  have HMC := Lib.hid hm
  rw [← hm] at HRD hnc ⊢
  clear hx hl hw hsh hvv hle hlen hn hm
  by_cases h0 : n = 0
  · have HV := Lib.hid (show v = [] by rw [hv, if_pos (.inl h0)])
    subst h0
    clear hv hnl hnc
    go_enter Tryz.func157, Tryz.ntmps157
    go_wp2_with (first
      | (go_at_call 35; refine HRD.out.mono ?_; rintro e w1 ⟨v1, ps, rfl, hmp, hco, hno, hb1⟩; obtain ⟨A1, c1, rfl, hle1, hcr⟩ := hco.cr hno; have hpl : ps.length = l.length := (by rw [HM.out, ← hmp, List.length_map]); rw [hmp, ← HM.out] at hcr; rw [hpl] at hle1 ⊢; have HB1 := Lib.hid (HG.out.step hb1); have HGD := Lib.hid (good_u l A1 c1 _ now hcr HSH.out hle1 (HG.out.step hb1).2); rw [← HN.out] at HGD; clear hmp hco hno hb1 hcr hpl)
      | (go_at_call 189; refine HGD.out.mono ?_; rintro e w2 ⟨rfl, hb2⟩; have HB2 := Lib.hid (HB1.out.step hb2); clear hb2))
    go_ret
    rw [HV.out]
    exact ⟨none, 0, rfl, SX.nil _ _ _, HB2.out.1⟩
  · have hl0 : 0 < l.length := by omega
    have hnn : ((n : Int) == 0) = false := by rw [beq_eq_false_iff_ne]; omega
    have hm0 : 0 < m := by omega
    have HX1 := Lib.hid (show ∃ g off, A = some ⟨g, off, none⟩ by
      obtain ⟨g, off, e, _⟩ := HX.out.at (k := 0) (by rw [← HMC.out]; exact hm0)
      exact ⟨g, off, e⟩)
    obtain ⟨g, off, rfl⟩ := HX1.out
    have HHO := Lib.hid (fun W (h : GA W) (a : Option Addr) (cc : Nat) (hs : SX W (.slice a (ctAt l 0).names.length cc) (ctAt l 0).names) => host_any (ctAt l 0) a cc host hs (HSH.out.at hl0) hh h.ml)
    obtain ⟨b, hb⟩ : ∃ b, b = hostB (ctAt l 0) host := ⟨_, rfl⟩
    rw [← hb] at hv HHO
    obtain ⟨x, hx⟩ : ∃ x, x = ctAt l 0 := ⟨_, rfl⟩
    rw [← hx] at HHO
    have HXE := Lib.hid hx
    unfold certV at HHO
    clear hb hx HX1
    have h1n : (1 : Int) ≤ (n : Int) := by omega
    have hncp : n ≤ cp := Nat.le_trans hnc (by rw [HMC.out]; exact hcp)
    have hncp' : (n : Int) ≤ (cp : Int) := by omega
    cases b with
    | false =>
      have HV := Lib.hid (show v = [] by rw [hv, if_pos (.inr rfl)])
      clear hv hnl hnc
      go_enter Tryz.func157, Tryz.ntmps157
      go_wp2_with (first
        | (go_at_call 35; refine HRD.out.mono ?_; rintro e w1 ⟨v1, ps, rfl, hmp, hco, hno, hb1⟩; obtain ⟨A1, c1, rfl, hle1, hcr⟩ := hco.cr hno; have hpl : ps.length = l.length := (by rw [HM.out, ← hmp, List.length_map]); rw [hmp, ← HM.out] at hcr; rw [hpl] at hle1 ⊢; have HB1 := Lib.hid (HG.out.step hb1); have HCR := Lib.hid hcr; have HGD := Lib.hid (good_u l A1 c1 _ now hcr HSH.out hle1 (HG.out.step hb1).2); rw [← HN.out] at HGD; clear hmp hco hno hb1 hcr hpl)
        | (go_at_call 189; refine HGD.out.mono ?_; rintro e w2 ⟨rfl, hb2⟩; have HB2 := Lib.hid (HB1.out.step hb2); obtain ⟨g1, off1, rfl, _, hcc, hsx⟩ := (HCR.out.step hb2).at hl0; obtain ⟨a1, k1, e1⟩ := hsx.form; rw [e1] at hcc hsx; rw [← HXE.out, Nat.zero_mul, Nat.add_zero] at hcc; rw [← HXE.out] at hsx; obtain ⟨p0, p1, p2, p3, p4, p5⟩ := hcc; have HHC := Lib.hid (HHO.out w2 HB2.out.2 a1 k1 hsx); clear hb2 hsx e1)
        | (go_at_call 38; refine HHC.out.mono ?_; rintro e w3 ⟨rfl, hb3⟩; have HB3 := Lib.hid (HB2.out.step hb3); clear hb3))
      go_ret
      rw [HV.out]
      exact ⟨none, 0, rfl, SX.nil _ _ _, HB3.out.1⟩
    | true =>
      have HV := Lib.hid (show v = (chain.take n).drop 1 by rw [hv, if_neg (by simp [h0])])
      have hvl : v.length = n - 1 := by rw [HV.out, List.length_drop, List.length_take, ← HMC.out]; omega
      have HVL := Lib.hid hvl
      clear hv hnl hvl
      by_cases hc1 : cp = 1
      · subst hc1
        have hn1 : n = 1 := by omega
        subst hn1
        have HV0 := Lib.hid (show v = [] from List.eq_nil_of_length_eq_zero HVL.out)
        go_enter Tryz.func157, Tryz.ntmps157
        go_wp2_with (first
          | (go_at_call 35; refine HRD.out.mono ?_; rintro e w1 ⟨v1, ps, rfl, hmp, hco, hno, hb1⟩; obtain ⟨A1, c1, rfl, hle1, hcr⟩ := hco.cr hno; have hpl : ps.length = l.length := (by rw [HM.out, ← hmp, List.length_map]); rw [hmp, ← HM.out] at hcr; rw [hpl] at hle1 ⊢; have HB1 := Lib.hid (HG.out.step hb1); have HCR := Lib.hid hcr; have HGD := Lib.hid (good_u l A1 c1 _ now hcr HSH.out hle1 (HG.out.step hb1).2); rw [← HN.out] at HGD; clear hmp hco hno hb1 hcr hpl)
          | (go_at_call 189; refine HGD.out.mono ?_; rintro e w2 ⟨rfl, hb2⟩; have HB2 := Lib.hid (HB1.out.step hb2); obtain ⟨g1, off1, rfl, _, hcc, hsx⟩ := (HCR.out.step hb2).at hl0; obtain ⟨a1, k1, e1⟩ := hsx.form; rw [e1] at hcc hsx; rw [← HXE.out, Nat.zero_mul, Nat.add_zero] at hcc; rw [← HXE.out] at hsx; obtain ⟨p0, p1, p2, p3, p4, p5⟩ := hcc; have HHC := Lib.hid (HHO.out w2 HB2.out.2 a1 k1 hsx); clear hb2 hsx e1)
          | (go_at_call 38; refine HHC.out.mono ?_; rintro e w3 ⟨rfl, hb3⟩; have HB3 := Lib.hid (HB2.out.step hb3); clear hb3))
        go_ret
        rw [HV0.out]
        exact ⟨_, _, rfl, SX.nil _ _ _, HB3.out.1⟩
      · have hcd : ((cp : Int) == 1) = false := by rw [beq_eq_false_iff_ne]; omega
        go_enter Tryz.func157, Tryz.ntmps157
        go_wp2_with (first
          | (go_at_call 35; refine HRD.out.mono ?_; rintro e w1 ⟨v1, ps, rfl, hmp, hco, hno, hb1⟩; obtain ⟨A1, c1, rfl, hle1, hcr⟩ := hco.cr hno; have hpl : ps.length = l.length := (by rw [HM.out, ← hmp, List.length_map]); rw [hmp, ← HM.out] at hcr; rw [hpl] at hle1 ⊢; have HB1 := Lib.hid (HG.out.step hb1); have HCR := Lib.hid hcr; have HGD := Lib.hid (good_u l A1 c1 _ now hcr HSH.out hle1 (HG.out.step hb1).2); rw [← HN.out] at HGD; clear hmp hco hno hb1 hcr hpl)
          | (go_at_call 189; refine HGD.out.mono ?_; rintro e w2 ⟨rfl, hb2⟩; have HB2 := Lib.hid (HB1.out.step hb2); obtain ⟨g1, off1, rfl, _, hcc, hsx⟩ := (HCR.out.step hb2).at hl0; obtain ⟨a1, k1, e1⟩ := hsx.form; rw [e1] at hcc hsx; rw [← HXE.out, Nat.zero_mul, Nat.add_zero] at hcc; rw [← HXE.out] at hsx; obtain ⟨p0, p1, p2, p3, p4, p5⟩ := hcc; have HHC := Lib.hid (HHO.out w2 HB2.out.2 a1 k1 hsx); clear hb2 hsx e1)
          | (go_at_call 38; refine HHC.out.mono ?_; rintro e w3 ⟨rfl, hb3⟩; have HB3 := Lib.hid (HB2.out.step hb3); clear hb3))
        go_ret
        have hs := (HX.out.step HB3.out.1).behind (n := n) (by rw [← HMC.out]; exact hm0) (by rw [← HMC.out]; exact hnc) (cp - 1)
        rw [← HV.out, HVL.out] at hs
        unfold VPost
        rw [HVL.out]
        exact ⟨_, _, rfl, hs, HB3.out.1⟩
end Go.Proofs.YtnaoandleelbkaaGreatDoor
