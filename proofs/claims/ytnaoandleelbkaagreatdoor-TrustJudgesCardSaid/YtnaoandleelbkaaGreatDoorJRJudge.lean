/-
  The reference's Judge.
-/
import Derived.Test.YtnaoandleelbkaaGreatDoorJRRead
import Derived.Test.YtnaoandleelbkaaGreatDoorJRAnch
import Derived.Test.YtnaoandleelbkaaGreatDoorJRm
namespace Go.Proofs.YtnaoandleelbkaaGreatDoor
set_option linter.unusedSimpArgs false
set_option linter.unusedVariables false
open Go Go.RowKit
set_option maxRecDepth 100000

set_option maxHeartbeats 8000000 in
theorem rjudge_any {w : World} (chain : List (List UInt8)) (A : Option Addr) (cp : Nat) (host : List UInt8) (now : Int) (an : List (List UInt8)) (B : Option Addr) (bc : Nat) (hx : SX w (.slice A chain.length cp) chain) (hl : ∀ s ∈ chain, s.length ≤ 1000000000) (hcp : chain.length ≤ cp) (hlen : chain.length ≤ 1000000000)
    (hh : host.length ≤ 1000000) (ha : SX w (.slice B an.length bc) an) (hal : an.length ≤ 1000000000) :
    Calls Tryz.prog 42 #[.slice A chain.length cp, sv host, .int .i64 now, .slice B an.length bc] w fun e w' => e = .returned (.int .u8 (judgeN chain host now an : Nat)) ∧ Below w.heap.size w w' := by
  have HRD := Lib.hid (rread_any chain A cp hx hl hlen)
  have HSH := Lib.hid (chainT_short chain)
  have HA := Lib.hid ha
  have hj : judgeN chain host now an = if chainT chain = [] then 3 else if dateB (ctAt (chainT chain) 0) now = false then 1 else if hostB (ctAt (chainT chain) 0) host = false then 2 else if anchB (chainT chain) now an = false then 3 else 0 := rfl
  have HJ := Lib.hid hj
  obtain ⟨z, hz⟩ : ∃ z, z = judgeN chain host now an := ⟨_, rfl⟩
  rw [← hz] at HJ ⊢
  obtain ⟨l, hle⟩ : ∃ l, l = chainT chain := ⟨_, rfl⟩
  unfold RReadPost at HRD
  rw [← hle] at HRD HSH HJ
  clear hx hl hcp hlen ha hj hz hle
  obtain ⟨m, hm⟩ : ∃ m, m = chain.length := ⟨_, rfl⟩
  rw [← hm] at HRD ⊢
  clear hm
  by_cases h0 : l = []
  · subst h0
    have HZ := Lib.hid (show z = 3 by rw [HJ.out, if_pos rfl])
    go_enter Tryz.func42, Tryz.ntmps42
    go_wp2_with (go_at_call 41; (with_reducible refine HRD.out.mono ?_); rintro e w1 ⟨v, ps, rfl, hps, hco, hno, hb⟩; obtain ⟨A0, c0, rfl, hpc⟩ := hco.form; have hp0 : ps.length = 0 := (by have := congrArg List.length hps; simpa using this); clear hco hno hps; rw [hp0])
    go_ret
    rw [HZ.out]
    exact ⟨rfl, hb⟩
  · have hp : 0 < l.length := List.length_pos_iff.2 h0
    rw [if_neg h0] at HJ
    have hpn : ¬ (l.length : Int) = 0 := by omega
    have HDT := Lib.hid (fun W (a : Option Addr) (c : Nat) => @rdates_any W (ctAt l 0) a (ctAt l 0).names.length c now)
    have HHO := Lib.hid (fun W (a : Option Addr) (c : Nat) hx (h : Below w.heap.size w W) => @rhost_any W (ctAt l 0) a c host hx (HSH.out.at hp) hh)
    have HAN := Lib.hid (fun W A1 cp1 nv hr hc (h : Below w.heap.size w W) => @ranch_any W l A1 cp1 nv now an B bc hr HSH.out hc (HA.out.step h) hal)
    obtain ⟨b1, hb1⟩ : ∃ b, b = dateB (ctAt l 0) now := ⟨_, rfl⟩
    obtain ⟨b2, hb2⟩ : ∃ b, b = hostB (ctAt l 0) host := ⟨_, rfl⟩
    obtain ⟨b3, hb3⟩ : ∃ b, b = anchB l now an := ⟨_, rfl⟩
    unfold certV at HDT HHO
    rw [← hb1] at HDT HJ
    rw [← hb2] at HHO HJ
    rw [← hb3] at HAN HJ
    clear hb1 hb2 hb3 h0
    cases b1
    all_goals cases b2
    all_goals cases b3
    all_goals
      go_enter Tryz.func42, Tryz.ntmps42
      go_wp2_with (first
        | (go_at_call 41; (with_reducible refine HRD.out.mono ?_); rintro e w1 ⟨v, ps, rfl, hps, hco, hno, hb⟩; obtain ⟨A0, c0, rfl, hpc, hcr⟩ := hco.cr (fun x hx => (hno x hx).sx); have hpl : ps.length = l.length := (by rw [← hps, List.length_map]); rw [hpl] at hpc ⊢; rw [hps] at hcr; have HCR := Lib.hid hcr; have HPC := Lib.hid hpc; have HB := Lib.hid hb; obtain ⟨g, off, rfl, hgl, ⟨p0, p1, p2, p3, p4, p5⟩, hsx⟩ := hcr.at hp; obtain ⟨a1, c1, e1⟩ := hsx.form; rw [e1] at p2 hsx; have HSX := Lib.hid hsx; rw [show off + 0 * 6 = off by omega] at p0 p1 p2 p3 p4 p5; clear hcr hpc hpl hps hco hno hb hsx e1)
        | (go_at_call 92; (with_reducible refine (HDT.out _ a1 c1).mono ?_); rintro e w2 ⟨rfl, hb2⟩; have HB2 := Lib.hid (HB.out.trans (hb2.mono HB.out.size)); have HSX2 := Lib.hid (HSX.out.step hb2); have HCR2 := Lib.hid (HCR.out.step hb2); obtain ⟨q0, q1, q2, q3, q4, q5⟩ := (show CC w1 g off (ctAt l 0) (.slice a1 (ctAt l 0).names.length c1) from ⟨p0, p1, p2, p3, p4, p5⟩).below hb2 hgl; clear hb2)
        | (go_at_call 93; (with_reducible refine (HHO.out _ a1 c1 HSX2.out HB2.out).mono ?_); rintro e w3 ⟨rfl, hb3⟩; have HB3 := Lib.hid (HB2.out.trans (hb3.mono HB2.out.size)); have HCR3 := Lib.hid (HCR2.out.step hb3); clear hb3)
        | (go_at_call 94; (with_reducible refine (HAN.out _ _ _ _ HCR3.out HPC.out HB3.out).mono ?_); rintro e w4 ⟨rfl, hb4⟩; have HB4 := Lib.hid (HB3.out.trans (hb4.mono HB3.out.size)); clear hb4))
      go_ret
      rw [HJ.out]
      exact ⟨rfl, by first | exact HB4.out | exact HB3.out | exact HB2.out⟩
end Go.Proofs.YtnaoandleelbkaaGreatDoor
