/-
  TrustRight, walked.
-/
import Derived.Test.YtoinicmhkfomjaaGreatDoorJApp
namespace Go.Proofs.YtoinicmhkfomjaaGreatDoor
set_option linter.unusedSimpArgs false
set_option linter.unusedVariables false
open Go Go.RowKit
set_option maxRecDepth 100000

set_option maxHeartbeats 16000000 in
theorem trustRight_walk {w : World} (chain : List (List UInt8)) (A : Option Addr) (cp : Nat) (hi : TI w A chain cp) (host : List UInt8) (hh : host.length ≤ 140737488351232) {now : Int} (_ : -9223372036854775808 ≤ now ∧ now ≤ 9223372036854775807)
    (an : List (List UInt8)) (B : Option Addr) (bc : Nat) (hj : TI w B an bc) (more : List (List UInt8)) (C : Option Addr) (cc : Nat) (hk : TI w C more cc) (behind : List (List UInt8)) (D : Option Addr) (dc : Nat) (hm : TI w D behind dc) (hgl : GL w) (hlw : LWc w) :
    Calls Tryz.prog 8 #[.slice A chain.length cp, sv host, .int .i64 now, .slice B an.length bc, .slice C more.length cc, .slice D behind.length dc] w fun e w' => e = .returned (.bool true) ∧ Below w.heap.size w w' := by
  have hz := str_size host
  obtain ⟨P, hPe⟩ : ∃ P : World → Prop, P = fun W => Ga w W ∧ (SX W (.slice A chain.length cp) chain ∧ SX W (.slice B an.length bc) an ∧ SX W (.slice C more.length cc) more ∧ SX W (.slice D behind.length dc) behind) := ⟨_, rfl⟩
  have HP := Lib.hid (show Ca P by rw [hPe]; exact Ca.mk0.and (fun h hb => ⟨h.1.step hb, h.2.1.step hb, h.2.2.1.step hb, h.2.2.2.step hb⟩))
  have H0 := Lib.hid (show P w by rw [hPe]; exact ⟨Ga.start ⟨hgl, hlw⟩, hi.sx, hj.sx, hk.sx, hm.sx⟩)
  have HB := Lib.hid (show ∀ W, P W → Below w.heap.size w W by rw [hPe]; exact fun W h => h.1.1)
  have HX1 := Lib.hid (show ∀ W, P W → SX W (.slice A chain.length cp) chain by rw [hPe]; exact fun W h => h.2.1)
  have HX2 := Lib.hid (show ∀ W, P W → SX W (.slice B an.length bc) an by rw [hPe]; exact fun W h => h.2.2.1)
  have HX3 := Lib.hid (show ∀ W, P W → SX W (.slice C more.length cc) more by rw [hPe]; exact fun W h => h.2.2.2.1)
  have HX4 := Lib.hid (show ∀ W, P W → SX W (.slice D behind.length dc) behind by rw [hPe]; exact fun W h => h.2.2.2.2)
  have HL1 := Lib.hid (fun W (h : P W) => jlong_p h (HX1.out W h) hi.len hi.each)
  have HL2 := Lib.hid (fun W (h : P W) => jlong_p h (HX2.out W h) hj.len hj.each)
  have HL3 := Lib.hid (fun W (h : P W) => jlong_p h (HX3.out W h) hk.len hk.each)
  have HL4 := Lib.hid (fun W (h : P W) => jlong_p h (HX4.out W h) hm.len hm.each)
  have HAW := Lib.hid (fun W (h : P W) => jawake_p HP.out h)
  have HCP := Lib.hid hi.cap
  clear hPe hi hj hk hm hgl hlw
  by_cases hl : 3000 < host.length
  · have hl' : (3000 : Int) < (host.length : Int) := by omega
    go_enter Tryz.func8, Tryz.ntmps8
    go_wp2_with (first
      | (go_at_call 30; refine (HAW.out _ (by assumption)).mono ?_; rintro e wa ⟨rfl, ha⟩)
      | (go_at_call 40; with_reducible refine (HL1.out _ H0.out).mono ?_; rintro e w1 ⟨hb1, h1⟩; have H1 := Lib.hid h1; rcases hb1 with ⟨rfl, f1⟩ | rfl)
      | (go_at_call 40; with_reducible refine (HL2.out _ H1.out).mono ?_; rintro e w2 ⟨hb2, h2⟩; have H2 := Lib.hid h2; rcases hb2 with ⟨rfl, f2⟩ | rfl)
      | (go_at_call 40; with_reducible refine (HL3.out _ H2.out).mono ?_; rintro e w3 ⟨hb3, h3⟩; have H3 := Lib.hid h3; rcases hb3 with ⟨rfl, f3⟩ | rfl)
      | (go_at_call 40; with_reducible refine (HL4.out _ H3.out).mono ?_; rintro e w4 ⟨hb4, h4⟩; have H4 := Lib.hid h4; rcases hb4 with ⟨rfl, f4⟩ | rfl))
    all_goals (go_ret; exact ⟨rfl, by first | exact HB.out _ ha⟩)
  have hl' : ¬ (3000 : Int) < (host.length : Int) := by omega
  have hl3 : host.length ≤ 3000 := by omega
  have HL := Lib.hid hl3
  obtain ⟨z, hz0⟩ : ∃ z, z = judgeN chain host now an := ⟨_, rfl⟩
  obtain ⟨l, hle⟩ : ∃ l, l = chainT chain := ⟨_, rfl⟩
  have HJ1 := Lib.hid (fun (f1 : few5 chain) (f2 : few5 an) W (h : P W) => judge_p HP.out h now (HX1.out W h) f1 HCP.out hl3 (HX2.out W h) (by have := f2.1; omega))
  have HRD := Lib.hid (fun (f1 : few5 chain) W (h : P W) => read_p HP.out h (HX1.out W h) f1 HCP.out)
  have hsh := chainT_short chain
  have hjd : z = if l = [] then 3 else if dateB (ctAt l 0) now = false then 1 else if hostB (ctAt l 0) host = false then 2 else if anchB l now an = false then 3 else 0 := by rw [hz0, hle]; rfl
  have hj2 := fun h => @judge_anchors chain host now an (more ++ an) h (fun x hx => List.mem_append_right _ hx)
  have hj3 := fun h => @judge_app chain behind host now an h
  have ha2 := fun h => @anch_anchors (chainT chain) now an (more ++ an) h (fun x hx => List.mem_append_right _ hx)
  rw [← hz0] at HJ1 hj2 hj3
  rw [← hle] at HRD hsh ha2
  have HSH := Lib.hid hsh
  obtain ⟨c, hc⟩ : ∃ c, c = ctAt l 0 := ⟨_, rfl⟩
  rw [← hc] at hjd
  have HC := Lib.hid (show ctAt l 0 = c from hc.symm)
  clear hz0 hle hsh hc hl hl3
  by_cases hl0 : l = []
  · subst hl0
    have hz3 : z = 3 := by rw [hjd, if_pos rfl]
    subst hz3
    clear hjd hj2 hj3 ha2 HSH HC
    go_enter Tryz.func8, Tryz.ntmps8
    go_wp2_with (first
      | (go_at_call 34; with_reducible refine (HRD.out f1 _ h5).mono ?_; rintro e w6 ⟨A0, c0, nv, rfl, hc0, h6, hcr⟩; rw [List.length_nil])
      | (go_at_call 32; with_reducible refine (HJ1.out f1 f2 _ ha).mono ?_; rintro e w5 ⟨rfl, h5⟩)
      | (go_at_call 30; refine (HAW.out _ (by assumption)).mono ?_; rintro e wa ⟨rfl, ha⟩)
      | (go_at_call 40; with_reducible refine (HL1.out _ H0.out).mono ?_; rintro e w1 ⟨hb1, h1⟩; have H1 := Lib.hid h1; rcases hb1 with ⟨rfl, f1⟩ | rfl)
      | (go_at_call 40; with_reducible refine (HL2.out _ H1.out).mono ?_; rintro e w2 ⟨hb2, h2⟩; have H2 := Lib.hid h2; rcases hb2 with ⟨rfl, f2⟩ | rfl)
      | (go_at_call 40; with_reducible refine (HL3.out _ H2.out).mono ?_; rintro e w3 ⟨hb3, h3⟩; have H3 := Lib.hid h3; rcases hb3 with ⟨rfl, f3⟩ | rfl)
      | (go_at_call 40; with_reducible refine (HL4.out _ H3.out).mono ?_; rintro e w4 ⟨hb4, h4⟩; have H4 := Lib.hid h4; rcases hb4 with ⟨rfl, f4⟩ | rfl))
    all_goals (go_ret; exact ⟨rfl, by first | exact HB.out _ h6 | exact HB.out _ ha⟩)
  have hp : 0 < l.length := List.length_pos_iff.2 hl0
  have hp' : (0 : Int) < (l.length : Int) := by omega
  rw [if_neg hl0] at hjd
  clear hl0
  by_cases hd1 : dateB c now = false
  · have hz1 : z = 1 := by rw [hjd, if_pos hd1]
    subst hz1
    have HD1 := Lib.hid hd1
    clear hjd hj2 hj3 ha2 hd1
    go_enter Tryz.func8, Tryz.ntmps8
    go_wp2_with (first
      | (go_at_call 38; with_reducible refine (dates_p HQ.out q7 c a1 c.names.length c1 now).mono ?_; rintro e w8 ⟨rfl, q8⟩; rw [HD1.out]; obtain ⟨⟨p80, p81, p82, p83, p84, p85⟩, hs8⟩ := q8.2.cells hp HE1.out; rw [HC.out] at p80 p81 p83 p84 p85 hs8; have HS8 := Lib.hid hs8; clear hs8)
      | (go_at_call 38; with_reducible refine (dates_p HQ.out q6 c a1 c.names.length c1 now).mono ?_; rintro e w7 ⟨rfl, q7⟩; rw [HD1.out]; obtain ⟨⟨p70, p71, p72, p73, p74, p75⟩, hs7⟩ := q7.2.cells hp HE1.out; rw [HC.out] at p70 p71 p73 p74 p75 hs7; have HS7 := Lib.hid hs7; clear hs7)
      | (go_at_call 34; with_reducible refine (HRD.out f1 _ h5).mono ?_; rintro e w6 ⟨A0, c0, nv, rfl, hc0, h6, hcr⟩; have HC0 := Lib.hid hc0; obtain ⟨g, off, rfl, hgl, _⟩ := hcr.at hp; obtain ⟨a1, c1, e1⟩ := hcr.form hp; rw [HC.out] at e1; have HE1 := Lib.hid e1; have HQ := Lib.hid (HP.out.and (Q := fun W => CR W (some ⟨g, off, none⟩) l nv) (fun h hb => h.step hb)); have q6 : P w6 ∧ CR w6 (some ⟨g, off, none⟩) l nv := ⟨h6, hcr⟩; obtain ⟨⟨p60, p61, p62, p63, p64, p65⟩, hs6⟩ := q6.2.cells hp HE1.out; rw [HC.out] at p60 p61 p63 p64 p65 hs6; have HS6 := Lib.hid hs6; clear hs6; clear hc0 hcr e1)
      | (go_at_call 32; with_reducible refine (HJ1.out f1 f2 _ ha).mono ?_; rintro e w5 ⟨rfl, h5⟩)
      | (go_at_call 30; refine (HAW.out _ (by assumption)).mono ?_; rintro e wa ⟨rfl, ha⟩)
      | (go_at_call 40; with_reducible refine (HL1.out _ H0.out).mono ?_; rintro e w1 ⟨hb1, h1⟩; have H1 := Lib.hid h1; rcases hb1 with ⟨rfl, f1⟩ | rfl)
      | (go_at_call 40; with_reducible refine (HL2.out _ H1.out).mono ?_; rintro e w2 ⟨hb2, h2⟩; have H2 := Lib.hid h2; rcases hb2 with ⟨rfl, f2⟩ | rfl)
      | (go_at_call 40; with_reducible refine (HL3.out _ H2.out).mono ?_; rintro e w3 ⟨hb3, h3⟩; have H3 := Lib.hid h3; rcases hb3 with ⟨rfl, f3⟩ | rfl)
      | (go_at_call 40; with_reducible refine (HL4.out _ H3.out).mono ?_; rintro e w4 ⟨hb4, h4⟩; have H4 := Lib.hid h4; rcases hb4 with ⟨rfl, f4⟩ | rfl))
    all_goals (go_ret; exact ⟨rfl, by first | exact HB.out _ q8.1 | exact HB.out _ ha⟩)
  rw [if_neg hd1] at hjd
  have HD1 := Lib.hid (show dateB c now = true by simpa using hd1)
  clear hd1
  by_cases hd2 : hostB c host = false
  · have hz1 : z = 2 := by rw [hjd, if_pos hd2]
    subst hz1
    have HD2 := Lib.hid hd2
    clear hjd hj2 hj3 ha2 hd2
    go_enter Tryz.func8, Tryz.ntmps8
    go_wp2_with (first
      | (go_at_call 38; with_reducible refine (dates_p HQ.out q8 c a1 c.names.length c1 now).mono ?_; rintro e w9 ⟨rfl, q9⟩; rw [HD1.out]; obtain ⟨⟨p90, p91, p92, p93, p94, p95⟩, hs9⟩ := q9.2.cells hp HE1.out; rw [HC.out] at p90 p91 p93 p94 p95 hs9; have HS9 := Lib.hid hs9; clear hs9)
      | (go_at_call 37; with_reducible refine (host_p HQ.out q7 c a1 c1 host HS7.out (HC.out ▸ HSH.out.at hp) HL.out).mono ?_; rintro e w8 ⟨rfl, q8⟩; rw [HD2.out]; obtain ⟨⟨p80, p81, p82, p83, p84, p85⟩, hs8⟩ := q8.2.cells hp HE1.out; rw [HC.out] at p80 p81 p83 p84 p85 hs8; have HS8 := Lib.hid hs8; clear hs8)
      | (go_at_call 38; with_reducible refine (dates_p HQ.out q6 c a1 c.names.length c1 now).mono ?_; rintro e w7 ⟨rfl, q7⟩; rw [HD1.out]; obtain ⟨⟨p70, p71, p72, p73, p74, p75⟩, hs7⟩ := q7.2.cells hp HE1.out; rw [HC.out] at p70 p71 p73 p74 p75 hs7; have HS7 := Lib.hid hs7; clear hs7)
      | (go_at_call 34; with_reducible refine (HRD.out f1 _ h5).mono ?_; rintro e w6 ⟨A0, c0, nv, rfl, hc0, h6, hcr⟩; have HC0 := Lib.hid hc0; obtain ⟨g, off, rfl, hgl, _⟩ := hcr.at hp; obtain ⟨a1, c1, e1⟩ := hcr.form hp; rw [HC.out] at e1; have HE1 := Lib.hid e1; have HQ := Lib.hid (HP.out.and (Q := fun W => CR W (some ⟨g, off, none⟩) l nv) (fun h hb => h.step hb)); have q6 : P w6 ∧ CR w6 (some ⟨g, off, none⟩) l nv := ⟨h6, hcr⟩; obtain ⟨⟨p60, p61, p62, p63, p64, p65⟩, hs6⟩ := q6.2.cells hp HE1.out; rw [HC.out] at p60 p61 p63 p64 p65 hs6; have HS6 := Lib.hid hs6; clear hs6; clear hc0 hcr e1)
      | (go_at_call 32; with_reducible refine (HJ1.out f1 f2 _ ha).mono ?_; rintro e w5 ⟨rfl, h5⟩)
      | (go_at_call 30; refine (HAW.out _ (by assumption)).mono ?_; rintro e wa ⟨rfl, ha⟩)
      | (go_at_call 40; with_reducible refine (HL1.out _ H0.out).mono ?_; rintro e w1 ⟨hb1, h1⟩; have H1 := Lib.hid h1; rcases hb1 with ⟨rfl, f1⟩ | rfl)
      | (go_at_call 40; with_reducible refine (HL2.out _ H1.out).mono ?_; rintro e w2 ⟨hb2, h2⟩; have H2 := Lib.hid h2; rcases hb2 with ⟨rfl, f2⟩ | rfl)
      | (go_at_call 40; with_reducible refine (HL3.out _ H2.out).mono ?_; rintro e w3 ⟨hb3, h3⟩; have H3 := Lib.hid h3; rcases hb3 with ⟨rfl, f3⟩ | rfl)
      | (go_at_call 40; with_reducible refine (HL4.out _ H3.out).mono ?_; rintro e w4 ⟨hb4, h4⟩; have H4 := Lib.hid h4; rcases hb4 with ⟨rfl, f4⟩ | rfl))
    all_goals (go_ret; exact ⟨rfl, by first | exact HB.out _ q9.1 | exact HB.out _ ha⟩)
  rw [if_neg hd2] at hjd
  have HD2 := Lib.hid (show hostB c host = true by simpa using hd2)
  clear hd2
  by_cases hd3 : anchB l now an = false
  · have hz1 : z = 3 := by rw [hjd, if_pos hd3]
    subst hz1
    have HD3 := Lib.hid hd3
    clear hjd hj2 hj3 ha2 hd3
    go_enter Tryz.func8, Tryz.ntmps8
    go_wp2_with (first
      | (go_at_call 38; with_reducible refine (dates_p HQ.out q9 c a1 c.names.length c1 now).mono ?_; rintro e w10 ⟨rfl, q10⟩; rw [HD1.out]; obtain ⟨⟨p100, p101, p102, p103, p104, p105⟩, hs10⟩ := q10.2.cells hp HE1.out; rw [HC.out] at p100 p101 p103 p104 p105 hs10; have HS10 := Lib.hid hs10; clear hs10)
      | (go_at_call 36; with_reducible refine (anch_p HQ.out q8 now q8.2 HSH.out HC0.out (HX2.out _ q8.1) (Nat.le_trans f2.len (by decide))).mono ?_; rintro e w9 ⟨rfl, q9⟩; rw [HD3.out]; obtain ⟨⟨p90, p91, p92, p93, p94, p95⟩, hs9⟩ := q9.2.cells hp HE1.out; rw [HC.out] at p90 p91 p93 p94 p95 hs9; have HS9 := Lib.hid hs9; clear hs9)
      | (go_at_call 37; with_reducible refine (host_p HQ.out q7 c a1 c1 host HS7.out (HC.out ▸ HSH.out.at hp) HL.out).mono ?_; rintro e w8 ⟨rfl, q8⟩; rw [HD2.out]; obtain ⟨⟨p80, p81, p82, p83, p84, p85⟩, hs8⟩ := q8.2.cells hp HE1.out; rw [HC.out] at p80 p81 p83 p84 p85 hs8; have HS8 := Lib.hid hs8; clear hs8)
      | (go_at_call 38; with_reducible refine (dates_p HQ.out q6 c a1 c.names.length c1 now).mono ?_; rintro e w7 ⟨rfl, q7⟩; rw [HD1.out]; obtain ⟨⟨p70, p71, p72, p73, p74, p75⟩, hs7⟩ := q7.2.cells hp HE1.out; rw [HC.out] at p70 p71 p73 p74 p75 hs7; have HS7 := Lib.hid hs7; clear hs7)
      | (go_at_call 34; with_reducible refine (HRD.out f1 _ h5).mono ?_; rintro e w6 ⟨A0, c0, nv, rfl, hc0, h6, hcr⟩; have HC0 := Lib.hid hc0; obtain ⟨g, off, rfl, hgl, _⟩ := hcr.at hp; obtain ⟨a1, c1, e1⟩ := hcr.form hp; rw [HC.out] at e1; have HE1 := Lib.hid e1; have HQ := Lib.hid (HP.out.and (Q := fun W => CR W (some ⟨g, off, none⟩) l nv) (fun h hb => h.step hb)); have q6 : P w6 ∧ CR w6 (some ⟨g, off, none⟩) l nv := ⟨h6, hcr⟩; obtain ⟨⟨p60, p61, p62, p63, p64, p65⟩, hs6⟩ := q6.2.cells hp HE1.out; rw [HC.out] at p60 p61 p63 p64 p65 hs6; have HS6 := Lib.hid hs6; clear hs6; clear hc0 hcr e1)
      | (go_at_call 32; with_reducible refine (HJ1.out f1 f2 _ ha).mono ?_; rintro e w5 ⟨rfl, h5⟩)
      | (go_at_call 30; refine (HAW.out _ (by assumption)).mono ?_; rintro e wa ⟨rfl, ha⟩)
      | (go_at_call 40; with_reducible refine (HL1.out _ H0.out).mono ?_; rintro e w1 ⟨hb1, h1⟩; have H1 := Lib.hid h1; rcases hb1 with ⟨rfl, f1⟩ | rfl)
      | (go_at_call 40; with_reducible refine (HL2.out _ H1.out).mono ?_; rintro e w2 ⟨hb2, h2⟩; have H2 := Lib.hid h2; rcases hb2 with ⟨rfl, f2⟩ | rfl)
      | (go_at_call 40; with_reducible refine (HL3.out _ H2.out).mono ?_; rintro e w3 ⟨hb3, h3⟩; have H3 := Lib.hid h3; rcases hb3 with ⟨rfl, f3⟩ | rfl)
      | (go_at_call 40; with_reducible refine (HL4.out _ H3.out).mono ?_; rintro e w4 ⟨hb4, h4⟩; have H4 := Lib.hid h4; rcases hb4 with ⟨rfl, f4⟩ | rfl))
    all_goals (go_ret; exact ⟨rfl, by first | exact HB.out _ q10.1 | exact HB.out _ ha⟩)
  rw [if_neg hd3] at hjd
  have HD3 := Lib.hid (show anchB l now an = true by simpa using hd3)
  have HA2 := Lib.hid (ha2 HD3.out)
  subst hjd
  have HJ2 := Lib.hid (hj2 rfl)
  have HJ3 := Lib.hid (hj3 rfl)
  clear hd3 ha2 hj2 hj3
  go_enter Tryz.func8, Tryz.ntmps8
  go_wp2_with (first
    | (go_at_call 36; with_reducible refine (anch_more HQ3.out qg now qg.1.1.2 HSH.out HC0.out qg.1.2 f3.len f2.len HA2.out).mono ?_; rintro e wh ⟨rfl, qh⟩)
    | (go_at_call 32; with_reducible refine (judge_behind HQ3.out qf now qf.2 f1 f4 HC6.out HL.out (HX2.out _ qf.1.1.1) f2.len HJ3.out).mono ?_; rintro e wg ⟨rfl, qg⟩)
    | (go_at_call 32; with_reducible refine (judge_more HQ3.out qe2 now (HX1.out _ qe2.1.1.1) f1 HCP.out HL.out qe2.1.2 f3.len f2.len HJ2.out).mono ?_; rintro e wf ⟨rfl, qf⟩)
    | (at_builtin; refine stepApp (v := .slice A3 chain.length c5) (xv := .slice D behind.length dc) rfl _ _ 25 rfl rfl rfl HR4.out ?_)
    | (at_builtin; refine stepApp (v := .slice (some ⟨wc.heap.size, 0, none⟩) 0 0) (xv := .slice A chain.length cp) rfl _ _ 25 rfl rfl rfl HR3.out ?_)
    | (at_builtin; refine stepApp (v := .slice A1 more.length c3) (xv := .slice B an.length bc) rfl _ _ 25 rfl rfl rfl HR2.out ?_)
    | (at_builtin; refine stepApp (v := .slice (some ⟨w10.heap.size, 0, none⟩) 0 0) (xv := .slice C more.length cc) rfl _ _ 25 rfl rfl rfl HR1.out ?_)
    | (go_at_call 38; with_reducible refine (dates_p HQ.out q9 c a1 c.names.length c1 now).mono ?_; rintro e w10 ⟨rfl, q10⟩; rw [HD1.out]; obtain ⟨A1, c3, wb, A2, c4, wc, hr1, hr2, qc, hx5, hc5⟩ := app_two HQ.out q10 (HX3.out _ q10.1) (HX2.out _ q10.1) f3.len f2.len; have HQ2 := Lib.hid (HQ.out.and (Q := fun W => SX W (.slice A2 (more.length + an.length) c4) (more ++ an)) (fun h hb => h.step hb)); obtain ⟨A3, c5, wd, A4, c6, we, hr3, hr4, qe, hx6, hc6⟩ := app_two HQ2.out ⟨qc, hx5⟩ (HX1.out _ qc.1) (HX4.out _ qc.1) f1.len f4.len; have HQ3 := Lib.hid (HQ2.out.and (Q := fun W => SX W (.slice A4 (chain.length + behind.length) c6) (chain ++ behind)) (fun h hb => h.step hb)); have qe2 : ((P we ∧ CR we (some ⟨g, off, none⟩) l nv) ∧ SX we (.slice A2 (more.length + an.length) c4) (more ++ an)) ∧ SX we (.slice A4 (chain.length + behind.length) c6) (chain ++ behind) := ⟨qe, hx6⟩; have HR1 := Lib.hid hr1; have HR2 := Lib.hid hr2; have HR3 := Lib.hid hr3; have HR4 := Lib.hid hr4; have HC6 := Lib.hid hc6; clear hr1 hr2 hr3 hr4 hc5 hc6 hx5 hx6 qc qe)
    | (go_at_call 36; with_reducible refine (anch_p HQ.out q8 now q8.2 HSH.out HC0.out (HX2.out _ q8.1) (Nat.le_trans f2.len (by decide))).mono ?_; rintro e w9 ⟨rfl, q9⟩; rw [HD3.out]; obtain ⟨⟨p90, p91, p92, p93, p94, p95⟩, hs9⟩ := q9.2.cells hp HE1.out; rw [HC.out] at p90 p91 p93 p94 p95 hs9; have HS9 := Lib.hid hs9; clear hs9)
    | (go_at_call 37; with_reducible refine (host_p HQ.out q7 c a1 c1 host HS7.out (HC.out ▸ HSH.out.at hp) HL.out).mono ?_; rintro e w8 ⟨rfl, q8⟩; rw [HD2.out]; obtain ⟨⟨p80, p81, p82, p83, p84, p85⟩, hs8⟩ := q8.2.cells hp HE1.out; rw [HC.out] at p80 p81 p83 p84 p85 hs8; have HS8 := Lib.hid hs8; clear hs8)
    | (go_at_call 38; with_reducible refine (dates_p HQ.out q6 c a1 c.names.length c1 now).mono ?_; rintro e w7 ⟨rfl, q7⟩; rw [HD1.out]; obtain ⟨⟨p70, p71, p72, p73, p74, p75⟩, hs7⟩ := q7.2.cells hp HE1.out; rw [HC.out] at p70 p71 p73 p74 p75 hs7; have HS7 := Lib.hid hs7; clear hs7)
    | (go_at_call 34; with_reducible refine (HRD.out f1 _ h5).mono ?_; rintro e w6 ⟨A0, c0, nv, rfl, hc0, h6, hcr⟩; have HC0 := Lib.hid hc0; obtain ⟨g, off, rfl, hgl, _⟩ := hcr.at hp; obtain ⟨a1, c1, e1⟩ := hcr.form hp; rw [HC.out] at e1; have HE1 := Lib.hid e1; have HQ := Lib.hid (HP.out.and (Q := fun W => CR W (some ⟨g, off, none⟩) l nv) (fun h hb => h.step hb)); have q6 : P w6 ∧ CR w6 (some ⟨g, off, none⟩) l nv := ⟨h6, hcr⟩; obtain ⟨⟨p60, p61, p62, p63, p64, p65⟩, hs6⟩ := q6.2.cells hp HE1.out; rw [HC.out] at p60 p61 p63 p64 p65 hs6; have HS6 := Lib.hid hs6; clear hs6; clear hc0 hcr e1)
    | (go_at_call 32; with_reducible refine (HJ1.out f1 f2 _ ha).mono ?_; rintro e w5 ⟨rfl, h5⟩)
    | (go_at_call 30; refine (HAW.out _ (by assumption)).mono ?_; rintro e wa ⟨rfl, ha⟩)
    | (go_at_call 40; with_reducible refine (HL1.out _ H0.out).mono ?_; rintro e w1 ⟨hb1, h1⟩; have H1 := Lib.hid h1; rcases hb1 with ⟨rfl, f1⟩ | rfl)
    | (go_at_call 40; with_reducible refine (HL2.out _ H1.out).mono ?_; rintro e w2 ⟨hb2, h2⟩; have H2 := Lib.hid h2; rcases hb2 with ⟨rfl, f2⟩ | rfl)
    | (go_at_call 40; with_reducible refine (HL3.out _ H2.out).mono ?_; rintro e w3 ⟨hb3, h3⟩; have H3 := Lib.hid h3; rcases hb3 with ⟨rfl, f3⟩ | rfl)
    | (go_at_call 40; with_reducible refine (HL4.out _ H3.out).mono ?_; rintro e w4 ⟨hb4, h4⟩; have H4 := Lib.hid h4; rcases hb4 with ⟨rfl, f4⟩ | rfl))
  all_goals (go_ret; exact ⟨rfl, by first | exact HB.out _ qh.1.1.1 | exact HB.out _ ha⟩)
end Go.Proofs.YtoinicmhkfomjaaGreatDoor
