/-
  TrustTimes, walked.
-/
import Derived.Test.YtoinicmhkfomjaaGreatDoorJWm
namespace Go.Proofs.YtoinicmhkfomjaaGreatDoor
set_option linter.unusedSimpArgs false
set_option linter.unusedVariables false
open Go Go.RowKit
set_option maxRecDepth 100000

set_option maxHeartbeats 8000000 in
theorem trustTimes_walk {w : World} (chain : List (List UInt8)) (A : Option Addr) (cp : Nat) (hi : TI w A chain cp) (host : List UInt8) (hh : host.length ≤ 140737488351232) {a b c : Int} (_ : -9223372036854775808 ≤ a ∧ a ≤ 9223372036854775807) (_ : -9223372036854775808 ≤ b ∧ b ≤ 9223372036854775807) (_ : -9223372036854775808 ≤ c ∧ c ≤ 9223372036854775807)
    (an : List (List UInt8)) (B : Option Addr) (bc : Nat) (hj : TI w B an bc) (hgl : GL w) (hlw : LWc w) :
    Calls Tryz.prog 10 #[.slice A chain.length cp, sv host, .int .i64 a, .int .i64 b, .int .i64 c, .slice B an.length bc] w fun e w' => e = .returned (.bool true) ∧ Below w.heap.size w w' := by
  have hz := str_size host
  obtain ⟨P, hPe⟩ : ∃ P : World → Prop, P = fun W => Ga w W ∧ (SX W (.slice A chain.length cp) chain ∧ SX W (.slice B an.length bc) an) := ⟨_, rfl⟩
  have HP := Lib.hid (show Ca P by rw [hPe]; exact Ca.mk0.and (fun h hb => ⟨h.1.step hb, h.2.step hb⟩))
  have H0 := Lib.hid (show P w by rw [hPe]; exact ⟨Ga.start ⟨hgl, hlw⟩, hi.sx, hj.sx⟩)
  have HB := Lib.hid (show ∀ W, P W → Below w.heap.size w W by rw [hPe]; exact fun W h => h.1.1)
  have HC := Lib.hid (show ∀ W, P W → SX W (.slice A chain.length cp) chain by rw [hPe]; exact fun W h => h.2.1)
  have HA := Lib.hid (show ∀ W, P W → SX W (.slice B an.length bc) an by rw [hPe]; exact fun W h => h.2.2)
  have HL1 := Lib.hid (fun W (h : P W) => jlong_p h (HC.out W h) hi.len hi.each)
  have HL2 := Lib.hid (fun W (h : P W) => jlong_p h (HA.out W h) hj.len hj.each)
  have HAW := Lib.hid (fun W (h : P W) => jawake_p HP.out h)
  have HCP := Lib.hid hi.cap
  have HT := Lib.hid (fun h1 h2 h3 h4 => @judge_between chain host a b c an h1 h2 h3 h4)
  obtain ⟨n1, hn1⟩ : ∃ n, n = chain.length := ⟨_, rfl⟩
  obtain ⟨n2, hn2⟩ : ∃ n, n = an.length := ⟨_, rfl⟩
  have HN1 := Lib.hid hn1
  have HN2 := Lib.hid hn2
  have HJ := Lib.hid (fun (hl3 : host.length ≤ 3000) now (f1 : few5 chain) (f2 : few5 an) W (h : P W) => judge_p HP.out h now (HC.out W h) f1 hi.cap hl3 (HA.out W h) (by have := f2.1; omega))
  rw [← hn1] at HL1 HJ ⊢
  rw [← hn2] at HL2 HJ ⊢
  by_cases hl : 3000 < host.length
  · have hl' : (3000 : Int) < (host.length : Int) := by omega
    clear hPe hi hj hgl hlw hn1 hn2
    go_enter Tryz.func10, Tryz.ntmps10
    go_wp2_with (first
      | (go_at_call 30; refine (HAW.out _ (by assumption)).mono ?_; rintro e w3 ⟨rfl, h3⟩)
      | (go_at_call 40; with_reducible refine (HL1.out _ H0.out).mono ?_; rintro e w1 ⟨hb1, h1⟩; have H1 := Lib.hid h1; rcases hb1 with ⟨rfl, f1⟩ | rfl)
      | (go_at_call 40; with_reducible refine (HL2.out _ H1.out).mono ?_; rintro e w2 ⟨hb2, h2⟩; have H2 := Lib.hid h2; rcases hb2 with ⟨rfl, f2⟩ | rfl))
    all_goals (go_ret; exact ⟨rfl, HB.out _ h3⟩)
  · have hl' : ¬ (3000 : Int) < (host.length : Int) := by omega
    have hl3 : host.length ≤ 3000 := by omega
    have HJ2 := Lib.hid (HJ.out hl3)
    obtain ⟨za, hza⟩ : ∃ z, z = judgeN chain host a an := ⟨_, rfl⟩
    obtain ⟨zb, hzb⟩ : ∃ z, z = judgeN chain host b an := ⟨_, rfl⟩
    obtain ⟨zc, hzc⟩ : ∃ z, z = judgeN chain host c an := ⟨_, rfl⟩
    have HJA := Lib.hid (HJ2.out a)
    have HJB := Lib.hid (HJ2.out b)
    have HJC := Lib.hid (HJ2.out c)
    rw [← hza] at HJA HT
    rw [← hzb] at HJB HT
    rw [← hzc] at HJC HT
    clear hPe hi hj hgl hlw hn1 hn2 hza hzb hzc HJ HJ2 hl hl3
    by_cases hab : b < a
    · go_enter Tryz.func10, Tryz.ntmps10
      go_wp2_with (first
      | (go_at_call 30; refine (HAW.out _ (by assumption)).mono ?_; rintro e w3 ⟨rfl, h3⟩)
      | (go_at_call 40; with_reducible refine (HL1.out _ H0.out).mono ?_; rintro e w1 ⟨hb1, h1⟩; have H1 := Lib.hid h1; rcases hb1 with ⟨rfl, f1⟩ | rfl)
      | (go_at_call 40; with_reducible refine (HL2.out _ H1.out).mono ?_; rintro e w2 ⟨hb2, h2⟩; have H2 := Lib.hid h2; rcases hb2 with ⟨rfl, f2⟩ | rfl))
      all_goals (go_ret; exact ⟨rfl, HB.out _ h3⟩)
    by_cases hbc : c < b
    · go_enter Tryz.func10, Tryz.ntmps10
      go_wp2_with (first
      | (go_at_call 30; refine (HAW.out _ (by assumption)).mono ?_; rintro e w3 ⟨rfl, h3⟩)
      | (go_at_call 40; with_reducible refine (HL1.out _ H0.out).mono ?_; rintro e w1 ⟨hb1, h1⟩; have H1 := Lib.hid h1; rcases hb1 with ⟨rfl, f1⟩ | rfl)
      | (go_at_call 40; with_reducible refine (HL2.out _ H1.out).mono ?_; rintro e w2 ⟨hb2, h2⟩; have H2 := Lib.hid h2; rcases hb2 with ⟨rfl, f2⟩ | rfl))
      all_goals (go_ret; exact ⟨rfl, HB.out _ h3⟩)
    by_cases ha : za = 0
    case neg =>
      have ha' : ((za : Int) != 0) = true := by rw [bne_iff_ne]; omega
      have ha2 : ¬ (za : Int) = 0 := by omega
      go_enter Tryz.func10, Tryz.ntmps10
      go_wp2_with (first
      | (go_at_call 30; refine (HAW.out _ (by assumption)).mono ?_; rintro e w3 ⟨rfl, h3⟩)
      | (go_at_call 40; with_reducible refine (HL1.out _ H0.out).mono ?_; rintro e w1 ⟨hb1, h1⟩; have H1 := Lib.hid h1; rcases hb1 with ⟨rfl, f1⟩ | rfl)
      | (go_at_call 40; with_reducible refine (HL2.out _ H1.out).mono ?_; rintro e w2 ⟨hb2, h2⟩; have H2 := Lib.hid h2; rcases hb2 with ⟨rfl, f2⟩ | rfl)
      | (go_at_call 32; with_reducible refine (HJA.out f1 f2 _ h3).mono ?_; rintro e w4 ⟨rfl, h4⟩))
      all_goals (go_ret; exact ⟨rfl, by first | exact HB.out _ h4 | exact HB.out _ h3⟩)
    subst ha
    by_cases hc : zc = 0
    case neg =>
      have hc' : ((zc : Int) != 0) = true := by rw [bne_iff_ne]; omega
      have hc2 : ¬ (zc : Int) = 0 := by omega
      go_enter Tryz.func10, Tryz.ntmps10
      go_wp2_with (first
      | (go_at_call 30; refine (HAW.out _ (by assumption)).mono ?_; rintro e w3 ⟨rfl, h3⟩)
      | (go_at_call 40; with_reducible refine (HL1.out _ H0.out).mono ?_; rintro e w1 ⟨hb1, h1⟩; have H1 := Lib.hid h1; rcases hb1 with ⟨rfl, f1⟩ | rfl)
      | (go_at_call 40; with_reducible refine (HL2.out _ H1.out).mono ?_; rintro e w2 ⟨hb2, h2⟩; have H2 := Lib.hid h2; rcases hb2 with ⟨rfl, f2⟩ | rfl)
      | (go_at_call 32; with_reducible refine (HJC.out f1 f2 _ h4).mono ?_; rintro e w5 ⟨rfl, h5⟩)
      | (go_at_call 32; with_reducible refine (HJA.out f1 f2 _ h3).mono ?_; rintro e w4 ⟨rfl, h4⟩))
      all_goals (go_ret; exact ⟨rfl, by first | exact HB.out _ h5 | exact HB.out _ h4 | exact HB.out _ h3⟩)
    subst hc
    have hb0 : zb = 0 := HT.out (by omega) (by omega) rfl rfl
    subst hb0
    clear HT
    go_enter Tryz.func10, Tryz.ntmps10
    go_wp2_with (first
      | (go_at_call 30; refine (HAW.out _ (by assumption)).mono ?_; rintro e w3 ⟨rfl, h3⟩)
      | (go_at_call 40; with_reducible refine (HL1.out _ H0.out).mono ?_; rintro e w1 ⟨hb1, h1⟩; have H1 := Lib.hid h1; rcases hb1 with ⟨rfl, f1⟩ | rfl)
      | (go_at_call 40; with_reducible refine (HL2.out _ H1.out).mono ?_; rintro e w2 ⟨hb2, h2⟩; have H2 := Lib.hid h2; rcases hb2 with ⟨rfl, f2⟩ | rfl)
      | (go_at_call 32; with_reducible refine (HJB.out f1 f2 _ h5).mono ?_; rintro e w6 ⟨rfl, h6⟩)
      | (go_at_call 32; with_reducible refine (HJC.out f1 f2 _ h4).mono ?_; rintro e w5 ⟨rfl, h5⟩)
      | (go_at_call 32; with_reducible refine (HJA.out f1 f2 _ h3).mono ?_; rintro e w4 ⟨rfl, h4⟩))
    all_goals (go_ret; exact ⟨rfl, by first | exact HB.out _ h6 | exact HB.out _ h5 | exact HB.out _ h4 | exact HB.out _ h3⟩)
end Go.Proofs.YtoinicmhkfomjaaGreatDoor
