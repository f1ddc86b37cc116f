/-
  TrustStar, walked.
-/
import Derived.Test.YtoinicmhkfomjaaGreatDoorJStarP
namespace Go.Proofs.YtoinicmhkfomjaaGreatDoor
set_option linter.unusedSimpArgs false
set_option linter.unusedVariables false
open Go Go.RowKit
set_option maxRecDepth 100000

section
variable {P : World → Prop} {W : World} (hP : Ca P) (h : P W)
include hP h
theorem owns_p {names : List (List UInt8)} {g off cp : Nat} (hx : SX W (.slice (some ⟨g, off, none⟩) names.length cp) names) {k : Nat} (hk : k < names.length) {s : List UInt8} (hs : names.getD k [] = s) (hl : s.length ≤ 6000) (t : List UInt8) (ht : t.length ≤ 6000) (c' : Nat) :
    Calls Tryz.prog 37 #[.agg #[.string { data := #[] }, .string { data := #[] }, .slice (some ⟨g, off + k, none⟩) 1 c', .int .i64 0, .int .i64 0, .bool false], sv t] W fun e w' => e = .returned (.bool (ownsB t s)) ∧ P w' := by
  have hx1 : SX W (.slice (some ⟨g, off + k, none⟩) 1 c') [s] := by
    obtain ⟨g', off', e, hg, c0⟩ := hx.at hk
    cases e
    refine ⟨_, _, rfl, fun _ => ⟨g, off + k, rfl, hg, fun j hj => ?_⟩⟩
    obtain rfl : j = 0 := by simp at hj; exact hj
    rw [Nat.add_zero]
    rw [hs] at c0; exact c0
  have := @host_any W (namesC [s]) (some ⟨g, off + k, none⟩) c' t hx1 ⟨(by show 0 ≤ 1000000; decide), (by show 0 ≤ 1000000; decide), (by show 1 ≤ 1000000; decide), fun n hn => by rw [List.mem_singleton.1 hn]; omega⟩ (by omega) (hP.ga h).ml
  rw [namesC_one] at this
  exact this.mono fun e w' ⟨h1, h2⟩ => ⟨h1, hP.step h h2⟩
theorem owns_own {s : List UInt8} (hl : s.length ≤ 6000) (k c' : Nat) (hx : SX W (.slice (some ⟨k, 0, none⟩) 1 c') [s]) :
    Calls Tryz.prog 37 #[.agg #[.string { data := #[] }, .string { data := #[] }, .slice (some ⟨k, 0, none⟩) 1 c', .int .i64 0, .int .i64 0, .bool false], sv s] W fun e w' => e = .returned (.bool (ownsB s s)) ∧ P w' := by
  have := @host_any W (namesC [s]) (some ⟨k, 0, none⟩) c' s hx ⟨(by show 0 ≤ 1000000; decide), (by show 0 ≤ 1000000; decide), (by show 1 ≤ 1000000; decide), fun n hn => by rw [List.mem_singleton.1 hn]; omega⟩ (by omega) (hP.ga h).ml
  rw [namesC_one] at this
  exact this.mono fun e w' ⟨h1, h2⟩ => ⟨h1, hP.step h h2⟩
theorem owns_all {names : List (List UInt8)} {A : Option Addr} {cp : Nat} (hx : SX W (.slice A names.length cp) names) (hl : few5 names) (t : List UInt8) (ht : t.length ≤ 6000) :
    Calls Tryz.prog 37 #[.agg #[.string { data := #[] }, .string { data := #[] }, .slice A names.length cp, .int .i64 0, .int .i64 0, .bool false], sv t] W fun e w' => e = .returned (.bool (names.any (ownsB t))) ∧ P w' :=
  (@host_any W (namesC names) A cp t hx ⟨(by show 0 ≤ 1000000; decide), (by show 0 ≤ 1000000; decide), Nat.le_trans hl.1 (by decide), fun n hn => Nat.le_trans (hl.2 n hn) (by decide)⟩ (by omega) (hP.ga h).ml).mono fun e w' ⟨h1, h2⟩ => ⟨h1, hP.step h h2⟩
end
theorem index_byte {s : List UInt8} {k : Nat} (hk : k < s.length) {b : UInt8} (hb : s.getD k 0 = b) : (((str s)[k]'(by simpa [ByteArray.size] using hk)).toNat) = b.toNat := by rw [str_getD s k hk, hb]
set_option maxHeartbeats 16000000 in
theorem trustStar_walk {w : World} (names : List (List UInt8)) (A : Option Addr) (cp : Nat) (hi : TI w A names cp) (host : List UInt8) (hh : host.length ≤ 140737488351232) (hgl : GL w) (hlw : LWc w) :
    Calls Tryz.prog 11 #[.slice A names.length cp, sv host] w fun e w' => e = .returned (.bool true) ∧ Below w.heap.size w w' := by
  have hz := str_size host
  obtain ⟨P, hPe⟩ : ∃ P : World → Prop, P = fun W => Ga w W ∧ SX W (.slice A names.length cp) names := ⟨_, rfl⟩
  have HP := Lib.hid (show Ca P by rw [hPe]; exact Ca.mk0.and (fun h hb => h.step hb))
  have H0 := Lib.hid (show P w by rw [hPe]; exact ⟨Ga.start ⟨hgl, hlw⟩, hi.sx⟩)
  have HB := Lib.hid (show ∀ W, P W → Below w.heap.size w W by rw [hPe]; exact fun W h => h.1.1)
  have HX := Lib.hid (show ∀ W, P W → SX W (.slice A names.length cp) names by rw [hPe]; exact fun W h => h.2)
  have HL1 := Lib.hid (fun W (h : P W) => jlong_p h (HX.out W h) hi.len hi.each)
  have HAW := Lib.hid (fun W (h : P W) => jawake_p HP.out h)
  have HCP := Lib.hid hi.cap
  clear hPe hi hgl hlw
  by_cases hl : 3000 < host.length
  · have hl' : (3000 : Int) < (host.length : Int) := by omega
    go_enter Tryz.func11, Tryz.ntmps11
    go_wp2_with (first
      | (go_at_call 30; refine (HAW.out _ (by assumption)).mono ?_; rintro e wa ⟨rfl, ha⟩)
      | (go_at_call 40; with_reducible refine (HL1.out _ H0.out).mono ?_; rintro e w1 ⟨hb1, h1⟩; rcases hb1 with ⟨rfl, f1⟩ | rfl))
    all_goals (go_ret; exact ⟨rfl, HB.out _ ha⟩)
  have hl' : ¬ (3000 : Int) < (host.length : Int) := by omega
  have hl3 : host.length ≤ 3000 := by omega
  have HL := Lib.hid hl3
  clear hl
  go_enter Tryz.func11, Tryz.ntmps11
  go_wp2_with (first
    | (go_at_call 30; refine (HAW.out _ (by assumption)).mono ?_; rintro e wa ⟨rfl, ha⟩)
    | (go_at_call 40; with_reducible refine (HL1.out _ H0.out).mono ?_; rintro e w1 ⟨hb1, h1⟩; rcases hb1 with ⟨rfl, f1⟩ | rfl))
  · go_loop [6, 7] (fun d i => ∃ k : Nat, k ≤ host.length ∧ i = .int .i64 (k : Int) ∧ d = .int .i64 ((dotN (host.take k) : Nat) : Int)) (fun _ i => host.length - (intOf i).toNat)
    case atStart => exact ⟨0, Nat.zero_le _, rfl, rfl⟩
    case round =>
      obtain ⟨k, hk, rfl, rfl⟩ := hrel
      by_cases hlt : k < host.length
      · obtain ⟨b, hb⟩ : ∃ b, host.getD k 0 = b := ⟨_, rfl⟩
        have hcs := index_byte hlt hb
        have HT := Lib.hid (dotN_take hlt)
        rw [hb] at HT
        have hlt' : (k : Int) < (host.length : Int) := by omega
        obtain ⟨d, hd⟩ : ∃ d, d = dotN (host.take k) := ⟨_, rfl⟩
        have hdl : d ≤ 3000 := by have := dotN_le (host.take k); rw [List.length_take] at this; omega
        rw [← hd] at HT ⊢
        clear hd hb
        by_cases h46 : b = 46
        · subst h46
          have hcs2 : (((str host)[k]'(by simpa [ByteArray.size] using hlt)).toNat) = 46 := hcs
          go_wp2_with fail
          go_round
          case rel => exact ⟨k + 1, by omega, by go_num, by rw [HT.out]; go_num⟩
          case measure => simp [intOf]; omega
        · have hb2 : ¬ (b.toNat : Int) = 46 := fun e => h46 (u8_eq (by show b.toNat = 46; omega))
          have hb3 : ((b.toNat : Int) == 46) = false := by rw [beq_eq_false_iff_ne]; exact hb2
          rw [if_neg h46, Nat.add_zero] at HT
          go_wp2_with fail
          go_round
          case rel => exact ⟨k + 1, by omega, by go_num, by rw [HT.out]; rfl⟩
          case measure => simp [intOf]; omega
      · obtain rfl : k = host.length := by omega
        rw [List.take_length]
        obtain ⟨D, hD⟩ : ∃ D, D = dotN host := ⟨_, rfl⟩
        rw [← hD]
        have hDl : D ≤ 3000 := by have := dotN_le host; omega
        have HD := Lib.hid hD
        have F1 := Lib.hid f1
        have HA := Lib.hid ha
        clear hD f1 ha h1
        go_wp2_with fail
        go_loopw [5, 8] (fun v i wr => ∃ k : Nat, k ≤ names.length ∧ i = .int .i64 (k : Int) ∧ v = .bool ((names.take k).any (ownsB host)) ∧ P wr) (fun _ i _ => names.length - (intOf i).toNat)
        case atStart => exact ⟨0, Nat.zero_le _, rfl, rfl, HA.out⟩
        case round =>
          obtain ⟨k, hk, rfl, rfl, hp⟩ := hrel
          obtain ⟨B, hB⟩ : ∃ B, B = (names.take k).any (ownsB host) := ⟨_, rfl⟩
          rw [← hB]
          have HBB := Lib.hid hB
          have HPW := Lib.hid hp
          clear hB
          by_cases hlt : k < names.length
          · obtain ⟨g, off, rfl, hg, c0⟩ := (HX.out _ hp).at hlt
            have hlt' : (k : Int) < (names.length : Int) := by omega
            obtain ⟨s, hs⟩ : ∃ s, s = names.getD k [] := ⟨_, rfl⟩
            rw [← hs] at c0
            have hsl : s.length ≤ 6000 := by rw [hs]; exact F1.out.2 _ (mem_getD hlt)
            have HS := Lib.hid hs.symm
            have HAT := Lib.hid (any_take (p := ownsB host) hlt)
            rw [← hs, ← HBB.out] at HAT
            have hzs := str_size s
            have hnl : names.length ≤ 1200 := F1.out.1
            have hcp : names.length ≤ cp := HCP.out
            obtain ⟨m, hm⟩ : ∃ m, m = k + 1 := ⟨_, rfl⟩
            have hwk : IntKind.i64.wrap ((k : Int) + 1) = (m : Int) := by rw [show (k : Int) + 1 = (m : Int) by omega]; simp [IntKind.wrap, IntKind.bits, IntKind.signed]; omega
            have hmk : (k : Int) ≤ (m : Int) := by omega
            have hmc : (m : Int) ≤ (cp : Int) := by omega
            have hmk2 : m - k = 1 := by omega
            have hcpk : ¬ cp = k := by omega
            clear hs
            have HO := Lib.hid (fun W (h : P W) c' => owns_p HP.out h (HX.out _ h) hlt HS.out hsl host (by omega) c')
            have HMK := Lib.hid hm
            obtain ⟨b, hb⟩ : ∃ b, b = ownsB host s := ⟨_, rfl⟩
            rw [← hb] at HO HAT
            clear hm
            cases hst : starred s with
            | true =>
              have hsf := star_form hst
              have hs2 : 2 ≤ s.length := by rw [hsf]; simp
              have hl2 : (1 : Int) < (s.length : Int) := by omega
              have hl2c : (2 : Int) ≤ (s.length : Int) := by omega
              have hex2 : (str s).extract 0 2 = str [42, 46] := by
                rw [str_extract]; conv => lhs; rw [hsf]
                rfl
              have hex3 : (str s).extract 2 s.length = str (s.drop 2) := by rw [str_extract, List.take_length]
              have HO2 := Lib.hid (fun W (h : P W) c' => show Calls Tryz.prog 37 _ W (fun e w' => e = .returned (.bool false) ∧ P w') from by
                have := owns_p HP.out h (HX.out _ h) hlt HS.out hsl (s.drop 2) (by rw [List.length_drop]; omega) c'
                rw [star_above hst] at this
                exact this)
              have HSD := Lib.hid (show b = true → D = dotN s ∧ 2 ≤ dotN s from fun h => by
                obtain ⟨h1, h2⟩ := star_dots hst (by rw [← hb]; exact h)
                exact ⟨by rw [HD.out, h1], h2⟩)
              obtain ⟨q, hq⟩ : ∃ q, q = s.drop 2 := ⟨_, rfl⟩
              rw [← hq] at hex3 HO2
              clear hsf hq hb hst
              cases B
              all_goals cases b
              · skip
                go_wp2_with (go_at_call 37; refine (HO.out _ HPW.out (cp - k)).mono ?_; rintro e w2 ⟨rfl, hp2⟩; have HP2 := Lib.hid hp2; clear hp2)
                go_loop [11, 12] (fun d i => ∃ k : Nat, k ≤ s.length ∧ i = .int .i64 (k : Int) ∧ d = .int .i64 ((dotN (s.take k) : Nat) : Int)) (fun _ i => s.length - (intOf i).toNat)
                case atStart => exact ⟨0, Nat.zero_le _, rfl, rfl⟩
                case round =>
                  obtain ⟨j, hj, rfl, rfl⟩ := hrel
                  by_cases hjt : j < s.length
                  · obtain ⟨y, hy⟩ : ∃ y, s.getD j 0 = y := ⟨_, rfl⟩
                    have hcs := index_byte hjt hy
                    have HT := Lib.hid (dotN_take hjt)
                    rw [hy] at HT
                    have hjt' : (j : Int) < (s.length : Int) := by omega
                    obtain ⟨d, hd⟩ : ∃ d, d = dotN (s.take j) := ⟨_, rfl⟩
                    have hdl : d ≤ 6000 := by have := dotN_le (s.take j); rw [List.length_take] at this; omega
                    rw [← hd] at HT ⊢
                    clear hd hy
                    by_cases h46 : y = 46
                    · subst h46
                      have hcs2 : (((str s)[j]'(by simpa [ByteArray.size] using hjt)).toNat) = 46 := hcs
                      go_wp2_with fail
                      go_round
                      case rel => exact ⟨j + 1, by omega, by go_num, by rw [HT.out]; go_num⟩
                      case measure => simp [intOf]; omega
                    · have hb2 : ¬ (y.toNat : Int) = 46 := fun e => h46 (u8_eq (by show y.toNat = 46; omega))
                      have hb3 : ((y.toNat : Int) == 46) = false := by rw [beq_eq_false_iff_ne]; exact hb2
                      rw [if_neg h46, Nat.add_zero] at HT
                      go_wp2_with fail
                      go_round
                      case rel => exact ⟨j + 1, by omega, by go_num, by rw [HT.out]; rfl⟩
                      case measure => simp [intOf]; omega
                  · obtain rfl : j = s.length := by omega
                    rw [List.take_length]
                    obtain ⟨E, hE⟩ : ∃ E, E = dotN s := ⟨_, rfl⟩
                    rw [← hE] at HSD ⊢
                    clear hE
                    skip
                    go_wp2_with fail
                    refine wp_region_held_drew (S := fun W => P W) (by kernel_rfl) (HP.out.step HP2.out (Below.refl _ _).drew) (fun hHeld => ?_)
                    refine wpAnyH_take (i := 0) (v := ?vv0_1) rfl (by kernel_rfl) (by kernel_rfl) (by kernel_rfl) (fun _ _ _ h => h) (Or.inl ⟨by rfl, ?hy0_1⟩) (by assumption) ?rest0_1
                    case hy0_1 => (intro w' hSw; (try dsimp only at hSw); go_simp; try with_reducible rfl)
                    try simp only [List.getElem_toArray, List.getElem_cons_zero, List.getElem_cons_succ, Act.put, List.setIfInBounds_toArray, List.set_cons_zero, List.set_cons_succ]
                    refine wpAnyH_take (i := 1) (v := ?vv1_1) rfl (by kernel_rfl) (by kernel_rfl) (by kernel_rfl) (fun _ _ _ h => h) (Or.inl ⟨by rfl, ?hy1_1⟩) (by assumption) ?rest1_1
                    case hy1_1 => (intro w' hSw; (try dsimp only at hSw); go_simp; try with_reducible rfl)
                    try simp only [List.getElem_toArray, List.getElem_cons_zero, List.getElem_cons_succ, Act.put, List.setIfInBounds_toArray, List.set_cons_zero, List.set_cons_succ]
                    refine wpAnyH_take (i := 2) (v := undef) rfl (by kernel_rfl) (by kernel_rfl) (by kernel_rfl) (fun _ _ _ h => h) (Or.inr ⟨by rfl, rfl⟩) (by assumption) ?_
                    try simp only [List.getElem_toArray, List.getElem_cons_zero, List.getElem_cons_succ, Act.put, List.setIfInBounds_toArray, List.set_cons_zero, List.set_cons_succ]
                    refine wpAnyH_take (i := 3) (v := undef) rfl (by kernel_rfl) (by kernel_rfl) (by kernel_rfl) (fun _ _ _ h => h) (Or.inr ⟨by rfl, rfl⟩) (by assumption) ?_
                    try simp only [List.getElem_toArray, List.getElem_cons_zero, List.getElem_cons_succ, Act.put, List.setIfInBounds_toArray, List.set_cons_zero, List.set_cons_succ]
                    refine wpAnyH_take (i := 4) (v := undef) rfl (by kernel_rfl) (by kernel_rfl) (by kernel_rfl) (fun _ _ _ h => h) (Or.inr ⟨by rfl, rfl⟩) (by assumption) ?_
                    try simp only [List.getElem_toArray, List.getElem_cons_zero, List.getElem_cons_succ, Act.put, List.setIfInBounds_toArray, List.set_cons_zero, List.set_cons_succ]
                    refine wpAnyH_take (i := 5) (v := undef) rfl (by kernel_rfl) (by kernel_rfl) (by kernel_rfl) (fun _ _ _ h => h) (Or.inr ⟨by rfl, rfl⟩) (by assumption) ?_
                    try simp only [List.getElem_toArray, List.getElem_cons_zero, List.getElem_cons_succ, Act.put, List.setIfInBounds_toArray, List.set_cons_zero, List.set_cons_succ]
                    refine wpAnyH_take (i := 6) (v := undef) rfl (by kernel_rfl) (by kernel_rfl) (by kernel_rfl) (fun _ _ _ h => h) (Or.inr ⟨by rfl, rfl⟩) (by assumption) ?_
                    try simp only [List.getElem_toArray, List.getElem_cons_zero, List.getElem_cons_succ, Act.put, List.setIfInBounds_toArray, List.set_cons_zero, List.set_cons_succ]
                    refine wpAnyH_take (i := 7) (v := undef) rfl (by kernel_rfl) (by kernel_rfl) (by kernel_rfl) (fun _ _ _ h => h) (Or.inr ⟨by rfl, rfl⟩) (by assumption) ?_
                    try simp only [List.getElem_toArray, List.getElem_cons_zero, List.getElem_cons_succ, Act.put, List.setIfInBounds_toArray, List.set_cons_zero, List.set_cons_succ]
                    refine wpAnyH_take (i := 8) (v := undef) rfl (by kernel_rfl) (by kernel_rfl) (by kernel_rfl) (fun _ _ _ h => h) (Or.inr ⟨by rfl, rfl⟩) (by assumption) ?_
                    try simp only [List.getElem_toArray, List.getElem_cons_zero, List.getElem_cons_succ, Act.put, List.setIfInBounds_toArray, List.set_cons_zero, List.set_cons_succ]
                    refine wpAnyH_take (i := 9) (v := ?vv9_1) rfl (by kernel_rfl) (by kernel_rfl) (by kernel_rfl) (fun _ _ _ h => h) (Or.inl ⟨by rfl, ?hy9_1⟩) (by assumption) ?rest9_1
                    case hy9_1 => (intro w' hSw; (try dsimp only at hSw); go_simp; try with_reducible rfl)
                    try simp only [List.getElem_toArray, List.getElem_cons_zero, List.getElem_cons_succ, Act.put, List.setIfInBounds_toArray, List.set_cons_zero, List.set_cons_succ]
                    refine wpAnyH_take (i := 10) (v := ?vv10_1) rfl (by kernel_rfl) (by kernel_rfl) (by kernel_rfl) (fun _ _ _ h => h) (Or.inl ⟨by rfl, ?hy10_1⟩) (by assumption) ?rest10_1
                    case hy10_1 => (intro w' hSw; (try dsimp only at hSw); go_simp; try with_reducible rfl)
                    try simp only [List.getElem_toArray, List.getElem_cons_zero, List.getElem_cons_succ, Act.put, List.setIfInBounds_toArray, List.set_cons_zero, List.set_cons_succ]
                    refine wpAnyH_take (i := 11) (v := ?vv11_1) rfl (by kernel_rfl) (by kernel_rfl) (by kernel_rfl) (fun _ _ _ h => h) (Or.inl ⟨by rfl, ?hy11_1⟩) (by assumption) ?rest11_1
                    case hy11_1 => (intro w' hSw; (try dsimp only at hSw); go_simp; try with_reducible rfl)
                    try simp only [List.getElem_toArray, List.getElem_cons_zero, List.getElem_cons_succ, Act.put, List.setIfInBounds_toArray, List.set_cons_zero, List.set_cons_succ]
                    refine wpAnyH_take (i := 12) (v := ?vv12_1) rfl (by kernel_rfl) (by kernel_rfl) (by kernel_rfl) (fun _ _ _ h => h) (Or.inl ⟨by rfl, ?hy12_1⟩) (by assumption) ?rest12_1
                    case hy12_1 => (intro w' hSw; (try dsimp only at hSw); go_simp; try with_reducible rfl)
                    try simp only [List.getElem_toArray, List.getElem_cons_zero, List.getElem_cons_succ, Act.put, List.setIfInBounds_toArray, List.set_cons_zero, List.set_cons_succ]
                    refine wpAnyH_take (i := 13) (v := ?vv13_1) rfl (by kernel_rfl) (by kernel_rfl) (by kernel_rfl) (fun _ _ _ h => h) (Or.inl ⟨by rfl, ?hy13_1⟩) (by assumption) ?rest13_1
                    case hy13_1 => (intro w' hSw; (try dsimp only at hSw); go_simp; try with_reducible rfl)
                    try simp only [List.getElem_toArray, List.getElem_cons_zero, List.getElem_cons_succ, Act.put, List.setIfInBounds_toArray, List.set_cons_zero, List.set_cons_succ]
                    refine wpAnyH_take (i := 14) (v := ?vv14_1) rfl (by kernel_rfl) (by kernel_rfl) (by kernel_rfl) (fun _ _ _ h => h) (Or.inl ⟨by rfl, ?hy14_1⟩) (by assumption) ?rest14_1
                    case hy14_1 => (intro w' hSw; (try dsimp only at hSw); go_simp; try with_reducible rfl)
                    try simp only [List.getElem_toArray, List.getElem_cons_zero, List.getElem_cons_succ, Act.put, List.setIfInBounds_toArray, List.set_cons_zero, List.set_cons_succ]
                    refine wpAnyH_take (i := 15) (v := ?vv15_1) rfl (by kernel_rfl) (by kernel_rfl) (by kernel_rfl) (fun _ _ _ h => h) (Or.inl ⟨by rfl, ?hy15_1⟩) (by assumption) ?rest15_1
                    case hy15_1 => (intro w' hSw; (try dsimp only at hSw); go_simp; try with_reducible rfl)
                    try simp only [List.getElem_toArray, List.getElem_cons_zero, List.getElem_cons_succ, Act.put, List.setIfInBounds_toArray, List.set_cons_zero, List.set_cons_succ]
                    refine wpAnyH_take (i := 16) (v := ?vv16_1) rfl (by kernel_rfl) (by kernel_rfl) (by kernel_rfl) (fun _ _ _ h => h) (Or.inl ⟨by rfl, ?hy16_1⟩) (by assumption) ?rest16_1
                    case hy16_1 => (intro w' hSw; (try dsimp only at hSw); go_simp; try with_reducible rfl)
                    try simp only [List.getElem_toArray, List.getElem_cons_zero, List.getElem_cons_succ, Act.put, List.setIfInBounds_toArray, List.set_cons_zero, List.set_cons_succ]
                    refine wpAnyH_take (i := 17) (v := ?vv17_1) rfl (by kernel_rfl) (by kernel_rfl) (by kernel_rfl) (fun _ _ _ h => h) (Or.inl ⟨by rfl, ?hy17_1⟩) (by assumption) ?rest17_1
                    case hy17_1 => (intro w' hSw; (try dsimp only at hSw); go_simp; try with_reducible rfl)
                    try simp only [List.getElem_toArray, List.getElem_cons_zero, List.getElem_cons_succ, Act.put, List.setIfInBounds_toArray, List.set_cons_zero, List.set_cons_succ]
                    refine wpAnyH_take (i := 18) (v := ?vv18_1) rfl (by kernel_rfl) (by kernel_rfl) (by kernel_rfl) (fun _ _ _ h => h) (Or.inl ⟨by rfl, ?hy18_1⟩) (by assumption) ?rest18_1
                    case hy18_1 => (intro w' hSw; (try dsimp only at hSw); go_simp; try with_reducible rfl)
                    try simp only [List.getElem_toArray, List.getElem_cons_zero, List.getElem_cons_succ, Act.put, List.setIfInBounds_toArray, List.set_cons_zero, List.set_cons_succ]
                    refine wpAnyH_ready (rs := [19]) (by kernel_rfl) (by simp) ?_
                    refine AllReadyH.cons rfl (fun K hK => ?_) AllReadyH.nil
                    go_simp
                    go_at_call 37
                    refine (HO2.out _ hHeld (cp - k)).mono ?_
                    rintro e w3 ⟨rfl, hp3⟩
                    have HP3 := Lib.hid hp3
                    clear hp3
                    refine hK.out _ _ HP3.out (fun hHeld => ?_)
                    clear hK K
                    try simp only [List.getElem_toArray, List.getElem_cons_zero, List.getElem_cons_succ, Act.put, List.setIfInBounds_toArray, List.set_cons_zero, List.set_cons_succ]
                    refine wpAnyH_take (i := 20) (v := ?vv20_1) rfl (by kernel_rfl) (by kernel_rfl) (by kernel_rfl) (fun _ _ _ h => h) (Or.inl ⟨by rfl, ?hy20_1⟩) (by assumption) ?rest20_1
                    case hy20_1 => (intro w' hSw; (try dsimp only at hSw); go_simp; try with_reducible rfl)
                    try simp only [List.getElem_toArray, List.getElem_cons_zero, List.getElem_cons_succ, Act.put, List.setIfInBounds_toArray, List.set_cons_zero, List.set_cons_succ]
                    refine wpAnyH_done (by kernel_rfl) ?_ _
                    go_wp2_with fail
                    go_roundw
                    case rel => exact ⟨m, by omega, rfl, by rw [HMK.out, HAT.out]; rfl, HP3.out⟩
                    case measure => simp [intOf]; omega
              · skip
                go_wp2_with (go_at_call 37; refine (HO.out _ HPW.out (cp - k)).mono ?_; rintro e w2 ⟨rfl, hp2⟩; have HP2 := Lib.hid hp2; clear hp2)
                go_loop [11, 12] (fun d i => ∃ k : Nat, k ≤ s.length ∧ i = .int .i64 (k : Int) ∧ d = .int .i64 ((dotN (s.take k) : Nat) : Int)) (fun _ i => s.length - (intOf i).toNat)
                case atStart => exact ⟨0, Nat.zero_le _, rfl, rfl⟩
                case round =>
                  obtain ⟨j, hj, rfl, rfl⟩ := hrel
                  by_cases hjt : j < s.length
                  · obtain ⟨y, hy⟩ : ∃ y, s.getD j 0 = y := ⟨_, rfl⟩
                    have hcs := index_byte hjt hy
                    have HT := Lib.hid (dotN_take hjt)
                    rw [hy] at HT
                    have hjt' : (j : Int) < (s.length : Int) := by omega
                    obtain ⟨d, hd⟩ : ∃ d, d = dotN (s.take j) := ⟨_, rfl⟩
                    have hdl : d ≤ 6000 := by have := dotN_le (s.take j); rw [List.length_take] at this; omega
                    rw [← hd] at HT ⊢
                    clear hd hy
                    by_cases h46 : y = 46
                    · subst h46
                      have hcs2 : (((str s)[j]'(by simpa [ByteArray.size] using hjt)).toNat) = 46 := hcs
                      go_wp2_with fail
                      go_round
                      case rel => exact ⟨j + 1, by omega, by go_num, by rw [HT.out]; go_num⟩
                      case measure => simp [intOf]; omega
                    · have hb2 : ¬ (y.toNat : Int) = 46 := fun e => h46 (u8_eq (by show y.toNat = 46; omega))
                      have hb3 : ((y.toNat : Int) == 46) = false := by rw [beq_eq_false_iff_ne]; exact hb2
                      rw [if_neg h46, Nat.add_zero] at HT
                      go_wp2_with fail
                      go_round
                      case rel => exact ⟨j + 1, by omega, by go_num, by rw [HT.out]; rfl⟩
                      case measure => simp [intOf]; omega
                  · obtain rfl : j = s.length := by omega
                    rw [List.take_length]
                    obtain ⟨E, hE⟩ : ∃ E, E = dotN s := ⟨_, rfl⟩
                    rw [← hE] at HSD ⊢
                    clear hE
                    obtain ⟨hE1, hE2⟩ := HSD.out (by first | rfl | trivial)
                    subst hE1
                    have hE3 : ¬ (D : Int) < 2 := by omega
                    have hE4 : decide ((D : Int) < 2) = false := by rw [decide_eq_false_iff_not]; exact hE3
                    go_wp2_with fail
                    refine wp_region_held_drew (S := fun W => P W) (by kernel_rfl) (HP.out.step HP2.out (Below.refl _ _).drew) (fun hHeld => ?_)
                    refine wpAnyH_take (i := 0) (v := ?vv0_2) rfl (by kernel_rfl) (by kernel_rfl) (by kernel_rfl) (fun _ _ _ h => h) (Or.inl ⟨by rfl, ?hy0_2⟩) (by assumption) ?rest0_2
                    case hy0_2 => (intro w' hSw; (try dsimp only at hSw); go_simp; try with_reducible rfl)
                    try simp only [List.getElem_toArray, List.getElem_cons_zero, List.getElem_cons_succ, Act.put, List.setIfInBounds_toArray, List.set_cons_zero, List.set_cons_succ]
                    refine wpAnyH_take (i := 1) (v := ?vv1_2) rfl (by kernel_rfl) (by kernel_rfl) (by kernel_rfl) (fun _ _ _ h => h) (Or.inl ⟨by rfl, ?hy1_2⟩) (by assumption) ?rest1_2
                    case hy1_2 => (intro w' hSw; (try dsimp only at hSw); go_simp; try with_reducible rfl)
                    try simp only [List.getElem_toArray, List.getElem_cons_zero, List.getElem_cons_succ, Act.put, List.setIfInBounds_toArray, List.set_cons_zero, List.set_cons_succ]
                    refine wpAnyH_take (i := 2) (v := ?vv2_2) rfl (by kernel_rfl) (by kernel_rfl) (by kernel_rfl) (fun _ _ _ h => h) (Or.inl ⟨by rfl, ?hy2_2⟩) (by assumption) ?rest2_2
                    case hy2_2 => (intro w' hSw; (try dsimp only at hSw); go_simp; try with_reducible rfl)
                    try simp only [List.getElem_toArray, List.getElem_cons_zero, List.getElem_cons_succ, Act.put, List.setIfInBounds_toArray, List.set_cons_zero, List.set_cons_succ]
                    refine wpAnyH_take (i := 3) (v := ?vv3_2) rfl (by kernel_rfl) (by kernel_rfl) (by kernel_rfl) (fun _ _ _ h => h) (Or.inl ⟨by rfl, ?hy3_2⟩) (by assumption) ?rest3_2
                    case hy3_2 => (intro w' hSw; (try dsimp only at hSw); go_simp; try with_reducible rfl)
                    try simp only [List.getElem_toArray, List.getElem_cons_zero, List.getElem_cons_succ, Act.put, List.setIfInBounds_toArray, List.set_cons_zero, List.set_cons_succ]
                    refine wpAnyH_take (i := 4) (v := ?vv4_2) rfl (by kernel_rfl) (by kernel_rfl) (by kernel_rfl) (fun _ _ _ h => h) (Or.inl ⟨by rfl, ?hy4_2⟩) (by assumption) ?rest4_2
                    case hy4_2 => (intro w' hSw; (try dsimp only at hSw); go_simp; try with_reducible rfl)
                    try simp only [List.getElem_toArray, List.getElem_cons_zero, List.getElem_cons_succ, Act.put, List.setIfInBounds_toArray, List.set_cons_zero, List.set_cons_succ]
                    refine wpAnyH_take (i := 5) (v := ?vv5_2) rfl (by kernel_rfl) (by kernel_rfl) (by kernel_rfl) (fun _ _ _ h => h) (Or.inl ⟨by rfl, ?hy5_2⟩) (by assumption) ?rest5_2
                    case hy5_2 => (intro w' hSw; (try dsimp only at hSw); go_simp; try with_reducible rfl)
                    try simp only [List.getElem_toArray, List.getElem_cons_zero, List.getElem_cons_succ, Act.put, List.setIfInBounds_toArray, List.set_cons_zero, List.set_cons_succ]
                    refine wpAnyH_take (i := 6) (v := ?vv6_2) rfl (by kernel_rfl) (by kernel_rfl) (by kernel_rfl) (fun _ _ _ h => h) (Or.inl ⟨by rfl, ?hy6_2⟩) (by assumption) ?rest6_2
                    case hy6_2 => (intro w' hSw; (try dsimp only at hSw); go_simp; try with_reducible rfl)
                    try simp only [List.getElem_toArray, List.getElem_cons_zero, List.getElem_cons_succ, Act.put, List.setIfInBounds_toArray, List.set_cons_zero, List.set_cons_succ]
                    refine wpAnyH_take (i := 7) (v := ?vv7_2) rfl (by kernel_rfl) (by kernel_rfl) (by kernel_rfl) (fun _ _ _ h => h) (Or.inl ⟨by rfl, ?hy7_2⟩) (by assumption) ?rest7_2
                    case hy7_2 => (intro w' hSw; (try dsimp only at hSw); go_simp; try with_reducible rfl)
                    try simp only [List.getElem_toArray, List.getElem_cons_zero, List.getElem_cons_succ, Act.put, List.setIfInBounds_toArray, List.set_cons_zero, List.set_cons_succ]
                    refine wpAnyH_take (i := 8) (v := ?vv8_2) rfl (by kernel_rfl) (by kernel_rfl) (by kernel_rfl) (fun _ _ _ h => h) (Or.inl ⟨by rfl, ?hy8_2⟩) (by assumption) ?rest8_2
                    case hy8_2 => (intro w' hSw; (try dsimp only at hSw); go_simp; try with_reducible rfl)
                    try simp only [List.getElem_toArray, List.getElem_cons_zero, List.getElem_cons_succ, Act.put, List.setIfInBounds_toArray, List.set_cons_zero, List.set_cons_succ]
                    refine wpAnyH_take (i := 9) (v := ?vv9_2) rfl (by kernel_rfl) (by kernel_rfl) (by kernel_rfl) (fun _ _ _ h => h) (Or.inl ⟨by rfl, ?hy9_2⟩) (by assumption) ?rest9_2
                    case hy9_2 => (intro w' hSw; (try dsimp only at hSw); go_simp; try with_reducible rfl)
                    try simp only [List.getElem_toArray, List.getElem_cons_zero, List.getElem_cons_succ, Act.put, List.setIfInBounds_toArray, List.set_cons_zero, List.set_cons_succ]
                    refine wpAnyH_take (i := 10) (v := ?vv10_2) rfl (by kernel_rfl) (by kernel_rfl) (by kernel_rfl) (fun _ _ _ h => h) (Or.inl ⟨by rfl, ?hy10_2⟩) (by assumption) ?rest10_2
                    case hy10_2 => (intro w' hSw; (try dsimp only at hSw); go_simp; try with_reducible rfl)
                    try simp only [List.getElem_toArray, List.getElem_cons_zero, List.getElem_cons_succ, Act.put, List.setIfInBounds_toArray, List.set_cons_zero, List.set_cons_succ]
                    refine wpAnyH_take (i := 11) (v := ?vv11_2) rfl (by kernel_rfl) (by kernel_rfl) (by kernel_rfl) (fun _ _ _ h => h) (Or.inl ⟨by rfl, ?hy11_2⟩) (by assumption) ?rest11_2
                    case hy11_2 => (intro w' hSw; (try dsimp only at hSw); go_simp; try with_reducible rfl)
                    try simp only [List.getElem_toArray, List.getElem_cons_zero, List.getElem_cons_succ, Act.put, List.setIfInBounds_toArray, List.set_cons_zero, List.set_cons_succ]
                    refine wpAnyH_take (i := 12) (v := ?vv12_2) rfl (by kernel_rfl) (by kernel_rfl) (by kernel_rfl) (fun _ _ _ h => h) (Or.inl ⟨by rfl, ?hy12_2⟩) (by assumption) ?rest12_2
                    case hy12_2 => (intro w' hSw; (try dsimp only at hSw); go_simp; try with_reducible rfl)
                    try simp only [List.getElem_toArray, List.getElem_cons_zero, List.getElem_cons_succ, Act.put, List.setIfInBounds_toArray, List.set_cons_zero, List.set_cons_succ]
                    refine wpAnyH_take (i := 13) (v := ?vv13_2) rfl (by kernel_rfl) (by kernel_rfl) (by kernel_rfl) (fun _ _ _ h => h) (Or.inl ⟨by rfl, ?hy13_2⟩) (by assumption) ?rest13_2
                    case hy13_2 => (intro w' hSw; (try dsimp only at hSw); go_simp; try with_reducible rfl)
                    try simp only [List.getElem_toArray, List.getElem_cons_zero, List.getElem_cons_succ, Act.put, List.setIfInBounds_toArray, List.set_cons_zero, List.set_cons_succ]
                    refine wpAnyH_take (i := 14) (v := ?vv14_2) rfl (by kernel_rfl) (by kernel_rfl) (by kernel_rfl) (fun _ _ _ h => h) (Or.inl ⟨by rfl, ?hy14_2⟩) (by assumption) ?rest14_2
                    case hy14_2 => (intro w' hSw; (try dsimp only at hSw); go_simp; try with_reducible rfl)
                    try simp only [List.getElem_toArray, List.getElem_cons_zero, List.getElem_cons_succ, Act.put, List.setIfInBounds_toArray, List.set_cons_zero, List.set_cons_succ]
                    refine wpAnyH_take (i := 15) (v := ?vv15_2) rfl (by kernel_rfl) (by kernel_rfl) (by kernel_rfl) (fun _ _ _ h => h) (Or.inl ⟨by rfl, ?hy15_2⟩) (by assumption) ?rest15_2
                    case hy15_2 => (intro w' hSw; (try dsimp only at hSw); go_simp; try with_reducible rfl)
                    try simp only [List.getElem_toArray, List.getElem_cons_zero, List.getElem_cons_succ, Act.put, List.setIfInBounds_toArray, List.set_cons_zero, List.set_cons_succ]
                    refine wpAnyH_take (i := 16) (v := ?vv16_2) rfl (by kernel_rfl) (by kernel_rfl) (by kernel_rfl) (fun _ _ _ h => h) (Or.inl ⟨by rfl, ?hy16_2⟩) (by assumption) ?rest16_2
                    case hy16_2 => (intro w' hSw; (try dsimp only at hSw); go_simp; try with_reducible rfl)
                    try simp only [List.getElem_toArray, List.getElem_cons_zero, List.getElem_cons_succ, Act.put, List.setIfInBounds_toArray, List.set_cons_zero, List.set_cons_succ]
                    refine wpAnyH_take (i := 17) (v := ?vv17_2) rfl (by kernel_rfl) (by kernel_rfl) (by kernel_rfl) (fun _ _ _ h => h) (Or.inl ⟨by rfl, ?hy17_2⟩) (by assumption) ?rest17_2
                    case hy17_2 => (intro w' hSw; (try dsimp only at hSw); go_simp; try with_reducible rfl)
                    try simp only [List.getElem_toArray, List.getElem_cons_zero, List.getElem_cons_succ, Act.put, List.setIfInBounds_toArray, List.set_cons_zero, List.set_cons_succ]
                    refine wpAnyH_take (i := 18) (v := ?vv18_2) rfl (by kernel_rfl) (by kernel_rfl) (by kernel_rfl) (fun _ _ _ h => h) (Or.inl ⟨by rfl, ?hy18_2⟩) (by assumption) ?rest18_2
                    case hy18_2 => (intro w' hSw; (try dsimp only at hSw); go_simp; try with_reducible rfl)
                    try simp only [List.getElem_toArray, List.getElem_cons_zero, List.getElem_cons_succ, Act.put, List.setIfInBounds_toArray, List.set_cons_zero, List.set_cons_succ]
                    refine wpAnyH_ready (rs := [19]) (by kernel_rfl) (by simp) ?_
                    refine AllReadyH.cons rfl (fun K hK => ?_) AllReadyH.nil
                    go_simp
                    go_at_call 37
                    refine (HO2.out _ hHeld (cp - k)).mono ?_
                    rintro e w3 ⟨rfl, hp3⟩
                    have HP3 := Lib.hid hp3
                    clear hp3
                    refine hK.out _ _ HP3.out (fun hHeld => ?_)
                    clear hK K
                    try simp only [List.getElem_toArray, List.getElem_cons_zero, List.getElem_cons_succ, Act.put, List.setIfInBounds_toArray, List.set_cons_zero, List.set_cons_succ]
                    refine wpAnyH_take (i := 20) (v := ?vv20_2) rfl (by kernel_rfl) (by kernel_rfl) (by kernel_rfl) (fun _ _ _ h => h) (Or.inl ⟨by rfl, ?hy20_2⟩) (by assumption) ?rest20_2
                    case hy20_2 => (intro w' hSw; (try dsimp only at hSw); go_simp; try with_reducible rfl)
                    try simp only [List.getElem_toArray, List.getElem_cons_zero, List.getElem_cons_succ, Act.put, List.setIfInBounds_toArray, List.set_cons_zero, List.set_cons_succ]
                    refine wpAnyH_done (by kernel_rfl) ?_ _
                    go_wp2_with fail
                    go_roundw
                    case rel => exact ⟨m, by omega, rfl, by rw [HMK.out, HAT.out]; rfl, HP3.out⟩
                    case measure => simp [intOf]; omega
              · skip
                go_wp2_with (go_at_call 37; refine (HO.out _ HPW.out (cp - k)).mono ?_; rintro e w2 ⟨rfl, hp2⟩; have HP2 := Lib.hid hp2; clear hp2)
                go_loop [11, 12] (fun d i => ∃ k : Nat, k ≤ s.length ∧ i = .int .i64 (k : Int) ∧ d = .int .i64 ((dotN (s.take k) : Nat) : Int)) (fun _ i => s.length - (intOf i).toNat)
                case atStart => exact ⟨0, Nat.zero_le _, rfl, rfl⟩
                case round =>
                  obtain ⟨j, hj, rfl, rfl⟩ := hrel
                  by_cases hjt : j < s.length
                  · obtain ⟨y, hy⟩ : ∃ y, s.getD j 0 = y := ⟨_, rfl⟩
                    have hcs := index_byte hjt hy
                    have HT := Lib.hid (dotN_take hjt)
                    rw [hy] at HT
                    have hjt' : (j : Int) < (s.length : Int) := by omega
                    obtain ⟨d, hd⟩ : ∃ d, d = dotN (s.take j) := ⟨_, rfl⟩
                    have hdl : d ≤ 6000 := by have := dotN_le (s.take j); rw [List.length_take] at this; omega
                    rw [← hd] at HT ⊢
                    clear hd hy
                    by_cases h46 : y = 46
                    · subst h46
                      have hcs2 : (((str s)[j]'(by simpa [ByteArray.size] using hjt)).toNat) = 46 := hcs
                      go_wp2_with fail
                      go_round
                      case rel => exact ⟨j + 1, by omega, by go_num, by rw [HT.out]; go_num⟩
                      case measure => simp [intOf]; omega
                    · have hb2 : ¬ (y.toNat : Int) = 46 := fun e => h46 (u8_eq (by show y.toNat = 46; omega))
                      have hb3 : ((y.toNat : Int) == 46) = false := by rw [beq_eq_false_iff_ne]; exact hb2
                      rw [if_neg h46, Nat.add_zero] at HT
                      go_wp2_with fail
                      go_round
                      case rel => exact ⟨j + 1, by omega, by go_num, by rw [HT.out]; rfl⟩
                      case measure => simp [intOf]; omega
                  · obtain rfl : j = s.length := by omega
                    rw [List.take_length]
                    obtain ⟨E, hE⟩ : ∃ E, E = dotN s := ⟨_, rfl⟩
                    rw [← hE] at HSD ⊢
                    clear hE
                    skip
                    go_wp2_with fail
                    refine wp_region_held_drew (S := fun W => P W) (by kernel_rfl) (HP.out.step HP2.out (Below.refl _ _).drew) (fun hHeld => ?_)
                    refine wpAnyH_take (i := 0) (v := ?vv0_3) rfl (by kernel_rfl) (by kernel_rfl) (by kernel_rfl) (fun _ _ _ h => h) (Or.inl ⟨by rfl, ?hy0_3⟩) (by assumption) ?rest0_3
                    case hy0_3 => (intro w' hSw; (try dsimp only at hSw); go_simp; try with_reducible rfl)
                    try simp only [List.getElem_toArray, List.getElem_cons_zero, List.getElem_cons_succ, Act.put, List.setIfInBounds_toArray, List.set_cons_zero, List.set_cons_succ]
                    refine wpAnyH_take (i := 1) (v := ?vv1_3) rfl (by kernel_rfl) (by kernel_rfl) (by kernel_rfl) (fun _ _ _ h => h) (Or.inl ⟨by rfl, ?hy1_3⟩) (by assumption) ?rest1_3
                    case hy1_3 => (intro w' hSw; (try dsimp only at hSw); go_simp; try with_reducible rfl)
                    try simp only [List.getElem_toArray, List.getElem_cons_zero, List.getElem_cons_succ, Act.put, List.setIfInBounds_toArray, List.set_cons_zero, List.set_cons_succ]
                    refine wpAnyH_take (i := 2) (v := undef) rfl (by kernel_rfl) (by kernel_rfl) (by kernel_rfl) (fun _ _ _ h => h) (Or.inr ⟨by rfl, rfl⟩) (by assumption) ?_
                    try simp only [List.getElem_toArray, List.getElem_cons_zero, List.getElem_cons_succ, Act.put, List.setIfInBounds_toArray, List.set_cons_zero, List.set_cons_succ]
                    refine wpAnyH_take (i := 3) (v := undef) rfl (by kernel_rfl) (by kernel_rfl) (by kernel_rfl) (fun _ _ _ h => h) (Or.inr ⟨by rfl, rfl⟩) (by assumption) ?_
                    try simp only [List.getElem_toArray, List.getElem_cons_zero, List.getElem_cons_succ, Act.put, List.setIfInBounds_toArray, List.set_cons_zero, List.set_cons_succ]
                    refine wpAnyH_take (i := 4) (v := undef) rfl (by kernel_rfl) (by kernel_rfl) (by kernel_rfl) (fun _ _ _ h => h) (Or.inr ⟨by rfl, rfl⟩) (by assumption) ?_
                    try simp only [List.getElem_toArray, List.getElem_cons_zero, List.getElem_cons_succ, Act.put, List.setIfInBounds_toArray, List.set_cons_zero, List.set_cons_succ]
                    refine wpAnyH_take (i := 5) (v := undef) rfl (by kernel_rfl) (by kernel_rfl) (by kernel_rfl) (fun _ _ _ h => h) (Or.inr ⟨by rfl, rfl⟩) (by assumption) ?_
                    try simp only [List.getElem_toArray, List.getElem_cons_zero, List.getElem_cons_succ, Act.put, List.setIfInBounds_toArray, List.set_cons_zero, List.set_cons_succ]
                    refine wpAnyH_take (i := 6) (v := undef) rfl (by kernel_rfl) (by kernel_rfl) (by kernel_rfl) (fun _ _ _ h => h) (Or.inr ⟨by rfl, rfl⟩) (by assumption) ?_
                    try simp only [List.getElem_toArray, List.getElem_cons_zero, List.getElem_cons_succ, Act.put, List.setIfInBounds_toArray, List.set_cons_zero, List.set_cons_succ]
                    refine wpAnyH_take (i := 7) (v := undef) rfl (by kernel_rfl) (by kernel_rfl) (by kernel_rfl) (fun _ _ _ h => h) (Or.inr ⟨by rfl, rfl⟩) (by assumption) ?_
                    try simp only [List.getElem_toArray, List.getElem_cons_zero, List.getElem_cons_succ, Act.put, List.setIfInBounds_toArray, List.set_cons_zero, List.set_cons_succ]
                    refine wpAnyH_take (i := 8) (v := undef) rfl (by kernel_rfl) (by kernel_rfl) (by kernel_rfl) (fun _ _ _ h => h) (Or.inr ⟨by rfl, rfl⟩) (by assumption) ?_
                    try simp only [List.getElem_toArray, List.getElem_cons_zero, List.getElem_cons_succ, Act.put, List.setIfInBounds_toArray, List.set_cons_zero, List.set_cons_succ]
                    refine wpAnyH_take (i := 9) (v := ?vv9_3) rfl (by kernel_rfl) (by kernel_rfl) (by kernel_rfl) (fun _ _ _ h => h) (Or.inl ⟨by rfl, ?hy9_3⟩) (by assumption) ?rest9_3
                    case hy9_3 => (intro w' hSw; (try dsimp only at hSw); go_simp; try with_reducible rfl)
                    try simp only [List.getElem_toArray, List.getElem_cons_zero, List.getElem_cons_succ, Act.put, List.setIfInBounds_toArray, List.set_cons_zero, List.set_cons_succ]
                    refine wpAnyH_take (i := 10) (v := ?vv10_3) rfl (by kernel_rfl) (by kernel_rfl) (by kernel_rfl) (fun _ _ _ h => h) (Or.inl ⟨by rfl, ?hy10_3⟩) (by assumption) ?rest10_3
                    case hy10_3 => (intro w' hSw; (try dsimp only at hSw); go_simp; try with_reducible rfl)
                    try simp only [List.getElem_toArray, List.getElem_cons_zero, List.getElem_cons_succ, Act.put, List.setIfInBounds_toArray, List.set_cons_zero, List.set_cons_succ]
                    refine wpAnyH_take (i := 11) (v := ?vv11_3) rfl (by kernel_rfl) (by kernel_rfl) (by kernel_rfl) (fun _ _ _ h => h) (Or.inl ⟨by rfl, ?hy11_3⟩) (by assumption) ?rest11_3
                    case hy11_3 => (intro w' hSw; (try dsimp only at hSw); go_simp; try with_reducible rfl)
                    try simp only [List.getElem_toArray, List.getElem_cons_zero, List.getElem_cons_succ, Act.put, List.setIfInBounds_toArray, List.set_cons_zero, List.set_cons_succ]
                    refine wpAnyH_take (i := 12) (v := ?vv12_3) rfl (by kernel_rfl) (by kernel_rfl) (by kernel_rfl) (fun _ _ _ h => h) (Or.inl ⟨by rfl, ?hy12_3⟩) (by assumption) ?rest12_3
                    case hy12_3 => (intro w' hSw; (try dsimp only at hSw); go_simp; try with_reducible rfl)
                    try simp only [List.getElem_toArray, List.getElem_cons_zero, List.getElem_cons_succ, Act.put, List.setIfInBounds_toArray, List.set_cons_zero, List.set_cons_succ]
                    refine wpAnyH_take (i := 13) (v := ?vv13_3) rfl (by kernel_rfl) (by kernel_rfl) (by kernel_rfl) (fun _ _ _ h => h) (Or.inl ⟨by rfl, ?hy13_3⟩) (by assumption) ?rest13_3
                    case hy13_3 => (intro w' hSw; (try dsimp only at hSw); go_simp; try with_reducible rfl)
                    try simp only [List.getElem_toArray, List.getElem_cons_zero, List.getElem_cons_succ, Act.put, List.setIfInBounds_toArray, List.set_cons_zero, List.set_cons_succ]
                    refine wpAnyH_take (i := 14) (v := ?vv14_3) rfl (by kernel_rfl) (by kernel_rfl) (by kernel_rfl) (fun _ _ _ h => h) (Or.inl ⟨by rfl, ?hy14_3⟩) (by assumption) ?rest14_3
                    case hy14_3 => (intro w' hSw; (try dsimp only at hSw); go_simp; try with_reducible rfl)
                    try simp only [List.getElem_toArray, List.getElem_cons_zero, List.getElem_cons_succ, Act.put, List.setIfInBounds_toArray, List.set_cons_zero, List.set_cons_succ]
                    refine wpAnyH_take (i := 15) (v := ?vv15_3) rfl (by kernel_rfl) (by kernel_rfl) (by kernel_rfl) (fun _ _ _ h => h) (Or.inl ⟨by rfl, ?hy15_3⟩) (by assumption) ?rest15_3
                    case hy15_3 => (intro w' hSw; (try dsimp only at hSw); go_simp; try with_reducible rfl)
                    try simp only [List.getElem_toArray, List.getElem_cons_zero, List.getElem_cons_succ, Act.put, List.setIfInBounds_toArray, List.set_cons_zero, List.set_cons_succ]
                    refine wpAnyH_take (i := 16) (v := ?vv16_3) rfl (by kernel_rfl) (by kernel_rfl) (by kernel_rfl) (fun _ _ _ h => h) (Or.inl ⟨by rfl, ?hy16_3⟩) (by assumption) ?rest16_3
                    case hy16_3 => (intro w' hSw; (try dsimp only at hSw); go_simp; try with_reducible rfl)
                    try simp only [List.getElem_toArray, List.getElem_cons_zero, List.getElem_cons_succ, Act.put, List.setIfInBounds_toArray, List.set_cons_zero, List.set_cons_succ]
                    refine wpAnyH_take (i := 17) (v := ?vv17_3) rfl (by kernel_rfl) (by kernel_rfl) (by kernel_rfl) (fun _ _ _ h => h) (Or.inl ⟨by rfl, ?hy17_3⟩) (by assumption) ?rest17_3
                    case hy17_3 => (intro w' hSw; (try dsimp only at hSw); go_simp; try with_reducible rfl)
                    try simp only [List.getElem_toArray, List.getElem_cons_zero, List.getElem_cons_succ, Act.put, List.setIfInBounds_toArray, List.set_cons_zero, List.set_cons_succ]
                    refine wpAnyH_take (i := 18) (v := ?vv18_3) rfl (by kernel_rfl) (by kernel_rfl) (by kernel_rfl) (fun _ _ _ h => h) (Or.inl ⟨by rfl, ?hy18_3⟩) (by assumption) ?rest18_3
                    case hy18_3 => (intro w' hSw; (try dsimp only at hSw); go_simp; try with_reducible rfl)
                    try simp only [List.getElem_toArray, List.getElem_cons_zero, List.getElem_cons_succ, Act.put, List.setIfInBounds_toArray, List.set_cons_zero, List.set_cons_succ]
                    refine wpAnyH_ready (rs := [19]) (by kernel_rfl) (by simp) ?_
                    refine AllReadyH.cons rfl (fun K hK => ?_) AllReadyH.nil
                    go_simp
                    go_at_call 37
                    refine (HO2.out _ hHeld (cp - k)).mono ?_
                    rintro e w3 ⟨rfl, hp3⟩
                    have HP3 := Lib.hid hp3
                    clear hp3
                    refine hK.out _ _ HP3.out (fun hHeld => ?_)
                    clear hK K
                    try simp only [List.getElem_toArray, List.getElem_cons_zero, List.getElem_cons_succ, Act.put, List.setIfInBounds_toArray, List.set_cons_zero, List.set_cons_succ]
                    refine wpAnyH_take (i := 20) (v := ?vv20_3) rfl (by kernel_rfl) (by kernel_rfl) (by kernel_rfl) (fun _ _ _ h => h) (Or.inl ⟨by rfl, ?hy20_3⟩) (by assumption) ?rest20_3
                    case hy20_3 => (intro w' hSw; (try dsimp only at hSw); go_simp; try with_reducible rfl)
                    try simp only [List.getElem_toArray, List.getElem_cons_zero, List.getElem_cons_succ, Act.put, List.setIfInBounds_toArray, List.set_cons_zero, List.set_cons_succ]
                    refine wpAnyH_done (by kernel_rfl) ?_ _
                    go_wp2_with fail
                    go_roundw
                    case rel => exact ⟨m, by omega, rfl, by rw [HMK.out, HAT.out]; rfl, HP3.out⟩
                    case measure => simp [intOf]; omega
              · skip
                go_wp2_with (go_at_call 37; refine (HO.out _ HPW.out (cp - k)).mono ?_; rintro e w2 ⟨rfl, hp2⟩; have HP2 := Lib.hid hp2; clear hp2)
                go_loop [11, 12] (fun d i => ∃ k : Nat, k ≤ s.length ∧ i = .int .i64 (k : Int) ∧ d = .int .i64 ((dotN (s.take k) : Nat) : Int)) (fun _ i => s.length - (intOf i).toNat)
                case atStart => exact ⟨0, Nat.zero_le _, rfl, rfl⟩
                case round =>
                  obtain ⟨j, hj, rfl, rfl⟩ := hrel
                  by_cases hjt : j < s.length
                  · obtain ⟨y, hy⟩ : ∃ y, s.getD j 0 = y := ⟨_, rfl⟩
                    have hcs := index_byte hjt hy
                    have HT := Lib.hid (dotN_take hjt)
                    rw [hy] at HT
                    have hjt' : (j : Int) < (s.length : Int) := by omega
                    obtain ⟨d, hd⟩ : ∃ d, d = dotN (s.take j) := ⟨_, rfl⟩
                    have hdl : d ≤ 6000 := by have := dotN_le (s.take j); rw [List.length_take] at this; omega
                    rw [← hd] at HT ⊢
                    clear hd hy
                    by_cases h46 : y = 46
                    · subst h46
                      have hcs2 : (((str s)[j]'(by simpa [ByteArray.size] using hjt)).toNat) = 46 := hcs
                      go_wp2_with fail
                      go_round
                      case rel => exact ⟨j + 1, by omega, by go_num, by rw [HT.out]; go_num⟩
                      case measure => simp [intOf]; omega
                    · have hb2 : ¬ (y.toNat : Int) = 46 := fun e => h46 (u8_eq (by show y.toNat = 46; omega))
                      have hb3 : ((y.toNat : Int) == 46) = false := by rw [beq_eq_false_iff_ne]; exact hb2
                      rw [if_neg h46, Nat.add_zero] at HT
                      go_wp2_with fail
                      go_round
                      case rel => exact ⟨j + 1, by omega, by go_num, by rw [HT.out]; rfl⟩
                      case measure => simp [intOf]; omega
                  · obtain rfl : j = s.length := by omega
                    rw [List.take_length]
                    obtain ⟨E, hE⟩ : ∃ E, E = dotN s := ⟨_, rfl⟩
                    rw [← hE] at HSD ⊢
                    clear hE
                    obtain ⟨hE1, hE2⟩ := HSD.out (by first | rfl | trivial)
                    subst hE1
                    have hE3 : ¬ (D : Int) < 2 := by omega
                    have hE4 : decide ((D : Int) < 2) = false := by rw [decide_eq_false_iff_not]; exact hE3
                    go_wp2_with fail
                    refine wp_region_held_drew (S := fun W => P W) (by kernel_rfl) (HP.out.step HP2.out (Below.refl _ _).drew) (fun hHeld => ?_)
                    refine wpAnyH_take (i := 0) (v := ?vv0_4) rfl (by kernel_rfl) (by kernel_rfl) (by kernel_rfl) (fun _ _ _ h => h) (Or.inl ⟨by rfl, ?hy0_4⟩) (by assumption) ?rest0_4
                    case hy0_4 => (intro w' hSw; (try dsimp only at hSw); go_simp; try with_reducible rfl)
                    try simp only [List.getElem_toArray, List.getElem_cons_zero, List.getElem_cons_succ, Act.put, List.setIfInBounds_toArray, List.set_cons_zero, List.set_cons_succ]
                    refine wpAnyH_take (i := 1) (v := ?vv1_4) rfl (by kernel_rfl) (by kernel_rfl) (by kernel_rfl) (fun _ _ _ h => h) (Or.inl ⟨by rfl, ?hy1_4⟩) (by assumption) ?rest1_4
                    case hy1_4 => (intro w' hSw; (try dsimp only at hSw); go_simp; try with_reducible rfl)
                    try simp only [List.getElem_toArray, List.getElem_cons_zero, List.getElem_cons_succ, Act.put, List.setIfInBounds_toArray, List.set_cons_zero, List.set_cons_succ]
                    refine wpAnyH_take (i := 2) (v := ?vv2_4) rfl (by kernel_rfl) (by kernel_rfl) (by kernel_rfl) (fun _ _ _ h => h) (Or.inl ⟨by rfl, ?hy2_4⟩) (by assumption) ?rest2_4
                    case hy2_4 => (intro w' hSw; (try dsimp only at hSw); go_simp; try with_reducible rfl)
                    try simp only [List.getElem_toArray, List.getElem_cons_zero, List.getElem_cons_succ, Act.put, List.setIfInBounds_toArray, List.set_cons_zero, List.set_cons_succ]
                    refine wpAnyH_take (i := 3) (v := ?vv3_4) rfl (by kernel_rfl) (by kernel_rfl) (by kernel_rfl) (fun _ _ _ h => h) (Or.inl ⟨by rfl, ?hy3_4⟩) (by assumption) ?rest3_4
                    case hy3_4 => (intro w' hSw; (try dsimp only at hSw); go_simp; try with_reducible rfl)
                    try simp only [List.getElem_toArray, List.getElem_cons_zero, List.getElem_cons_succ, Act.put, List.setIfInBounds_toArray, List.set_cons_zero, List.set_cons_succ]
                    refine wpAnyH_take (i := 4) (v := ?vv4_4) rfl (by kernel_rfl) (by kernel_rfl) (by kernel_rfl) (fun _ _ _ h => h) (Or.inl ⟨by rfl, ?hy4_4⟩) (by assumption) ?rest4_4
                    case hy4_4 => (intro w' hSw; (try dsimp only at hSw); go_simp; try with_reducible rfl)
                    try simp only [List.getElem_toArray, List.getElem_cons_zero, List.getElem_cons_succ, Act.put, List.setIfInBounds_toArray, List.set_cons_zero, List.set_cons_succ]
                    refine wpAnyH_take (i := 5) (v := ?vv5_4) rfl (by kernel_rfl) (by kernel_rfl) (by kernel_rfl) (fun _ _ _ h => h) (Or.inl ⟨by rfl, ?hy5_4⟩) (by assumption) ?rest5_4
                    case hy5_4 => (intro w' hSw; (try dsimp only at hSw); go_simp; try with_reducible rfl)
                    try simp only [List.getElem_toArray, List.getElem_cons_zero, List.getElem_cons_succ, Act.put, List.setIfInBounds_toArray, List.set_cons_zero, List.set_cons_succ]
                    refine wpAnyH_take (i := 6) (v := ?vv6_4) rfl (by kernel_rfl) (by kernel_rfl) (by kernel_rfl) (fun _ _ _ h => h) (Or.inl ⟨by rfl, ?hy6_4⟩) (by assumption) ?rest6_4
                    case hy6_4 => (intro w' hSw; (try dsimp only at hSw); go_simp; try with_reducible rfl)
                    try simp only [List.getElem_toArray, List.getElem_cons_zero, List.getElem_cons_succ, Act.put, List.setIfInBounds_toArray, List.set_cons_zero, List.set_cons_succ]
                    refine wpAnyH_take (i := 7) (v := ?vv7_4) rfl (by kernel_rfl) (by kernel_rfl) (by kernel_rfl) (fun _ _ _ h => h) (Or.inl ⟨by rfl, ?hy7_4⟩) (by assumption) ?rest7_4
                    case hy7_4 => (intro w' hSw; (try dsimp only at hSw); go_simp; try with_reducible rfl)
                    try simp only [List.getElem_toArray, List.getElem_cons_zero, List.getElem_cons_succ, Act.put, List.setIfInBounds_toArray, List.set_cons_zero, List.set_cons_succ]
                    refine wpAnyH_take (i := 8) (v := ?vv8_4) rfl (by kernel_rfl) (by kernel_rfl) (by kernel_rfl) (fun _ _ _ h => h) (Or.inl ⟨by rfl, ?hy8_4⟩) (by assumption) ?rest8_4
                    case hy8_4 => (intro w' hSw; (try dsimp only at hSw); go_simp; try with_reducible rfl)
                    try simp only [List.getElem_toArray, List.getElem_cons_zero, List.getElem_cons_succ, Act.put, List.setIfInBounds_toArray, List.set_cons_zero, List.set_cons_succ]
                    refine wpAnyH_take (i := 9) (v := ?vv9_4) rfl (by kernel_rfl) (by kernel_rfl) (by kernel_rfl) (fun _ _ _ h => h) (Or.inl ⟨by rfl, ?hy9_4⟩) (by assumption) ?rest9_4
                    case hy9_4 => (intro w' hSw; (try dsimp only at hSw); go_simp; try with_reducible rfl)
                    try simp only [List.getElem_toArray, List.getElem_cons_zero, List.getElem_cons_succ, Act.put, List.setIfInBounds_toArray, List.set_cons_zero, List.set_cons_succ]
                    refine wpAnyH_take (i := 10) (v := ?vv10_4) rfl (by kernel_rfl) (by kernel_rfl) (by kernel_rfl) (fun _ _ _ h => h) (Or.inl ⟨by rfl, ?hy10_4⟩) (by assumption) ?rest10_4
                    case hy10_4 => (intro w' hSw; (try dsimp only at hSw); go_simp; try with_reducible rfl)
                    try simp only [List.getElem_toArray, List.getElem_cons_zero, List.getElem_cons_succ, Act.put, List.setIfInBounds_toArray, List.set_cons_zero, List.set_cons_succ]
                    refine wpAnyH_take (i := 11) (v := ?vv11_4) rfl (by kernel_rfl) (by kernel_rfl) (by kernel_rfl) (fun _ _ _ h => h) (Or.inl ⟨by rfl, ?hy11_4⟩) (by assumption) ?rest11_4
                    case hy11_4 => (intro w' hSw; (try dsimp only at hSw); go_simp; try with_reducible rfl)
                    try simp only [List.getElem_toArray, List.getElem_cons_zero, List.getElem_cons_succ, Act.put, List.setIfInBounds_toArray, List.set_cons_zero, List.set_cons_succ]
                    refine wpAnyH_take (i := 12) (v := ?vv12_4) rfl (by kernel_rfl) (by kernel_rfl) (by kernel_rfl) (fun _ _ _ h => h) (Or.inl ⟨by rfl, ?hy12_4⟩) (by assumption) ?rest12_4
                    case hy12_4 => (intro w' hSw; (try dsimp only at hSw); go_simp; try with_reducible rfl)
                    try simp only [List.getElem_toArray, List.getElem_cons_zero, List.getElem_cons_succ, Act.put, List.setIfInBounds_toArray, List.set_cons_zero, List.set_cons_succ]
                    refine wpAnyH_take (i := 13) (v := ?vv13_4) rfl (by kernel_rfl) (by kernel_rfl) (by kernel_rfl) (fun _ _ _ h => h) (Or.inl ⟨by rfl, ?hy13_4⟩) (by assumption) ?rest13_4
                    case hy13_4 => (intro w' hSw; (try dsimp only at hSw); go_simp; try with_reducible rfl)
                    try simp only [List.getElem_toArray, List.getElem_cons_zero, List.getElem_cons_succ, Act.put, List.setIfInBounds_toArray, List.set_cons_zero, List.set_cons_succ]
                    refine wpAnyH_take (i := 14) (v := ?vv14_4) rfl (by kernel_rfl) (by kernel_rfl) (by kernel_rfl) (fun _ _ _ h => h) (Or.inl ⟨by rfl, ?hy14_4⟩) (by assumption) ?rest14_4
                    case hy14_4 => (intro w' hSw; (try dsimp only at hSw); go_simp; try with_reducible rfl)
                    try simp only [List.getElem_toArray, List.getElem_cons_zero, List.getElem_cons_succ, Act.put, List.setIfInBounds_toArray, List.set_cons_zero, List.set_cons_succ]
                    refine wpAnyH_take (i := 15) (v := ?vv15_4) rfl (by kernel_rfl) (by kernel_rfl) (by kernel_rfl) (fun _ _ _ h => h) (Or.inl ⟨by rfl, ?hy15_4⟩) (by assumption) ?rest15_4
                    case hy15_4 => (intro w' hSw; (try dsimp only at hSw); go_simp; try with_reducible rfl)
                    try simp only [List.getElem_toArray, List.getElem_cons_zero, List.getElem_cons_succ, Act.put, List.setIfInBounds_toArray, List.set_cons_zero, List.set_cons_succ]
                    refine wpAnyH_take (i := 16) (v := ?vv16_4) rfl (by kernel_rfl) (by kernel_rfl) (by kernel_rfl) (fun _ _ _ h => h) (Or.inl ⟨by rfl, ?hy16_4⟩) (by assumption) ?rest16_4
                    case hy16_4 => (intro w' hSw; (try dsimp only at hSw); go_simp; try with_reducible rfl)
                    try simp only [List.getElem_toArray, List.getElem_cons_zero, List.getElem_cons_succ, Act.put, List.setIfInBounds_toArray, List.set_cons_zero, List.set_cons_succ]
                    refine wpAnyH_take (i := 17) (v := ?vv17_4) rfl (by kernel_rfl) (by kernel_rfl) (by kernel_rfl) (fun _ _ _ h => h) (Or.inl ⟨by rfl, ?hy17_4⟩) (by assumption) ?rest17_4
                    case hy17_4 => (intro w' hSw; (try dsimp only at hSw); go_simp; try with_reducible rfl)
                    try simp only [List.getElem_toArray, List.getElem_cons_zero, List.getElem_cons_succ, Act.put, List.setIfInBounds_toArray, List.set_cons_zero, List.set_cons_succ]
                    refine wpAnyH_take (i := 18) (v := ?vv18_4) rfl (by kernel_rfl) (by kernel_rfl) (by kernel_rfl) (fun _ _ _ h => h) (Or.inl ⟨by rfl, ?hy18_4⟩) (by assumption) ?rest18_4
                    case hy18_4 => (intro w' hSw; (try dsimp only at hSw); go_simp; try with_reducible rfl)
                    try simp only [List.getElem_toArray, List.getElem_cons_zero, List.getElem_cons_succ, Act.put, List.setIfInBounds_toArray, List.set_cons_zero, List.set_cons_succ]
                    refine wpAnyH_ready (rs := [19]) (by kernel_rfl) (by simp) ?_
                    refine AllReadyH.cons rfl (fun K hK => ?_) AllReadyH.nil
                    go_simp
                    go_at_call 37
                    refine (HO2.out _ hHeld (cp - k)).mono ?_
                    rintro e w3 ⟨rfl, hp3⟩
                    have HP3 := Lib.hid hp3
                    clear hp3
                    refine hK.out _ _ HP3.out (fun hHeld => ?_)
                    clear hK K
                    try simp only [List.getElem_toArray, List.getElem_cons_zero, List.getElem_cons_succ, Act.put, List.setIfInBounds_toArray, List.set_cons_zero, List.set_cons_succ]
                    refine wpAnyH_take (i := 20) (v := ?vv20_4) rfl (by kernel_rfl) (by kernel_rfl) (by kernel_rfl) (fun _ _ _ h => h) (Or.inl ⟨by rfl, ?hy20_4⟩) (by assumption) ?rest20_4
                    case hy20_4 => (intro w' hSw; (try dsimp only at hSw); go_simp; try with_reducible rfl)
                    try simp only [List.getElem_toArray, List.getElem_cons_zero, List.getElem_cons_succ, Act.put, List.setIfInBounds_toArray, List.set_cons_zero, List.set_cons_succ]
                    refine wpAnyH_done (by kernel_rfl) ?_ _
                    go_wp2_with fail
                    go_roundw
                    case rel => exact ⟨m, by omega, rfl, by rw [HMK.out, HAT.out]; rfl, HP3.out⟩
                    case measure => simp [intOf]; omega
            | false =>
              have hbo : b = ((s == host) && ownsB host host) := by rw [hb, bare_owns hst]
              clear hb
              rw [starred_iff] at hst
              by_cases hs1 : 1 < s.length
              · have hl2 : (1 : Int) < (s.length : Int) := by omega
                have hl2c : (2 : Int) ≤ (s.length : Int) := by omega
                have hex2 : (str s).extract 0 2 = str (s.take 2) := by rw [str_extract]; simp
                obtain ⟨t2, ht2⟩ : ∃ t, t = s.take 2 := ⟨_, rfl⟩
                have htt : (t2 == [42, 46]) = false := by rw [ht2]; simpa [hs1] using hst
                rw [← ht2] at hex2
                clear ht2
                by_cases he : s = host
                · have heq : (s == host) = true := by simpa using he
                  have HOO := Lib.hid (fun W (h : P W) k c' (hx : SX W (.slice (some ⟨k, 0, none⟩) 1 c') [host]) => show Calls Tryz.prog 37 _ W (fun e w' => e = .returned (.bool b) ∧ P w') from by
                    have := owns_own HP.out h (s := host) (by omega) k c' hx
                    rw [show ownsB host host = b by rw [hbo, heq, Bool.true_and]] at this
                    exact this)
                  clear hbo he hst
                  cases B
                  all_goals cases b
                  all_goals
                    go_wp2_with (first | (go_at_call 37; with_reducible refine (HO.out _ HPW.out (cp - k)).mono ?_; rintro e w2 ⟨rfl, hp2⟩; have HP2 := Lib.hid hp2; clear hp2) | (go_at_call 37; refine (HOO.out _ (HP.out.alloc HP2.out _) _ _ (sx_one _ _ host rfl)).mono ?_; rintro e w3 ⟨rfl, hp3⟩; have HP3 := Lib.hid hp3; clear hp3))
                    go_roundw
                    case rel => exact ⟨m, by omega, rfl, by rw [HMK.out, HAT.out]; rfl, HP3.out⟩
                    case measure => simp [intOf]; omega
                · have heq : (s == host) = false := by simpa using he
                  have hb0 : b = false := by rw [hbo, heq, Bool.false_and]
                  subst hb0
                  clear hbo he hst
                  cases B
                  all_goals
                    go_wp2_with (first | (go_at_call 37; with_reducible refine (HO.out _ HPW.out (cp - k)).mono ?_; rintro e w2 ⟨rfl, hp2⟩; have HP2 := Lib.hid hp2; clear hp2))
                    go_roundw
                    case rel => exact ⟨m, by omega, rfl, by rw [HMK.out, HAT.out]; rfl, HP2.out⟩
                    case measure => simp [intOf]; omega
              · have hl2 : ¬ (1 : Int) < (s.length : Int) := by omega
                by_cases he : s = host
                · have heq : (s == host) = true := by simpa using he
                  have HOO := Lib.hid (fun W (h : P W) k c' (hx : SX W (.slice (some ⟨k, 0, none⟩) 1 c') [host]) => show Calls Tryz.prog 37 _ W (fun e w' => e = .returned (.bool b) ∧ P w') from by
                    have := owns_own HP.out h (s := host) (by omega) k c' hx
                    rw [show ownsB host host = b by rw [hbo, heq, Bool.true_and]] at this
                    exact this)
                  clear hbo he hst
                  cases B
                  all_goals cases b
                  all_goals
                    go_wp2_with (first | (go_at_call 37; with_reducible refine (HO.out _ HPW.out (cp - k)).mono ?_; rintro e w2 ⟨rfl, hp2⟩; have HP2 := Lib.hid hp2; clear hp2) | (go_at_call 37; refine (HOO.out _ (HP.out.alloc HP2.out _) _ _ (sx_one _ _ host rfl)).mono ?_; rintro e w3 ⟨rfl, hp3⟩; have HP3 := Lib.hid hp3; clear hp3))
                    go_roundw
                    case rel => exact ⟨m, by omega, rfl, by rw [HMK.out, HAT.out]; rfl, HP3.out⟩
                    case measure => simp [intOf]; omega
                · have heq : (s == host) = false := by simpa using he
                  have hb0 : b = false := by rw [hbo, heq, Bool.false_and]
                  subst hb0
                  clear hbo he hst
                  cases B
                  all_goals
                    go_wp2_with (first | (go_at_call 37; with_reducible refine (HO.out _ HPW.out (cp - k)).mono ?_; rintro e w2 ⟨rfl, hp2⟩; have HP2 := Lib.hid hp2; clear hp2))
                    go_roundw
                    case rel => exact ⟨m, by omega, rfl, by rw [HMK.out, HAT.out]; rfl, HP2.out⟩
                    case measure => simp [intOf]; omega
          · obtain rfl : k = names.length := by omega
            rw [List.take_length] at HBB
            have HOA := Lib.hid (fun W (h : P W) => owns_all HP.out h (HX.out _ h) F1.out host (by omega))
            rw [← HBB.out] at HOA
            have HO1 := Lib.hid (fun W (h : P W) => show Calls Tryz.prog 31 #[.string { data := #[107] }, .string { data := #[107] }, .bool false, .slice A names.length cp] W (fun e w' => e = .returned (.agg #[sv kT, sv (digestL kT), .slice A names.length cp, .int .i64 10, .int .i64 20, .bool false]) ∧ P w') from
              (one_any kT kT false names A names.length cp (by decide) (HP.out.ga h)).mono fun e w' ⟨h1, h2⟩ => ⟨h1, HP.out.step h h2⟩)
            have HEN := Lib.hid (fun W (h : P W) => show Calls Tryz.prog 17 #[.agg #[sv kT, sv (digestL kT), .slice A names.length cp, .int .i64 10, .int .i64 20, .bool false]] W (fun e w' => e = .returned (.tuple #[sv (encL (oneC kT kT false names)), .int .i64 (encE (oneC kT kT false names) : Nat)]) ∧ P w') from
              (encode_any (oneC kT kT false names) A cp (HX.out _ h) ⟨by show 1 ≤ 1000000; decide, by show (digestL kT).length ≤ 1000000; decide +kernel, Nat.le_trans F1.out.1 (by decide), fun n hn => Nat.le_trans (F1.out.2 n hn) (by decide)⟩ (HP.out.ga h).gl).mono fun e w' ⟨h1, h2⟩ => ⟨h1, HP.out.step h h2⟩)
            have h3 := encE_three (oneC kT kT false names)
            obtain ⟨z, hz0⟩ : ∃ z, z = encE (oneC kT kT false names) := ⟨_, rfl⟩
            obtain ⟨t, ht⟩ : ∃ t, t = encL (oneC kT kT false names) := ⟨_, rfl⟩
            obtain ⟨dg, hdg⟩ : ∃ t, t = digestL kT := ⟨_, rfl⟩
            obtain ⟨kt, hkt⟩ : ∃ t, t = kT := ⟨_, rfl⟩
            rw [← hz0, ← ht, ← hdg, ← hkt] at HEN
            rw [← hdg, ← hkt] at HO1
            rw [← hz0] at h3
            clear hz0 ht hdg hkt hp
            rcases h3 with rfl | rfl | rfl
            all_goals cases B
            all_goals
              go_wp2_with (first
                | (go_at_call 31; with_reducible refine (HO1.out _ HPW.out).mono ?_; rintro e w2 ⟨rfl, hp2⟩)
                | (go_at_call 17; with_reducible refine (HEN.out _ hp2).mono ?_; rintro e w3 ⟨rfl, hp3⟩)
                | (go_at_call 37; with_reducible refine (HOA.out _ hp3).mono ?_; rintro e w4 ⟨rfl, hp4⟩))
              go_ret
              exact ⟨rfl, HB.out _ hp4⟩
  · go_ret
    exact ⟨rfl, HB.out _ ha⟩
end Go.Proofs.YtoinicmhkfomjaaGreatDoor
