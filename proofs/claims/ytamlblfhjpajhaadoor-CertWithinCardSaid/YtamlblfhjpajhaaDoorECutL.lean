/-
  The contracts of cutLength.
-/
import Derived.OwnWalk
import Derived.Test.YtamlblfhjpajhaaDoorECut
namespace Go.Proofs.YtamlblfhjpajhaaDoor
set_option linter.unusedSimpArgs false
set_option linter.unusedVariables false
open Go Go.RowKit
set_option maxRecDepth 100000

set_option maxHeartbeats 4000000 in
theorem cutLength_any {w : World} (s : List UInt8) (hs : s.length ≤ 9223372036854775807) :
    Calls Tryd.prog 78 #[sv s] w fun e w' => e = .returned (clV (cutLen s)) ∧ Below w.heap.size w w' := by
  have hsz := str_size s
  cases s with
  | nil =>
    go_enter Tryd.func78, Tryd.ntmps78
    go_wp2_with fail
    go_ret3
    exact ⟨rfl, Below.refl _ _⟩
  | cons b r =>
    have HC := Lib.hid (cutLen_cons b r)
    have hr : r.length ≤ 9223372036854775806 := by simpa using hs
    have H1 := Lib.hid (fun W => show Calls Tryd.prog 89 #[sv r, .int .i64 1, .int .u8 128] W (fun e w' => e = .returned (clV (cutNum r 1 128)) ∧ Below W.heap.size W w') from @cutNumber_any W r 1 128 (by omega) (by omega))
    have H2 := Lib.hid (fun W => show Calls Tryd.prog 89 #[sv r, .int .i64 2, .int .u8 1] W (fun e w' => e = .returned (clV (cutNum r 2 1)) ∧ Below W.heap.size W w') from @cutNumber_any W r 2 1 (by omega) (by omega))
    obtain ⟨s, hse⟩ : ∃ s, s = b :: r := ⟨_, rfl⟩
    have h0 : 0 < s.length := by rw [hse]; simp
    have hx : (str s)[0]'(by rw [str_size]; exact h0) = b := by subst hse; rfl
    have hem : s.isEmpty = false := by rw [hse]; rfl
    have hex : (str s).extract 1 s.length = str r := by rw [str_extract, hse]; simp
    rw [← hse]
    rw [← hse] at HC hsz
    clear hs hse hr
    by_cases h1 : b.toNat ≤ 127
    · rw [if_pos h1] at HC
      have hw : IntKind.i64.wrap (b.toNat : Int) = (b.toNat : Int) := by rw [IntKind.wrap_i64]; have := b.toNat_lt; omega
      clear H1 H2
      go_enter Tryd.func78, Tryd.ntmps78
      go_wp2_with fail
      go_ret3
      rw [HC.out]
      exact ⟨rfl, Below.refl _ _⟩
    · rw [if_neg h1] at HC
      by_cases h2 : b = 129
      · rw [if_pos h2] at HC
        have h2' : (b.toNat : Int) = 129 := by rw [h2]; rfl
        rw [← HC.out] at H1
        clear h2 H2
        cases hc : cutLen s with
        | ok p =>
          obtain ⟨n, q⟩ := p
          rw [hc] at H1
          clear hc HC
          have H1' := Lib.hid (fun W => show Calls Tryd.prog 89 #[sv r, .int .i64 1, .int .u8 128] W (fun e w' => e = .returned (.tuple #[.int .i64 (n : Int), sv q, .int .i64 0]) ∧ Below W.heap.size W w') from H1.out W)
          clear H1
          go_enter Tryd.func78, Tryd.ntmps78
          go_wp2_with (go_at_call 89; refine (H1'.out _).mono ?_; rintro e w1 ⟨rfl, hb1⟩)
          go_ret3
          exact ⟨rfl, hb1⟩
        | er x =>
          rw [hc] at H1
          clear hc HC
          have H1' := Lib.hid (fun W => show Calls Tryd.prog 89 #[sv r, .int .i64 1, .int .u8 128] W (fun e w' => e = .returned (.tuple #[.int .i64 0, sv [], .int .i64 (x : Int)]) ∧ Below W.heap.size W w') from H1.out W)
          clear H1
          go_enter Tryd.func78, Tryd.ntmps78
          go_wp2_with (go_at_call 89; refine (H1'.out _).mono ?_; rintro e w1 ⟨rfl, hb1⟩)
          go_ret3
          exact ⟨rfl, hb1⟩
      · rw [if_neg h2] at HC
        have h2' : ((b.toNat : Int) == 129) = false := by
          rw [beq_eq_false_iff_ne]; intro e; exact h2 (UInt8.toNat_inj.1 (show b.toNat = 129 by omega))
        by_cases h3 : b = 130
        · rw [if_pos h3] at HC
          have h3' : (b.toNat : Int) = 130 := by rw [h3]; rfl
          rw [← HC.out] at H2
          clear h2 h3 H1
          cases hc : cutLen s with
          | ok p =>
            obtain ⟨n, q⟩ := p
            rw [hc] at H2
            clear hc HC
            have H1' := Lib.hid (fun W => show Calls Tryd.prog 89 #[sv r, .int .i64 2, .int .u8 1] W (fun e w' => e = .returned (.tuple #[.int .i64 (n : Int), sv q, .int .i64 0]) ∧ Below W.heap.size W w') from H2.out W)
            clear H2
            go_enter Tryd.func78, Tryd.ntmps78
            go_wp2_with (go_at_call 89; refine (H1'.out _).mono ?_; rintro e w1 ⟨rfl, hb1⟩)
            go_ret3
            exact ⟨rfl, hb1⟩
          | er x =>
            rw [hc] at H2
            clear hc HC
            have H1' := Lib.hid (fun W => show Calls Tryd.prog 89 #[sv r, .int .i64 2, .int .u8 1] W (fun e w' => e = .returned (.tuple #[.int .i64 0, sv [], .int .i64 (x : Int)]) ∧ Below W.heap.size W w') from H2.out W)
            clear H2
            go_enter Tryd.func78, Tryd.ntmps78
            go_wp2_with (go_at_call 89; refine (H1'.out _).mono ?_; rintro e w1 ⟨rfl, hb1⟩)
            go_ret3
            exact ⟨rfl, hb1⟩
        · rw [if_neg h3] at HC
          have h3' : ((b.toNat : Int) == 130) = false := by
            rw [beq_eq_false_iff_ne]; intro e; exact h3 (UInt8.toNat_inj.1 (show b.toNat = 130 by omega))
          clear h2 h3 H1 H2
          go_enter Tryd.func78, Tryd.ntmps78
          go_wp2_with fail
          go_ret3
          rw [HC.out]
          exact ⟨rfl, Below.refl _ _⟩
end Go.Proofs.YtamlblfhjpajhaaDoor
