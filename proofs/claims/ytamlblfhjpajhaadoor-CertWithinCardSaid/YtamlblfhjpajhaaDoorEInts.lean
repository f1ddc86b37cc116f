/-
  The contracts of Int, ReadInt, Bool, ReadBool.
-/
import Derived.Test.YtamlblfhjpajhaaDoorENum
namespace Go.Proofs.YtamlblfhjpajhaaDoor
set_option linter.unusedSimpArgs false
set_option linter.unusedVariables false
open Go Go.RowKit
set_option maxRecDepth 100000

theorem wrap_i8 (n : Int) : IntKind.i8.wrap n = (n + 128) % 256 - 128 := by
  simp [IntKind.wrap, IntKind.bits, IntKind.signed]
  split <;> omega
set_option maxHeartbeats 2000000 in
theorem int_any (k : Nat) : ∀ {w : World} (n : Int) (hn : fits k n) (hk : k ≤ 7), Calls Tryd.prog 26 #[.int .i64 n] w fun e w' => e = .returned (sv (intF k n)) ∧ Below w.heap.size w w' := by
  have one : ∀ {w : World} (n : Int) (h0 : -128 ≤ n ∧ n < 128), Calls Tryd.prog 26 #[.int .i64 n] w fun e w' => e = .returned (sv [UInt8.ofNat (n % 256).toNat]) ∧ Below w.heap.size w w' := by
    intro w n h0
    have hu := u8_int n
    have hw8 : IntKind.i8.wrap n = n := by rw [wrap_i8]; omega
    obtain ⟨x, hx⟩ : ∃ x : Int, x = n % 256 := ⟨_, rfl⟩
    obtain ⟨b, hb⟩ : ∃ b, b = UInt8.ofNat (n % 256).toNat := ⟨_, rfl⟩
    rw [IntKind.wrap_u8, ← hb, ← hx] at hu
    rw [← hb]
    have HO := Lib.hid (fun c => octets1 w x b hu c)
    have HB := Lib.hid (below_alloc w (.cells #[.int .u8 x] 5))
    have HX := Lib.hid hx
    have h1 := h0.1
    have h2 := h0.2
    clear hu hx hb h0
    go_enter Tryd.func26, Tryd.ntmps26
    go_wp2_with (go_at_call 42; rw [← HX.out]; with_reducible refine (HO.out _).mono ?_; rintro e w1 ⟨rfl, rfl⟩)
    go_ret
    exact ⟨rfl, HB.out⟩
  induction k with
  | zero =>
    intro w n hn hk
    exact one n (by unfold fits at hn; simpa using hn)
  | succ k ih =>
    intro w n hn hk
    by_cases h0 : -128 ≤ n ∧ n < 128
    · have := @one w n h0
      unfold intF
      rwa [if_pos h0]
    · unfold intF
      rw [if_neg h0]
      have hu := u8_int n
      obtain ⟨x, hx⟩ : ∃ x : Int, x = n % 256 := ⟨_, rfl⟩
      obtain ⟨b, hb⟩ : ∃ b, b = UInt8.ofNat (n % 256).toNat := ⟨_, rfl⟩
      obtain ⟨m, hm⟩ : ∃ m, m = (n + 128) % 256 - 128 := ⟨_, rfl⟩
      have hw8 : IntKind.i8.wrap n = m := by rw [wrap_i8, hm]
      have hm1 : IntKind.i64.wrap m = m := by rw [IntKind.wrap_i64]; omega
      have hne : ¬ n = m := by omega
      have hm2 : -128 ≤ m ∧ m < 128 := by omega
      obtain ⟨hm3, hm4⟩ := hm2
      rw [IntKind.wrap_u8, ← hb, ← hx] at hu
      rw [← hb]
      have h7 := fits7 (fits_mono hn hk)
      have h70 := h7.1
      have h71 := h7.2
      have IH := Lib.hid (fun W => @ih W (n / 256) (fits_step hn) (by omega))
      have HO := Lib.hid (fun c => octets1 w x b hu c)
      have HB := Lib.hid (below_alloc w (.cells #[.int .u8 x] 5))
      have HX := Lib.hid hx
      have hl8 : (intF k (n / 256)).length ≤ 8 := by have := intF_length k (n / 256); omega
      clear hu hx hb h0 hm ih one hn h7
      go_enter Tryd.func26, Tryd.ntmps26
      go_wp2_with (first | (go_at_call 42; rw [← HX.out]; with_reducible refine (HO.out _).mono ?_; rintro e w1 ⟨rfl, rfl⟩) | (go_at_call 26; refine (IH.out _).mono ?_; rintro e w2 ⟨rfl, hb2⟩))
      go_ret
      exact ⟨by rfl, HB.out.trans (hb2.mono (by simp))⟩

theorem int_top {w : World} {n : Int} (h : -9223372036854775808 ≤ n ∧ n < 9223372036854775808) : Calls Tryd.prog 26 #[.int .i64 n] w fun e w' => e = .returned (sv (intL n)) ∧ Below w.heap.size w w' := int_any 7 n (fits64 h) (Nat.le_refl _)

def okN (b : Bool) : Int := if b then 0 else 4
theorem i8_sgn (b : UInt8) : IntKind.i8.wrap (b.toNat : Int) = sgn b := by
  have h := b.toNat_lt
  rw [wrap_i8]; unfold sgn; split <;> omega
set_option maxHeartbeats 4000000 in
theorem readInt_any {w : World} (s : List UInt8) (hs : s.length ≤ 9223372036854775807) : Calls Tryd.prog 33 #[sv s] w fun e w' => e = .returned (.tuple #[.int .i64 (readN s), .int .i64 (okN (readB s))]) ∧ Below w.heap.size w w' := by
  have hsz := str_size s
  by_cases h0 : s.length = 0
  · obtain rfl : s = [] := List.length_eq_zero_iff.1 h0
    clear h0 hs
    go_enter Tryd.func33, Tryd.ntmps33
    go_wp2_with fail
    go_ret2
    exact ⟨rfl, Below.refl _ _⟩
  · by_cases h8 : s.length ≤ 8
    · obtain ⟨b, hb⟩ : ∃ b, b = s.getD 0 0 := ⟨_, rfl⟩
      obtain ⟨l, hl⟩ : ∃ l, l = s.drop 1 := ⟨_, rfl⟩
      have hsl : s = b :: l := by
        cases s with
        | nil => exact absurd rfl h0
        | cons x y => subst hb hl; rfl
      have hll : l.length ≤ 7 := by subst hl; simp; omega
      have hf := valL_fits b l
      have h7 := fits7 (fits_mono hf hll)
      have HNU := Lib.hid (fun W => @number_any W 0 (sgn b) l (by unfold fits; simpa using sgn_fits b) (by omega))
      rw [show numI (sgn b) l = valL s by rw [hsl]; rfl] at HNU
      rw [← hsl] at h7
      have HIN := Lib.hid (fun W => @int_top W _ h7)
      obtain ⟨v, hv⟩ : ∃ v, v = valL s := ⟨_, rfl⟩
      have HR := Lib.hid (show readB s = (intL v == s) by unfold readB; rw [decide_eq_true (by omega), hv]; rfl)
      have HV := Lib.hid (show readN s = if (intL v == s) then v else 0 by unfold readN; rw [HR.out, hv])
      rw [← hv] at HNU HIN
      have hw8 := i8_sgn b
      obtain ⟨g, hg⟩ : ∃ g, g = sgn b := ⟨_, rfl⟩
      rw [← hg] at HNU hw8
      have hw64 : IntKind.i64.wrap g = g := by have := sgn_fits b; rw [IntKind.wrap_i64]; omega
      have hlt0 : 0 < s.length := by omega
      have hx : (str s)[0]'(by rw [hsz]; exact hlt0) = b := by rw [str_getD s 0 hlt0, hb]
      have hex : (str s).extract 1 s.length = str l := by
        rw [str_extract, hl]; simp
      have hL : (intL v).length ≤ 8 := (intL_length v).2
      have hem : s.isEmpty = false := by rw [hsl]; rfl
      have h8' : decide (8 < (s.length : Int)) = false := by rw [decide_eq_false_iff_not]; omega
      cases hq : (intL v == s) with
      | true =>
        rw [hq] at HR HV
        have hq2 := hq
        clear hf h7 h0 hs hg hv hsl hll hl hb
        go_enter Tryd.func33, Tryd.ntmps33
        go_wp2_with fail
        go_region_with (go_at_call 47; refine (HNU.out _).mono ?_; rintro e w1 ⟨rfl, rfl⟩)
        all_goals
          go_wp2_with (go_at_call 26; refine (HIN.out _).mono ?_; rintro e w2 ⟨rfl, hb2⟩)
          go_ret2
          rw [HV.out, HR.out]
          exact ⟨rfl, ((Below.refl _ _).drew).trans (hb2.mono (Nat.le_refl _))⟩
      | false =>
        rw [hq] at HR HV
        have hq2 := hq
        clear hf h7 h0 hs hg hv hsl hll hl hb
        go_enter Tryd.func33, Tryd.ntmps33
        go_wp2_with fail
        go_region_with (go_at_call 47; refine (HNU.out _).mono ?_; rintro e w1 ⟨rfl, rfl⟩)
        all_goals
          go_wp2_with (go_at_call 26; refine (HIN.out _).mono ?_; rintro e w2 ⟨rfl, hb2⟩)
          go_ret2
          rw [HV.out, HR.out]
          exact ⟨rfl, ((Below.refl _ _).drew).trans (hb2.mono (Nat.le_refl _))⟩
    · have HR := Lib.hid (show readB s = false by unfold readB; rw [decide_eq_false (by omega)]; rfl)
      have HV := Lib.hid (show readN s = 0 by unfold readN; rw [HR.out]; rfl)
      have hem : s.isEmpty = false := by
        cases s with
        | nil => exact absurd rfl h0
        | cons x y => rfl
      have h8' : decide (8 < (s.length : Int)) = true := by rw [decide_eq_true_eq]; omega
      clear h0
      go_enter Tryd.func33, Tryd.ntmps33
      go_wp2_with fail
      go_ret2
      rw [HV.out, HR.out]
      exact ⟨rfl, Below.refl _ _⟩

def yesL (b : Bool) : List UInt8 := if b then [255] else [0]
def boolB (s : List UInt8) : Bool := s == [255] || s == [0]
theorem bool_any {w : World} (b : Bool) : Calls Tryd.prog 27 #[.bool b] w fun e w' => e = .returned (sv (yesL b)) ∧ w = w' := by
  cases b
  all_goals
    go_enter Tryd.func27, Tryd.ntmps27
    go_wp2_with fail
    go_ret
    exact ⟨rfl, rfl⟩
theorem readBool_any {w : World} (s : List UInt8) (hs : s.length ≤ 9223372036854775807) : Calls Tryd.prog 34 #[sv s] w fun e w' => e = .returned (.tuple #[.bool (s == [255]), .int .i64 (okN (boolB s))]) ∧ w = w' := by
  clear hs
  unfold boolB
  by_cases h1 : s = [255]
  · subst h1
    go_enter Tryd.func34, Tryd.ntmps34
    go_wp2_with fail
    go_ret2
    exact ⟨rfl, rfl⟩
  · by_cases h2 : s = [0]
    · subst h2
      go_enter Tryd.func34, Tryd.ntmps34
      go_wp2_with fail
      go_ret2
      exact ⟨rfl, rfl⟩
    · have e1 : (s == [255]) = false := by rw [beq_eq_false_iff_ne]; exact h1
      have e2 : (s == [0]) = false := by rw [beq_eq_false_iff_ne]; exact h2
      go_enter Tryd.func34, Tryd.ntmps34
      go_wp2_with fail
      go_ret2
      rw [e1, e2]
      exact ⟨rfl, rfl⟩
end Go.Proofs.YtamlblfhjpajhaaDoor
