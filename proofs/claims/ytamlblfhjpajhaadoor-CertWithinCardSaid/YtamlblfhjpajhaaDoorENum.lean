/-
  The contracts of number, length, Int, ReadInt, Bool, ReadBool.
-/
import Derived.Deep.RegionHeld3
import Derived.Test.YtamlblfhjpajhaaDoorEBase
namespace Go.Proofs.YtamlblfhjpajhaaDoor
set_option linter.unusedSimpArgs false
set_option linter.unusedVariables false
open Go Go.RowKit
set_option maxRecDepth 100000

theorem pow256_6 : (256 : Int) ^ 6 = 281474976710656 := by decide
theorem fits_mono {k m : Nat} {n : Int} (h : fits k n) (hm : k ≤ m) : fits m n := by
  unfold fits at h ⊢
  have hp : (256 : Int) ^ k ≤ 256 ^ m := by exact_mod_cast Nat.pow_le_pow_right (by omega) hm
  omega
theorem fits6 {n : Int} (h : fits 6 n) : -36028797018963968 ≤ n ∧ n < 36028797018963968 := by
  unfold fits at h
  rw [pow256_6] at h
  omega
theorem fits7 {n : Int} (h : fits 7 n) : -9223372036854775808 ≤ n ∧ n < 9223372036854775808 := by
  unfold fits at h
  rw [show (256 : Int) ^ 7 = 72057594037927936 by decide] at h
  omega
theorem or_byte {m : Int} (hm : fits 6 m) (x : UInt8) : bits .or .i64 (m * 256) (x.toNat : Int) = m * 256 + x.toNat := by
  have hb := fits6 hm
  have hx := x.toNat_lt
  obtain ⟨u, hu⟩ : ∃ u : Nat, (u : Int) = (m * 256) % 18446744073709551616 := ⟨((m * 256) % 18446744073709551616).toNat, by omega⟩
  obtain ⟨v, hv⟩ : ∃ v : Nat, u = 2 ^ 8 * v := ⟨u / 256, by omega⟩
  have e1 : (BitVec.ofInt 64 (m * 256)).toNat = u := by
    rw [BitVec.toNat_ofInt]
    have : ((2 ^ 64 : Nat) : Int) = 18446744073709551616 := by decide
    rw [this, ← hu]; simp
  have e2 : (BitVec.ofInt 64 (x.toNat : Int)).toNat = x.toNat := by
    rw [BitVec.ofInt_natCast, BitVec.toNat_ofNat]; omega
  have e3 : u ||| x.toNat = u + x.toNat := by
    rw [hv]
    exact (Nat.two_pow_add_eq_or_of_lt (i := 8) hx v).symm
  show IntKind.i64.wrap (((BitVec.ofInt 64 (m * 256)) ||| (BitVec.ofInt 64 (x.toNat : Int))).toNat : Int) = _
  rw [BitVec.toNat_or, e1, e2, e3, IntKind.wrap_i64]
  push_cast
  omega
theorem wrap64_in {z : Int} (h : -9223372036854775808 ≤ z ∧ z < 9223372036854775808) : wrap64 z = z := by unfold wrap64; omega
theorem shl8 {m : Int} (hm : fits 6 m) : wrap64 (m * 2 ^ 8) = m * 256 := by
  have hb := fits6 hm
  rw [show (2 : Int) ^ 8 = 256 by decide]
  exact wrap64_in (by omega)
theorem take_next {l : List UInt8} {k : Nat} (h : k < l.length) : l.take (k + 1) = l.take k ++ [l.getD k 0] := by
  rw [List.take_succ_eq_append_getElem h, List.getD_eq_getElem?_getD, List.getElem?_eq_getElem h]
  rfl
theorem str_size (l : List UInt8) : (str l).size = l.length := by simp [ByteArray.size]

set_option maxHeartbeats 2000000 in
theorem number_any {w : World} (k : Nat) (n : Int) (l : List UInt8) (hn : fits k n) (hk : k + l.length ≤ 7) :
    Calls Tryd.prog 47 #[.int .i64 n, sv l] w fun e w' => e = .returned (.int .i64 (numI n l)) ∧ w = w' := by
  have HN := Lib.hid hn
  clear hn
  have hsz := str_size l
  go_enter Tryd.func47, Tryd.ntmps47
  go_wp2_with fail
  go_loop [0, 8] (fun m i => ∃ j : Nat, j ≤ l.length ∧ i = .int .i64 j ∧ m = .int .i64 (numI n (l.take j))) (fun _ i => l.length - (intOf i).toNat)
  case atStart => exact ⟨0, Nat.zero_le _, rfl, rfl⟩
  case round =>
    obtain ⟨j, hj, rfl, rfl⟩ := hrel
    by_cases hlt : j < l.length
    · have hx := str_getD l j hlt (by rw [hsz]; exact hlt)
      have hf : fits 6 (numI n (l.take j)) := by
        have := numI_fits k n (l.take j) HN.out
        refine fits_mono this ?_
        rw [List.length_take]; omega
      have hs : numI n (l.take (j + 1)) = numI n (l.take j) * 256 + (l.getD j 0).toNat := by rw [take_next hlt, numI_snoc]
      have h1 := shl8 hf
      have h2 := or_byte hf (l.getD j 0)
      rw [← hs] at h2
      have h3 := (l.getD j 0).toNat_lt
      have h4 : IntKind.i64.wrap ((l.getD j 0).toNat : Int) = ((l.getD j 0).toNat : Int) := by rw [IntKind.wrap_i64]; omega
      have hlt' : (j : Int) < (l.length : Int) := by omega
      have hm : wrap64 (numI n (l.take j) * 256) = numI n (l.take j) * 256 := wrap64_in (by have := fits6 hf; omega)
      rw [← hm, getD_str l j hlt] at h2
      rw [getD_str l j hlt] at h3
      have h5 : wrap64 ((l[j].toNat : Nat) : Int) = ((l[j].toNat : Nat) : Int) := wrap64_in (by omega)
      rw [← h5] at h2
      have H2 := Lib.hid h2
      clear hs hf hm h1 h2 h3 h4 h5 hx
      go_wp2_with fail
      go_round
      case rel => exact ⟨j + 1, by omega, by go_num, congrArg (Value.int .i64) H2.out⟩
      case measure => simp [intOf]; omega
    · obtain rfl : j = l.length := by omega
      go_wp2_with fail
      go_ret
      exact ⟨rfl, rfl⟩

theorem u8_nat (n : Nat) : IntKind.u8.wrap (n : Int) = ((UInt8.ofNat n).toNat : Int) := by rw [IntKind.wrap_u8]; simp
theorem u8_int (n : Int) : IntKind.u8.wrap n = ((UInt8.ofNat (n % 256).toNat).toNat : Int) := by rw [IntKind.wrap_u8, low_toNat]
theorem shr8 (n : Nat) : ((n : Int) / 2 ^ 8) = ((n / 256 : Nat) : Int) := by
  rw [show (2 : Int) ^ 8 = 256 by decide]; omega

set_option maxHeartbeats 2000000 in
theorem length_any {w : World} (n : Nat) (hn : n ≤ 65535) : Calls Tryd.prog 49 #[.int .i64 n] w fun e w' => e = .returned (sv (lenL n)) ∧ Below w.heap.size w w' := by
  have hu := u8_nat n
  have hv := u8_nat (n / 256)
  rw [IntKind.wrap_u8] at hu hv
  have hs := shr8 n
  by_cases h1 : n ≤ 127
  · have he : lenL n = [UInt8.ofNat n] := by unfold lenL; rw [if_pos h1]
    rw [he]
    have h1' : (n : Int) ≤ 127 := by omega
    have HO := Lib.hid (fun c => octets1 w (n : Int) (UInt8.ofNat n) (by rw [← hu]; omega) c)
    have HB := Lib.hid (below_alloc w (.cells #[.int .u8 (n : Int)] 5))
    clear he hn hv hs
    go_enter Tryd.func49, Tryd.ntmps49
    go_wp2_with (go_at_call 42; refine (HO.out _).mono ?_; rintro e w1 ⟨rfl, rfl⟩)
    go_ret
    exact ⟨rfl, HB.out⟩
  · have h1' : ¬ (n : Int) ≤ 127 := by omega
    by_cases h2 : n ≤ 255
    · have he : lenL n = [129, UInt8.ofNat n] := by unfold lenL; rw [if_neg h1, if_pos h2]
      rw [he]
      have h2' : (n : Int) ≤ 255 := by omega
      have HO := Lib.hid (fun c => octets2 w 129 (n : Int) 129 (UInt8.ofNat n) rfl (by rw [← hu]; omega) c)
      have HB := Lib.hid (below_alloc w (.cells #[.int .u8 129, .int .u8 (n : Int)] 5))
      clear he hn hv hs
      go_enter Tryd.func49, Tryd.ntmps49
      go_wp2_with (go_at_call 42; refine (HO.out _).mono ?_; rintro e w1 ⟨rfl, rfl⟩)
      go_ret
      exact ⟨rfl, HB.out⟩
    · have he : lenL n = [130, UInt8.ofNat (n / 256), UInt8.ofNat n] := by unfold lenL; rw [if_neg h1, if_neg h2]
      rw [he]
      have h2' : ¬ (n : Int) ≤ 255 := by omega
      obtain ⟨x, hx⟩ : ∃ x : Int, x = (n : Int) / 256 % 256 := ⟨_, rfl⟩
      obtain ⟨y, hy⟩ : ∃ y : Int, y = (n : Int) % 256 := ⟨_, rfl⟩
      rw [← hs, show (2 : Int) ^ 8 = 256 by decide, ← hx] at hv
      rw [← hy] at hu
      have HO := Lib.hid (fun c => octets3 w 130 x y 130 (UInt8.ofNat (n / 256)) (UInt8.ofNat n) rfl hv hu c)
      have HB := Lib.hid (below_alloc w (.cells #[.int .u8 130, .int .u8 x, .int .u8 y] 5))
      have HX := Lib.hid hx
      have HY := Lib.hid hy
      clear he hn hv hu hs hx hy
      go_enter Tryd.func49, Tryd.ntmps49
      go_wp2_with fail
      rw [← HX.out, ← HY.out]
      go_wp2_with (go_at_call 42; refine (HO.out _).mono ?_; rintro e w1 ⟨rfl, rfl⟩)

      go_ret
      exact ⟨rfl, HB.out⟩

end Go.Proofs.YtamlblfhjpajhaaDoor
