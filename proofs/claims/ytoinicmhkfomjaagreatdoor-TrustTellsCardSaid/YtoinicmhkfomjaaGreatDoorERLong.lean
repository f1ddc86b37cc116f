/-
  The reference's lengths.
-/
import Derived.Test.YtoinicmhkfomjaaGreatDoorEWm
namespace Go.Proofs.YtoinicmhkfomjaaGreatDoor
set_option linter.unusedSimpArgs false
set_option linter.unusedVariables false
open Go Go.RowKit
set_option maxRecDepth 100000

set_option maxHeartbeats 2000000 in
theorem rlong_any {w : World} (n : Nat) (hn : n ≤ 65535) : Calls Tryz.prog 107 #[.int .i64 (n : Int)] w fun e w' => e = .returned (sv (lenL n)) ∧ Below w.heap.size w w' := by
  have BY := Lib.hid (fun W (z : Nat) => @byte1_any W (z : Int) (UInt8.ofNat (z % 256)) (by constructor; omega; simp))
  have B129 := Lib.hid (fun W => @byte1_any W 129 129 (by decide))
  have B130 := Lib.hid (fun W => @byte1_any W 130 130 (by decide))
  by_cases h1 : n < 128
  · have HL := Lib.hid (show lenL n = [UInt8.ofNat (n % 256)] by unfold lenL; rw [if_pos (by omega), Nat.mod_eq_of_lt (by omega)])
    have h1' : (n : Int) < 128 := by omega
    go_enter Tryz.func107, Tryz.ntmps107
    go_wp2_with (go_at_call 101; refine (BY.out _ n).mono ?_; rintro e w1 ⟨rfl, hb⟩)
    go_ret
    rw [HL.out]
    exact ⟨rfl, hb⟩
  · have h1' : ¬ (n : Int) < 128 := by omega
    by_cases h2 : n < 256
    · have HL := Lib.hid (show lenL n = [129] ++ [UInt8.ofNat (n % 256)] by unfold lenL; rw [if_neg (by omega), if_pos (by omega), Nat.mod_eq_of_lt (by omega)]; rfl)
      have h2' : (n : Int) < 256 := by omega
      have HA := Lib.hid (str_appendE [129] [UInt8.ofNat (n % 256)])
      have hz1 := str_size [129]
      have hz2 := str_size [UInt8.ofNat (n % 256)]
      go_enter Tryz.func107, Tryz.ntmps107
      go_wp2_with (first
        | (go_at_call 101; with_reducible refine (B129.out _).mono ?_; rintro e w1 ⟨rfl, hb1⟩)
        | (go_at_call 101; with_reducible refine (BY.out _ n).mono ?_; rintro e w2 ⟨rfl, hb2⟩))
      go_ret
      rw [HL.out]
      exact ⟨by show Ending.returned (.string (str [129] ++ str _)) = _; rw [HA.out], hb1.trans (hb2.mono hb1.size)⟩
    · have h2' : ¬ (n : Int) < 256 := by omega
      obtain ⟨m, hm⟩ : ∃ m, m = n / 256 := ⟨_, rfl⟩
      have hd1 : (n : Int) / 256 = (m : Int) := by omega
      have hd2 : (n : Int).tdiv 256 = (m : Int) := by rw [Int.tdiv_eq_ediv_of_nonneg (by omega), hd1]
      have hm2 : m < 256 := by omega
      have HL := Lib.hid (show lenL n = [130] ++ [UInt8.ofNat (m % 256)] ++ [UInt8.ofNat (n % 256)] by
        unfold lenL
        rw [if_neg (by omega), if_neg (by omega), ← hm, Nat.mod_eq_of_lt hm2]
        show [130, _, _] = [130, _, _]
        congr 2
        apply congrArg (· :: [])
        exact u8_eq (by simp))
      have HA := Lib.hid (str_appendE [130] [UInt8.ofNat (m % 256)])
      have HA2 := Lib.hid (str_appendE ([130] ++ [UInt8.ofNat (m % 256)]) [UInt8.ofNat (n % 256)])
      have hwm : IntKind.i64.wrap (m : Int) = (m : Int) := IntWalk.i64_in _ (by omega)
      clear hm
      go_enter Tryz.func107, Tryz.ntmps107
      go_wp2_with (first
        | (go_at_call 101; with_reducible refine (B130.out _).mono ?_; rintro e w1 ⟨rfl, hb1⟩)
        | (go_at_call 101; with_reducible refine (BY.out _ m).mono ?_; rintro e w2 ⟨rfl, hb2⟩)
        | (go_at_call 101; with_reducible refine (BY.out _ n).mono ?_; rintro e w3 ⟨rfl, hb3⟩))
      go_ret
      rw [HL.out]
      exact ⟨by show Ending.returned (.string (str [130] ++ str _ ++ str _)) = _; rw [HA.out, HA2.out], (hb1.trans (hb2.mono hb1.size)).trans (hb3.mono (hb1.trans (hb2.mono hb1.size)).size)⟩
end Go.Proofs.YtoinicmhkfomjaaGreatDoor
