/-
  Contracts of code's Show and of the reference's.
-/
import Derived.Test.YtbmjmiioobgbfaaGreatDoorKW
import Derived.Test.YtbmjmiioobgbfaaGreatDoorDDec
import Derived.Lib.ItoaLen
import Derived.Laws.IdiomStrings
import Derived.Maps.AppendAt
namespace Go.Proofs.YtbmjmiioobgbfaaGreatDoor
open Go Go.RowKit
set_option maxRecDepth 100000
set_option linter.unusedSimpArgs false
set_option linter.unusedVariables false

theorem show_any (n : Int) (w : World) (h0 : -9223372036854775808 ≤ n) (h1 : n ≤ 9223372036854775807) (hw : LW w) :
    Calls Tryz.prog 59 #[.int .i64 n] w fun e w' => e = .returned (sv (Lib.itoa n)) ∧ Below w.heap.size w w' := by
  have HW := Lib.hid hw
  clear hw
  go_enter Tryz.func59, Tryz.ntmps59
  go_wp2_with fail
  refine (itoa_call n w h0 h1 HW.out).mono ?_
  rintro e w1 ⟨rfl, hb⟩
  have HB := Lib.hid hb
  clear hb
  go_wp2
  go_ret
  exact ⟨rfl, HB.out⟩
/-- A digit's byte. -/
def dg (d : Nat) : UInt8 := UInt8.ofNat (48 + d)
/-- The digits ahead of a number's last one. -/
def decHead (u : Nat) : List UInt8 := if u < 10 then [] else Lib.decDigits (u / 10)
theorem decHd (u : Nat) : Lib.decDigits u = decHead u ++ [dg (u % 10)] := by
  unfold decHead
  rw [Lib.decDigits]
  split
  · rename_i h; rw [Nat.mod_eq_of_lt h]; rfl
  · rfl
theorem decHead_small {u : Nat} (h : u < 10) : decHead u = [] := if_pos h
theorem decHead_step {u : Nat} (h : ¬ u < 10) : decHead u = decHead (u / 10) ++ [dg (u / 10 % 10)] := by
  rw [show decHead u = Lib.decDigits (u / 10) from if_neg h, decHd]

theorem dec_len {m : Nat} (h : m < 18446744073709551616) : (Lib.decDigits m).length ≤ 20 := by
  rw [Lib.decDigits_length]
  exact Lib.nDigits_le20 m h

/-- 'string([]byte{byte(48 + u % 10)})'. -/
theorem run_dg (d : Nat) (h : d < 10) (x : Int) (hx : x = 48 + (d : Int)) (w : World) : (convert 87 9 (.slice (some ⟨w.heap.size, 0, none⟩) 1 1)).run Tryz.prog (w.alloc (.cells #[.int .u8 x] 5)) = .ok (.string (str [dg d])) (w.alloc (.cells #[.int .u8 x] 5)) :=
  run_convert_bytes_back _ 87 9 5 ⟨w.heap.size, 0, none⟩ 1 [dg d] Tryz.underlying87 Tryz.underlying5 Tryz.underlying9 (fun j hj => by
    obtain rfl : j = 0 := by simpa using hj
    have e : (dg d).toNat = 48 + d := UInt8.toNat_ofNat_of_lt' (by show 48 + d < 256; omega)
    rw [cell_one_new w _ 5 0 _ rfl, List.getElem_cons_zero, e, hx]
    congr 2)
theorem run_one_digit (m : Nat) (w : World) : (convert 87 9 (.slice (some ⟨w.heap.size, 0, none⟩) 1 1)).run Tryz.prog (w.alloc (.cells #[.int .u8 (48 + (m : Int) % 10)] 5)) = .ok (.string (str [dg (m % 10)])) (w.alloc (.cells #[.int .u8 (48 + (m : Int) % 10)] 5)) :=
  run_dg (m % 10) (by omega) _ (by omega) w
theorem run_two_digit (a : Nat) (w : World) : (convert 87 9 (.slice (some ⟨w.heap.size, 0, none⟩) 1 1)).run Tryz.prog (w.alloc (.cells #[.int .u8 (48 + (a : Int) / 10 % 10)] 5)) = .ok (.string (str [dg (a / 10 % 10)])) (w.alloc (.cells #[.int .u8 (48 + (a : Int) / 10 % 10)] 5)) :=
  run_dg (a / 10 % 10) (by omega) _ (by omega) w

theorem str_cons (c : UInt8) (s : List UInt8) : str [c] ++ str s = str (c :: s) := str_append [c] s

set_option maxHeartbeats 1000000 in
theorem rshow_any (n : Int) (w : World) (h0 : -9223372036854775808 ≤ n) (h1 : n ≤ 9223372036854775807) :
    Calls Tryz.prog 69 #[.int .i64 n] w fun e w' => e = .returned (sv (Lib.itoa n)) ∧ Below w.heap.size w w' := by
  have HC := Lib.hid str_cons
  obtain ⟨m, hm, hu⟩ : ∃ m : Nat, n.natAbs = m ∧ m ≤ 9223372036854775808 := ⟨_, rfl, by omega⟩
  have HL := Lib.hid (dec_len (m := m) (by omega))
  have hr := run_one_digit m
  rcases Int.lt_or_le n 0 with hn | hn
  · obtain rfl : n = -(m : Int) := by omega
    have hit := Lib.hid (show Lib.itoa (-(m : Int)) = 45 :: Lib.decDigits m by unfold Lib.itoa; rw [if_pos hn]; simp)
    have w1 : IntKind.u64.wrap (-(m : Int)) = 18446744073709551616 - (m : Int) := by unfold IntKind.wrap; simp [IntKind.bits, IntKind.signed]; omega
    have w2 : IntKind.u64.wrap (-(18446744073709551616 - (m : Int))) = (m : Int) := by unfold IntKind.wrap; simp [IntKind.bits, IntKind.signed]; omega
    go_enter Tryz.func69, Tryz.ntmps69
    go_wp2
    go_loopw [3, 4] (fun u t wr => ∃ (a : Nat) (l : List UInt8), u = .int .u64 a ∧ t = .string (str l) ∧ a ≤ 9223372036854775808 ∧ Lib.decDigits m = decHead a ++ l ∧ Below w.heap.size w wr) (fun u _ _ => (intOf u).toNat)
    case atStart => exact ⟨m, _, rfl, rfl, hu, decHd m, (Below.refl _ _).alloc (Nat.le_refl _) _⟩
    case round =>
      obtain ⟨a, l, rfl, rfl, ha, hdec, hb⟩ := hrel
      have HB := Lib.hid hb
      have HD := Lib.hid hdec
      have hsz := hb.size
      have hll : l.length ≤ 20 := by have := HL.out; rw [hdec, List.length_append] at this; omega
      clear hb hdec
      by_cases h9 : 9 < a
      · have HS := Lib.hid (decHead_step (u := a) (by omega))
        have hr2 := run_two_digit a
        go_wp2
        go_roundw
        case rel => exact ⟨a / 10, dg (a / 10 % 10) :: l, by go_num, by rw [HC.out], by omega, by rw [HD.out, HS.out, List.append_assoc]; rfl, HB.out.alloc hsz _⟩
        case measure => simp [intOf]; omega
      · have HE := Lib.hid (HD.out.trans (by rw [decHead_small (by omega)]; rfl : decHead a ++ l = l))
        go_wp2
        go_ret
        rw [hit.out, HE.out, show (⟨#[45]⟩ : ByteArray) = str [45] from rfl, HC.out]
        exact ⟨rfl, HB.out⟩
  · obtain rfl : n = (m : Int) := by omega
    have hit := Lib.hid (show Lib.itoa (m : Int) = Lib.decDigits m by unfold Lib.itoa; rw [if_neg (by omega)]; simp)
    go_enter Tryz.func69, Tryz.ntmps69
    go_wp2
    go_loopw [3, 4] (fun u t wr => ∃ (a : Nat) (l : List UInt8), u = .int .u64 a ∧ t = .string (str l) ∧ a ≤ 9223372036854775808 ∧ Lib.decDigits m = decHead a ++ l ∧ Below w.heap.size w wr) (fun u _ _ => (intOf u).toNat)
    case atStart => exact ⟨m, _, rfl, rfl, hu, decHd m, (Below.refl _ _).alloc (Nat.le_refl _) _⟩
    case round =>
      obtain ⟨a, l, rfl, rfl, ha, hdec, hb⟩ := hrel
      have HB := Lib.hid hb
      have HD := Lib.hid hdec
      have hsz := hb.size
      have hll : l.length ≤ 20 := by have := HL.out; rw [hdec, List.length_append] at this; omega
      clear hb hdec
      by_cases h9 : 9 < a
      · have HS := Lib.hid (decHead_step (u := a) (by omega))
        have hr2 := run_two_digit a
        go_wp2
        go_roundw
        case rel => exact ⟨a / 10, dg (a / 10 % 10) :: l, by go_num, by rw [HC.out], by omega, by rw [HD.out, HS.out, List.append_assoc]; rfl, HB.out.alloc hsz _⟩
        case measure => simp [intOf]; omega
      · have HE := Lib.hid (HD.out.trans (by rw [decHead_small (by omega)]; rfl : decHead a ++ l = l))
        go_wp2
        go_ret
        rw [hit.out, HE.out]
        exact ⟨rfl, HB.out⟩
end Go.Proofs.YtbmjmiioobgbfaaGreatDoor
