/-
  The laws' own awake: the examples.
-/
import Derived.Test.YtablllincjoabaaEMany
import Derived.Test.YtablllincjoabaaEWrong
namespace Go.Proofs.Ytablllincjoabaa
set_option linter.unusedSimpArgs false
set_option linter.unusedVariables false
open Go Go.RowKit
set_option maxRecDepth 100000

theorem putE_ok {t : UInt8} {v : List UInt8} (ht : tagB t = true) (hv : v.length ≤ 65535) : putE t v = 0 ∧ putL t v = putT t v := by
  have : putE t v = 0 := by unfold putE; rw [if_neg (by rw [ht]; simp), if_neg (by omega)]
  exact ⟨this, by unfold putL; rw [if_pos this]⟩
set_option maxHeartbeats 8000000 in
theorem awake_any (w : World) : Calls Try.prog 9 #[] w fun e w' => e = .returned (.bool true) ∧ Below w.heap.size w w' := by
  obtain ⟨M, hM⟩ : ∃ M, M = List.replicate 128 (1 : UInt8) := ⟨_, rfl⟩
  obtain ⟨N, hN⟩ : ∃ M, M = List.replicate 256 (1 : UInt8) := ⟨_, rfl⟩
  obtain ⟨P, hP⟩ : ∃ P, P = putT 4 M := ⟨_, rfl⟩
  obtain ⟨Q, hQ⟩ : ∃ P, P = putT 4 N := ⟨_, rfl⟩
  have lM : M.length = 128 := by rw [hM]; simp
  have lN : N.length = 256 := by rw [hN]; simp
  have eP : P = [4, 129, 128] ++ M := by rw [hP]; unfold putT; rw [lM]; rfl
  have eQ : Q = [4, 130, 1, 0] ++ N := by rw [hQ]; unfold putT; rw [lN]; rfl
  have B := fun (W W' : World) (h : Below w.heap.size w W) (h2 : Below W.heap.size W W') => h.trans (h2.mono h.size)
  have P1 := Lib.hid (fun W (h : Below w.heap.size w W) => show Calls Try.prog 10 #[.agg #[.int .u8 4, .string ⟨#[97, 98]⟩]] W (fun e w' => e = .returned (.tuple #[.string ⟨#[4, 2, 97, 98]⟩, .int .i64 0]) ∧ Below w.heap.size w w') from
    (@put_any W 4 [97, 98] (by decide)).mono fun e w' ⟨h1, h2⟩ => ⟨h1, B _ _ h h2⟩)
  have P2 := Lib.hid (fun W (h : Below w.heap.size w W) => show Calls Try.prog 10 #[.agg #[.int .u8 4, sv M]] W (fun e w' => e = .returned (.tuple #[sv P, .int .i64 0]) ∧ Below w.heap.size w w') from
    (@put_any W 4 M (by omega)).mono fun e w' ⟨h1, h2⟩ => ⟨by obtain ⟨e1, e2⟩ := putE_ok (t := 4) (v := M) (by decide) (by omega); rw [e1, e2, ← hP] at h1; exact h1, B _ _ h h2⟩)
  have P3 := Lib.hid (fun W (h : Below w.heap.size w W) => show Calls Try.prog 10 #[.agg #[.int .u8 4, sv N]] W (fun e w' => e = .returned (.tuple #[sv Q, .int .i64 0]) ∧ Below w.heap.size w w') from
    (@put_any W 4 N (by omega)).mono fun e w' ⟨h1, h2⟩ => ⟨by obtain ⟨e1, e2⟩ := putE_ok (t := 4) (v := N) (by decide) (by omega); rw [e1, e2, ← hQ] at h1; exact h1, B _ _ h h2⟩)
  have M1 := Lib.hid (fun W (h : Below w.heap.size w W) => show Calls Try.prog 11 #[.int .u8 1, .int .i64 128] W (fun e w' => e = .returned (sv M) ∧ Below w.heap.size w w') from
    (@many_any W 1 128 (by omega)).mono fun e w' ⟨h1, h2⟩ => ⟨by rw [← hM] at h1; exact h1, B _ _ h h2⟩)
  have M2 := Lib.hid (fun W (h : Below w.heap.size w W) => show Calls Try.prog 11 #[.int .u8 1, .int .i64 256] W (fun e w' => e = .returned (sv N) ∧ Below w.heap.size w w') from
    (@many_any W 1 256 (by omega)).mono fun e w' ⟨h1, h2⟩ => ⟨by rw [← hN] at h1; exact h1, B _ _ h h2⟩)
  have R1 := Lib.hid (fun W (h : Below w.heap.size w W) => show Calls Try.prog 15 #[.string ⟨#[0, 127]⟩] W (fun e w' => e = .returned (.tuple #[.int .i64 0, .int .i64 4]) ∧ Below w.heap.size w w') from
    (@readInt_any W [0, 127] (by decide)).mono fun e w' ⟨h1, h2⟩ => ⟨by rw [show readN [0, 127] = 0 by decide, show okN (readB [0, 127]) = 4 by decide] at h1; exact h1, B _ _ h h2⟩)
  have R2 := Lib.hid (fun W (h : Below w.heap.size w W) => show Calls Try.prog 15 #[.string ⟨#[]⟩] W (fun e w' => e = .returned (.tuple #[.int .i64 0, .int .i64 4]) ∧ Below w.heap.size w w') from
    (@readInt_any W [] (by decide)).mono fun e w' ⟨h1, h2⟩ => ⟨by rw [show readN [] = 0 by decide, show okN (readB []) = 4 by decide] at h1; exact h1, B _ _ h h2⟩)
  have R3 := Lib.hid (fun W (h : Below w.heap.size w W) => show Calls Try.prog 17 #[.string ⟨#[1]⟩] W (fun e w' => e = .returned (.tuple #[.bool false, .int .i64 4]) ∧ Below w.heap.size w w') from
    (@readBool_any W [1] (by decide)).mono fun e w' ⟨h1, h2⟩ => ⟨by rw [h1]; rfl, h2 ▸ h⟩)
  have WR := fun (s : List UInt8) (z : Int) (hl : s.length ≤ 281474976710656) (hz : wrongE s = z) W (h : Below w.heap.size w W) => show Calls Try.prog 13 #[sv s] W (fun e w' => e = .returned (.int .i64 z) ∧ Below w.heap.size w w') from
    (@wrong_any W s hl).mono fun e w' ⟨h1, h2⟩ => ⟨by rw [hz] at h1; exact h1, B _ _ h h2⟩
  have W1 := Lib.hid (WR [4, 129, 127] 4 (by decide) (by decide))
  have W2 := Lib.hid (WR [4, 128] 4 (by decide) (by decide))
  have W3 := Lib.hid (WR [31, 0] 4 (by decide) (by decide))
  have W4 := Lib.hid (WR [4, 3, 97] 8 (by decide) (by decide))
  have W5 := Lib.hid (WR [4] 8 (by decide) (by decide))
  have IN := fun (n : Int) (s : List UInt8) (hn : -9223372036854775808 ≤ n ∧ n < 9223372036854775808) (hs : intL n = s) W (h : Below w.heap.size w W) => show Calls Try.prog 16 #[.int .i64 n] W (fun e w' => e = .returned (sv s) ∧ Below w.heap.size w w') from
    (@int_top W n hn).mono fun e w' ⟨h1, h2⟩ => ⟨by rw [hs] at h1; exact h1, B _ _ h h2⟩
  have I1 := Lib.hid (IN 0 [0] (by decide) (by decide))
  have I2 := Lib.hid (IN 127 [127] (by decide) (by decide))
  have I3 := Lib.hid (IN 128 [0, 128] (by decide) (by decide))
  have I4 := Lib.hid (IN (-1) [255] (by decide) (by decide))
  have I5 := Lib.hid (IN (-129) [255, 127] (by decide) (by decide))
  have BO := fun (b : Bool) W (h : Below w.heap.size w W) => show Calls Try.prog 21 #[.bool b] W (fun e w' => e = .returned (sv (yesL b)) ∧ Below w.heap.size w w') from
    (@bool_any W b).mono fun e w' ⟨h1, h2⟩ => ⟨h1, h2 ▸ h⟩
  have B1 := Lib.hid (fun W (h : Below w.heap.size w W) => show Calls Try.prog 21 #[.bool true] W (fun e w' => e = .returned (.string ⟨#[255]⟩) ∧ Below w.heap.size w w') from BO true W h)
  have B2 := Lib.hid (fun W (h : Below w.heap.size w W) => show Calls Try.prog 21 #[.bool false] W (fun e w' => e = .returned (.string ⟨#[0]⟩) ∧ Below w.heap.size w w') from BO false W h)
  have zM : (str M).size = 128 := by rw [str_size, lM]
  have zN : (str N).size = 256 := by rw [str_size, lN]
  have e1 : (⟨#[4, 129, 128]⟩ : ByteArray) ++ str M = str P := by rw [eP]; exact str_append [4, 129, 128] M
  have e2 : (⟨#[4, 130, 1, 0]⟩ : ByteArray) ++ str N = str Q := by rw [eQ]; exact str_append [4, 130, 1, 0] N
  have hB0 : Below w.heap.size w w := Below.refl _ _
  clear hM hN hP hQ lM lN eP eQ B WR IN BO
  go_enter Try.func9, Try.ntmps9
  go_wp2_with (first
    | (go_at_call 10; with_reducible refine (P1.out _ (by assumption)).mono ?_; rintro e w1 ⟨rfl, hb⟩)
    | (go_at_call 10; with_reducible refine (P2.out _ (by assumption)).mono ?_; rintro e w1 ⟨rfl, hb⟩)
    | (go_at_call 10; with_reducible refine (P3.out _ (by assumption)).mono ?_; rintro e w1 ⟨rfl, hb⟩)
    | (go_at_call 11; with_reducible refine (M1.out _ (by assumption)).mono ?_; rintro e w1 ⟨rfl, hb⟩)
    | (go_at_call 11; with_reducible refine (M2.out _ (by assumption)).mono ?_; rintro e w1 ⟨rfl, hb⟩)
    | (go_at_call 15; with_reducible refine (R1.out _ (by assumption)).mono ?_; rintro e w1 ⟨rfl, hb⟩)
    | (go_at_call 15; with_reducible refine (R2.out _ (by assumption)).mono ?_; rintro e w1 ⟨rfl, hb⟩)
    | (go_at_call 17; with_reducible refine (R3.out _ (by assumption)).mono ?_; rintro e w1 ⟨rfl, hb⟩)
    | (go_at_call 13; with_reducible refine (W1.out _ (by assumption)).mono ?_; rintro e w1 ⟨rfl, hb⟩)
    | (go_at_call 13; with_reducible refine (W2.out _ (by assumption)).mono ?_; rintro e w1 ⟨rfl, hb⟩)
    | (go_at_call 13; with_reducible refine (W3.out _ (by assumption)).mono ?_; rintro e w1 ⟨rfl, hb⟩)
    | (go_at_call 13; with_reducible refine (W4.out _ (by assumption)).mono ?_; rintro e w1 ⟨rfl, hb⟩)
    | (go_at_call 13; with_reducible refine (W5.out _ (by assumption)).mono ?_; rintro e w1 ⟨rfl, hb⟩)
    | (go_at_call 16; with_reducible refine (I1.out _ (by assumption)).mono ?_; rintro e w1 ⟨rfl, hb⟩)
    | (go_at_call 16; with_reducible refine (I2.out _ (by assumption)).mono ?_; rintro e w1 ⟨rfl, hb⟩)
    | (go_at_call 16; with_reducible refine (I3.out _ (by assumption)).mono ?_; rintro e w1 ⟨rfl, hb⟩)
    | (go_at_call 16; with_reducible refine (I4.out _ (by assumption)).mono ?_; rintro e w1 ⟨rfl, hb⟩)
    | (go_at_call 16; with_reducible refine (I5.out _ (by assumption)).mono ?_; rintro e w1 ⟨rfl, hb⟩)
    | (go_at_call 21; with_reducible refine (B1.out _ (by assumption)).mono ?_; rintro e w1 ⟨rfl, hb⟩)
    | (go_at_call 21; with_reducible refine (B2.out _ (by assumption)).mono ?_; rintro e w1 ⟨rfl, hb⟩))
  trace_state
  go_ret
  exact ⟨rfl, by assumption⟩
end Go.Proofs.Ytablllincjoabaa
