/-
  Contracts of Show and Num, where the library's table of powers of ten is as its text lays it; and the laid variables, as words of a world.
  Texts of 1000000 bytes at most.
-/
import Derived.Sort.Grow
import Derived.Test.YtanfonpbnamjmaaDoorDNumc
namespace Go.Proofs.YtanfonpbnamjmaaDoor
open Go Go.RowKit
set_option maxRecDepth 100000

theorem show_any (n : Int) (w : World) (h0 : -9223372036854775808 ≤ n) (h1 : n ≤ 9223372036854775807) (hw : LW w) :
    Calls Tryd.prog 50 #[.int .i64 n] w fun e w' => e = .returned (sv (Lib.itoa n)) ∧ Below w.heap.size w w' := by
  have HW := Lib.hid hw.pow
  clear hw
  go_enter Tryd.func50, Tryd.ntmps50
  go_wp2_with fail
  refine (itoa_call n w h0 h1 ⟨HW.out⟩).mono ?_
  rintro e w1 ⟨rfl, hb⟩
  have HB := Lib.hid hb
  clear hb
  go_wp2
  go_ret
  exact ⟨rfl, HB.out⟩

/-- The number of a text, most at most; and the error. -/
def numR (s : List UInt8) (most : Int) : Int × Int := if isNumB s = true then (if most < valR s then (0, 40) else ((valR s : Nat), 0)) else (0, 4)
def numV (s : List UInt8) (most : Int) : Value := .tuple #[.int .i64 (numR s most).1, .int .i64 (numR s most).2]

theorem valR_take_succ {s : List UInt8} {j : Nat} (h : j < s.length) : valR (s.take (j + 1)) = 10 * valR (s.take j) + ((s.getD j 0).toNat - 48) := by
  rw [List.take_succ_eq_append_getElem h, valR_snoc, getD_str s j h]

theorem dig_at {s : List UInt8} (h : s.all isDig = true) {j : Nat} (hj : j < s.length) : 48 ≤ (s.getD j 0).toNat ∧ (s.getD j 0).toNat ≤ 57 := by
  have := List.all_eq_true.1 h s[j] (List.getElem_mem hj)
  rw [getD_str s j hj]
  unfold isDig at this
  simpa using this

set_option maxHeartbeats 1000000 in
theorem num_any (s : List UInt8) (most : Int) (w : World) (hs : s.length ≤ 1000000) (h0 : -9223372036854775808 ≤ most) (h1 : most ≤ 9223372036854775807) (hw : LW w) :
    Calls Tryd.prog 47 #[.string (str s), .int .i64 most] w fun e w' => e = .returned (numV s most) ∧ Below w.heap.size w w' := by
  have HI := Lib.hid (isnum_any s w hs)
  cases hn : isNumB s with
  | false =>
    have HV := Lib.hid (show numV s most = .tuple #[.int .i64 0, .int .i64 4] by unfold numV numR; rw [hn]; rfl)
    rw [hn] at HI
    clear hn
    go_enter Tryd.func47, Tryd.ntmps47
    go_wp2_with fail
    refine HI.out.mono ?_
    rintro e w' ⟨rfl, rfl⟩
    go_wp2
    go_ret2
    rw [HV.out]
    exact ⟨rfl, Below.refl _ _⟩
  | true =>
    rw [hn] at HI
    have hd := isNum_dig hn
    by_cases hneg : most < 0
    · have HV := Lib.hid (show numV s most = .tuple #[.int .i64 0, .int .i64 40] by unfold numV numR; rw [hn, if_pos rfl, if_pos (by omega)])
      have hdn : decide (most < 0) = true := by simpa using hneg
      clear hn
      go_enter Tryd.func47, Tryd.ntmps47
      go_wp2_with fail
      refine HI.out.mono ?_
      rintro e w' ⟨rfl, rfl⟩
      go_wp2_with fail
      go_ret2
      rw [HV.out]
      exact ⟨rfl, Below.refl _ _⟩
    · obtain ⟨m, rfl⟩ : ∃ m : Nat, most = m := ⟨most.toNat, by omega⟩
      have hless : lessB (Lib.decDigits m) s = decide (m < valR s) := by rw [less_nums (dec_isNum m) hn, (dec_all m).2]
      have hit : Lib.itoa (m : Int) = Lib.decDigits m := by unfold Lib.itoa; rw [if_neg (by omega)]; simp
      have hsh := show_any (m : Int) w h0 h1 hw
      rw [hit] at hsh
      have HS := Lib.hid hsh
      have HL := Lib.hid hless
      clear hsh hless hit
      by_cases hm : m < valR s
      · have HV := Lib.hid (show numV s m = .tuple #[.int .i64 0, .int .i64 40] by unfold numV numR; rw [hn, if_pos rfl, if_pos (by omega)])
        rw [decide_eq_true hm] at HL
        clear hn hm hd
        go_enter Tryd.func47, Tryd.ntmps47
        go_wp2_with fail
        refine HI.out.mono ?_
        rintro e w' ⟨rfl, rfl⟩
        go_wp2_with fail
        refine HS.out.mono ?_
        rintro e w1 ⟨rfl, hb⟩
        have HB := Lib.hid hb
        clear hb
        go_wp2_with fail
        refine (less_any (Lib.decDigits m) s w1).mono ?_
        rw [HL.out]
        rintro e w' ⟨rfl, rfl⟩
        go_wp2
        go_ret2
        rw [HV.out]
        exact ⟨rfl, HB.out⟩
      · have HV := Lib.hid (show numV s m = .tuple #[.int .i64 (valR s : Nat), .int .i64 0] by unfold numV numR; rw [hn, if_pos rfl, if_neg (by omega)])
        rw [decide_eq_false hm] at HL
        have hle : valR s ≤ 9223372036854775807 := by omega
        clear hn hm
        have HD := Lib.hid hd
        clear hd
        go_enter Tryd.func47, Tryd.ntmps47
        go_wp2_with fail
        refine HI.out.mono ?_
        rintro e w' ⟨rfl, rfl⟩
        go_wp2_with fail
        refine HS.out.mono ?_
        rintro e w1 ⟨rfl, hb⟩
        have HB := Lib.hid hb
        clear hb
        go_wp2_with fail
        refine (less_any (Lib.decDigits m) s w1).mono ?_
        rw [HL.out]
        rintro e w' ⟨rfl, rfl⟩
        go_wp2_with fail
        go_loop [6, 21] (fun n i => ∃ j : Nat, j ≤ s.length ∧ i = .int .i64 j ∧ n = .int .i64 (valR (s.take j) : Nat)) (fun _ i => s.length - (intOf i).toNat)
        case atStart => exact ⟨0, Nat.zero_le _, rfl, rfl⟩
        case round =>
          obtain ⟨j, hj, rfl, rfl⟩ := hrel
          by_cases hlt : j < s.length
          · have h2 := valR_take_succ hlt
            have h3 := valR_take_le s (j + 1)
            have h4 := valR_take_le s j
            have h5 := dig_at HD.out hlt
            rw [h2] at h3
            have H2 := Lib.hid h2
            clear h2
            generalize valR (s.take j) = a at *
            obtain ⟨c, hc⟩ : ∃ c, c = (s.getD j 0).toNat := ⟨_, rfl⟩
            have hcs : (((str s)[j]'(by simpa [ByteArray.size] using hlt)).toNat) = c := by rw [str_getD s j hlt, hc]
            rw [← hc] at h3 h5 H2
            clear hc
            go_wp2
            go_round
            case rel =>
              refine ⟨j + 1, by omega, by go_num, ?_⟩
              rw [H2.out]
              congr 1
              omega
            case measure => simp [intOf]; omega
          · obtain rfl : j = s.length := by omega
            rw [List.take_of_length_le (Nat.le_refl _)]
            go_wp2
            go_ret2
            rw [HV.out]
            exact ⟨rfl, HB.out⟩
end Go.Proofs.YtanfonpbnamjmaaDoor
