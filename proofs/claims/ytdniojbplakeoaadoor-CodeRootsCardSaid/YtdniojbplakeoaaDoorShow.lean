/-
  Contracts of Show and Num, where the library's table of powers of ten is as its text lays it; and the laid variables, as words of a world.
  Texts of 1000000 bytes at most.
-/
import Derived.Sort.Grow
import Derived.Test.YtdniojbplakeoaaDoorNumc
namespace Go.Proofs.YtdniojbplakeoaaDoor
open Go Go.RowKit
set_option maxRecDepth 100000

def firstZ : List Int := [1779033703, 3144134277, 1013904242, 2773480762, 1359893119, 2600822924, 528734635, 1541459225]
def roundZ : List Int := [0x428a2f98, 0x71374491, 0xb5c0fbcf, 0xe9b5dba5, 0x3956c25b, 0x59f111f1, 0x923f82a4, 0xab1c5ed5,
  0xd807aa98, 0x12835b01, 0x243185be, 0x550c7dc3, 0x72be5d74, 0x80deb1fe, 0x9bdc06a7, 0xc19bf174,
  0xe49b69c1, 0xefbe4786, 0x0fc19dc6, 0x240ca1cc, 0x2de92c6f, 0x4a7484aa, 0x5cb0a9dc, 0x76f988da,
  0x983e5152, 0xa831c66d, 0xb00327c8, 0xbf597fc7, 0xc6e00bf3, 0xd5a79147, 0x06ca6351, 0x14292967,
  0x27b70a85, 0x2e1b2138, 0x4d2c6dfc, 0x53380d13, 0x650a7354, 0x766a0abb, 0x81c2c92e, 0x92722c85,
  0xa2bfe8a1, 0xa81a664b, 0xc24b8b70, 0xc76c51a3, 0xd192e819, 0xd6990624, 0xf40e3585, 0x106aa070,
  0x19a4c116, 0x1e376c08, 0x2748774c, 0x34b0bcb5, 0x391c0cb3, 0x4ed8aa4a, 0x5b9cca4f, 0x682e6ff3,
  0x748f82ee, 0x78a5636f, 0x84c87814, 0x8cc70208, 0x90befffa, 0xa4506ceb, 0xbef9a3f7, 0xc67178f2]

/-- The laid variables are as their texts lay them. -/
structure LW (w : World) : Prop where
  pow : Lib.TabIs Tryd.prog w "internal/strconv.uint64pow10" .u64 Lib.pow10Tab
  first : Lib.TabIs Tryd.prog w "mailroom/code.firstWords" .u32 firstZ
  round : Lib.TabIs Tryd.prog w "mailroom/code.roundWords" .u32 roundZ

theorem gFirst : Tryd.prog.globalNamed "mailroom/code.firstWords" = some 0 := by kernel_rfl
theorem gRound : Tryd.prog.globalNamed "mailroom/code.roundWords" = some 1 := by kernel_rfl
theorem gPow : Tryd.prog.globalNamed "internal/strconv.uint64pow10" = some 3 := by kernel_rfl

theorem tab_lt {w : World} {n : String} {k : IntKind} {zs : List Int} {g : Nat} (h : Lib.TabIs Tryd.prog w n k zs) (hg : Tryd.prog.globalNamed n = some g) : g < w.heap.size := by
  unfold Lib.TabIs World.var? at h
  rw [hg] at h
  rcases Nat.lt_or_ge g w.heap.size with h' | h'
  · exact h'
  · simp [Array.getElem?_eq_none h'] at h

theorem tab_below {w w' : World} {n : String} {k : IntKind} {zs : List Int} {g : Nat} (h : Lib.TabIs Tryd.prog w n k zs) (hg : Tryd.prog.globalNamed n = some g) (hb : Below w.heap.size w w') : Lib.TabIs Tryd.prog w' n k zs := by
  have hl := tab_lt h hg
  unfold Lib.TabIs World.var? at h ⊢
  rw [hg] at h ⊢
  simp only [Option.bind_some] at h ⊢
  rw [hb.block g hl]
  exact h

theorem LW.below {w w' : World} (h : LW w) (hb : Below w.heap.size w w') : LW w' := ⟨tab_below h.pow gPow hb, tab_below h.first gFirst hb, tab_below h.round gRound hb⟩
theorem LW.pos {w : World} (h : LW w) : 3 < w.heap.size := tab_lt h.pow gPow

theorem below_more {w w' : World} {os : Array Obj} (hh : w'.heap = w.heap ++ os) (h1 : w'.os = w.os) (h2 : w'.tape = w.tape) (h3 : w'.output = w.output) : Below w.heap.size w w' := by
  refine ⟨h1, h2, h3, by rw [hh]; simp, fun k hk => ?_⟩
  rw [hh, Array.getElem?_append_left hk]

theorem show_any (n : Int) (w : World) (h0 : -9223372036854775808 ≤ n) (h1 : n ≤ 9223372036854775807) (hw : LW w) :
    Calls Tryd.prog 17 #[.int .i64 n] w fun e w' => e = .returned (sv (Lib.itoa n)) ∧ Below w.heap.size w w' := by
  have HW := Lib.hid hw.pow
  clear hw
  go_enter Tryd.func17, Tryd.ntmps17
  go_wp2_with fail
  refine (Tryd.strconv_Itoa n h0 h1 w HW.out).mono ?_
  rintro e w1 ⟨rfl, q, os, hw⟩
  have HB := Lib.hid (below_more (w := w) (w' := w1) (os := os) (by rw [hw]; rfl) (by rw [hw]; rfl) (by rw [hw]; rfl) (by rw [hw]; rfl))
  clear hw
  go_wp2
  go_ret
  exact ⟨rfl, HB.out⟩

/-- The number of a text, most at most; and the error. -/
def numR (s : List UInt8) (most : Int) : Int × Int := if isNumB s = true then (if most < valR s then (0, 40) else ((valR s : Nat), 0)) else (0, 4)
def numV (s : List UInt8) (most : Int) : Value := .tuple #[.int .i64 (numR s most).1, .int .i64 (numR s most).2]

theorem valR_take_succ {s : List UInt8} {j : Nat} (h : j < s.length) : valR (s.take (j + 1)) = 10 * valR (s.take j) + ((s.getD j 0).toNat - 48) := by
  rw [List.take_succ_eq_append_getElem h, valR_snoc, getD_str s j h]

theorem dig_at {s : List UInt8} (h : s.all isDig = true) {j : Nat} (hj : j < s.length) : 48 ≤ (s.getD j 0).toNat ∧ (s.getD j 0).toNat ≤ 57 := by
  have := List.all_eq_true.1 h s[j] (List.getElem_mem hj)
  rw [getD_str s j hj]
  unfold isDig at this
  simpa using this

set_option maxHeartbeats 1000000 in
theorem num_any (s : List UInt8) (most : Int) (w : World) (hs : s.length ≤ 1000000) (h0 : -9223372036854775808 ≤ most) (h1 : most ≤ 9223372036854775807) (hw : LW w) :
    Calls Tryd.prog 16 #[.string (str s), .int .i64 most] w fun e w' => e = .returned (numV s most) ∧ Below w.heap.size w w' := by
  have HI := Lib.hid (isnum_any s w hs)
  cases hn : isNumB s with
  | false =>
    have HV := Lib.hid (show numV s most = .tuple #[.int .i64 0, .int .i64 4] by unfold numV numR; rw [hn]; rfl)
    rw [hn] at HI
    clear hn
    go_enter Tryd.func16, Tryd.ntmps16
    go_wp2_with fail
    refine HI.out.mono ?_
    rintro e w' ⟨rfl, rfl⟩
    go_wp2
    go_ret2
    rw [HV.out]
    exact ⟨rfl, Below.refl _ _⟩
  | true =>
    rw [hn] at HI
    have hd := isNum_dig hn
    by_cases hneg : most < 0
    · have HV := Lib.hid (show numV s most = .tuple #[.int .i64 0, .int .i64 40] by unfold numV numR; rw [hn, if_pos rfl, if_pos (by omega)])
      have hdn : decide (most < 0) = true := by simpa using hneg
      clear hn
      go_enter Tryd.func16, Tryd.ntmps16
      go_wp2_with fail
      refine HI.out.mono ?_
      rintro e w' ⟨rfl, rfl⟩
      go_wp2_with fail
      go_ret2
      rw [HV.out]
      exact ⟨rfl, Below.refl _ _⟩
    · obtain ⟨m, rfl⟩ : ∃ m : Nat, most = m := ⟨most.toNat, by omega⟩
      have hless : lessB (Lib.decDigits m) s = decide (m < valR s) := by rw [less_nums (dec_isNum m) hn, (dec_all m).2]
      have hit : Lib.itoa (m : Int) = Lib.decDigits m := by unfold Lib.itoa; rw [if_neg (by omega)]; simp
      have hsh := show_any (m : Int) w h0 h1 hw
      rw [hit] at hsh
      have HS := Lib.hid hsh
      have HL := Lib.hid hless
      clear hsh hless hit
      by_cases hm : m < valR s
      · have HV := Lib.hid (show numV s m = .tuple #[.int .i64 0, .int .i64 40] by unfold numV numR; rw [hn, if_pos rfl, if_pos (by omega)])
        rw [decide_eq_true hm] at HL
        clear hn hm hd
        go_enter Tryd.func16, Tryd.ntmps16
        go_wp2_with fail
        refine HI.out.mono ?_
        rintro e w' ⟨rfl, rfl⟩
        go_wp2_with fail
        refine HS.out.mono ?_
        rintro e w1 ⟨rfl, hb⟩
        have HB := Lib.hid hb
        clear hb
        go_wp2_with fail
        refine (less_any (Lib.decDigits m) s w1).mono ?_
        rw [HL.out]
        rintro e w' ⟨rfl, rfl⟩
        go_wp2
        go_ret2
        rw [HV.out]
        exact ⟨rfl, HB.out⟩
      · have HV := Lib.hid (show numV s m = .tuple #[.int .i64 (valR s : Nat), .int .i64 0] by unfold numV numR; rw [hn, if_pos rfl, if_neg (by omega)])
        rw [decide_eq_false hm] at HL
        have hle : valR s ≤ 9223372036854775807 := by omega
        clear hn hm
        have HD := Lib.hid hd
        clear hd
        go_enter Tryd.func16, Tryd.ntmps16
        go_wp2_with fail
        refine HI.out.mono ?_
        rintro e w' ⟨rfl, rfl⟩
        go_wp2_with fail
        refine HS.out.mono ?_
        rintro e w1 ⟨rfl, hb⟩
        have HB := Lib.hid hb
        clear hb
        go_wp2_with fail
        refine (less_any (Lib.decDigits m) s w1).mono ?_
        rw [HL.out]
        rintro e w' ⟨rfl, rfl⟩
        go_wp2_with fail
        go_loop [6, 21] (fun n i => ∃ j : Nat, j ≤ s.length ∧ i = .int .i64 j ∧ n = .int .i64 (valR (s.take j) : Nat)) (fun _ i => s.length - (intOf i).toNat)
        case atStart => exact ⟨0, Nat.zero_le _, rfl, rfl⟩
        case round =>
          obtain ⟨j, hj, rfl, rfl⟩ := hrel
          by_cases hlt : j < s.length
          · have h2 := valR_take_succ hlt
            have h3 := valR_take_le s (j + 1)
            have h4 := valR_take_le s j
            have h5 := dig_at HD.out hlt
            rw [h2] at h3
            have H2 := Lib.hid h2
            clear h2
            generalize valR (s.take j) = a at *
            obtain ⟨c, hc⟩ : ∃ c, c = (s.getD j 0).toNat := ⟨_, rfl⟩
            have hcs : (((str s)[j]'(by simpa [ByteArray.size] using hlt)).toNat) = c := by rw [str_getD s j hlt, hc]
            rw [← hc] at h3 h5 H2
            clear hc
            go_wp2
            go_round
            case rel =>
              refine ⟨j + 1, by omega, by go_num, ?_⟩
              rw [H2.out]
              congr 1
              omega
            case measure => simp [intOf]; omega
          · obtain rfl : j = s.length := by omega
            rw [List.take_of_length_le (Nat.le_refl _)]
            go_wp2
            go_ret2
            rw [HV.out]
            exact ⟨rfl, HB.out⟩
end Go.Proofs.YtdniojbplakeoaaDoor
