/-
  The walk of CodeBack.
-/
import Derived.Test.YtdniojbplakeoaaDoorLongC
import Derived.Lib.ItoaLen
import Derived.Deep.CutRange
import Derived.Test.YtdniojbplakeoaaDoorCarry
namespace Go.Proofs.YtdniojbplakeoaaDoor
open Go Go.RowKit
set_option maxRecDepth 100000

theorem codeBack_long (s t : List UInt8) (n : Int) (w : World) (hs : s.length ≤ 140737488351232) (ht : t.length ≤ 140737488351232) (hl : 9000 ≤ minSum [s, t]) (hw : LW w) :
    Calls Tryd.prog 7 #[.string (str s), .string (str t), .int .i64 n] w fun e w' => e = .returned (.bool true) ∧ Below w.heap.size w w' := by
  have HL := Lib.hid hw
  have HLL := Lib.hid (fun W : World => long_two s t W hs ht)
  rw [decide_eq_true hl] at HLL
  clear hw hl
  go_enter Tryd.func7, Tryd.ntmps7
  go_wp2_with fail
  refine (works_any w HL.out).mono ?_
  rintro e w1 ⟨rfl, hb⟩
  have HB := Lib.hid hb
  have HL1 := Lib.hid ((HL.out.below hb).below (below_alloc _ (.cells #[.string (str s), .string (str t)] 9)))
  clear hb
  go_wp2_with fail
  refine (HLL.out w1).mono ?_
  rintro e w2 ⟨rfl, hw2⟩
  rw [← hw2]
  have HB2 := Lib.hid (HB.out.alloc HB.out.size (.cells #[.string (str s), .string (str t)] 9))
  clear hw2
  go_wp2_with fail
  refine (works_any _ HL1.out).mono ?_
  rintro e w3 ⟨rfl, hb⟩
  have HB3 := Lib.hid (HB2.out.trans (hb.mono HB2.out.size))
  clear hb
  go_wp2
  go_ret
  exact ⟨rfl, HB3.out⟩

theorem itoa_neg {n : Int} (h : n < 0) : isNumB (Lib.itoa n) = false := by
  unfold Lib.itoa
  rw [if_pos h]
  unfold isNumB
  simp [isDig]

/-- What may come of a text: its bytes, or none. -/
def Read (f : List UInt8 → List UInt8) (t c : List UInt8) (g : Int) : Prop := (g = 0 ∧ f c = t ∧ c.length ≤ 100000) ∨ g = 4

theorem unhex_read (t : List UInt8) (ht : t.length < 9000) : ∃ c g, Read hexL t c g ∧ ∀ w0 w, BL w0 w → Calls Tryd.prog 14 #[.string (str t)] w fun e w' => e = .returned (.tuple #[sv c, .int .i64 g]) ∧ BL w0 w' := by
  cases hu : unhexL t with
  | none => exact ⟨[], 4, .inr rfl, fun w0 w h => bl_unhex_of hu (by omega) h⟩
  | some x =>
    refine ⟨x, 0, .inl ⟨rfl, hex_unhex hu, ?_⟩, fun w0 w h => bl_unhex_of hu (by omega) h⟩
    have := congrArg List.length (hex_unhex hu)
    rw [hex_length] at this; omega

theorem unbase_read (t : List UInt8) (ht : t.length < 9000) : ∃ c g, Read b64L t c g ∧ ∀ w0 w, BL w0 w → Calls Tryd.prog 15 #[.string (str t)] w fun e w' => e = .returned (.tuple #[sv c, .int .i64 g]) ∧ BL w0 w' := by
  cases hu : unb64L t with
  | none => exact ⟨[], 4, .inr rfl, fun w0 w h => bl_unbase_of hu (by omega) h⟩
  | some x =>
    refine ⟨x, 0, .inl ⟨rfl, b64_unb64 hu, ?_⟩, fun w0 w h => bl_unbase_of hu (by omega) h⟩
    have := congrArg List.length (b64_unb64 hu)
    rw [b64_length] at this; omega

def ReadN (t : List UInt8) (m i : Int) : Prop := (i = 0 ∧ Lib.itoa m = t ∧ 0 ≤ m ∧ m ≤ 9223372036854775807) ∨ (i ≠ 0 ∧ 0 ≤ i ∧ i ≤ 100)

theorem num_read (t : List UInt8) (ht : t.length < 9000) : ∃ m i, ReadN t m i ∧ ∀ w0 w, BL w0 w → Calls Tryd.prog 16 #[.string (str t), .int .i64 9223372036854775807] w fun e w' => e = .returned (.tuple #[.int .i64 m, .int .i64 i]) ∧ BL w0 w' := by
  by_cases h1 : isNumB t = true
  · by_cases h2 : (9223372036854775807 : Int) < valR t
    · exact ⟨0, 40, .inr (by decide), fun w0 w h => bl_num_of (by unfold numR; rw [if_pos h1, if_pos h2]) (by omega) (by decide) (by decide) h⟩
    · refine ⟨(valR t : Nat), 0, .inl ⟨rfl, ?_, by omega, by omega⟩, fun w0 w h => bl_num_of (by unfold numR; rw [if_pos h1, if_neg h2]) (by omega) (by decide) (by decide) h⟩
      have : Lib.itoa ((valR t : Nat) : Int) = Lib.decDigits (valR t) := by unfold Lib.itoa; rw [if_neg (by omega)]; simp
      rw [this, dec_val h1]
  · exact ⟨0, 4, .inr (by decide), fun w0 w h => bl_num_of (by unfold numR; rw [if_neg h1]) (by omega) (by decide) (by decide) h⟩

/-- A number's text, read. -/
theorem num_back (n : Int) (h0 : -9223372036854775808 ≤ n) (h1 : n ≤ 9223372036854775807) : ∃ k j, ((n < 0 ∧ j = 4) ∨ (0 ≤ n ∧ j = 0 ∧ k = n)) ∧ numR (Lib.itoa n) 9223372036854775807 = (k, j) := by
  by_cases h : n < 0
  · exact ⟨0, 4, .inl ⟨h, rfl⟩, by unfold numR; rw [itoa_neg h]; rfl⟩
  · obtain ⟨m, rfl⟩ := Int.eq_ofNat_of_zero_le (show 0 ≤ n by omega)
    have e : Lib.itoa ((m : Nat) : Int) = Lib.decDigits m := by unfold Lib.itoa; rw [if_neg (by omega)]; simp
    exact ⟨(m : Int), 0, .inr ⟨by omega, rfl, rfl⟩, by unfold numR; rw [e, if_pos (dec_isNum m), (dec_all m).2, if_neg (by omega)]⟩

theorem bl_long_two {w0 : World} (s t : List UInt8) (w : World) (hl : minSum [s, t] < 9000) (h : BL w0 w) :
    Calls Tryd.prog 19 #[.slice (some ⟨w.heap.size, 0, none⟩) 2 2] (w.alloc (.cells #[.string (str s), .string (str t)] 9)) fun e w' => e = .returned (.bool false) ∧ BL w0 w' := by
  have hsum : min s.length 9000 + (min t.length 9000 + 0) < 9000 := hl
  refine (long_two s t w (by omega) (by omega)).mono ?_
  rintro e w' ⟨rfl, rfl⟩
  exact ⟨by rw [decide_eq_false (by omega)], h.alloc _⟩

set_option maxHeartbeats 2000000 in
theorem codeBack_short (s t : List UInt8) (n : Int) (w : World) (hl : minSum [s, t] < 9000) (h0 : -9223372036854775808 ≤ n) (h1 : n ≤ 9223372036854775807) (hw : LW w) :
    Calls Tryd.prog 7 #[.string (str s), .string (str t), .int .i64 n] w fun e w' => e = .returned (.bool true) ∧ Below w.heap.size w w' := by
  have hsum : min s.length 9000 + (min t.length 9000 + 0) < 9000 := hl
  have hs : s.length < 9000 := by omega
  have ht : t.length < 9000 := by omega
  obtain ⟨c, g, hg, hC⟩ := unhex_read t ht
  obtain ⟨d, h, hh, hD⟩ := unbase_read t ht
  obtain ⟨m, i, hi, hN⟩ := num_read t ht
  obtain ⟨k, j, hj, hK⟩ := num_back n h0 h1
  have HB0 := BL.start hw
  have HLL := Lib.hid (fun (W : World) (h : BL w W) => bl_long_two s t W hl h)
  have HC := Lib.hid (hC w)
  have HD := Lib.hid (hD w)
  have HN := Lib.hid (hN w)
  have HG := Lib.hid hg
  have HH := Lib.hid hh
  have HI := Lib.hid hi
  have HJ := Lib.hid hj
  have hil : (Lib.itoa n).length ≤ 21 := Lib.itoa_length_le n h0 h1
  have hsl : (hexL s).length ≤ 100000 := by rw [hex_length]; omega
  have hbl : (b64L s).length ≤ 100000 := by rw [b64_length]; omega
  have HS1 := Lib.hid (fun (W : World) (h : BL w W) => bl_hex s (by omega) h)
  have HS2 := Lib.hid (fun (W : World) (h : BL w W) => bl_unhex_of (unhex_hex s) hsl h)
  have HS3 := Lib.hid (fun (W : World) (h : BL w W) => bl_base s (by omega) h)
  have HS4 := Lib.hid (fun (W : World) (h : BL w W) => bl_unbase_of (unb64_b64 s) hbl h)
  have HS5 := Lib.hid (fun (W : World) (h : BL w W) => bl_show n h0 h1 h)
  have HS6 := Lib.hid (fun (W : World) (h : BL w W) => bl_num_of hK (by omega) (by decide) (by decide) h)
  clear hg hh hi hj hC hD hN hK hw hl hsum hil hsl hbl
  generalize hexL s = x1 at *
  generalize b64L s = x2 at *
  generalize Lib.itoa n = x3 at *
  unfold resO at HS2 HS4
  simp only at HS2 HS4
  go_enter Tryd.func7, Tryd.ntmps7
  go_wp2_with fail
  refine (bl_works HB0).mono ?_
  rintro e w1 ⟨rfl, HB1⟩
  go_wp2_with fail
  refine (HLL.out w1 HB1).mono ?_
  rintro e w2 ⟨rfl, HB2⟩
  go_wp2_with fail
  refine (HS1.out w2 HB2).mono ?_
  rintro e w3 ⟨rfl, HB3⟩
  go_wp2_with fail
  refine (HS2.out w3 HB3).mono ?_
  rintro e w4 ⟨rfl, HB4⟩
  go_wp2_with fail
  refine (HS3.out w4 HB4).mono ?_
  rintro e w5 ⟨rfl, HB5⟩
  go_wp2_with fail
  refine (HS4.out w5 HB5).mono ?_
  rintro e w6 ⟨rfl, HB6⟩
  go_wp2_with fail
  refine (HC.out w6 HB6).mono ?_
  rintro e w7 ⟨rfl, HB7⟩
  go_wp2_with fail
  refine (HD.out w7 HB7).mono ?_
  rintro e w8 ⟨rfl, HB8⟩
  go_wp2_with fail
  refine (HN.out w8 HB8).mono ?_
  rintro e w9 ⟨rfl, HB9⟩
  go_upto_region 10 with (fail)
  clear HB1 HB2 HB3 HB4 HB5 HB6 HB7 HB8
  go_cut [98] from 71 to 98 (fun v wr => v = .bool false ∧ BL w wr)
  case first =>
    rcases HG.out with ⟨rfl, hg1, hg2⟩ | rfl
    all_goals rcases HH.out with ⟨rfl, hh1, hh2⟩ | rfl
    all_goals rcases HI.out with ⟨rfl, hi1, hi2, hi3⟩ | ⟨hi1, hi2, hi3⟩
    all_goals first
      | (have HE1 := Lib.hid hg1; clear hg1)
      | skip
    all_goals first
      | (have HE2 := Lib.hid hh1; clear hh1)
      | skip
    all_goals first
      | (have hi0 : (i == 0) = false := by simpa using hi1
         have hi00 : (i != 0) = true := by simpa using hi1
         clear hi1 hi2 hi3)
      | (have HE3 := Lib.hid hi1; clear hi1)
    all_goals go_wp2_with (first
      | (go_at_call 12; refine (bl_hex_of HE1.out hg2 (by assumption)).mono ?_; rintro e w' ⟨rfl, hbl⟩)
      | (go_at_call 18; refine (bl_base_of HE2.out hh2 (by assumption)).mono ?_; rintro e w' ⟨rfl, hbl⟩)
      | (go_at_call 17; refine (bl_show_of HE3.out (by omega) hi3 (by assumption)).mono ?_; rintro e w' ⟨rfl, hbl⟩))
    all_goals go_meet
    all_goals (case rel => exact ⟨rfl, by assumption⟩)
  case rest =>
    obtain ⟨rfl, HBc⟩ := hcut
    go_wp2_with fail
    refine (HS5.out _ HBc).mono ?_
    rintro e w10 ⟨rfl, HB10⟩
    go_wp2_with fail
    refine (HS6.out _ HB10).mono ?_
    rintro e w11 ⟨rfl, HB11⟩
    have HF := Lib.hid HB11.below
    clear HBc HB10 HB11 HB9
    rcases HJ.out with ⟨hn, rfl⟩ | ⟨hn, rfl, rfl⟩
    · have e1 : decide (n < 0) = true := by simpa using hn
      go_wp2
      go_ret
      exact ⟨rfl, HF.out⟩
    · have e1 : decide (k < 0) = false := by simpa using hn
      have e2 : decide (0 ≤ k) = true := by simpa using hn
      go_wp2
      go_ret
      exact ⟨rfl, HF.out⟩
end Go.Proofs.YtdniojbplakeoaaDoor
