/-
  The reference's Int, ReadInt, Bool, ReadBool.
  The reference's ReadInt.
-/
import Derived.Test.YtnaoandleelbkaaGreatDoorEWm
namespace Go.Proofs.YtnaoandleelbkaaGreatDoor
set_option linter.unusedSimpArgs false
set_option linter.unusedVariables false
open Go Go.RowKit
set_option maxRecDepth 100000

theorem rbool_any {w : World} (b : Bool) : Calls Tryz.prog 74 #[.bool b] w fun e w' => e = .returned (sv (yesL b)) ∧ Below w.heap.size w w' := by
  have H1 := Lib.hid (fun W => @byte1_any W 255 255 (by decide))
  have H2 := Lib.hid (fun W => @byte1_any W 0 0 (by decide))
  cases b
  · go_enter Tryz.func74, Tryz.ntmps74
    go_wp2_with (go_at_call 131; with_reducible refine (H2.out _).mono ?_; rintro e w1 ⟨rfl, hb⟩)
    go_ret
    exact ⟨rfl, hb⟩
  · go_enter Tryz.func74, Tryz.ntmps74
    go_wp2_with (go_at_call 131; with_reducible refine (H1.out _).mono ?_; rintro e w1 ⟨rfl, hb⟩)
    go_ret
    exact ⟨rfl, hb⟩

set_option maxHeartbeats 2000000 in
theorem rreadBool_any {w : World} (s : List UInt8) (hs : s.length ≤ 9223372036854775807) : Calls Tryz.prog 81 #[sv s] w fun e w' => e = .returned (.tuple #[.bool (s == [255]), .int .i64 (okN (boolB s))]) ∧ w = w' := by
  have hsz := str_size s
  by_cases h1 : s.length = 1
  · obtain ⟨b, hb⟩ : ∃ b, b = s.getD 0 0 := ⟨_, rfl⟩
    have hse : s = [b] := by
      match s, h1 with
      | [x], _ => subst hb; rfl
    have h0 : 0 < s.length := by omega
    have hx : (str s)[0]'(by rw [hsz]; exact h0) = b := by rw [str_getD s 0 h0, hb]
    have h255 : (s == [255]) = (b == 255) := by rw [hse]; simp
    have h000 : (s == [0]) = (b == 0) := by rw [hse]; simp
    have HB := Lib.hid (show boolB s = (b == 255 || b == 0) by unfold boolB; rw [h255, h000])
    have HC := Lib.hid h255
    by_cases hz : b = 0
    · rw [HC.out, HB.out]
      subst hz
      clear hb hse hs h255 h000
      go_enter Tryz.func81, Tryz.ntmps81
      go_wp2_with fail
      go_ret2
      exact ⟨rfl, rfl⟩
    · by_cases hf : b = 255
      · rw [HC.out, HB.out]
        subst hf
        clear hb hse hs h255 h000 hz
        go_enter Tryz.func81, Tryz.ntmps81
        go_wp2_with fail
        go_ret2
        exact ⟨rfl, rfl⟩
      · have e1 : (b == 255) = false := by rw [beq_eq_false_iff_ne]; exact hf
        have e2 : (b == 0) = false := by rw [beq_eq_false_iff_ne]; exact hz
        rw [HC.out, HB.out, e1, e2]
        have n1 : ((b.toNat : Int) == 0) = false := by rw [beq_eq_false_iff_ne]; intro e; exact hz (UInt8.toNat_inj.1 (show b.toNat = 0 by omega))
        have n2 : ((b.toNat : Int) == 255) = false := by rw [beq_eq_false_iff_ne]; intro e; exact hf (UInt8.toNat_inj.1 (show b.toNat = 255 by omega))
        clear hb hse hs h255 h000 hz hf e1 e2
        go_enter Tryz.func81, Tryz.ntmps81
        go_wp2_with fail
        go_ret2
        exact ⟨rfl, rfl⟩
  · have HC := Lib.hid (show (s == [255]) = false by rw [beq_eq_false_iff_ne]; intro e; exact h1 (by rw [e]; rfl))
    have HB := Lib.hid (show boolB s = false by unfold boolB; rw [HC.out, show (s == [0]) = false by rw [beq_eq_false_iff_ne]; intro e; exact h1 (by rw [e]; rfl)]; rfl)
    rw [HC.out, HB.out]
    clear hs
    go_enter Tryz.func81, Tryz.ntmps81
    go_wp2_with fail
    go_ret2
    exact ⟨rfl, rfl⟩

/-! ### Int -/
theorem u64_of (n : Int) : IntKind.u64.wrap n = n % 18446744073709551616 := by simp [IntKind.wrap, IntKind.bits, IntKind.signed]
theorem bytesU_step (u k : Nat) : bytesU u (k + 1) = bytesU (u / 256) k ++ [UInt8.ofNat (u % 256)] := rfl
/-- k bytes of u, the least ones. -/
def lowU (u : Nat) : Nat → List UInt8
  | 0 => []
  | k + 1 => UInt8.ofNat (u / 256 ^ k % 256) :: lowU u k
theorem lowU_length (u k : Nat) : (lowU u k).length = k := by
  induction k with
  | zero => rfl
  | succ k ih => simp [lowU, ih]
theorem lowU_snoc (u k : Nat) : lowU u (k + 1) = lowU (u / 256) k ++ [UInt8.ofNat (u % 256)] := by
  induction k with
  | zero => simp [lowU]
  | succ k ih =>
    rw [show lowU u (k + 1 + 1) = UInt8.ofNat (u / 256 ^ (k + 1) % 256) :: lowU u (k + 1) from rfl, ih]
    show _ = UInt8.ofNat (u / 256 / 256 ^ k % 256) :: lowU (u / 256) k ++ _
    rw [Nat.div_div_eq_div_mul, Nat.pow_succ, Nat.mul_comm (256 ^ k) 256]; rfl
theorem lowU_bytesU (u k : Nat) : lowU u k = bytesU u k := by
  induction k generalizing u with
  | zero => rfl
  | succ k ih => rw [lowU_snoc, bytesU_step, ih]

/-- How long a text is. -/
def sizeOfV : Value → Nat
  | .string b => b.size
  | _ => 0
/-- How far the stripping has come. -/
theorem lessF_go (k : Nat) (s : List UInt8) (h : minB s = false) : lessF (k + 1) s = lessF k (s.drop 1) := by
  rw [show lessF (k + 1) s = if minB s then s else lessF k (s.drop 1) from rfl, h]; rfl
theorem lessF_stop (k : Nat) (s : List UInt8) (h : minB s = true) : lessF k s = s := by
  cases k with
  | zero => rfl
  | succ k => unfold lessF; rw [if_pos h]

set_option maxHeartbeats 8000000 in
theorem rint_any {w : World} {n : Int} (hn : -9223372036854775808 ≤ n ∧ n < 9223372036854775808) : Calls Tryz.prog 73 #[.int .i64 n] w fun e w' => e = .returned (sv (intL n)) ∧ Below w.heap.size w w' := by
  obtain ⟨u, hu⟩ : ∃ u : Nat, (u : Int) = n % 18446744073709551616 := ⟨(n % 18446744073709551616).toNat, by omega⟩
  have HL := Lib.hid (show lessF 7 (lowU u 8) = intL n by rw [lowU_bytesU]; exact less_is n hn u hu)
  have hul : u < 18446744073709551616 := by omega
  have hw : IntKind.u64.wrap n = (u : Int) := by rw [u64_of, hu]
  have BY := Lib.hid (fun W (z : Nat) => @byte1_any W (z : Int) (UInt8.ofNat (z % 256)) (by constructor; omega; simp))
  have HB0 := Lib.hid (Below.refl w.heap.size w)
  clear hu hn
  go_enter Tryz.func73, Tryz.ntmps73
  go_wp2_with fail
  go_loopw [3, 4, 5] (fun s z i wr => ∃ k : Nat, k ≤ 8 ∧ s = sv (lowU u k) ∧ z = .int .u64 ((u / 256 ^ k : Nat) : Int) ∧ i = .int .i64 k ∧ Below w.heap.size w wr) (fun _ _ i _ => 8 - (intOf i).toNat)
  case atStart => exact ⟨0, by omega, rfl, by simp, rfl, HB0.out⟩
  case round =>
    obtain ⟨k, hk, rfl, rfl, rfl, hB⟩ := hrel
    have HB := Lib.hid hB
    clear hB
    by_cases hlt : k < 8
    · have hst : lowU u (k + 1) = [UInt8.ofNat (u / 256 ^ k % 256)] ++ lowU u k := rfl
      have hqq : u / 256 ^ (k + 1) = u / 256 ^ k / 256 := by rw [Nat.div_div_eq_div_mul, Nat.pow_succ]
      have hxl : u / 256 ^ k < 18446744073709551616 := Nat.lt_of_le_of_lt (Nat.div_le_self _ _) hul
      have hll := lowU_length u k
      obtain ⟨x, hx⟩ : ∃ x, x = u / 256 ^ k := ⟨_, rfl⟩
      obtain ⟨T, hT⟩ : ∃ T, T = lowU u k := ⟨_, rfl⟩
      rw [← hx] at hst hqq hxl ⊢
      rw [← hT] at hst hll ⊢
      obtain ⟨d, hd⟩ : ∃ d, d = x % 256 := ⟨_, rfl⟩
      obtain ⟨y, hy⟩ : ∃ d, d = x / 256 := ⟨_, rfl⟩
      have hd1 : (x : Int) % 256 = (d : Int) := by omega
      have hd2 : (x : Int).tmod 256 = (d : Int) := by rw [Int.tmod_eq_emod_of_nonneg (by omega), hd1]
      have hy1 : (x : Int) / 256 = (y : Int) := by omega
      have hy2 : (x : Int).tdiv 256 = (y : Int) := by rw [Int.tdiv_eq_ediv_of_nonneg (by omega), hy1]
      have hdl : d < 256 := by omega
      have hyl : y < 18446744073709551616 := by omega
      have hwd : IntKind.i64.wrap (d : Int) = (d : Int) := by rw [IntKind.wrap_i64]; omega
      have hwy : IntKind.u64.wrap (y : Int) = (y : Int) := by rw [u64_of]; omega
      have hwd2 : IntKind.u64.wrap (d : Int) = (d : Int) := by rw [u64_of]; omega
      have hlT : T.length ≤ 8 := by omega
      have BY2 := Lib.hid (fun W => show Calls Tryz.prog 131 #[.int .i64 (d : Int)] W (fun e w' => e = .returned (sv [UInt8.ofNat d]) ∧ Below W.heap.size W w') from by have := BY.out W d; rwa [Nat.mod_eq_of_lt hdl] at this)
      rw [← hd] at hst
      have HST := Lib.hid hst
      have HQQ := Lib.hid (show u / 256 ^ (k + 1) = y by rw [hqq, hy])
      have hlt' : (k : Int) < 8 := by omega
      clear hst hqq hx hT hd hy hw BY HL HB0 hul hll hk
      go_wp2_with (go_at_call 131; with_reducible refine (BY2.out _).mono ?_; rintro e w2 ⟨rfl, hb2⟩)
      go_roundw
      case rel => exact ⟨k + 1, by omega, by rw [HST.out]; rfl, by rw [HQQ.out], by go_num, HB.out.trans (hb2.mono HB.out.size)⟩
      case measure => simp [intOf]; omega
    · obtain rfl : k = 8 := by omega
      have hll := lowU_length u 8
      obtain ⟨T, hT⟩ : ∃ T, T = lowU u 8 := ⟨_, rfl⟩
      rw [← hT] at HL hll ⊢
      obtain ⟨z8, hz8⟩ : ∃ z : Int, z = ((u / 256 ^ 8 : Nat) : Int) := ⟨_, rfl⟩
      rw [← hz8, show ((8 : Nat) : Int) = (8 : Int) from rfl]
      clear hT hul hw BY HB0 hlt hk hz8
      go_wp2_with fail
      go_loopw [3] (fun s wr => ∃ (j : Nat) (t : List UInt8), lessF j t = intL n ∧ t.length ≤ j + 1 ∧ t.length ≤ 8 ∧ s = sv t ∧ Below w.heap.size w wr) (fun s _ => sizeOfV s)
      case atStart => exact ⟨7, T, HL.out, by omega, by omega, rfl, HB.out⟩
      case round =>
        clear HB hll HL
        obtain ⟨j0, t, hle, htj, ht8, rfl, hB⟩ := hrel
        have HB := Lib.hid hB
        have hzt := str_size t
        clear hB
        by_cases h1 : 1 < t.length
        · obtain ⟨j, rfl⟩ : ∃ j, j0 = j + 1 := ⟨j0 - 1, by omega⟩
          obtain ⟨a, ha⟩ : ∃ a, a = t.getD 0 0 := ⟨_, rfl⟩
          obtain ⟨b, hb⟩ : ∃ a, a = t.getD 1 0 := ⟨_, rfl⟩
          have h0 : 0 < t.length := by omega
          have hx0 : (str t)[0]'(by rw [hzt]; exact h0) = a := by rw [str_getD t 0 h0, ha]
          have hx1 : (str t)[1]'(by rw [hzt]; exact h1) = b := by rw [str_getD t 1 h1, hb]
          have hmin : minB t = !((a == 0 && decide (b.toNat < 128)) || (a == 255 && decide (128 ≤ b.toNat))) := by
            match t, h1, ha, hb with
            | x :: y :: l, _, ha, hb => subst ha hb; rfl
          obtain ⟨q, hq⟩ : ∃ q, q = t.drop 1 := ⟨_, rfl⟩
          have hex : (str t).extract 1 t.length = str q := by rw [str_extract, hq]; simp
          have hql : q.length + 1 = t.length := by rw [hq, List.length_drop]; omega
          have HME := Lib.hid (show sizeOfV (sv q) < sizeOfV (sv t) by unfold sizeOfV; simp only [str_size]; omega)
          clear ha hb
          by_cases a0 : a = 0
          · subst a0
            by_cases b1 : b.toNat < 128
            · have hm : minB t = false := by rw [hmin]; simp; omega
              have HST := Lib.hid (show lessF j q = intL n by rw [hq, ← lessF_go j t hm]; exact hle)
              clear hmin hm hle hq
              go_wp2_with fail
              go_roundw
              case rel => exact ⟨j, q, HST.out, by omega, by omega, rfl, HB.out⟩
              case measure => exact HME.out
            · have hm : minB t = true := by rw [hmin]; simp; omega
              have HEQ := Lib.hid (show t = intL n by rw [← hle, lessF_stop _ _ hm])
              clear hmin hm hle hq
              go_wp2_with fail
              go_ret
              rw [← HEQ.out]
              exact ⟨rfl, HB.out⟩
          · by_cases a1 : a = 255
            · subst a1
              by_cases b1 : b.toNat < 128
              · have hm : minB t = true := by rw [hmin]; simp; omega
                have HEQ := Lib.hid (show t = intL n by rw [← hle, lessF_stop _ _ hm])
                clear hmin hm hle hq
                go_wp2_with fail
                go_ret
                rw [← HEQ.out]
                exact ⟨rfl, HB.out⟩
              · have b2 : decide ((128 : Int) ≤ (b.toNat : Int)) = true := by rw [decide_eq_true_eq]; omega
                have hm : minB t = false := by rw [hmin]; simp; omega
                have HST := Lib.hid (show lessF j q = intL n by rw [hq, ← lessF_go j t hm]; exact hle)
                clear hmin hm hle hq
                go_wp2_with fail
                go_roundw
                case rel => exact ⟨j, q, HST.out, by omega, by omega, rfl, HB.out⟩
                case measure => exact HME.out
            · have hm : minB t = true := by rw [hmin]; simp [a0, a1]
              have HEQ := Lib.hid (show t = intL n by rw [← hle, lessF_stop _ _ hm])
              have n1 : ((a.toNat : Int) == 0) = false := by rw [beq_eq_false_iff_ne]; intro e; exact a0 (UInt8.toNat_inj.1 (show a.toNat = 0 by omega))
              have n2 : ((a.toNat : Int) == 255) = false := by rw [beq_eq_false_iff_ne]; intro e; exact a1 (UInt8.toNat_inj.1 (show a.toNat = 255 by omega))
              clear hmin hm hle hq a0 a1
              go_wp2_with fail
              go_ret
              rw [← HEQ.out]
              exact ⟨rfl, HB.out⟩
        · have hm : minB t = true := by
            match t, h1 with
            | [], _ => rfl
            | [_], _ => rfl
            | _ :: _ :: _, h1 => simp at h1
          have HEQ := Lib.hid (show t = intL n by rw [← hle, lessF_stop _ _ hm])
          clear hm hle
          go_wp2_with fail
          go_ret
          rw [← HEQ.out]
          exact ⟨rfl, HB.out⟩
end Go.Proofs.YtnaoandleelbkaaGreatDoor

namespace Go.Proofs.YtnaoandleelbkaaGreatDoor
set_option linter.unusedSimpArgs false
set_option linter.unusedVariables false
open Go Go.RowKit
set_option maxRecDepth 100000

set_option maxHeartbeats 16000000 in
theorem rreadInt_any {w : World} (s : List UInt8) (hs : s.length ≤ 9223372036854775807) : Calls Tryz.prog 80 #[sv s] w fun e w' => e = .returned (.tuple #[.int .i64 (readN s), .int .i64 (okN (readB s))]) ∧ w = w' := by
  have hsz := str_size s
  by_cases h0 : s.length = 0
  · obtain rfl : s = [] := List.length_eq_zero_iff.1 h0
    clear h0 hs
    go_enter Tryz.func80, Tryz.ntmps80
    go_wp2_with fail
    go_ret2
    exact ⟨rfl, rfl⟩
  · have hem : s.isEmpty = false := by
      cases s with
      | nil => exact absurd rfl h0
      | cons x y => rfl
    by_cases h8 : s.length ≤ 8
    · have hlt0 : 0 < s.length := by omega
      obtain ⟨a, ha⟩ : ∃ b, b = s.getD 0 0 := ⟨_, rfl⟩
      have hx0 : (str s)[0]'(by rw [hsz]; exact hlt0) = a := by rw [str_getD s 0 hlt0, ha]
      have HRB := Lib.hid (show (minB s = true → readN s = valL s ∧ okN (readB s) = 0) ∧ (minB s = false → readN s = 0 ∧ okN (readB s) = 4) by
        have hr := readB_iff s
        rw [decide_eq_true (show 0 < s.length ∧ s.length ≤ 8 by omega), Bool.true_and] at hr
        constructor
        · intro h; rw [h] at hr; unfold readN okN; rw [hr]; exact ⟨rfl, rfl⟩
        · intro h; rw [h] at hr; unfold readN okN; rw [hr]; exact ⟨rfl, rfl⟩)
      have HVB := Lib.hid (show -9223372036854775808 ≤ valL s ∧ valL s < 9223372036854775808 by
        cases s with
        | nil => exact absurd rfl h0
        | cons b l => exact fits7 (fits_mono (valL_fits b l) (by simp at h8; omega)))
      have HNV := Lib.hid (show ∀ g : Int, g * 256 + a.toNat = sgn a → numI g s = valL s by
        intro g hg
        cases s with
        | nil => exact absurd rfl h0
        | cons b l =>
          have hab : a = b := ha
          rw [hab] at hg
          show numI (g * 256 + b.toNat) l = numI (sgn b) l
          rw [hg])
      have h8' : decide (8 < (s.length : Int)) = false := by rw [decide_eq_false_iff_not]; omega
      clear h0 hs
      by_cases h1 : 1 < s.length
      · obtain ⟨b, hb⟩ : ∃ b, b = s.getD 1 0 := ⟨_, rfl⟩
        have hx1 : (str s)[1]'(by rw [hsz]; exact h1) = b := by rw [str_getD s 1 h1, hb]
        have hmin : minB s = !((a == 0 && decide (b.toNat < 128)) || (a == 255 && decide (128 ≤ b.toNat))) := by
          match s, h1, ha, hb with
          | x :: y :: l, _, ha, hb => subst ha hb; rfl
        clear ha hb
        by_cases a0 : a = 0
        · subst a0
          have a2 : (0 : UInt8).toNat < 128 := by decide
          by_cases b1 : b.toNat < 128
          · 
            have HER := Lib.hid (show readN s = 0 ∧ okN (readB s) = 4 from HRB.out.2 (by rw [hmin]; simp; try omega))
            clear hmin HRB HNV HVB
            go_enter Tryz.func80, Tryz.ntmps80
            go_wp2_with fail
            go_ret2
            rw [HER.out.1, HER.out.2]
            exact ⟨rfl, rfl⟩
          · 
            have HOK := Lib.hid (show readN s = valL s ∧ okN (readB s) = 0 from HRB.out.1 (by rw [hmin]; simp; try omega))
            clear hmin HRB
            have b2 : decide ((b.toNat : Int) < 128) = false := by rw [decide_eq_false_iff_not]; omega
            obtain ⟨g, hg⟩ : ∃ g : Int, g = 0 := ⟨_, rfl⟩
            have HG := Lib.hid (show numI g s = valL s by rw [hg]; exact HNV.out (0) (by unfold sgn; first | rw [if_pos (by omega)]; omega | rw [if_neg (by omega)]; omega))
            have h00 : (0 : Int) = g % 18446744073709551616 := by rw [hg]; rfl
            have HGO := Lib.hid h00
            clear h00 hg HNV
            go_enter Tryz.func80, Tryz.ntmps80
            go_wp2_with fail
            go_loop [4, 5] (fun z i => ∃ k : Nat, k ≤ s.length ∧ i = .int .i64 k ∧ z = .int .u64 (numI g (s.take k) % 18446744073709551616)) (fun _ i => s.length - (intOf i).toNat)
            case atStart => exact ⟨0, Nat.zero_le _, rfl, by rw [show numI g (s.take 0) = g from rfl, ← HGO.out]; first | done | rfl | (rw [u64_of]; rfl)⟩
            case round =>
              obtain ⟨k, hk, rfl, rfl⟩ := hrel
              by_cases hlt : k < s.length
              · have hx := str_getD s k hlt (by rw [hsz]; exact hlt)
                have hs : numI g (s.take (k + 1)) = numI g (s.take k) * 256 + (s.getD k 0).toNat := by rw [take_next hlt, numI_snoc]
                obtain ⟨y, hy⟩ : ∃ y, y = s.getD k 0 := ⟨_, rfl⟩
                obtain ⟨A, hA⟩ : ∃ A, A = numI g (s.take k) % 18446744073709551616 := ⟨_, rfl⟩
                obtain ⟨M, hM⟩ : ∃ A, A = A * 256 % 18446744073709551616 := ⟨0, rfl⟩
                have hyl := y.toNat_lt
                rw [← hy] at hx hs
                obtain ⟨B, hB⟩ : ∃ B, B = A * 256 % 18446744073709551616 := ⟨_, rfl⟩
                have hw1 : IntKind.u64.wrap (A * 256) = B := by rw [u64_of, hB]
                have hw2 : IntKind.u64.wrap (y.toNat : Int) = (y.toNat : Int) := by rw [u64_of]; omega
                have hw3 : IntKind.u64.wrap (B + (y.toNat : Int)) = numI g (s.take (k + 1)) % 18446744073709551616 := by rw [u64_of, hs]; omega
                obtain ⟨C, hC⟩ : ∃ C, C = numI g (s.take (k + 1)) % 18446744073709551616 := ⟨_, rfl⟩
                rw [← hC] at hw3
                have HC := Lib.hid hC
                have hlt' : (k : Int) < (s.length : Int) := by omega
                rw [← hA]
                have hxg : (str s)[k]'(by rw [hsz]; exact hlt) = y := hx
                clear hs hC hB hA hM hy hx HG HGO
                go_wp2_with fail
                go_round
                case rel => exact ⟨k + 1, by omega, by go_num, by rw [← HC.out]⟩
                case measure => simp [intOf]; omega
              · obtain rfl : k = s.length := by omega
                have hfin : IntKind.i64.wrap (numI g (s.take s.length) % 18446744073709551616) = valL s := by
                  rw [List.take_length, HG.out, IntKind.wrap_i64]; have := HVB.out; omega
                obtain ⟨Z, hZ⟩ : ∃ Z, Z = numI g (s.take s.length) % 18446744073709551616 := ⟨_, rfl⟩
                rw [← hZ] at hfin ⊢
                clear hZ HG HGO
                go_wp2_with fail
                go_ret2
                rw [HOK.out.1, HOK.out.2]
                exact ⟨rfl, rfl⟩
        · by_cases a1 : a = 255
          · subst a1
            have a2 : ¬ (255 : UInt8).toNat < 128 := by decide
            by_cases b1 : b.toNat < 128
            · 
              have HOK := Lib.hid (show readN s = valL s ∧ okN (readB s) = 0 from HRB.out.1 (by rw [hmin]; simp; try omega))
              clear hmin HRB
              have b2 : decide (128 ≤ (b.toNat : Int)) = false := by rw [decide_eq_false_iff_not]; omega
              obtain ⟨g, hg⟩ : ∃ g : Int, g = -1 := ⟨_, rfl⟩
              have HG := Lib.hid (show numI g s = valL s by rw [hg]; exact HNV.out (-1) (by unfold sgn; first | rw [if_pos (by omega)]; omega | rw [if_neg (by omega)]; omega))
              have h00 : (18446744073709551615 : Int) = g % 18446744073709551616 := by rw [hg]; rfl
              have HGO := Lib.hid h00
              clear h00 hg HNV
              go_enter Tryz.func80, Tryz.ntmps80
              go_wp2_with fail
              go_loop [4, 5] (fun z i => ∃ k : Nat, k ≤ s.length ∧ i = .int .i64 k ∧ z = .int .u64 (numI g (s.take k) % 18446744073709551616)) (fun _ i => s.length - (intOf i).toNat)
              case atStart => exact ⟨0, Nat.zero_le _, rfl, by rw [show numI g (s.take 0) = g from rfl, ← HGO.out]; first | done | rfl | (rw [u64_of]; rfl)⟩
              case round =>
                obtain ⟨k, hk, rfl, rfl⟩ := hrel
                by_cases hlt : k < s.length
                · have hx := str_getD s k hlt (by rw [hsz]; exact hlt)
                  have hs : numI g (s.take (k + 1)) = numI g (s.take k) * 256 + (s.getD k 0).toNat := by rw [take_next hlt, numI_snoc]
                  obtain ⟨y, hy⟩ : ∃ y, y = s.getD k 0 := ⟨_, rfl⟩
                  obtain ⟨A, hA⟩ : ∃ A, A = numI g (s.take k) % 18446744073709551616 := ⟨_, rfl⟩
                  obtain ⟨M, hM⟩ : ∃ A, A = A * 256 % 18446744073709551616 := ⟨0, rfl⟩
                  have hyl := y.toNat_lt
                  rw [← hy] at hx hs
                  obtain ⟨B, hB⟩ : ∃ B, B = A * 256 % 18446744073709551616 := ⟨_, rfl⟩
                  have hw1 : IntKind.u64.wrap (A * 256) = B := by rw [u64_of, hB]
                  have hw2 : IntKind.u64.wrap (y.toNat : Int) = (y.toNat : Int) := by rw [u64_of]; omega
                  have hw3 : IntKind.u64.wrap (B + (y.toNat : Int)) = numI g (s.take (k + 1)) % 18446744073709551616 := by rw [u64_of, hs]; omega
                  obtain ⟨C, hC⟩ : ∃ C, C = numI g (s.take (k + 1)) % 18446744073709551616 := ⟨_, rfl⟩
                  rw [← hC] at hw3
                  have HC := Lib.hid hC
                  have hlt' : (k : Int) < (s.length : Int) := by omega
                  rw [← hA]
                  have hxg : (str s)[k]'(by rw [hsz]; exact hlt) = y := hx
                  clear hs hC hB hA hM hy hx HG HGO
                  go_wp2_with fail
                  go_round
                  case rel => exact ⟨k + 1, by omega, by go_num, by rw [← HC.out]⟩
                  case measure => simp [intOf]; omega
                · obtain rfl : k = s.length := by omega
                  have hfin : IntKind.i64.wrap (numI g (s.take s.length) % 18446744073709551616) = valL s := by
                    rw [List.take_length, HG.out, IntKind.wrap_i64]; have := HVB.out; omega
                  obtain ⟨Z, hZ⟩ : ∃ Z, Z = numI g (s.take s.length) % 18446744073709551616 := ⟨_, rfl⟩
                  rw [← hZ] at hfin ⊢
                  clear hZ HG HGO
                  go_wp2_with fail
                  go_ret2
                  rw [HOK.out.1, HOK.out.2]
                  exact ⟨rfl, rfl⟩
            · 
              have b2 : decide ((128 : Int) ≤ (b.toNat : Int)) = true := by rw [decide_eq_true_eq]; omega
              have HER := Lib.hid (show readN s = 0 ∧ okN (readB s) = 4 from HRB.out.2 (by rw [hmin]; simp; try omega))
              clear hmin HRB HNV HVB
              go_enter Tryz.func80, Tryz.ntmps80
              go_wp2_with fail
              go_ret2
              rw [HER.out.1, HER.out.2]
              exact ⟨rfl, rfl⟩
          · have n1 : ((a.toNat : Int) == 0) = false := by rw [beq_eq_false_iff_ne]; intro e; exact a0 (UInt8.toNat_inj.1 (show a.toNat = 0 by omega))
            have n2 : ((a.toNat : Int) == 255) = false := by rw [beq_eq_false_iff_ne]; intro e; exact a1 (UInt8.toNat_inj.1 (show a.toNat = 255 by omega))
            have HOK := Lib.hid (show readN s = valL s ∧ okN (readB s) = 0 from HRB.out.1 (by rw [hmin]; simp [a0, a1]))
            clear hmin HRB a0 a1
            by_cases a2 : a.toNat < 128
            ·
              obtain ⟨g, hg⟩ : ∃ g : Int, g = 0 := ⟨_, rfl⟩
              have HG := Lib.hid (show numI g s = valL s by rw [hg]; exact HNV.out (0) (by unfold sgn; first | rw [if_pos (by omega)]; omega | rw [if_neg (by omega)]; omega))
              have h00 : (0 : Int) = g % 18446744073709551616 := by rw [hg]; rfl
              have HGO := Lib.hid h00
              clear h00 hg HNV
              go_enter Tryz.func80, Tryz.ntmps80
              go_wp2_with fail
              go_loop [4, 5] (fun z i => ∃ k : Nat, k ≤ s.length ∧ i = .int .i64 k ∧ z = .int .u64 (numI g (s.take k) % 18446744073709551616)) (fun _ i => s.length - (intOf i).toNat)
              case atStart => exact ⟨0, Nat.zero_le _, rfl, by rw [show numI g (s.take 0) = g from rfl, ← HGO.out]; first | done | rfl | (rw [u64_of]; rfl)⟩
              case round =>
                obtain ⟨k, hk, rfl, rfl⟩ := hrel
                by_cases hlt : k < s.length
                · have hx := str_getD s k hlt (by rw [hsz]; exact hlt)
                  have hs : numI g (s.take (k + 1)) = numI g (s.take k) * 256 + (s.getD k 0).toNat := by rw [take_next hlt, numI_snoc]
                  obtain ⟨y, hy⟩ : ∃ y, y = s.getD k 0 := ⟨_, rfl⟩
                  obtain ⟨A, hA⟩ : ∃ A, A = numI g (s.take k) % 18446744073709551616 := ⟨_, rfl⟩
                  obtain ⟨M, hM⟩ : ∃ A, A = A * 256 % 18446744073709551616 := ⟨0, rfl⟩
                  have hyl := y.toNat_lt
                  rw [← hy] at hx hs
                  obtain ⟨B, hB⟩ : ∃ B, B = A * 256 % 18446744073709551616 := ⟨_, rfl⟩
                  have hw1 : IntKind.u64.wrap (A * 256) = B := by rw [u64_of, hB]
                  have hw2 : IntKind.u64.wrap (y.toNat : Int) = (y.toNat : Int) := by rw [u64_of]; omega
                  have hw3 : IntKind.u64.wrap (B + (y.toNat : Int)) = numI g (s.take (k + 1)) % 18446744073709551616 := by rw [u64_of, hs]; omega
                  obtain ⟨C, hC⟩ : ∃ C, C = numI g (s.take (k + 1)) % 18446744073709551616 := ⟨_, rfl⟩
                  rw [← hC] at hw3
                  have HC := Lib.hid hC
                  have hlt' : (k : Int) < (s.length : Int) := by omega
                  rw [← hA]
                  have hxg : (str s)[k]'(by rw [hsz]; exact hlt) = y := hx
                  clear hs hC hB hA hM hy hx HG HGO
                  go_wp2_with fail
                  go_round
                  case rel => exact ⟨k + 1, by omega, by go_num, by rw [← HC.out]⟩
                  case measure => simp [intOf]; omega
                · obtain rfl : k = s.length := by omega
                  have hfin : IntKind.i64.wrap (numI g (s.take s.length) % 18446744073709551616) = valL s := by
                    rw [List.take_length, HG.out, IntKind.wrap_i64]; have := HVB.out; omega
                  obtain ⟨Z, hZ⟩ : ∃ Z, Z = numI g (s.take s.length) % 18446744073709551616 := ⟨_, rfl⟩
                  rw [← hZ] at hfin ⊢
                  clear hZ HG HGO
                  go_wp2_with fail
                  go_ret2
                  rw [HOK.out.1, HOK.out.2]
                  exact ⟨rfl, rfl⟩
            ·
              obtain ⟨g, hg⟩ : ∃ g : Int, g = -1 := ⟨_, rfl⟩
              have HG := Lib.hid (show numI g s = valL s by rw [hg]; exact HNV.out (-1) (by unfold sgn; first | rw [if_pos (by omega)]; omega | rw [if_neg (by omega)]; omega))
              have h00 : (18446744073709551615 : Int) = g % 18446744073709551616 := by rw [hg]; rfl
              have HGO := Lib.hid h00
              clear h00 hg HNV
              go_enter Tryz.func80, Tryz.ntmps80
              go_wp2_with fail
              go_loop [4, 5] (fun z i => ∃ k : Nat, k ≤ s.length ∧ i = .int .i64 k ∧ z = .int .u64 (numI g (s.take k) % 18446744073709551616)) (fun _ i => s.length - (intOf i).toNat)
              case atStart => exact ⟨0, Nat.zero_le _, rfl, by rw [show numI g (s.take 0) = g from rfl, ← HGO.out]; first | done | rfl | (rw [u64_of]; rfl)⟩
              case round =>
                obtain ⟨k, hk, rfl, rfl⟩ := hrel
                by_cases hlt : k < s.length
                · have hx := str_getD s k hlt (by rw [hsz]; exact hlt)
                  have hs : numI g (s.take (k + 1)) = numI g (s.take k) * 256 + (s.getD k 0).toNat := by rw [take_next hlt, numI_snoc]
                  obtain ⟨y, hy⟩ : ∃ y, y = s.getD k 0 := ⟨_, rfl⟩
                  obtain ⟨A, hA⟩ : ∃ A, A = numI g (s.take k) % 18446744073709551616 := ⟨_, rfl⟩
                  obtain ⟨M, hM⟩ : ∃ A, A = A * 256 % 18446744073709551616 := ⟨0, rfl⟩
                  have hyl := y.toNat_lt
                  rw [← hy] at hx hs
                  obtain ⟨B, hB⟩ : ∃ B, B = A * 256 % 18446744073709551616 := ⟨_, rfl⟩
                  have hw1 : IntKind.u64.wrap (A * 256) = B := by rw [u64_of, hB]
                  have hw2 : IntKind.u64.wrap (y.toNat : Int) = (y.toNat : Int) := by rw [u64_of]; omega
                  have hw3 : IntKind.u64.wrap (B + (y.toNat : Int)) = numI g (s.take (k + 1)) % 18446744073709551616 := by rw [u64_of, hs]; omega
                  obtain ⟨C, hC⟩ : ∃ C, C = numI g (s.take (k + 1)) % 18446744073709551616 := ⟨_, rfl⟩
                  rw [← hC] at hw3
                  have HC := Lib.hid hC
                  have hlt' : (k : Int) < (s.length : Int) := by omega
                  rw [← hA]
                  have hxg : (str s)[k]'(by rw [hsz]; exact hlt) = y := hx
                  clear hs hC hB hA hM hy hx HG HGO
                  go_wp2_with fail
                  go_round
                  case rel => exact ⟨k + 1, by omega, by go_num, by rw [← HC.out]⟩
                  case measure => simp [intOf]; omega
                · obtain rfl : k = s.length := by omega
                  have hfin : IntKind.i64.wrap (numI g (s.take s.length) % 18446744073709551616) = valL s := by
                    rw [List.take_length, HG.out, IntKind.wrap_i64]; have := HVB.out; omega
                  obtain ⟨Z, hZ⟩ : ∃ Z, Z = numI g (s.take s.length) % 18446744073709551616 := ⟨_, rfl⟩
                  rw [← hZ] at hfin ⊢
                  clear hZ HG HGO
                  go_wp2_with fail
                  go_ret2
                  rw [HOK.out.1, HOK.out.2]
                  exact ⟨rfl, rfl⟩
      · have hmin : minB s = true := by
          match s, h1 with
          | [], _ => rfl
          | [_], _ => rfl
          | _ :: _ :: _, h1 => simp at h1
        have HOK := Lib.hid (show readN s = valL s ∧ okN (readB s) = 0 from HRB.out.1 hmin)
        clear hmin HRB ha
        by_cases a2 : a.toNat < 128
        ·
          obtain ⟨g, hg⟩ : ∃ g : Int, g = 0 := ⟨_, rfl⟩
          have HG := Lib.hid (show numI g s = valL s by rw [hg]; exact HNV.out (0) (by unfold sgn; first | rw [if_pos (by omega)]; omega | rw [if_neg (by omega)]; omega))
          have h00 : (0 : Int) = g % 18446744073709551616 := by rw [hg]; rfl
          have HGO := Lib.hid h00
          clear h00 hg HNV
          go_enter Tryz.func80, Tryz.ntmps80
          go_wp2_with fail
          go_loop [4, 5] (fun z i => ∃ k : Nat, k ≤ s.length ∧ i = .int .i64 k ∧ z = .int .u64 (numI g (s.take k) % 18446744073709551616)) (fun _ i => s.length - (intOf i).toNat)
          case atStart => exact ⟨0, Nat.zero_le _, rfl, by rw [show numI g (s.take 0) = g from rfl, ← HGO.out]; first | done | rfl | (rw [u64_of]; rfl)⟩
          case round =>
            obtain ⟨k, hk, rfl, rfl⟩ := hrel
            by_cases hlt : k < s.length
            · have hx := str_getD s k hlt (by rw [hsz]; exact hlt)
              have hs : numI g (s.take (k + 1)) = numI g (s.take k) * 256 + (s.getD k 0).toNat := by rw [take_next hlt, numI_snoc]
              obtain ⟨y, hy⟩ : ∃ y, y = s.getD k 0 := ⟨_, rfl⟩
              obtain ⟨A, hA⟩ : ∃ A, A = numI g (s.take k) % 18446744073709551616 := ⟨_, rfl⟩
              obtain ⟨M, hM⟩ : ∃ A, A = A * 256 % 18446744073709551616 := ⟨0, rfl⟩
              have hyl := y.toNat_lt
              rw [← hy] at hx hs
              obtain ⟨B, hB⟩ : ∃ B, B = A * 256 % 18446744073709551616 := ⟨_, rfl⟩
              have hw1 : IntKind.u64.wrap (A * 256) = B := by rw [u64_of, hB]
              have hw2 : IntKind.u64.wrap (y.toNat : Int) = (y.toNat : Int) := by rw [u64_of]; omega
              have hw3 : IntKind.u64.wrap (B + (y.toNat : Int)) = numI g (s.take (k + 1)) % 18446744073709551616 := by rw [u64_of, hs]; omega
              obtain ⟨C, hC⟩ : ∃ C, C = numI g (s.take (k + 1)) % 18446744073709551616 := ⟨_, rfl⟩
              rw [← hC] at hw3
              have HC := Lib.hid hC
              have hlt' : (k : Int) < (s.length : Int) := by omega
              rw [← hA]
              have hxg : (str s)[k]'(by rw [hsz]; exact hlt) = y := hx
              clear hs hC hB hA hM hy hx HG HGO
              go_wp2_with fail
              go_round
              case rel => exact ⟨k + 1, by omega, by go_num, by rw [← HC.out]⟩
              case measure => simp [intOf]; omega
            · obtain rfl : k = s.length := by omega
              have hfin : IntKind.i64.wrap (numI g (s.take s.length) % 18446744073709551616) = valL s := by
                rw [List.take_length, HG.out, IntKind.wrap_i64]; have := HVB.out; omega
              obtain ⟨Z, hZ⟩ : ∃ Z, Z = numI g (s.take s.length) % 18446744073709551616 := ⟨_, rfl⟩
              rw [← hZ] at hfin ⊢
              clear hZ HG HGO
              go_wp2_with fail
              go_ret2
              rw [HOK.out.1, HOK.out.2]
              exact ⟨rfl, rfl⟩
        ·
          obtain ⟨g, hg⟩ : ∃ g : Int, g = -1 := ⟨_, rfl⟩
          have HG := Lib.hid (show numI g s = valL s by rw [hg]; exact HNV.out (-1) (by unfold sgn; first | rw [if_pos (by omega)]; omega | rw [if_neg (by omega)]; omega))
          have h00 : (18446744073709551615 : Int) = g % 18446744073709551616 := by rw [hg]; rfl
          have HGO := Lib.hid h00
          clear h00 hg HNV
          go_enter Tryz.func80, Tryz.ntmps80
          go_wp2_with fail
          go_loop [4, 5] (fun z i => ∃ k : Nat, k ≤ s.length ∧ i = .int .i64 k ∧ z = .int .u64 (numI g (s.take k) % 18446744073709551616)) (fun _ i => s.length - (intOf i).toNat)
          case atStart => exact ⟨0, Nat.zero_le _, rfl, by rw [show numI g (s.take 0) = g from rfl, ← HGO.out]; first | done | rfl | (rw [u64_of]; rfl)⟩
          case round =>
            obtain ⟨k, hk, rfl, rfl⟩ := hrel
            by_cases hlt : k < s.length
            · have hx := str_getD s k hlt (by rw [hsz]; exact hlt)
              have hs : numI g (s.take (k + 1)) = numI g (s.take k) * 256 + (s.getD k 0).toNat := by rw [take_next hlt, numI_snoc]
              obtain ⟨y, hy⟩ : ∃ y, y = s.getD k 0 := ⟨_, rfl⟩
              obtain ⟨A, hA⟩ : ∃ A, A = numI g (s.take k) % 18446744073709551616 := ⟨_, rfl⟩
              obtain ⟨M, hM⟩ : ∃ A, A = A * 256 % 18446744073709551616 := ⟨0, rfl⟩
              have hyl := y.toNat_lt
              rw [← hy] at hx hs
              obtain ⟨B, hB⟩ : ∃ B, B = A * 256 % 18446744073709551616 := ⟨_, rfl⟩
              have hw1 : IntKind.u64.wrap (A * 256) = B := by rw [u64_of, hB]
              have hw2 : IntKind.u64.wrap (y.toNat : Int) = (y.toNat : Int) := by rw [u64_of]; omega
              have hw3 : IntKind.u64.wrap (B + (y.toNat : Int)) = numI g (s.take (k + 1)) % 18446744073709551616 := by rw [u64_of, hs]; omega
              obtain ⟨C, hC⟩ : ∃ C, C = numI g (s.take (k + 1)) % 18446744073709551616 := ⟨_, rfl⟩
              rw [← hC] at hw3
              have HC := Lib.hid hC
              have hlt' : (k : Int) < (s.length : Int) := by omega
              rw [← hA]
              have hxg : (str s)[k]'(by rw [hsz]; exact hlt) = y := hx
              clear hs hC hB hA hM hy hx HG HGO
              go_wp2_with fail
              go_round
              case rel => exact ⟨k + 1, by omega, by go_num, by rw [← HC.out]⟩
              case measure => simp [intOf]; omega
            · obtain rfl : k = s.length := by omega
              have hfin : IntKind.i64.wrap (numI g (s.take s.length) % 18446744073709551616) = valL s := by
                rw [List.take_length, HG.out, IntKind.wrap_i64]; have := HVB.out; omega
              obtain ⟨Z, hZ⟩ : ∃ Z, Z = numI g (s.take s.length) % 18446744073709551616 := ⟨_, rfl⟩
              rw [← hZ] at hfin ⊢
              clear hZ HG HGO
              go_wp2_with fail
              go_ret2
              rw [HOK.out.1, HOK.out.2]
              exact ⟨rfl, rfl⟩

    · have HER := Lib.hid (show readN s = 0 ∧ okN (readB s) = 4 by
        have : readB s = false := by unfold readB; rw [decide_eq_false (by omega)]; rfl
        unfold readN okN; rw [this]; exact ⟨rfl, rfl⟩)
      have h8' : decide (8 < (s.length : Int)) = true := by rw [decide_eq_true_eq]; omega
      clear h0
      go_enter Tryz.func80, Tryz.ntmps80
      go_wp2_with fail
      go_ret2
      rw [HER.out.1, HER.out.2]
      exact ⟨rfl, rfl⟩
end Go.Proofs.YtnaoandleelbkaaGreatDoor
