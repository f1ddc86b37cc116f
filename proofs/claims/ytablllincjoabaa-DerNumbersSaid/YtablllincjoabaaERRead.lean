/-
  The reference's ReadInt.
-/
import Derived.Test.YtablllincjoabaaERInt
namespace Go.Proofs.Ytablllincjoabaa
set_option linter.unusedSimpArgs false
set_option linter.unusedVariables false
open Go Go.RowKit
set_option maxRecDepth 100000

set_option maxHeartbeats 16000000 in
theorem rreadInt_any {w : World} (s : List UInt8) (hs : s.length ≤ 9223372036854775807) : Calls Try.prog 18 #[sv s] w fun e w' => e = .returned (.tuple #[.int .i64 (readN s), .int .i64 (okN (readB s))]) ∧ w = w' := by
  have hsz := str_size s
  by_cases h0 : s.length = 0
  · obtain rfl : s = [] := List.length_eq_zero_iff.1 h0
    clear h0 hs
    go_enter Try.func18, Try.ntmps18
    go_wp2_with fail
    go_ret2
    exact ⟨rfl, rfl⟩
  · have hem : s.isEmpty = false := by
      cases s with
      | nil => exact absurd rfl h0
      | cons x y => rfl
    by_cases h8 : s.length ≤ 8
    · have hlt0 : 0 < s.length := by omega
      obtain ⟨a, ha⟩ : ∃ b, b = s.getD 0 0 := ⟨_, rfl⟩
      have hx0 : (str s)[0]'(by rw [hsz]; exact hlt0) = a := by rw [str_getD s 0 hlt0, ha]
      have HRB := Lib.hid (show (minB s = true → readN s = valL s ∧ okN (readB s) = 0) ∧ (minB s = false → readN s = 0 ∧ okN (readB s) = 4) by
        have hr := readB_iff s
        rw [decide_eq_true (show 0 < s.length ∧ s.length ≤ 8 by omega), Bool.true_and] at hr
        constructor
        · intro h; rw [h] at hr; unfold readN okN; rw [hr]; exact ⟨rfl, rfl⟩
        · intro h; rw [h] at hr; unfold readN okN; rw [hr]; exact ⟨rfl, rfl⟩)
      have HVB := Lib.hid (show -9223372036854775808 ≤ valL s ∧ valL s < 9223372036854775808 by
        cases s with
        | nil => exact absurd rfl h0
        | cons b l => exact fits7 (fits_mono (valL_fits b l) (by simp at h8; omega)))
      have HNV := Lib.hid (show ∀ g : Int, g * 256 + a.toNat = sgn a → numI g s = valL s by
        intro g hg
        cases s with
        | nil => exact absurd rfl h0
        | cons b l =>
          have hab : a = b := ha
          rw [hab] at hg
          show numI (g * 256 + b.toNat) l = numI (sgn b) l
          rw [hg])
      have h8' : decide (8 < (s.length : Int)) = false := by rw [decide_eq_false_iff_not]; omega
      clear h0 hs
      by_cases h1 : 1 < s.length
      · obtain ⟨b, hb⟩ : ∃ b, b = s.getD 1 0 := ⟨_, rfl⟩
        have hx1 : (str s)[1]'(by rw [hsz]; exact h1) = b := by rw [str_getD s 1 h1, hb]
        have hmin : minB s = !((a == 0 && decide (b.toNat < 128)) || (a == 255 && decide (128 ≤ b.toNat))) := by
          match s, h1, ha, hb with
          | x :: y :: l, _, ha, hb => subst ha hb; rfl
        clear ha hb
        by_cases a0 : a = 0
        · subst a0
          have a2 : (0 : UInt8).toNat < 128 := by decide
          by_cases b1 : b.toNat < 128
          · 
            have HER := Lib.hid (show readN s = 0 ∧ okN (readB s) = 4 from HRB.out.2 (by rw [hmin]; simp; try omega))
            clear hmin HRB HNV HVB
            go_enter Try.func18, Try.ntmps18
            go_wp2_with fail
            go_ret2
            rw [HER.out.1, HER.out.2]
            exact ⟨rfl, rfl⟩
          · 
            have HOK := Lib.hid (show readN s = valL s ∧ okN (readB s) = 0 from HRB.out.1 (by rw [hmin]; simp; try omega))
            clear hmin HRB
            have b2 : decide ((b.toNat : Int) < 128) = false := by rw [decide_eq_false_iff_not]; omega
            obtain ⟨g, hg⟩ : ∃ g : Int, g = 0 := ⟨_, rfl⟩
            have HG := Lib.hid (show numI g s = valL s by rw [hg]; exact HNV.out (0) (by unfold sgn; first | rw [if_pos (by omega)]; omega | rw [if_neg (by omega)]; omega))
            have h00 : (0 : Int) = g % 18446744073709551616 := by rw [hg]; rfl
            have HGO := Lib.hid h00
            clear h00 hg HNV
            go_enter Try.func18, Try.ntmps18
            go_wp2_with fail
            go_loop [4, 5] (fun z i => ∃ k : Nat, k ≤ s.length ∧ i = .int .i64 k ∧ z = .int .u64 (numI g (s.take k) % 18446744073709551616)) (fun _ i => s.length - (intOf i).toNat)
            case atStart => exact ⟨0, Nat.zero_le _, rfl, by rw [show numI g (s.take 0) = g from rfl, ← HGO.out]; first | done | rfl | (rw [u64_of]; rfl)⟩
            case round =>
              obtain ⟨k, hk, rfl, rfl⟩ := hrel
              by_cases hlt : k < s.length
              · have hx := str_getD s k hlt (by rw [hsz]; exact hlt)
                have hs : numI g (s.take (k + 1)) = numI g (s.take k) * 256 + (s.getD k 0).toNat := by rw [take_next hlt, numI_snoc]
                obtain ⟨y, hy⟩ : ∃ y, y = s.getD k 0 := ⟨_, rfl⟩
                obtain ⟨A, hA⟩ : ∃ A, A = numI g (s.take k) % 18446744073709551616 := ⟨_, rfl⟩
                obtain ⟨M, hM⟩ : ∃ A, A = A * 256 % 18446744073709551616 := ⟨0, rfl⟩
                have hyl := y.toNat_lt
                rw [← hy] at hx hs
                obtain ⟨B, hB⟩ : ∃ B, B = A * 256 % 18446744073709551616 := ⟨_, rfl⟩
                have hw1 : IntKind.u64.wrap (A * 256) = B := by rw [u64_of, hB]
                have hw2 : IntKind.u64.wrap (y.toNat : Int) = (y.toNat : Int) := by rw [u64_of]; omega
                have hw3 : IntKind.u64.wrap (B + (y.toNat : Int)) = numI g (s.take (k + 1)) % 18446744073709551616 := by rw [u64_of, hs]; omega
                obtain ⟨C, hC⟩ : ∃ C, C = numI g (s.take (k + 1)) % 18446744073709551616 := ⟨_, rfl⟩
                rw [← hC] at hw3
                have HC := Lib.hid hC
                have hlt' : (k : Int) < (s.length : Int) := by omega
                rw [← hA]
                have hxg : (str s)[k]'(by rw [hsz]; exact hlt) = y := hx
                clear hs hC hB hA hM hy hx HG HGO
                go_wp2_with fail
                go_round
                case rel => exact ⟨k + 1, by omega, by go_num, by rw [← HC.out]⟩
                case measure => simp [intOf]; omega
              · obtain rfl : k = s.length := by omega
                have hfin : IntKind.i64.wrap (numI g (s.take s.length) % 18446744073709551616) = valL s := by
                  rw [List.take_length, HG.out, IntKind.wrap_i64]; have := HVB.out; omega
                obtain ⟨Z, hZ⟩ : ∃ Z, Z = numI g (s.take s.length) % 18446744073709551616 := ⟨_, rfl⟩
                rw [← hZ] at hfin ⊢
                clear hZ HG HGO
                go_wp2_with fail
                go_ret2
                rw [HOK.out.1, HOK.out.2]
                exact ⟨rfl, rfl⟩
        · by_cases a1 : a = 255
          · subst a1
            have a2 : ¬ (255 : UInt8).toNat < 128 := by decide
            by_cases b1 : b.toNat < 128
            · 
              have HOK := Lib.hid (show readN s = valL s ∧ okN (readB s) = 0 from HRB.out.1 (by rw [hmin]; simp; try omega))
              clear hmin HRB
              have b2 : decide (128 ≤ (b.toNat : Int)) = false := by rw [decide_eq_false_iff_not]; omega
              obtain ⟨g, hg⟩ : ∃ g : Int, g = -1 := ⟨_, rfl⟩
              have HG := Lib.hid (show numI g s = valL s by rw [hg]; exact HNV.out (-1) (by unfold sgn; first | rw [if_pos (by omega)]; omega | rw [if_neg (by omega)]; omega))
              have h00 : (18446744073709551615 : Int) = g % 18446744073709551616 := by rw [hg]; rfl
              have HGO := Lib.hid h00
              clear h00 hg HNV
              go_enter Try.func18, Try.ntmps18
              go_wp2_with fail
              go_loop [4, 5] (fun z i => ∃ k : Nat, k ≤ s.length ∧ i = .int .i64 k ∧ z = .int .u64 (numI g (s.take k) % 18446744073709551616)) (fun _ i => s.length - (intOf i).toNat)
              case atStart => exact ⟨0, Nat.zero_le _, rfl, by rw [show numI g (s.take 0) = g from rfl, ← HGO.out]; first | done | rfl | (rw [u64_of]; rfl)⟩
              case round =>
                obtain ⟨k, hk, rfl, rfl⟩ := hrel
                by_cases hlt : k < s.length
                · have hx := str_getD s k hlt (by rw [hsz]; exact hlt)
                  have hs : numI g (s.take (k + 1)) = numI g (s.take k) * 256 + (s.getD k 0).toNat := by rw [take_next hlt, numI_snoc]
                  obtain ⟨y, hy⟩ : ∃ y, y = s.getD k 0 := ⟨_, rfl⟩
                  obtain ⟨A, hA⟩ : ∃ A, A = numI g (s.take k) % 18446744073709551616 := ⟨_, rfl⟩
                  obtain ⟨M, hM⟩ : ∃ A, A = A * 256 % 18446744073709551616 := ⟨0, rfl⟩
                  have hyl := y.toNat_lt
                  rw [← hy] at hx hs
                  obtain ⟨B, hB⟩ : ∃ B, B = A * 256 % 18446744073709551616 := ⟨_, rfl⟩
                  have hw1 : IntKind.u64.wrap (A * 256) = B := by rw [u64_of, hB]
                  have hw2 : IntKind.u64.wrap (y.toNat : Int) = (y.toNat : Int) := by rw [u64_of]; omega
                  have hw3 : IntKind.u64.wrap (B + (y.toNat : Int)) = numI g (s.take (k + 1)) % 18446744073709551616 := by rw [u64_of, hs]; omega
                  obtain ⟨C, hC⟩ : ∃ C, C = numI g (s.take (k + 1)) % 18446744073709551616 := ⟨_, rfl⟩
                  rw [← hC] at hw3
                  have HC := Lib.hid hC
                  have hlt' : (k : Int) < (s.length : Int) := by omega
                  rw [← hA]
                  have hxg : (str s)[k]'(by rw [hsz]; exact hlt) = y := hx
                  clear hs hC hB hA hM hy hx HG HGO
                  go_wp2_with fail
                  go_round
                  case rel => exact ⟨k + 1, by omega, by go_num, by rw [← HC.out]⟩
                  case measure => simp [intOf]; omega
                · obtain rfl : k = s.length := by omega
                  have hfin : IntKind.i64.wrap (numI g (s.take s.length) % 18446744073709551616) = valL s := by
                    rw [List.take_length, HG.out, IntKind.wrap_i64]; have := HVB.out; omega
                  obtain ⟨Z, hZ⟩ : ∃ Z, Z = numI g (s.take s.length) % 18446744073709551616 := ⟨_, rfl⟩
                  rw [← hZ] at hfin ⊢
                  clear hZ HG HGO
                  go_wp2_with fail
                  go_ret2
                  rw [HOK.out.1, HOK.out.2]
                  exact ⟨rfl, rfl⟩
            · 
              have b2 : decide ((128 : Int) ≤ (b.toNat : Int)) = true := by rw [decide_eq_true_eq]; omega
              have HER := Lib.hid (show readN s = 0 ∧ okN (readB s) = 4 from HRB.out.2 (by rw [hmin]; simp; try omega))
              clear hmin HRB HNV HVB
              go_enter Try.func18, Try.ntmps18
              go_wp2_with fail
              go_ret2
              rw [HER.out.1, HER.out.2]
              exact ⟨rfl, rfl⟩
          · have n1 : ((a.toNat : Int) == 0) = false := by rw [beq_eq_false_iff_ne]; intro e; exact a0 (UInt8.toNat_inj.1 (show a.toNat = 0 by omega))
            have n2 : ((a.toNat : Int) == 255) = false := by rw [beq_eq_false_iff_ne]; intro e; exact a1 (UInt8.toNat_inj.1 (show a.toNat = 255 by omega))
            have HOK := Lib.hid (show readN s = valL s ∧ okN (readB s) = 0 from HRB.out.1 (by rw [hmin]; simp [a0, a1]))
            clear hmin HRB a0 a1
            by_cases a2 : a.toNat < 128
            ·
              obtain ⟨g, hg⟩ : ∃ g : Int, g = 0 := ⟨_, rfl⟩
              have HG := Lib.hid (show numI g s = valL s by rw [hg]; exact HNV.out (0) (by unfold sgn; first | rw [if_pos (by omega)]; omega | rw [if_neg (by omega)]; omega))
              have h00 : (0 : Int) = g % 18446744073709551616 := by rw [hg]; rfl
              have HGO := Lib.hid h00
              clear h00 hg HNV
              go_enter Try.func18, Try.ntmps18
              go_wp2_with fail
              go_loop [4, 5] (fun z i => ∃ k : Nat, k ≤ s.length ∧ i = .int .i64 k ∧ z = .int .u64 (numI g (s.take k) % 18446744073709551616)) (fun _ i => s.length - (intOf i).toNat)
              case atStart => exact ⟨0, Nat.zero_le _, rfl, by rw [show numI g (s.take 0) = g from rfl, ← HGO.out]; first | done | rfl | (rw [u64_of]; rfl)⟩
              case round =>
                obtain ⟨k, hk, rfl, rfl⟩ := hrel
                by_cases hlt : k < s.length
                · have hx := str_getD s k hlt (by rw [hsz]; exact hlt)
                  have hs : numI g (s.take (k + 1)) = numI g (s.take k) * 256 + (s.getD k 0).toNat := by rw [take_next hlt, numI_snoc]
                  obtain ⟨y, hy⟩ : ∃ y, y = s.getD k 0 := ⟨_, rfl⟩
                  obtain ⟨A, hA⟩ : ∃ A, A = numI g (s.take k) % 18446744073709551616 := ⟨_, rfl⟩
                  obtain ⟨M, hM⟩ : ∃ A, A = A * 256 % 18446744073709551616 := ⟨0, rfl⟩
                  have hyl := y.toNat_lt
                  rw [← hy] at hx hs
                  obtain ⟨B, hB⟩ : ∃ B, B = A * 256 % 18446744073709551616 := ⟨_, rfl⟩
                  have hw1 : IntKind.u64.wrap (A * 256) = B := by rw [u64_of, hB]
                  have hw2 : IntKind.u64.wrap (y.toNat : Int) = (y.toNat : Int) := by rw [u64_of]; omega
                  have hw3 : IntKind.u64.wrap (B + (y.toNat : Int)) = numI g (s.take (k + 1)) % 18446744073709551616 := by rw [u64_of, hs]; omega
                  obtain ⟨C, hC⟩ : ∃ C, C = numI g (s.take (k + 1)) % 18446744073709551616 := ⟨_, rfl⟩
                  rw [← hC] at hw3
                  have HC := Lib.hid hC
                  have hlt' : (k : Int) < (s.length : Int) := by omega
                  rw [← hA]
                  have hxg : (str s)[k]'(by rw [hsz]; exact hlt) = y := hx
                  clear hs hC hB hA hM hy hx HG HGO
                  go_wp2_with fail
                  go_round
                  case rel => exact ⟨k + 1, by omega, by go_num, by rw [← HC.out]⟩
                  case measure => simp [intOf]; omega
                · obtain rfl : k = s.length := by omega
                  have hfin : IntKind.i64.wrap (numI g (s.take s.length) % 18446744073709551616) = valL s := by
                    rw [List.take_length, HG.out, IntKind.wrap_i64]; have := HVB.out; omega
                  obtain ⟨Z, hZ⟩ : ∃ Z, Z = numI g (s.take s.length) % 18446744073709551616 := ⟨_, rfl⟩
                  rw [← hZ] at hfin ⊢
                  clear hZ HG HGO
                  go_wp2_with fail
                  go_ret2
                  rw [HOK.out.1, HOK.out.2]
                  exact ⟨rfl, rfl⟩
            ·
              obtain ⟨g, hg⟩ : ∃ g : Int, g = -1 := ⟨_, rfl⟩
              have HG := Lib.hid (show numI g s = valL s by rw [hg]; exact HNV.out (-1) (by unfold sgn; first | rw [if_pos (by omega)]; omega | rw [if_neg (by omega)]; omega))
              have h00 : (18446744073709551615 : Int) = g % 18446744073709551616 := by rw [hg]; rfl
              have HGO := Lib.hid h00
              clear h00 hg HNV
              go_enter Try.func18, Try.ntmps18
              go_wp2_with fail
              go_loop [4, 5] (fun z i => ∃ k : Nat, k ≤ s.length ∧ i = .int .i64 k ∧ z = .int .u64 (numI g (s.take k) % 18446744073709551616)) (fun _ i => s.length - (intOf i).toNat)
              case atStart => exact ⟨0, Nat.zero_le _, rfl, by rw [show numI g (s.take 0) = g from rfl, ← HGO.out]; first | done | rfl | (rw [u64_of]; rfl)⟩
              case round =>
                obtain ⟨k, hk, rfl, rfl⟩ := hrel
                by_cases hlt : k < s.length
                · have hx := str_getD s k hlt (by rw [hsz]; exact hlt)
                  have hs : numI g (s.take (k + 1)) = numI g (s.take k) * 256 + (s.getD k 0).toNat := by rw [take_next hlt, numI_snoc]
                  obtain ⟨y, hy⟩ : ∃ y, y = s.getD k 0 := ⟨_, rfl⟩
                  obtain ⟨A, hA⟩ : ∃ A, A = numI g (s.take k) % 18446744073709551616 := ⟨_, rfl⟩
                  obtain ⟨M, hM⟩ : ∃ A, A = A * 256 % 18446744073709551616 := ⟨0, rfl⟩
                  have hyl := y.toNat_lt
                  rw [← hy] at hx hs
                  obtain ⟨B, hB⟩ : ∃ B, B = A * 256 % 18446744073709551616 := ⟨_, rfl⟩
                  have hw1 : IntKind.u64.wrap (A * 256) = B := by rw [u64_of, hB]
                  have hw2 : IntKind.u64.wrap (y.toNat : Int) = (y.toNat : Int) := by rw [u64_of]; omega
                  have hw3 : IntKind.u64.wrap (B + (y.toNat : Int)) = numI g (s.take (k + 1)) % 18446744073709551616 := by rw [u64_of, hs]; omega
                  obtain ⟨C, hC⟩ : ∃ C, C = numI g (s.take (k + 1)) % 18446744073709551616 := ⟨_, rfl⟩
                  rw [← hC] at hw3
                  have HC := Lib.hid hC
                  have hlt' : (k : Int) < (s.length : Int) := by omega
                  rw [← hA]
                  have hxg : (str s)[k]'(by rw [hsz]; exact hlt) = y := hx
                  clear hs hC hB hA hM hy hx HG HGO
                  go_wp2_with fail
                  go_round
                  case rel => exact ⟨k + 1, by omega, by go_num, by rw [← HC.out]⟩
                  case measure => simp [intOf]; omega
                · obtain rfl : k = s.length := by omega
                  have hfin : IntKind.i64.wrap (numI g (s.take s.length) % 18446744073709551616) = valL s := by
                    rw [List.take_length, HG.out, IntKind.wrap_i64]; have := HVB.out; omega
                  obtain ⟨Z, hZ⟩ : ∃ Z, Z = numI g (s.take s.length) % 18446744073709551616 := ⟨_, rfl⟩
                  rw [← hZ] at hfin ⊢
                  clear hZ HG HGO
                  go_wp2_with fail
                  go_ret2
                  rw [HOK.out.1, HOK.out.2]
                  exact ⟨rfl, rfl⟩
      · have hmin : minB s = true := by
          match s, h1 with
          | [], _ => rfl
          | [_], _ => rfl
          | _ :: _ :: _, h1 => simp at h1
        have HOK := Lib.hid (show readN s = valL s ∧ okN (readB s) = 0 from HRB.out.1 hmin)
        clear hmin HRB ha
        by_cases a2 : a.toNat < 128
        ·
          obtain ⟨g, hg⟩ : ∃ g : Int, g = 0 := ⟨_, rfl⟩
          have HG := Lib.hid (show numI g s = valL s by rw [hg]; exact HNV.out (0) (by unfold sgn; first | rw [if_pos (by omega)]; omega | rw [if_neg (by omega)]; omega))
          have h00 : (0 : Int) = g % 18446744073709551616 := by rw [hg]; rfl
          have HGO := Lib.hid h00
          clear h00 hg HNV
          go_enter Try.func18, Try.ntmps18
          go_wp2_with fail
          go_loop [4, 5] (fun z i => ∃ k : Nat, k ≤ s.length ∧ i = .int .i64 k ∧ z = .int .u64 (numI g (s.take k) % 18446744073709551616)) (fun _ i => s.length - (intOf i).toNat)
          case atStart => exact ⟨0, Nat.zero_le _, rfl, by rw [show numI g (s.take 0) = g from rfl, ← HGO.out]; first | done | rfl | (rw [u64_of]; rfl)⟩
          case round =>
            obtain ⟨k, hk, rfl, rfl⟩ := hrel
            by_cases hlt : k < s.length
            · have hx := str_getD s k hlt (by rw [hsz]; exact hlt)
              have hs : numI g (s.take (k + 1)) = numI g (s.take k) * 256 + (s.getD k 0).toNat := by rw [take_next hlt, numI_snoc]
              obtain ⟨y, hy⟩ : ∃ y, y = s.getD k 0 := ⟨_, rfl⟩
              obtain ⟨A, hA⟩ : ∃ A, A = numI g (s.take k) % 18446744073709551616 := ⟨_, rfl⟩
              obtain ⟨M, hM⟩ : ∃ A, A = A * 256 % 18446744073709551616 := ⟨0, rfl⟩
              have hyl := y.toNat_lt
              rw [← hy] at hx hs
              obtain ⟨B, hB⟩ : ∃ B, B = A * 256 % 18446744073709551616 := ⟨_, rfl⟩
              have hw1 : IntKind.u64.wrap (A * 256) = B := by rw [u64_of, hB]
              have hw2 : IntKind.u64.wrap (y.toNat : Int) = (y.toNat : Int) := by rw [u64_of]; omega
              have hw3 : IntKind.u64.wrap (B + (y.toNat : Int)) = numI g (s.take (k + 1)) % 18446744073709551616 := by rw [u64_of, hs]; omega
              obtain ⟨C, hC⟩ : ∃ C, C = numI g (s.take (k + 1)) % 18446744073709551616 := ⟨_, rfl⟩
              rw [← hC] at hw3
              have HC := Lib.hid hC
              have hlt' : (k : Int) < (s.length : Int) := by omega
              rw [← hA]
              have hxg : (str s)[k]'(by rw [hsz]; exact hlt) = y := hx
              clear hs hC hB hA hM hy hx HG HGO
              go_wp2_with fail
              go_round
              case rel => exact ⟨k + 1, by omega, by go_num, by rw [← HC.out]⟩
              case measure => simp [intOf]; omega
            · obtain rfl : k = s.length := by omega
              have hfin : IntKind.i64.wrap (numI g (s.take s.length) % 18446744073709551616) = valL s := by
                rw [List.take_length, HG.out, IntKind.wrap_i64]; have := HVB.out; omega
              obtain ⟨Z, hZ⟩ : ∃ Z, Z = numI g (s.take s.length) % 18446744073709551616 := ⟨_, rfl⟩
              rw [← hZ] at hfin ⊢
              clear hZ HG HGO
              go_wp2_with fail
              go_ret2
              rw [HOK.out.1, HOK.out.2]
              exact ⟨rfl, rfl⟩
        ·
          obtain ⟨g, hg⟩ : ∃ g : Int, g = -1 := ⟨_, rfl⟩
          have HG := Lib.hid (show numI g s = valL s by rw [hg]; exact HNV.out (-1) (by unfold sgn; first | rw [if_pos (by omega)]; omega | rw [if_neg (by omega)]; omega))
          have h00 : (18446744073709551615 : Int) = g % 18446744073709551616 := by rw [hg]; rfl
          have HGO := Lib.hid h00
          clear h00 hg HNV
          go_enter Try.func18, Try.ntmps18
          go_wp2_with fail
          go_loop [4, 5] (fun z i => ∃ k : Nat, k ≤ s.length ∧ i = .int .i64 k ∧ z = .int .u64 (numI g (s.take k) % 18446744073709551616)) (fun _ i => s.length - (intOf i).toNat)
          case atStart => exact ⟨0, Nat.zero_le _, rfl, by rw [show numI g (s.take 0) = g from rfl, ← HGO.out]; first | done | rfl | (rw [u64_of]; rfl)⟩
          case round =>
            obtain ⟨k, hk, rfl, rfl⟩ := hrel
            by_cases hlt : k < s.length
            · have hx := str_getD s k hlt (by rw [hsz]; exact hlt)
              have hs : numI g (s.take (k + 1)) = numI g (s.take k) * 256 + (s.getD k 0).toNat := by rw [take_next hlt, numI_snoc]
              obtain ⟨y, hy⟩ : ∃ y, y = s.getD k 0 := ⟨_, rfl⟩
              obtain ⟨A, hA⟩ : ∃ A, A = numI g (s.take k) % 18446744073709551616 := ⟨_, rfl⟩
              obtain ⟨M, hM⟩ : ∃ A, A = A * 256 % 18446744073709551616 := ⟨0, rfl⟩
              have hyl := y.toNat_lt
              rw [← hy] at hx hs
              obtain ⟨B, hB⟩ : ∃ B, B = A * 256 % 18446744073709551616 := ⟨_, rfl⟩
              have hw1 : IntKind.u64.wrap (A * 256) = B := by rw [u64_of, hB]
              have hw2 : IntKind.u64.wrap (y.toNat : Int) = (y.toNat : Int) := by rw [u64_of]; omega
              have hw3 : IntKind.u64.wrap (B + (y.toNat : Int)) = numI g (s.take (k + 1)) % 18446744073709551616 := by rw [u64_of, hs]; omega
              obtain ⟨C, hC⟩ : ∃ C, C = numI g (s.take (k + 1)) % 18446744073709551616 := ⟨_, rfl⟩
              rw [← hC] at hw3
              have HC := Lib.hid hC
              have hlt' : (k : Int) < (s.length : Int) := by omega
              rw [← hA]
              have hxg : (str s)[k]'(by rw [hsz]; exact hlt) = y := hx
              clear hs hC hB hA hM hy hx HG HGO
              go_wp2_with fail
              go_round
              case rel => exact ⟨k + 1, by omega, by go_num, by rw [← HC.out]⟩
              case measure => simp [intOf]; omega
            · obtain rfl : k = s.length := by omega
              have hfin : IntKind.i64.wrap (numI g (s.take s.length) % 18446744073709551616) = valL s := by
                rw [List.take_length, HG.out, IntKind.wrap_i64]; have := HVB.out; omega
              obtain ⟨Z, hZ⟩ : ∃ Z, Z = numI g (s.take s.length) % 18446744073709551616 := ⟨_, rfl⟩
              rw [← hZ] at hfin ⊢
              clear hZ HG HGO
              go_wp2_with fail
              go_ret2
              rw [HOK.out.1, HOK.out.2]
              exact ⟨rfl, rfl⟩

    · have HER := Lib.hid (show readN s = 0 ∧ okN (readB s) = 4 by
        have : readB s = false := by unfold readB; rw [decide_eq_false (by omega)]; rfl
        unfold readN okN; rw [this]; exact ⟨rfl, rfl⟩)
      have h8' : decide (8 < (s.length : Int)) = true := by rw [decide_eq_true_eq]; omega
      clear h0
      go_enter Try.func18, Try.ntmps18
      go_wp2_with fail
      go_ret2
      rw [HER.out.1, HER.out.2]
      exact ⟨rfl, rfl⟩
end Go.Proofs.Ytablllincjoabaa
