/-
  The contract of the reference's Unbase64.
-/
import Derived.Test.YtdniojbplakeoaaDoorRBase
import Derived.Test.YtdniojbplakeoaaDoorRUnhex
namespace Go.Proofs.YtdniojbplakeoaaDoor
open Go Go.RowKit
set_option maxRecDepth 100000

/-- The bits of the letters of a text. -/
def lbits (s : List UInt8) : List Bool := bitsK 6 (idx letters (s.filter fun c => decide (0 ≤ Lib.indexByte letters c)))
theorem lbits_take_in {s : List UInt8} {j : Nat} (h : j < s.length) (hp : 0 ≤ Lib.indexByte letters (s.getD j 0)) : lbits (s.take (j + 1)) = lbits (s.take j) ++ bitsN 6 (Lib.indexByte letters (s.getD j 0)).toNat := by
  unfold lbits
  rw [List.take_succ_eq_append_getElem h, List.filter_append, idx_append, bitsK_append, ← getD_str s j h]
  congr 1
  rw [List.filter_cons_of_pos (by simpa using hp)]
  simp [idx, bitsK]
theorem lbits_take_out {s : List UInt8} {j : Nat} (h : j < s.length) (hp : Lib.indexByte letters (s.getD j 0) < 0) : lbits (s.take (j + 1)) = lbits (s.take j) := by
  unfold lbits
  rw [List.take_succ_eq_append_getElem h, List.filter_append, ← getD_str s j h, List.filter_cons_of_neg (by simpa using hp)]
  simp
theorem lbits_len (s : List UInt8) : (lbits s).length ≤ 6 * s.length := by
  unfold lbits
  rw [bitsK_length, idx_length]
  have := List.length_filter_le (fun c => decide (0 ≤ Lib.indexByte letters c)) s
  omega

theorem bit_at64 {c k : Nat} (hc : c < 256) : bits .and .i64 ((c : Int) / 2 ^ k) 1 = ((c.testBit k).toNat : Int) := by
  have e : (c : Int) / 2 ^ k = ((c / 2 ^ k : Nat) : Int) := by push_cast; rfl
  have hle : c / 2 ^ k ≤ c := Nat.div_le_self _ _
  obtain ⟨d, hd⟩ : ∃ d, d = c / 2 ^ k := ⟨_, rfl⟩
  rw [← hd] at e hle
  have := bits_mask .i64 62 (by decide) wraps_i64 1 (by decide) (d : Int) (by omega) (by omega)
  rw [e, show (1 : Int) = 2 ^ 1 - 1 from rfl, this, Nat.toNat_testBit, ← hd]
  push_cast; rfl
theorem bool_256 (b : Bool) : ((b.toNat : Int)) % 256 = b.toNat := by cases b <;> rfl

set_option maxHeartbeats 4000000 in
theorem runbase_any (s : List UInt8) (w : World) (hs : s.length ≤ 100000) : Calls Tryd.prog 23 #[.string (str s)] w fun e w' => e = .returned (resO (unb64L s)) ∧ Below w.heap.size w w' := by
  have HG := Lib.hid (show GB w (.slice none 0 0) ((lbits (s.take 0)).map bitb) w from GB.nil w)
  have HAT := Lib.hid (show ∀ (c : UInt8) (W : World), Calls Tryd.prog 41 #[.string { data := #[65, 66, 67, 68, 69, 70, 71, 72, 73, 74, 75, 76, 77, 78, 79, 80, 81, 82, 83, 84, 85, 86, 87, 88, 89, 90, 97, 98, 99, 100, 101, 102, 103, 104, 105, 106, 107, 108, 109, 110, 111, 112, 113, 114, 115, 116, 117, 118, 119, 120, 121, 122, 48, 49, 50, 51, 52, 53, 54, 55, 56, 57, 43, 47] }, .int .u8 (c.toNat : Int)] W fun e w' => e = .returned (.int .i64 (Lib.indexByte letters c)) ∧ W = w' from fun c W => at_any letters c W (by decide))
  go_enter Tryd.func23, Tryd.ntmps23
  go_wp2_with fail
  go_loopw [4, 5] (fun v i wr => ∃ j : Nat, j ≤ s.length ∧ i = .int .i64 j ∧ GB w v ((lbits (s.take j)).map bitb) wr) (fun _ i _ => s.length - (intOf i).toNat)
  case atStart => exact ⟨0, Nat.zero_le _, rfl, HG.out⟩
  case round =>
    obtain ⟨j, hj, rfl, hg⟩ := hrel
    obtain ⟨A, cp, rfl⟩ := hg.form
    rw [List.length_map] at hg ⊢
    have HGj := Lib.hid hg
    clear hg
    have hll : ((lbits (s.take j)).map bitb).length ≤ 1000000 := by have := lbits_len (s.take j); rw [List.length_take] at this; rw [List.length_map]; omega
    by_cases hlt : j < s.length
    · obtain ⟨c, hc⟩ : ∃ c, c = s.getD j 0 := ⟨_, rfl⟩
      have hcs : ((str s)[j]'(by simpa [ByteArray.size] using hlt)) = c := by rw [str_getD s j hlt, hc]
      obtain ⟨T, hT⟩ : ∃ T, T = lbits (s.take (j + 1)) := ⟨_, rfl⟩
      have hTl : T.length ≤ 1000000 := by have := lbits_len (s.take (j + 1)); rw [List.length_take] at this; rw [hT]; omega
      have HA := Lib.hid (fun W => HAT.out c W)
      have hi1 := indexByte_lt letters c
      rw [show letters.length = 64 from rfl] at hi1
      have HTT := Lib.hid hT
      by_cases hneg : Lib.indexByte letters c < 0
      · have HT := Lib.hid (show T = lbits (s.take j) by rw [hT, lbits_take_out hlt (by rw [← hc]; exact hneg)])
        have hge := Lib.indexByte_ge letters c
        obtain ⟨p, hp⟩ : ∃ p, p = Lib.indexByte letters c := ⟨_, rfl⟩
        rw [← hp] at HA hneg hi1 hge
        clear hc hT hp
        go_wp2_with fail
        refine (HA.out _).mono ?_
        rintro e w' ⟨rfl, rfl⟩
        have hd : decide (0 ≤ p) = false := decide_eq_false (by omega)
        clear hcs
        go_wp2_with fail
        go_loop [4, 7] (fun v k => v = .slice A (lbits (s.take j)).length cp ∧ k = .int .i64 5) (fun _ _ => 0)
        case atStart => exact ⟨rfl, rfl⟩
        case round =>
          obtain ⟨rfl, rfl⟩ := hrel
          go_wp2
          go_roundw
          case rel => exact ⟨j + 1, by omega, by go_num, by rw [← HTT.out, HT.out]; exact HGj.out⟩
          case measure => simp [intOf]; omega
      · have HT := Lib.hid (show T = lbits (s.take j) ++ bitsN 6 (Lib.indexByte letters c).toNat by rw [hT, hc, lbits_take_in hlt (by rw [← hc]; omega)])
        obtain ⟨p, hp⟩ : ∃ p : Nat, Lib.indexByte letters c = p := ⟨(Lib.indexByte letters c).toNat, by omega⟩
        rw [hp] at HA hi1 HT
        have hp64 : p < 64 := by omega
        rw [Int.toNat_natCast] at HT
        clear hc hT hp hneg hi1
        go_wp2_with fail
        refine (HA.out _).mono ?_
        rintro e w' ⟨rfl, rfl⟩
        clear hcs
        go_wp2_with fail
        go_loopw [4, 7] (fun v k wr => ∃ (B : List Bool) (k1 : Nat), k1 ≤ 6 ∧ k = .int .i64 ((k1 : Int) - 1) ∧ GB w v (B.map bitb) wr ∧ B ++ bitsN k1 p = T) (fun _ k _ => (intOf k + 1).toNat)
        case atStart => exact ⟨_, 6, by omega, rfl, HGj.out, HT.out.symm⟩
        case round =>
          obtain ⟨B, k1, hk1, rfl, hg, hB⟩ := hrel
          obtain ⟨A, cp, rfl⟩ := hg.form
          have hbl : (B.map bitb).length ≤ 1000000 := by have := congrArg List.length hB; rw [List.length_append] at this; rw [List.length_map]; omega
          have HGB := Lib.hid hg
          have HB := Lib.hid hB
          clear hg hB
          rcases k1 with _ | k
          · have hBT : B = T := by have := HB.out; simpa [bitsN] using this
            subst hBT
            go_wp2
            go_roundw
            case rel => exact ⟨j + 1, by omega, by go_num, by rw [← HTT.out]; exact HGB.out⟩
            case measure => simp [intOf]; omega
          · have hk7 : k ≤ 5 := by omega
            have e1 : ((k + 1 : Nat) : Int) - 1 = (k : Int) := by omega
            rw [e1]
            go_wp2_with (first | (at_builtin; refine gb_append HGB.out (by omega) [bitb (p.testBit k)] _ ?hC ⟨by simp, by simp⟩ (.tmp 30) (.tmp 37) rfl rfl rfl _ rfl ?_; rotate_left; intro g cap w' hg) | fail)
            case hC => simp [bv, bitb_nat, bit_at64 (show p < 256 by omega), bool_256]
            · refine ⟨⟨B ++ [p.testBit k], k, by omega, rfl, ?_, ?_⟩, ?_⟩
              · rw [List.length_map] at hg; rw [List.map_append]; exact hg
              · rw [← HB.out, bitsN, List.append_assoc]; rfl
              · simp [intOf]
    · obtain rfl : j = s.length := by omega
      rw [List.take_of_length_le (Nat.le_refl _)] at HGj hll ⊢
      have HRF := Lib.hid (unb64_ref s)
      have HXL := lbits_len s
      have HUR := Lib.hid (show bytesOf (lbits s) = unb64R s from rfl)
      obtain ⟨B, hB0⟩ : ∃ B, B = lbits s := ⟨_, rfl⟩
      rw [← hB0] at HGj hll HXL HUR ⊢
      have hBb : B.length ≤ 600000 := by omega
      rw [List.length_map] at hll
      clear hB0 hll HXL
      go_wp2_with fail
      obtain ⟨wB, hwB⟩ : ∃ wB, wB = wr := ⟨_, rfl⟩
      rw [← hwB] at HGj ⊢
      have HBB := Lib.hid HGj.out.below
      have HA := Lib.hid (show 0 < B.length → ∃ g, A = some ⟨g, 0, none⟩ ∧ ∀ W, Below wB.heap.size wB W → ∀ j, j < B.length → W.cell? ⟨g, j, none⟩ = some (.int .u8 ((B.getD j false).toNat : Int)) from fun hpos => by
        obtain ⟨g, hA, _⟩ := bit_cell HGj.out (Below.refl _ _) hpos
        refine ⟨g, hA, fun W hW => ?_⟩
        obtain ⟨g', hA', hc⟩ := bit_cell HGj.out hW hpos
        obtain rfl : g = g' := by rw [hA] at hA'; simpa using hA'
        exact hc)
      clear hwB HG HGj HAT
      go_loopw [8, 9] (fun vo i wr => ∃ j q : Nat, j ≤ B.length ∧ j = 8 * q ∧ i = .int .i64 j ∧ GB wB vo ((emitN 8 q B).map UInt8.ofNat) wr) (fun _ i _ => B.length - (intOf i).toNat)
      case atStart => exact ⟨0, 0, Nat.zero_le _, rfl, rfl, GB.nil wB⟩
      case round =>
        obtain ⟨j, q, hj, hjq, rfl, hg⟩ := hrel
        obtain ⟨Ao, co, rfl⟩ := hg.form
        have hlo : ((emitN 8 q B).map UInt8.ofNat).length = q := by rw [List.length_map, emitN_length]
        rw [hlo] at hg ⊢
        have HGo := Lib.hid hg
        clear hg hlo
        by_cases hlt : j + 8 ≤ B.length
        · obtain ⟨g, rfl, hcell⟩ := HA.out (by omega)
          have HC := Lib.hid (hcell wr HGo.out.below)
          have HQ := Lib.hid hjq
          clear hcell hjq
          go_wp2_with fail
          go_loop [10, 11] (fun n k => ∃ k1 : Nat, k1 ≤ 8 ∧ k = .int .i64 k1 ∧ n = .int .u8 (num ((B.drop j).take k1) : Nat)) (fun _ k => 8 - (intOf k).toNat)
          case atStart => exact ⟨0, by omega, rfl, rfl⟩
          case round =>
            obtain ⟨k, hk, rfl, rfl⟩ := hrel
            have hnl := num_lt ((B.drop j).take k)
            by_cases hk6 : k < 8
            · have hpw : 2 ^ ((B.drop j).take k).length ≤ 2 ^ 7 := Nat.pow_le_pow_right (by decide) (by rw [List.length_take]; omega)
              have hcc := HC.out (j + k) (by omega)
              have HN := Lib.hid (show num ((B.drop j).take (k + 1)) = 2 * num ((B.drop j).take k) + (B.getD (j + k) false).toNat by rw [take_snoc hk6 hlt, num_snoc])
              obtain ⟨n, hn⟩ : ∃ n, n = num ((B.drop j).take k) := ⟨_, rfl⟩
              obtain ⟨b, hb⟩ : ∃ b, b = (B.getD (j + k) false).toNat := ⟨_, rfl⟩
              have hb1 : b ≤ 1 := by rw [hb]; cases B.getD (j + k) false <;> simp
              rw [← hn] at hnl HN ⊢
              rw [← hb] at hcc HN
              have hn127 : n ≤ 127 := by omega
              clear hn hb hnl hpw
              go_wp2
              go_round
              case rel => exact ⟨k + 1, by omega, by go_num, by rw [HN.out]; go_num⟩
              case measure => simp [intOf]; omega
            · obtain rfl : k = 8 := by omega
              have hpw : 2 ^ ((B.drop j).take 8).length ≤ 2 ^ 8 := Nat.pow_le_pow_right (by decide) (by rw [List.length_take]; omega)
              have HN := Lib.hid (show (emitN 8 (q + 1) B).map UInt8.ofNat = (emitN 8 q B).map UInt8.ofNat ++ [UInt8.ofNat (num ((B.drop j).take 8))] by
                rw [emitN_snoc, List.map_append, Nat.mul_comm, ← HQ.out]; rfl)
              obtain ⟨n, hn⟩ : ∃ n, n = num ((B.drop j).take 8) := ⟨_, rfl⟩
              rw [← hn] at HN hnl ⊢
              have hn256 : n < 256 := by omega
              have hxn : (UInt8.ofNat n).toNat = n := UInt8.toNat_ofNat_of_lt' hn256
              have hq : q ≤ 200000 := by have := HQ.out; omega
              clear hn hnl hpw hk6
              rw [show ((8 : Nat) : Int) = 8 from rfl]
              go_wp2_with (first | (at_builtin; refine gb_append HGo.out (by rw [List.length_map, emitN_length]; omega) [UInt8.ofNat n] _ ?hC ⟨by simp, by simp⟩ (.tmp 59) (.tmp 61) rfl rfl rfl _ rfl ?_; rotate_left; intro g2 cap w' hg) | fail)
              case hC => simp [bv, hxn]
              · rw [← HN.out, List.length_map] at hg
                exact ⟨⟨j + 8, q + 1, by omega, by have := HQ.out; omega, by go_num, hg⟩, by simp [intOf]; omega⟩
        · have HX := Lib.hid (show (emitN 8 q B).map UInt8.ofNat = unb64R s by
            rw [← HUR.out]; unfold bytesOf emit; congr 2; omega)
          have hXl : (unb64R s).length = q := by rw [← HX.out, List.length_map, emitN_length]
          rw [HX.out] at HGo
          have hr := gb_string HGo.out
          have HR2 := Lib.hid (fun (W : World) (h : Below wr.heap.size wr W) => gb_string (HGo.out.behind h))
          have HB := Lib.hid (HBB.out.trans (HGo.out.below.mono HBB.out.size))
          obtain ⟨x, hx⟩ : ∃ x, x = unb64R s := ⟨_, rfl⟩
          obtain ⟨y, hy⟩ : ∃ y, y = b64L x := ⟨_, rfl⟩
          rw [← hx] at hr HRF HR2 hXl
          have HXC := Lib.hid (fun (W : World) => rbase_any x W (by omega))
          rw [← hy] at HXC HRF
          clear HX HUR HA hx hy hXl HGo
          go_wp2_with fail
          refine (HXC.out _).mono ?_
          rintro e w1 ⟨rfl, hb⟩
          have hr2 := HR2.out w1 hb
          have HB2 := Lib.hid (HB.out.trans (hb.mono HB.out.size))
          clear hr hb
          by_cases hys : y = s
          · have HE := Lib.hid (show unb64L s = some x by rw [HRF.out, if_pos hys])
            rw [hys]
            clear hys
            go_wp2
            go_ret2
            rw [HE.out]
            exact ⟨rfl, HB2.out⟩
          · have HE := Lib.hid (show unb64L s = none by rw [HRF.out, if_neg hys])
            have hne : (y == s) = false := by simpa using hys
            clear hys
            go_wp2
            go_ret2
            rw [HE.out]
            exact ⟨rfl, HB2.out⟩
end Go.Proofs.YtdniojbplakeoaaDoor
