/-
  The contract of the reference's Base64.
-/
import Derived.Laws.BitsLemmas
import Derived.Test.YtdniojbplakeoaaDoorRHex
namespace Go.Proofs.YtdniojbplakeoaaDoor
open Go Go.RowKit
set_option maxRecDepth 100000

def lenS : Value → Nat | .slice _ n _ => n | _ => 0
/-- A bit, as a byte. -/
def bitb (b : Bool) : UInt8 := if b then 1 else 0
theorem bitb_nat (b : Bool) : (bitb b).toNat = b.toNat := by cases b <;> rfl

theorem bits8_take {s : List UInt8} {j : Nat} (h : j < s.length) : bits8 (s.take (j + 1)) = bits8 (s.take j) ++ bitsN 8 (s.getD j 0).toNat := by
  rw [List.take_succ_eq_append_getElem h, bits8_append, getD_str s j h]
  simp [bits8, bitsK, nats]

theorem bit_at {c k : Nat} (hc : c < 256) : bits .and .u8 ((c : Int) / 2 ^ k) 1 = ((c.testBit k).toNat : Int) := by
  have e : (c : Int) / 2 ^ k = ((c / 2 ^ k : Nat) : Int) := by push_cast; rfl
  have hle : c / 2 ^ k ≤ c := Nat.div_le_self _ _
  obtain ⟨d, hd⟩ : ∃ d, d = c / 2 ^ k := ⟨_, rfl⟩
  rw [← hd] at e hle
  have := bits_mask .u8 8 (by decide) wraps_u8 1 (by decide) (d : Int) (by omega) (by omega)
  rw [e, show (1 : Int) = 2 ^ 1 - 1 from rfl, this, Nat.toNat_testBit, ← hd]
  push_cast; rfl

theorem num_snoc (l : List Bool) (b : Bool) : num (l ++ [b]) = 2 * num l + b.toNat := by
  rw [num_append]; simp [num]; omega
theorem take_snoc {B : List Bool} {i k n : Nat} (hk : k < n) (h : i + n ≤ B.length) : (B.drop i).take (k + 1) = (B.drop i).take k ++ [B.getD (i + k) false] := by
  rw [List.take_succ_eq_append_getElem (by rw [List.length_drop]; omega), List.getElem_drop, List.getD_eq_getElem?_getD, List.getElem?_eq_getElem (by omega)]; rfl

/-- A cell of a row of bits, in a world behind. -/
theorem bit_cell {w0 w w' : World} {A : Option Addr} {n c : Nat} {B : List Bool} (h : GB w0 (.slice A n c) (B.map bitb) w) (hb : Below w.heap.size w w') (hl : 0 < B.length) :
    ∃ g, A = some ⟨g, 0, none⟩ ∧ ∀ j, j < B.length → w'.cell? ⟨g, j, none⟩ = some (.int .u8 ((B.getD j false).toNat : Int)) := by
  obtain ⟨g, rfl, _, hg, _⟩ := GV.cell h 0 (by simpa using hl)
  refine ⟨g, rfl, fun j hj => ?_⟩
  obtain ⟨g', e, _, _, hc⟩ := GV.cell h j (by simpa using hj)
  obtain rfl : g = g' := by simpa using e
  rw [World.cell?_of_block (hb.block g hg), hc]
  simp only [List.map_map, List.getElem?_map, List.getElem?_eq_getElem hj, Option.map_some, Function.comp, bv, bitb_nat]
  rw [List.getD_eq_getElem?_getD, List.getElem?_eq_getElem hj]; rfl

theorem emit_end {B : List Bool} {q : Nat} (hm : B.length % 6 = 0) (h : 6 * q = B.length) : emitN 6 q B = emit 6 B := by unfold emit; congr 1; omega

set_option maxHeartbeats 4000000 in
theorem rbase_any (s : List UInt8) (w : World) (hs : s.length ≤ 100000) : Calls Tryd.prog 21 #[.string (str s)] w fun e w' => e = .returned (sv (b64L s)) ∧ Below w.heap.size w w' := by
  have HG := Lib.hid (show GB w (.slice none 0 0) ((bits8 (s.take 0)).map bitb) w from GB.nil w)
  go_enter Tryd.func21, Tryd.ntmps21
  go_wp2_with fail
  go_loopw [3, 4] (fun v i wr => ∃ j : Nat, j ≤ s.length ∧ i = .int .i64 j ∧ GB w v ((bits8 (s.take j)).map bitb) wr) (fun _ i _ => s.length - (intOf i).toNat)
  case atStart => exact ⟨0, Nat.zero_le _, rfl, HG.out⟩
  case round =>
    obtain ⟨j, hj, rfl, hg⟩ := hrel
    obtain ⟨A, cp, rfl⟩ := hg.form
    have HGj := Lib.hid hg
    clear hg
    have hll : ((bits8 (s.take j)).map bitb).length ≤ 1000000 := by rw [List.length_map, bits8_length, List.length_take]; omega
    by_cases hlt : j < s.length
    · have HT := Lib.hid (bits8_take hlt)
      obtain ⟨c, hc⟩ : ∃ c, c = (s.getD j 0).toNat := ⟨_, rfl⟩
      have hcs : (((str s)[j]'(by simpa [ByteArray.size] using hlt)).toNat) = c := by rw [str_getD s j hlt, hc]
      have hc256 : c < 256 := by rw [hc]; exact UInt8.toNat_lt _
      rw [← hc] at HT
      obtain ⟨T, hT⟩ : ∃ T, T = bits8 (s.take (j + 1)) := ⟨_, rfl⟩
      have hTl : T.length ≤ 1000000 := by rw [hT, bits8_length, List.length_take]; omega
      rw [← hT] at HT
      have HTT := Lib.hid hT
      clear hc hT
      go_wp2_with fail
      go_loopw [3, 5] (fun v k wr => ∃ (B : List Bool) (k1 : Nat), k1 ≤ 8 ∧ k = .int .i64 ((k1 : Int) - 1) ∧ GB w v (B.map bitb) wr ∧ B ++ bitsN k1 c = T) (fun _ k _ => (intOf k + 1).toNat)
      case atStart => exact ⟨_, 8, by omega, rfl, HGj.out, HT.out.symm⟩
      case round =>
        obtain ⟨B, k1, hk1, rfl, hg, hB⟩ := hrel
        obtain ⟨A, cp, rfl⟩ := hg.form
        have hbl : (B.map bitb).length ≤ 1000000 := by have := congrArg List.length hB; rw [List.length_append] at this; rw [List.length_map]; omega
        have HGB := Lib.hid hg
        have HB := Lib.hid hB
        clear hg hB
        rcases k1 with _ | k
        · have hBT : B = T := by have := HB.out; simpa [bitsN] using this
          subst hBT
          go_wp2
          go_roundw
          case rel => exact ⟨j + 1, by omega, by go_num, by rw [← HTT.out]; exact HGB.out⟩
          case measure => simp [intOf]; omega
        · have hk7 : k ≤ 7 := by omega
          have e1 : ((k + 1 : Nat) : Int) - 1 = (k : Int) := by omega
          rw [e1]
          go_wp2_with (first | (at_builtin; refine gb_append HGB.out (by omega) [bitb (c.testBit k)] _ ?hC ⟨by simp, by simp⟩ (.tmp 20) (.tmp 28) rfl rfl rfl _ rfl ?_; rotate_left; intro g cap w' hg) | fail)
          case hC => simp [bv, bitb_nat, bit_at hc256]
          · refine ⟨⟨B ++ [c.testBit k], k, by omega, rfl, ?_, ?_⟩, ?_⟩
            · rw [List.length_map] at hg; rw [List.map_append]; exact hg
            · rw [← HB.out, bitsN, List.append_assoc]; rfl
            · simp [intOf]
    · obtain rfl : j = s.length := by omega
      rw [List.take_of_length_le (Nat.le_refl _)] at HGj hll ⊢
      obtain ⟨B0, hB0⟩ : ∃ B, B = bits8 s := ⟨_, rfl⟩
      have hl0 : B0.length ≤ 800000 := by rw [hB0, bits8_length]; omega
      rw [← hB0] at HGj hll ⊢
      have HB0 := Lib.hid hB0
      obtain ⟨p, hp⟩ : ∃ p, p = (6 - B0.length % 6) % 6 := ⟨_, rfl⟩
      clear hB0
      go_wp2_with fail
      go_loopw [3] (fun v wr => ∃ m : Nat, m ≤ p ∧ GB w v ((B0 ++ List.replicate m false).map bitb) wr) (fun v _ => B0.length + p - lenS v)
      case atStart => exact ⟨0, Nat.zero_le _, by rw [List.replicate_zero, List.append_nil]; exact HGj.out⟩
      case round =>
        obtain ⟨m, hm, hg⟩ := hrel
        obtain ⟨A, cp, rfl⟩ := hg.form
        have hbl : ((B0 ++ List.replicate m false).map bitb).length = B0.length + m := by simp
        rw [hbl] at hg ⊢
        have HGB := Lib.hid hg
        clear hg
        by_cases h6 : (B0.length + m) % 6 = 0
        · obtain rfl : m = p := by omega
          have e0 : padded 6 B0 = B0 ++ List.replicate m false := by unfold padded; rw [hp]
          obtain ⟨B, hB⟩ : ∃ B, B = B0 ++ List.replicate m false := ⟨_, rfl⟩
          rw [← hB] at HGB e0
          have hBl : B.length = B0.length + m := by rw [hB]; simp
          have hBb : B.length ≤ 800010 := by omega
          have HP := Lib.hid (show spellL 6 letters B = b64T s by rw [← e0, HB0.out]; rfl)
          rw [← hBl] at h6 ⊢
          clear hB e0 hbl hBl hp hl0 HB0
          have h6i : (B.length : Int).tmod 6 = 0 := by rw [show (B.length : Int).tmod 6 = ((B.length % 6 : Nat) : Int) from rfl, h6]; rfl
          go_wp2_with fail
          obtain ⟨wB, hwB⟩ : ∃ wB, wB = wr := ⟨_, rfl⟩
          rw [← hwB] at HGB ⊢
          have HBB := Lib.hid HGB.out.below
          have HA := Lib.hid (show 0 < B.length → ∃ g, A = some ⟨g, 0, none⟩ ∧ ∀ W, Below wB.heap.size wB W → ∀ j, j < B.length → W.cell? ⟨g, j, none⟩ = some (.int .u8 ((B.getD j false).toNat : Int)) from fun hpos => by
            obtain ⟨g, hA, _⟩ := bit_cell HGB.out (Below.refl _ _) hpos
            refine ⟨g, hA, fun W hW => ?_⟩
            obtain ⟨g', hA', hc⟩ := bit_cell HGB.out hW hpos
            obtain rfl : g = g' := by rw [hA] at hA'; simpa using hA'
            exact hc)
          clear hwB h6i HG HGj HGB
          go_loopw [6, 7] (fun vo i wr => ∃ j q : Nat, j ≤ B.length ∧ j = 6 * q ∧ i = .int .i64 j ∧ GB wB vo ((emitN 6 q B).map (letters.getD · 0)) wr) (fun _ i _ => B.length - (intOf i).toNat)
          case atStart => exact ⟨0, 0, Nat.zero_le _, rfl, rfl, GB.nil wB⟩
          case round =>
            obtain ⟨j, q, hj, hjq, rfl, hg⟩ := hrel
            obtain ⟨Ao, co, rfl⟩ := hg.form
            have hlo : ((emitN 6 q B).map (letters.getD · 0)).length = q := by rw [List.length_map, emitN_length]
            rw [hlo] at hg ⊢
            have HGo := Lib.hid hg
            clear hg hlo
            by_cases hlt : j < B.length
            · have hj6 : j + 6 ≤ B.length := by omega
              obtain ⟨g, rfl, hcell⟩ := HA.out (by omega)
              have HC := Lib.hid (hcell wr HGo.out.below)
              have HQ := Lib.hid hjq
              clear hcell hjq h6
              go_wp2_with fail
              go_loop [8, 9] (fun n k => ∃ k1 : Nat, k1 ≤ 6 ∧ k = .int .i64 k1 ∧ n = .int .i64 (num ((B.drop j).take k1) : Nat)) (fun _ k => 6 - (intOf k).toNat)
              case atStart => exact ⟨0, by omega, rfl, rfl⟩
              case round =>
                obtain ⟨k, hk, rfl, rfl⟩ := hrel
                have hnl := num_lt ((B.drop j).take k)
                have hpw : 2 ^ ((B.drop j).take k).length ≤ 2 ^ 6 := Nat.pow_le_pow_right (by decide) (by rw [List.length_take]; omega)
                by_cases hk6 : k < 6
                · have hcc := HC.out (j + k) (by omega)
                  have HN := Lib.hid (show num ((B.drop j).take (k + 1)) = 2 * num ((B.drop j).take k) + (B.getD (j + k) false).toNat by rw [take_snoc hk6 hj6, num_snoc])
                  obtain ⟨n, hn⟩ : ∃ n, n = num ((B.drop j).take k) := ⟨_, rfl⟩
                  obtain ⟨b, hb⟩ : ∃ b, b = (B.getD (j + k) false).toNat := ⟨_, rfl⟩
                  have hb1 : b ≤ 1 := by rw [hb]; cases B.getD (j + k) false <;> simp
                  rw [← hn] at hnl HN ⊢
                  rw [← hb] at hcc HN
                  have hn64 : n ≤ 64 := by omega
                  clear hn hb hnl hpw
                  go_wp2
                  go_round
                  case rel => exact ⟨k + 1, by omega, by go_num, by rw [HN.out]; go_num⟩
                  case measure => simp [intOf]; omega
                · obtain rfl : k = 6 := by omega
                  have HN := Lib.hid (show (emitN 6 (q + 1) B).map (letters.getD · 0) = (emitN 6 q B).map (letters.getD · 0) ++ [letters.getD (num ((B.drop j).take 6)) 0] by
                    rw [emitN_snoc, List.map_append, Nat.mul_comm, ← HQ.out]; rfl)
                  have hn64 : num ((B.drop j).take 6) < 64 := by
                    have h2 : 2 ^ ((B.drop j).take 6).length ≤ 2 ^ 6 := hpw
                    omega
                  obtain ⟨n, hn⟩ : ∃ n, n = num ((B.drop j).take 6) := ⟨_, rfl⟩
                  rw [← hn] at HN hn64 ⊢
                  have hp1 : ({ data := #[65, 66, 67, 68, 69, 70, 71, 72, 73, 74, 75, 76, 77, 78, 79, 80, 81, 82, 83, 84, 85, 86, 87, 88, 89, 90, 97, 98, 99, 100, 101, 102, 103, 104, 105, 106, 107, 108, 109, 110, 111, 112, 113, 114, 115, 116, 117, 118, 119, 120, 121, 122, 48, 49, 50, 51, 52, 53, 54, 55, 56, 57, 43, 47] } : ByteArray)[n]'hn64 = letters.getD n 0 := str_getD letters n hn64 hn64
                  obtain ⟨x, hx⟩ : ∃ x, x = letters.getD n 0 := ⟨_, rfl⟩
                  rw [← hx] at hp1 HN
                  have hq : q ≤ 200000 := by have := HQ.out; omega
                  clear hn hx hnl hpw hk6
                  rw [show ((6 : Nat) : Int) = 6 from rfl]
                  go_wp2_with (first | (at_builtin; refine gb_append HGo.out (by rw [List.length_map, emitN_length]; omega) [x] _ ?hC ⟨by simp, by simp⟩ (.tmp 57) (.tmp 60) rfl rfl rfl _ rfl ?_; rotate_left; intro g2 cap w' hg) | fail)
                  case hC => simp [bv]
                  · rw [← HN.out, List.length_map] at hg
                    exact ⟨⟨j + 6, q + 1, by omega, by have := HQ.out; omega, by go_num, hg⟩, by simp [intOf]; omega⟩
            · obtain rfl : j = B.length := by omega
              have HX := Lib.hid (show (emitN 6 q B).map (letters.getD · 0) = b64T s by rw [← HP.out, emit_end h6 hjq.symm]; rfl)
              have hXl : (b64T s).length = q := by rw [← HX.out, List.length_map, emitN_length]
              rw [HX.out] at HGo
              have HFL := Lib.hid (show b64L s = b64T s ++ List.replicate ((4 - q % 4) % 4) 61 by unfold b64L fill; rw [hXl])
              have hq : q ≤ 200000 := by omega
              obtain ⟨X, hX⟩ : ∃ X, X = b64T s := ⟨_, rfl⟩
              rw [← hX] at hXl HGo HFL
              obtain ⟨p2, hp2⟩ : ∃ p, p = (4 - q % 4) % 4 := ⟨_, rfl⟩
              rw [← hp2] at HFL
              clear HX HP HA hX h6 hjq
              have HST := Lib.hid (fun (W : World) (v : Value) (h : GB wB v (b64L s) W) => gb_string h)
              go_wp2_with fail
              go_loopw [6] (fun v wr => ∃ m2 : Nat, m2 ≤ p2 ∧ GB wB v (X ++ List.replicate m2 61) wr) (fun v _ => q + p2 - lenS v)
              case atStart => exact ⟨0, Nat.zero_le _, by rw [List.replicate_zero, List.append_nil]; exact HGo.out⟩
              case round =>
                obtain ⟨m2, hm2, hg⟩ := hrel
                obtain ⟨A2, c2, rfl⟩ := hg.form
                have hbl2 : (X ++ List.replicate m2 (61 : UInt8)).length = q + m2 := by simp [hXl]
                rw [hbl2] at hg ⊢
                have HG2 := Lib.hid hg
                clear hg
                by_cases h4 : (q + m2) % 4 = 0
                · obtain rfl : m2 = p2 := by omega
                  rw [← HFL.out] at HG2
                  have hr := HST.out _ _ HG2.out
                  have HBZ := Lib.hid (HBB.out.trans (HG2.out.below.mono HBB.out.size))
                  have h4i : ((q : Int) + (m2 : Int)).tmod 4 = 0 := by rw [show ((q : Int) + (m2 : Int)).tmod 4 = (((q + m2) % 4 : Nat) : Int) from rfl, h4]; rfl
                  have h4j : ((q : Int) + (m2 : Int)) % 4 = 0 := by omega
                  clear h4 hbl2 hp2
                  go_wp2
                  go_ret
                  exact ⟨rfl, HBZ.out⟩
                · have h4i : ((((q : Int) + (m2 : Int)).tmod 4) != 0) = true := by
                    rw [show ((q : Int) + (m2 : Int)).tmod 4 = (((q + m2) % 4 : Nat) : Int) from rfl]
                    rw [bne_iff_ne]; omega
                  go_wp2_with (first | (at_builtin; refine gb_append HG2.out (by omega) [61] _ ?hC ⟨by simp, by simp⟩ (.tmp 66) (.tmp 67) rfl rfl rfl _ rfl ?_; rotate_left; intro g2 cap w' hg) | fail)
                  case hC => simp [bv]
                  · rw [List.append_assoc, ← List.replicate_succ', hbl2] at hg
                    exact ⟨⟨m2 + 1, by omega, hg⟩, by simp [lenS]; omega⟩
        · have h6i : ((((B0.length : Int) + (m : Int)).tmod 6) != 0) = true := by
            rw [show ((B0.length : Int) + (m : Int)).tmod 6 = (((B0.length + m) % 6 : Nat) : Int) from rfl]
            rw [bne_iff_ne]; omega
          go_wp2_with (first | (at_builtin; refine gb_append HGB.out (by omega) [0] _ ?hC ⟨by simp, by simp⟩ (.tmp 34) (.tmp 35) rfl rfl rfl _ rfl ?_; rotate_left; intro g cap w' hg) | fail)
          case hC => simp [bv]
          · have e : ((B0 ++ List.replicate m false).map bitb) ++ [0] = (B0 ++ List.replicate (m + 1) false).map bitb := by
              rw [List.replicate_succ', ← List.append_assoc, List.map_append (l₁ := B0 ++ List.replicate m false)]; rfl
            rw [e, hbl] at hg
            exact ⟨⟨m + 1, by omega, hg⟩, by simp [lenS]; omega⟩
end Go.Proofs.YtdniojbplakeoaaDoor
