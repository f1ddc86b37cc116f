/-
  The contract of the reference's Unhex.
-/
import Derived.Test.YtdniojbplakeoaaDoorRHex
namespace Go.Proofs.YtdniojbplakeoaaDoor
open Go Go.RowKit
set_option maxRecDepth 100000

theorem unhexR_append (a b : List UInt8) (h : a.length % 2 = 0) : unhexR (a ++ b) = unhexR a ++ unhexR b := by
  match a, h with
  | [], _ => rfl
  | [x], h => simp at h
  | x :: y :: t, h =>
    have := unhexR_append t b (by simp at h; omega)
    rw [List.cons_append, List.cons_append, unhexR, unhexR, this, List.cons_append]

theorem unhexR_take {s : List UInt8} {j : Nat} (he : j % 2 = 0) (h : j + 1 < s.length) : unhexR (s.take (j + 2)) = unhexR (s.take j) ++ [toB (16 * Lib.indexByte sixteen (s.getD j 0) + Lib.indexByte sixteen (s.getD (j + 1) 0))] := by
  rw [show j + 2 = j + 1 + 1 by omega, List.take_succ_eq_append_getElem h, List.take_succ_eq_append_getElem (show j < s.length by omega), List.append_assoc, getD_str s _ h, getD_str s _ (show j < s.length by omega), unhexR_append _ _ (by rw [List.length_take]; omega)]
  rfl

theorem unhexR_end {s : List UInt8} {j : Nat} (he : j % 2 = 0) (h : ¬ j + 1 < s.length) : unhexR (s.take j) = unhexR s := by
  by_cases h0 : s.length ≤ j
  · rw [List.take_of_length_le h0]
  · have e := List.take_append_drop j s
    have hd : (s.drop j).length = 1 := by rw [List.length_drop]; omega
    obtain ⟨x, hx⟩ := List.length_eq_one_iff.1 hd
    have := unhexR_append (s.take j) (s.drop j) (by rw [List.length_take]; omega)
    rw [e, hx] at this
    rw [this]; simp [unhexR]

theorem toB_int (z : Int) : ((toB z).toNat : Int) = z % 256 := by
  unfold toB
  rw [UInt8.toNat_ofNat_of_lt' (by show (z % 256).toNat < 256; omega)]
  omega

theorem unhexR_len (s : List UInt8) : (unhexR s).length ≤ s.length := by
  match s with
  | [] => simp [unhexR]
  | [x] => simp [unhexR]
  | x :: y :: t => have := unhexR_len t; simp [unhexR]; omega

theorem str_inj {a b : List UInt8} (h : str a = str b) : a = b := by
  have := congrArg (fun x : ByteArray => x.data.toList) h
  simpa using this

set_option maxHeartbeats 4000000 in
theorem runhex_any (s : List UInt8) (w : World) (hs : s.length ≤ 100000) : Calls Tryd.prog 22 #[.string (str s)] w fun e w' => e = .returned (resO (unhexL s)) ∧ Below w.heap.size w w' := by
  have HG := Lib.hid (show GB w (.slice none 0 0) (unhexR (s.take 0)) w by rw [List.take_zero]; exact GB.nil w)
  have HS := Lib.hid (fun (W : World) (v : Value) (h : GB w v (unhexR s) W) => gb_string h)
  have HX := Lib.hid (fun (W : World) => rhex_any (unhexR s) W (by have := unhexR_len s; omega))
  have HAT := Lib.hid (show ∀ (c : UInt8) (W : World), Calls Tryd.prog 41 #[.string { data := #[48, 49, 50, 51, 52, 53, 54, 55, 56, 57, 97, 98, 99, 100, 101, 102] }, .int .u8 (c.toNat : Int)] W fun e w' => e = .returned (.int .i64 (Lib.indexByte sixteen c)) ∧ W = w' from fun c W => at_any sixteen c W (by decide))
  have HRF := Lib.hid (unhex_ref s)
  have HXL := Lib.hid (unhexR_len s)
  go_enter Tryd.func22, Tryd.ntmps22
  go_wp2_with fail
  go_loopw [4, 5] (fun v i wr => ∃ j : Nat, j ≤ s.length ∧ j % 2 = 0 ∧ i = .int .i64 j ∧ GB w v (unhexR (s.take j)) wr) (fun _ i _ => s.length - (intOf i).toNat)
  case atStart => exact ⟨0, Nat.zero_le _, rfl, rfl, HG.out⟩
  case round =>
    obtain ⟨j, hj, he, rfl, hg⟩ := hrel
    obtain ⟨A, cp, rfl⟩ := hg.form
    have hll : (unhexR (s.take j)).length ≤ 1000000 := by have := unhexR_len (s.take j); rw [List.length_take] at this; omega
    by_cases hlt : j + 1 < s.length
    · have HT := Lib.hid (unhexR_take he hlt)
      have HG2 := Lib.hid hg.drew
      obtain ⟨x, hx⟩ : ∃ x, x = unhexR (s.take j) := ⟨_, rfl⟩
      rw [← hx] at HT HG2 hll
      simp only [← hx]
      have hwr : IntKind.i64.wrap ((j : Int) + 1) = (j : Int) + 1 := IntWalk.i64_in _ (by omega)
      obtain ⟨c, hc⟩ : ∃ c, c = s.getD j 0 := ⟨_, rfl⟩
      obtain ⟨d, hd⟩ : ∃ d, d = s.getD (j + 1) 0 := ⟨_, rfl⟩
      have hj1 : j < s.length := by omega
      have hj2 : j + 1 < s.length := by omega
      have hcs : ((str s)[j]'(by simpa [ByteArray.size] using hj1)) = c := by rw [str_getD s j hj1, hc]
      have hds : ((str s)[j + 1]'(by simpa [ByteArray.size] using hj2)) = d := by rw [str_getD s (j + 1) hj2, hd]
      rw [← hc, ← hd] at HT
      have A1 := Lib.hid (fun W => HAT.out c W)
      have A2 := Lib.hid (fun W => HAT.out d W)
      have b1 := indexByte_lt sixteen c
      have b2 := indexByte_lt sixteen d
      have b3 := Lib.indexByte_ge sixteen c
      have b4 := Lib.indexByte_ge sixteen d
      rw [show sixteen.length = 16 from rfl] at b1 b2
      obtain ⟨p, hp⟩ : ∃ p, p = Lib.indexByte sixteen c := ⟨_, rfl⟩
      obtain ⟨q, hq⟩ : ∃ q, q = Lib.indexByte sixteen d := ⟨_, rfl⟩
      rw [← hp] at b1 b3 HT A1
      rw [← hq] at b2 b4 HT A2
      obtain ⟨g, cap, w3, hrun, hg3⟩ := gb_run HG2.out (by omega) [toB (16 * p + q)] #[.int .u8 ((16 * p + q) % 256)] (by simp [bv, toB_int]) ⟨by simp, by simp⟩ 1 1 rfl
      have HRUN := Lib.hid hrun
      have HG3 := Lib.hid hg3
      clear hx hc hd hp hq hrun hg3 hg
      have h0j : (0 : Int) ≤ (j : Int) + 1 := by omega
      have hw16 : IntKind.i64.wrap (16 * p) = 16 * p := IntWalk.i64_in _ (by omega)
      have hw17 : IntKind.i64.wrap (16 * p + q) = 16 * p + q := IntWalk.i64_in _ (by omega)
      go_wp2
      go_region_law (first | (go_simp; go_at_call 41; with_reducible refine (A1.out _).mono ?_; rintro e w' ⟨rfl, rfl⟩) | (go_simp; go_at_call 41; with_reducible refine (A2.out _).mono ?_; rintro e w' ⟨rfl, rfl⟩) | (refine step_app rfl (.tmp 13) (.tmp 26) 45 rfl rfl rfl HRUN.out ?_))
      all_goals
        clear hcs hds hwr h0j hw16 hw17 b1 b2 b3 b4 HS HX HAT HRF HXL A1 A2 HRUN HG HG2
        go_wp2
        go_roundw
        case rel => exact ⟨j + 2, by omega, by omega, by go_num, by rw [HT.out]; exact HG3.out⟩
        case measure => simp [intOf]; omega
    · rw [unhexR_end he hlt] at hg hll ⊢
      have hr := HS.out _ _ hg
      have HB := Lib.hid hg.below
      have HR2 := Lib.hid (fun (W : World) (h : Below wr.heap.size wr W) => HS.out _ _ (hg.behind h))
      obtain ⟨x, hx⟩ : ∃ x, x = unhexR s := ⟨_, rfl⟩
      obtain ⟨y, hy⟩ : ∃ y, y = hexL x := ⟨_, rfl⟩
      rw [← hx] at hr HX HRF HR2 hll ⊢
      rw [← hy] at HX HRF
      clear hg hx hy
      go_wp2_with fail
      refine (HX.out _).mono ?_
      rintro e w1 ⟨rfl, hb⟩
      have hr2 := HR2.out w1 hb
      have HB2 := Lib.hid (HB.out.trans (hb.mono HB.out.size))
      clear hr hb
      by_cases hys : y = s
      · have HE := Lib.hid (show unhexL s = some x by rw [HRF.out, if_pos hys])
        rw [hys]
        clear hys
        go_wp2
        go_ret2
        rw [HE.out]
        exact ⟨rfl, HB2.out⟩
      · have HE := Lib.hid (show unhexL s = none by rw [HRF.out, if_neg hys])
        have hne : (y == s) = false := by simpa using hys
        clear hys
        go_wp2
        go_ret2
        rw [HE.out]
        exact ⟨rfl, HB2.out⟩
end Go.Proofs.YtdniojbplakeoaaDoor
