/-
  Package frame's Split, once more: the row is new.
-/
import Derived.Test.YthfnncahmccgkaaGreatDoorFSplit
namespace Go.Proofs.YthfnncahmccgkaaGreatDoor
set_option linter.unusedSimpArgs false
set_option linter.unusedVariables false
open Go Go.RowKit
set_option maxRecDepth 100000

def SpPost2 (w : World) (a p : Int) (s : List UInt8) (e : Ending) (w' : World) : Prop :=
  ∃ A c, e = .returned (.tuple #[.slice A (splL a p s).length c, .int .i64 (splE a p s.length)]) ∧ Tx w' A (splL a p s) ∧ (∀ b o, A = some ⟨b, o, none⟩ → w.heap.size ≤ b) ∧ Below w.heap.size w w'
theorem SpPost2.none {w : World} {a p : Int} {s : List UInt8} {z : Int} (he : splE a p s.length = z) (hl : splL a p s = []) : SpPost2 w a p s (.returned (.tuple #[.slice none 0 0, .int .i64 z])) w := by
  subst he
  refine ⟨Option.none, 0, ?_, .inl hl, fun b o h => by simp at h, Below.refl _ _⟩
  rw [hl]; rfl
theorem SpPost2.some {w w' : World} {a p : Int} {s : List UInt8} {g n : Nat} (hg : w.heap.size ≤ g) (he : splE a p s.length = 0) (hn : (splL a p s).length = n) (h1 : n ≤ 1024) (ht : TB w' g (splL a p s)) (hb : Below w.heap.size w w') : SpPost2 w a p s (.returned (.tuple #[.slice (some ⟨g, 0, Option.none⟩) n n, .int .i64 0])) w' := by
  refine ⟨Option.some ⟨g, 0, Option.none⟩, n, ?_, ht.tx, fun b o h => ?_, hb⟩
  · rw [hn, he]
  · simp only [Option.some.injEq, Addr.mk.injEq, and_true] at h
    omega

set_option maxHeartbeats 4000000 in
theorem split2_any {w : World} (a p : Int) (s : List UInt8) (hs : s.length ≤ 140737488351232) : Calls Tryz.prog 61 #[.int .i64 a, .int .i64 p, sv s] w (SpPost2 w a p s) := by
  have MA := fun W => may_any a p W
  have MN := fun W => @many_top W (s.length : Int) (by omega) (by omega)
  rw [manyI_nat] at MN
  have hlo := manyN_lt s.length
  have hge := manyN_ge s.length
  have hxe : (str s).size = s.length := by show s.toArray.size = s.length; simp
  cases hm : mayB a p with
  | false =>
    rw [hm] at MA
    have HE := Lib.hid (show splE a p s.length = 1 by simp [splE, hm])
    have HL := Lib.hid (show splL a p s = [] by rw [splL, HE.out]; rfl)
    go_enter Tryz.func61, Tryz.ntmps61
    go_wp2_with (first | (go_at_call 78; refine (MA _).mono ?_; rintro e w9 ⟨rfl, rfl⟩) | (go_at_call 30; refine (MN _).mono ?_; rintro e w9 ⟨rfl, rfl⟩))
    go_ret2
    exact SpPost2.none HE.out HL.out
  | true =>
    rw [hm] at MA
    obtain ⟨n, q, rfl, rfl, h1, h2, h3⟩ := mayB_nat hm
    by_cases h : q + manyN s.length ≤ 1024
    · have HE := Lib.hid (show splE n q s.length = 0 from splE_ok.2 ⟨hm, by omega⟩)
      have HL := Lib.hid (show splL n q s = rowL n q (recL s) (manyN s.length) by rw [splL, HE.out]; rfl)
      obtain ⟨m, hmm⟩ : ∃ m, m = manyN s.length := ⟨_, rfl⟩
      rw [← hmm] at MN h hlo hge HL
      have hgt : ¬ ((1024 : Int) - q < m) := by omega
      have BG := fun W => @begin_any W m s.length (by omega) (by omega)
      have hbl : (bytesL m 2 ++ bytesL s.length 4).length = 6 := by simp [bytesL_length]
      obtain ⟨T, hT⟩ : ∃ T, T = bytesL m 2 ++ bytesL s.length 4 := ⟨_, rfl⟩
      rw [← hT] at BG hbl
      have hte : (str T).size = 6 := by show T.toArray.size = 6; simpa using hbl
      have hrec := Lib.hid (show T ++ s = recL s by rw [hT, recL, hmm, List.append_assoc])
      have hadd : str T ++ str s = str (T ++ s) := str_append _ _
      have hnb : ¬ (9223372036854775807 : Int) < 6 + (s.length : Int) := by omega
      have hnb2 : ¬ 9223372036854775807 < 6 + s.length := by omega
      have HMK := Lib.hid (make_texts m (by omega))
      have HMM := Lib.hid hmm
      clear hT hm hmm
      go_enter Tryz.func61, Tryz.ntmps61
      go_wp2_with (first | (go_at_call 78; refine (MA _).mono ?_; rintro e w9 ⟨rfl, rfl⟩) | (go_at_call 30; refine (MN _).mono ?_; rintro e w9 ⟨rfl, rfl⟩) | (go_at_call 79; refine (BG _).mono ?_; rintro e w1 ⟨rfl, hb1⟩))
      rw [HMK.out]
      simp only [Result.andThen]
      rw [Oper.upon_value]
      have hb2 := hb1.alloc hb1.size (.cells (txs (List.replicate m [])).toArray 9)
      have t2 : TB (w1.alloc (.cells (txs (List.replicate m [])).toArray 9)) w1.heap.size (List.replicate m []) := heap_alloc_new w1 _
      have hgw := hb1.size
      obtain ⟨g, hg⟩ : ∃ g, g = w1.heap.size := ⟨_, rfl⟩
      rw [← hg] at t2 hgw ⊢
      generalize w1.alloc (.cells (txs (List.replicate m [])).toArray 9) = w2 at hb2 t2 ⊢
      clear hb1 HMK hg MA MN BG
      have HR := Lib.hid hrec.out.symm
      obtain ⟨R, hR⟩ : ∃ R, R = T ++ s := ⟨_, rfl⟩
      have hRl : R.length = 6 + s.length := by rw [hR, List.length_append, hbl]
      rw [← hR] at HR ⊢
      clear hrec hadd hte hbl hR hxe hnb hnb2
      have hRs : (str R).size = 6 + s.length := by show R.toArray.size = _; simpa using hRl
      have H2 := Lib.hid t2
      have HB2 := Lib.hid hb2
      have HGW := Lib.hid hgw
      clear t2 hb2 hgw
      go_wp2_with fail
      go_loopw [36] (fun i wr => ∃ k : Nat, k ≤ m ∧ i = .int .i64 k ∧ TB wr g (rowL n q R k ++ List.replicate (m - k) []) ∧ Below w.heap.size w wr) (fun i _ => m - (intOf i).toNat)
      case atStart => exact ⟨0, Nat.zero_le _, rfl, by simpa [rowL] using H2.out, HB2.out⟩
      case round =>
        obtain ⟨k, hk, rfl, ht, hB⟩ := hrel
        have HT := Lib.hid ht
        have HB := Lib.hid hB
        clear ht hB
        by_cases hlt : k < m
        · have hlt' : (k : Int) < (m : Int) := by omega
          have FR : ∀ W, Calls Tryz.prog 80 #[.int .i64 n, .int .i64 ((q : Int) + (k : Int)), sv (chL R k)] W fun e w' => e = .returned (sv (secL n q R k)) ∧ Below W.heap.size W w' := fun W => by
            rw [show ((q : Int) + (k : Int)) = ((q + k : Nat) : Int) by push_cast; rfl]
            exact @framed_any W n (q + k) (chL R k) h2 (by omega) (chL_length R k)
          have HRP := Lib.hid (row_part n q R m k hlt)
          have HLK := Lib.hid (show k < (rowL n q R k ++ List.replicate (m - k) ([] : List UInt8)).length by simp [rowL_length]; omega)
          by_cases h112 : (k : Int) * 112 + 112 ≤ 6 + (s.length : Int)
          · have HSL := Lib.hid (slice_str (w := wr) R (112 * k) (112 * k + 112) (chL R k) (by omega) (by omega) (by rw [← cut_ch R k, Nat.min_eq_left (by omega)]))
            rw [show ((112 * k : Nat) : Int) = (k : Int) * 112 by omega, show ((112 * k + 112 : Nat) : Int) = (k : Int) * 112 + 112 by omega] at HSL
            go_wp2_with fail
            rw [HSL.out]
            simp only [Result.andThen]
            rw [Oper.upon_value]
            go_wp2_with (go_at_call 80; refine (FR wr).mono ?_; rintro e w3 ⟨rfl, hb3⟩; have HT3 := Lib.hid (HT.out.below hb3); have HB3 := Lib.hid (HB.out.trans (hb3.mono HB.out.size)); have c3 := HT3.out.cell (j := k) HLK.out; have f3 := HT3.out.free k; clear hb3)
            go_roundw
            case rel => exact ⟨k + 1, by omega, by go_num, HRP.out ▸ HT3.out.set k (secL n q R k), HB3.out.setCell (p := ⟨g, k, none⟩) HGW.out _⟩
            case measure => simp [intOf]; omega

          · have HSL := Lib.hid (slice_str (w := wr) R (112 * k) R.length (chL R k) (by omega) (by omega) (by rw [← cut_ch R k, Nat.min_eq_right (by omega)]))
            rw [show ((112 * k : Nat) : Int) = (k : Int) * 112 by omega, show ((R.length : Nat) : Int) = 6 + (s.length : Int) by omega] at HSL
            go_wp2_with fail
            rw [HSL.out]
            simp only [Result.andThen]
            rw [Oper.upon_value]
            go_wp2_with (go_at_call 80; refine (FR wr).mono ?_; rintro e w3 ⟨rfl, hb3⟩; have HT3 := Lib.hid (HT.out.below hb3); have HB3 := Lib.hid (HB.out.trans (hb3.mono HB.out.size)); have c3 := HT3.out.cell (j := k) HLK.out; have f3 := HT3.out.free k; clear hb3)
            go_roundw
            case rel => exact ⟨k + 1, by omega, by go_num, HRP.out ▸ HT3.out.set k (secL n q R k), HB3.out.setCell (p := ⟨g, k, none⟩) HGW.out _⟩
            case measure => simp [intOf]; omega
        · obtain rfl : k = m := by omega
          go_wp2_with fail
          go_ret2
          exact SpPost2.some HGW.out HE.out (by rw [HL.out, rowL_length]) (by omega) (by rw [HL.out, HR.out]; simpa using HT.out) HB.out
    · have HE := Lib.hid (show splE n q s.length = 40 by unfold splE; rw [hm, if_pos rfl, if_neg (by omega)])
      have HL := Lib.hid (show splL n q s = [] by rw [splL, HE.out]; rfl)
      obtain ⟨m, hmm⟩ : ∃ m, m = manyN s.length := ⟨_, rfl⟩
      rw [← hmm] at MN h hlo hge
      have hgt : (1024 : Int) - q < m := by omega
      clear hmm
      go_enter Tryz.func61, Tryz.ntmps61
      go_wp2_with (first | (go_at_call 78; refine (MA _).mono ?_; rintro e w9 ⟨rfl, rfl⟩) | (go_at_call 30; refine (MN _).mono ?_; rintro e w9 ⟨rfl, rfl⟩))
      go_ret2
      exact SpPost2.none HE.out HL.out
end Go.Proofs.YthfnncahmccgkaaGreatDoor
