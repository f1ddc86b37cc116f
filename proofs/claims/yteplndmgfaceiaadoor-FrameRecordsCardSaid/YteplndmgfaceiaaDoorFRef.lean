/-
  The reference's bytes, number, may, Put, Many.
-/
import Derived.Deep.RegionHeld3
import Derived.Deep.CutRange
import Derived.Test.YteplndmgfaceiaaDoorFRow
namespace Go.Proofs.YteplndmgfaceiaaDoor
set_option linter.unusedSimpArgs false
set_option linter.unusedVariables false
open Go Go.RowKit
set_option maxRecDepth 100000

set_option maxHeartbeats 1000000 in
theorem rmay_any (a p : Int) (w : World) : Calls Tryd.prog 26 #[.int .i64 a, .int .i64 p] w fun e w' => e = .returned (.bool (mayB a p)) ∧ w = w' := by
  by_cases h1 : 1 ≤ a
  · by_cases h2 : a ≤ 4294967295
    · by_cases h3 : 0 ≤ p
      · by_cases h4 : p ≤ 1023
        · have hm : mayB a p = true := mayB_iff.2 ⟨h1, h2, h3, h4⟩
          rw [hm]
          go_enter Tryd.func26, Tryd.ntmps26
          go_wp2_with fail
          go_ret
          exact ⟨rfl, rfl⟩
        · have hm : mayB a p = false := by simp [mayB, h4]
          rw [hm]
          go_enter Tryd.func26, Tryd.ntmps26
          go_wp2_with fail
          go_ret
          exact ⟨rfl, rfl⟩
      · have hm : mayB a p = false := by simp [mayB, h3]
        rw [hm]
        go_enter Tryd.func26, Tryd.ntmps26
        go_wp2_with fail
        go_ret
        exact ⟨rfl, rfl⟩
    · have hm : mayB a p = false := by simp [mayB, h2]
      rw [hm]
      go_enter Tryd.func26, Tryd.ntmps26
      go_wp2_with fail
      go_ret
      exact ⟨rfl, rfl⟩
  · have hm : mayB a p = false := by simp [mayB, h1]
    rw [hm]
    go_enter Tryd.func26, Tryd.ntmps26
    go_wp2_with fail
    go_ret
    exact ⟨rfl, rfl⟩

theorem numL_dropS {l : List UInt8} {k : Nat} (h : k < l.length) : numL (l.drop k) = (l.getD k 0).toNat + 256 * numL (l.drop (k + 1)) := by
  rw [List.drop_eq_getElem_cons h, numL, List.getD_eq_getElem?_getD, List.getElem?_eq_getElem h]
  rfl

set_option maxHeartbeats 2000000 in
theorem rnumber_any {w : World} (l : List UInt8) (hl : l.length ≤ 4) : Calls Tryd.prog 32 #[sv l] w fun e w' => e = .returned (.int .i64 (numL l)) ∧ w = w' := by
  go_enter Tryd.func32, Tryd.ntmps32
  go_wp2_with fail
  go_loop [3, 4] (fun n i => ∃ k : Nat, k ≤ l.length ∧ i = .int .i64 ((k : Int) - 1) ∧ n = .int .i64 (numL (l.drop k))) (fun _ i => (intOf i + 1).toNat)
  case atStart => exact ⟨l.length, Nat.le_refl _, rfl, by simp [numL]⟩
  case round =>
    obtain ⟨k, hk, rfl, rfl⟩ := hrel
    by_cases h0 : k = 0
    · subst h0
      go_wp2_with fail
      go_ret
      exact ⟨rfl, rfl⟩
    · obtain ⟨j, rfl⟩ : ∃ j, k = j + 1 := ⟨k - 1, by omega⟩
      have hj : j < l.length := by omega
      have HS := Lib.hid (numL_dropS hj)
      have hnl := numL_lt (l.drop (j + 1))
      have hpw : 256 ^ (l.drop (j + 1)).length ≤ 256 ^ 3 := Nat.pow_le_pow_right (by omega) (by simp; omega)
      obtain ⟨N, hN⟩ : ∃ N, N = numL (l.drop (j + 1)) := ⟨_, rfl⟩
      rw [← hN] at hnl ⊢
      have HN := Lib.hid hN
      have hN2 : N < 16777216 := by omega
      rw [show (((j + 1 : Nat) : Int) - 1) = (j : Int) by omega]
      have hxl : (str l).size = l.length := by show l.toArray.size = _; simp
      have hg := str_getD l j hj (by rw [hxl]; exact hj)
      obtain ⟨x, hx⟩ : ∃ x, x = l.getD j 0 := ⟨_, rfl⟩
      rw [← hx] at hg HS
      have hx256 := x.toNat_lt
      clear hnl hpw hN hx
      go_wp2_with fail
      go_round
      case rel =>
        refine ⟨j, by omega, rfl, ?_⟩
        have h1 := HS.out
        have h2 := HN.out
        rw [← h2] at h1
        rw [h1]
        congr 1
        omega
      case measure => simp [intOf] <;> omega

theorem div_step (n k : Nat) : n / 256 ^ k / 256 = n / 256 ^ (k + 1) := by rw [Nat.div_div_eq_div_mul, Nat.pow_succ]
theorem conv_byte (W : World) (v : Value) (y : UInt8) (hv : v = bv y) : (convert 49 9 (.slice (some ⟨W.heap.size, 0, none⟩) 1 1)).run Tryd.prog (W.alloc (.cells #[v] 5)) = .ok (sv [y]) (W.alloc (.cells #[v] 5)) := by
  have := run_convert_bytes_back (P := Tryd.prog) (W.alloc (.cells #[v] 5)) 49 9 5 ⟨W.heap.size, 0, none⟩ 1 [y] Tryd.underlying49 Tryd.underlying5 Tryd.underlying9 (fun j hj => by
    rw [show (⟨W.heap.size, 0, none⟩ : Addr).add j = ⟨W.heap.size, j, none⟩ from by unfold Addr.add; split <;> simp_all, cellAt (heap_alloc_new W _)]
    obtain rfl : j = 0 := by simpa using hj
    simp [hv, bv])
  simpa using this
set_option maxHeartbeats 2000000 in
theorem rbytes_any {w : World} (n m : Nat) (hn : n < 9223372036854775808) (hm : m ≤ 4) : Calls Tryd.prog 27 #[.int .i64 n, .int .i64 m] w fun e w' => e = .returned (sv (bytesL n m)) ∧ Below w.heap.size w w' := by
  go_enter Tryd.func27, Tryd.ntmps27
  have HB := Lib.hid (Below.refl w.heap.size w)
  go_wp2_with fail
  go_loopw [0, 5, 6] (fun x t i wr => ∃ k : Nat, k ≤ m ∧ i = .int .i64 k ∧ t = sv (bytesL n k) ∧ x = .int .i64 ((n / 256 ^ k : Nat) : Int) ∧ Below w.heap.size w wr) (fun _ _ i _ => m - (intOf i).toNat)
  case atStart => exact ⟨0, Nat.zero_le _, rfl, rfl, by simp, HB.out⟩
  case round =>
    obtain ⟨k, hk, rfl, rfl, rfl, hbl⟩ := hrel
    have HBL := Lib.hid hbl
    clear hbl
    by_cases hlt : k < m
    · have hlt' : (k : Int) < (m : Int) := by omega
      have HD := Lib.hid (div_step n k)
      have HS := Lib.hid (bytesL_snoc n k)
      have hq : n / 256 ^ k ≤ n := Nat.div_le_self _ _
      obtain ⟨q, hqe⟩ : ∃ q, q = n / 256 ^ k := ⟨_, rfl⟩
      rw [← hqe] at HD HS hq ⊢
      have hb8 : (Value.int .u8 ((q : Int) % 256)) = bv (UInt8.ofNat q) := by
        unfold bv
        rw [show (UInt8.ofNat q).toNat = q % 256 from by simp]
        congr 1
      have hcv := fun W => conv_byte W (.int .u8 ((q : Int) % 256)) (UInt8.ofNat q) hb8
      have lT := bytesL_length n k
      obtain ⟨T, hT⟩ : ∃ T, T = bytesL n k := ⟨_, rfl⟩
      rw [← hT] at lT HS ⊢
      have zT : (str T).size = k := by show T.toArray.size = _; simpa using lT
      have zY : (str [UInt8.ofNat q]).size = 1 := rfl
      have hadd : str T ++ str [UInt8.ofNat q] = str (T ++ [UInt8.ofNat q]) := str_append _ _
      clear hqe hb8 hT lT
      have hka := HBL.out.alloc HBL.out.size (.cells #[.int .u8 ((q : Int) % 256)] 5)
      have HKA := Lib.hid hka
      clear hka
      go_wp2_with fail
      go_roundw
      case rel => exact ⟨k + 1, by omega, by go_num, by rw [HS.out], by rw [← HD.out]; rfl, HKA.out⟩
      case measure => simp [intOf]; omega
    · obtain rfl : k = m := by omega
      go_wp2_with fail
      go_ret
      exact ⟨rfl, HBL.out⟩

set_option maxHeartbeats 4000000 in
theorem rput_any {w : World} (a p : Int) (s : List UInt8) (hs : s.length ≤ 9223372036854775807) : Calls Tryd.prog 11 #[.int .i64 a, .int .i64 p, sv s] w fun e w' => e = .returned (.tuple #[sv (putL a p s), .int .i64 (putE a p s.length)]) ∧ Below w.heap.size w w' := by
  have MA := fun W => rmay_any a p W
  cases hm : mayB a p with
  | false =>
    rw [hm] at MA
    have HE := Lib.hid (show putE a p s.length = 1 by simp [putE, hm])
    have HL := Lib.hid (show putL a p s = [] by rw [putL, HE.out]; rfl)
    go_enter Tryd.func11, Tryd.ntmps11
    go_wp2_with (go_at_call 26; refine (MA _).mono ?_; rintro e w9 ⟨rfl, rfl⟩)
    go_ret2
    exact ⟨by rw [HE.out, HL.out]; rfl, Below.refl _ _⟩
  | true =>
    rw [hm] at MA
    by_cases h : s.length ≤ 112
    · have h' : ¬ ((112 : Int) < (s.length : Int)) := by omega
      have HE := Lib.hid (show putE a p s.length = 0 by simp [putE, hm, h])
      have HL := Lib.hid (show putL a p s = frL a.toNat p.toNat s by rw [putL, HE.out]; rfl)
      obtain ⟨n, q, rfl, rfl, _, h2, h3⟩ := mayB_nat hm
      have B1 : ∀ W, Calls Tryd.prog 27 #[.int .i64 n, .int .i64 4] W fun e w' => e = .returned (sv (bytesL n 4)) ∧ Below W.heap.size W w' := fun W => @rbytes_any W n 4 (by omega) (by omega)
      have B2 : ∀ W, Calls Tryd.prog 27 #[.int .i64 q, .int .i64 4] W fun e w' => e = .returned (sv (bytesL q 4)) ∧ Below W.heap.size W w' := fun W => @rbytes_any W q 4 (by omega) (by omega)
      have l1 := bytesL_length n 4
      have l2 := bytesL_length q 4
      have HST := Lib.hid (show stL n q = bytesL n 4 ++ bytesL q 4 from rfl)
      generalize bytesL n 4 = T1 at B1 l1 HST
      generalize bytesL q 4 = T2 at B2 l2 HST
      have z1 : (str T1).size = 4 := by show T1.toArray.size = _; simpa using l1
      have z2 : (str T2).size = 4 := by show T2.toArray.size = _; simpa using l2
      have ha : str T1 ++ str T2 = str (T1 ++ T2) := str_append _ _
      obtain ⟨T, hT⟩ : ∃ T, T = T1 ++ T2 := ⟨_, rfl⟩
      rw [← hT] at ha HST
      have lT : T.length = 8 := by rw [hT, List.length_append, l1, l2]
      clear hT l1 l2 hm
      go_enter Tryd.func11, Tryd.ntmps11
      go_wp2_with (first | (go_at_call 26; refine (MA _).mono ?_; rintro e w9 ⟨rfl, rfl⟩) | (go_at_call 27; with_reducible refine (B1 _).mono ?_; rintro e w1 ⟨rfl, hb1⟩) | (go_at_call 27; with_reducible refine (B2 _).mono ?_; rintro e w2 ⟨rfl, hb2⟩))
      have HB := Lib.hid (hb1.trans (hb2.mono hb1.size))
      clear hb1 hb2 ha z1 z2 B1 B2 MA
      go_loopw [2] (fun t wr => ∃ k : Nat, s.length + k ≤ 112 ∧ t = sv (s ++ List.replicate k 0) ∧ Below w.heap.size w wr) (fun t _ => match t with | .string x => 112 - x.size | _ => 0)
      case atStart => exact ⟨0, by omega, by simp, HB.out⟩
      case round =>
        obtain ⟨k, hk, rfl, hbl⟩ := hrel
        have HBL := Lib.hid hbl
        clear hbl
        have lU : (s ++ List.replicate k (0 : UInt8)).length = s.length + k := by simp
        have HR := Lib.hid (show (s ++ List.replicate k (0 : UInt8)) ++ [0] = s ++ List.replicate (k + 1) 0 by rw [List.replicate_succ', List.append_assoc])
        have HP := Lib.hid (show s.length + k = 112 → s ++ List.replicate k (0 : UInt8) = padL s from fun e => by rw [padL]; congr 2; omega)
        obtain ⟨U, hU⟩ : ∃ U, U = s ++ List.replicate k (0 : UInt8) := ⟨_, rfl⟩
        rw [← hU] at lU HR HP ⊢
        have zU : (str U).size = s.length + k := by show U.toArray.size = _; simpa using lU
        by_cases hlt : s.length + k < 112
        · have hlt' : (s.length : Int) + (k : Int) < 112 := by omega
          have hcv := fun W => conv_byte W (.int .u8 0) 0 rfl
          have zY : (str [(0 : UInt8)]).size = 1 := rfl
          have hadd : str U ++ str [(0 : UInt8)] = str (U ++ [0]) := str_append _ _
          have HKA := Lib.hid (HBL.out.alloc HBL.out.size (.cells #[.int .u8 0] 5))
          clear hU
          go_wp2_with fail
          go_roundw
          case rel => exact ⟨k + 1, by omega, by rw [HR.out], HKA.out⟩
          case measure =>
            have e1 : (str (U ++ [(0 : UInt8)])).size = s.length + k + 1 := by show (U ++ [0]).toArray.size = _; simp [lU]
            show 112 - (str (U ++ [0])).size < 112 - (str U).size
            rw [e1, zU]; omega
        · have hlt' : ¬ (s.length : Int) + (k : Int) < 112 := by omega
          clear hU
          have e112 : s.length + k = 112 := by omega
          rw [e112] at zU lU
          have hUp := HP.out e112
          have zT : (str T).size = 8 := by show T.toArray.size = _; simpa using lT
          have zTU : (str (T ++ U)).size = 120 := by show (T ++ U).toArray.size = _; simp [lT, lU]
          have ha1 : str T ++ str U = str (T ++ U) := str_append _ _
          have ha2 : str (T ++ U) ++ str T = str (T ++ U ++ T) := str_append _ _
          have HFI := Lib.hid (show T ++ (U ++ T) = putL (n : Int) (q : Int) s by
            rw [HL.out, show (n : Int).toNat = n from rfl, show (q : Int).toNat = q from rfl, frL, HST.out, hUp])
          clear hUp e112 hlt hlt' hk
          go_wp2_with fail
          go_ret2
          exact ⟨by rw [HE.out, ← HFI.out]; rfl, HBL.out⟩
    · have h' : (112 : Int) < (s.length : Int) := by omega
      have HE := Lib.hid (show putE a p s.length = 40 by simp [putE, hm, h])
      have HL := Lib.hid (show putL a p s = [] by rw [putL, HE.out]; rfl)
      go_enter Tryd.func11, Tryd.ntmps11
      go_wp2_with (go_at_call 26; refine (MA _).mono ?_; rintro e w9 ⟨rfl, rfl⟩)
      go_ret2
      exact ⟨by rw [HE.out, HL.out]; rfl, Below.refl _ _⟩
end Go.Proofs.YteplndmgfaceiaaDoor
