/-
  The reference's bytes, number, may, Put, Many.
  The reference's Many, Get, Age.
  The reference's Split.
-/
import Derived.Deep.RegionHeld3
import Derived.Deep.CutRange
import Derived.Test.YthfnncahmccgkaaGreatDoorFRow
import Derived.Test.YthfnncahmccgkaaGreatDoorFPtM
import Derived.Test.YthfnncahmccgkaaGreatDoorFApp
import Derived.Test.YthfnncahmccgkaaGreatDoorFSplit
namespace Go.Proofs.YthfnncahmccgkaaGreatDoor
set_option linter.unusedSimpArgs false
set_option linter.unusedVariables false
open Go Go.RowKit
set_option maxRecDepth 100000

set_option maxHeartbeats 1000000 in
theorem rmay_any (a p : Int) (w : World) : Calls Tryz.prog 97 #[.int .i64 a, .int .i64 p] w fun e w' => e = .returned (.bool (mayB a p)) ∧ w = w' := by
  by_cases h1 : 1 ≤ a
  · by_cases h2 : a ≤ 4294967295
    · by_cases h3 : 0 ≤ p
      · by_cases h4 : p ≤ 1023
        · have hm : mayB a p = true := mayB_iff.2 ⟨h1, h2, h3, h4⟩
          rw [hm]
          go_enter Tryz.func97, Tryz.ntmps97
          go_wp2_with fail
          go_ret
          exact ⟨rfl, rfl⟩
        · have hm : mayB a p = false := by simp [mayB, h4]
          rw [hm]
          go_enter Tryz.func97, Tryz.ntmps97
          go_wp2_with fail
          go_ret
          exact ⟨rfl, rfl⟩
      · have hm : mayB a p = false := by simp [mayB, h3]
        rw [hm]
        go_enter Tryz.func97, Tryz.ntmps97
        go_wp2_with fail
        go_ret
        exact ⟨rfl, rfl⟩
    · have hm : mayB a p = false := by simp [mayB, h2]
      rw [hm]
      go_enter Tryz.func97, Tryz.ntmps97
      go_wp2_with fail
      go_ret
      exact ⟨rfl, rfl⟩
  · have hm : mayB a p = false := by simp [mayB, h1]
    rw [hm]
    go_enter Tryz.func97, Tryz.ntmps97
    go_wp2_with fail
    go_ret
    exact ⟨rfl, rfl⟩

theorem numL_dropS {l : List UInt8} {k : Nat} (h : k < l.length) : numL (l.drop k) = (l.getD k 0).toNat + 256 * numL (l.drop (k + 1)) := by
  rw [List.drop_eq_getElem_cons h, numL, List.getD_eq_getElem?_getD, List.getElem?_eq_getElem h]
  rfl

set_option maxHeartbeats 2000000 in
theorem rnumber_any {w : World} (l : List UInt8) (hl : l.length ≤ 4) : Calls Tryz.prog 92 #[sv l] w fun e w' => e = .returned (.int .i64 (numL l)) ∧ w = w' := by
  go_enter Tryz.func92, Tryz.ntmps92
  go_wp2_with fail
  go_loop [3, 4] (fun n i => ∃ k : Nat, k ≤ l.length ∧ i = .int .i64 ((k : Int) - 1) ∧ n = .int .i64 (numL (l.drop k))) (fun _ i => (intOf i + 1).toNat)
  case atStart => exact ⟨l.length, Nat.le_refl _, rfl, by simp [numL]⟩
  case round =>
    obtain ⟨k, hk, rfl, rfl⟩ := hrel
    by_cases h0 : k = 0
    · subst h0
      go_wp2_with fail
      go_ret
      exact ⟨rfl, rfl⟩
    · obtain ⟨j, rfl⟩ : ∃ j, k = j + 1 := ⟨k - 1, by omega⟩
      have hj : j < l.length := by omega
      have HS := Lib.hid (numL_dropS hj)
      have hnl := numL_lt (l.drop (j + 1))
      have hpw : 256 ^ (l.drop (j + 1)).length ≤ 256 ^ 3 := Nat.pow_le_pow_right (by omega) (by simp; omega)
      obtain ⟨N, hN⟩ : ∃ N, N = numL (l.drop (j + 1)) := ⟨_, rfl⟩
      rw [← hN] at hnl ⊢
      have HN := Lib.hid hN
      have hN2 : N < 16777216 := by omega
      rw [show (((j + 1 : Nat) : Int) - 1) = (j : Int) by omega]
      have hxl : (str l).size = l.length := by show l.toArray.size = _; simp
      have hg := str_getD l j hj (by rw [hxl]; exact hj)
      obtain ⟨x, hx⟩ : ∃ x, x = l.getD j 0 := ⟨_, rfl⟩
      rw [← hx] at hg HS
      have hx256 := x.toNat_lt
      clear hnl hpw hN hx
      go_wp2_with fail
      go_round
      case rel =>
        refine ⟨j, by omega, rfl, ?_⟩
        have h1 := HS.out
        have h2 := HN.out
        rw [← h2] at h1
        rw [h1]
        congr 1
        omega
      case measure => simp [intOf] <;> omega

theorem div_step (n k : Nat) : n / 256 ^ k / 256 = n / 256 ^ (k + 1) := by rw [Nat.div_div_eq_div_mul, Nat.pow_succ]
theorem conv_byte (W : World) (v : Value) (y : UInt8) (hv : v = bv y) : (convert 44 9 (.slice (some ⟨W.heap.size, 0, none⟩) 1 1)).run Tryz.prog (W.alloc (.cells #[v] 5)) = .ok (sv [y]) (W.alloc (.cells #[v] 5)) := by
  have := run_convert_bytes_back (P := Tryz.prog) (W.alloc (.cells #[v] 5)) 44 9 5 ⟨W.heap.size, 0, none⟩ 1 [y] Tryz.underlying44 Tryz.underlying5 Tryz.underlying9 (fun j hj => by
    rw [show (⟨W.heap.size, 0, none⟩ : Addr).add j = ⟨W.heap.size, j, none⟩ from by unfold Addr.add; split <;> simp_all, cellAt (heap_alloc_new W _)]
    obtain rfl : j = 0 := by simpa using hj
    simp [hv, bv])
  simpa using this
set_option maxHeartbeats 2000000 in
theorem rbytes_any {w : World} (n m : Nat) (hn : n < 9223372036854775808) (hm : m ≤ 4) : Calls Tryz.prog 112 #[.int .i64 n, .int .i64 m] w fun e w' => e = .returned (sv (bytesL n m)) ∧ Below w.heap.size w w' := by
  go_enter Tryz.func112, Tryz.ntmps112
  have HB := Lib.hid (Below.refl w.heap.size w)
  go_wp2_with fail
  go_loopw [0, 5, 6] (fun x t i wr => ∃ k : Nat, k ≤ m ∧ i = .int .i64 k ∧ t = sv (bytesL n k) ∧ x = .int .i64 ((n / 256 ^ k : Nat) : Int) ∧ Below w.heap.size w wr) (fun _ _ i _ => m - (intOf i).toNat)
  case atStart => exact ⟨0, Nat.zero_le _, rfl, rfl, by simp, HB.out⟩
  case round =>
    obtain ⟨k, hk, rfl, rfl, rfl, hbl⟩ := hrel
    have HBL := Lib.hid hbl
    clear hbl
    by_cases hlt : k < m
    · have hlt' : (k : Int) < (m : Int) := by omega
      have HD := Lib.hid (div_step n k)
      have HS := Lib.hid (bytesL_snoc n k)
      have hq : n / 256 ^ k ≤ n := Nat.div_le_self _ _
      obtain ⟨q, hqe⟩ : ∃ q, q = n / 256 ^ k := ⟨_, rfl⟩
      rw [← hqe] at HD HS hq ⊢
      have hb8 : (Value.int .u8 ((q : Int) % 256)) = bv (UInt8.ofNat q) := by
        unfold bv
        rw [show (UInt8.ofNat q).toNat = q % 256 from by simp]
        congr 1
      have hcv := fun W => conv_byte W (.int .u8 ((q : Int) % 256)) (UInt8.ofNat q) hb8
      have lT := bytesL_length n k
      obtain ⟨T, hT⟩ : ∃ T, T = bytesL n k := ⟨_, rfl⟩
      rw [← hT] at lT HS ⊢
      have zT : (str T).size = k := by show T.toArray.size = _; simpa using lT
      have zY : (str [UInt8.ofNat q]).size = 1 := rfl
      have hadd : str T ++ str [UInt8.ofNat q] = str (T ++ [UInt8.ofNat q]) := str_append _ _
      clear hqe hb8 hT lT
      have hka := HBL.out.alloc HBL.out.size (.cells #[.int .u8 ((q : Int) % 256)] 5)
      have HKA := Lib.hid hka
      clear hka
      go_wp2_with fail
      go_roundw
      case rel => exact ⟨k + 1, by omega, by go_num, by rw [HS.out], by rw [← HD.out]; rfl, HKA.out⟩
      case measure => simp [intOf]; omega
    · obtain rfl : k = m := by omega
      go_wp2_with fail
      go_ret
      exact ⟨rfl, HBL.out⟩

set_option maxHeartbeats 4000000 in
theorem rput_any {w : World} (a p : Int) (s : List UInt8) (hs : s.length ≤ 9223372036854775807) : Calls Tryz.prog 113 #[.int .i64 a, .int .i64 p, sv s] w fun e w' => e = .returned (.tuple #[sv (putL a p s), .int .i64 (putE a p s.length)]) ∧ Below w.heap.size w w' := by
  have MA := fun W => rmay_any a p W
  cases hm : mayB a p with
  | false =>
    rw [hm] at MA
    have HE := Lib.hid (show putE a p s.length = 1 by simp [putE, hm])
    have HL := Lib.hid (show putL a p s = [] by rw [putL, HE.out]; rfl)
    go_enter Tryz.func113, Tryz.ntmps113
    go_wp2_with (go_at_call 97; refine (MA _).mono ?_; rintro e w9 ⟨rfl, rfl⟩)
    go_ret2
    exact ⟨by rw [HE.out, HL.out]; rfl, Below.refl _ _⟩
  | true =>
    rw [hm] at MA
    by_cases h : s.length ≤ 112
    · have h' : ¬ ((112 : Int) < (s.length : Int)) := by omega
      have HE := Lib.hid (show putE a p s.length = 0 by simp [putE, hm, h])
      have HL := Lib.hid (show putL a p s = frL a.toNat p.toNat s by rw [putL, HE.out]; rfl)
      obtain ⟨n, q, rfl, rfl, _, h2, h3⟩ := mayB_nat hm
      have B1 : ∀ W, Calls Tryz.prog 112 #[.int .i64 n, .int .i64 4] W fun e w' => e = .returned (sv (bytesL n 4)) ∧ Below W.heap.size W w' := fun W => @rbytes_any W n 4 (by omega) (by omega)
      have B2 : ∀ W, Calls Tryz.prog 112 #[.int .i64 q, .int .i64 4] W fun e w' => e = .returned (sv (bytesL q 4)) ∧ Below W.heap.size W w' := fun W => @rbytes_any W q 4 (by omega) (by omega)
      have l1 := bytesL_length n 4
      have l2 := bytesL_length q 4
      have HST := Lib.hid (show stL n q = bytesL n 4 ++ bytesL q 4 from rfl)
      generalize bytesL n 4 = T1 at B1 l1 HST
      generalize bytesL q 4 = T2 at B2 l2 HST
      have z1 : (str T1).size = 4 := by show T1.toArray.size = _; simpa using l1
      have z2 : (str T2).size = 4 := by show T2.toArray.size = _; simpa using l2
      have ha : str T1 ++ str T2 = str (T1 ++ T2) := str_append _ _
      obtain ⟨T, hT⟩ : ∃ T, T = T1 ++ T2 := ⟨_, rfl⟩
      rw [← hT] at ha HST
      have lT : T.length = 8 := by rw [hT, List.length_append, l1, l2]
      clear hT l1 l2 hm
      go_enter Tryz.func113, Tryz.ntmps113
      go_wp2_with (first | (go_at_call 97; refine (MA _).mono ?_; rintro e w9 ⟨rfl, rfl⟩) | (go_at_call 112; with_reducible refine (B1 _).mono ?_; rintro e w1 ⟨rfl, hb1⟩) | (go_at_call 112; with_reducible refine (B2 _).mono ?_; rintro e w2 ⟨rfl, hb2⟩))
      have HB := Lib.hid (hb1.trans (hb2.mono hb1.size))
      clear hb1 hb2 ha z1 z2 B1 B2 MA
      go_loopw [2] (fun t wr => ∃ k : Nat, s.length + k ≤ 112 ∧ t = sv (s ++ List.replicate k 0) ∧ Below w.heap.size w wr) (fun t _ => match t with | .string x => 112 - x.size | _ => 0)
      case atStart => exact ⟨0, by omega, by simp, HB.out⟩
      case round =>
        obtain ⟨k, hk, rfl, hbl⟩ := hrel
        have HBL := Lib.hid hbl
        clear hbl
        have lU : (s ++ List.replicate k (0 : UInt8)).length = s.length + k := by simp
        have HR := Lib.hid (show (s ++ List.replicate k (0 : UInt8)) ++ [0] = s ++ List.replicate (k + 1) 0 by rw [List.replicate_succ', List.append_assoc])
        have HP := Lib.hid (show s.length + k = 112 → s ++ List.replicate k (0 : UInt8) = padL s from fun e => by rw [padL]; congr 2; omega)
        obtain ⟨U, hU⟩ : ∃ U, U = s ++ List.replicate k (0 : UInt8) := ⟨_, rfl⟩
        rw [← hU] at lU HR HP ⊢
        have zU : (str U).size = s.length + k := by show U.toArray.size = _; simpa using lU
        by_cases hlt : s.length + k < 112
        · have hlt' : (s.length : Int) + (k : Int) < 112 := by omega
          have hcv := fun W => conv_byte W (.int .u8 0) 0 rfl
          have zY : (str [(0 : UInt8)]).size = 1 := rfl
          have hadd : str U ++ str [(0 : UInt8)] = str (U ++ [0]) := str_append _ _
          have HKA := Lib.hid (HBL.out.alloc HBL.out.size (.cells #[.int .u8 0] 5))
          clear hU
          go_wp2_with fail
          go_roundw
          case rel => exact ⟨k + 1, by omega, by rw [HR.out], HKA.out⟩
          case measure =>
            have e1 : (str (U ++ [(0 : UInt8)])).size = s.length + k + 1 := by show (U ++ [0]).toArray.size = _; simp [lU]
            show 112 - (str (U ++ [0])).size < 112 - (str U).size
            rw [e1, zU]; omega
        · have hlt' : ¬ (s.length : Int) + (k : Int) < 112 := by omega
          clear hU
          have e112 : s.length + k = 112 := by omega
          rw [e112] at zU lU
          have hUp := HP.out e112
          have zT : (str T).size = 8 := by show T.toArray.size = _; simpa using lT
          have zTU : (str (T ++ U)).size = 120 := by show (T ++ U).toArray.size = _; simp [lT, lU]
          have ha1 : str T ++ str U = str (T ++ U) := str_append _ _
          have ha2 : str (T ++ U) ++ str T = str (T ++ U ++ T) := str_append _ _
          have HFI := Lib.hid (show T ++ (U ++ T) = putL (n : Int) (q : Int) s by
            rw [HL.out, show (n : Int).toNat = n from rfl, show (q : Int).toNat = q from rfl, frL, HST.out, hUp])
          clear hUp e112 hlt hlt' hk
          go_wp2_with fail
          go_ret2
          exact ⟨by rw [HE.out, ← HFI.out]; rfl, HBL.out⟩
    · have h' : (112 : Int) < (s.length : Int) := by omega
      have HE := Lib.hid (show putE a p s.length = 40 by simp [putE, hm, h])
      have HL := Lib.hid (show putL a p s = [] by rw [putL, HE.out]; rfl)
      go_enter Tryz.func113, Tryz.ntmps113
      go_wp2_with (go_at_call 97; refine (MA _).mono ?_; rintro e w9 ⟨rfl, rfl⟩)
      go_ret2
      exact ⟨by rw [HE.out, HL.out]; rfl, Below.refl _ _⟩
end Go.Proofs.YthfnncahmccgkaaGreatDoor

namespace Go.Proofs.YthfnncahmccgkaaGreatDoor
set_option linter.unusedSimpArgs false
set_option linter.unusedVariables false
open Go Go.RowKit
set_option maxRecDepth 100000

theorem results_tmp4' {fn : Func} {t u v x : Tmp} (h : fn.results = #[.tmp t, .tmp u, .tmp v, .tmp x]) (tmps : Array Value) (P : Program) (w : World) :
    (results fn tmps).run P w = .ok (.tuple #[tmps.getD t undef, tmps.getD u undef, tmps.getD v undef, tmps.getD x undef]) w := by
  simp [results, h]
set_option maxHeartbeats 2000000 in
theorem rmany_any {w : World} (z : Int) (h0 : -9223372036854775808 ≤ z) (h1 : z ≤ 9223372036854775807) : Calls Tryz.prog 93 #[.int .i64 z] w fun e w' => e = .returned (.int .i64 (manyI z)) ∧ w = w' := by
  by_cases h : z < 0
  · have HE := Lib.hid (show manyI z = 0 by simp [manyI, h])
    go_enter Tryz.func93, Tryz.ntmps93
    go_wp2_with fail
    go_ret
    exact ⟨by rw [HE.out]; rfl, rfl⟩
  · obtain ⟨n, rfl⟩ : ∃ n : Nat, z = n := ⟨z.toNat, by omega⟩
    have HE := Lib.hid (show manyI (n : Int) = manyN n by unfold manyI; rw [if_neg (by omega)]; simp)
    by_cases h2 : (112 : Int) < (n : Int) % 112 + 6
    · have HM := Lib.hid (show (n : Int) / 112 + 2 = (manyN n : Nat) by unfold manyN; omega)
      go_enter Tryz.func93, Tryz.ntmps93
      go_wp2_with fail
      go_ret
      refine ⟨?_, rfl⟩
      rw [HE.out, ← HM.out]
      rfl
    · have HM := Lib.hid (show (n : Int) / 112 + 1 = (manyN n : Nat) by unfold manyN; omega)
      go_enter Tryz.func93, Tryz.ntmps93
      go_wp2_with fail
      go_ret
      refine ⟨?_, rfl⟩
      rw [HE.out, ← HM.out]
      rfl
theorem isB_ref (x : List UInt8) (h : x.length = 128) : isB x = ((x.take 8 == x.drop 120) && mayB (numL (x.take 4)) (numL ((x.take 8).drop 4))) := by
  unfold isB fstL lstL
  rw [if_pos h, if_pos h]
  congr 2
  · unfold ageN
    rw [List.take_take]
    rfl
  · unfold plN
    rw [List.take_of_length_le (l := List.drop 4 _) (by simp; omega)]

set_option maxHeartbeats 4000000 in
theorem rget_any {w : World} (x : List UInt8) (hx : x.length ≤ 9223372036854775807) : Calls Tryz.prog 75 #[sv x] w fun e w' => e = .returned (.tuple #[.int .i64 (agL x), .int .i64 (plL x), sv (bodL x), .bool (isB x)]) ∧ Below w.heap.size w w' := by
  have zx : (str x).size = x.length := by show x.toArray.size = _; simp
  by_cases h128 : x.length = 128
  · rw [h128] at zx
    have n1 : ((128 : Int) != 128) = false := rfl
    have C1 : ∀ W, Calls Tryz.prog 92 #[sv (x.take 4)] W fun e w' => e = .returned (.int .i64 (numL (x.take 4))) ∧ w' = W := fun W => (rnumber_any _ (by simp; omega)).mono fun e w' h => ⟨h.1, h.2.symm⟩
    have C2 : ∀ W, Calls Tryz.prog 92 #[sv ((x.take 8).drop 4)] W fun e w' => e = .returned (.int .i64 (numL ((x.take 8).drop 4))) ∧ w' = W := fun W => (rnumber_any _ (by simp; omega)).mono fun e w' h => ⟨h.1, h.2.symm⟩
    have x1 : (str x).extract 0 8 = str (x.take 8) := by rw [str_extract]; rfl
    have x2 : (str x).extract 120 128 = str (x.drop 120) := by rw [str_extract, List.take_of_length_le (by omega)]
    have x3 : (str x).extract 0 4 = str (x.take 4) := by rw [str_extract]; rfl
    have x4 : (str x).extract 4 8 = str ((x.take 8).drop 4) := by rw [str_extract]
    have x5 : (str x).extract 8 120 = str ((x.drop 8).take 112) := by rw [str_extract, List.drop_take]
    have HI := Lib.hid (isB_ref x h128)
    have HA := Lib.hid (show isB x = true → agL x = numL (x.take 4) from fun h => by rw [agL, if_pos h, fstL, if_pos h128, ageN, List.take_take]; rfl)
    have HP := Lib.hid (show isB x = true → plL x = numL ((x.take 8).drop 4) from fun h => by rw [plL, if_pos h, fstL, if_pos h128, plN, List.take_of_length_le (l := List.drop 4 _) (by simp; omega)])
    have HD := Lib.hid (show isB x = true → bodL x = (x.drop 8).take 112 from fun h => by rw [bodL, if_pos h])
    have HN := Lib.hid (show isB x = false → agL x = 0 ∧ plL x = 0 ∧ bodL x = [] from fun h => by simp [agL, plL, bodL, h])
    obtain ⟨N1, hN1⟩ : ∃ N, N = numL (x.take 4) := ⟨_, rfl⟩
    obtain ⟨N2, hN2⟩ : ∃ N, N = numL ((x.take 8).drop 4) := ⟨_, rfl⟩
    rw [← hN1] at C1 HA HI
    rw [← hN2] at C2 HP HI
    have MA : ∀ W, Calls Tryz.prog 97 #[.int .i64 N1, .int .i64 N2] W fun e w' => e = .returned (.bool (mayB N1 N2)) ∧ w' = W := fun W => (rmay_any (N1 : Int) (N2 : Int) W).mono fun e w' h => ⟨h.1, h.2.symm⟩
    clear hN1 hN2
    obtain ⟨A, hA⟩ : ∃ A, A = x.take 8 := ⟨_, rfl⟩
    obtain ⟨B, hB⟩ : ∃ A, A = x.drop 120 := ⟨_, rfl⟩
    obtain ⟨D, hD⟩ : ∃ A, A = x.take 4 := ⟨_, rfl⟩
    obtain ⟨E, hE⟩ : ∃ A, A = (x.take 8).drop 4 := ⟨_, rfl⟩
    obtain ⟨F, hF⟩ : ∃ A, A = (x.drop 8).take 112 := ⟨_, rfl⟩
    rw [← hA, ← hB] at HI
    rw [← hE] at x4 C2
    rw [← hA] at x1
    rw [← hB] at x2
    rw [← hD] at x3 C1
    rw [← hF] at x5 HD
    clear hA hB hD hE hF
    cases hab : A == B with
    | false =>
      have m1 : (A != B) = true := by simp only [bne, hab]; rfl
      have HI2 := Lib.hid (show isB x = false by rw [HI.out, hab]; rfl)
      go_enter Tryz.func75, Tryz.ntmps75
      go_wp2_with fail
      go_quiet (fail)
      go_wp2_with fail
      (try simp only [Exit.inBlock, Exit.then])
      refine bodyPost_ret (results_tmp4' rfl _ _ _) rfl ?_
      obtain ⟨q1, q2, q3⟩ := HN.out HI2.out
      exact ⟨by rw [q1, q2, q3, HI2.out]; rfl, below_drewN (Below.refl _ _) _⟩
    | true =>
      obtain rfl : A = B := by simpa using hab
      cases hm : mayB N1 N2 with
      | false =>
        rw [hm] at MA
        have HI2 := Lib.hid (show isB x = false by rw [HI.out, hm]; simp)
        clear hab hm
        go_enter Tryz.func75, Tryz.ntmps75
        go_wp2_with fail
        go_quiet ((first | (go_at_call 92; with_reducible exact Calls.quiet_of_same (C1 _)) | (go_at_call 92; with_reducible exact Calls.quiet_of_same (C2 _)) | (go_at_call 97; with_reducible exact Calls.quiet_of_same (MA _))))
        go_wp2_with fail
        (try simp only [Exit.inBlock, Exit.then])
        refine bodyPost_ret (results_tmp4' rfl _ _ _) rfl ?_
        obtain ⟨q1, q2, q3⟩ := HN.out HI2.out
        exact ⟨by rw [q1, q2, q3, HI2.out]; rfl, below_drewN (Below.refl _ _) _⟩
      | true =>
        rw [hm] at MA
        have HI2 := Lib.hid (show isB x = true by rw [HI.out, hm, hab]; rfl)
        clear hab hm
        go_enter Tryz.func75, Tryz.ntmps75
        go_wp2_with fail
        go_quiet ((first | (go_at_call 92; with_reducible exact Calls.quiet_of_same (C1 _)) | (go_at_call 92; with_reducible exact Calls.quiet_of_same (C2 _)) | (go_at_call 97; with_reducible exact Calls.quiet_of_same (MA _))))
        go_wp2_with fail
        rename_i nq K2 a2
        have HBq := Lib.hid (below_drewN (Below.refl w.heap.size w) nq)
        generalize w.drewN nq = wq at HBq ⊢
        go_quiet ((first | (go_at_call 92; with_reducible exact Calls.quiet_of_same (C1 _)) | (go_at_call 92; with_reducible exact Calls.quiet_of_same (C2 _))))
        go_wp2_with fail
        (try simp only [Exit.inBlock, Exit.then])
        refine bodyPost_ret (results_tmp4' rfl _ _ _) rfl ?_
        exact ⟨by rw [HA.out HI2.out, HP.out HI2.out, HD.out HI2.out, HI2.out]; rfl, below_drewN HBq.out _⟩
  · have n1 : ((x.length : Int) != 128) = true := by rw [bne_iff_ne]; omega
    have HI2 := Lib.hid (show isB x = false from by
      cases h : isB x with
      | false => rfl
      | true => exact absurd (isB_len h) h128)
    have HN := Lib.hid (show isB x = false → agL x = 0 ∧ plL x = 0 ∧ bodL x = [] from fun h => by simp [agL, plL, bodL, h])
    go_enter Tryz.func75, Tryz.ntmps75
    go_wp2_with fail
    go_quiet (fail)
    go_wp2_with fail
    (try simp only [Exit.inBlock, Exit.then])
    refine bodyPost_ret (results_tmp4' rfl _ _ _) rfl ?_
    obtain ⟨q1, q2, q3⟩ := HN.out HI2.out
    exact ⟨by rw [q1, q2, q3, HI2.out]; rfl, below_drewN (Below.refl _ _) _⟩

set_option maxHeartbeats 4000000 in
theorem rage_any {w : World} (x : List UInt8) (hx : x.length ≤ 9223372036854775807) : Calls Tryz.prog 70 #[sv x] w fun e w' => e = .returned (.int .i64 (oldL x)) ∧ Below w.heap.size w w' := by
  have zx : (str x).size = x.length := by show x.toArray.size = _; simp
  by_cases h128 : x.length = 128
  · rw [h128] at zx
    have n1 : ((128 : Int) != 128) = false := rfl
    have C1 : ∀ W, Calls Tryz.prog 92 #[sv (x.take 4)] W fun e w' => e = .returned (.int .i64 (numL (x.take 4))) ∧ w' = W := fun W => (rnumber_any _ (by simp; omega)).mono fun e w' h => ⟨h.1, h.2.symm⟩
    have C2 : ∀ W, Calls Tryz.prog 92 #[sv ((x.drop 120).take 4)] W fun e w' => e = .returned (.int .i64 (numL ((x.drop 120).take 4))) ∧ w' = W := fun W => (rnumber_any _ (by simp; omega)).mono fun e w' h => ⟨h.1, h.2.symm⟩
    have x3 : (str x).extract 0 4 = str (x.take 4) := by rw [str_extract]; rfl
    have x4 : (str x).extract 120 124 = str ((x.drop 120).take 4) := by rw [str_extract, List.drop_take]
    have HO := Lib.hid (show oldL x = max (numL (x.take 4)) (numL ((x.drop 120).take 4)) by
      rw [oldL, fstL, if_pos h128, lstL, if_pos h128, ageN, ageN, List.take_take]; rfl)
    obtain ⟨N1, hN1⟩ : ∃ N, N = numL (x.take 4) := ⟨_, rfl⟩
    obtain ⟨N2, hN2⟩ : ∃ N, N = numL ((x.drop 120).take 4) := ⟨_, rfl⟩
    rw [← hN1] at C1 HO
    rw [← hN2] at C2 HO
    clear hN1 hN2
    obtain ⟨D, hD⟩ : ∃ A, A = x.take 4 := ⟨_, rfl⟩
    obtain ⟨E, hE⟩ : ∃ A, A = (x.drop 120).take 4 := ⟨_, rfl⟩
    rw [← hE] at x4 C2
    rw [← hD] at x3 C1
    clear hD hE
    go_enter Tryz.func70, Tryz.ntmps70
    go_wp2_with fail
    go_quiet ((first | (go_at_call 92; with_reducible exact Calls.quiet_of_same (C1 _)) | (go_at_call 92; with_reducible exact Calls.quiet_of_same (C2 _))))
    go_wp2_with fail
    all_goals go_ret
    all_goals refine ⟨?_, below_drewN (Below.refl _ _) _⟩
    all_goals rw [HO.out]
    all_goals first
      | (show Ending.returned (Value.int .i64 (max (N1 : Int) N2)) = _; congr 2; omega)
      | (show Ending.returned (Value.int .i64 (N1 : Int)) = _; congr 2; omega)
      | (show Ending.returned (Value.int .i64 (N2 : Int)) = _; congr 2; omega)
  · have n1 : ((x.length : Int) != 128) = true := by rw [bne_iff_ne]; omega
    have HO := Lib.hid (show oldL x = 0 by rw [oldL, fstL, if_neg h128, lstL, if_neg h128, ageN_zero]; rfl)
    go_enter Tryz.func70, Tryz.ntmps70
    go_wp2_with fail
    go_ret
    exact ⟨by rw [HO.out]; rfl, Below.refl _ _⟩
end Go.Proofs.YthfnncahmccgkaaGreatDoor

namespace Go.Proofs.YthfnncahmccgkaaGreatDoor
set_option linter.unusedSimpArgs false
set_option linter.unusedVariables false
open Go Go.RowKit
set_option maxRecDepth 100000

/-- What the reference's Split answers: a row of these texts. -/
def RSpPost (w : World) (a p : Int) (s : List UInt8) (e : Ending) (w' : World) : Prop :=
  ∃ A c, e = .returned (.tuple #[.slice A (splL a p s).length c, .int .i64 (splE a p s.length)]) ∧ Tx w' A (splL a p s) ∧ (splL a p s).length ≤ c ∧ Below w.heap.size w w'
theorem RSpPost.none {w : World} {a p : Int} {s : List UInt8} {z : Int} (he : splE a p s.length = z) (hl : splL a p s = []) : RSpPost w a p s (.returned (.tuple #[.slice none 0 0, .int .i64 z])) w := by
  subst he
  refine ⟨Option.none, 0, ?_, .inl hl, ?_, Below.refl _ _⟩
  · rw [hl]; rfl
  · rw [hl]; exact Nat.le_refl _
theorem RSpPost.some {w w' : World} {a p : Int} {s : List UInt8} {A : Option Addr} {n c : Nat} {l : List (List UInt8)} (he : splE a p s.length = 0) (hl : splL a p s = l) (hn : l.length = n) (hc : l.length ≤ c) (ht : Tx w' A l) (hb : Below w.heap.size w w') : RSpPost w a p s (.returned (.tuple #[.slice A n c, .int .i64 0])) w' := by
  subst hl hn
  exact ⟨A, c, by rw [he], ht, hc, hb⟩
theorem Tx.lit1 (W : World) (y : List UInt8) : Tx (W.alloc (.cells #[sv y] 9)) (some ⟨W.heap.size, 0, none⟩) [y] := TB.tx (xs := [y]) (heap_alloc_new W _)

set_option maxHeartbeats 8000000 in
theorem rsplit_any {w : World} (a p : Int) (s : List UInt8) (hs : s.length ≤ 140737488351232) : Calls Tryz.prog 94 #[.int .i64 a, .int .i64 p, sv s] w (RSpPost w a p s) := by
  have MA := fun W => rmay_any a p W
  have hlo := manyN_lt s.length
  have hge := manyN_ge s.length
  have hn1 := manyN_pos s.length
  have hxe : (str s).size = s.length := by show s.toArray.size = s.length; simp
  cases hm : mayB a p with
  | false =>
    rw [hm] at MA
    have HE := Lib.hid (show splE a p s.length = 1 by simp [splE, hm])
    have HL := Lib.hid (show splL a p s = [] by rw [splL, HE.out]; rfl)
    go_enter Tryz.func94, Tryz.ntmps94
    go_wp2_with (go_at_call 97; with_reducible refine (MA _).mono ?_; rintro e w9 ⟨rfl, rfl⟩)
    go_ret2
    exact RSpPost.none HE.out HL.out
  | true =>
    rw [hm] at MA
    obtain ⟨n, q, rfl, rfl, h1, h2, h3⟩ := mayB_nat hm
    have MN := fun W => @rmany_any W (s.length : Int) (by omega) (by omega)
    rw [manyI_nat] at MN
    by_cases h : q + manyN s.length ≤ 1024
    · have HE := Lib.hid (show splE n q s.length = 0 from splE_ok.2 ⟨hm, by omega⟩)
      have HL := Lib.hid (show splL n q s = rowL n q (recL s) (manyN s.length) by rw [splL, HE.out]; rfl)
      obtain ⟨m, hmm⟩ : ∃ m, m = manyN s.length := ⟨_, rfl⟩
      rw [← hmm] at MN h hlo hge HL hn1
      have hgt : ¬ ((1024 : Int) < (q : Int) + (m : Int)) := by omega
      have B1 : ∀ W, Calls Tryz.prog 112 #[.int .i64 m, .int .i64 2] W fun e w' => e = .returned (sv (bytesL m 2)) ∧ Below W.heap.size W w' := fun W => @rbytes_any W m 2 (by omega) (by omega)
      have B2 : ∀ W, Calls Tryz.prog 112 #[.int .i64 s.length, .int .i64 4] W fun e w' => e = .returned (sv (bytesL s.length 4)) ∧ Below W.heap.size W w' := fun W => @rbytes_any W s.length 4 (by omega) (by omega)
      have l1 := bytesL_length m 2
      have l2 := bytesL_length s.length 4
      have HRE := Lib.hid (show recL s = bytesL m 2 ++ (bytesL s.length 4 ++ s) by rw [recL, hmm])
      generalize bytesL m 2 = T1 at B1 l1 HRE
      generalize bytesL s.length 4 = T2 at B2 l2 HRE
      have z1 : (str T1).size = 2 := by show T1.toArray.size = _; simpa using l1
      have z2 : (str T2).size = 4 := by show T2.toArray.size = _; simpa using l2
      have ha : str T1 ++ str T2 = str (T1 ++ T2) := str_append _ _
      obtain ⟨T, hT⟩ : ∃ T, T = T1 ++ T2 := ⟨_, rfl⟩
      rw [← hT] at ha
      have lT : T.length = 6 := by rw [hT, List.length_append, l1, l2]
      have zT : (str T).size = 6 := by show T.toArray.size = _; simpa using lT
      obtain ⟨R, hR⟩ : ∃ R, R = T ++ s := ⟨_, rfl⟩
      have hadd : str T ++ str s = str R := by rw [hR]; exact str_append _ _
      have HR := Lib.hid (show recL s = R by rw [HRE.out, hR, hT, List.append_assoc])
      have hRl : R.length = 6 + s.length := by rw [hR, List.length_append, lT]
      have hnb : ¬ (9223372036854775807 : Int) < 6 + (s.length : Int) := by omega
      have hnb2 : ¬ 9223372036854775807 < 6 + s.length := by omega
      have HMM := Lib.hid hmm
      clear hT hR hm hmm HRE l1 l2
      go_enter Tryz.func94, Tryz.ntmps94
      go_wp2_with (first
        | (go_at_call 97; with_reducible refine (MA _).mono ?_; rintro e w9 ⟨rfl, rfl⟩)
        | (go_at_call 93; with_reducible refine (MN _).mono ?_; rintro e w9 ⟨rfl, rfl⟩)
        | (go_at_call 112; with_reducible refine (B1 _).mono ?_; rintro e w1 ⟨rfl, hb1⟩)
        | (go_at_call 112; with_reducible refine (B2 _).mono ?_; rintro e w2 ⟨rfl, hb2⟩))
      have HB2 := Lib.hid (hb1.trans (hb2.mono hb1.size))
      clear hb1 hb2 B1 B2 MA MN ha z1 z2 hadd zT hnb hnb2
      go_loopw [2, 9, 10] (fun r o i wr => ∃ k : Nat, k ≤ m ∧ i = .int .i64 k ∧ r = sv (R.drop (112 * k)) ∧ Ro w2 wr o (rowL n q R k)) (fun _ _ i _ => m - (intOf i).toNat)
      case atStart => exact ⟨0, by omega, rfl, by simp, by simpa [rowL] using Ro.nil w2⟩
      case round =>
        obtain ⟨k, hk, rfl, rfl, hro⟩ := hrel
        have HRO := Lib.hid hro
        obtain ⟨A, c, rfl, _⟩ := hro.form
        clear hro
        by_cases hlt : k < m
        · have hlt' : (k : Int) < (m : Int) := by omega
          have hch := chL_length R k
          have hqk : (q : Int) + (k : Int) = ((q + k : Nat) : Int) := by push_cast; rfl
          have hmk : mayB (n : Int) ((q + k : Nat) : Int) = true := by rw [mayB_iff]; omega
          have PU : ∀ W, Calls Tryz.prog 113 #[.int .i64 n, .int .i64 ((q : Int) + (k : Int)), sv (chL R k)] W fun e w' => e = .returned (.tuple #[sv (secL n q R k), .int .i64 0]) ∧ Below W.heap.size W w' := fun W => by
            have := @rput_any W (n : Int) ((q + k : Nat) : Int) (chL R k) (by omega)
            rw [hqk]
            have e0 : putE (n : Int) ((q + k : Nat) : Int) (chL R k).length = 0 := putE_ok.2 ⟨hmk, hch⟩
            rw [putL, e0, if_pos rfl] at this
            exact this
          have HS := Lib.hid (rowL_succ n q R k)
          have HD := Lib.hid (show (R.drop (112 * k)).drop (chL R k).length = R.drop (112 * (k + 1)) by
            rw [chL, List.length_take, List.drop_drop, List.length_drop]
            rcases Nat.le_total 112 (R.length - 112 * k) with h | h
            · rw [Nat.min_eq_left h, show 112 * k + 112 = 112 * (k + 1) by omega]
            · rw [Nat.min_eq_right h, List.drop_of_length_le (by omega), List.drop_of_length_le (by omega)])
          have hlr := rowL_length n q R k
          obtain ⟨D, hD⟩ : ∃ D, D = R.drop (112 * k) := ⟨_, rfl⟩
          obtain ⟨Y, hY⟩ : ∃ D, D = secL n q R k := ⟨_, rfl⟩
          have hCe : chL R k = D.take 112 := by rw [hD]; rfl
          have zD : (str D).size = D.length := by show D.toArray.size = _; simp
          rw [← hD] at HD ⊢
          rw [← hY] at PU HS
          obtain ⟨P, hP⟩ : ∃ P, P = rowL n q R k := ⟨_, rfl⟩
          rw [← hP] at HRO hlr HS ⊢
          clear hP
          by_cases hcut : 112 < D.length
          · have hcut' : (112 : Int) < (D.length : Int) := by omega
            have hCl : (chL R k).length = 112 := by rw [hCe, List.length_take]; omega
            obtain ⟨C, hC⟩ : ∃ C, C = chL R k := ⟨_, rfl⟩
            rw [← hC] at PU HD hCl hCe
            have zC : (str C).size = 112 := by show C.toArray.size = _; simpa using hCl
            have x1 : (str D).extract 0 112 = str C := by rw [str_extract, hCe]; rfl
            have x2 : (str D).extract 112 D.length = str (D.drop 112) := by rw [str_extract, List.take_length]
            rw [hCl] at HD
            clear hCe hC hD hY hch hqk hmk
            go_wp2_with (first
              | (go_at_call 113; with_reducible refine (PU _).mono ?_; rintro e w5 ⟨rfl, hb5⟩)
              | (at_builtin; obtain ⟨v7, w7, hr7, HR7⟩ := Ro.app ((HRO.out.step hb5).step (below_alloc w5 (.cells #[sv Y] 9))) (Tx.lit1 w5 Y) 1 (by rw [hlr, List.length_singleton]; omega); rw [hlr, List.length_singleton] at hr7; refine wpList_builtin2_runF _ rfl .append Builtin.append_ _ _ _ _ rfl (fun _ _ _ => rfl) _ _ rfl rfl hr7 ?_; clear hr7))
            go_roundw
            case rel => exact ⟨k + 1, by omega, by go_num, by rw [← HD.out], by rw [HS.out]; exact HR7⟩
            case measure => simp [intOf]; omega
          · have hcut' : ¬ (112 : Int) < (D.length : Int) := by omega
            have hCD : chL R k = D := by rw [hCe, List.take_of_length_le (by omega)]
            rw [hCD] at PU HD
            have HDN := Lib.hid (show D.drop D.length = [] from List.drop_length)
            have x2 : (str D).extract D.length D.length = str (D.drop D.length) := by rw [str_extract, List.take_length]
            clear hCe hCD hD hY hch hqk hmk
            go_wp2_with (first
              | (go_at_call 113; with_reducible refine (PU _).mono ?_; rintro e w5 ⟨rfl, hb5⟩)
              | (at_builtin; obtain ⟨v7, w7, hr7, HR7⟩ := Ro.app ((HRO.out.step hb5).step (below_alloc w5 (.cells #[sv Y] 9))) (Tx.lit1 w5 Y) 1 (by rw [hlr, List.length_singleton]; omega); rw [hlr, List.length_singleton] at hr7; refine wpList_builtin2_runF _ rfl .append Builtin.append_ _ _ _ _ rfl (fun _ _ _ => rfl) _ _ rfl rfl hr7 ?_; clear hr7))
            go_roundw
            case rel => exact ⟨k + 1, by omega, by go_num, by rw [← HD.out, HDN.out]; rfl, by rw [HS.out]; exact HR7⟩
            case measure => simp [intOf]; omega
        · obtain rfl : k = m := by omega
          have hrl := rowL_length n q R k
          obtain ⟨A', c', e', hT', hc', _, hg'⟩ := HRO.out.form
          simp only [Value.slice.injEq] at e'
          obtain ⟨rfl, _, rfl⟩ := e'
          have HF := Lib.hid (RSpPost.some (w := w) (a := n) (p := q) (s := s) HE.out HL.out (by rw [HR.out]) (by rw [HR.out]; exact hc') (by rw [HR.out]; exact hT') (HB2.out.trans (HRO.out.2.mono HB2.out.size)))
          clear hT' hc' hg' hrl
          go_wp2_with fail
          go_ret2
          exact HF.out
    · have HE := Lib.hid (show splE n q s.length = 40 by unfold splE; rw [hm, if_pos rfl, if_neg (by omega)])
      have HL := Lib.hid (show splL n q s = [] by rw [splL, HE.out]; rfl)
      obtain ⟨m, hmm⟩ : ∃ m, m = manyN s.length := ⟨_, rfl⟩
      rw [← hmm] at MN h hlo hge
      have hmb : (m : Int) ≤ 9223372036854775807 - 1024 := by omega
      have hgt : (1024 : Int) < (q : Int) + (m : Int) := by omega
      clear hmm
      go_enter Tryz.func94, Tryz.ntmps94
      go_wp2_with (first | (go_at_call 97; with_reducible refine (MA _).mono ?_; rintro e w9 ⟨rfl, rfl⟩) | (go_at_call 93; with_reducible refine (MN _).mono ?_; rintro e w9 ⟨rfl, rfl⟩))
      go_ret2
      exact RSpPost.none HE.out HL.out
end Go.Proofs.YthfnncahmccgkaaGreatDoor
