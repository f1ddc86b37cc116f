/-
  The reference's Split: its row is a new one.
-/
import Derived.Deep.CutRange
import Derived.Test.YthfnncahmccgkaaGreatDoorFRsM
import Derived.Test.YthfnncahmccgkaaGreatDoorFApp
import Derived.Test.YthfnncahmccgkaaGreatDoorFSplit
namespace Go.Proofs.YthfnncahmccgkaaGreatDoor
set_option linter.unusedSimpArgs false
set_option linter.unusedVariables false
open Go Go.RowKit
set_option maxRecDepth 100000

/-- What the reference's Split answers: a row of these texts. -/
def RNpPost (w : World) (a p : Int) (s : List UInt8) (e : Ending) (w' : World) : Prop :=
  ∃ A c, e = .returned (.tuple #[.slice A (splL a p s).length c, .int .i64 (splE a p s.length)]) ∧ Tx w' A (splL a p s) ∧ (splL a p s).length ≤ c ∧ Below w.heap.size w w' ∧ (0 < (splL a p s).length → ∃ g, A = some ⟨g, 0, none⟩ ∧ w.heap.size ≤ g)
theorem RNpPost.none {w : World} {a p : Int} {s : List UInt8} {z : Int} (he : splE a p s.length = z) (hl : splL a p s = []) : RNpPost w a p s (.returned (.tuple #[.slice none 0 0, .int .i64 z])) w := by
  subst he
  refine ⟨Option.none, 0, ?_, .inl hl, ?_, Below.refl _ _, fun h => ?_⟩
  · rw [hl]; rfl
  · rw [hl]; exact Nat.le_refl _
  · rw [hl] at h; exact absurd h (by decide)
theorem RNpPost.some {w w' : World} {a p : Int} {s : List UInt8} {A : Option Addr} {n c : Nat} {l : List (List UInt8)} (he : splE a p s.length = 0) (hl : splL a p s = l) (hn : l.length = n) (hc : l.length ≤ c) (ht : Tx w' A l) (hb : Below w.heap.size w w') (hg : 0 < l.length → ∃ g, A = Option.some ⟨g, 0, Option.none⟩ ∧ w.heap.size ≤ g) : RNpPost w a p s (.returned (.tuple #[.slice A n c, .int .i64 0])) w' := by
  subst hl hn
  exact ⟨A, c, by rw [he], ht, hc, hb, hg⟩

set_option maxHeartbeats 8000000 in
theorem rsplit_new {w : World} (a p : Int) (s : List UInt8) (hs : s.length ≤ 140737488351232) : Calls Tryz.prog 94 #[.int .i64 a, .int .i64 p, sv s] w (RNpPost w a p s) := by
  have MA := fun W => rmay_any a p W
  have hlo := manyN_lt s.length
  have hge := manyN_ge s.length
  have hn1 := manyN_pos s.length
  have hxe : (str s).size = s.length := by show s.toArray.size = s.length; simp
  cases hm : mayB a p with
  | false =>
    rw [hm] at MA
    have HE := Lib.hid (show splE a p s.length = 1 by simp [splE, hm])
    have HL := Lib.hid (show splL a p s = [] by rw [splL, HE.out]; rfl)
    go_enter Tryz.func94, Tryz.ntmps94
    go_wp2_with (go_at_call 97; with_reducible refine (MA _).mono ?_; rintro e w9 ⟨rfl, rfl⟩)
    go_ret2
    exact RNpPost.none HE.out HL.out
  | true =>
    rw [hm] at MA
    obtain ⟨n, q, rfl, rfl, h1, h2, h3⟩ := mayB_nat hm
    have MN := fun W => @rmany_any W (s.length : Int) (by omega) (by omega)
    rw [manyI_nat] at MN
    by_cases h : q + manyN s.length ≤ 1024
    · have HE := Lib.hid (show splE n q s.length = 0 from splE_ok.2 ⟨hm, by omega⟩)
      have HL := Lib.hid (show splL n q s = rowL n q (recL s) (manyN s.length) by rw [splL, HE.out]; rfl)
      obtain ⟨m, hmm⟩ : ∃ m, m = manyN s.length := ⟨_, rfl⟩
      rw [← hmm] at MN h hlo hge HL hn1
      have hgt : ¬ ((1024 : Int) < (q : Int) + (m : Int)) := by omega
      have B1 : ∀ W, Calls Tryz.prog 112 #[.int .i64 m, .int .i64 2] W fun e w' => e = .returned (sv (bytesL m 2)) ∧ Below W.heap.size W w' := fun W => @rbytes_any W m 2 (by omega) (by omega)
      have B2 : ∀ W, Calls Tryz.prog 112 #[.int .i64 s.length, .int .i64 4] W fun e w' => e = .returned (sv (bytesL s.length 4)) ∧ Below W.heap.size W w' := fun W => @rbytes_any W s.length 4 (by omega) (by omega)
      have l1 := bytesL_length m 2
      have l2 := bytesL_length s.length 4
      have HRE := Lib.hid (show recL s = bytesL m 2 ++ (bytesL s.length 4 ++ s) by rw [recL, hmm])
      generalize bytesL m 2 = T1 at B1 l1 HRE
      generalize bytesL s.length 4 = T2 at B2 l2 HRE
      have z1 : (str T1).size = 2 := by show T1.toArray.size = _; simpa using l1
      have z2 : (str T2).size = 4 := by show T2.toArray.size = _; simpa using l2
      have ha : str T1 ++ str T2 = str (T1 ++ T2) := str_append _ _
      obtain ⟨T, hT⟩ : ∃ T, T = T1 ++ T2 := ⟨_, rfl⟩
      rw [← hT] at ha
      have lT : T.length = 6 := by rw [hT, List.length_append, l1, l2]
      have zT : (str T).size = 6 := by show T.toArray.size = _; simpa using lT
      obtain ⟨R, hR⟩ : ∃ R, R = T ++ s := ⟨_, rfl⟩
      have hadd : str T ++ str s = str R := by rw [hR]; exact str_append _ _
      have HR := Lib.hid (show recL s = R by rw [HRE.out, hR, hT, List.append_assoc])
      have hRl : R.length = 6 + s.length := by rw [hR, List.length_append, lT]
      have hnb : ¬ (9223372036854775807 : Int) < 6 + (s.length : Int) := by omega
      have hnb2 : ¬ 9223372036854775807 < 6 + s.length := by omega
      have HMM := Lib.hid hmm
      clear hT hR hm hmm HRE l1 l2
      go_enter Tryz.func94, Tryz.ntmps94
      go_wp2_with (first
        | (go_at_call 97; with_reducible refine (MA _).mono ?_; rintro e w9 ⟨rfl, rfl⟩)
        | (go_at_call 93; with_reducible refine (MN _).mono ?_; rintro e w9 ⟨rfl, rfl⟩)
        | (go_at_call 112; with_reducible refine (B1 _).mono ?_; rintro e w1 ⟨rfl, hb1⟩)
        | (go_at_call 112; with_reducible refine (B2 _).mono ?_; rintro e w2 ⟨rfl, hb2⟩))
      have HB2 := Lib.hid (hb1.trans (hb2.mono hb1.size))
      clear hb1 hb2 B1 B2 MA MN ha z1 z2 hadd zT hnb hnb2
      go_loopw [2, 9, 10] (fun r o i wr => ∃ k : Nat, k ≤ m ∧ i = .int .i64 k ∧ r = sv (R.drop (112 * k)) ∧ Ro w2 wr o (rowL n q R k)) (fun _ _ i _ => m - (intOf i).toNat)
      case atStart => exact ⟨0, by omega, rfl, by simp, by simpa [rowL] using Ro.nil w2⟩
      case round =>
        obtain ⟨k, hk, rfl, rfl, hro⟩ := hrel
        have HRO := Lib.hid hro
        obtain ⟨A, c, rfl, _⟩ := hro.form
        clear hro
        by_cases hlt : k < m
        · have hlt' : (k : Int) < (m : Int) := by omega
          have hch := chL_length R k
          have hqk : (q : Int) + (k : Int) = ((q + k : Nat) : Int) := by push_cast; rfl
          have hmk : mayB (n : Int) ((q + k : Nat) : Int) = true := by rw [mayB_iff]; omega
          have PU : ∀ W, Calls Tryz.prog 113 #[.int .i64 n, .int .i64 ((q : Int) + (k : Int)), sv (chL R k)] W fun e w' => e = .returned (.tuple #[sv (secL n q R k), .int .i64 0]) ∧ Below W.heap.size W w' := fun W => by
            have := @rput_any W (n : Int) ((q + k : Nat) : Int) (chL R k) (by omega)
            rw [hqk]
            have e0 : putE (n : Int) ((q + k : Nat) : Int) (chL R k).length = 0 := putE_ok.2 ⟨hmk, hch⟩
            rw [putL, e0, if_pos rfl] at this
            exact this
          have HS := Lib.hid (rowL_succ n q R k)
          have HD := Lib.hid (show (R.drop (112 * k)).drop (chL R k).length = R.drop (112 * (k + 1)) by
            rw [chL, List.length_take, List.drop_drop, List.length_drop]
            rcases Nat.le_total 112 (R.length - 112 * k) with h | h
            · rw [Nat.min_eq_left h, show 112 * k + 112 = 112 * (k + 1) by omega]
            · rw [Nat.min_eq_right h, List.drop_of_length_le (by omega), List.drop_of_length_le (by omega)])
          have hlr := rowL_length n q R k
          obtain ⟨D, hD⟩ : ∃ D, D = R.drop (112 * k) := ⟨_, rfl⟩
          obtain ⟨Y, hY⟩ : ∃ D, D = secL n q R k := ⟨_, rfl⟩
          have hCe : chL R k = D.take 112 := by rw [hD]; rfl
          have zD : (str D).size = D.length := by show D.toArray.size = _; simp
          rw [← hD] at HD ⊢
          rw [← hY] at PU HS
          obtain ⟨P, hP⟩ : ∃ P, P = rowL n q R k := ⟨_, rfl⟩
          rw [← hP] at HRO hlr HS ⊢
          clear hP
          by_cases hcut : 112 < D.length
          · have hcut' : (112 : Int) < (D.length : Int) := by omega
            have hCl : (chL R k).length = 112 := by rw [hCe, List.length_take]; omega
            obtain ⟨C, hC⟩ : ∃ C, C = chL R k := ⟨_, rfl⟩
            rw [← hC] at PU HD hCl hCe
            have zC : (str C).size = 112 := by show C.toArray.size = _; simpa using hCl
            have x1 : (str D).extract 0 112 = str C := by rw [str_extract, hCe]; rfl
            have x2 : (str D).extract 112 D.length = str (D.drop 112) := by rw [str_extract, List.take_length]
            rw [hCl] at HD
            clear hCe hC hD hY hch hqk hmk
            go_wp2_with (first
              | (go_at_call 113; with_reducible refine (PU _).mono ?_; rintro e w5 ⟨rfl, hb5⟩)
              | (at_builtin; obtain ⟨v7, w7, hr7, HR7⟩ := Ro.app ((HRO.out.step hb5).step (below_alloc w5 (.cells #[sv Y] 9))) (Tx.lit1 w5 Y) 1 (by rw [hlr, List.length_singleton]; omega); rw [hlr, List.length_singleton] at hr7; refine wpList_builtin2_runF _ rfl .append Builtin.append_ _ _ _ _ rfl (fun _ _ _ => rfl) _ _ rfl rfl hr7 ?_; clear hr7))
            go_roundw
            case rel => exact ⟨k + 1, by omega, by go_num, by rw [← HD.out], by rw [HS.out]; exact HR7⟩
            case measure => simp [intOf]; omega
          · have hcut' : ¬ (112 : Int) < (D.length : Int) := by omega
            have hCD : chL R k = D := by rw [hCe, List.take_of_length_le (by omega)]
            rw [hCD] at PU HD
            have HDN := Lib.hid (show D.drop D.length = [] from List.drop_length)
            have x2 : (str D).extract D.length D.length = str (D.drop D.length) := by rw [str_extract, List.take_length]
            clear hCe hCD hD hY hch hqk hmk
            go_wp2_with (first
              | (go_at_call 113; with_reducible refine (PU _).mono ?_; rintro e w5 ⟨rfl, hb5⟩)
              | (at_builtin; obtain ⟨v7, w7, hr7, HR7⟩ := Ro.app ((HRO.out.step hb5).step (below_alloc w5 (.cells #[sv Y] 9))) (Tx.lit1 w5 Y) 1 (by rw [hlr, List.length_singleton]; omega); rw [hlr, List.length_singleton] at hr7; refine wpList_builtin2_runF _ rfl .append Builtin.append_ _ _ _ _ rfl (fun _ _ _ => rfl) _ _ rfl rfl hr7 ?_; clear hr7))
            go_roundw
            case rel => exact ⟨k + 1, by omega, by go_num, by rw [← HD.out, HDN.out]; rfl, by rw [HS.out]; exact HR7⟩
            case measure => simp [intOf]; omega
        · obtain rfl : k = m := by omega
          have hrl := rowL_length n q R k
          obtain ⟨A', c', e', hT', hc', _, hg'⟩ := HRO.out.form
          simp only [Value.slice.injEq] at e'
          obtain ⟨rfl, _, rfl⟩ := e'
          have HF := Lib.hid (RNpPost.some (w := w) (a := n) (p := q) (s := s) HE.out HL.out (by rw [HR.out]) (by rw [HR.out]; exact hc') (by rw [HR.out]; exact hT') (HB2.out.trans (HRO.out.2.mono HB2.out.size)) (fun h => by obtain ⟨g, e1, e2, _⟩ := hg' (by rw [← HR.out]; exact h); exact ⟨g, e1, Nat.le_trans HB2.out.size e2⟩))
          clear hT' hc' hg' hrl
          go_wp2_with fail
          go_ret2
          exact HF.out
    · have HE := Lib.hid (show splE n q s.length = 40 by unfold splE; rw [hm, if_pos rfl, if_neg (by omega)])
      have HL := Lib.hid (show splL n q s = [] by rw [splL, HE.out]; rfl)
      obtain ⟨m, hmm⟩ : ∃ m, m = manyN s.length := ⟨_, rfl⟩
      rw [← hmm] at MN h hlo hge
      have hmb : (m : Int) ≤ 9223372036854775807 - 1024 := by omega
      have hgt : (1024 : Int) < (q : Int) + (m : Int) := by omega
      clear hmm
      go_enter Tryz.func94, Tryz.ntmps94
      go_wp2_with (first | (go_at_call 97; with_reducible refine (MA _).mono ?_; rintro e w9 ⟨rfl, rfl⟩) | (go_at_call 93; with_reducible refine (MN _).mono ?_; rintro e w9 ⟨rfl, rfl⟩))
      go_ret2
      exact RNpPost.none HE.out HL.out
end Go.Proofs.YthfnncahmccgkaaGreatDoor
