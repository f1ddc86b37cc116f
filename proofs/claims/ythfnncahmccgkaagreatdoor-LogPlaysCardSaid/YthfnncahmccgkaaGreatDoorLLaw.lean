/-
  The laws' own functions: top, same, has, sectors.
-/
import Derived.Test.YthfnncahmccgkaaGreatDoorFMany
import Derived.Test.YthfnncahmccgkaaGreatDoorLOpM
import Derived.Test.YthfnncahmccgkaaGreatDoorLInM
namespace Go.Proofs.YthfnncahmccgkaaGreatDoor
open Go Go.RowKit Go.Maps
set_option maxRecDepth 100000
set_option linter.unusedSimpArgs false
set_option linter.unusedVariables false

def topZ (S : DS) : Int := if S.off then -1 else (topL S.now : Int)
theorem top12_any {w : World} {p bl bd : Nat} {S : DS} (h : PD w p bl bd S) : Calls Tryz.prog 15 #[dp p] w fun e w' => e = .returned (.int .i64 (topZ S)) ∧ Below w.heap.size w w' := by
  have TL := top_log h
  clear h
  cases ho : S.off with
  | true =>
    have HZ := Lib.hid (show topZ S = -1 by simp [topZ, ho])
    rw [show topE S = 42 by simp [topE, ho]] at TL
    go_enter Tryz.func15, Tryz.ntmps15
    go_wp2_with (go_at_call 9; refine TL.mono ?_; rintro e w1 ⟨rfl, hb1⟩)
    go_ret
    exact ⟨by rw [HZ.out]; rfl, hb1⟩
  | false =>
    have HZ := Lib.hid (show topZ S = (topV S : Nat) by simp [topZ, topV, ho])
    rw [show topE S = 0 by simp [topE, ho]] at TL
    generalize topV S = t at TL HZ
    go_enter Tryz.func15, Tryz.ntmps15
    go_wp2_with (go_at_call 9; refine TL.mono ?_; rintro e w1 ⟨rfl, hb1⟩)
    go_ret
    exact ⟨by rw [HZ.out]; rfl, hb1⟩

set_option maxHeartbeats 4000000 in
theorem same12_any {w : World} (xs ys : List (List UInt8)) (A B : Option Addr) (c d : Nat) (hx : Tx w A xs) (hy : Tx w B ys) (hxl : xs.length ≤ 1000000) (hyl : ys.length ≤ 1000000) :
    Calls Tryz.prog 31 #[.slice A xs.length c, .slice B ys.length d] w fun e w' => e = .returned (.bool (xs == ys)) ∧ Below w.heap.size w w' := by
  by_cases hl : xs.length = ys.length
  · have hne : ((xs.length : Int) != (ys.length : Int)) = false := by rw [hl]; simp
    have HX := Lib.hid hx
    have HY := Lib.hid hy
    have HLL := Lib.hid hl
    have HB := Lib.hid (Below.refl w.heap.size w)
    clear hx hy hl
    go_enter Tryz.func31, Tryz.ntmps31
    go_wp2_with fail
    go_loopw [5] (fun i wr => ∃ k : Nat, k ≤ xs.length ∧ i = .int .i64 k ∧ (∀ j, j < k → xs.getD j [] = ys.getD j []) ∧ Below w.heap.size w wr) (fun i _ => xs.length - (intOf i).toNat)
    case atStart => exact ⟨0, Nat.zero_le _, rfl, fun j hj => absurd hj (by omega), HB.out⟩
    case round =>
      obtain ⟨k, hk, rfl, ha, hbl⟩ := hrel
      have HA := Lib.hid ha
      have HL := Lib.hid hbl
      clear ha hbl
      by_cases hlt : k < xs.length
      · have hlt2 : k < ys.length := by have := HLL.out; omega
        obtain ⟨g, o, rfl, c1⟩ := (HX.out.below HL.out).cell hlt
        obtain ⟨g2, o2, rfl, c2⟩ := (HY.out.below HL.out).cell hlt2
        obtain ⟨x, hxe⟩ : ∃ x, x = xs.getD k [] := ⟨_, rfl⟩
        obtain ⟨y, hye⟩ : ∃ y, y = ys.getD k [] := ⟨_, rfl⟩
        rw [← hxe] at c1
        rw [← hye] at c2
        have HXE := Lib.hid hxe
        have HYE := Lib.hid hye
        clear hxe hye
        by_cases hxy : x = y
        · have HN := Lib.hid (rows_next HA.out (by rw [← HXE.out, ← HYE.out, hxy]))
          subst hxy
          go_wp2_with fail
          go_quiet (fail)
          go_wp2_with fail
          go_roundw
          case rel => exact ⟨k + 1, by omega, by go_num, HN.out, below_drewN HL.out _⟩
          case measure => simp [intOf]; omega
        · have HF := Lib.hid (show (xs == ys) = false by
            rw [beq_eq_false_iff_ne]; intro e; exact hxy (by rw [HXE.out, HYE.out, e]))
          have e1 : (x == y) = false := by simpa using hxy
          have e2 : (x != y) = true := by simpa using hxy
          have HXY := Lib.hid hxy
          clear hxy
          go_wp2_with fail
          go_quiet (fail)
          go_wp2_with fail
          go_ret
          rw [HF.out]
          exact ⟨rfl, below_drewN HL.out _⟩
      · obtain rfl : k = xs.length := by omega
        have HE := Lib.hid (show (xs == ys) = true by rw [beq_iff_eq]; exact rows_eq HLL.out HA.out)
        go_wp2_with fail
        go_ret
        rw [HE.out]
        exact ⟨rfl, HL.out⟩
  · have hne : ((xs.length : Int) != (ys.length : Int)) = true := by rw [bne_iff_ne]; omega
    have HF := Lib.hid (show (xs == ys) = false by rw [beq_eq_false_iff_ne]; intro e; exact hl (by rw [e]))
    clear hx hy hl
    go_enter Tryz.func31, Tryz.ntmps31
    go_wp2_with fail
    go_ret
    rw [HF.out]
    exact ⟨rfl, Below.refl _ _⟩

open Classical in
noncomputable def hasB (S : DS) (half age : Int) (L : List (List UInt8)) : Bool := decide (HasB S half age L)
theorem hasB_true {S : DS} {half age : Int} {L : List (List UInt8)} (h : HasB S half age L) : hasB S half age L = true := by simp [hasB, h]
theorem hasB_false {S : DS} {half age : Int} {L : List (List UInt8)} (h : ¬ HasB S half age L) : hasB S half age L = false := by simp [hasB, h]
theorem scnE_kind (S : DS) (half : Int) : scnE S half = 0 ∨ scnE S half = 1 ∨ scnE S half = 5 ∨ scnE S half = 42 := by
  unfold scnE
  split
  · split
    · simp
    · split <;> simp
  · simp
theorem scnA_lt (S : DS) (half : Int) : scnA S half < 4294967296 := by
  unfold scnA ageH
  split
  · have h1 := agL_le ((hsec S half.toNat).getD 0 [])
    have h2 := oldL_lt ((hsec S half.toNat).getD 0 [])
    omega
  · omega
set_option maxHeartbeats 4000000 in
theorem has12_any {w : World} {p bl bd : Nat} {S : DS} (h : PD w p bl bd S) (half age : Int) {A : Option Addr} {c : Nat} {L : List (List UInt8)} (hL : Tx w A L) (hLl : L.length ≤ 1000000) :
    Calls Tryz.prog 20 #[dp p, .int .i64 half, .int .i64 age, .slice A L.length c] w fun e w' => e = .returned (.bool (hasB S half age L)) ∧ Below w.heap.size w w' := by
  have SC := scan_log h half
  unfold ScPost at SC
  have HL := Lib.hid hL
  have HH := Lib.hid (fun hz : ¬ HasB S half age L => hasB_false hz)
  clear h hL
  by_cases h1 : scnE S half = 0
  · rw [h1] at SC
    by_cases h2 : (scnA S half : Int) = age
    · have h2' : ((scnA S half : Int) != age) = false := by rw [h2]; simp
      by_cases h3 : (scnL S half).length = L.length
      · have h3' : (((scnL S half).length : Int) != (L.length : Int)) = false := by rw [h3]; simp
        have HE := Lib.hid (show ∀ b, b = (scnL S half == L) → hasB S half age L = b from fun b hb => by
          rw [hb]
          by_cases he : scnL S half = L
          · rw [hasB_true ⟨h1, h2, he⟩, he]; simp
          · rw [hasB_false (fun hz => he hz.2.2)]
            symm
            rw [beq_eq_false_iff_ne]; exact he)
        have HLL := Lib.hid h3
        obtain ⟨R, hR⟩ : ∃ R, R = scnL S half := ⟨_, rfl⟩
        rw [← hR] at SC h3' HE HLL
        generalize (scnA S half : Int) = a at SC h2'
        clear h1 h2 h3 hR HH
        go_enter Tryz.func20, Tryz.ntmps20
        go_wp2_with (go_at_call 8; refine SC.mono ?_; rintro e w1 ⟨v, rfl, hro⟩; obtain ⟨A1, c1, rfl, htx, _⟩ := hro.form; have HB1 := Lib.hid hro.below; have HX := Lib.hid htx; clear hro htx)
        go_loopw [12] (fun i wr => ∃ k : Nat, k ≤ L.length ∧ i = .int .i64 k ∧ (∀ j, j < k → R.getD j [] = L.getD j []) ∧ Below w1.heap.size w1 wr) (fun i _ => L.length - (RowKit.intOf i).toNat)
        case atStart => exact ⟨0, Nat.zero_le _, rfl, fun j hj => absurd hj (by omega), Below.refl _ _⟩
        case round =>
          obtain ⟨k, hk, rfl, ha, hbl⟩ := hrel
          have HA := Lib.hid ha
          have HBL := Lib.hid hbl
          clear ha hbl
          by_cases hlt : k < L.length
          · have hlt3 : k < R.length := by have := HLL.out; omega
            obtain ⟨g, o, rfl, d1⟩ := (HX.out.below HBL.out).cell hlt3
            obtain ⟨g2, o2, rfl, d2⟩ := ((HL.out.below HB1.out).below HBL.out).cell hlt
            obtain ⟨x, hxe⟩ : ∃ x, x = R.getD k [] := ⟨_, rfl⟩
            obtain ⟨y, hye⟩ : ∃ y, y = L.getD k [] := ⟨_, rfl⟩
            rw [← hxe] at d1
            rw [← hye] at d2
            have HXE := Lib.hid hxe
            have HYE := Lib.hid hye
            clear hxe hye
            by_cases hxy : x = y
            · have HN := Lib.hid (rows_next HA.out (by rw [← HXE.out, ← HYE.out, hxy]))
              subst hxy
              go_wp2_with fail
              go_quiet (fail)
              go_wp2_with fail
              go_roundw
              case rel => exact ⟨k + 1, by omega, by go_num, HN.out, below_drewN HBL.out _⟩
              case measure => simp [RowKit.intOf]; omega
            · have HF := Lib.hid (show false = (R == L) by
                symm; rw [beq_eq_false_iff_ne]; intro e; exact hxy (by rw [HXE.out, HYE.out, e]))
              have e1 : (y == x) = false := by rw [beq_eq_false_iff_ne]; exact fun e => hxy e.symm
              have e2 : (y != x) = true := by rw [bne_iff_ne]; exact fun e => hxy e.symm
              have HXY := Lib.hid hxy
              clear hxy
              go_wp2_with fail
              go_quiet (fail)
              go_wp2_with fail
              go_ret
              exact ⟨by rw [HE.out false HF.out]; rfl, HB1.out.trans ((below_drewN HBL.out _).mono HB1.out.size)⟩
          · obtain rfl : k = L.length := by omega
            have HEQ := Lib.hid (show true = (R == L) by symm; rw [beq_iff_eq]; exact rows_eq HLL.out (fun j hj => HA.out j (by rw [← HLL.out]; exact hj)))
            go_wp2_with fail
            go_ret
            exact ⟨by rw [HE.out true HEQ.out]; rfl, HB1.out.trans (HBL.out.mono HB1.out.size)⟩
      · have h3' : (((scnL S half).length : Int) != (L.length : Int)) = true := by rw [bne_iff_ne]; omega
        have HF := Lib.hid (HH.out (fun hz => h3 (by rw [hz.2.2])))
        generalize (scnA S half : Int) = a at SC h2'
        generalize scnL S half = R at SC h3'
        clear h1 h2 h3
        go_enter Tryz.func20, Tryz.ntmps20
        go_wp2_with (go_at_call 8; refine SC.mono ?_; rintro e w1 ⟨v, rfl, hro⟩; obtain ⟨A1, c1, rfl, htx, _⟩ := hro.form; have HB1 := Lib.hid hro.below; clear hro htx)
        go_ret
        exact ⟨by rw [HF.out]; rfl, HB1.out⟩
    · have h2' : ((scnA S half : Int) != age) = true := by rw [bne_iff_ne]; exact h2
      have HF := Lib.hid (HH.out (fun hz => h2 hz.2.1))
      generalize (scnA S half : Int) = a at SC h2'
      generalize scnL S half = R at SC
      clear h1 h2
      go_enter Tryz.func20, Tryz.ntmps20
      go_wp2_with (go_at_call 8; refine SC.mono ?_; rintro e w1 ⟨v, rfl, hro⟩; obtain ⟨A1, c1, rfl, htx, _⟩ := hro.form; have HB1 := Lib.hid hro.below; clear hro htx)
      go_ret
      exact ⟨by rw [HF.out]; rfl, HB1.out⟩
  · have h1' : (scnE S half != 0) = true := by rw [bne_iff_ne]; exact h1
    have HF := Lib.hid (HH.out (fun hz => h1 hz.1))
    generalize (scnA S half : Int) = a at SC
    generalize scnL S half = R at SC
    generalize scnE S half = E at SC h1'
    clear h1
    go_enter Tryz.func20, Tryz.ntmps20
    go_wp2_with (go_at_call 8; refine SC.mono ?_; rintro e w1 ⟨v, rfl, hro⟩; obtain ⟨A1, c1, rfl, htx, _⟩ := hro.form; have HB1 := Lib.hid hro.below; clear hro htx)
    go_ret
    exact ⟨by rw [HF.out]; rfl, HB1.out⟩

/-- A half's sectors, in a row of one's own. -/
theorem sectors12_any {w : World} {p bl bd : Nat} {S : DS} (h : PD w p bl bd S) (ho : S.off = false) {half : Nat} (hh : half < 2) :
    Calls Tryz.prog 29 #[dp p, .int .i64 (half : Int)] w fun e w' => ∃ v, e = .returned v ∧ Ro w w' v (hsec S half) := by
  have SC := sectors_any h
  have hn2 := h.ok.n2
  have hnl := h.ok.hn
  have HH := Lib.hid h
  have HA := fun W => @half_any W (S.was.length : Int) (half : Int) (by omega)
  rw [halfF_nat hh] at HA
  have hle := lfst_le (n := S.was.length) hh
  have HSE := Lib.hid (show hsec S half = (S.now.drop (lfst S.was.length half)).take (S.was.length / 2) from rfl)
  have RDA : Hid (∀ W (hW : PD W p bl bd S) (k : Nat) (hk : k < S.was.length / 2), Calls Tryz.prog 59 #[dp p, .int .i64 ((lfst S.was.length half + k : Nat) : Int)] W fun e w' => e = .returned (.tuple #[sv (S.now.getD (lfst S.was.length half + k) []), .int .i64 0]) ∧ Below W.heap.size W w') := Lib.hid (fun W hW k hk => by
    have := read_any hW ((lfst S.was.length half + k : Nat) : Int)
    have e1 : S.rdE ((lfst S.was.length half + k : Nat) : Int) = 0 := by simp [DS.rdE, ho, DS.has]; omega
    have e2 : S.rdV ((lfst S.was.length half + k : Nat) : Int) = S.now.getD (lfst S.was.length half + k) [] := by rw [DS.rdV, e1, if_pos rfl]; rfl
    rwa [e1, e2] at this)
  have HNX := Lib.hid (fun k (hk : k < S.was.length / 2) => @drop_next S.now (lfst S.was.length half) k (by omega))
  have HLN := Lib.hid (fun k (hk : k ≤ S.was.length / 2) => show ((S.now.drop (lfst S.was.length half)).take k).length = k by simp; omega)
  obtain ⟨f, hf⟩ : ∃ f, f = lfst S.was.length half := ⟨_, rfl⟩
  obtain ⟨m, hm⟩ : ∃ m, m = S.was.length / 2 := ⟨_, rfl⟩
  rw [← hf, ← hm] at HA hle HSE RDA HNX
  rw [← hf, ← hm] at HLN
  generalize S.was.length = n at SC HA hn2 hnl hle
  clear hf hm h
  go_enter Tryz.func29, Tryz.ntmps29
  go_wp2_with (first
    | (go_at_call 58; refine SC.mono ?_; rintro e w1 ⟨rfl, hb1⟩)
    | (go_at_call 16; refine (HA _).mono ?_; rintro e w2 ⟨rfl, rfl⟩))
  have HB1 := Lib.hid hb1
  clear hb1 SC HA
  go_loopw [7, 8] (fun o i wr => ∃ k : Nat, k ≤ m ∧ i = .int .i64 k ∧ Ro w wr o ((S.now.drop f).take k)) (fun _ i _ => m - (RowKit.intOf i).toNat)
  case atStart => exact ⟨0, Nat.zero_le _, rfl, by simpa using (Ro.nil w).step HB1.out⟩
  case round =>
    obtain ⟨k, hk, rfl, hro⟩ := hrel
    have HRO := Lib.hid hro
    obtain ⟨A', c', rfl, _⟩ := hro.form
    have hlen := HLN.out k hk
    clear hro
    by_cases hlt : k < m
    · have hlt' : (k : Int) < (m : Int) := by omega
      have RK := fun W hW => RDA.out W hW k hlt
      have HN := Lib.hid (HNX.out k hlt)
      obtain ⟨P, hP⟩ : ∃ P, P = (S.now.drop f).take k := ⟨_, rfl⟩
      rw [← hP] at HN HRO hlen ⊢
      have HLEN := Lib.hid hlen
      obtain ⟨X, hX⟩ : ∃ X, X = S.now.getD (f + k) [] := ⟨_, rfl⟩
      rw [← hX] at HN RK
      obtain ⟨z, hz⟩ : ∃ z : Int, z = ((f + k : Nat) : Int) := ⟨_, rfl⟩
      rw [← hz] at RK
      have hwz : IntKind.i64.wrap ((f : Int) + (k : Int)) = z := by rw [IntWalk.i64_in _ (by omega), hz]; push_cast; rfl
      clear hP hX hz hlen
      go_wp2_with (first
        | (go_at_call 59; with_reducible refine (RK _ (HH.out.below HRO.out.below)).mono ?_; rintro e w5 ⟨rfl, hb5⟩)
        | (at_builtin; obtain ⟨v7, w7, hr7, HR7⟩ := Ro.app ((HRO.out.step hb5).step (below_alloc w5 (.cells #[sv X] 9))) (Tx.lit1 w5 X) 1 (by rw [HLEN.out, List.length_singleton]; omega); rw [List.length_singleton] at hr7; refine wpList_builtin2_runF _ rfl .append Builtin.append_ _ _ _ _ rfl (fun _ _ _ => rfl) (.slice A' P.length c') (.slice (some ⟨w5.heap.size, 0, none⟩) 1 1) rfl rfl hr7 ?_; clear hr7))
      go_roundw
      case rel => exact ⟨k + 1, by omega, by go_num, by rw [HN.out]; exact HR7⟩
      case measure => simp [RowKit.intOf]; omega
    · obtain rfl : k = m := by omega
      go_wp2_with fail
      go_ret
      exact ⟨_, rfl, by rw [HSE.out]; exact HRO.out⟩
end Go.Proofs.YthfnncahmccgkaaGreatDoor

