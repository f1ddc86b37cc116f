/-
  The reference's May and Same.
  The reference's Encode.
-/
import Derived.Test.YtnaoandleelbkaaGreatDoorJRAnch
import Derived.Test.YtnaoandleelbkaaGreatDoorGSame
import Derived.Test.YtnaoandleelbkaaGreatDoorERn
namespace Go.Proofs.YtnaoandleelbkaaGreatDoor
set_option linter.unusedSimpArgs false
set_option linter.unusedVariables false
open Go Go.RowKit
set_option maxRecDepth 100000

/-- Block k is a box with a certificate. -/
def CQB (W : World) (k : Nat) (c : Ct) (nv : Value) : Prop := W.heap[k]? = some (.cells #[sv c.key, sv c.sig, nv, .int .i64 c.fr, .int .i64 c.un, .bool c.ca] 39 (0, 0))
theorem CQB.lt {W : World} {k : Nat} {c : Ct} {nv : Value} (h : CQB W k c nv) : k < W.heap.size := lt_of_blk h
theorem CQB.new (W : World) (c : Ct) (nv : Value) : CQB (W.alloc (cellsQ c nv)) W.heap.size c nv := heap_alloc_new W _
theorem CQB.below {W W' : World} {k n : Nat} {c : Ct} {nv : Value} (h : CQB W k c nv) (hb : Below n W W') (hn : k < n) : CQB W' k c nv := (hb.block k hn).trans h
theorem CQB.step {W W' : World} {k : Nat} {c : Ct} {nv : Value} (h : CQB W k c nv) (hb : Below W.heap.size W W') : CQB W' k c nv := h.below hb h.lt
theorem CQB.c0 {W : World} {k : Nat} {c : Ct} {nv : Value} (h : CQB W k c nv) : W.cell? ⟨k, 0, none⟩ = some (sv c.key) := by rw [cellAt h]; rfl
theorem CQB.c1 {W : World} {k : Nat} {c : Ct} {nv : Value} (h : CQB W k c nv) : W.cell? ⟨k, 1, none⟩ = some (sv c.sig) := by rw [cellAt h]; rfl
theorem CQB.c2 {W : World} {k : Nat} {c : Ct} {nv : Value} (h : CQB W k c nv) : W.cell? ⟨k, 2, none⟩ = some nv := by rw [cellAt h]; rfl
theorem CQB.c3 {W : World} {k : Nat} {c : Ct} {nv : Value} (h : CQB W k c nv) : W.cell? ⟨k, 3, none⟩ = some (.int .i64 c.fr) := by rw [cellAt h]; rfl
theorem CQB.c4 {W : World} {k : Nat} {c : Ct} {nv : Value} (h : CQB W k c nv) : W.cell? ⟨k, 4, none⟩ = some (.int .i64 c.un) := by rw [cellAt h]; rfl
theorem CQB.c5 {W : World} {k : Nat} {c : Ct} {nv : Value} (h : CQB W k c nv) : W.cell? ⟨k, 5, none⟩ = some (.bool c.ca) := by rw [cellAt h]; rfl
theorem CQB.free {W : World} {k : Nat} {c : Ct} {nv : Value} (h : CQB W k c nv) (j : Nat) : W.frozen? ⟨k, j, none⟩ = false := freeAt h j


theorem may_not {r : Bool} {p : Prop} (h : r = true ↔ p) (hn : p → False) : r = false := by
  cases r with
  | false => rfl
  | true => exact (hn (h.1 rfl)).elim
set_option maxHeartbeats 8000000 in
theorem rmay14_any {w : World} (c : Ct) (A : Option Addr) (cp : Nat) (hx : SX w (.slice A c.names.length cp) c.names) (hs : shortC c) :
    Calls Tryz.prog 27 #[certV c (.slice A c.names.length cp)] w fun e w' => e = .returned (.bool (mayC c)) ∧ Below w.heap.size w w' := by
  obtain ⟨r, hr⟩ : ∃ r, r = mayC c := ⟨_, rfl⟩
  have HM := Lib.hid ((show (r = true) ↔ (mayC c = true) by rw [hr]).trans mayC_iff)
  rw [← hr]
  have HC := Lib.hid (CQB.new w c (.slice A c.names.length cp))
  have HW := Lib.hid (below_alloc w (cellsQ c (.slice A c.names.length cp)))
  have HX := Lib.hid hx
  have hnl : c.names.length ≤ 1000000 := hs.2.2.1
  have HNS := Lib.hid hs.2.2.2
  clear hr hx hs
  obtain ⟨key, sig, names, fr, un, ca⟩ := c
  simp only at HM HX hnl HNS HC HW
  obtain ⟨k0, hk0⟩ : ∃ k, k = w.heap.size := ⟨_, rfl⟩
  unfold certV
  simp only
  have hzk := str_size key
  have hzs := str_size sig
  go_enter Tryz.func27, Tryz.ntmps27
  go_wp2_with fail
  go_loopw [3] (fun i wr => ∃ k : Nat, k ≤ names.length ∧ i = .int .i64 (k : Int) ∧ (∀ x ∈ names.take k, patL x = true) ∧ CQB wr w.heap.size ⟨key, sig, names, fr, un, ca⟩ (.slice A names.length cp) ∧ Below w.heap.size w wr) (fun i _ => names.length - (intOf i).toNat)
  case atStart => exact ⟨0, Nat.zero_le _, rfl, (fun x hx => by simp at hx), HC.out, HW.out⟩
  case round =>
    clear HC HW
    obtain ⟨k, hk, rfl, hall, hcb, hb⟩ := hrel
    have HA := Lib.hid hall
    have HC := Lib.hid hcb
    have HB := Lib.hid hb
    have p0 := hcb.c0
    have p1 := hcb.c1
    have p2 := hcb.c2
    have p3 := hcb.c3
    have p4 := hcb.c4
    simp only at p0 p1 p2 p3 p4
    clear hall hcb hb
    by_cases hlt : k < names.length
    · obtain ⟨g, off, rfl, _, c1⟩ := (HX.out.step HB.out).at hlt
      have hlt' : (k : Int) < (names.length : Int) := by omega
      have HTK := Lib.hid (take_text hlt)
      have HIN := Lib.hid (mem_getD hlt)
      obtain ⟨x, hxe⟩ : ∃ x, x = names.getD k [] := ⟨_, rfl⟩
      rw [← hxe] at c1 HTK HIN
      have HP := Lib.hid (rpattern_any x wr (HNS.out x HIN.out))
      clear hxe
      cases hp : patL x with
      | false =>
        rw [hp] at HP
        have HF := Lib.hid (show r = false by
          cases h : r with
          | false => rfl
          | true =>
            have := (HM.out.1 h).2.2.1 x HIN.out
            rw [hp] at this; cases this)
        clear hp
        go_wp2_with (go_at_call 75; with_reducible refine HP.out.mono ?_; rintro e w1 ⟨rfl, hb1⟩)
        go_ret
        rw [HF.out]
        exact ⟨rfl, HB.out.trans (hb1.mono HB.out.size)⟩
      | true =>
        rw [hp] at HP
        have HN := Lib.hid (show ∀ y ∈ names.take (k + 1), patL y = true by
          intro y hy
          rw [HTK.out] at hy
          rcases List.mem_append.1 hy with hy | hy
          · exact HA.out y hy
          · rw [List.mem_singleton.1 hy]; exact hp)
        clear hp
        go_wp2_with (go_at_call 75; with_reducible refine HP.out.mono ?_; rintro e w1 ⟨rfl, hb1⟩)
        go_roundw
        case rel => exact ⟨k + 1, by omega, by go_num, HN.out, HC.out.step hb1, HB.out.trans (hb1.mono HB.out.size)⟩
        case measure => simp [intOf]; omega
    · obtain rfl : k = names.length := by omega
      rw [List.take_length] at HA
      by_cases h0 : 1 ≤ key.length
      case neg =>
        have HR := Lib.hid (may_not HM.out (fun h => absurd h.1.1 h0))
        have hi0 : ¬ (1 : Int) ≤ (key.length : Int) := by omega
        have hd0 : decide ((1 : Int) ≤ (key.length : Int)) = false := by rw [decide_eq_false_iff_not]; exact hi0
        go_wp2_with fail
        go_ret
        rw [HR.out]
        exact ⟨rfl, HB.out⟩
      have hi0 : (1 : Int) ≤ (key.length : Int) := by omega
      have hd0 : decide ((1 : Int) ≤ (key.length : Int)) = true := by rw [decide_eq_true_eq]; exact hi0
      by_cases h1 : key.length ≤ 64
      case neg =>
        have HR := Lib.hid (may_not HM.out (fun h => absurd h.1.2 h1))
        have hi1 : ¬ (key.length : Int) ≤ 64 := by omega
        have hd1 : decide ((key.length : Int) ≤ 64) = false := by rw [decide_eq_false_iff_not]; exact hi1
        go_wp2_with fail
        go_ret
        rw [HR.out]
        exact ⟨rfl, HB.out⟩
      have hi1 : (key.length : Int) ≤ 64 := by omega
      have hd1 : decide ((key.length : Int) ≤ 64) = true := by rw [decide_eq_true_eq]; exact hi1
      by_cases h2 : sig.length = 32
      case neg =>
        have HR := Lib.hid (may_not HM.out (fun h => absurd h.2.1 h2))
        have hi2 : ¬ (sig.length : Int) = 32 := by omega
        have hd2 : ((sig.length : Int) == 32) = false := by simpa using hi2
        go_wp2_with fail
        go_ret
        rw [HR.out]
        exact ⟨rfl, HB.out⟩
      have hi2 : (sig.length : Int) = 32 := by omega
      by_cases h3 : 0 ≤ fr
      case neg =>
        have HR := Lib.hid (may_not HM.out (fun h => absurd h.2.2.2.1.1 h3))
        have hi3 : ¬ (0 : Int) ≤ fr := by omega
        have hd3 : decide ((0 : Int) ≤ fr) = false := by rw [decide_eq_false_iff_not]; exact hi3
        go_wp2_with fail
        go_ret
        rw [HR.out]
        exact ⟨rfl, HB.out⟩
      have hi3 : (0 : Int) ≤ fr := by omega
      have hd3 : decide ((0 : Int) ≤ fr) = true := by rw [decide_eq_true_eq]; exact hi3
      by_cases h4 : fr ≤ 1099511627776
      case neg =>
        have HR := Lib.hid (may_not HM.out (fun h => absurd h.2.2.2.1.2 h4))
        have hi4 : ¬ fr ≤ 1099511627776 := by omega
        have hd4 : decide (fr ≤ 1099511627776) = false := by rw [decide_eq_false_iff_not]; exact hi4
        go_wp2_with fail
        go_ret
        rw [HR.out]
        exact ⟨rfl, HB.out⟩
      have hi4 : fr ≤ 1099511627776 := by omega
      have hd4 : decide (fr ≤ 1099511627776) = true := by rw [decide_eq_true_eq]; exact hi4
      by_cases h5 : 0 ≤ un
      case neg =>
        have HR := Lib.hid (may_not HM.out (fun h => absurd h.2.2.2.2.1 h5))
        have hi5 : ¬ (0 : Int) ≤ un := by omega
        have hd5 : decide ((0 : Int) ≤ un) = false := by rw [decide_eq_false_iff_not]; exact hi5
        go_wp2_with fail
        go_ret
        rw [HR.out]
        exact ⟨rfl, HB.out⟩
      have hi5 : (0 : Int) ≤ un := by omega
      have hd5 : decide ((0 : Int) ≤ un) = true := by rw [decide_eq_true_eq]; exact hi5
      by_cases h6 : un ≤ 1099511627776
      case neg =>
        have HR := Lib.hid (may_not HM.out (fun h => absurd h.2.2.2.2.2 h6))
        have hi6 : ¬ un ≤ 1099511627776 := by omega
        have hd6 : decide (un ≤ 1099511627776) = false := by rw [decide_eq_false_iff_not]; exact hi6
        go_wp2_with fail
        go_ret
        rw [HR.out]
        exact ⟨rfl, HB.out⟩
      have hi6 : un ≤ 1099511627776 := by omega
      have hd6 : decide (un ≤ 1099511627776) = true := by rw [decide_eq_true_eq]; exact hi6
      have HR := Lib.hid (show r = true from HM.out.2 ⟨⟨h0, h1⟩, h2, HA.out, ⟨h3, h4⟩, ⟨h5, h6⟩⟩)
      go_wp2_with fail
      go_ret
      rw [HR.out]
      exact ⟨rfl, HB.out⟩
end Go.Proofs.YtnaoandleelbkaaGreatDoor

namespace Go.Proofs.YtnaoandleelbkaaGreatDoor
set_option linter.unusedSimpArgs false
set_option linter.unusedVariables false
open Go Go.RowKit
set_option maxRecDepth 100000

theorem namesL_snoc (l : List (List UInt8)) (x : List UInt8) : namesL (l ++ [x]) = namesL l ++ putT 130 x := by
  unfold namesL
  rw [List.map_append, putsL_app]
  simp [putsL, nameT]
theorem yes_ca (b : Bool) : yesL b = caL b := by cases b <;> rfl
theorem rowC_six (c : Ct) : rowC c = ((((putT 48 (putT 4 c.key) ++ putT 4 c.sig) ++ putT 48 (namesL c.names)) ++ putT 2 (intL c.fr)) ++ putT 2 (intL c.un)) ++ putT 1 (caL c.ca) := by
  unfold rowC partsC
  simp [putsL]
set_option maxHeartbeats 16000000 in
theorem rencode_any {w : World} (c : Ct) (A : Option Addr) (cp : Nat) (hx : SX w (.slice A c.names.length cp) c.names) (hs : shortC c) :
    Calls Tryz.prog 26 #[certV c (.slice A c.names.length cp)] w fun e w' => e = .returned (.tuple #[sv (encL c), .int .i64 (encE c : Nat)]) ∧ Below w.heap.size w w' := by
  have hb0 := below_alloc w (cellsQ c (.slice A c.names.length cp))
  have HMY := Lib.hid (fun W (h : Below w.heap.size w W) => @rmay14_any W c A cp (hx.step h) hs)
  have HC := Lib.hid (CQB.new w c (.slice A c.names.length cp))
  have HB := Lib.hid hb0
  have HX := Lib.hid hx
  have hnl : c.names.length ≤ 1000000 := hs.2.2.1
  by_cases hm : mayC c = true
  case neg =>
    have hm : mayC c = false := by simpa using hm
    have HE := Lib.hid (show encE c = 4 from encE_form.2 (.inl hm))
    have HL := Lib.hid (show encL c = [] from encE_not (by rw [HE.out]; decide))
    rw [hm] at HMY
    obtain ⟨key, sig, names, fr, un, ca⟩ := c
    simp only at HMY HC HB HX hnl
    unfold certV at HMY ⊢
    simp only at HMY ⊢
    clear hx hs hm hb0
    have p0 := HC.out.c0
    have p1 := HC.out.c1
    have p2 := HC.out.c2
    have p3 := HC.out.c3
    have p4 := HC.out.c4
    have p5 := HC.out.c5
    go_enter Tryz.func26, Tryz.ntmps26
    go_wp2_with (go_at_call 27; refine (HMY.out _ HB.out).mono ?_; rintro e w1 ⟨rfl, hb1⟩)
    go_ret2
    rw [HL.out, HE.out]
    exact ⟨rfl, HB.out.trans (hb1.mono HB.out.size)⟩
  by_cases h64 : 64 < c.names.length
  · have HE := Lib.hid (show encE c = 4 from encE_form.2 (.inr h64))
    have HL := Lib.hid (show encL c = [] from encE_not (by rw [HE.out]; decide))
    rw [hm] at HMY
    obtain ⟨key, sig, names, fr, un, ca⟩ := c
    simp only at HMY HC HB HX hnl h64
    unfold certV at HMY ⊢
    simp only at HMY ⊢
    have h64' : (64 : Int) < (names.length : Int) := by omega
    clear hx hs hm hb0
    have p0 := HC.out.c0
    have p1 := HC.out.c1
    have p2 := HC.out.c2
    have p3 := HC.out.c3
    have p4 := HC.out.c4
    have p5 := HC.out.c5
    go_enter Tryz.func26, Tryz.ntmps26
    go_wp2_with (go_at_call 27; refine (HMY.out _ HB.out).mono ?_; rintro e w1 ⟨rfl, hb1⟩; have q2 := (HC.out.step hb1).c2; (try simp only at q2))
    go_ret2
    rw [HL.out, HE.out]
    exact ⟨rfl, HB.out.trans (hb1.mono HB.out.size)⟩
  have hfw : fewB c = true := fewB_iff.2 ⟨hm, by omega⟩
  have hrl := row_le hfw
  have h6 := rowC_six c
  obtain ⟨hk, hsl, hpat, ⟨hfr1, hfr2⟩, hun1, hun2⟩ := mayC_iff.1 hm
  have HE := Lib.hid (show encE c = if 512 < (writeC c).length then 40 else 0 by unfold encE; rw [hfw, if_neg (by simp)])
  have HL := Lib.hid (show encL c = if encE c = 0 then writeC c else [] from rfl)
  have hwd : writeC c = putT 48 (rowC c) := rfl
  have HTL := Lib.hid (fun k => names_take_le hpat (by omega : c.names.length ≤ 64) k)
  have HPL := Lib.hid (fun n (h : n ∈ c.names) => pat_len (hpat n h))
  rw [hm] at HMY
  have hkb : spkiL c.key = putT 48 (putT 4 c.key) := by unfold spkiL; rw [keyB_iff.2 hk]; rfl
  rw [hwd] at HE HL
  generalize encE c = E at HE HL ⊢
  generalize encL c = El at HL ⊢
  obtain ⟨key, sig, names, fr, un, ca⟩ := c
  simp only at HMY HC HB HX hnl h64 h6 hk hsl hfr1 hfr2 hun1 hun2 HTL HPL hkb
  unfold certV at HMY ⊢
  simp only at HMY ⊢
  have HSP := Lib.hid (fun W : World => @rspki_any W key (by omega))
  rw [hkb] at HSP
  have H4 := Lib.hid (fun W : World => @rthing_any 4 4 sig rfl tag4 (by omega) W)
  have hN48 := fun W : World => @rthing_any 48 48 (namesL names) rfl tag48 (by have := HTL.out names.length; rw [List.take_length] at this; omega) W
  have HI1 := Lib.hid (fun W : World => @rint_any W fr (by omega))
  have HI2 := Lib.hid (fun W : World => @rint_any W un (by omega))
  have HBO := Lib.hid (fun W : World => @rbool_any W ca)
  rw [yes_ca] at HBO
  have hg1 := putT_ge 2 (intL fr)
  have hg2 := putT_ge 2 (intL un)
  have hg3 := putT_ge 1 (caL ca)
  obtain ⟨K, hK⟩ : ∃ x, x = putT 48 (putT 4 key) := ⟨_, rfl⟩
  obtain ⟨S, hS⟩ : ∃ x, x = putT 4 sig := ⟨_, rfl⟩
  obtain ⟨I1, hI1⟩ : ∃ x, x = intL fr := ⟨_, rfl⟩
  obtain ⟨I2, hI2⟩ : ∃ x, x = intL un := ⟨_, rfl⟩
  obtain ⟨CA, hCA⟩ : ∃ x, x = caL ca := ⟨_, rfl⟩
  obtain ⟨NL, hNL⟩ : ∃ x, x = namesL names := ⟨_, rfl⟩
  obtain ⟨RW, hRW⟩ : ∃ x, x = rowC ⟨key, sig, names, fr, un, ca⟩ := ⟨_, rfl⟩
  rw [← hRW] at hrl h6 HE HL
  rw [← hI1] at hg1 h6 HI1
  rw [← hI2] at hg2 h6 HI2
  rw [← hCA] at hg3 h6 HBO
  rw [← hNL] at h6 hN48
  rw [← hK] at h6 HSP
  rw [← hS] at h6 H4
  obtain ⟨N8, hN8⟩ : ∃ x, x = putT 48 NL := ⟨_, rfl⟩
  obtain ⟨F2, hF2⟩ : ∃ x, x = putT 2 I1 := ⟨_, rfl⟩
  obtain ⟨U2, hU2⟩ : ∃ x, x = putT 2 I2 := ⟨_, rfl⟩
  obtain ⟨B1, hB1⟩ : ∃ x, x = putT 1 CA := ⟨_, rfl⟩
  rw [← hN8] at h6 hN48
  rw [← hF2] at h6 hg1
  rw [← hU2] at h6 hg2
  rw [← hB1] at h6 hg3
  obtain ⟨X1, hX1⟩ : ∃ x, x = K ++ S := ⟨_, rfl⟩
  obtain ⟨X2, hX2⟩ : ∃ x, x = X1 ++ N8 := ⟨_, rfl⟩
  obtain ⟨X3, hX3⟩ : ∃ x, x = X2 ++ F2 := ⟨_, rfl⟩
  obtain ⟨X4, hX4⟩ : ∃ x, x = X3 ++ U2 := ⟨_, rfl⟩
  rw [← hX1, ← hX2, ← hX3, ← hX4] at h6
  have l1 : X1.length = K.length + S.length := by rw [hX1, List.length_append]
  have l2 : X2.length = X1.length + N8.length := by rw [hX2, List.length_append]
  have l3 : X3.length = X2.length + F2.length := by rw [hX3, List.length_append]
  have l4 : X4.length = X3.length + U2.length := by rw [hX4, List.length_append]
  have l5 : RW.length = X4.length + B1.length := by rw [h6, List.length_append]
  have a1 : str K ++ str S = str X1 := by rw [hX1]; exact str_appendE K S
  have a2 : str X1 ++ str N8 = str X2 := by rw [hX2]; exact str_appendE X1 N8
  have a3 : str X2 ++ str F2 = str X3 := by rw [hX3]; exact str_appendE X2 F2
  have a4 : str X3 ++ str U2 = str X4 := by rw [hX4]; exact str_appendE X3 U2
  have a5 : str X4 ++ str B1 = str RW := by rw [h6]; exact str_appendE X4 B1
  have HN48 := Lib.hid hN48
  have h2F := fun W : World => @rthing_any 2 2 I1 rfl tag2 (by omega) W
  have h2U := fun W : World => @rthing_any 2 2 I2 rfl tag2 (by omega) W
  have h1 := fun W : World => @rthing_any 1 1 CA rfl tag1 (by omega) W
  have hR48 := fun W : World => @rthing_any 48 48 RW rfl tag48 (by omega) W
  rw [← hF2] at h2F
  rw [← hU2] at h2U
  rw [← hB1] at h1
  obtain ⟨WC, hWC⟩ : ∃ x, x = putT 48 RW := ⟨_, rfl⟩
  rw [← hWC] at hR48 HE HL
  have H2F := Lib.hid h2F
  have H2U := Lib.hid h2U
  have H1 := Lib.hid h1
  have HR48 := Lib.hid hR48
  have z1 := str_size K
  have z2 := str_size S
  have z3 := str_size X1
  have z4 := str_size N8
  have z5 := str_size X2
  have z6 := str_size F2
  have z7 := str_size X3
  have z8 := str_size U2
  have z9 := str_size X4
  have z10 := str_size B1
  have z11 := str_size WC
  have hwl : WC.length ≤ 17004 := by have := putT_most 48 RW; rw [hWC]; omega
  have b1 : ¬ 9223372036854775807 < K.length + S.length := by omega
  have b2 : ¬ 9223372036854775807 < X1.length + N8.length := by omega
  have b3 : ¬ 9223372036854775807 < X2.length + F2.length := by omega
  have b4 : ¬ 9223372036854775807 < X3.length + U2.length := by omega
  have b5 : ¬ 9223372036854775807 < X4.length + B1.length := by omega
  have HALL := Lib.hid (And.intro a1 (And.intro a2 (And.intro a3 (And.intro a4 a5))))
  have HALB := Lib.hid (And.intro b1 (And.intro b2 (And.intro b3 (And.intro b4 b5))))
  have HNL := Lib.hid hNL
  have h64' : ¬ (64 : Int) < (names.length : Int) := by omega
  clear hx hs hm hb0 hfw hrl h6 hk hsl hpat hfr1 hfr2 hun1 hun2 hwd hkb hg1 hg2 hg3 hK hS hI1 hI2 hCA hNL hRW hN8 hF2 hU2 hB1 hX1 hX2 hX3 hX4 hWC l1 l2 l3 l4 l5 a1 a2 a3 a4 a5 b1 b2 b3 b4 b5 h2F h2U h1 hR48 hN48
  have p0 := HC.out.c0
  have p1 := HC.out.c1
  have p2 := HC.out.c2
  have p3 := HC.out.c3
  have p4 := HC.out.c4
  have p5 := HC.out.c5
  go_enter Tryz.func26, Tryz.ntmps26
  go_wp2_with (go_at_call 27; refine (HMY.out _ HB.out).mono ?_; rintro e w1 ⟨rfl, hb1⟩; have HC1 := Lib.hid (HC.out.step hb1); have HB1 := Lib.hid (HB.out.trans (hb1.mono HB.out.size)); have q2 := HC1.out.c2; (try simp only at q2); clear hb1)
  clear p0 p1 p2 p3 p4 p5 q2
  go_loopw [4, 5] (fun v i wr => ∃ k : Nat, k ≤ names.length ∧ i = .int .i64 (k : Int) ∧ v = sv (namesL (names.take k)) ∧ CQB wr w.heap.size ⟨key, sig, names, fr, un, ca⟩ (.slice A names.length cp) ∧ Below w.heap.size w wr) (fun _ i _ => names.length - (intOf i).toNat)
  case atStart => exact ⟨0, Nat.zero_le _, rfl, rfl, HC1.out, HB1.out⟩
  case round =>
    clear HC1 HB1
    obtain ⟨k, hk, rfl, rfl, hcb, hb⟩ := hrel
    have HCr := Lib.hid hcb
    have HBr := Lib.hid hb
    have p2 := hcb.c2
    try simp only at p2
    clear hcb hb
    by_cases hlt : k < names.length
    · obtain ⟨g, off, rfl, _, c1⟩ := (HX.out.step HBr.out).at hlt
      have hlt' : (k : Int) < (names.length : Int) := by omega
      have htk := take_text hlt
      have hin := mem_getD hlt
      obtain ⟨x, hxe⟩ : ∃ x, x = names.getD k [] := ⟨_, rfl⟩
      rw [← hxe] at c1 htk hin
      have hxl := HPL.out x hin
      have H130 := Lib.hid (fun W : World => @rthing_any 130 130 x rfl tag130 (by omega) W)
      have hn1 := HTL.out k
      have hn2 := HTL.out (k + 1)
      have hsn := namesL_snoc (names.take k) x
      rw [← htk] at hsn
      obtain ⟨Q, hQ⟩ : ∃ Q, Q = namesL (names.take k) := ⟨_, rfl⟩
      obtain ⟨T, hT⟩ : ∃ T, T = putT 130 x := ⟨_, rfl⟩
      rw [← hQ] at hsn hn1 ⊢
      rw [← hT] at hsn H130
      obtain ⟨Q2, hQ2⟩ : ∃ Q2, Q2 = namesL (names.take (k + 1)) := ⟨_, rfl⟩
      rw [← hQ2] at hsn hn2
      have hap : str Q ++ str T = str Q2 := by rw [hsn]; exact str_appendE Q T
      have hql : Q2.length = Q.length + T.length := by rw [hsn, List.length_append]
      have hbd : ¬ 9223372036854775807 < Q.length + T.length := by omega
      have y1 := str_size Q
      have y2 := str_size T
      have HQ2 := Lib.hid hQ2
      clear hsn hQ hT hQ2 htk hin hxe hql
      go_wp2_with (go_at_call 72; (with_reducible refine (H130.out _).mono ?_); rintro e w2 ⟨rfl, hb2⟩; have HC2 := Lib.hid (HCr.out.step hb2); have HB2 := Lib.hid (HBr.out.trans (hb2.mono HBr.out.size)); clear hb2)
      go_roundw
      case rel => exact ⟨k + 1, by omega, by go_num, by rw [← HQ2.out], HC2.out, HB2.out⟩
      case measure => simp [intOf]; omega
    · obtain rfl : k = names.length := by omega
      rw [List.take_length, ← HNL.out]
      have HS0 := Lib.hid (show CQB wr.drew w.heap.size ⟨key, sig, names, fr, un, ca⟩ (.slice A names.length cp) ∧ Below w.heap.size w wr.drew from ⟨HCr.out.step (Below.refl _ _).drew, HBr.out.drew⟩)
      obtain ⟨a1, a2, a3, a4, a5⟩ := HALL.out
      obtain ⟨b1, b2, b3, b4, b5⟩ := HALB.out
      go_wp2_with fail
      clear p2
      refine wp_region_held_drew (S := fun W => CQB W w.heap.size ⟨key, sig, names, fr, un, ca⟩ (.slice A names.length cp) ∧ Below w.heap.size w W) (by kernel_rfl) HS0.out (fun hHeld => ?_)
      refine wpAnyH_take (i := 0) (v := ?vv0_1) rfl (by kernel_rfl) (by kernel_rfl) (by kernel_rfl) (fun _ _ _ h => h) (Or.inl ⟨by rfl, ?hy0_1⟩) (by assumption) ?rest0_1
      case hy0_1 => (intro w' hSw; (try dsimp only at hSw); go_simp; try with_reducible rfl)
      try simp only [List.getElem_toArray, List.getElem_cons_zero, List.getElem_cons_succ, Act.put, List.setIfInBounds_toArray, List.set_cons_zero, List.set_cons_succ]
      refine wpAnyH_take (i := 1) (v := sv key) rfl (by kernel_rfl) (by kernel_rfl) (by kernel_rfl) (fun _ _ _ h => h) (Or.inl ⟨by rfl, fun w' hSw => exec_load1 w' rfl rfl hSw.1.c0 Tryz.underlying9 rfl⟩) (by assumption) ?_
      try simp only [List.getElem_toArray, List.getElem_cons_zero, List.getElem_cons_succ, Act.put, List.setIfInBounds_toArray, List.set_cons_zero, List.set_cons_succ]
      refine wpAnyH_take (i := 3) (v := ?vv3_1) rfl (by kernel_rfl) (by kernel_rfl) (by kernel_rfl) (fun _ _ _ h => h) (Or.inl ⟨by rfl, ?hy3_1⟩) (by assumption) ?rest3_1
      case hy3_1 => (intro w' hSw; (try dsimp only at hSw); go_simp; try with_reducible rfl)
      try simp only [List.getElem_toArray, List.getElem_cons_zero, List.getElem_cons_succ, Act.put, List.setIfInBounds_toArray, List.set_cons_zero, List.set_cons_succ]
      refine wpAnyH_take (i := 4) (v := sv sig) rfl (by kernel_rfl) (by kernel_rfl) (by kernel_rfl) (fun _ _ _ h => h) (Or.inl ⟨by rfl, fun w' hSw => exec_load1 w' rfl rfl hSw.1.c1 Tryz.underlying9 rfl⟩) (by assumption) ?_
      try simp only [List.getElem_toArray, List.getElem_cons_zero, List.getElem_cons_succ, Act.put, List.setIfInBounds_toArray, List.set_cons_zero, List.set_cons_succ]
      refine wpAnyH_take (i := 7) (v := ?vv7_1) rfl (by kernel_rfl) (by kernel_rfl) (by kernel_rfl) (fun _ _ _ h => h) (Or.inl ⟨by rfl, ?hy7_1⟩) (by assumption) ?rest7_1
      case hy7_1 => (intro w' hSw; (try dsimp only at hSw); go_simp; try with_reducible rfl)
      try simp only [List.getElem_toArray, List.getElem_cons_zero, List.getElem_cons_succ, Act.put, List.setIfInBounds_toArray, List.set_cons_zero, List.set_cons_succ]
      refine wpAnyH_take (i := 10) (v := ?vv10_1) rfl (by kernel_rfl) (by kernel_rfl) (by kernel_rfl) (fun _ _ _ h => h) (Or.inl ⟨by rfl, ?hy10_1⟩) (by assumption) ?rest10_1
      case hy10_1 => (intro w' hSw; (try dsimp only at hSw); go_simp; try with_reducible rfl)
      try simp only [List.getElem_toArray, List.getElem_cons_zero, List.getElem_cons_succ, Act.put, List.setIfInBounds_toArray, List.set_cons_zero, List.set_cons_succ]
      refine wpAnyH_take (i := 11) (v := .int .i64 fr) rfl (by kernel_rfl) (by kernel_rfl) (by kernel_rfl) (fun _ _ _ h => h) (Or.inl ⟨by rfl, fun w' hSw => exec_load1 w' rfl rfl hSw.1.c3 Tryz.underlying3 rfl⟩) (by assumption) ?_
      try simp only [List.getElem_toArray, List.getElem_cons_zero, List.getElem_cons_succ, Act.put, List.setIfInBounds_toArray, List.set_cons_zero, List.set_cons_succ]
      refine wpAnyH_take (i := 15) (v := ?vv15_1) rfl (by kernel_rfl) (by kernel_rfl) (by kernel_rfl) (fun _ _ _ h => h) (Or.inl ⟨by rfl, ?hy15_1⟩) (by assumption) ?rest15_1
      case hy15_1 => (intro w' hSw; (try dsimp only at hSw); go_simp; try with_reducible rfl)
      try simp only [List.getElem_toArray, List.getElem_cons_zero, List.getElem_cons_succ, Act.put, List.setIfInBounds_toArray, List.set_cons_zero, List.set_cons_succ]
      refine wpAnyH_take (i := 16) (v := .int .i64 un) rfl (by kernel_rfl) (by kernel_rfl) (by kernel_rfl) (fun _ _ _ h => h) (Or.inl ⟨by rfl, fun w' hSw => exec_load1 w' rfl rfl hSw.1.c4 Tryz.underlying3 rfl⟩) (by assumption) ?_
      try simp only [List.getElem_toArray, List.getElem_cons_zero, List.getElem_cons_succ, Act.put, List.setIfInBounds_toArray, List.set_cons_zero, List.set_cons_succ]
      refine wpAnyH_take (i := 20) (v := ?vv20_1) rfl (by kernel_rfl) (by kernel_rfl) (by kernel_rfl) (fun _ _ _ h => h) (Or.inl ⟨by rfl, ?hy20_1⟩) (by assumption) ?rest20_1
      case hy20_1 => (intro w' hSw; (try dsimp only at hSw); go_simp; try with_reducible rfl)
      try simp only [List.getElem_toArray, List.getElem_cons_zero, List.getElem_cons_succ, Act.put, List.setIfInBounds_toArray, List.set_cons_zero, List.set_cons_succ]
      refine wpAnyH_take (i := 21) (v := .bool ca) rfl (by kernel_rfl) (by kernel_rfl) (by kernel_rfl) (fun _ _ _ h => h) (Or.inl ⟨by rfl, fun w' hSw => exec_load1 w' rfl rfl hSw.1.c5 Tryz.underlying4 rfl⟩) (by assumption) ?_
      try simp only [List.getElem_toArray, List.getElem_cons_zero, List.getElem_cons_succ, Act.put, List.setIfInBounds_toArray, List.set_cons_zero, List.set_cons_succ]
      refine wpAnyH_ready (rs := [2]) (by kernel_rfl) (by simp) ?_
      refine AllReadyH.cons rfl (fun K hK => ?_) AllReadyH.nil
      go_simp
      go_at_call 28
      with_reducible refine (HSP.out _).mono ?_
      rintro e wz ⟨rfl, hbz⟩
      have HS1 := Lib.hid (show CQB wz w.heap.size ⟨key, sig, names, fr, un, ca⟩ (.slice A names.length cp) ∧ Below w.heap.size w wz from ⟨hHeld.1.step hbz, hHeld.2.trans (hbz.mono hHeld.2.size)⟩)
      clear hbz
      refine hK.out _ _ HS1.out (fun hHeld => ?_)
      clear hK K
      try simp only [List.getElem_toArray, List.getElem_cons_zero, List.getElem_cons_succ, Act.put, List.setIfInBounds_toArray, List.set_cons_zero, List.set_cons_succ]
      refine wpAnyH_ready (rs := [5]) (by kernel_rfl) (by simp) ?_
      refine AllReadyH.cons rfl (fun K hK => ?_) AllReadyH.nil
      go_simp
      go_at_call 72
      with_reducible refine (H4.out _).mono ?_
      rintro e wz ⟨rfl, hbz⟩
      have HS2 := Lib.hid (show CQB wz w.heap.size ⟨key, sig, names, fr, un, ca⟩ (.slice A names.length cp) ∧ Below w.heap.size w wz from ⟨hHeld.1.step hbz, hHeld.2.trans (hbz.mono hHeld.2.size)⟩)
      clear hbz
      refine hK.out _ _ HS2.out (fun hHeld => ?_)
      clear hK K
      try simp only [List.getElem_toArray, List.getElem_cons_zero, List.getElem_cons_succ, Act.put, List.setIfInBounds_toArray, List.set_cons_zero, List.set_cons_succ]
      refine wpAnyH_take (i := 6) (v := ?vv6_1) rfl (by kernel_rfl) (by kernel_rfl) (by kernel_rfl) (fun _ _ _ h => h) (Or.inl ⟨by rfl, ?hy6_1⟩) (by assumption) ?rest6_1
      case hy6_1 => (intro w' hSw; (try dsimp only at hSw); go_simp; try with_reducible rfl)
      try simp only [List.getElem_toArray, List.getElem_cons_zero, List.getElem_cons_succ, Act.put, List.setIfInBounds_toArray, List.set_cons_zero, List.set_cons_succ]
      refine wpAnyH_ready (rs := [8]) (by kernel_rfl) (by simp) ?_
      refine AllReadyH.cons rfl (fun K hK => ?_) AllReadyH.nil
      go_simp
      go_at_call 72
      with_reducible refine (HN48.out _).mono ?_
      rintro e wz ⟨rfl, hbz⟩
      have HS3 := Lib.hid (show CQB wz w.heap.size ⟨key, sig, names, fr, un, ca⟩ (.slice A names.length cp) ∧ Below w.heap.size w wz from ⟨hHeld.1.step hbz, hHeld.2.trans (hbz.mono hHeld.2.size)⟩)
      clear hbz
      refine hK.out _ _ HS3.out (fun hHeld => ?_)
      clear hK K
      try simp only [List.getElem_toArray, List.getElem_cons_zero, List.getElem_cons_succ, Act.put, List.setIfInBounds_toArray, List.set_cons_zero, List.set_cons_succ]
      refine wpAnyH_take (i := 9) (v := ?vv9_1) rfl (by kernel_rfl) (by kernel_rfl) (by kernel_rfl) (fun _ _ _ h => h) (Or.inl ⟨by rfl, ?hy9_1⟩) (by assumption) ?rest9_1
      case hy9_1 => (intro w' hSw; (try dsimp only at hSw); go_simp; try with_reducible rfl)
      try simp only [List.getElem_toArray, List.getElem_cons_zero, List.getElem_cons_succ, Act.put, List.setIfInBounds_toArray, List.set_cons_zero, List.set_cons_succ]
      refine wpAnyH_ready (rs := [12]) (by kernel_rfl) (by simp) ?_
      refine AllReadyH.cons rfl (fun K hK => ?_) AllReadyH.nil
      go_simp
      go_at_call 73
      with_reducible refine (HI1.out _).mono ?_
      rintro e wz ⟨rfl, hbz⟩
      have HS4 := Lib.hid (show CQB wz w.heap.size ⟨key, sig, names, fr, un, ca⟩ (.slice A names.length cp) ∧ Below w.heap.size w wz from ⟨hHeld.1.step hbz, hHeld.2.trans (hbz.mono hHeld.2.size)⟩)
      clear hbz
      refine hK.out _ _ HS4.out (fun hHeld => ?_)
      clear hK K
      try simp only [List.getElem_toArray, List.getElem_cons_zero, List.getElem_cons_succ, Act.put, List.setIfInBounds_toArray, List.set_cons_zero, List.set_cons_succ]
      refine wpAnyH_ready (rs := [13]) (by kernel_rfl) (by simp) ?_
      refine AllReadyH.cons rfl (fun K hK => ?_) AllReadyH.nil
      go_simp
      go_at_call 72
      with_reducible refine (H2F.out _).mono ?_
      rintro e wz ⟨rfl, hbz⟩
      have HS5 := Lib.hid (show CQB wz w.heap.size ⟨key, sig, names, fr, un, ca⟩ (.slice A names.length cp) ∧ Below w.heap.size w wz from ⟨hHeld.1.step hbz, hHeld.2.trans (hbz.mono hHeld.2.size)⟩)
      clear hbz
      refine hK.out _ _ HS5.out (fun hHeld => ?_)
      clear hK K
      try simp only [List.getElem_toArray, List.getElem_cons_zero, List.getElem_cons_succ, Act.put, List.setIfInBounds_toArray, List.set_cons_zero, List.set_cons_succ]
      refine wpAnyH_take (i := 14) (v := ?vv14_1) rfl (by kernel_rfl) (by kernel_rfl) (by kernel_rfl) (fun _ _ _ h => h) (Or.inl ⟨by rfl, ?hy14_1⟩) (by assumption) ?rest14_1
      case hy14_1 => (intro w' hSw; (try dsimp only at hSw); go_simp; try with_reducible rfl)
      try simp only [List.getElem_toArray, List.getElem_cons_zero, List.getElem_cons_succ, Act.put, List.setIfInBounds_toArray, List.set_cons_zero, List.set_cons_succ]
      refine wpAnyH_ready (rs := [17]) (by kernel_rfl) (by simp) ?_
      refine AllReadyH.cons rfl (fun K hK => ?_) AllReadyH.nil
      go_simp
      go_at_call 73
      with_reducible refine (HI2.out _).mono ?_
      rintro e wz ⟨rfl, hbz⟩
      have HS6 := Lib.hid (show CQB wz w.heap.size ⟨key, sig, names, fr, un, ca⟩ (.slice A names.length cp) ∧ Below w.heap.size w wz from ⟨hHeld.1.step hbz, hHeld.2.trans (hbz.mono hHeld.2.size)⟩)
      clear hbz
      refine hK.out _ _ HS6.out (fun hHeld => ?_)
      clear hK K
      try simp only [List.getElem_toArray, List.getElem_cons_zero, List.getElem_cons_succ, Act.put, List.setIfInBounds_toArray, List.set_cons_zero, List.set_cons_succ]
      refine wpAnyH_ready (rs := [18]) (by kernel_rfl) (by simp) ?_
      refine AllReadyH.cons rfl (fun K hK => ?_) AllReadyH.nil
      go_simp
      go_at_call 72
      with_reducible refine (H2U.out _).mono ?_
      rintro e wz ⟨rfl, hbz⟩
      have HS7 := Lib.hid (show CQB wz w.heap.size ⟨key, sig, names, fr, un, ca⟩ (.slice A names.length cp) ∧ Below w.heap.size w wz from ⟨hHeld.1.step hbz, hHeld.2.trans (hbz.mono hHeld.2.size)⟩)
      clear hbz
      refine hK.out _ _ HS7.out (fun hHeld => ?_)
      clear hK K
      try simp only [List.getElem_toArray, List.getElem_cons_zero, List.getElem_cons_succ, Act.put, List.setIfInBounds_toArray, List.set_cons_zero, List.set_cons_succ]
      refine wpAnyH_take (i := 19) (v := ?vv19_1) rfl (by kernel_rfl) (by kernel_rfl) (by kernel_rfl) (fun _ _ _ h => h) (Or.inl ⟨by rfl, ?hy19_1⟩) (by assumption) ?rest19_1
      case hy19_1 => (intro w' hSw; (try dsimp only at hSw); go_simp; try with_reducible rfl)
      try simp only [List.getElem_toArray, List.getElem_cons_zero, List.getElem_cons_succ, Act.put, List.setIfInBounds_toArray, List.set_cons_zero, List.set_cons_succ]
      refine wpAnyH_ready (rs := [22]) (by kernel_rfl) (by simp) ?_
      refine AllReadyH.cons rfl (fun K hK => ?_) AllReadyH.nil
      go_simp
      go_at_call 74
      with_reducible refine (HBO.out _).mono ?_
      rintro e wz ⟨rfl, hbz⟩
      have HS8 := Lib.hid (show CQB wz w.heap.size ⟨key, sig, names, fr, un, ca⟩ (.slice A names.length cp) ∧ Below w.heap.size w wz from ⟨hHeld.1.step hbz, hHeld.2.trans (hbz.mono hHeld.2.size)⟩)
      clear hbz
      refine hK.out _ _ HS8.out (fun hHeld => ?_)
      clear hK K
      try simp only [List.getElem_toArray, List.getElem_cons_zero, List.getElem_cons_succ, Act.put, List.setIfInBounds_toArray, List.set_cons_zero, List.set_cons_succ]
      refine wpAnyH_ready (rs := [23]) (by kernel_rfl) (by simp) ?_
      refine AllReadyH.cons rfl (fun K hK => ?_) AllReadyH.nil
      go_simp
      go_at_call 72
      with_reducible refine (H1.out _).mono ?_
      rintro e wz ⟨rfl, hbz⟩
      have HS9 := Lib.hid (show CQB wz w.heap.size ⟨key, sig, names, fr, un, ca⟩ (.slice A names.length cp) ∧ Below w.heap.size w wz from ⟨hHeld.1.step hbz, hHeld.2.trans (hbz.mono hHeld.2.size)⟩)
      clear hbz
      refine hK.out _ _ HS9.out (fun hHeld => ?_)
      clear hK K
      try simp only [List.getElem_toArray, List.getElem_cons_zero, List.getElem_cons_succ, Act.put, List.setIfInBounds_toArray, List.set_cons_zero, List.set_cons_succ]
      refine wpAnyH_take (i := 24) (v := ?vv24_1) rfl (by kernel_rfl) (by kernel_rfl) (by kernel_rfl) (fun _ _ _ h => h) (Or.inl ⟨by rfl, ?hy24_1⟩) (by assumption) ?rest24_1
      case hy24_1 => (intro w' hSw; (try dsimp only at hSw); go_simp; try with_reducible rfl)
      try simp only [List.getElem_toArray, List.getElem_cons_zero, List.getElem_cons_succ, Act.put, List.setIfInBounds_toArray, List.set_cons_zero, List.set_cons_succ]
      refine wpAnyH_ready (rs := [25]) (by kernel_rfl) (by simp) ?_
      refine AllReadyH.cons rfl (fun K hK => ?_) AllReadyH.nil
      go_simp
      go_at_call 72
      with_reducible refine (HR48.out _).mono ?_
      rintro e wz ⟨rfl, hbz⟩
      have HS10 := Lib.hid (show CQB wz w.heap.size ⟨key, sig, names, fr, un, ca⟩ (.slice A names.length cp) ∧ Below w.heap.size w wz from ⟨hHeld.1.step hbz, hHeld.2.trans (hbz.mono hHeld.2.size)⟩)
      clear hbz
      refine hK.out _ _ HS10.out (fun hHeld => ?_)
      clear hK K
      try simp only [List.getElem_toArray, List.getElem_cons_zero, List.getElem_cons_succ, Act.put, List.setIfInBounds_toArray, List.set_cons_zero, List.set_cons_succ]
      refine wpAnyH_take (i := 26) (v := ?vv26_1) rfl (by kernel_rfl) (by kernel_rfl) (by kernel_rfl) (fun _ _ _ h => h) (Or.inl ⟨by rfl, ?hy26_1⟩) (by assumption) ?rest26_1
      case hy26_1 => (intro w' hSw; (try dsimp only at hSw); go_simp; try with_reducible rfl)
      try simp only [List.getElem_toArray, List.getElem_cons_zero, List.getElem_cons_succ, Act.put, List.setIfInBounds_toArray, List.set_cons_zero, List.set_cons_succ]
      refine wpAnyH_done (by kernel_rfl) ?_ _
      have HBZ := Lib.hid hHeld.2
      clear hHeld
      by_cases h5 : 512 < WC.length
      · have h5' : (512 : Int) < (WC.length : Int) := by omega
        have HE2 := Lib.hid (show E = 40 by rw [HE.out, if_pos h5])
        have HL2 := Lib.hid (show El = [] by rw [HL.out, HE2.out]; rfl)
        go_wp2_with fail
        go_ret2
        rw [HE2.out, HL2.out]
        exact ⟨rfl, HBZ.out⟩
      · have h5' : ¬ (512 : Int) < (WC.length : Int) := by omega
        have HE2 := Lib.hid (show E = 0 by rw [HE.out, if_neg h5])
        have HL2 := Lib.hid (show El = WC by rw [HL.out, HE2.out]; rfl)
        go_wp2_with fail
        go_ret2
        rw [HE2.out, HL2.out]
        exact ⟨rfl, HBZ.out⟩
end Go.Proofs.YtnaoandleelbkaaGreatDoor
