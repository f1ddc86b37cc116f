/-
  The contracts of good and vouching.
-/
import Derived.Test.YtnaoandleelbkaaGreatDoorUOf
import Derived.Test.YtnaoandleelbkaaGreatDoorJGm
import Derived.Test.YtnaoandleelbkaaGreatDoorJRm
namespace Go.Proofs.YtnaoandleelbkaaGreatDoor
set_option linter.unusedSimpArgs false
set_option linter.unusedVariables false
open Go Go.RowKit
set_option maxRecDepth 100000

theorem good_next {l : List Ct} {now : Int} {k : Nat} (hk : k ≤ goodN l now) : k < goodN l now ↔ k < l.length ∧ dateB (ctAt l k) now = true ∧ linkedB (l.take (k + 1)) = true := by
  constructor
  · intro h
    obtain ⟨h1, h2, h3⟩ := good_lt.1 h
    refine ⟨h1, h2 k (Nat.le_refl _), linked_iff _ |>.2 fun j hj => ?_⟩
    rw [List.length_take] at hj
    rw [ctAt_take (by omega), ctAt_take (by omega)]
    exact h3 j (by omega)
  · rintro ⟨h1, h2, h3⟩
    refine good_lt.2 ⟨h1, fun j hj => ?_, fun j hj => ?_⟩
    · by_cases h : j = k
      · subst h; exact h2
      · exact (good_lt.1 (show k - 1 < goodN l now by omega)).2.1 j (by omega)
    · have := (linked_iff _).1 h3 j (by rw [List.length_take]; omega)
      rw [ctAt_take (by omega), ctAt_take (by omega)] at this
      exact this
set_option maxHeartbeats 4000000 in
theorem good_u {w : World} (l : List Ct) (A : Option Addr) (cp : Nat) (nv : Nat → Value) (now : Int) (hr : CR w A l nv) (hs : shortR l) (hcp : l.length ≤ cp) (hw : GA w) :
    Calls Tryz.prog 189 #[.slice A l.length cp, .int .i64 now] w fun e w' => e = .returned (.int .i64 (goodN l now : Nat)) ∧ Below w.heap.size w w' := by
  have hle := good_le l now
  have HNX := Lib.hid (fun k (h : k ≤ goodN l now) => good_next h)
  have HR := Lib.hid hr
  have HG := Lib.hid (Ga.start hw)
  have HS := Lib.hid hs
  have HD := Lib.hid (fun W (c : Ct) (a : Option Addr) (m cc : Nat) => @dates_any W c a m cc now)
  have HL := Lib.hid (fun (k : Nat) (W : World) (hb : Below w.heap.size w W) => linked_any (l.take (k + 1)) A cp nv ((hr.step hb).take (k + 1)) (hs.take (k + 1)) (hw.below hb))
  have hl6 := hs.1
  obtain ⟨N, hN⟩ : ∃ N, N = goodN l now := ⟨_, rfl⟩
  rw [← hN] at HNX hle ⊢
  clear hr hs hw hN
  go_enter Tryz.func189, Tryz.ntmps189
  go_wp2_with fail
  go_loopw [5] (fun i wr => ∃ k : Nat, k ≤ N ∧ i = .int .i64 (k : Int) ∧ Ga w wr) (fun i _ => N - (intOf i).toNat)
  case atStart => exact ⟨0, Nat.zero_le _, rfl, HG.out⟩
  case round =>
    obtain ⟨k, hk, rfl, hgb⟩ := hrel
    have HB := Lib.hid hgb
    clear hgb
    have hnx := HNX.out k hk
    by_cases hlt : k < l.length
    · obtain ⟨g, off, rfl, _, hcc, hsx⟩ := (HR.out.step HB.out.1).at hlt
      obtain ⟨a1, c1, e1⟩ := hsx.form
      rw [e1] at hcc
      obtain ⟨p0, p1, p2, p3, p4, p5⟩ := hcc
      have hlt' : (k : Int) < (l.length : Int) := by omega
      have HLK := Lib.hid (fun W hb => HL.out k W hb)
      rw [show (l.take (k + 1)).length = k + 1 by rw [List.length_take]; omega] at HLK
      obtain ⟨b1, hb1⟩ : ∃ b, b = dateB (ctAt l k) now := ⟨_, rfl⟩
      obtain ⟨b2, hb2⟩ : ∃ b, b = linkedB (l.take (k + 1)) := ⟨_, rfl⟩
      have HDT := Lib.hid (fun W => HD.out W (ctAt l k) a1 (ctAt l k).names.length c1)
      unfold certV at HDT
      rw [← hb1] at hnx HDT
      rw [← hb2] at hnx HLK
      obtain ⟨x, hx⟩ : ∃ x, x = ctAt l k := ⟨_, rfl⟩
      rw [← hx] at p0 p1 p2 p3 p4 p5 HDT
      clear hb1 hb2 hx e1 hsx
      have hk1 : k + 1 ≤ cp := by omega
      have hk1' : (k : Int) + 1 ≤ (cp : Int) := by omega
      have hk0' : (0 : Int) ≤ (k : Int) + 1 := by omega
      have hwk : IntKind.i64.wrap ((k : Int) + 1) = (k : Int) + 1 := IntWalk.i64_in _ (by omega)
      have htn : ((k : Int) + 1).toNat = k + 1 := by omega
      cases b1 with
      | false =>
        have HE := Lib.hid (show k = N by
          rcases Nat.lt_or_ge k N with h | h
          · have := (hnx.1 h).2.1; cases this
          · omega)
        clear hnx
        go_wp2_with (go_at_call 39; refine (HDT.out _).mono ?_; rintro e w1 ⟨rfl, hb1⟩; have HB1 := Lib.hid hb1; clear hb1)
        go_ret
        rw [← HE.out]
        exact ⟨rfl, (HB.out.step HB1.out).1⟩
      | true =>
        cases b2 with
        | false =>
          have HE := Lib.hid (show k = N by
            rcases Nat.lt_or_ge k N with h | h
            · have := (hnx.1 h).2.2; cases this
            · omega)
          clear hnx
          go_wp2_with (first
            | (go_at_call 39; refine (HDT.out _).mono ?_; rintro e w1 ⟨rfl, hb1⟩; have HB1 := Lib.hid hb1; clear hb1)
            | (go_at_call 36; refine (HLK.out _ (HB.out.step HB1.out).1).mono ?_; rintro e w2 ⟨rfl, hb2⟩; have HB2 := Lib.hid hb2; clear hb2))
          go_ret
          rw [← HE.out]
          exact ⟨rfl, ((HB.out.step HB1.out).step HB2.out).1⟩
        | true =>
          have hkN : k < N := hnx.2 ⟨hlt, rfl, rfl⟩
          clear hnx
          go_wp2_with (first
            | (go_at_call 39; refine (HDT.out _).mono ?_; rintro e w1 ⟨rfl, hb1⟩; have HB1 := Lib.hid hb1; clear hb1)
            | (go_at_call 36; refine (HLK.out _ (HB.out.step HB1.out).1).mono ?_; rintro e w2 ⟨rfl, hb2⟩; have HB2 := Lib.hid hb2; clear hb2))
          go_roundw
          case rel => exact ⟨k + 1, by omega, by go_num, (HB.out.step HB1.out).step HB2.out⟩
          case measure => simp [intOf]; omega
    · have HE := Lib.hid (show k = N by omega)
      have hlt' : ¬ (k : Int) < (l.length : Int) := by omega
      have hltd : decide ((k : Int) < (l.length : Int)) = false := by rw [decide_eq_false_iff_not]; exact hlt'
      clear hnx
      go_wp2_with fail
      go_ret
      rw [← HE.out]
      exact ⟨rfl, HB.out.1⟩
end Go.Proofs.YtnaoandleelbkaaGreatDoor
