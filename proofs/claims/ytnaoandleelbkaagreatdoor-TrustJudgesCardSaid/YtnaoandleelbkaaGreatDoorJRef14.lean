/-
  The reference's keys: thing, Spki, Digest.
-/
import Derived.Test.YtnaoandleelbkaaGreatDoorERm
import Derived.Test.YtnaoandleelbkaaGreatDoorZRSum
import Derived.Test.YtnaoandleelbkaaGreatDoorGLm
namespace Go.Proofs.YtnaoandleelbkaaGreatDoor
set_option linter.unusedSimpArgs false
set_option linter.unusedVariables false
open Go Go.RowKit
set_option maxRecDepth 100000

theorem rthing_any (z : Int) (t : UInt8) (v : List UInt8) (hz : z = (t.toNat : Int)) (ht : tagB t = true) (hv : v.length ≤ 65535) {w : World} :
    Calls Tryz.prog 72 #[.int .u8 z, sv v] w fun e w' => e = .returned (sv (putT t v)) ∧ Below w.heap.size w w' := by
  have HP := Lib.hid (fun W => show Calls Tryz.prog 130 #[.agg #[.int .u8 z, sv v]] W (fun e w' => e = .returned (.tuple #[sv (putT t v), .int .i64 0]) ∧ Below W.heap.size W w') by rw [hz]; exact rput_any t v ht hv)
  clear hz ht hv
  go_enter Tryz.func72, Tryz.ntmps72
  go_wp2_with (go_at_call 130; refine (HP.out _).mono ?_; rintro e w1 ⟨rfl, hb1⟩)
  go_ret
  exact ⟨rfl, hb1⟩
theorem rspki_any {w : World} (s : List UInt8) (hs : s.length ≤ 9223372036854775807) : Calls Tryz.prog 28 #[sv s] w fun e w' => e = .returned (sv (spkiL s)) ∧ Below w.heap.size w w' := by
  have hz := str_size s
  by_cases h0 : s.length < 1
  · have HS := Lib.hid (show spkiL s = [] by
      unfold spkiL
      rw [show keyB s = false by unfold keyB; rw [decide_eq_false_iff_not]; omega]; rfl)
    have h0' : (s.length : Int) < 1 := by omega
    go_enter Tryz.func28, Tryz.ntmps28
    go_wp2_with fail
    go_ret
    rw [HS.out]
    exact ⟨rfl, Below.refl _ _⟩
  have h0' : ¬ (s.length : Int) < 1 := by omega
  have h0d : decide ((s.length : Int) < 1) = false := by rw [decide_eq_false_iff_not]; exact h0'
  by_cases h1 : 64 < s.length
  · have HS := Lib.hid (show spkiL s = [] by
      unfold spkiL
      rw [show keyB s = false by unfold keyB; rw [decide_eq_false_iff_not]; omega]; rfl)
    have h1' : (64 : Int) < (s.length : Int) := by omega
    go_enter Tryz.func28, Tryz.ntmps28
    go_wp2_with fail
    go_ret
    rw [HS.out]
    exact ⟨rfl, Below.refl _ _⟩
  have h1' : ¬ (64 : Int) < (s.length : Int) := by omega
  have HS := Lib.hid (show spkiL s = putT 48 (putT 4 s) by
    unfold spkiL
    rw [show keyB s = true by unfold keyB; rw [decide_eq_true_eq]; omega]; rfl)
  have hm := putT_most 4 s
  have H4 := Lib.hid (fun W : World => @rthing_any 4 4 s rfl tag4 (by omega) W)
  have H48 := Lib.hid (fun W : World => @rthing_any 48 48 (putT 4 s) rfl tag48 (by omega) W)
  clear hm
  go_enter Tryz.func28, Tryz.ntmps28
  go_wp2_with (first | (go_at_call 72; with_reducible refine (H4.out _).mono ?_; rintro e w2 ⟨rfl, hb2⟩) | (go_at_call 72; with_reducible refine (H48.out _).mono ?_; rintro e w3 ⟨rfl, hb3⟩))
  go_ret
  rw [HS.out]
  exact ⟨rfl, hb2.trans (hb3.mono hb2.size)⟩
theorem rdigest_any {w : World} (s : List UInt8) (hs : s.length ≤ 9223372036854775807) : Calls Tryz.prog 29 #[sv s] w fun e w' => e = .returned (sv (digestL s)) ∧ Below w.heap.size w w' := by
  have HP := Lib.hid (fun W : World => @rspki_any W s hs)
  cases hk : keyB s with
  | false =>
    have HS := Lib.hid (show digestL s = [] by unfold digestL; rw [hk]; rfl)
    rw [show spkiL s = [] by unfold spkiL; rw [hk]; rfl] at HP
    clear hk
    go_enter Tryz.func29, Tryz.ntmps29
    go_wp2_with (go_at_call 28; refine (HP.out _).mono ?_; rintro e w1 ⟨rfl, hb1⟩)
    go_ret
    rw [HS.out]
    exact ⟨rfl, hb1⟩
  | true =>
    obtain ⟨h1, h64⟩ := keyB_iff.1 hk
    have hf : spkiL s = formL s := by unfold spkiL; rw [hk]; rfl
    have hl : (spkiL s).length ≤ 1000 := by rw [hf]; have := form_length h64; omega
    have hne : (spkiL s).isEmpty = false := by
      rw [hf]; have := form_length h64
      cases h : formL s with
      | nil => rw [h] at this; simp at this
      | cons _ _ => rfl
    have hne2 : ¬ spkiL s = [] := fun e => by rw [e] at hne; cases hne
    have HS := Lib.hid (show digestL s = sumP (spkiL s) by unfold digestL; rw [hk]; rfl)
    have HM := Lib.hid (fun W => rsum_any (spkiL s) W hl)
    obtain ⟨t, ht⟩ : ∃ t, t = spkiL s := ⟨_, rfl⟩
    rw [← ht] at HP HS HM hne hne2
    clear hk hf hl ht
    go_enter Tryz.func29, Tryz.ntmps29
    go_wp2_with (first
      | (go_at_call 76; with_reducible refine (HM.out _).mono ?_; rintro e w3 ⟨rfl, hb3⟩)
      | (go_at_call 28; with_reducible refine (HP.out w1).mono ?_; rintro e w2 ⟨rfl, hb2⟩)
      | (go_at_call 28; with_reducible refine (HP.out w).mono ?_; rintro e w1 ⟨rfl, hb1⟩))
    go_ret
    rw [HS.out]
    exact ⟨rfl, (hb1.trans (hb2.mono hb1.size)).trans (hb3.mono (hb1.trans (hb2.mono hb1.size)).size)⟩
end Go.Proofs.YtnaoandleelbkaaGreatDoor
