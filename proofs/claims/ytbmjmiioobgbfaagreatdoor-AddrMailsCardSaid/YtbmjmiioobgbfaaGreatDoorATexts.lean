/-
  The contract of the laws' own function 'texts': a mail's texts.
-/
import Derived.Test.YtbmjmiioobgbfaaGreatDoorALaw
namespace Go.Proofs.YtbmjmiioobgbfaaGreatDoor
open Go Go.RowKit
set_option maxRecDepth 100000

theorem take_tos {rs : List RC} {k : Nat} (hk : k < rs.length) : tosL (rs.take k) ++ [(rs.getD k rc0).1] = tosL (rs.take (k + 1)) := by
  unfold tosL
  rw [List.take_succ_eq_append_getElem hk, List.map_append, List.getD_eq_getElem?_getD, List.getElem?_eq_getElem hk]; rfl

/-- A literal of texts is a row of the call's own. -/
theorem gt_lit (w : World) (xs : List (List UInt8)) (hp : xs.length ≤ 1000) : GT w (.slice (some ⟨w.heap.size, 0, none⟩) xs.length xs.length) xs (w.alloc (.cells (xs.map sv).toArray 9)) := by
  refine ⟨(Below.refl _ _).alloc (Nat.le_refl _) _, by simp, .inr ⟨w.heap.size, xs.length, _, by simp, Nat.le_refl _, heap_alloc_new _ _, by simp, by unfold maxLen; omega, by simp, by simp; exact List.take_of_length_le (by simp)⟩⟩

set_option maxHeartbeats 4000000 in
theorem texts_any (f en tx : List UInt8) (q : Bool) (rs : List RC) (v : Value) (w : World) (hv : RcIs w v rs) (hl : rs.length ≤ 9223372036854775807) :
    Calls Tryz.prog 8 #[mailV f v q en tx] w (RowPost w (f :: en :: tx :: tosL (rs.take 400))) := by
  have hv0 := hv
  obtain ⟨A, c, rfl, _⟩ := hv
  have hb0 : Below w.heap.size w (w.alloc (.cells (mailCells f (.slice A rs.length c) q en tx) 24)) := (Below.refl _ _).alloc (Nat.le_refl _) _
  have HV := Lib.hid (hv0.step hb0)
  have HB0 := Lib.hid hb0
  have HBX := Lib.hid (heap_alloc_new w (.cells (mailCells f (.slice A rs.length c) q en tx) 24))
  clear hv0 hb0
  go_enter Tryz.func8, Tryz.ntmps8
  go_upto_region 1 with (fail)
  obtain ⟨w1, hw1⟩ : ∃ w1, w1 = w.alloc (.cells #[sv f, .slice A rs.length c, .bool q, sv en, sv tx] 24) := ⟨_, rfl⟩
  have hws : w.heap.size + 1 = w1.heap.size := by rw [hw1]; simp
  change Code.wp _ _ _ _ (w.alloc (.cells #[sv f, .slice A rs.length c, .bool q, sv en, sv tx] 24))
  rw [← hw1] at HV HB0 HBX ⊢
  have c0 := cellAt HBX.out 0
  have c1 := cellAt HBX.out 1
  have c3 := cellAt HBX.out 3
  have c4 := cellAt HBX.out 4
  have HWS := Lib.hid hws
  clear hw1 hws
  obtain ⟨h, hh⟩ : ∃ h, h = w.heap.size := ⟨_, rfl⟩
  rw [← hh] at c0 c1 c3 c4 HBX HWS ⊢
  have HH := Lib.hid hh
  clear hh
  go_wp2_with fail
  clear c0 c1 c3 c4
  have HG0 := Lib.hid (gt_lit w1 [f, en, tx] (by simp))
  rw [show w1.alloc (.cells #[sv f, sv en, sv tx] 9) = w1.alloc (.cells ([f, en, tx].map sv).toArray 9) from rfl]
  obtain ⟨w2, hw2⟩ : ∃ w2, w2 = w1.alloc (.cells ([f, en, tx].map sv).toArray 9) := ⟨_, rfl⟩
  rw [← hw2] at HG0 ⊢
  clear hw2
  go_loopw [3, 4] (fun v i wr => ∃ k : Nat, k ≤ rs.length ∧ k ≤ 400 ∧ i = .int .i64 k ∧ GT w1 v (f :: en :: tx :: tosL (rs.take k)) wr) (fun _ i _ => 400 - (intOf i).toNat)
  case atStart => exact ⟨0, Nat.zero_le _, by omega, rfl, HG0.out⟩
  case round =>
    obtain ⟨k, hk, hk4, rfl, hg⟩ := hrel
    have HG := Lib.hid hg
    obtain ⟨A2, c2, rfl⟩ := hg.form
    obtain ⟨sn, hsn⟩ : ∃ sn, sn = f :: en :: tx :: tosL (rs.take k) := ⟨_, rfl⟩
    rw [← hsn] at HG ⊢
    have hsl : sn.length ≤ 1000000 := by rw [hsn]; simp; omega
    have hbx : wr.heap[h]? = some (.cells (mailCells f (.slice A rs.length c) q en tx) 24 (0, 0)) := (HG.out.below.block h (by have := HWS.out; omega)).trans HBX.out
    have c1 : wr.cell? ⟨h, 1, none⟩ = some (.slice A rs.length c) := by rw [cellAt hbx]; rfl
    have HSN := Lib.hid hsn
    clear hg hsn hbx
    by_cases hlt : k < rs.length ∧ k < 400
    · obtain ⟨h1, h2⟩ := hlt
      obtain ⟨A', c', e, hr⟩ := HV.out.step HG.out.below
      simp only [Value.slice.injEq, true_and] at e
      obtain ⟨rfl, rfl⟩ := e
      obtain ⟨g, off, rfl, hgl, hc⟩ := hr (by omega)
      obtain ⟨q1, q2⟩ := hc k h1
      obtain ⟨x, hx⟩ : ∃ x, x = (rs.getD k rc0).1 := ⟨_, rfl⟩
      rw [← hx] at q1
      have HC := Lib.hid (show sn ++ [x] = f :: en :: tx :: tosL (rs.take (k + 1)) by rw [HSN.out, ← take_tos h1, hx]; rfl)
      clear hr hc hx q2
      go_wp2_with (first | (at_builtin; refine gt_append HG.out (by omega) x _ ?hC (.tmp 23) (.tmp 30) rfl rfl rfl _ rfl ?_; rotate_left; intro g2 cap w' hg) | fail)
      case hC => simp
      rw [HC.out] at hg
      exact ⟨⟨k + 1, by omega, by omega, by go_num, hg⟩, by simp [intOf]; omega⟩
    · have HE := Lib.hid (show sn = f :: en :: tx :: tosL (rs.take 400) by
        rw [HSN.out]
        by_cases h4 : k = 400
        · rw [h4]
        · rw [List.take_of_length_le (by omega), List.take_of_length_le (by omega)])
      have HF := Lib.hid (show GT w (.slice A2 sn.length c2) sn wr from HG.out.first (HH.out ▸ HB0.out))
      rcases (show rs.length ≤ k ∨ (k < rs.length ∧ 400 ≤ k) by omega) with h5 | ⟨h5, h6⟩
      all_goals
        clear hlt
        go_wp2_with fail
        go_ret
        exact ⟨_, rfl, by rw [← HE.out]; exact HF.out⟩
end Go.Proofs.YtbmjmiioobgbfaaGreatDoor
