/-
  Contracts of package caps: great, parts, what is set.
-/
import Derived.Test.YtanfonpbnamjmaaDoorCSet
import Derived.Test.YtanfonpbnamjmaaDoorByteRow
namespace Go.Proofs.YtanfonpbnamjmaaDoor
open Go Go.RowKit Go.Shelf
set_option maxRecDepth 100000

theorem greatL_len (l : List UInt8) : (greatL l).length = l.length := by unfold greatL; simp
/-- What stands in a row whose first j bytes are great. -/
def half (s : List UInt8) (j : Nat) : List UInt8 := greatL (s.take j) ++ s.drop j
theorem half_len (s : List UInt8) (j : Nat) : (half s j).length = s.length := by unfold half; rw [List.length_append, greatL_len, ← List.length_append, List.take_append_drop]
theorem half_zero (s : List UInt8) : half s 0 = s := by unfold half greatL; simp
theorem half_end (s : List UInt8) : half s s.length = greatL s := by unfold half; simp
theorem half_at {s : List UInt8} {j : Nat} (h : j < s.length) : (half s j).getD j 0 = s.getD j 0 := by
  have hl : (greatL (s.take j)).length = j := by rw [greatL_len, List.length_take]; omega
  unfold half
  rw [List.getD_eq_getElem?_getD, List.getElem?_append_right (by omega), hl, Nat.sub_self, List.getElem?_drop, ← List.getD_eq_getElem?_getD]
  rfl
theorem half_step {s : List UInt8} {j : Nat} (h : j < s.length) : (half s j).set j (upB (s.getD j 0)) = half s (j + 1) := by
  have hl : (greatL (s.take j)).length = j := by rw [greatL_len, List.length_take]; omega
  unfold half
  rw [List.set_append_right _ _ (by omega), hl, Nat.sub_self, List.drop_eq_getElem_cons h, List.set_cons_zero, List.take_succ_eq_append_getElem h, getD_str s j h]
  unfold greatL
  rw [List.map_append, List.append_assoc]
  rfl
theorem half_same {s : List UInt8} {j : Nat} (h : j < s.length) (he : upB (s.getD j 0) = s.getD j 0) : half s j = half s (j + 1) := by
  rw [← half_step h, he]
  have := half_at h
  rw [← this]
  apply List.ext_getElem (by simp)
  intro i h1 h2
  rw [List.getElem_set]
  split
  · rename_i hi; subst hi; rw [getD_str _ _ h1]
  · rfl

set_option maxHeartbeats 1000000 in
theorem great_any (s : List UInt8) (w : World) (hs : s.length ≤ 1000000) : Calls Tryd.prog 61 #[sv s] w fun e w' => e = .returned (sv (greatL s)) ∧ Below w.heap.size w w' := by
  obtain ⟨g, cap, W, hrun, hrb⟩ := rb_bytes w w (Below.refl _ _) s hs
  have h0 : RB w g cap (half s 0) W := by rw [half_zero]; exact hrb
  have H0 := Lib.hid h0
  have HF := Lib.hid (fun W' (h : RB w g cap (half s s.length) W') => h.text (n := s.length) (by rw [half_len]))
  clear hrb h0
  go_enter Tryd.func61, Tryd.ntmps61
  go_wp2_with fail
  clear hrun
  go_loopw [4, 5, 10] (fun _ _ i wr => ∃ j : Nat, j ≤ s.length ∧ i = .int .i64 j ∧ RB w g cap (half s j) wr) (fun _ _ i _ => s.length - (intOf i).toNat)
  case atStart => exact ⟨0, Nat.zero_le _, rfl, H0.out⟩
  case round =>
    obtain ⟨j, hj, rfl, hb⟩ := hrel
    have HB := Lib.hid hb
    by_cases hlt : j < s.length
    · have hc := hb.cell j (by rw [half_len]; exact hlt)
      rw [half_at hlt] at hc
      obtain ⟨c, hcd⟩ : ∃ c, c = (s.getD j 0).toNat := ⟨_, rfl⟩
      have hc1 : wr.cell? ⟨g, j, none⟩ = some (.int .u8 (c : Int)) := by rw [hc, hcd]; rfl
      have hf := hb.free j (by have := hb.ok; rw [half_len] at this; omega)
      have hup : (97 ≤ c ∧ c ≤ 122) ∨ ¬ (97 ≤ c ∧ c ≤ 122) := Classical.em _
      rcases hup with hu | hu
      · have hz : (c : Int) - 97 + 65 = ((upB (s.getD j 0)).toNat : Int) := by
          unfold upB
          rw [← hcd, if_pos hu, UInt8.toNat_ofNat_of_lt' (by show c - 32 < 256; omega)]
          omega
        have hn : RB w g cap (half s (j + 1)) (wr.setCell ⟨g, j, none⟩ (.int .u8 ((c : Int) - 97 + 65))) := by
          rw [← half_step hlt]
          exact hb.set (by rw [half_len]; exact hlt) _ hz
        have HN := Lib.hid hn
        clear hb hc hz hn hcd
        obtain ⟨h1, h2⟩ := hu
        go_wp2_with fail
        go_roundw
        case rel => exact ⟨j + 1, by omega, by go_num, HN.out⟩
        case measure => simp [intOf]; omega
      · have he : upB (s.getD j 0) = s.getD j 0 := by unfold upB; rw [← hcd, if_neg hu]
        have HN := Lib.hid (show RB w g cap (half s (j + 1)) wr by rw [← half_same hlt he]; exact hb)
        clear hb hc he
        have hcc : c < 97 ∨ 122 < c := by omega
        have h256 : c < 256 := by rw [hcd]; exact (s.getD j 0).toNat_lt
        clear hcd hu
        rcases hcc with h1 | h1
        all_goals
          go_wp2_with fail
          go_roundw
          case rel => exact ⟨j + 1, by omega, by go_num, HN.out⟩
          case measure => simp [intOf]; omega
    · obtain rfl : j = s.length := by omega
      have ht := (HF.out) wr hb
      rw [half_end] at ht
      have HL := Lib.hid hb.below
      clear hb
      go_wp2_with fail
      go_ret
      exact ⟨rfl, HL.out⟩
end Go.Proofs.YtanfonpbnamjmaaDoor
