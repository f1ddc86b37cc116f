/-
  The contract of package reply's isText.
-/
import Derived.Test.YtanfonpbnamjmaaDoorYW
namespace Go.Proofs.YtanfonpbnamjmaaDoor
open Go Go.RowKit Go.Shelf
set_option maxRecDepth 100000

theorem txC_nat {b : UInt8} {c : Nat} (hc : b.toNat = c) : txC b = decide (c = 9 ∨ (32 ≤ c ∧ c ≤ 126)) := by
  unfold txC
  rw [← hc, Bool.eq_iff_iff]
  simp only [Bool.or_eq_true, Bool.and_eq_true, decide_eq_true_eq, UInt8.le_iff_toNat_le, beq_iff_eq, ← UInt8.toNat_inj]
  exact Iff.rfl
theorem all_step {p : UInt8 → Bool} {s : List UInt8} {k : Nat} (hk : k < s.length) (h : p (s.getD k 0) = true) : (s.drop k).all p = (s.drop (k + 1)).all p := by
  rw [List.drop_eq_getElem_cons hk, List.all_cons]
  rw [getD_str s k hk] at h
  rw [h, Bool.true_and]
theorem all_stop {p : UInt8 → Bool} {s : List UInt8} {k : Nat} (hk : k < s.length) (h : p (s.getD k 0) = false) : (s.drop k).all p = false := by
  rw [List.drop_eq_getElem_cons hk, List.all_cons]
  rw [getD_str s k hk] at h
  rw [h, Bool.false_and]

set_option maxHeartbeats 4000000 in
theorem isText_any (s : List UInt8) (w : World) (hs : s.length ≤ 1000000) : Calls Tryd.prog 82 #[sv s] w fun e w' => e = .returned (.bool (s.all txC)) ∧ w = w' := by
  obtain ⟨R, hR⟩ : ∃ R, R = s.all txC := ⟨_, rfl⟩
  rw [← hR]
  have HR := Lib.hid (show (s.drop 0).all txC = R by rw [hR]; rfl)
  clear hR
  go_enter Tryd.func82, Tryd.ntmps82
  go_wp2_with fail
  go_loopw [3, 4, 7] (fun _ _ i wr => ∃ k : Nat, k ≤ s.length ∧ i = .int .i64 k ∧ (s.drop k).all txC = R ∧ w = wr) (fun _ _ i _ => s.length - (intOf i).toNat)
  case atStart => exact ⟨0, Nat.zero_le _, rfl, HR.out, rfl⟩
  case round =>
    obtain ⟨k, hk, rfl, hrun, rfl⟩ := hrel
    have HRU := Lib.hid hrun
    clear hrun
    by_cases hlt : k < s.length
    · obtain ⟨b, hb⟩ : ∃ b, s.getD k 0 = b := ⟨_, rfl⟩
      obtain ⟨c, hc⟩ : ∃ c, b.toNat = c := ⟨_, rfl⟩
      have hcs : (((str s)[k]'(by simpa [ByteArray.size] using hlt)).toNat) = c := by rw [str_getD s k hlt, hb, hc]
      by_cases hP : c = 9 ∨ (32 ≤ c ∧ c ≤ 126)
      · have HN := Lib.hid (show (s.drop (k + 1)).all txC = R by rw [← HRU.out]; exact (all_step hlt (by rw [hb, txC_nat hc, decide_eq_true hP])).symm)
        clear hb hc
        rcases hP with h | ⟨h1, h2⟩
        · have h9 : ((c : Int) != 9) = false := by simp [h]
          clear h
          go_wp2_with fail
          go_roundw
          case rel => exact ⟨k + 1, by omega, by go_num, HN.out, by simp⟩
          case measure => simp [intOf]; omega
        · have h9 : ((c : Int) != 9) = true := by simp; omega
          go_wp2_with fail
          go_roundw
          case rel => exact ⟨k + 1, by omega, by go_num, HN.out, by simp⟩
          case measure => simp [intOf]; omega
      · have HN := Lib.hid (show R = false by rw [← HRU.out]; exact all_stop hlt (by rw [hb, txC_nat hc, decide_eq_false hP]))
        have h9 : ((c : Int) != 9) = true := by simp; omega
        clear hb hc
        rcases (show c < 32 ∨ 126 < c by omega) with h | h
        all_goals clear hP
        all_goals
          go_wp2_with fail
          go_ret
          rw [HN.out]
          exact ⟨rfl, rfl⟩
    · obtain rfl : k = s.length := by omega
      have HN := Lib.hid (show R = true by rw [← HRU.out, List.drop_length]; rfl)
      go_wp2
      go_ret
      rw [HN.out]
      exact ⟨rfl, rfl⟩
end Go.Proofs.YtanfonpbnamjmaaDoor
