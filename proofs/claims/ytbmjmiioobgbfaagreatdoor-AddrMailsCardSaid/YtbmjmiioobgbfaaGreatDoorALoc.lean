/-
  The contracts of package addr's isLetterOrDigit, isGraphicOrBlank, each, isAtoms, isQuoted, isLocal.
-/
import Derived.Shelf.Abstract
import Derived.Outline
import Derived.Test.YtbmjmiioobgbfaaGreatDoorAPure2
import Derived.Test.YtbmjmiioobgbfaaGreatDoorNFold
import Derived.Test.YtbmjmiioobgbfaaGreatDoorNW
namespace Go.Proofs.YtbmjmiioobgbfaaGreatDoor
open Go Go.RowKit Go.Shelf
set_option maxRecDepth 100000

theorem alnC_nat {b : UInt8} {c : Nat} (hc : b.toNat = c) : alnC b = decide ((97 ≤ c ∧ c ≤ 122) ∨ (65 ≤ c ∧ c ≤ 90) ∨ (48 ≤ c ∧ c ≤ 57)) := by
  unfold alnC
  rw [← hc, Bool.eq_iff_iff]
  simp only [Bool.or_eq_true, Bool.and_eq_true, decide_eq_true_eq, UInt8.le_iff_toNat_le]
  exact or_assoc
theorem grC_nat {b : UInt8} {c : Nat} (hc : b.toNat = c) : grC b = decide (32 ≤ c ∧ c ≤ 126) := by
  unfold grC
  rw [← hc, Bool.eq_iff_iff]
  simp only [Bool.and_eq_true, decide_eq_true_eq, UInt8.le_iff_toNat_le]
  exact Iff.rfl

theorem aln_any (b : UInt8) (w : World) : Calls Tryz.prog 83 #[.int .u8 (b.toNat : Int)] w fun e w' => e = .returned (.bool (alnC b)) ∧ w = w' := by
  obtain ⟨c, hc⟩ : ∃ c, b.toNat = c := ⟨_, rfl⟩
  obtain ⟨r, hr⟩ : ∃ r, r = alnC b := ⟨_, rfl⟩
  rw [← hr]
  rw [alnC_nat hc] at hr
  rw [hc]
  clear hc
  by_cases hP : (97 ≤ c ∧ c ≤ 122) ∨ (65 ≤ c ∧ c ≤ 90) ∨ (48 ≤ c ∧ c ≤ 57)
  · obtain rfl : r = true := by rw [hr, decide_eq_true hP]
    clear hr
    rcases hP with ⟨h, h'⟩ | ⟨h, h'⟩ | ⟨h, h'⟩
    all_goals
      go_enter Tryz.func83, Tryz.ntmps83
      go_wp2
      go_ret
      exact ⟨by first | (simp; done) | (simp; omega), rfl⟩
  · obtain rfl : r = false := by rw [hr, decide_eq_false hP]
    clear hr
    rcases (show c < 48 ∨ (57 < c ∧ c < 65) ∨ (90 < c ∧ c < 97) ∨ 122 < c by omega) with h | ⟨h, h'⟩ | ⟨h, h'⟩ | h
    all_goals clear hP
    all_goals
      go_enter Tryz.func83, Tryz.ntmps83
      go_wp2
      go_ret
      exact ⟨by first | (simp; done) | (simp; omega), rfl⟩

theorem gr_any (b : UInt8) (w : World) : Calls Tryz.prog 85 #[.int .u8 (b.toNat : Int)] w fun e w' => e = .returned (.bool (grC b)) ∧ w = w' := by
  obtain ⟨c, hc⟩ : ∃ c, b.toNat = c := ⟨_, rfl⟩
  obtain ⟨r, hr⟩ : ∃ r, r = grC b := ⟨_, rfl⟩
  rw [← hr]
  rw [grC_nat hc] at hr
  rw [hc]
  clear hc
  by_cases hP : 32 ≤ c ∧ c ≤ 126
  · obtain rfl : r = true := by rw [hr, decide_eq_true hP]
    clear hr
    rcases hP with ⟨h, h'⟩
    all_goals
      go_enter Tryz.func85, Tryz.ntmps85
      go_wp2
      go_ret
      exact ⟨by first | (simp; done) | (simp; omega), rfl⟩
  · obtain rfl : r = false := by rw [hr, decide_eq_false hP]
    clear hr
    rcases (show c < 32 ∨ 126 < c by omega) with h | h
    all_goals clear hP
    all_goals
      go_enter Tryz.func85, Tryz.ntmps85
      go_wp2
      go_ret
      exact ⟨by first | (simp; done) | (simp; omega), rfl⟩

set_option maxHeartbeats 1000000 in
/-- 'each': whatever the closure is. -/
theorem each_any {σ : Type} {ok : σ → UInt8 → Bool} {nx : σ → UInt8 → σ} {N : Nat} {caps : Array Value} (he : ∀ args w, (callFunc N args).run Tryz.prog w = .ok (.enter N args) w) (Inv : σ → World → Prop)
    (hstep : ∀ st (b : UInt8) W, Inv st W → Calls Tryz.prog N (#[.int .u8 (b.toNat : Int)] ++ caps) W fun e w' => e = .returned (.bool (ok st b)) ∧ Inv (nx st b) w')
    (s : List UInt8) (hs : s.length ≤ 1000000) (st0 : σ) (w : World) (h0 : Inv st0 w) :
    Calls Tryz.prog 81 #[sv s, .func (.func N) #[] caps] w fun e w' => e = .returned (.bool (runF ok nx st0 s).1) ∧ Inv (runF ok nx st0 s).2 w' := by
  obtain ⟨R, hR⟩ : ∃ R, R = runF ok nx st0 s := ⟨_, rfl⟩
  rw [← hR]
  have HS := Lib.hid hstep
  have H0 := Lib.hid h0
  have HR := Lib.hid hR
  clear hstep h0 hR
  go_enter Tryz.func81, Tryz.ntmps81
  go_wp2_with fail
  go_loopw [5, 8] (fun _ i wr => ∃ k : Nat, ∃ st : σ, k ≤ s.length ∧ i = .int .i64 k ∧ runF ok nx st (s.drop k) = R ∧ Inv st wr) (fun _ i _ => s.length - (intOf i).toNat)
  case atStart => exact ⟨0, st0, Nat.zero_le _, rfl, HR.out.symm, H0.out⟩
  case round =>
    obtain ⟨k, st, hk, rfl, hrun, hinv⟩ := hrel
    have HRU := Lib.hid hrun
    clear hrun
    by_cases hlt : k < s.length
    · obtain ⟨b, hb⟩ : ∃ b, s.getD k 0 = b := ⟨_, rfl⟩
      have hcs : (((str s)[k]'(by simpa [ByteArray.size] using hlt)).toNat) = b.toNat := by rw [str_getD s k hlt, hb]
      have HST := Lib.hid (HS.out st b wr hinv)
      have hd : s.drop k = b :: s.drop (k + 1) := by rw [List.drop_eq_getElem_cons hlt, ← getD_str s k hlt, hb]
      have HD := Lib.hid hd
      clear hb hd hinv
      cases ho : ok st b with
      | true =>
        have HN := Lib.hid (show runF ok nx (nx st b) (s.drop (k + 1)) = R by rw [← HRU.out, HD.out, runF_true ho])
        have HO := Lib.hid ho
        clear ho
        go_wp2_with (go_at_fn N; refine (HST.out).mono ?_; rintro e w1 ⟨rfl, hi⟩; rw [HO.out]; have HI := Lib.hid hi; clear hi)
        go_roundw
        case rel => exact ⟨k + 1, nx st b, by omega, by go_num, HN.out, HI.out⟩
        case measure => simp [intOf]; omega
      | false =>
        have HN := Lib.hid (show R = (false, nx st b) by rw [← HRU.out, HD.out, runF_false ho])
        have HO := Lib.hid ho
        clear ho
        go_wp2_with (go_at_fn N; refine (HST.out).mono ?_; rintro e w1 ⟨rfl, hi⟩; rw [HO.out]; have HI := Lib.hid hi; clear hi)
        go_ret
        rw [HN.out]
        exact ⟨rfl, HI.out⟩
    · obtain rfl : k = s.length := by omega
      have HN := Lib.hid (show R = (true, st) by rw [← HRU.out, List.drop_length]; rfl)
      have HI := Lib.hid hinv
      clear hinv
      go_wp2
      go_ret
      rw [HN.out]
      exact ⟨rfl, HI.out⟩
end Go.Proofs.YtbmjmiioobgbfaaGreatDoor
