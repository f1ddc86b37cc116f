/-
  Contracts of the reference's at, Hex and Unhex.
-/
import Derived.Test.YtdniojbplakeoaaDoorGrown
import Derived.Deep.RegionLaw
import Derived.RegionTactic
namespace Go.Proofs.YtdniojbplakeoaaDoor
open Go Go.RowKit
set_option maxRecDepth 100000

theorem index_none {l : List UInt8} {c : UInt8} (h : ∀ j, j < l.length → l.getD j 0 ≠ c) : Lib.indexByte l c = -1 := by
  induction l with
  | nil => rfl
  | cons b l ih =>
    have h0 := h 0 (by simp)
    have hl := ih fun j hj => by have := h (j + 1) (by simpa using hj); simpa using this
    unfold Lib.indexByte
    rw [hl, if_neg (by simpa using h0)]
    rfl
theorem index_first {l : List UInt8} {c : UInt8} {k : Nat} (hk : k < l.length) (he : l.getD k 0 = c) (h : ∀ j, j < k → l.getD j 0 ≠ c) : Lib.indexByte l c = k := by
  induction l generalizing k with
  | nil => simp at hk
  | cons b l ih =>
    unfold Lib.indexByte
    cases k with
    | zero => rw [if_pos (by simpa using he)]; rfl
    | succ k =>
      have h0 := h 0 (by omega)
      have hl := ih (k := k) (by simpa using hk) (by simpa using he) fun j hj => by have := h (j + 1) (by omega); simpa using this
      rw [if_neg (by simpa using h0), hl, if_neg (by rw [beq_iff_eq]; omega)]
      omega

theorem at_any (l : List UInt8) (c : UInt8) (w : World) (hl : l.length ≤ 1000000) : Calls Tryd.prog 41 #[.string (str l), .int .u8 (c.toNat : Int)] w fun e w' => e = .returned (.int .i64 (Lib.indexByte l c)) ∧ w = w' := by
  go_enter Tryd.func41, Tryd.ntmps41
  go_wp2_with fail
  go_loop [5] (fun i => ∃ j : Nat, j ≤ l.length ∧ i = .int .i64 j ∧ ∀ k, k < j → l.getD k 0 ≠ c) (fun i => l.length - (intOf i).toNat)
  case atStart => exact ⟨0, Nat.zero_le _, rfl, fun k h => by omega⟩
  case round =>
    obtain ⟨j, hj, rfl, ha⟩ := hrel
    have HA := Lib.hid ha
    clear ha
    by_cases hlt : j < l.length
    · by_cases he : l.getD j 0 = c
      · have HE := Lib.hid (index_first hlt he HA.out)
        have e1 : ((((str l)[j]'(by simpa [ByteArray.size] using hlt)).toNat : Int) == (c.toNat : Int)) = true := by rw [str_getD l j hlt, he]; simp
        clear he
        go_wp2
        go_ret
        rw [HE.out]
        exact ⟨rfl, rfl⟩
      · have e1 : ((((str l)[j]'(by simpa [ByteArray.size] using hlt)).toNat : Int) == (c.toNat : Int)) = false := by
          rw [str_getD l j hlt, beq_eq_false_iff_ne]
          intro e
          exact he (UInt8.toNat_inj.1 (by omega))
        have HN := Lib.hid (show ∀ k, k < j + 1 → l.getD k 0 ≠ c from fun k hk => by
          rcases Nat.lt_or_ge k j with h | h
          · exact HA.out k h
          · obtain rfl : k = j := by omega
            exact he)
        clear he
        go_wp2
        go_round
        case rel => exact ⟨j + 1, by omega, by go_num, HN.out⟩
        case measure => simp [intOf]; omega
    · have HE := Lib.hid (index_none fun k hk => HA.out k (by omega))
      go_wp2
      go_ret
      rw [HE.out]
      exact ⟨rfl, rfl⟩

theorem hexL_take {s : List UInt8} {j : Nat} (h : j < s.length) : hexL (s.take (j + 1)) = hexL (s.take j) ++ [sixteen.getD ((s.getD j 0).toNat / 16) 0, sixteen.getD ((s.getD j 0).toNat % 16) 0] := by
  rw [List.take_succ_eq_append_getElem h, hexL_append, getD_str s j h, hexL_cons]; rfl

set_option maxHeartbeats 1000000 in
theorem rhex_any (s : List UInt8) (w : World) (hs : s.length ≤ 100000) : Calls Tryd.prog 20 #[.string (str s)] w fun e w' => e = .returned (sv (hexL s)) ∧ Below w.heap.size w w' := by
  have HG := Lib.hid (show GB w (.slice none 0 0) (hexL (s.take 0)) w by rw [List.take_zero]; exact GB.nil w)
  have HS := Lib.hid (fun (W : World) (v : Value) (h : GB w v (hexL s) W) => gb_string h)
  go_enter Tryd.func20, Tryd.ntmps20
  go_wp2_with fail
  go_loopw [3, 4] (fun v i wr => ∃ j : Nat, j ≤ s.length ∧ i = .int .i64 j ∧ GB w v (hexL (s.take j)) wr) (fun _ i _ => s.length - (intOf i).toNat)
  case atStart => exact ⟨0, Nat.zero_le _, rfl, HG.out⟩
  case round =>
    obtain ⟨j, hj, rfl, hg⟩ := hrel
    obtain ⟨A, cp, rfl⟩ := hg.form
    have hll : (hexL (s.take j)).length ≤ 1000000 := by rw [hex_length, List.length_take]; omega
    by_cases hlt : j < s.length
    · have HT := Lib.hid (hexL_take hlt)
      have HG2 := Lib.hid hg.drew
      obtain ⟨x, hx⟩ : ∃ x, x = hexL (s.take j) := ⟨_, rfl⟩
      rw [← hx] at HT HG2 hll
      simp only [← hx]
      obtain ⟨c, hc⟩ : ∃ c, c = (s.getD j 0).toNat := ⟨_, rfl⟩
      have hcs : (((str s)[j]'(by simpa [ByteArray.size] using hlt)).toNat) = c := by rw [str_getD s j hlt, hc]
      have hc256 : c < 256 := by rw [hc]; exact UInt8.toNat_lt _
      rw [← hc] at HT
      clear hx hc hg
      go_wp2
      obtain ⟨q, hq⟩ : ∃ q, q = c / 16 := ⟨_, rfl⟩
      obtain ⟨r, hr⟩ : ∃ r, r = c % 16 := ⟨_, rfl⟩
      have hq16 : q < 16 := by omega
      have hr16 : r < 16 := by omega
      have hw1 : IntKind.u8.wrap ((c : Int) / 16) = (q : Int) := by unfold IntKind.wrap; simp [IntKind.bits, IntKind.signed]; omega
      have hw2 : (c : Int).tmod 16 = (r : Int) := by rw [hr]; rfl
      rw [← hq, ← hr] at HT
      clear hq hr hc256
      have hqi : (q : Int) < 16 := by omega
      have hri : (r : Int) < 16 := by omega
      have hp1 : ({ data := #[48, 49, 50, 51, 52, 53, 54, 55, 56, 57, 97, 98, 99, 100, 101, 102] } : ByteArray)[q]'hq16 = sixteen.getD q 0 := str_getD sixteen q hq16 hq16
      have hp2 : ({ data := #[48, 49, 50, 51, 52, 53, 54, 55, 56, 57, 97, 98, 99, 100, 101, 102] } : ByteArray)[r]'hr16 = sixteen.getD r 0 := str_getD sixteen r hr16 hr16
      obtain ⟨g1, h1⟩ : ∃ g, g = sixteen.getD q 0 := ⟨_, rfl⟩
      obtain ⟨g2, h2⟩ : ∃ g, g = sixteen.getD r 0 := ⟨_, rfl⟩
      rw [← h1] at hp1 HT
      rw [← h2] at hp2 HT
      clear h1 h2
      obtain ⟨g, cap, w3, hrun, hg3⟩ := gb_run HG2.out (by omega) [g1, g2] #[.int .u8 g1.toNat, .int .u8 g2.toNat] rfl ⟨by simp, by simp⟩ 2 2 rfl
      have HRUN := Lib.hid hrun
      have HG3 := Lib.hid hg3
      clear hrun hg3
      go_region_law (refine step_app rfl (.tmp 11) (.tmp 22) 45 rfl rfl rfl HRUN.out ?_)
      all_goals
        clear hcs hqi hri hp1 hp2 hw1 hw2
        go_wp2
        go_roundw
        case rel => exact ⟨j + 1, by omega, by go_num, by rw [HT.out]; exact HG3.out⟩
        case measure => simp [intOf]; omega
    · obtain rfl : j = s.length := by omega
      rw [List.take_of_length_le (Nat.le_refl _)] at hg ⊢
      have hr := HS.out _ _ hg
      have HB := Lib.hid hg.below
      clear hg hll
      go_wp2
      go_ret
      exact ⟨rfl, HB.out⟩
end Go.Proofs.YtdniojbplakeoaaDoor
