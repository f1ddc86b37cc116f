/-
  long's contract: are texts more than a statement goes over?
-/
import Derived.WalkLawsBesides
import Derived.Test.YtdniojbplakeoaaDoorWorks
namespace Go.Proofs.YtdniojbplakeoaaDoor
open Go Go.RowKit
set_option maxRecDepth 100000

def minSum (xs : List (List UInt8)) : Nat := (xs.map fun x => min x.length 9000).sum

theorem minSum_take {xs : List (List UInt8)} {k : Nat} (h : k < xs.length) : minSum (xs.take (k + 1)) = minSum (xs.take k) + min xs[k].length 9000 := by
  unfold minSum
  rw [List.take_succ_eq_append_getElem h, List.map_append, List.sum_append]
  simp
theorem minSum_le (xs : List (List UInt8)) : minSum xs ≤ 9000 * xs.length := by
  unfold minSum
  induction xs with
  | nil => simp
  | cons x xs ih => simp; omega

theorem long_any (xs : List (List UInt8)) (b c : Nat) (w : World) (hx : xs.length ≤ 100) (h0 : 0 < xs.length) (hc : ∀ k, ∀ h : k < xs.length, w.cell? ⟨b, k, none⟩ = some (sv xs[k])) (hl : ∀ x ∈ xs, x.length ≤ 140737488351232) :
    Calls Tryd.prog 19 #[.slice (some ⟨b, 0, none⟩) xs.length c] w fun e w' => e = .returned (.bool (decide (9000 ≤ minSum xs))) ∧ w = w' := by
  have HC := Lib.hid hc
  have HL := Lib.hid hl
  clear hc hl
  go_enter Tryd.func19, Tryd.ntmps19
  go_wp2_with fail
  go_loop [3, 4] (fun n i => ∃ k : Nat, k ≤ xs.length ∧ i = .int .i64 k ∧ n = .int .i64 (minSum (xs.take k) : Nat)) (fun _ i => xs.length - (intOf i).toNat)
  case atStart => exact ⟨0, by omega, rfl, rfl⟩
  case round =>
    obtain ⟨k, hk, rfl, rfl⟩ := hrel
    have hm := minSum_le (xs.take k)
    rw [List.length_take] at hm
    by_cases hlt : k < xs.length
    · have hck := HC.out k hlt
      have hll := HL.out xs[k] (List.getElem_mem hlt)
      have HT := Lib.hid (minSum_take hlt)
      obtain ⟨y, hy⟩ : ∃ y, y = xs[k] := ⟨_, rfl⟩
      rw [← hy] at hck hll HT
      clear hy
      generalize minSum (xs.take k) = a at *
      by_cases hb : y.length ≤ 9000
      · have e1 : min (y.length : Int) 9000 = y.length := by omega
        have e2 : min y.length 9000 = y.length := by omega
        rw [e2] at HT
        clear e2
        go_wp2
        go_round
        case rel => exact ⟨k + 1, by omega, by go_num, by rw [HT.out]; go_num⟩
        case measure => simp [intOf]; omega
      · have e1 : min (y.length : Int) 9000 = 9000 := by omega
        have e2 : min y.length 9000 = 9000 := by omega
        rw [e2] at HT
        clear e2
        go_wp2
        go_round
        case rel => exact ⟨k + 1, by omega, by go_num, by rw [HT.out]; go_num⟩
        case measure => simp [intOf]; omega
    · obtain rfl : k = xs.length := by omega
      rw [List.take_of_length_le (Nat.le_refl _)] at hm ⊢
      go_wp2
      go_ret
      have e : decide ((9000 : Int) ≤ ((minSum xs : Nat) : Int)) = decide (9000 ≤ minSum xs) := decide_eq_decide.2 (by omega)
      rw [← e]
      exact ⟨rfl, rfl⟩
end Go.Proofs.YtdniojbplakeoaaDoor
