/-
  The contract of the laws' own function 'long'; texts that come in.
-/
import Derived.Test.YtanfonpbnamjmaaDoorYKeep
namespace Go.Proofs.YtanfonpbnamjmaaDoor
open Go Go.RowKit Go.Shelf
set_option maxRecDepth 100000

/-- Texts that come in. -/
def SR (W : World) (v : Value) (xs : List (List UInt8)) : Prop :=
  ∃ A c, v = .slice A xs.length c ∧ (xs = [] ∨ ∃ b o, A = some ⟨b, o, none⟩ ∧ b < W.heap.size ∧ ∀ k, ∀ h : k < xs.length, W.cell? ⟨b, o + k, none⟩ = some (sv xs[k]))
theorem SR.step {W W' : World} {v : Value} {xs : List (List UInt8)} (h : SR W v xs) (hb : Below W.heap.size W W') : SR W' v xs := by
  obtain ⟨A, c, e, h⟩ := h
  refine ⟨A, c, e, h.imp id fun ⟨b, o, e, hl, hc⟩ => ⟨b, o, e, Nat.lt_of_lt_of_le hl hb.size, fun k hk => (hb.cell (p := ⟨b, o + k, none⟩) hl).trans (hc k hk)⟩⟩

/-- How many bytes the texts have together, each with 5 more, none counted above 9000. -/
def bulk (xs : List (List UInt8)) : Nat := (xs.map fun x => 5 + min 9000 x.length).sum

theorem bulk_snoc (xs : List (List UInt8)) (x : List UInt8) : bulk (xs ++ [x]) = bulk xs + 5 + min 9000 x.length := by simp [bulk]; omega
theorem bulk_take (xs : List (List UInt8)) (k : Nat) : bulk (xs.take k) ≤ bulk xs := by
  have e : bulk xs = bulk (xs.take k) + bulk (xs.drop k) := by
    unfold bulk
    rw [← List.sum_append, ← List.map_append, List.take_append_drop]
  omega

/-- long: stops as soon as 9000 have come. -/
def longB (xs : List (List UInt8)) : Bool := decide (9000 ≤ bulk xs)

set_option maxRecDepth 100000 in
set_option maxHeartbeats 1000000 in
theorem long_any (xs : List (List UInt8)) (v : Value) (w : World) (h : SR w v xs) (hx : xs.length ≤ 140737488351232) (hl : ∀ x ∈ xs, x.length ≤ 9223372036854775807) :
    Calls Tryd.prog 15 #[v] w fun e w' => e = .returned (.bool (longB xs)) ∧ w = w' := by
  obtain ⟨A, c, rfl, hA⟩ := h
  have HA := Lib.hid hA
  clear hA
  go_enter Tryd.func15, Tryd.ntmps15
  go_wp2
  go_loop [3, 4] (fun n i => ∃ k : Nat, k ≤ xs.length ∧ i = .int .i64 k ∧ n = .int .i64 (bulk (xs.take k)) ∧ bulk (xs.take k) < 9000 + 9005) (fun _ i => xs.length - (intOf i).toNat)
  case atStart => exact ⟨0, Nat.zero_le _, rfl, rfl, by simp [bulk]⟩
  case round =>
    obtain ⟨k, hk, rfl, rfl, hb⟩ := hrel
    obtain ⟨B, hBe⟩ : ∃ B, B = bulk (xs.take k) := ⟨_, rfl⟩
    rw [← hBe] at hb ⊢
    have HBE := Lib.hid hBe
    clear hBe
    by_cases hlt : k < xs.length ∧ B < 9000
    · obtain ⟨hlt, hlt6⟩ := hlt
      rcases HA.out with h0 | ⟨b, o, rfl, _, hc⟩
      · subst h0; simp at hlt
      · obtain ⟨x, hx'⟩ : ∃ x, x = xs[k] := ⟨_, rfl⟩
        have e1 : w.cell? ⟨b, o + k, none⟩ = some (sv x) := by rw [hx']; exact hc k hlt
        have hxl : x.length ≤ 9223372036854775807 := by rw [hx']; exact hl _ (List.getElem_mem hlt)
        have hs : bulk (xs.take (k + 1)) = B + 5 + min 9000 x.length := by rw [List.take_succ_eq_append_getElem hlt, bulk_snoc, ← hx', ← HBE.out]
        have HS := Lib.hid hs
        clear hc hx' hs hl
        have m1 : (0 : Int) ≤ min 9000 (x.length : Int) := by omega
        have m2 : min 9000 (x.length : Int) ≤ 9000 := by omega
        have hlt6' : (B : Int) < 9000 := by omega
        go_wp2
        go_round
        case rel => exact ⟨k + 1, by omega, by go_num, by rw [HS.out]; go_num, by rw [HS.out]; omega⟩
        case measure => simp [intOf]; omega
    · have hfin : longB xs = decide (9000 ≤ B) := by
        unfold longB
        by_cases h6 : B < 9000
        · obtain rfl : k = xs.length := by omega
          rw [HBE.out, List.take_of_length_le (Nat.le_refl _)]
        · have := bulk_take xs k
          rw [← HBE.out] at this
          rw [decide_eq_true (by omega), decide_eq_true (by omega)]
      have HF := Lib.hid hfin
      clear hfin hl
      by_cases hkn : k < xs.length
      · have h6 : ¬ B < 9000 := fun h => hlt ⟨hkn, h⟩
        have h6' : (9000 : Int) ≤ (B : Int) := by omega
        have hd : decide (k < xs.length) = true := by simpa using hkn
        clear hlt hb h6
        go_wp2
        go_ret
        refine ⟨?_, rfl⟩
        have e : longB xs = true := by rw [HF.out]; exact decide_eq_true (by omega)
        rw [e]
        first | rfl | (simp; omega)
      · obtain rfl : k = xs.length := by omega
        clear hlt hb hkn
        by_cases h6 : B < 9000
        · have h6' : (B : Int) < 9000 := by omega
          go_wp2
          go_ret
          refine ⟨?_, rfl⟩
          have e : longB xs = false := by rw [HF.out]; exact decide_eq_false (by omega)
          rw [e]
          first | rfl | (simp; omega)
        · have h6' : (9000 : Int) ≤ (B : Int) := by omega
          go_wp2
          go_ret
          refine ⟨?_, rfl⟩
          have e : longB xs = true := by rw [HF.out]; exact decide_eq_true (by omega)
          rw [e]
          first | rfl | (simp; omega)

end Go.Proofs.YtanfonpbnamjmaaDoor
