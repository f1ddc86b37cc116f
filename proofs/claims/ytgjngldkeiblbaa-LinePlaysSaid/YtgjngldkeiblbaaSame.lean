/-
  Same's contract: of any two slices of texts, whether they hold the same texts; and awake's: the examples are as the document says.
  A slice is what reads as a list of texts ('SR'); awake holds wherever the library's variable MaxLen holds some number.
-/
import Derived.BigQuiet
import Derived.Deep.QuietTactic
import Derived.Test.YtgjngldkeiblbaaCut
namespace Go.Proofs.Ytgjngldkeiblbaa
open Go Go.RowKit Go.Shelf

/-- The slice v reads as these texts. -/
def SR (W : World) (v : Value) (xs : List (List UInt8)) : Prop :=
  ∃ A c, v = .slice A xs.length c ∧ (xs = [] ∨ ∃ b o, A = some ⟨b, o, none⟩ ∧ ∀ k, ∀ h : k < xs.length, W.cell? ⟨b, o + k, none⟩ = some (sv xs[k]))

theorem SR.of_own {W : World} {base : Nat} {v : Value} {xs : List (List UInt8)} (h : Ows W base v xs) : SR W v xs := by
  rcases h.2 with ⟨rfl, h0⟩ | ⟨g, cap, cur, rfl, hb, hg, h1, h2, h3, h4⟩
  · exact ⟨none, 0, by rw [h0], .inl (List.eq_nil_of_length_eq_zero h0)⟩
  · refine ⟨_, _, rfl, .inr ⟨g, 0, rfl, fun k hk => ?_⟩⟩
    rw [cellAt hg, Nat.zero_add]
    have : cur.toList[k]? = some (sv xs[k]) := by
      have e := congrArg (fun l => l[k]?) h4
      simp only [List.getElem?_take, List.getElem?_map] at e
      rw [if_pos (by omega)] at e
      rw [e, List.getElem?_eq_getElem hk]
      rfl
    simpa using this

theorem SR.drewN {W : World} {v : Value} {xs : List (List UInt8)} (h : SR W v xs) (n : Nat) : SR (W.drewN n) v xs := h

def sameB (xs ys : List (List UInt8)) : Bool := decide (xs = ys)

theorem same_none (w : World) (A A' : Option Addr) (c c' : Nat) :
    Calls Try.prog 17 #[.slice A 0 c, .slice A' 0 c'] w fun e w' => e = .returned (.bool (sameB [] [])) ∧ ∃ n, w' = w.drewN n := by
  go_enter Try.func17, Try.ntmps17
  go_wp2
  go_loopw [5] (fun i wr => i = .int .i64 0 ∧ wr = w) (fun _ _ => 0)
  case atStart => exact ⟨rfl, rfl⟩
  case round =>
    obtain ⟨rfl, rfl⟩ := hrel
    go_wp2
    go_ret
    exact ⟨rfl, 0, rfl⟩

set_option maxHeartbeats 1000000 in
theorem same_any (w : World) {v v' : Value} {xs ys : List (List UInt8)} (h : SR w v xs) (h' : SR w v' ys) (hx : xs.length ≤ 1000000) (hy : ys.length ≤ 1000000) :
    Calls Try.prog 17 #[v, v'] w fun e w' => e = .returned (.bool (sameB xs ys)) ∧ ∃ n, w' = w.drewN n := by
  obtain ⟨A, c, rfl, hA⟩ := h
  obtain ⟨A', c', rfl, hA'⟩ := h'
  by_cases hl : xs.length = ys.length
  · have hl' : (((xs.length : Nat) : Int) != (ys.length : Int)) = false := by simp [hl]
    rcases hA with h0 | ⟨b, o, rfl, hc⟩
    · subst h0
      obtain rfl : ys = [] := List.eq_nil_of_length_eq_zero (by rw [← hl]; rfl)
      exact same_none w A A' c c'
    · rcases hA' with h0 | ⟨b', o', rfl, hc'⟩
      · subst h0
        obtain rfl : xs = [] := List.eq_nil_of_length_eq_zero (by rw [hl]; rfl)
        exact same_none w _ A' c c'
      · have HL := Lib.hid hl
        clear hl
        go_enter Try.func17, Try.ntmps17
        go_wp2
        go_loopw [5] (fun i wr => ∃ k nd : Nat, k ≤ xs.length ∧ i = .int .i64 k ∧ wr = w.drewN nd ∧ xs.take k = ys.take k) (fun i _ => xs.length - (intOf i).toNat)
        case atStart => exact ⟨0, 0, Nat.zero_le _, rfl, rfl, by simp⟩
        case round =>
          obtain ⟨k, nd, hk, rfl, rfl, ht⟩ := hrel
          have HT := Lib.hid ht
          clear ht
          by_cases hlt : k < xs.length
          · have hlt' : k < ys.length := by have := HL.out; omega
            have e1 := hc k hlt
            have e2 := hc' k hlt'
            go_wp2
            go_quiet (fail)
            go_wp2
            · have hne : (!xs[k] == ys[k]) = true := by assumption
              go_ret
              refine ⟨?_, nd + nq, by rw [World.drewN_drewN]⟩
              have : sameB xs ys = false := by
                unfold sameB
                rw [decide_eq_false]
                rintro rfl
                simp at hne
              rw [this]; rfl
            · have heq : (!xs[k] == ys[k]) = false := by assumption
              go_roundw
              case rel =>
                refine ⟨k + 1, nd + nq, by omega, by go_num, rfl, ?_⟩
                have e : xs[k] = ys[k] := by simpa using heq
                rw [List.take_succ_eq_append_getElem hlt, List.take_succ_eq_append_getElem hlt', HT.out, e]
              case measure => simp [intOf]; omega
          · have hk' : k = xs.length := by omega
            have HK := Lib.hid hk'
            clear hk'
            go_wp2
            go_ret
            refine ⟨?_, nd, rfl⟩
            have : sameB xs ys = true := by
              unfold sameB
              rw [decide_eq_true]
              have := HT.out
              rwa [HK.out, List.take_of_length_le (Nat.le_refl _), List.take_of_length_le (by rw [HL.out]; exact Nat.le_refl _)] at this
            rw [this]; rfl
  · have hl' : (((xs.length : Nat) : Int) != (ys.length : Int)) = true := by simp; omega
    go_enter Try.func17, Try.ntmps17
    go_wp2
    go_ret
    refine ⟨?_, 0, rfl⟩
    have : sameB xs ys = false := by unfold sameB; rw [decide_eq_false (fun e => hl (by rw [e]))]
    rw [this]; rfl
end Go.Proofs.Ytgjngldkeiblbaa
