/-
  Contracts of the verifier's own small functions: ended (does a text end by CR LF?), Join (each text with CR LF behind it). And 'run' told one byte more.
  A text, and what the texts come to, has at most 100000 bytes.
-/
import Derived.Test.YtgjngldkeiblbaaClean
namespace Go.Proofs.Ytgjngldkeiblbaa
open Go Go.RowKit Go.Shelf

/-- Does a text end by CR LF? -/
def endedB (x : List UInt8) : Bool := decide (2 ≤ x.length ∧ x[x.length - 2]? = some 13 ∧ x[x.length - 1]? = some 10)

theorem byte_eq {b c : UInt8} : ((b.toNat : Int) == (c.toNat : Int)) = decide (b = c) := by
  rw [Bool.eq_iff_iff, beq_iff_eq, decide_eq_true_iff]
  exact ⟨byte_of, fun e => by rw [e]⟩

set_option maxHeartbeats 1000000 in
theorem ended_any (x : List UInt8) (w : World) (hx : x.length ≤ 100000) :
    Calls Try.prog 30 #[.string (str x)] w fun e w' => e = .returned (.bool (endedB x)) ∧ w = w' := by
  by_cases h2 : 2 ≤ x.length
  · have h2' : (2 : Int) ≤ (x.length : Int) := by omega
    have hE : endedB x = (decide (x[x.length - 2]'(by omega) = 13) && decide (x[x.length - 1]'(by omega) = 10)) := by
      unfold endedB
      rw [List.getElem?_eq_getElem (show x.length - 2 < x.length by omega), List.getElem?_eq_getElem (show x.length - 1 < x.length by omega)]
      simp [h2]
    by_cases h13 : x[x.length - 2]'(by omega) = 13
    · have h1 : ((((str x)[x.length - 2]'(by simp [ByteArray.size]; omega)).toNat : Int) == 13) = true := by
        rw [show (str x)[x.length - 2]'(by simp [ByteArray.size]; omega) = x[x.length - 2]'(by omega) from rfl, h13]; rfl
      go_enter Try.func30, Try.ntmps30
      go_wp2
      go_ret
      refine ⟨?_, rfl⟩
      rw [hE, decide_eq_true h13, Bool.true_and]
      rw [← byte_eq]
      rfl
    · have h1 : ((((str x)[x.length - 2]'(by simp [ByteArray.size]; omega)).toNat : Int) == 13) = false := by
        rw [show (str x)[x.length - 2]'(by simp [ByteArray.size]; omega) = x[x.length - 2]'(by omega) from rfl]
        rw [show (13 : Int) = ((13 : UInt8).toNat : Int) from rfl, byte_eq, decide_eq_false h13]
      go_enter Try.func30, Try.ntmps30
      go_wp2
      go_ret
      refine ⟨?_, rfl⟩
      rw [hE, decide_eq_false h13, Bool.false_and]
      rfl
  · rw [show endedB x = false by unfold endedB; rw [decide_eq_false]; rintro ⟨h, _⟩; exact h2 h]
    have h2' : (x.length : Int) ≤ 1 := by omega
    go_enter Try.func30, Try.ntmps30
    go_wp2
    go_ret
    exact ⟨rfl, rfl⟩

theorem ended_is (x : List UInt8) (b : Bool) (w : World) (hb : endedB x = b) (hx : x.length ≤ 100000) :
    Calls Try.prog 30 #[.string (str x)] w fun e w' => e = .returned (.bool b) ∧ w = w' := by
  subst hb
  exact ended_any x w hx

theorem endedB_snoc (l : List UInt8) (b : UInt8) : endedB (l ++ [b]) = true ↔ b = 10 ∧ l.getLast? = some 13 := by
  unfold endedB
  rw [decide_eq_true_iff, List.getLast?_eq_getElem?]
  simp only [List.length_append, List.length_singleton]
  constructor
  · rintro ⟨h, h1, h2⟩
    rw [List.getElem?_append_left (by omega)] at h1
    rw [List.getElem?_append_right (by omega)] at h2
    refine ⟨by simpa using h2, ?_⟩
    rw [show l.length - 1 = l.length + 1 - 2 by omega]; exact h1
  · rintro ⟨rfl, h⟩
    have hl : 0 < l.length := by
      rcases Nat.eq_zero_or_pos l.length with h0 | h0
      · rw [List.eq_nil_of_length_eq_zero h0] at h; simp at h
      · exact h0
    refine ⟨by omega, ?_, ?_⟩
    · rw [List.getElem?_append_left (by omega), show l.length + 1 - 2 = l.length - 1 by omega]; exact h
    · rw [List.getElem?_append_right (by omega)]; simp

/-- One byte more, of a line that is whole by it. -/
theorem run_one_end {m : Nat} {l : List UInt8} {b : UInt8} (h : endedB (l ++ [b]) = true) : run m l [b] = ([l.dropLast], [], false) := by
  rw [run_end _ ((endedB_snoc l b).1 h)]; rfl
/-- One byte more, of a line that is not whole by it. -/
theorem run_one_on {m : Nat} {l : List UInt8} {b : UInt8} (h : endedB (l ++ [b]) = false) (hm : l.length + 1 < m) : run m l [b] = ([], l ++ [b], false) := by
  rw [run_on _ (fun e => by rw [(endedB_snoc l b).2 e] at h; cases h) hm]; rfl
theorem run_one_dies {m : Nat} {l : List UInt8} {b : UInt8} (h : endedB (l ++ [b]) = false) (hm : m ≤ l.length + 1) : run m l [b] = ([], [], true) :=
  run_dies _ (fun e => by rw [(endedB_snoc l b).2 e] at h; cases h) hm

set_option maxHeartbeats 1000000 in
theorem refJoin_any (xs : List (List UInt8)) (v : Value) (w : World) (h : SR w v xs) (hn : (joinL xs).length ≤ 100000) (hx : xs.length ≤ 100000) :
    Calls Try.prog 25 #[v] w fun e w' => e = .returned (.string (str (joinL xs))) ∧ w = w' := by
  obtain ⟨A, c, rfl, hA⟩ := h
  have HA := Lib.hid hA
  clear hA
  have ej : ∀ a b : List UInt8, str a ++ str b = str (a ++ b) := fun a b => by apply ByteArray.ext; simp
  go_enter Try.func25, Try.ntmps25
  go_wp2
  go_loop [3, 4] (fun s i => ∃ k : Nat, k ≤ xs.length ∧ i = .int .i64 k ∧ s = sv (joinL (xs.take k))) (fun _ i => xs.length - (intOf i).toNat)
  case atStart => exact ⟨0, Nat.zero_le _, rfl, rfl⟩
  case round =>
    obtain ⟨k, hk, rfl, rfl⟩ := hrel
    by_cases hlt : k < xs.length
    · rcases HA.out with h0 | ⟨b, o, rfl, hc⟩
      · subst h0; simp at hlt
      · have e1 : w.cell? ⟨b, o + k, none⟩ = some (sv xs[k]) := hc k hlt
        have hjk : joinL (xs.take (k + 1)) = joinL (xs.take k) ++ xs[k] ++ [13, 10] := by rw [List.take_succ_eq_append_getElem hlt, joinL_snoc]
        have hjl := joinL_take_le xs (k + 1)
        rw [hjk] at hjl
        have hjl' : (joinL (xs.take k)).length + xs[k].length + 2 ≤ 100000 := by simp at hjl; omega
        have hjl2 : (joinL (xs.take k)).length + xs[k].length ≤ 100000 := by omega
        have HJ := Lib.hid hjk
        clear hjk hjl hc
        go_wp2
        go_round
        case rel => 
          refine ⟨k + 1, by omega, by go_num, ?_⟩
          rw [HJ.out, List.append_assoc]
        case measure => simp [intOf]; omega
    · obtain rfl : k = xs.length := by omega
      go_wp2
      go_ret
      exact ⟨rfl, rfl⟩
end Go.Proofs.Ytgjngldkeiblbaa
