/-
  clean's contract; and plain facts for LineBack: what was cut, joined, is the text; what was joined, of clean lines, cut, is these.
  A line has at most 100000 bytes.
-/
import Derived.Test.YtgjngldkeiblbaaLong
namespace Go.Proofs.Ytgjngldkeiblbaa
open Go Go.RowKit Go.Shelf

theorem run_join {M : Nat} : ∀ (s l : List UInt8), l.length + s.length < M → joinL (run M l s).1 ++ (run M l s).2.1 = l ++ s := by
  intro s
  induction s with
  | nil => intro l _; simp [run_nil, joinL]
  | cons b s ih =>
    intro l hM
    simp only [List.length_cons] at hM
    by_cases h : b = 10 ∧ l.getLast? = some 13
    · rw [run_end _ h]
      have e := ih [] (by simp; omega)
      have el : l = l.dropLast ++ [13] := by
        have hne : l ≠ [] := by rintro rfl; simp at h
        have := List.dropLast_concat_getLast hne
        have h13 : l.getLast hne = 13 := by have := h.2; rw [List.getLast?_eq_some_getLast hne] at this; simpa using this
        rw [h13] at this; exact this.symm
      have e2 : joinL (l.dropLast :: (run M [] s).1) = l.dropLast ++ [13, 10] ++ joinL (run M [] s).1 := by simp [joinL]
      rw [e2]
      simp only at e ⊢
      rw [List.append_assoc, e, h.1]
      conv => rhs; rw [el]
      simp
    · rw [run_on _ h (by omega)]
      rw [ih (l ++ [b]) (by simp; omega)]
      simp

theorem run_joined {M : Nat} : ∀ (xs : List (List UInt8)), (∀ x ∈ xs, NoCL x) → (joinL xs).length < M → run M [] (joinL xs) = (xs, [], false) := by
  intro xs
  induction xs with
  | nil => intro _ _; rfl
  | cons x xs ih =>
    intro h hM
    have e : joinL (x :: xs) = x ++ 13 :: 10 :: joinL xs := by simp [joinL]
    rw [e] at hM ⊢
    simp at hM
    have hx := h x (by simp)
    have h13 : NoCL (x ++ [13]) := by
      intro i hi
      rcases Nat.lt_or_ge (i + 1) x.length with hlt | hge
      · rw [List.getElem?_append_left (by omega), List.getElem?_append_left hlt] at hi
        exact hx i hi
      · have h2 := hi.2
        rw [List.getElem?_append_right hge] at h2
        have : i + 1 - x.length = 0 := by have := (List.getElem?_eq_some_iff.1 h2).1; simpa using this
        rw [this] at h2; simp at h2
    rw [run_hit (r := joinL xs) h13 (by omega) (x ++ 13 :: 10 :: joinL xs) [] (by simp) (by simp)]
    rw [ih (fun y hy => h y (by simp [hy])) (by omega)]

theorem byte_of {b c : UInt8} (h : (b.toNat : Int) = (c.toNat : Int)) : b = c := UInt8.toNat_inj.1 (by omega)

open Classical in
/-- Does a line come back: no CR LF in it, no CR at its end? -/
noncomputable def cleanB (x : List UInt8) : Bool := decide (NoCL x ∧ x.getLast? ≠ some 13)

theorem cleanB_iff (x : List UInt8) : cleanB x = true ↔ NoCL x ∧ x.getLast? ≠ some 13 := by
  classical
  unfold cleanB
  exact decide_eq_true_iff

theorem cleanB_end {x : List UInt8} (h : NoCL x) (h0 : x ≠ []) (hl : x.length - 1 < (str x).size) : cleanB x = (x.isEmpty || (((str x)[x.length - 1]'hl).toNat : Int) != 13) := by
  have hpos : 0 < x.length := by
    rcases Nat.eq_zero_or_pos x.length with h | h
    · exact absurd (List.eq_nil_of_length_eq_zero h) h0
    · exact h
  have e : x.getLast? = some (x[x.length - 1]'(by omega)) := by rw [List.getLast?_eq_getElem?, List.getElem?_eq_getElem (by omega)]
  have he : x.isEmpty = false := by cases x <;> simp_all
  rw [Bool.eq_iff_iff, cleanB_iff, he, Bool.false_or, bne_iff_ne, e]
  constructor
  · rintro ⟨_, h2⟩ h3
    exact h2 (congrArg some (byte_of (b := x[x.length - 1]'(by omega)) h3))
  · intro h2
    refine ⟨h, fun h3 => h2 ?_⟩
    have h4 : x[x.length - 1]'(by omega) = 13 := by simpa using h3
    show ((x[x.length - 1]'(by omega)).toNat : Int) = 13
    rw [h4]
    rfl

set_option maxRecDepth 100000 in
set_option maxHeartbeats 1000000 in
theorem clean_any (x : List UInt8) (w : World) (hx : x.length ≤ 100000) :
    Calls Try.prog 26 #[.string (str x)] w fun e w' => e = .returned (.bool (cleanB x)) ∧ w = w' := by
  go_enter Try.func26, Try.ntmps26
  go_wp2
  go_loop [3] (fun i => ∃ k : Nat, k ≤ x.length ∧ i = .int .i64 k ∧ ∀ j, j < k → ¬ (x[j]? = some 13 ∧ x[j + 1]? = some 10)) (fun i => x.length - (intOf i).toNat)
  case atStart => exact ⟨0, Nat.zero_le _, rfl, fun j h => absurd h (by omega)⟩
  case round =>
    obtain ⟨k, hk, rfl, hno⟩ := hrel
    have HN := Lib.hid hno
    clear hno
    by_cases hlt : k + 1 < x.length
    · have hlt' : (k : Int) + 1 < (x.length : Int) := by omega
      have HLT := Lib.hid hlt
      go_wp2
      · have h1 : (((str x)[k]'(by simp [ByteArray.size]; omega)).toNat : Int) = 13 := by assumption
        have h2 : ((((str x)[k + 1]'(by simp [ByteArray.size]; omega)).toNat : Int) == 10) = true := by assumption
        go_ret
        refine ⟨?_, rfl⟩
        have : cleanB x = false := by
          rw [Bool.eq_false_iff, ne_eq, cleanB_iff]
          rintro ⟨h, _⟩
          refine h k ⟨?_, ?_⟩
          · rw [List.getElem?_eq_getElem (by omega)]; exact congrArg some (byte_of h1)
          · rw [List.getElem?_eq_getElem (by omega)]; exact congrArg some (byte_of (b := x[k + 1]'(by omega)) (eq_of_beq h2))
        rw [this]; rfl
      · have h2 : ((((str x)[k + 1]'(by simp [ByteArray.size]; omega)).toNat : Int) == 10) = false := by assumption
        go_round
        case rel =>
          refine ⟨k + 1, by omega, by go_num, fun j hj => ?_⟩
          rcases Nat.lt_or_ge j k with h | h
          · exact HN.out j h
          · obtain rfl : j = k := by omega
            rintro ⟨_, e⟩
            rw [List.getElem?_eq_getElem (by omega)] at e
            have e' : x[j + 1]'(by omega) = 10 := by simpa using e
            rw [show (str x)[j + 1]'(by simp [ByteArray.size]; omega) = x[j + 1]'(by omega) from rfl, e'] at h2
            simp at h2
        case measure => simp [intOf]; omega
      · have h1 : ¬ (((str x)[k]'(by simp [ByteArray.size]; omega)).toNat : Int) = 13 := by assumption
        go_round
        case rel =>
          refine ⟨k + 1, by omega, by go_num, fun j hj => ?_⟩
          rcases Nat.lt_or_ge j k with h | h
          · exact HN.out j h
          · obtain rfl : j = k := by omega
            rintro ⟨e, _⟩
            rw [List.getElem?_eq_getElem (by omega)] at e
            have e' : x[j]'(by omega) = 13 := by simpa using e
            rw [show (str x)[j]'(by simp [ByteArray.size]; omega) = x[j]'(by omega) from rfl, e'] at h1
            simp at h1
        case measure => simp [intOf]; omega
    · have hge : (x.length : Int) ≤ (k : Int) + 1 := by omega
      have hcl : NoCL x := fun i hi => by
        rcases Nat.lt_or_ge i k with h | h
        · exact HN.out i h hi
        · have h2 := (List.getElem?_eq_some_iff.1 hi.2).1
          omega
      have HCL := Lib.hid hcl
      clear hcl
      by_cases hxe : x = []
      · subst hxe
        go_wp2
        go_ret
        refine ⟨?_, rfl⟩
        have : cleanB [] = true := (cleanB_iff _).2 ⟨HCL.out, by simp⟩
        rw [this]; rfl
      · have hpos : 0 < x.length := by
          rcases Nat.eq_zero_or_pos x.length with h | h
          · exact absurd (List.eq_nil_of_length_eq_zero h) hxe
          · exact h
        have hpos' : (1 : Int) ≤ (x.length : Int) := by omega
        go_wp2
        go_ret
        refine ⟨?_, rfl⟩
        rw [cleanB_end HCL.out hxe (by simp [ByteArray.size]; omega)]
        rfl
end Go.Proofs.Ytgjngldkeiblbaa
