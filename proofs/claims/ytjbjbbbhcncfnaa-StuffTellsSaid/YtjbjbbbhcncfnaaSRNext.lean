/-
  The reference's next: a text's first line, with its end, and what is behind; or the text has no end of a line.
-/
import Derived.Test.YtjbjbbbhcncfnaaSWork
namespace Go.Proofs.Ytjbjbbbhcncfnaa
open Go Go.RowKit Go.Shelf
set_option maxRecDepth 100000
set_option linter.unusedSimpArgs false
set_option linter.unusedVariables false

/-- No line's end begins within the first k bytes. -/
def NoEnd (s : List UInt8) (k : Nat) : Prop := ∀ j, j < k → ¬ (s[j]? = some 13 ∧ s[j + 1]? = some 10)

theorem get_getD {s : List UInt8} {k : Nat} (h : k < s.length) : s[k]? = some (s.getD k 0) := by
  rw [List.getD_eq_getElem?_getD, List.getElem?_eq_getElem h]; rfl

theorem noEnd_hit {s : List UInt8} {k : Nat} (h : NoEnd s k) (hk : k + 1 < s.length) (h1 : s.getD k 0 = 13) (h2 : s.getD (k + 1) 0 = 10) : NoCL (s.take k ++ [13]) ∧ s = s.take k ++ 13 :: 10 :: s.drop (k + 2) := by
  have g1 : s[k] = 13 := by rw [← getD_str s k (by omega)]; exact h1
  have g2 : s[k + 1] = 10 := by rw [← getD_str s (k + 1) hk]; exact h2
  have e : s.take k ++ [13] = s.take (k + 1) := by rw [List.take_succ_eq_append_getElem (by omega), g1]
  refine ⟨?_, ?_⟩
  · rw [e]
    intro j hj
    rw [List.getElem?_take, List.getElem?_take] at hj
    by_cases hjk : j + 1 < k + 1
    · rw [if_pos (by omega), if_pos hjk] at hj
      exact h j (by omega) hj
    · rw [if_neg hjk] at hj; cases hj.2
  · conv => lhs; rw [← List.take_append_drop k s]
    rw [List.drop_eq_getElem_cons (by omega), g1, List.drop_eq_getElem_cons hk, g2]

theorem noEnd_skip {s : List UInt8} {k : Nat} (h : NoEnd s k) (hk : k + 1 < s.length) (hn : ¬ (s.getD k 0 = 13 ∧ s.getD (k + 1) 0 = 10)) : NoEnd s (k + 1) := by
  intro j hj hh
  by_cases e : j = k
  · subst e
    rw [get_getD (by omega), get_getD hk] at hh
    exact hn ⟨by simpa using hh.1, by simpa using hh.2⟩
  · exact h j (by omega) hh

theorem noEnd_all {s : List UInt8} {k : Nat} (h : NoEnd s k) (hk : s.length ≤ k + 1) : NoCL s := by
  intro j hj
  by_cases e : j < k
  · exact h j e hj
  · have : s[j + 1]? = none := List.getElem?_eq_none (by omega)
    rw [this] at hj; cases hj.2

theorem run_slice_to (s a : List UInt8) (n : Nat) (h : n ≤ s.length) (E : (str s).extract 0 n = str a) (w : World) :
    (Instr.slice 9 (sv s) none (some (.int .i64 (n : Int))) none).run Try.prog w = .ok (sv a) w := by
  have hjs : (n : Int) ≤ (s.length : Int) := by omega
  go_simp
theorem run_slice_from (s b : List UInt8) (n : Nat) (h : n ≤ s.length) (E : (str s).extract n s.length = str b) (w : World) :
    (Instr.slice 9 (sv s) (some (.int .i64 (n : Int))) none none).run Try.prog w = .ok (sv b) w := by
  have hjs : (n : Int) ≤ (s.length : Int) := by omega
  go_simp

/-- What next leaves. -/
def NxPost (s : List UInt8) (w : World) (e : Ending) (w' : World) : Prop :=
  Below w.heap.size w w' ∧ ((∃ a r, s = a ++ 13 :: 10 :: r ∧ NoCL (a ++ [13]) ∧ e = .returned (.tuple #[sv (a ++ [13, 10]), sv r, .bool true])) ∨ (NoCL s ∧ e = .returned (.tuple #[sv s, sv [], .bool false])))

set_option maxHeartbeats 4000000 in
theorem next_any (s : List UInt8) (w : World) (hs : s.length ≤ 1000000) : Calls Try.prog 21 #[.string (str s)] w (NxPost s w) := by
  go_enter Try.func21, Try.ntmps21
  go_wp2_with fail
  go_loopw [5] (fun i wr => ∃ k : Nat, k ≤ s.length ∧ i = .int .i64 k ∧ NoEnd s k ∧ wr = w) (fun i _ => s.length - (intOf i).toNat)
  case atStart => exact ⟨0, Nat.zero_le _, rfl, (fun j hj => absurd hj (Nat.not_lt_zero j)), rfl⟩
  case round =>
    obtain ⟨k, hk, rfl, hne, rfl⟩ := hrel
    have HN := Lib.hid hne
    clear hne
    by_cases hlt : k + 1 < s.length
    · obtain ⟨c, hc⟩ : ∃ c, (s.getD k 0).toNat = c := ⟨_, rfl⟩
      obtain ⟨d, hd⟩ : ∃ d, (s.getD (k + 1) 0).toNat = d := ⟨_, rfl⟩
      have hk1 : k < s.length := by omega
      have hcs : (((str s)[k]'(by simpa [ByteArray.size] using hk1)).toNat) = c := by rw [str_getD s k hk1, hc]
      have hds : (((str s)[k + 1]'(by simpa [ByteArray.size] using hlt)).toNat) = d := by rw [str_getD s (k + 1) hlt, hd]
      have hlt' : (k : Int) + 1 < (s.length : Int) := by omega
      by_cases h13 : c = 13
      · have e13 : ((c : Int) == 13) = true := by rw [h13]; rfl
        by_cases h10 : d = 10
        · have e10 : ((d : Int) == 10) = true := by rw [h10]; rfl
          have hh := noEnd_hit HN.out hlt (UInt8.toNat_inj.1 (by rw [hc, h13]; rfl)) (UInt8.toNat_inj.1 (by rw [hd, h10]; rfl))
          have HH := Lib.hid hh
          obtain ⟨a, ha⟩ : ∃ a, a = s.take k ++ [13, 10] := ⟨_, rfl⟩
          obtain ⟨r, hr⟩ : ∃ r, r = s.drop (k + 2) := ⟨_, rfl⟩
          have hle : k + 2 ≤ s.length := by omega
          have x1 : (str s).extract 0 (k + 2) = str a := by
            rw [str_extract, ha]
            congr 1
            show s.take (k + 2) = s.take k ++ [13, 10]
            conv => lhs; rw [hh.2]
            have hl : (s.take k).length = k := by simp; omega
            rw [List.take_append, List.take_of_length_le (by omega), hl, show k + 2 - k = 2 by omega]
            rfl
          have x2 : (str s).extract (k + 2) s.length = str r := by rw [str_extract, List.take_of_length_le (Nat.le_refl _), hr]
          have c1 := fun w1 => run_slice_to s a (k + 2) hle x1 w1
          have c2 := fun w1 => run_slice_from s r (k + 2) hle x2 w1
          rw [show (((k + 2 : Nat)) : Int) = (k : Int) + 2 from rfl] at c1 c2
          have HA := Lib.hid ha
          have HR := Lib.hid hr
          clear hh hc hd h13 h10 ha hr x1 x2
          go_wp2
          go_region
          all_goals go_wp2
          all_goals go_ret3
          all_goals refine ⟨(Below.refl _ _).drew, .inl ⟨s.take k, r, by rw [HR.out]; exact HH.out.2, HH.out.1, by rw [← HA.out]; rfl⟩⟩
        · have e10 : ((d : Int) == 10) = false := by rw [beq_eq_false_iff_ne]; omega
          have HH := Lib.hid (noEnd_skip HN.out hlt (fun e => h10 (by rw [← hd, e.2]; rfl)))
          clear hc hd h13 h10
          go_wp2
          go_roundw
          case rel => exact ⟨k + 1, by omega, by go_num, HH.out, by first | rfl | trivial⟩
          case measure => simp [intOf]; omega
      · have e13 : ((c : Int) == 13) = false := by rw [beq_eq_false_iff_ne]; omega
        have HH := Lib.hid (noEnd_skip HN.out hlt (fun e => h13 (by rw [← hc, e.1]; rfl)))
        clear hc hd h13
        go_wp2
        go_roundw
        case rel => exact ⟨k + 1, by omega, by go_num, HH.out, by first | rfl | trivial⟩
        case measure => simp [intOf]; omega
    · have HH := Lib.hid (noEnd_all HN.out (by omega))
      have hlt' : ¬ (k : Int) + 1 < (s.length : Int) := by omega
      clear HN
      go_wp2
      go_ret3
      exact ⟨Below.refl _ _, .inr ⟨HH.out, rfl⟩⟩
end Go.Proofs.Ytjbjbbbhcncfnaa
