/-
  The contracts of the reference's blank, Trim, colon.
-/
import Derived.Test.YtkffdhdhjfbhjaaDoorHName
namespace Go.Proofs.YtkffdhdhjfbhjaaDoor
set_option linter.unusedSimpArgs false
set_option linter.unusedVariables false
open Go Go.RowKit Go.Shelf
set_option maxRecDepth 100000

theorem onB_nat {b : UInt8} {x : Nat} (hx : b.toNat = x) : onB b = (decide (x = 32) || decide (x = 9)) := by
  unfold onB
  have e1 : (b == 32) = decide (x = 32) := by
    rw [Bool.eq_iff_iff, beq_iff_eq, decide_eq_true_eq, ← UInt8.toNat_inj, hx]; rfl
  have e2 : (b == 9) = decide (x = 9) := by
    rw [Bool.eq_iff_iff, beq_iff_eq, decide_eq_true_eq, ← UInt8.toNat_inj, hx]; rfl
  rw [e1, e2]

set_option maxHeartbeats 1000000 in
theorem blank_any (b : UInt8) (x : Nat) (hx : b.toNat = x) (w : World) : Calls Tryd.prog 42 #[.int .u8 (x : Int)] w fun e w' => e = .returned (.bool (onB b)) ∧ w = w' := by
  rw [onB_nat hx]
  by_cases h1 : x = 32
  · subst h1
    go_enter Tryd.func42, Tryd.ntmps42
    go_wp2_with fail
    go_ret
    exact ⟨rfl, rfl⟩
  · have e1 : ((x : Int) == 32) = false := by rw [beq_eq_false_iff_ne]; omega
    by_cases h2 : x = 9
    · subst h2
      go_enter Tryd.func42, Tryd.ntmps42
      go_wp2_with fail
      go_ret
      exact ⟨rfl, rfl⟩
    · have e2 : ((x : Int) == 9) = false := by rw [beq_eq_false_iff_ne]; omega
      go_enter Tryd.func42, Tryd.ntmps42
      go_wp2_with fail
      go_ret
      refine ⟨?_, rfl⟩
      congr 2
      simp [h1, h2]

/-- The colon's place, where the bytes ahead of it may stand in a name; 0: there is none. -/
def colL (l : List UInt8) : Nat := let k := (l.takeWhile okN).length; if l[k]? = some 58 then k else 0

theorem col_hit {l : List UInt8} {k : Nat} (h : ∀ j, j < k → okN (l.getD j 0) = true) (hk : k < l.length) (hn : okN (l.getD k 0) = false) : (l.takeWhile okN).length = k := by
  induction l generalizing k with
  | nil => simp at hk
  | cons c l ih =>
    cases k with
    | zero => rw [List.takeWhile_cons_of_neg (by simpa using hn)]; rfl
    | succ k =>
      rw [List.takeWhile_cons_of_pos (by simpa using h 0 (by omega)), List.length_cons, ih (k := k) (fun j hj => by simpa using h (j + 1) (by omega)) (by simpa using hk) (by simpa using hn)]
theorem takeWhile_all {α : Type} {p : α → Bool} {l : List α} (h : ∀ c ∈ l, p c = true) : l.takeWhile p = l := by
  induction l with
  | nil => rfl
  | cons c l ih => rw [List.takeWhile_cons_of_pos (h c (by simp)), ih (fun c hc => h c (by simp [hc]))]
theorem col_all {l : List UInt8} (h : ∀ j, j < l.length → okN (l.getD j 0) = true) : (l.takeWhile okN).length = l.length := by
  rw [takeWhile_all]
  intro c hc
  obtain ⟨k, hk, rfl⟩ := List.getElem_of_mem hc
  have := h k hk
  rwa [getD_str l k hk] at this

set_option maxHeartbeats 2000000 in
theorem colon_any (s : List UInt8) (w : World) (hs : s.length ≤ 1000000) :
    Calls Tryd.prog 43 #[sv s] w fun e w' => e = .returned (.int .i64 (colL s : Int)) ∧ Below w.heap.size w w' := by
  have HB := Lib.hid (Below.refl w.heap.size w)
  go_enter Tryd.func43, Tryd.ntmps43
  go_wp2_with fail
  go_loopw [3] (fun i wr => ∃ k : Nat, k ≤ s.length ∧ i = .int .i64 k ∧ (∀ j, j < k → okN (s.getD j 0) = true) ∧ Below w.heap.size w wr) (fun i _ => s.length - (intOf i).toNat)
  case atStart => exact ⟨0, Nat.zero_le _, rfl, fun j hj => absurd hj (by omega), HB.out⟩
  case round =>
    obtain ⟨k, hk, rfl, ht, hbl⟩ := hrel
    have HT := Lib.hid ht
    have HL := Lib.hid hbl
    clear ht hbl
    by_cases hlt : k < s.length
    · obtain ⟨x, hx⟩ : ∃ x, (s.getD k 0).toNat = x := ⟨_, rfl⟩
      have hxs : (((str s)[k]'(by simpa [ByteArray.size] using hlt)).toNat) = x := by rw [str_getD s k hlt, hx]
      have hget : s[k]? = some (s.getD k 0) := by rw [List.getElem?_eq_getElem hlt, getD_str s k hlt]
      have HF := Lib.hid (fun h => show colL s = 0 by
        have hn : okN (s.getD k 0) = false := okN_no hx (h.elim .inl fun h => .inr (.inl h))
        unfold colL
        rw [col_hit HT.out hlt hn]
        dsimp only
        rw [if_neg]
        rw [hget]
        intro e
        have e' : s.getD k 0 = 58 := by simpa using e
        rw [e'] at hx
        have : x = 58 := hx.symm
        omega : x ≤ 32 ∨ 126 < x → colL s = 0)
      have HC := Lib.hid (fun (h : x = 58) => show colL s = k by
        have hn : okN (s.getD k 0) = false := okN_no hx (.inr (.inr h))
        unfold colL
        rw [col_hit HT.out hlt hn]
        dsimp only
        rw [if_pos]
        rw [hget]
        congr 1
        exact UInt8.toNat_inj.1 (by rw [hx, h]; rfl))
      have HY := Lib.hid (fun h1 h2 h3 => upto_next HT.out (okN_yes hx h1 h2 h3))
      clear hx hget
      by_cases h3 : x = 58
      · subst h3
        go_wp2_with fail
        go_ret
        rw [HC.out trivial]
        exact ⟨rfl, HL.out⟩
      · have e3 : ((x : Int) == 58) = false := by rw [beq_eq_false_iff_ne]; omega
        by_cases h1 : x ≤ 32
        · have e1 : (x : Int) < 33 := by omega
          go_wp2_with fail
          go_ret
          rw [HF.out (.inl h1)]
          exact ⟨rfl, HL.out⟩
        · have e1 : ¬ (x : Int) < 33 := by omega
          by_cases h2 : 126 < x
          · go_wp2_with fail
            go_ret
            rw [HF.out (.inr h2)]
            exact ⟨rfl, HL.out⟩
          · go_wp2_with fail
            go_roundw
            case rel => exact ⟨k + 1, by omega, by go_num, HY.out (by omega) (by omega) h3, HL.out⟩
            case measure => simp [intOf]; omega
    · obtain rfl : k = s.length := by omega
      have HE := Lib.hid (show colL s = 0 by
        unfold colL
        rw [col_all HT.out]
        dsimp only
        rw [if_neg]
        rw [List.getElem?_eq_none (Nat.le_refl _)]
        simp)
      go_wp2_with fail
      go_ret
      rw [HE.out]
      exact ⟨rfl, HL.out⟩
end Go.Proofs.YtkffdhdhjfbhjaaDoor
