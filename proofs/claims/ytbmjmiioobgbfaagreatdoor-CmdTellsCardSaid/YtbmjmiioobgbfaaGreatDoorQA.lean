/-
  The reference's MayParam and envid (layer 7): they are the plain functions.
  The reference's May and envid (layer 7): they are the plain functions.
-/
import Derived.Test.YtbmjmiioobgbfaaGreatDoorKLaw1
import Derived.Deep.QuietTactic
import Derived.BigQuiet
namespace Go.Proofs.YtbmjmiioobgbfaaGreatDoor
open Go Go.RowKit Go.Shelf
set_option linter.unusedSimpArgs false
set_option linter.unusedVariables false
set_option maxRecDepth 100000

/-- What may stand at place j of a parameter's name. -/
def nmC (j : Nat) (c : UInt8) : Bool := upC c || (decide (0 < j) && digC c)
def NmUp (n : List UInt8) (k : Nat) : Prop := ∀ j, j < k → nmC j (n.getD j 0) = true

theorem pn_yes {n : List UInt8} (h0 : 0 < n.length) (h1 : n.length ≤ 32) (h : NmUp n n.length) : pnL n = true := by
  unfold pnL
  rw [decide_eq_true h0, decide_eq_true h1]
  have e1 : upC (n.headD 0) = true := by
    have := h 0 h0
    unfold nmC at this
    cases n with
    | nil => simp at h0
    | cons x t => simpa using this
  have e2 : n.all pnC = true := by
    rw [List.all_eq_true]
    intro c hc
    obtain ⟨j, hj, rfl⟩ := List.getElem_of_mem hc
    have := h j hj
    rw [List.getD_eq_getElem?_getD, List.getElem?_eq_getElem hj] at this
    unfold nmC at this
    unfold pnC
    rcases Bool.or_eq_true _ _ ▸ this with h' | h'
    · rw [show upC n[j] = true from h']; rfl
    · rw [show digC n[j] = true from (Bool.and_eq_true _ _ ▸ h').2]; simp
  rw [e1, e2]; rfl
theorem pn_no {n : List UInt8} {j : Nat} (hj : j < n.length) (h : nmC j (n.getD j 0) = false) : pnL n = false := by
  rw [Bool.eq_false_iff]
  intro hp
  unfold pnL at hp
  simp only [Bool.and_eq_true] at hp
  obtain ⟨⟨_, h1⟩, h2⟩ := hp
  have hm : n.getD j 0 ∈ n := by rw [List.getD_eq_getElem?_getD, List.getElem?_eq_getElem hj]; exact List.getElem_mem hj
  have h3 := List.all_eq_true.1 h2 _ hm
  have e : upC (n.getD j 0) = false ∧ (decide (0 < j) && digC (n.getD j 0)) = false := by
    unfold nmC at h
    exact Bool.or_eq_false_iff.1 h
  by_cases h0 : j = 0
  · subst h0
    have : n.headD 0 = n.getD 0 0 := by cases n <;> rfl
    rw [this, e.1] at h1
    cases h1
  · have hd : digC (n.getD j 0) = false := by
      have := e.2
      rwa [decide_eq_true (show 0 < j by omega), Bool.true_and] at this
    unfold pnC at h3
    rw [e.1, hd] at h3
    cases h3
theorem pn_len {n : List UInt8} (h : ¬ (0 < n.length ∧ n.length ≤ 32)) : pnL n = false := by
  unfold pnL
  by_cases h0 : 0 < n.length
  · rw [decide_eq_true h0, decide_eq_false (show ¬ n.length ≤ 32 from fun e => h ⟨h0, e⟩)]; rfl
  · rw [decide_eq_false h0]; rfl

theorem upC_iff {c : UInt8} {b : Nat} (h : c.toNat = b) : upC c = (decide (65 ≤ b) && decide (b ≤ 90)) := by
  unfold upC
  rw [Bool.eq_iff_iff]
  simp only [Bool.and_eq_true, decide_eq_true_eq, UInt8.le_iff_toNat_le, h]
  exact Iff.rfl
theorem digC_iff {c : UInt8} {b : Nat} (h : c.toNat = b) : digC c = (decide (48 ≤ b) && decide (b ≤ 57)) := by
  unfold digC
  rw [Bool.eq_iff_iff]
  simp only [Bool.and_eq_true, decide_eq_true_eq, UInt8.le_iff_toNat_le, h]
  exact Iff.rfl
theorem vlC_iff {c : UInt8} {b : Nat} (h : c.toNat = b) : vlC c = (decide (33 ≤ b) && decide (b ≤ 126) && decide (b ≠ 61)) := by
  unfold vlC
  have e : (c != 61) = decide (b ≠ 61) := by
    rw [Bool.eq_iff_iff]
    simp only [bne_iff_ne, ne_eq, decide_eq_true_eq]
    rw [← UInt8.toNat_inj, h]
    exact Iff.rfl
  rw [e, Bool.eq_iff_iff]
  simp only [Bool.and_eq_true, decide_eq_true_eq, UInt8.le_iff_toNat_le, h]
  exact Iff.rfl

theorem byte_ways (b k : Nat) : ((65 ≤ b ∧ b ≤ 90) ∨ (¬ 65 ≤ b ∧ 0 < k ∧ 48 ≤ b ∧ b ≤ 57)) ∨ ((¬ 65 ≤ b ∧ k = 0) ∨ (¬ 65 ≤ b ∧ 0 < k ∧ ¬ 48 ≤ b) ∨ (¬ 65 ≤ b ∧ 0 < k ∧ 48 ≤ b ∧ ¬ b ≤ 57) ∨ (65 ≤ b ∧ ¬ b ≤ 90 ∧ k = 0) ∨ (65 ≤ b ∧ ¬ b ≤ 90 ∧ 0 < k)) := by omega

set_option maxHeartbeats 8000000 in
theorem rmayp_any (p : PM) (w : World) (hn : p.1.length ≤ 1000000) (hv : p.2.length ≤ 1000000) : Calls Tryz.prog 63 #[pmV p] w fun e w' => e = .returned (.bool (pL p)) ∧ Below w.heap.size w w' := by
  obtain ⟨n, v⟩ := p
  dsimp only at hn hv
  by_cases hlen : 0 < n.length ∧ n.length ≤ 32
  · obtain ⟨hl0, hl1⟩ := hlen
    have g1 : ¬ ((n.length : Int) < 1) := by omega
    have g2 : ¬ (32 < (n.length : Int)) := by omega
    go_enter Tryz.func63, Tryz.ntmps63
    go_wp2_with fail
    obtain ⟨W, hW⟩ : ∃ W, W = w.alloc (.cells #[sv n, sv v] 95) := ⟨_, rfl⟩
    have hb : W.heap[w.heap.size]? = some (.cells #[sv n, sv v] 95 (0, 0)) := by rw [hW]; exact heap_alloc_new _ _
    have c0 : W.cell? ⟨w.heap.size, 0, none⟩ = some (sv n) := by rw [cellAt hb]; rfl
    have c1 : W.cell? ⟨w.heap.size, 1, none⟩ = some (sv v) := by rw [cellAt hb]; rfl
    have HBW := Lib.hid (show Below w.heap.size w W by rw [hW]; exact below_alloc _ _)
    rw [← hW]
    clear hW hb
    go_loopw [3] (fun i wr => ∃ k : Nat, k ≤ n.length ∧ i = .int .i64 k ∧ NmUp n k ∧ wr = W) (fun i _ => n.length - (intOf i).toNat)
    case atStart => exact ⟨0, by omega, rfl, (fun j h => absurd h (Nat.not_lt_zero j)), rfl⟩
    case round =>
      obtain ⟨k, hk, rfl, hup, rfl⟩ := hrel
      have HU := Lib.hid hup
      clear hup
      by_cases hlt : k < n.length
      · obtain ⟨b, hbk⟩ : ∃ b, (n.getD k 0).toNat = b := ⟨_, rfl⟩
        have hcs : (((str n)[k]'(by simpa [ByteArray.size] using hlt)).toNat) = b := by rw [str_getD n k hlt, hbk]
        have hk2 : (k : Int) < (n.length : Int) := by omega
        have e1 := upC_iff hbk
        have e2 := digC_iff hbk
        rcases byte_ways b k with hw | hw
        · have HU2 := Lib.hid (show NmUp n (k + 1) by
            intro j hj
            by_cases e : j = k
            · subst e
              unfold nmC
              rw [e1, e2]
              rcases hw with ⟨h1, h2⟩ | ⟨h1, h2, h3, h4⟩
              · rw [decide_eq_true h1, decide_eq_true h2]; rfl
              · rw [decide_eq_true h2, decide_eq_true h3, decide_eq_true h4]; simp
            · exact HU.out j (by omega))
          clear e1 e2 hbk
          rcases hw with ⟨h1, h2⟩ | ⟨h1, h2, h3, h4⟩
          · have i1 : (65 : Int) ≤ (b : Int) := by omega
            have i2 : (b : Int) ≤ 90 := by omega
            clear h1 h2
            go_wp2
            go_roundw
            case rel => exact ⟨k + 1, by omega, by go_num, HU2.out, by first | rfl | trivial⟩
            case measure => simp [intOf]; omega
          · have i1 : ¬ (65 : Int) ≤ (b : Int) := by omega
            have i2 : (0 : Int) < (k : Int) := by omega
            have i3 : (48 : Int) ≤ (b : Int) := by omega
            have i4 : (b : Int) ≤ 57 := by omega
            clear h1 h2 h3 h4
            go_wp2
            go_roundw
            case rel => exact ⟨k + 1, by omega, by go_num, HU2.out, by first | rfl | trivial⟩
            case measure => simp [intOf]; omega
        · have HN := Lib.hid (show false = pL (n, v) by
            unfold pL
            rw [pn_no hlt (by
              unfold nmC
              rw [e1, e2]
              rcases hw with ⟨h1, h2⟩ | ⟨h1, h2, h3⟩ | ⟨h1, h2, h3, h4⟩ | ⟨h1, h2, h3⟩ | ⟨h1, h2, h3⟩
              · rw [decide_eq_false h1, decide_eq_false (show ¬ 0 < k by omega)]; rfl
              · rw [decide_eq_false h1, decide_eq_false h3]; simp
              · rw [decide_eq_false h1, decide_eq_false h4]; simp
              · rw [decide_eq_false h2, decide_eq_false (show ¬ 0 < k by omega)]; simp
              · rw [decide_eq_false h2, decide_eq_false (show ¬ b ≤ 57 by omega)]; simp)]
            rfl)
          clear e1 e2 hbk
          rcases hw with ⟨h1, rfl⟩ | ⟨h1, h2, h3⟩ | ⟨h1, h2, h3, h4⟩ | ⟨h1, h2, rfl⟩ | ⟨h1, h2, h3⟩
          · have i1 : ¬ (65 : Int) ≤ (b : Int) := by omega
            clear h1
            go_wp2
            go_ret
            exact ⟨by rw [← HN.out]; rfl, HBW.out⟩
          · have i1 : ¬ (65 : Int) ≤ (b : Int) := by omega
            have i2 : (0 : Int) < (k : Int) := by omega
            have i3 : ¬ (48 : Int) ≤ (b : Int) := by omega
            clear h1 h2 h3
            go_wp2
            go_ret
            exact ⟨by rw [← HN.out]; rfl, HBW.out⟩
          · have i1 : ¬ (65 : Int) ≤ (b : Int) := by omega
            have i2 : (0 : Int) < (k : Int) := by omega
            have i3 : (48 : Int) ≤ (b : Int) := by omega
            have i4 : ¬ (b : Int) ≤ 57 := by omega
            clear h1 h2 h3 h4
            go_wp2
            go_ret
            exact ⟨by rw [← HN.out]; rfl, HBW.out⟩
          · have i1 : (65 : Int) ≤ (b : Int) := by omega
            have i2 : ¬ (b : Int) ≤ 90 := by omega
            clear h1 h2
            go_wp2
            go_ret
            exact ⟨by rw [← HN.out]; rfl, HBW.out⟩
          · have i1 : (65 : Int) ≤ (b : Int) := by omega
            have i2 : ¬ (b : Int) ≤ 90 := by omega
            have i3 : (0 : Int) < (k : Int) := by omega
            have i4 : (48 : Int) ≤ (b : Int) := by omega
            have i5 : ¬ (b : Int) ≤ 57 := by omega
            clear h1 h2 h3
            go_wp2
            go_ret
            exact ⟨by rw [← HN.out]; rfl, HBW.out⟩
      · obtain rfl : k = n.length := by omega
        have HP := Lib.hid (pn_yes hl0 hl1 HU.out)
        clear HU
        go_wp2_with fail
        go_loopw [5] (fun i wr' => ∃ j : Nat, j ≤ v.length ∧ i = .int .i64 j ∧ (∀ q, q < j → vlC (v.getD q 0) = true) ∧ wr' = wr) (fun i _ => v.length - (intOf i).toNat)
        case atStart => exact ⟨0, by omega, rfl, (fun q h => absurd h (Nat.not_lt_zero q)), rfl⟩
        case round =>
          obtain ⟨j, hj, rfl, hup, rfl⟩ := hrel
          have HU := Lib.hid hup
          clear hup
          by_cases hjl : j < v.length
          · obtain ⟨b, hbk⟩ : ∃ b, (v.getD j 0).toNat = b := ⟨_, rfl⟩
            have hcs : (((str v)[j]'(by simpa [ByteArray.size] using hjl)).toNat) = b := by rw [str_getD v j hjl, hbk]
            have hk2 : (j : Int) < (v.length : Int) := by omega
            have e1 := vlC_iff hbk
            clear hbk
            rcases (show (33 ≤ b ∧ b ≤ 126 ∧ b ≠ 61) ∨ b < 33 ∨ (33 ≤ b ∧ 126 < b) ∨ b = 61 by omega) with hw | hw
            · have HU2 := Lib.hid (show ∀ q, q < j + 1 → vlC (v.getD q 0) = true by
                intro q hq
                by_cases e : q = j
                · subst e
                  rw [e1, decide_eq_true hw.1, decide_eq_true hw.2.1, decide_eq_true hw.2.2]; rfl
                · exact HU.out q (by omega))
              obtain ⟨h1, h2, h3⟩ := hw
              have i1 : ¬ (b : Int) < 33 := by omega
              have i2 : ¬ (126 : Int) < (b : Int) := by omega
              have i3 : ((b : Int) == 61) = false := by rw [beq_eq_false_iff_ne]; omega
              clear h1 h2 h3 e1
              go_wp2
              go_roundw
              case rel => exact ⟨j + 1, by omega, by go_num, HU2.out, by first | rfl | trivial⟩
              case measure => simp [intOf]; omega
            · have HN := Lib.hid (show false = pL (n, v) by
                unfold pL
                have hm : v.getD j 0 ∈ v := by rw [List.getD_eq_getElem?_getD, List.getElem?_eq_getElem hjl]; exact List.getElem_mem hjl
                have hb : vlC (v.getD j 0) = false := by
                  rw [e1]
                  rcases hw with h | ⟨_, h⟩ | h
                  · rw [decide_eq_false (show ¬ 33 ≤ b by omega)]; rfl
                  · rw [decide_eq_false (show ¬ b ≤ 126 by omega)]; simp
                  · rw [decide_eq_false (show ¬ b ≠ 61 by omega)]; simp
                have : vlL v = false := by
                  rw [Bool.eq_false_iff]
                  intro hp
                  unfold vlL at hp
                  have := List.all_eq_true.1 hp _ hm
                  rw [hb] at this; cases this
                rw [this, Bool.and_false])
              clear e1
              rcases hw with h | ⟨h1, h2⟩ | rfl
              · have i1 : (b : Int) < 33 := by omega
                clear h
                go_wp2
                go_ret
                exact ⟨by rw [← HN.out]; rfl, HBW.out⟩
              · have i1 : ¬ (b : Int) < 33 := by omega
                have i2 : (126 : Int) < (b : Int) := by omega
                clear h1 h2
                go_wp2
                go_ret
                exact ⟨by rw [← HN.out]; rfl, HBW.out⟩
              · go_wp2
                go_ret
                exact ⟨by rw [← HN.out]; rfl, HBW.out⟩
          · obtain rfl : j = v.length := by omega
            have HN := Lib.hid (show true = pL (n, v) by
              unfold pL
              rw [HP.out]
              have : vlL v = true := by
                unfold vlL
                rw [List.all_eq_true]
                intro c hc
                obtain ⟨q, hq, rfl⟩ := List.getElem_of_mem hc
                have := HU.out q hq
                rwa [List.getD_eq_getElem?_getD, List.getElem?_eq_getElem hq] at this
              rw [this]; rfl)
            clear HU
            go_wp2
            go_ret
            exact ⟨by rw [← HN.out]; rfl, HBW.out⟩
  · have HN := Lib.hid (show false = pL (n, v) by unfold pL; rw [pn_len hlen]; rfl)
    rcases (show (n.length = 0) ∨ (32 < n.length) by omega) with h | h
    · have g1 : (n.length : Int) < 1 := by omega
      clear hlen h
      go_enter Tryz.func63, Tryz.ntmps63
      go_wp2
      go_ret
      exact ⟨by rw [← HN.out]; rfl, below_alloc _ _⟩
    · have g1 : ¬ (n.length : Int) < 1 := by omega
      have g2 : (32 : Int) < (n.length : Int) := by omega
      clear hlen h
      go_enter Tryz.func63, Tryz.ntmps63
      go_wp2
      go_ret
      exact ⟨by rw [← HN.out]; rfl, below_alloc _ _⟩
end Go.Proofs.YtbmjmiioobgbfaaGreatDoor

namespace Go.Proofs.YtbmjmiioobgbfaaGreatDoor
open Go Go.RowKit Go.Shelf
set_option linter.unusedSimpArgs false
set_option linter.unusedVariables false
set_option maxRecDepth 100000

theorem env_all : ∀ c : UInt8, (upC (greatC c) || digC (greatC c) || greatC c == 45) = (upC c || lowC c || digC c || c == 45) := by
  intro c
  have key : ∀ n : _root_.Fin 256, (upC (greatC (UInt8.ofNat n)) || digC (greatC (UInt8.ofNat n)) || greatC (UInt8.ofNat n) == 45) = (upC (UInt8.ofNat n) || lowC (UInt8.ofNat n) || digC (UInt8.ofNat n) || (UInt8.ofNat n) == 45) := by decide +kernel
  have := key ⟨c.toNat, UInt8.toNat_lt c⟩
  simpa using this

/-! ### envid -/
def evC (c : UInt8) : Bool := upC c || lowC c || digC c || c == 45
theorem evC_is {c : UInt8} {g : Nat} (h : (greatC c).toNat = g) : evC c = ((decide (65 ≤ g) && decide (g ≤ 90)) || (decide (48 ≤ g) && decide (g ≤ 57)) || decide (g = 45)) := by
  unfold evC
  rw [← env_all c, upC_iff h, digC_iff h]
  congr 1
  rw [Bool.eq_iff_iff, beq_iff_eq, decide_eq_true_eq, ← UInt8.toNat_inj, h]
  exact Iff.rfl
theorem env_ways (g : Nat) : ((65 ≤ g ∧ g ≤ 90) ∨ (¬ 65 ≤ g ∧ 48 ≤ g ∧ g ≤ 57) ∨ g = 45) ∨ ((65 ≤ g ∧ ¬ g ≤ 90) ∨ (¬ 65 ≤ g ∧ ¬ 48 ≤ g ∧ g ≠ 45) ∨ (¬ 65 ≤ g ∧ 48 ≤ g ∧ ¬ g ≤ 57)) := by omega

set_option maxHeartbeats 8000000 in
theorem renvK_any (s : List UInt8) (w : World) (hs : s.length ≤ 1000000) : Calls Tryz.prog 68 #[sv s] w fun e w' => e = .returned (.bool (envC s)) ∧ w' = w := by
  go_enter Tryz.func68, Tryz.ntmps68
  go_wp2_with fail
  go_loopw [3] (fun i wr => ∃ k : Nat, k ≤ s.length ∧ i = .int .i64 k ∧ (∀ j, j < k → evC (s.getD j 0) = true) ∧ wr = w) (fun i _ => s.length - (intOf i).toNat)
  case atStart => exact ⟨0, by omega, rfl, (fun j h => absurd h (Nat.not_lt_zero j)), rfl⟩
  case round =>
    obtain ⟨k, hk, rfl, hup, rfl⟩ := hrel
    have HU := Lib.hid hup
    clear hup
    by_cases hlt : k < s.length
    · obtain ⟨b, hbk⟩ : ∃ b, (s.getD k 0).toNat = b := ⟨_, rfl⟩
      obtain ⟨g, hg⟩ : ∃ g, (greatC (s.getD k 0)).toNat = g := ⟨_, rfl⟩
      have hcs : (((str s)[k]'(by simpa [ByteArray.size] using hlt)).toNat) = b := by rw [str_getD s k hlt, hbk]
      have HC := Lib.hid (rgreat_any b (s.getD k 0) wr hbk)
      rw [hg] at HC
      have e1 := evC_is hg
      have hk2 : (k : Int) < (s.length : Int) := by omega
      have hg8 : g < 256 := by rw [← hg]; exact UInt8.toNat_lt _
      clear hbk hg
      rcases env_ways g with hw | hw
      · have HU2 := Lib.hid (show ∀ j, j < k + 1 → evC (s.getD j 0) = true by
          intro j hj
          by_cases e : j = k
          · subst e
            rw [e1]
            rcases hw with ⟨h1, h2⟩ | ⟨h1, h2, h3⟩ | h
            · rw [decide_eq_true h1, decide_eq_true h2]; rfl
            · rw [decide_eq_true h2, decide_eq_true h3]; simp
            · rw [decide_eq_true h]; simp
          · exact HU.out j (by omega))
        clear e1
        rcases hw with ⟨h1, h2⟩ | ⟨h1, h2, h3⟩ | rfl
        · have i1 : (65 : Int) ≤ (g : Int) := by omega
          have i2 : (g : Int) ≤ 90 := by omega
          clear h1 h2
          go_wp2_with fail
          refine HC.out.mono ?_
          rintro e w1 ⟨rfl, rfl⟩
          go_wp2
          go_roundw
          case rel => exact ⟨k + 1, by omega, by go_num, HU2.out, by first | rfl | trivial⟩
          case measure => simp [intOf]; omega
        · have i1 : ¬ (65 : Int) ≤ (g : Int) := by omega
          have i2 : (48 : Int) ≤ (g : Int) := by omega
          have i3 : (g : Int) ≤ 57 := by omega
          clear h1 h2 h3
          go_wp2_with fail
          refine HC.out.mono ?_
          rintro e w1 ⟨rfl, rfl⟩
          go_wp2
          go_roundw
          case rel => exact ⟨k + 1, by omega, by go_num, HU2.out, by first | rfl | trivial⟩
          case measure => simp [intOf]; omega
        · skip
          skip
          go_wp2_with fail
          refine HC.out.mono ?_
          rintro e w1 ⟨rfl, rfl⟩
          go_wp2
          go_roundw
          case rel => exact ⟨k + 1, by omega, by go_num, HU2.out, by first | rfl | trivial⟩
          case measure => simp [intOf]; omega
      · have HN := Lib.hid (show false = envC s by
          have hb : evC (s.getD k 0) = false := by
            rw [e1]
            rcases hw with ⟨h1, h2⟩ | ⟨h1, h2, h3⟩ | ⟨h1, h2, h3⟩
            · rw [decide_eq_false h2, decide_eq_false (show ¬ g ≤ 57 by omega), decide_eq_false (show ¬ g = 45 by omega)]; simp
            · rw [decide_eq_false h1, decide_eq_false h2, decide_eq_false h3]; rfl
            · rw [decide_eq_false h1, decide_eq_false h3, decide_eq_false (show ¬ g = 45 by omega)]; simp
          have hm : s.getD k 0 ∈ s := by rw [List.getD_eq_getElem?_getD, List.getElem?_eq_getElem hlt]; exact List.getElem_mem hlt
          unfold envC
          have : (s.all fun c => upC c || lowC c || digC c || c == 45) = false := by
            rw [Bool.eq_false_iff]
            intro hp
            have := List.all_eq_true.1 hp _ hm
            rw [show (upC (s.getD k 0) || lowC (s.getD k 0) || digC (s.getD k 0) || s.getD k 0 == 45) = evC (s.getD k 0) from rfl, hb] at this
            cases this
          rw [this, Bool.and_false])
        clear e1
        rcases hw with ⟨h1, h2⟩ | ⟨h1, h2, h3⟩ | ⟨h1, h2, h3⟩
        · have i1 : (65 : Int) ≤ (g : Int) := by omega
          have i2 : decide ((g : Int) ≤ 90) = false := decide_eq_false (by omega)
          have i3 : (48 : Int) ≤ (g : Int) := by omega
          have i4 : decide ((g : Int) ≤ 57) = false := decide_eq_false (by omega)
          have i5 : ((g : Int) == 45) = false := by rw [beq_eq_false_iff_ne]; omega
          clear h1 h2
          go_wp2_with fail
          refine HC.out.mono ?_
          rintro e w1 ⟨rfl, rfl⟩
          go_wp2
          go_ret
          exact ⟨by rw [← HN.out]; rfl, rfl⟩
        · have i1 : ¬ (65 : Int) ≤ (g : Int) := by omega
          have i3 : ¬ (48 : Int) ≤ (g : Int) := by omega
          have i5 : ((g : Int) == 45) = false := by rw [beq_eq_false_iff_ne]; omega
          clear h1 h2 h3
          go_wp2_with fail
          refine HC.out.mono ?_
          rintro e w1 ⟨rfl, rfl⟩
          go_wp2
          go_ret
          exact ⟨by rw [← HN.out]; rfl, rfl⟩
        · have i1 : ¬ (65 : Int) ≤ (g : Int) := by omega
          have i3 : (48 : Int) ≤ (g : Int) := by omega
          have i4 : decide ((g : Int) ≤ 57) = false := decide_eq_false (by omega)
          have i5 : ((g : Int) == 45) = false := by rw [beq_eq_false_iff_ne]; omega
          clear h1 h2 h3
          go_wp2_with fail
          refine HC.out.mono ?_
          rintro e w1 ⟨rfl, rfl⟩
          go_wp2
          go_ret
          exact ⟨by rw [← HN.out]; rfl, rfl⟩
    · obtain rfl : k = s.length := by omega
      have HN := Lib.hid (show envC s = decide ((s.length : Int) ≤ 32) by
        unfold envC
        have : (s.all fun c => upC c || lowC c || digC c || c == 45) = true := by
          rw [List.all_eq_true]
          intro c hc
          obtain ⟨q, hq, rfl⟩ := List.getElem_of_mem hc
          have := HU.out q hq
          rwa [List.getD_eq_getElem?_getD, List.getElem?_eq_getElem hq] at this
        rw [this, Bool.and_true, Bool.eq_iff_iff, decide_eq_true_eq, decide_eq_true_eq]
        omega)
      clear HU
      go_wp2
      go_ret
      exact ⟨by rw [HN.out]; rfl, rfl⟩
end Go.Proofs.YtbmjmiioobgbfaaGreatDoor
