/-
  The reference's MayParam and envid (layer 7): they are the plain functions.
  The reference's May and envid (layer 7): they are the plain functions.
  The reference's May (layer 7): it is the plain function.
-/
import Derived.Test.YtbmjmiioobgbfaaGreatDoorKLaw1
import Derived.Deep.QuietTactic
import Derived.BigQuiet
import Derived.Test.YtbmjmiioobgbfaaGreatDoorARPars
import Derived.Test.YtbmjmiioobgbfaaGreatDoorNRCut
namespace Go.Proofs.YtbmjmiioobgbfaaGreatDoor
open Go Go.RowKit Go.Shelf
set_option linter.unusedSimpArgs false
set_option linter.unusedVariables false
set_option maxRecDepth 100000

/-- What may stand at place j of a parameter's name. -/
def nmC (j : Nat) (c : UInt8) : Bool := upC c || (decide (0 < j) && digC c)
def NmUp (n : List UInt8) (k : Nat) : Prop := ∀ j, j < k → nmC j (n.getD j 0) = true

theorem pn_yes {n : List UInt8} (h0 : 0 < n.length) (h1 : n.length ≤ 32) (h : NmUp n n.length) : pnL n = true := by
  unfold pnL
  rw [decide_eq_true h0, decide_eq_true h1]
  have e1 : upC (n.headD 0) = true := by
    have := h 0 h0
    unfold nmC at this
    cases n with
    | nil => simp at h0
    | cons x t => simpa using this
  have e2 : n.all pnC = true := by
    rw [List.all_eq_true]
    intro c hc
    obtain ⟨j, hj, rfl⟩ := List.getElem_of_mem hc
    have := h j hj
    rw [List.getD_eq_getElem?_getD, List.getElem?_eq_getElem hj] at this
    unfold nmC at this
    unfold pnC
    rcases Bool.or_eq_true _ _ ▸ this with h' | h'
    · rw [show upC n[j] = true from h']; rfl
    · rw [show digC n[j] = true from (Bool.and_eq_true _ _ ▸ h').2]; simp
  rw [e1, e2]; rfl
theorem pn_no {n : List UInt8} {j : Nat} (hj : j < n.length) (h : nmC j (n.getD j 0) = false) : pnL n = false := by
  rw [Bool.eq_false_iff]
  intro hp
  unfold pnL at hp
  simp only [Bool.and_eq_true] at hp
  obtain ⟨⟨_, h1⟩, h2⟩ := hp
  have hm : n.getD j 0 ∈ n := by rw [List.getD_eq_getElem?_getD, List.getElem?_eq_getElem hj]; exact List.getElem_mem hj
  have h3 := List.all_eq_true.1 h2 _ hm
  have e : upC (n.getD j 0) = false ∧ (decide (0 < j) && digC (n.getD j 0)) = false := by
    unfold nmC at h
    exact Bool.or_eq_false_iff.1 h
  by_cases h0 : j = 0
  · subst h0
    have : n.headD 0 = n.getD 0 0 := by cases n <;> rfl
    rw [this, e.1] at h1
    cases h1
  · have hd : digC (n.getD j 0) = false := by
      have := e.2
      rwa [decide_eq_true (show 0 < j by omega), Bool.true_and] at this
    unfold pnC at h3
    rw [e.1, hd] at h3
    cases h3
theorem pn_len {n : List UInt8} (h : ¬ (0 < n.length ∧ n.length ≤ 32)) : pnL n = false := by
  unfold pnL
  by_cases h0 : 0 < n.length
  · rw [decide_eq_true h0, decide_eq_false (show ¬ n.length ≤ 32 from fun e => h ⟨h0, e⟩)]; rfl
  · rw [decide_eq_false h0]; rfl

theorem upC_iff {c : UInt8} {b : Nat} (h : c.toNat = b) : upC c = (decide (65 ≤ b) && decide (b ≤ 90)) := by
  unfold upC
  rw [Bool.eq_iff_iff]
  simp only [Bool.and_eq_true, decide_eq_true_eq, UInt8.le_iff_toNat_le, h]
  exact Iff.rfl
theorem digC_iff {c : UInt8} {b : Nat} (h : c.toNat = b) : digC c = (decide (48 ≤ b) && decide (b ≤ 57)) := by
  unfold digC
  rw [Bool.eq_iff_iff]
  simp only [Bool.and_eq_true, decide_eq_true_eq, UInt8.le_iff_toNat_le, h]
  exact Iff.rfl
theorem vlC_iff {c : UInt8} {b : Nat} (h : c.toNat = b) : vlC c = (decide (33 ≤ b) && decide (b ≤ 126) && decide (b ≠ 61)) := by
  unfold vlC
  have e : (c != 61) = decide (b ≠ 61) := by
    rw [Bool.eq_iff_iff]
    simp only [bne_iff_ne, ne_eq, decide_eq_true_eq]
    rw [← UInt8.toNat_inj, h]
    exact Iff.rfl
  rw [e, Bool.eq_iff_iff]
  simp only [Bool.and_eq_true, decide_eq_true_eq, UInt8.le_iff_toNat_le, h]
  exact Iff.rfl

theorem byte_ways (b k : Nat) : ((65 ≤ b ∧ b ≤ 90) ∨ (¬ 65 ≤ b ∧ 0 < k ∧ 48 ≤ b ∧ b ≤ 57)) ∨ ((¬ 65 ≤ b ∧ k = 0) ∨ (¬ 65 ≤ b ∧ 0 < k ∧ ¬ 48 ≤ b) ∨ (¬ 65 ≤ b ∧ 0 < k ∧ 48 ≤ b ∧ ¬ b ≤ 57) ∨ (65 ≤ b ∧ ¬ b ≤ 90 ∧ k = 0) ∨ (65 ≤ b ∧ ¬ b ≤ 90 ∧ 0 < k)) := by omega

set_option maxHeartbeats 8000000 in
theorem rmayp_any (p : PM) (w : World) (hn : p.1.length ≤ 1000000) (hv : p.2.length ≤ 1000000) : Calls Tryz.prog 63 #[pmV p] w fun e w' => e = .returned (.bool (pL p)) ∧ Below w.heap.size w w' := by
  obtain ⟨n, v⟩ := p
  dsimp only at hn hv
  by_cases hlen : 0 < n.length ∧ n.length ≤ 32
  · obtain ⟨hl0, hl1⟩ := hlen
    have g1 : ¬ ((n.length : Int) < 1) := by omega
    have g2 : ¬ (32 < (n.length : Int)) := by omega
    go_enter Tryz.func63, Tryz.ntmps63
    go_wp2_with fail
    obtain ⟨W, hW⟩ : ∃ W, W = w.alloc (.cells #[sv n, sv v] 95) := ⟨_, rfl⟩
    have hb : W.heap[w.heap.size]? = some (.cells #[sv n, sv v] 95 (0, 0)) := by rw [hW]; exact heap_alloc_new _ _
    have c0 : W.cell? ⟨w.heap.size, 0, none⟩ = some (sv n) := by rw [cellAt hb]; rfl
    have c1 : W.cell? ⟨w.heap.size, 1, none⟩ = some (sv v) := by rw [cellAt hb]; rfl
    have HBW := Lib.hid (show Below w.heap.size w W by rw [hW]; exact below_alloc _ _)
    rw [← hW]
    clear hW hb
    go_loopw [3] (fun i wr => ∃ k : Nat, k ≤ n.length ∧ i = .int .i64 k ∧ NmUp n k ∧ wr = W) (fun i _ => n.length - (intOf i).toNat)
    case atStart => exact ⟨0, by omega, rfl, (fun j h => absurd h (Nat.not_lt_zero j)), rfl⟩
    case round =>
      obtain ⟨k, hk, rfl, hup, rfl⟩ := hrel
      have HU := Lib.hid hup
      clear hup
      by_cases hlt : k < n.length
      · obtain ⟨b, hbk⟩ : ∃ b, (n.getD k 0).toNat = b := ⟨_, rfl⟩
        have hcs : (((str n)[k]'(by simpa [ByteArray.size] using hlt)).toNat) = b := by rw [str_getD n k hlt, hbk]
        have hk2 : (k : Int) < (n.length : Int) := by omega
        have e1 := upC_iff hbk
        have e2 := digC_iff hbk
        rcases byte_ways b k with hw | hw
        · have HU2 := Lib.hid (show NmUp n (k + 1) by
            intro j hj
            by_cases e : j = k
            · subst e
              unfold nmC
              rw [e1, e2]
              rcases hw with ⟨h1, h2⟩ | ⟨h1, h2, h3, h4⟩
              · rw [decide_eq_true h1, decide_eq_true h2]; rfl
              · rw [decide_eq_true h2, decide_eq_true h3, decide_eq_true h4]; simp
            · exact HU.out j (by omega))
          clear e1 e2 hbk
          rcases hw with ⟨h1, h2⟩ | ⟨h1, h2, h3, h4⟩
          · have i1 : (65 : Int) ≤ (b : Int) := by omega
            have i2 : (b : Int) ≤ 90 := by omega
            clear h1 h2
            go_wp2
            go_roundw
            case rel => exact ⟨k + 1, by omega, by go_num, HU2.out, by first | rfl | trivial⟩
            case measure => simp [intOf]; omega
          · have i1 : ¬ (65 : Int) ≤ (b : Int) := by omega
            have i2 : (0 : Int) < (k : Int) := by omega
            have i3 : (48 : Int) ≤ (b : Int) := by omega
            have i4 : (b : Int) ≤ 57 := by omega
            clear h1 h2 h3 h4
            go_wp2
            go_roundw
            case rel => exact ⟨k + 1, by omega, by go_num, HU2.out, by first | rfl | trivial⟩
            case measure => simp [intOf]; omega
        · have HN := Lib.hid (show false = pL (n, v) by
            unfold pL
            rw [pn_no hlt (by
              unfold nmC
              rw [e1, e2]
              rcases hw with ⟨h1, h2⟩ | ⟨h1, h2, h3⟩ | ⟨h1, h2, h3, h4⟩ | ⟨h1, h2, h3⟩ | ⟨h1, h2, h3⟩
              · rw [decide_eq_false h1, decide_eq_false (show ¬ 0 < k by omega)]; rfl
              · rw [decide_eq_false h1, decide_eq_false h3]; simp
              · rw [decide_eq_false h1, decide_eq_false h4]; simp
              · rw [decide_eq_false h2, decide_eq_false (show ¬ 0 < k by omega)]; simp
              · rw [decide_eq_false h2, decide_eq_false (show ¬ b ≤ 57 by omega)]; simp)]
            rfl)
          clear e1 e2 hbk
          rcases hw with ⟨h1, rfl⟩ | ⟨h1, h2, h3⟩ | ⟨h1, h2, h3, h4⟩ | ⟨h1, h2, rfl⟩ | ⟨h1, h2, h3⟩
          · have i1 : ¬ (65 : Int) ≤ (b : Int) := by omega
            clear h1
            go_wp2
            go_ret
            exact ⟨by rw [← HN.out]; rfl, HBW.out⟩
          · have i1 : ¬ (65 : Int) ≤ (b : Int) := by omega
            have i2 : (0 : Int) < (k : Int) := by omega
            have i3 : ¬ (48 : Int) ≤ (b : Int) := by omega
            clear h1 h2 h3
            go_wp2
            go_ret
            exact ⟨by rw [← HN.out]; rfl, HBW.out⟩
          · have i1 : ¬ (65 : Int) ≤ (b : Int) := by omega
            have i2 : (0 : Int) < (k : Int) := by omega
            have i3 : (48 : Int) ≤ (b : Int) := by omega
            have i4 : ¬ (b : Int) ≤ 57 := by omega
            clear h1 h2 h3 h4
            go_wp2
            go_ret
            exact ⟨by rw [← HN.out]; rfl, HBW.out⟩
          · have i1 : (65 : Int) ≤ (b : Int) := by omega
            have i2 : ¬ (b : Int) ≤ 90 := by omega
            clear h1 h2
            go_wp2
            go_ret
            exact ⟨by rw [← HN.out]; rfl, HBW.out⟩
          · have i1 : (65 : Int) ≤ (b : Int) := by omega
            have i2 : ¬ (b : Int) ≤ 90 := by omega
            have i3 : (0 : Int) < (k : Int) := by omega
            have i4 : (48 : Int) ≤ (b : Int) := by omega
            have i5 : ¬ (b : Int) ≤ 57 := by omega
            clear h1 h2 h3
            go_wp2
            go_ret
            exact ⟨by rw [← HN.out]; rfl, HBW.out⟩
      · obtain rfl : k = n.length := by omega
        have HP := Lib.hid (pn_yes hl0 hl1 HU.out)
        clear HU
        go_wp2_with fail
        go_loopw [5] (fun i wr' => ∃ j : Nat, j ≤ v.length ∧ i = .int .i64 j ∧ (∀ q, q < j → vlC (v.getD q 0) = true) ∧ wr' = wr) (fun i _ => v.length - (intOf i).toNat)
        case atStart => exact ⟨0, by omega, rfl, (fun q h => absurd h (Nat.not_lt_zero q)), rfl⟩
        case round =>
          obtain ⟨j, hj, rfl, hup, rfl⟩ := hrel
          have HU := Lib.hid hup
          clear hup
          by_cases hjl : j < v.length
          · obtain ⟨b, hbk⟩ : ∃ b, (v.getD j 0).toNat = b := ⟨_, rfl⟩
            have hcs : (((str v)[j]'(by simpa [ByteArray.size] using hjl)).toNat) = b := by rw [str_getD v j hjl, hbk]
            have hk2 : (j : Int) < (v.length : Int) := by omega
            have e1 := vlC_iff hbk
            clear hbk
            rcases (show (33 ≤ b ∧ b ≤ 126 ∧ b ≠ 61) ∨ b < 33 ∨ (33 ≤ b ∧ 126 < b) ∨ b = 61 by omega) with hw | hw
            · have HU2 := Lib.hid (show ∀ q, q < j + 1 → vlC (v.getD q 0) = true by
                intro q hq
                by_cases e : q = j
                · subst e
                  rw [e1, decide_eq_true hw.1, decide_eq_true hw.2.1, decide_eq_true hw.2.2]; rfl
                · exact HU.out q (by omega))
              obtain ⟨h1, h2, h3⟩ := hw
              have i1 : ¬ (b : Int) < 33 := by omega
              have i2 : ¬ (126 : Int) < (b : Int) := by omega
              have i3 : ((b : Int) == 61) = false := by rw [beq_eq_false_iff_ne]; omega
              clear h1 h2 h3 e1
              go_wp2
              go_roundw
              case rel => exact ⟨j + 1, by omega, by go_num, HU2.out, by first | rfl | trivial⟩
              case measure => simp [intOf]; omega
            · have HN := Lib.hid (show false = pL (n, v) by
                unfold pL
                have hm : v.getD j 0 ∈ v := by rw [List.getD_eq_getElem?_getD, List.getElem?_eq_getElem hjl]; exact List.getElem_mem hjl
                have hb : vlC (v.getD j 0) = false := by
                  rw [e1]
                  rcases hw with h | ⟨_, h⟩ | h
                  · rw [decide_eq_false (show ¬ 33 ≤ b by omega)]; rfl
                  · rw [decide_eq_false (show ¬ b ≤ 126 by omega)]; simp
                  · rw [decide_eq_false (show ¬ b ≠ 61 by omega)]; simp
                have : vlL v = false := by
                  rw [Bool.eq_false_iff]
                  intro hp
                  unfold vlL at hp
                  have := List.all_eq_true.1 hp _ hm
                  rw [hb] at this; cases this
                rw [this, Bool.and_false])
              clear e1
              rcases hw with h | ⟨h1, h2⟩ | rfl
              · have i1 : (b : Int) < 33 := by omega
                clear h
                go_wp2
                go_ret
                exact ⟨by rw [← HN.out]; rfl, HBW.out⟩
              · have i1 : ¬ (b : Int) < 33 := by omega
                have i2 : (126 : Int) < (b : Int) := by omega
                clear h1 h2
                go_wp2
                go_ret
                exact ⟨by rw [← HN.out]; rfl, HBW.out⟩
              · go_wp2
                go_ret
                exact ⟨by rw [← HN.out]; rfl, HBW.out⟩
          · obtain rfl : j = v.length := by omega
            have HN := Lib.hid (show true = pL (n, v) by
              unfold pL
              rw [HP.out]
              have : vlL v = true := by
                unfold vlL
                rw [List.all_eq_true]
                intro c hc
                obtain ⟨q, hq, rfl⟩ := List.getElem_of_mem hc
                have := HU.out q hq
                rwa [List.getD_eq_getElem?_getD, List.getElem?_eq_getElem hq] at this
              rw [this]; rfl)
            clear HU
            go_wp2
            go_ret
            exact ⟨by rw [← HN.out]; rfl, HBW.out⟩
  · have HN := Lib.hid (show false = pL (n, v) by unfold pL; rw [pn_len hlen]; rfl)
    rcases (show (n.length = 0) ∨ (32 < n.length) by omega) with h | h
    · have g1 : (n.length : Int) < 1 := by omega
      clear hlen h
      go_enter Tryz.func63, Tryz.ntmps63
      go_wp2
      go_ret
      exact ⟨by rw [← HN.out]; rfl, below_alloc _ _⟩
    · have g1 : ¬ (n.length : Int) < 1 := by omega
      have g2 : (32 : Int) < (n.length : Int) := by omega
      clear hlen h
      go_enter Tryz.func63, Tryz.ntmps63
      go_wp2
      go_ret
      exact ⟨by rw [← HN.out]; rfl, below_alloc _ _⟩
end Go.Proofs.YtbmjmiioobgbfaaGreatDoor

namespace Go.Proofs.YtbmjmiioobgbfaaGreatDoor
open Go Go.RowKit Go.Shelf
set_option linter.unusedSimpArgs false
set_option linter.unusedVariables false
set_option maxRecDepth 100000

theorem env_all : ∀ c : UInt8, (upC (greatC c) || digC (greatC c) || greatC c == 45) = (upC c || lowC c || digC c || c == 45) := by
  intro c
  have key : ∀ n : _root_.Fin 256, (upC (greatC (UInt8.ofNat n)) || digC (greatC (UInt8.ofNat n)) || greatC (UInt8.ofNat n) == 45) = (upC (UInt8.ofNat n) || lowC (UInt8.ofNat n) || digC (UInt8.ofNat n) || (UInt8.ofNat n) == 45) := by decide +kernel
  have := key ⟨c.toNat, UInt8.toNat_lt c⟩
  simpa using this

/-! ### envid -/
def evC (c : UInt8) : Bool := upC c || lowC c || digC c || c == 45
theorem evC_is {c : UInt8} {g : Nat} (h : (greatC c).toNat = g) : evC c = ((decide (65 ≤ g) && decide (g ≤ 90)) || (decide (48 ≤ g) && decide (g ≤ 57)) || decide (g = 45)) := by
  unfold evC
  rw [← env_all c, upC_iff h, digC_iff h]
  congr 1
  rw [Bool.eq_iff_iff, beq_iff_eq, decide_eq_true_eq, ← UInt8.toNat_inj, h]
  exact Iff.rfl
theorem env_ways (g : Nat) : ((65 ≤ g ∧ g ≤ 90) ∨ (¬ 65 ≤ g ∧ 48 ≤ g ∧ g ≤ 57) ∨ g = 45) ∨ ((65 ≤ g ∧ ¬ g ≤ 90) ∨ (¬ 65 ≤ g ∧ ¬ 48 ≤ g ∧ g ≠ 45) ∨ (¬ 65 ≤ g ∧ 48 ≤ g ∧ ¬ g ≤ 57)) := by omega

set_option maxHeartbeats 8000000 in
theorem renvK_any (s : List UInt8) (w : World) (hs : s.length ≤ 1000000) : Calls Tryz.prog 68 #[sv s] w fun e w' => e = .returned (.bool (envC s)) ∧ w' = w := by
  go_enter Tryz.func68, Tryz.ntmps68
  go_wp2_with fail
  go_loopw [3] (fun i wr => ∃ k : Nat, k ≤ s.length ∧ i = .int .i64 k ∧ (∀ j, j < k → evC (s.getD j 0) = true) ∧ wr = w) (fun i _ => s.length - (intOf i).toNat)
  case atStart => exact ⟨0, by omega, rfl, (fun j h => absurd h (Nat.not_lt_zero j)), rfl⟩
  case round =>
    obtain ⟨k, hk, rfl, hup, rfl⟩ := hrel
    have HU := Lib.hid hup
    clear hup
    by_cases hlt : k < s.length
    · obtain ⟨b, hbk⟩ : ∃ b, (s.getD k 0).toNat = b := ⟨_, rfl⟩
      obtain ⟨g, hg⟩ : ∃ g, (greatC (s.getD k 0)).toNat = g := ⟨_, rfl⟩
      have hcs : (((str s)[k]'(by simpa [ByteArray.size] using hlt)).toNat) = b := by rw [str_getD s k hlt, hbk]
      have HC := Lib.hid (rgreat_any b (s.getD k 0) wr hbk)
      rw [hg] at HC
      have e1 := evC_is hg
      have hk2 : (k : Int) < (s.length : Int) := by omega
      have hg8 : g < 256 := by rw [← hg]; exact UInt8.toNat_lt _
      clear hbk hg
      rcases env_ways g with hw | hw
      · have HU2 := Lib.hid (show ∀ j, j < k + 1 → evC (s.getD j 0) = true by
          intro j hj
          by_cases e : j = k
          · subst e
            rw [e1]
            rcases hw with ⟨h1, h2⟩ | ⟨h1, h2, h3⟩ | h
            · rw [decide_eq_true h1, decide_eq_true h2]; rfl
            · rw [decide_eq_true h2, decide_eq_true h3]; simp
            · rw [decide_eq_true h]; simp
          · exact HU.out j (by omega))
        clear e1
        rcases hw with ⟨h1, h2⟩ | ⟨h1, h2, h3⟩ | rfl
        · have i1 : (65 : Int) ≤ (g : Int) := by omega
          have i2 : (g : Int) ≤ 90 := by omega
          clear h1 h2
          go_wp2_with fail
          refine HC.out.mono ?_
          rintro e w1 ⟨rfl, rfl⟩
          go_wp2
          go_roundw
          case rel => exact ⟨k + 1, by omega, by go_num, HU2.out, by first | rfl | trivial⟩
          case measure => simp [intOf]; omega
        · have i1 : ¬ (65 : Int) ≤ (g : Int) := by omega
          have i2 : (48 : Int) ≤ (g : Int) := by omega
          have i3 : (g : Int) ≤ 57 := by omega
          clear h1 h2 h3
          go_wp2_with fail
          refine HC.out.mono ?_
          rintro e w1 ⟨rfl, rfl⟩
          go_wp2
          go_roundw
          case rel => exact ⟨k + 1, by omega, by go_num, HU2.out, by first | rfl | trivial⟩
          case measure => simp [intOf]; omega
        · skip
          skip
          go_wp2_with fail
          refine HC.out.mono ?_
          rintro e w1 ⟨rfl, rfl⟩
          go_wp2
          go_roundw
          case rel => exact ⟨k + 1, by omega, by go_num, HU2.out, by first | rfl | trivial⟩
          case measure => simp [intOf]; omega
      · have HN := Lib.hid (show false = envC s by
          have hb : evC (s.getD k 0) = false := by
            rw [e1]
            rcases hw with ⟨h1, h2⟩ | ⟨h1, h2, h3⟩ | ⟨h1, h2, h3⟩
            · rw [decide_eq_false h2, decide_eq_false (show ¬ g ≤ 57 by omega), decide_eq_false (show ¬ g = 45 by omega)]; simp
            · rw [decide_eq_false h1, decide_eq_false h2, decide_eq_false h3]; rfl
            · rw [decide_eq_false h1, decide_eq_false h3, decide_eq_false (show ¬ g = 45 by omega)]; simp
          have hm : s.getD k 0 ∈ s := by rw [List.getD_eq_getElem?_getD, List.getElem?_eq_getElem hlt]; exact List.getElem_mem hlt
          unfold envC
          have : (s.all fun c => upC c || lowC c || digC c || c == 45) = false := by
            rw [Bool.eq_false_iff]
            intro hp
            have := List.all_eq_true.1 hp _ hm
            rw [show (upC (s.getD k 0) || lowC (s.getD k 0) || digC (s.getD k 0) || s.getD k 0 == 45) = evC (s.getD k 0) from rfl, hb] at this
            cases this
          rw [this, Bool.and_false])
        clear e1
        rcases hw with ⟨h1, h2⟩ | ⟨h1, h2, h3⟩ | ⟨h1, h2, h3⟩
        · have i1 : (65 : Int) ≤ (g : Int) := by omega
          have i2 : decide ((g : Int) ≤ 90) = false := decide_eq_false (by omega)
          have i3 : (48 : Int) ≤ (g : Int) := by omega
          have i4 : decide ((g : Int) ≤ 57) = false := decide_eq_false (by omega)
          have i5 : ((g : Int) == 45) = false := by rw [beq_eq_false_iff_ne]; omega
          clear h1 h2
          go_wp2_with fail
          refine HC.out.mono ?_
          rintro e w1 ⟨rfl, rfl⟩
          go_wp2
          go_ret
          exact ⟨by rw [← HN.out]; rfl, rfl⟩
        · have i1 : ¬ (65 : Int) ≤ (g : Int) := by omega
          have i3 : ¬ (48 : Int) ≤ (g : Int) := by omega
          have i5 : ((g : Int) == 45) = false := by rw [beq_eq_false_iff_ne]; omega
          clear h1 h2 h3
          go_wp2_with fail
          refine HC.out.mono ?_
          rintro e w1 ⟨rfl, rfl⟩
          go_wp2
          go_ret
          exact ⟨by rw [← HN.out]; rfl, rfl⟩
        · have i1 : ¬ (65 : Int) ≤ (g : Int) := by omega
          have i3 : (48 : Int) ≤ (g : Int) := by omega
          have i4 : decide ((g : Int) ≤ 57) = false := decide_eq_false (by omega)
          have i5 : ((g : Int) == 45) = false := by rw [beq_eq_false_iff_ne]; omega
          clear h1 h2 h3
          go_wp2_with fail
          refine HC.out.mono ?_
          rintro e w1 ⟨rfl, rfl⟩
          go_wp2
          go_ret
          exact ⟨by rw [← HN.out]; rfl, rfl⟩
    · obtain rfl : k = s.length := by omega
      have HN := Lib.hid (show envC s = decide ((s.length : Int) ≤ 32) by
        unfold envC
        have : (s.all fun c => upC c || lowC c || digC c || c == 45) = true := by
          rw [List.all_eq_true]
          intro c hc
          obtain ⟨q, hq, rfl⟩ := List.getElem_of_mem hc
          have := HU.out q hq
          rwa [List.getD_eq_getElem?_getD, List.getElem?_eq_getElem hq] at this
        rw [this, Bool.and_true, Bool.eq_iff_iff, decide_eq_true_eq, decide_eq_true_eq]
        omega)
      clear HU
      go_wp2
      go_ret
      exact ⟨by rw [HN.out]; rfl, rfl⟩
end Go.Proofs.YtbmjmiioobgbfaaGreatDoor

namespace Go.Proofs.YtbmjmiioobgbfaaGreatDoor
open Go Go.RowKit Go.Shelf
set_option linter.unusedSimpArgs false
set_option linter.unusedVariables false
set_option maxRecDepth 100000

/-- The first k parameters may be, and no two of them have one name. -/
def PsUp (l : List PM) (k : Nat) : Prop := ∀ j, j < k → pL (l.getD j pm0) = true ∧ ∀ q, q < j → (l.getD q pm0).1 ≠ (l.getD j pm0).1
theorem PsUp.next {l : List PM} {k : Nat} (h : PsUp l k) (h1 : pL (l.getD k pm0) = true) (h2 : ∀ q, q < k → (l.getD q pm0).1 ≠ (l.getD k pm0).1) : PsUp l (k + 1) := by
  intro j hj
  by_cases e : j = k
  · rw [e]; exact ⟨h1, h2⟩
  · exact h j (by omega)
theorem PsUp.yes {l : List PM} (h8 : l.length ≤ 8) (h : PsUp l l.length) : psL l = true := by
  unfold psL
  rw [decide_eq_true h8]
  have e1 : l.all pL = true := by
    rw [List.all_eq_true]
    intro p hp
    obtain ⟨j, hj, rfl⟩ := List.getElem_of_mem hp
    have := (h j hj).1
    rwa [pm_getD hj] at this
  have e2 : (l.map (·.1)).Nodup := by
    rw [List.nodup_iff_pairwise_ne, List.pairwise_iff_getElem]
    intro i j hi hj hij
    simp only [List.length_map] at hi hj
    have := (h j hj).2 i hij
    rw [pm_getD hi, pm_getD hj] at this
    simpa using this
  rw [e1, decide_eq_true e2]; rfl
theorem ps_bad {l : List PM} {j : Nat} (hj : j < l.length) (h : pL (l.getD j pm0) = false) : psL l = false := by
  rw [Bool.eq_false_iff]
  intro hp
  unfold psL at hp
  simp only [Bool.and_eq_true] at hp
  have := List.all_eq_true.1 hp.1.2 _ (pm_mem hj)
  rw [h] at this; cases this
theorem ps_twice {l : List PM} {i j : Nat} (hj : j < l.length) (hij : i < j) (h : (l.getD i pm0).1 = (l.getD j pm0).1) : psL l = false := by
  rw [Bool.eq_false_iff]
  intro hp
  unfold psL at hp
  simp only [Bool.and_eq_true, decide_eq_true_eq] at hp
  have hn := hp.2
  rw [List.nodup_iff_pairwise_ne, List.pairwise_iff_getElem] at hn
  have := hn i j (by simp; omega) (by simpa using hj) hij
  rw [pm_getD (by omega), pm_getD hj] at h
  exact this (by simpa using h)
theorem ps_long {l : List PM} (h : 8 < l.length) : psL l = false := by
  unfold psL; rw [decide_eq_false (by omega)]; rfl

/-- The box of the command that was handed in. -/
def BQ (w : World) (c : Cm) (u : Value) (W : World) : Prop := Below w.heap.size w W ∧ W.heap[w.heap.size]? = some (.cells #[.int .u8 (c.verb : Int), sv c.arg, u] 61 (0, 0))
theorem BQ.start (w : World) (c : Cm) (u : Value) : BQ w c u (w.alloc (.cells #[.int .u8 (c.verb : Int), sv c.arg, u] 61)) := ⟨below_alloc _ _, heap_alloc_new _ _⟩
theorem BQ.step {w W W' : World} {c : Cm} {u : Value} (h : BQ w c u W) (hb : Below W.heap.size W W') : BQ w c u W' := ⟨h.1.trans (hb.mono h.1.size), (hb.block _ (lt_of_blk h.2)).trans h.2⟩
theorem BQ.allv {w W : World} {c : Cm} {u : Value} (z : Int) (h : BQ w c u W) (hz : (c.verb : Int) = z) : W.cell? ⟨w.heap.size, 0, none⟩ = some (.int .u8 z) ∧ W.cell? ⟨w.heap.size, 1, none⟩ = some (sv c.arg) ∧ W.cell? ⟨w.heap.size, 2, none⟩ = some u := by
  subst hz
  refine ⟨?_, ?_, ?_⟩ <;> (rw [cellAt h.2]; rfl)
theorem BQ.all {w W : World} {c : Cm} {u : Value} (h : BQ w c u W) : W.cell? ⟨w.heap.size, 0, none⟩ = some (.int .u8 (c.verb : Int)) ∧ W.cell? ⟨w.heap.size, 1, none⟩ = some (sv c.arg) ∧ W.cell? ⟨w.heap.size, 2, none⟩ = some u := by
  refine ⟨?_, ?_, ?_⟩ <;> (rw [cellAt h.2]; rfl)

theorem mayV_no {v : Nat} {a : List UInt8} {ps : List PM} (h : v < 1 ∨ 6 < v ∨ 8 < ps.length ∨ ((v ≠ 3 ∧ v ≠ 4) ∧ 0 < ps.length)) : mayK ⟨v, a, ps⟩ = false := by
  have hpe : 0 < ps.length → ps.isEmpty = false := fun h => by cases ps with | nil => simp at h | cons => rfl
  rcases h with h | h | h | ⟨⟨h3, h4⟩, h⟩
  · exact mayK_none (.inl h)
  · exact mayK_none (.inr h)
  · have e := ps_long h
    have e2 := hpe (by omega)
    unfold mayK
    dsimp only
    split <;> simp [e, e2]
  · have e2 := hpe h
    unfold mayK
    dsimp only
    split <;> first | (simp [e2]; done) | (exact absurd rfl h3) | (exact absurd rfl h4)

set_option maxHeartbeats 16000000 in
theorem rmayK_any (c : Cm) (u : Value) (w : World) (hu : PR w u c.ps) (hv : c.verb < 256) (ha : c.arg.length ≤ 1000000) (hl : c.ps.length ≤ 1000000) (hx : ∀ p ∈ c.ps, p.1.length ≤ 1000000 ∧ p.2.length ≤ 1000000) :
    Calls Tryz.prog 31 #[cmV c u] w fun e w' => e = .returned (.bool (mayK c)) ∧ Below w.heap.size w w' := by
  obtain ⟨v, a, ps⟩ := c
  obtain ⟨A, cc, rfl⟩ := hu.form
  dsimp only at hu hv ha hl hx
  have HV := Lib.hid hu
  have HX := Lib.hid hx
  have HB := Lib.hid (BQ.start w ⟨v, a, ps⟩ (.slice A ps.length cc))
  obtain ⟨c0, c1, c2⟩ := HB.out.all
  clear hu hx
  rcases (show (v < 1 ∨ 6 < v ∨ 8 < ps.length ∨ ((v ≠ 3 ∧ v ≠ 4) ∧ 0 < ps.length)) ∨ (1 ≤ v ∧ v ≤ 6 ∧ ps.length ≤ 8 ∧ (v = 3 ∨ v = 4 ∨ ((v ≠ 3 ∧ v ≠ 4) ∧ ps.length = 0))) by omega) with hbad | ⟨v1, v6, l8, hgood⟩
  · have HN := Lib.hid (show false = mayK ⟨v, a, ps⟩ from (mayV_no hbad).symm)
    rcases (show v < 1 ∨ (1 ≤ v ∧ 6 < v) ∨ (1 ≤ v ∧ v ≤ 6 ∧ 8 < ps.length) ∨ (1 ≤ v ∧ v ≤ 6 ∧ ps.length ≤ 8 ∧ (v ≠ 3 ∧ v ≠ 4) ∧ 0 < ps.length) by omega) with h1 | ⟨h1, h2⟩ | ⟨h1, h2, h3⟩ | ⟨h1, h2, h3, ⟨h4, h5⟩, h6⟩
    · have i1 : (v : Int) < 1 := by omega
      go_enter Tryz.func31, Tryz.ntmps31
      go_wp2
      go_ret
      exact ⟨by rw [← HN.out]; rfl, HB.out.1⟩
    · have i1 : ¬ (v : Int) < 1 := by omega
      have i2 : (6 : Int) < (v : Int) := by omega
      go_enter Tryz.func31, Tryz.ntmps31
      go_wp2
      go_ret
      exact ⟨by rw [← HN.out]; rfl, HB.out.1⟩
    · have i1 : ¬ (v : Int) < 1 := by omega
      have i2 : ¬ (6 : Int) < (v : Int) := by omega
      have i3 : (8 : Int) < (ps.length : Int) := by omega
      go_enter Tryz.func31, Tryz.ntmps31
      go_wp2
      go_ret
      exact ⟨by rw [← HN.out]; rfl, HB.out.1⟩
    · have i1 : ¬ (v : Int) < 1 := by omega
      have i2 : ¬ (6 : Int) < (v : Int) := by omega
      have i3 : ¬ (8 : Int) < (ps.length : Int) := by omega
      have i4 : ((v : Int) != 3) = true := by simp; omega
      have i5 : ((v : Int) != 4) = true := by simp; omega
      have i6 : (0 : Int) < (ps.length : Int) := by omega
      go_enter Tryz.func31, Tryz.ntmps31
      go_wp2
      go_ret
      exact ⟨by rw [← HN.out]; rfl, HB.out.1⟩
  · have i1 : ¬ (v : Int) < 1 := by omega
    have i2 : ¬ (6 : Int) < (v : Int) := by omega
    have i3 : ¬ (8 : Int) < (ps.length : Int) := by omega
    clear c0 c1 c2
    rcases hgood with hv3 | hv4 | ⟨⟨h3, h4⟩, h5⟩
    · subst hv3
      obtain ⟨X, hXX⟩ : ∃ X, X = w.alloc (.cells #[.int .u8 3, sv a, .slice A ps.length cc] 61) := ⟨_, rfl⟩
      have HBX := Lib.hid (show BQ w ⟨3, a, ps⟩ (.slice A ps.length cc) X by rw [hXX]; exact HB.out)
      have HXX := Lib.hid hXX
      obtain ⟨c0, c1, c2⟩ := HBX.out.allv 3 rfl
      rw [hXX] at c0 c1 c2
      clear hXX
      
      go_enter Tryz.func31, Tryz.ntmps31
      go_wp2_with fail
      rw [← HXX.out]
      clear c0 c1 c2
      go_loopw [3, 4] (fun i q W => ∃ k : Nat, k ≤ ps.length ∧ i = .int .i64 k ∧ PsUp ps k ∧ BQ w ⟨3, a, ps⟩ (.slice A ps.length cc) W) (fun i _ _ => ps.length - (intOf i).toNat)
      case atStart => exact ⟨0, by omega, rfl, (fun j h => absurd h (Nat.not_lt_zero j)), HBX.out⟩
      case round =>
        obtain ⟨k, hk, rfl, hup, hbq⟩ := hrel
        have HU := Lib.hid hup
        have HQ := Lib.hid hbq
        clear hup hbq
        obtain ⟨c0, c1, c2⟩ := HQ.out.allv 3 rfl
        by_cases hlt : k < ps.length
        · obtain ⟨n, hn⟩ : ∃ n, n = (ps.getD k pm0).1 := ⟨_, rfl⟩
          obtain ⟨m, hm⟩ : ∃ n, n = (ps.getD k pm0).2 := ⟨_, rfl⟩
          have epm : ps.getD k pm0 = (n, m) := by rw [hn, hm]
          obtain ⟨g, off, rfl, hg, q0, q1⟩ := (HV.out.step HQ.out.1).at hlt
          rw [← hn] at q0
          rw [← hm] at q1
          have hnl := HX.out _ (pm_mem hlt)
          rw [epm] at hnl
          have HP := Lib.hid (rmayp_any (n, m) wr hnl.1 hnl.2)
          obtain ⟨b, hb⟩ : ∃ b, pL (n, m) = b := ⟨_, rfl⟩
          rw [hb] at HP
          have HE := Lib.hid epm
          have hk2 : (k : Int) < (ps.length : Int) := by omega
          clear hn hm epm hnl
          go_wp2_with fail
          refine HP.out.mono ?_
          rintro e w1 ⟨rfl, hb1⟩
          have HQ1 := Lib.hid (HQ.out.step hb1)
          clear hb1 c0 c1 c2 q0 q1
          cases b with
          | false =>
            have HN := Lib.hid (show false = mayK ⟨3, a, ps⟩ by
              have := ps_bad hlt (by rw [HE.out]; exact hb)
              unfold mayK
              simp [this])
            clear hb
            go_wp2
            go_ret
            exact ⟨by rw [← HN.out]; rfl, HQ1.out.1⟩
          | true =>
            have HPL := Lib.hid (show pL (ps.getD k pm0) = true by rw [HE.out]; exact hb)
            clear hb
            go_wp2_with fail
            go_loopw [4] (fun i W => ∃ q : Nat, q ≤ k ∧ i = .int .i64 q ∧ (∀ z, z < q → (ps.getD z pm0).1 ≠ (ps.getD k pm0).1) ∧ BQ w ⟨3, a, ps⟩ (.slice (some ⟨g, off, none⟩) ps.length cc) W) (fun i _ => k - (intOf i).toNat)
            case atStart => exact ⟨0, by omega, rfl, (fun j h => absurd h (Nat.not_lt_zero j)), HQ1.out⟩
            case round =>
              obtain ⟨q, hq, rfl, hne, hbq⟩ := hrel
              have HNE := Lib.hid hne
              have HQ2 := Lib.hid hbq
              clear hne hbq
              obtain ⟨c0, c1, c2⟩ := HQ2.out.allv 3 rfl
              by_cases hql : q < k
              · obtain ⟨x, hx⟩ : ∃ n, n = (ps.getD q pm0).1 := ⟨_, rfl⟩
                obtain ⟨_, _, e1, _, q0, _⟩ := (HV.out.step HQ2.out.1).at hlt
                obtain ⟨rfl, rfl⟩ : g = _ ∧ off = _ := by simpa using e1
                obtain ⟨_, _, e2, _, q1, _⟩ := (HV.out.step HQ2.out.1).at (k := q) (by omega)
                obtain ⟨rfl, rfl⟩ : g = _ ∧ off = _ := by simpa using e2
                rw [HE.out] at q0
                rw [← hx] at q1
                dsimp only at q0
                have HXN := Lib.hid hx
                have hq2 : (q : Int) < (k : Int) := by omega
                have hq3 : (q : Int) < (ps.length : Int) := by omega
                cases hxn : (x == n) with
                | true =>
                  have HN := Lib.hid (show false = mayK ⟨3, a, ps⟩ by
                    have := ps_twice hlt hql (by rw [← HXN.out, HE.out]; simpa using hxn)
                    unfold mayK
                    simp [this])
                  clear hx c0 c1
                  go_wp2_with fail
                  go_quiet (fail)
                  all_goals (try go_wp2)
                  all_goals go_ret
                  all_goals exact ⟨by rw [← HN.out]; rfl, (HQ2.out.step (below_drewN (Below.refl _ _) _)).1⟩
                | false =>
                  have HNE2 := Lib.hid (show ∀ z, z < q + 1 → (ps.getD z pm0).1 ≠ (ps.getD k pm0).1 by
                    intro z hz
                    by_cases e : z = q
                    · subst e
                      rw [← HXN.out, HE.out]
                      simpa using hxn
                    · exact HNE.out z (by omega))
                  clear hx c0 c1
                  go_wp2_with fail
                  go_quiet (fail)
                  all_goals (try go_wp2)
                  all_goals go_roundw
                  all_goals first | (case rel => exact ⟨q + 1, by omega, by go_num, HNE2.out, HQ2.out.step (below_drewN (Below.refl _ _) _)⟩) | skip
                  all_goals first | (case measure => simp [intOf]; omega) | skip
              · obtain rfl : q = k := by omega
                have HU2 := Lib.hid (HU.out.next HPL.out HNE.out)
                clear c0 c1 c2
                go_wp2_with fail
                go_roundw
                case rel => exact ⟨q + 1, by omega, by go_num, HU2.out, HQ2.out⟩
                case measure => simp [intOf]; omega
        · obtain rfl : k = ps.length := by omega
          have HP := Lib.hid (HU.out.yes l8)
          by_cases ha0 : a.isEmpty = true
          · have HN := Lib.hid (show true = mayK ⟨3, a, ps⟩ by unfold mayK endL; simp [HP.out, ha0])
            go_wp2
            go_ret
            exact ⟨by rw [← HN.out]; simp [ha0], HQ.out.1⟩
          · have ha1 : a.isEmpty = false := by simpa using ha0
            have HR := Lib.hid (rmay4_any a wr (by omega))
            have HN := Lib.hid (show mayK ⟨3, a, ps⟩ = amayL a by unfold mayK endL; simp [HP.out, ha1])
            clear ha0
            go_wp2_with fail
            refine HR.out.mono ?_
            rintro e w1 ⟨rfl, hb1⟩
            have HQ1 := Lib.hid (HQ.out.step hb1)
            clear hb1 c0 c1 c2
            go_wp2
            go_ret
            exact ⟨by rw [HN.out]; rfl, HQ1.out.1⟩
    · subst hv4
      obtain ⟨X, hXX⟩ : ∃ X, X = w.alloc (.cells #[.int .u8 4, sv a, .slice A ps.length cc] 61) := ⟨_, rfl⟩
      have HBX := Lib.hid (show BQ w ⟨4, a, ps⟩ (.slice A ps.length cc) X by rw [hXX]; exact HB.out)
      have HXX := Lib.hid hXX
      obtain ⟨c0, c1, c2⟩ := HBX.out.allv 4 rfl
      rw [hXX] at c0 c1 c2
      clear hXX
      
      go_enter Tryz.func31, Tryz.ntmps31
      go_wp2_with fail
      rw [← HXX.out]
      clear c0 c1 c2
      go_loopw [3, 4] (fun i q W => ∃ k : Nat, k ≤ ps.length ∧ i = .int .i64 k ∧ PsUp ps k ∧ BQ w ⟨4, a, ps⟩ (.slice A ps.length cc) W) (fun i _ _ => ps.length - (intOf i).toNat)
      case atStart => exact ⟨0, by omega, rfl, (fun j h => absurd h (Nat.not_lt_zero j)), HBX.out⟩
      case round =>
        obtain ⟨k, hk, rfl, hup, hbq⟩ := hrel
        have HU := Lib.hid hup
        have HQ := Lib.hid hbq
        clear hup hbq
        obtain ⟨c0, c1, c2⟩ := HQ.out.allv 4 rfl
        by_cases hlt : k < ps.length
        · obtain ⟨n, hn⟩ : ∃ n, n = (ps.getD k pm0).1 := ⟨_, rfl⟩
          obtain ⟨m, hm⟩ : ∃ n, n = (ps.getD k pm0).2 := ⟨_, rfl⟩
          have epm : ps.getD k pm0 = (n, m) := by rw [hn, hm]
          obtain ⟨g, off, rfl, hg, q0, q1⟩ := (HV.out.step HQ.out.1).at hlt
          rw [← hn] at q0
          rw [← hm] at q1
          have hnl := HX.out _ (pm_mem hlt)
          rw [epm] at hnl
          have HP := Lib.hid (rmayp_any (n, m) wr hnl.1 hnl.2)
          obtain ⟨b, hb⟩ : ∃ b, pL (n, m) = b := ⟨_, rfl⟩
          rw [hb] at HP
          have HE := Lib.hid epm
          have hk2 : (k : Int) < (ps.length : Int) := by omega
          clear hn hm epm hnl
          go_wp2_with fail
          refine HP.out.mono ?_
          rintro e w1 ⟨rfl, hb1⟩
          have HQ1 := Lib.hid (HQ.out.step hb1)
          clear hb1 c0 c1 c2 q0 q1
          cases b with
          | false =>
            have HN := Lib.hid (show false = mayK ⟨4, a, ps⟩ by
              have := ps_bad hlt (by rw [HE.out]; exact hb)
              unfold mayK
              simp [this])
            clear hb
            go_wp2
            go_ret
            exact ⟨by rw [← HN.out]; rfl, HQ1.out.1⟩
          | true =>
            have HPL := Lib.hid (show pL (ps.getD k pm0) = true by rw [HE.out]; exact hb)
            clear hb
            go_wp2_with fail
            go_loopw [4] (fun i W => ∃ q : Nat, q ≤ k ∧ i = .int .i64 q ∧ (∀ z, z < q → (ps.getD z pm0).1 ≠ (ps.getD k pm0).1) ∧ BQ w ⟨4, a, ps⟩ (.slice (some ⟨g, off, none⟩) ps.length cc) W) (fun i _ => k - (intOf i).toNat)
            case atStart => exact ⟨0, by omega, rfl, (fun j h => absurd h (Nat.not_lt_zero j)), HQ1.out⟩
            case round =>
              obtain ⟨q, hq, rfl, hne, hbq⟩ := hrel
              have HNE := Lib.hid hne
              have HQ2 := Lib.hid hbq
              clear hne hbq
              obtain ⟨c0, c1, c2⟩ := HQ2.out.allv 4 rfl
              by_cases hql : q < k
              · obtain ⟨x, hx⟩ : ∃ n, n = (ps.getD q pm0).1 := ⟨_, rfl⟩
                obtain ⟨_, _, e1, _, q0, _⟩ := (HV.out.step HQ2.out.1).at hlt
                obtain ⟨rfl, rfl⟩ : g = _ ∧ off = _ := by simpa using e1
                obtain ⟨_, _, e2, _, q1, _⟩ := (HV.out.step HQ2.out.1).at (k := q) (by omega)
                obtain ⟨rfl, rfl⟩ : g = _ ∧ off = _ := by simpa using e2
                rw [HE.out] at q0
                rw [← hx] at q1
                dsimp only at q0
                have HXN := Lib.hid hx
                have hq2 : (q : Int) < (k : Int) := by omega
                have hq3 : (q : Int) < (ps.length : Int) := by omega
                cases hxn : (x == n) with
                | true =>
                  have HN := Lib.hid (show false = mayK ⟨4, a, ps⟩ by
                    have := ps_twice hlt hql (by rw [← HXN.out, HE.out]; simpa using hxn)
                    unfold mayK
                    simp [this])
                  clear hx c0 c1
                  go_wp2_with fail
                  go_quiet (fail)
                  all_goals (try go_wp2)
                  all_goals go_ret
                  all_goals exact ⟨by rw [← HN.out]; rfl, (HQ2.out.step (below_drewN (Below.refl _ _) _)).1⟩
                | false =>
                  have HNE2 := Lib.hid (show ∀ z, z < q + 1 → (ps.getD z pm0).1 ≠ (ps.getD k pm0).1 by
                    intro z hz
                    by_cases e : z = q
                    · subst e
                      rw [← HXN.out, HE.out]
                      simpa using hxn
                    · exact HNE.out z (by omega))
                  clear hx c0 c1
                  go_wp2_with fail
                  go_quiet (fail)
                  all_goals (try go_wp2)
                  all_goals go_roundw
                  all_goals first | (case rel => exact ⟨q + 1, by omega, by go_num, HNE2.out, HQ2.out.step (below_drewN (Below.refl _ _) _)⟩) | skip
                  all_goals first | (case measure => simp [intOf]; omega) | skip
              · obtain rfl : q = k := by omega
                have HU2 := Lib.hid (HU.out.next HPL.out HNE.out)
                clear c0 c1 c2
                go_wp2_with fail
                go_roundw
                case rel => exact ⟨q + 1, by omega, by go_num, HU2.out, HQ2.out⟩
                case measure => simp [intOf]; omega
        · obtain rfl : k = ps.length := by omega
          have HP := Lib.hid (HU.out.yes l8)
          have HR := Lib.hid (rmay4_any a wr (by omega))
          have HN := Lib.hid (show mayK ⟨4, a, ps⟩ = amayL a by unfold mayK; simp [HP.out])
          go_wp2_with fail
          refine HR.out.mono ?_
          rintro e w1 ⟨rfl, hb1⟩
          have HQ1 := Lib.hid (HQ.out.step hb1)
          clear hb1 c0 c1 c2
          go_wp2
          go_ret
          exact ⟨by rw [HN.out]; rfl, HQ1.out.1⟩
    · have HPS := Lib.hid (List.length_eq_zero_iff.1 h5)
      have i7 : ¬ (0 : Int) < (ps.length : Int) := by omega
      have i4 : ((v : Int) == 3) = false := by rw [beq_eq_false_iff_ne]; omega
      have i5 : ((v : Int) == 4) = false := by rw [beq_eq_false_iff_ne]; omega
      have j4 : ((v : Int) != 3) = true := by simp; omega
      have j5 : ((v : Int) != 4) = true := by simp; omega
      by_cases hv1 : v = 1
      · have HR := Lib.hid (fun W => rmay_any a W (by omega))
        have HN := Lib.hid (show mayK ⟨1, a, ps⟩ = mayL a by rw [HPS.out]; unfold mayK; simp)
        clear h5 i4 i5 j4 j5
        subst hv1
        obtain ⟨X, hXX⟩ : ∃ X, X = w.alloc (.cells #[.int .u8 1, sv a, .slice A ps.length cc] 61) := ⟨_, rfl⟩
        have HBX := Lib.hid (show BQ w ⟨1, a, ps⟩ (.slice A ps.length cc) X by rw [hXX]; exact HB.out)
        have HXX := Lib.hid hXX
        obtain ⟨c0, c1, c2⟩ := HBX.out.allv 1 rfl
        rw [hXX] at c0 c1 c2
        clear hXX
        go_enter Tryz.func31, Tryz.ntmps31
        go_wp2_with fail
        rw [← HXX.out]
        clear c0 c1 c2
        obtain ⟨c0, c1, c2⟩ := HBX.out.allv 1 rfl
        go_loopw [3] (fun i W => i = .int .i64 (0 : Nat) ∧ W = X) (fun _ _ => 0)
        case atStart => exact ⟨rfl, rfl⟩
        case round =>
          obtain ⟨rfl, rfl⟩ := hrel
          rw [show ((0 : Nat) : Int) = 0 from rfl]
          go_wp2_with fail
          refine (HR.out wr).mono ?_
          rintro e w1 ⟨rfl, hb1⟩
          have HQ1 := Lib.hid (HBX.out.step hb1)
          clear hb1 c0 c1 c2
          go_wp2
          go_ret
          exact ⟨by rw [HN.out]; rfl, HQ1.out.1⟩
      · have i6 : ((v : Int) == 1) = false := by rw [beq_eq_false_iff_ne]; omega
        obtain ⟨X, hXX⟩ : ∃ X, X = w.alloc (.cells #[.int .u8 (v : Int), sv a, .slice A ps.length cc] 61) := ⟨_, rfl⟩
        have HBX := Lib.hid (show BQ w ⟨v, a, ps⟩ (.slice A ps.length cc) X by rw [hXX]; exact HB.out)
        have HXX := Lib.hid hXX
        obtain ⟨c0, c1, c2⟩ := HBX.out.allv (v : Int) rfl
        rw [hXX] at c0 c1 c2
        clear hXX
        have HN := Lib.hid (show mayK ⟨v, a, ps⟩ = a.isEmpty by
          rw [HPS.out]
          rcases (show v = 2 ∨ v = 5 ∨ v = 6 by omega) with rfl | rfl | rfl <;> (unfold mayK; simp))
        clear h5
        go_enter Tryz.func31, Tryz.ntmps31
        go_wp2_with fail
        rw [← HXX.out]
        clear c0 c1 c2
        obtain ⟨c0, c1, c2⟩ := HBX.out.allv (v : Int) rfl
        go_loopw [3] (fun i W => i = .int .i64 (0 : Nat) ∧ W = X) (fun _ _ => 0)
        case atStart => exact ⟨rfl, rfl⟩
        case round =>
          obtain ⟨rfl, rfl⟩ := hrel
          rw [show ((0 : Nat) : Int) = 0 from rfl]
          go_wp2
          go_ret
          exact ⟨by rw [HN.out]; rfl, HBX.out.1⟩
end Go.Proofs.YtbmjmiioobgbfaaGreatDoor
