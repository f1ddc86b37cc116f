/-
  The reference's May (layer 7): it is the plain function.
  A command, as the reference's ('told'); the reference's Same.
  The reference's Mail and Rcpt (layer 7): they are the plain functions.
-/
import Derived.Deep.QuietTactic
import Derived.BigQuiet
import Derived.Test.YtbmjmiioobgbfaaGreatDoorQA
import Derived.Test.YtbmjmiioobgbfaaGreatDoorARPars
import Derived.Test.YtbmjmiioobgbfaaGreatDoorNRCut
import Derived.Deep.RegionLaw
import Derived.Deep.RegionHeld3
import Derived.Test.YtbmjmiioobgbfaaGreatDoorKAdd
import Derived.Test.YtbmjmiioobgbfaaGreatDoorKMailM
import Derived.Test.YtbmjmiioobgbfaaGreatDoorKSame
import Derived.Test.YtbmjmiioobgbfaaGreatDoorKShow
namespace Go.Proofs.YtbmjmiioobgbfaaGreatDoor
open Go Go.RowKit Go.Shelf
set_option linter.unusedSimpArgs false
set_option linter.unusedVariables false
set_option maxRecDepth 100000

/-- The first k parameters may be, and no two of them have one name. -/
def PsUp (l : List PM) (k : Nat) : Prop := ∀ j, j < k → pL (l.getD j pm0) = true ∧ ∀ q, q < j → (l.getD q pm0).1 ≠ (l.getD j pm0).1
theorem PsUp.next {l : List PM} {k : Nat} (h : PsUp l k) (h1 : pL (l.getD k pm0) = true) (h2 : ∀ q, q < k → (l.getD q pm0).1 ≠ (l.getD k pm0).1) : PsUp l (k + 1) := by
  intro j hj
  by_cases e : j = k
  · rw [e]; exact ⟨h1, h2⟩
  · exact h j (by omega)
theorem PsUp.yes {l : List PM} (h8 : l.length ≤ 8) (h : PsUp l l.length) : psL l = true := by
  unfold psL
  rw [decide_eq_true h8]
  have e1 : l.all pL = true := by
    rw [List.all_eq_true]
    intro p hp
    obtain ⟨j, hj, rfl⟩ := List.getElem_of_mem hp
    have := (h j hj).1
    rwa [pm_getD hj] at this
  have e2 : (l.map (·.1)).Nodup := by
    rw [List.nodup_iff_pairwise_ne, List.pairwise_iff_getElem]
    intro i j hi hj hij
    simp only [List.length_map] at hi hj
    have := (h j hj).2 i hij
    rw [pm_getD hi, pm_getD hj] at this
    simpa using this
  rw [e1, decide_eq_true e2]; rfl
theorem ps_bad {l : List PM} {j : Nat} (hj : j < l.length) (h : pL (l.getD j pm0) = false) : psL l = false := by
  rw [Bool.eq_false_iff]
  intro hp
  unfold psL at hp
  simp only [Bool.and_eq_true] at hp
  have := List.all_eq_true.1 hp.1.2 _ (pm_mem hj)
  rw [h] at this; cases this
theorem ps_twice {l : List PM} {i j : Nat} (hj : j < l.length) (hij : i < j) (h : (l.getD i pm0).1 = (l.getD j pm0).1) : psL l = false := by
  rw [Bool.eq_false_iff]
  intro hp
  unfold psL at hp
  simp only [Bool.and_eq_true, decide_eq_true_eq] at hp
  have hn := hp.2
  rw [List.nodup_iff_pairwise_ne, List.pairwise_iff_getElem] at hn
  have := hn i j (by simp; omega) (by simpa using hj) hij
  rw [pm_getD (by omega), pm_getD hj] at h
  exact this (by simpa using h)
theorem ps_long {l : List PM} (h : 8 < l.length) : psL l = false := by
  unfold psL; rw [decide_eq_false (by omega)]; rfl

/-- The box of the command that was handed in. -/
def BQ (w : World) (c : Cm) (u : Value) (W : World) : Prop := Below w.heap.size w W ∧ W.heap[w.heap.size]? = some (.cells #[.int .u8 (c.verb : Int), sv c.arg, u] 61 (0, 0))
theorem BQ.start (w : World) (c : Cm) (u : Value) : BQ w c u (w.alloc (.cells #[.int .u8 (c.verb : Int), sv c.arg, u] 61)) := ⟨below_alloc _ _, heap_alloc_new _ _⟩
theorem BQ.step {w W W' : World} {c : Cm} {u : Value} (h : BQ w c u W) (hb : Below W.heap.size W W') : BQ w c u W' := ⟨h.1.trans (hb.mono h.1.size), (hb.block _ (lt_of_blk h.2)).trans h.2⟩
theorem BQ.allv {w W : World} {c : Cm} {u : Value} (z : Int) (h : BQ w c u W) (hz : (c.verb : Int) = z) : W.cell? ⟨w.heap.size, 0, none⟩ = some (.int .u8 z) ∧ W.cell? ⟨w.heap.size, 1, none⟩ = some (sv c.arg) ∧ W.cell? ⟨w.heap.size, 2, none⟩ = some u := by
  subst hz
  refine ⟨?_, ?_, ?_⟩ <;> (rw [cellAt h.2]; rfl)
theorem BQ.all {w W : World} {c : Cm} {u : Value} (h : BQ w c u W) : W.cell? ⟨w.heap.size, 0, none⟩ = some (.int .u8 (c.verb : Int)) ∧ W.cell? ⟨w.heap.size, 1, none⟩ = some (sv c.arg) ∧ W.cell? ⟨w.heap.size, 2, none⟩ = some u := by
  refine ⟨?_, ?_, ?_⟩ <;> (rw [cellAt h.2]; rfl)

theorem mayV_no {v : Nat} {a : List UInt8} {ps : List PM} (h : v < 1 ∨ 6 < v ∨ 8 < ps.length ∨ ((v ≠ 3 ∧ v ≠ 4) ∧ 0 < ps.length)) : mayK ⟨v, a, ps⟩ = false := by
  have hpe : 0 < ps.length → ps.isEmpty = false := fun h => by cases ps with | nil => simp at h | cons => rfl
  rcases h with h | h | h | ⟨⟨h3, h4⟩, h⟩
  · exact mayK_none (.inl h)
  · exact mayK_none (.inr h)
  · have e := ps_long h
    have e2 := hpe (by omega)
    unfold mayK
    dsimp only
    split <;> simp [e, e2]
  · have e2 := hpe h
    unfold mayK
    dsimp only
    split <;> first | (simp [e2]; done) | (exact absurd rfl h3) | (exact absurd rfl h4)

set_option maxHeartbeats 16000000 in
theorem rmayK_any (c : Cm) (u : Value) (w : World) (hu : PR w u c.ps) (hv : c.verb < 256) (ha : c.arg.length ≤ 1000000) (hl : c.ps.length ≤ 1000000) (hx : ∀ p ∈ c.ps, p.1.length ≤ 1000000 ∧ p.2.length ≤ 1000000) :
    Calls Tryz.prog 31 #[cmV c u] w fun e w' => e = .returned (.bool (mayK c)) ∧ Below w.heap.size w w' := by
  obtain ⟨v, a, ps⟩ := c
  obtain ⟨A, cc, rfl⟩ := hu.form
  dsimp only at hu hv ha hl hx
  have HV := Lib.hid hu
  have HX := Lib.hid hx
  have HB := Lib.hid (BQ.start w ⟨v, a, ps⟩ (.slice A ps.length cc))
  obtain ⟨c0, c1, c2⟩ := HB.out.all
  clear hu hx
  rcases (show (v < 1 ∨ 6 < v ∨ 8 < ps.length ∨ ((v ≠ 3 ∧ v ≠ 4) ∧ 0 < ps.length)) ∨ (1 ≤ v ∧ v ≤ 6 ∧ ps.length ≤ 8 ∧ (v = 3 ∨ v = 4 ∨ ((v ≠ 3 ∧ v ≠ 4) ∧ ps.length = 0))) by omega) with hbad | ⟨v1, v6, l8, hgood⟩
  · have HN := Lib.hid (show false = mayK ⟨v, a, ps⟩ from (mayV_no hbad).symm)
    rcases (show v < 1 ∨ (1 ≤ v ∧ 6 < v) ∨ (1 ≤ v ∧ v ≤ 6 ∧ 8 < ps.length) ∨ (1 ≤ v ∧ v ≤ 6 ∧ ps.length ≤ 8 ∧ (v ≠ 3 ∧ v ≠ 4) ∧ 0 < ps.length) by omega) with h1 | ⟨h1, h2⟩ | ⟨h1, h2, h3⟩ | ⟨h1, h2, h3, ⟨h4, h5⟩, h6⟩
    · have i1 : (v : Int) < 1 := by omega
      go_enter Tryz.func31, Tryz.ntmps31
      go_wp2
      go_ret
      exact ⟨by rw [← HN.out]; rfl, HB.out.1⟩
    · have i1 : ¬ (v : Int) < 1 := by omega
      have i2 : (6 : Int) < (v : Int) := by omega
      go_enter Tryz.func31, Tryz.ntmps31
      go_wp2
      go_ret
      exact ⟨by rw [← HN.out]; rfl, HB.out.1⟩
    · have i1 : ¬ (v : Int) < 1 := by omega
      have i2 : ¬ (6 : Int) < (v : Int) := by omega
      have i3 : (8 : Int) < (ps.length : Int) := by omega
      go_enter Tryz.func31, Tryz.ntmps31
      go_wp2
      go_ret
      exact ⟨by rw [← HN.out]; rfl, HB.out.1⟩
    · have i1 : ¬ (v : Int) < 1 := by omega
      have i2 : ¬ (6 : Int) < (v : Int) := by omega
      have i3 : ¬ (8 : Int) < (ps.length : Int) := by omega
      have i4 : ((v : Int) != 3) = true := by simp; omega
      have i5 : ((v : Int) != 4) = true := by simp; omega
      have i6 : (0 : Int) < (ps.length : Int) := by omega
      go_enter Tryz.func31, Tryz.ntmps31
      go_wp2
      go_ret
      exact ⟨by rw [← HN.out]; rfl, HB.out.1⟩
  · have i1 : ¬ (v : Int) < 1 := by omega
    have i2 : ¬ (6 : Int) < (v : Int) := by omega
    have i3 : ¬ (8 : Int) < (ps.length : Int) := by omega
    clear c0 c1 c2
    rcases hgood with hv3 | hv4 | ⟨⟨h3, h4⟩, h5⟩
    · subst hv3
      obtain ⟨X, hXX⟩ : ∃ X, X = w.alloc (.cells #[.int .u8 3, sv a, .slice A ps.length cc] 61) := ⟨_, rfl⟩
      have HBX := Lib.hid (show BQ w ⟨3, a, ps⟩ (.slice A ps.length cc) X by rw [hXX]; exact HB.out)
      have HXX := Lib.hid hXX
      obtain ⟨c0, c1, c2⟩ := HBX.out.allv 3 rfl
      rw [hXX] at c0 c1 c2
      clear hXX
      
      go_enter Tryz.func31, Tryz.ntmps31
      go_wp2_with fail
      rw [← HXX.out]
      clear c0 c1 c2
      go_loopw [3, 4] (fun i q W => ∃ k : Nat, k ≤ ps.length ∧ i = .int .i64 k ∧ PsUp ps k ∧ BQ w ⟨3, a, ps⟩ (.slice A ps.length cc) W) (fun i _ _ => ps.length - (intOf i).toNat)
      case atStart => exact ⟨0, by omega, rfl, (fun j h => absurd h (Nat.not_lt_zero j)), HBX.out⟩
      case round =>
        obtain ⟨k, hk, rfl, hup, hbq⟩ := hrel
        have HU := Lib.hid hup
        have HQ := Lib.hid hbq
        clear hup hbq
        obtain ⟨c0, c1, c2⟩ := HQ.out.allv 3 rfl
        by_cases hlt : k < ps.length
        · obtain ⟨n, hn⟩ : ∃ n, n = (ps.getD k pm0).1 := ⟨_, rfl⟩
          obtain ⟨m, hm⟩ : ∃ n, n = (ps.getD k pm0).2 := ⟨_, rfl⟩
          have epm : ps.getD k pm0 = (n, m) := by rw [hn, hm]
          obtain ⟨g, off, rfl, hg, q0, q1⟩ := (HV.out.step HQ.out.1).at hlt
          rw [← hn] at q0
          rw [← hm] at q1
          have hnl := HX.out _ (pm_mem hlt)
          rw [epm] at hnl
          have HP := Lib.hid (rmayp_any (n, m) wr hnl.1 hnl.2)
          obtain ⟨b, hb⟩ : ∃ b, pL (n, m) = b := ⟨_, rfl⟩
          rw [hb] at HP
          have HE := Lib.hid epm
          have hk2 : (k : Int) < (ps.length : Int) := by omega
          clear hn hm epm hnl
          go_wp2_with fail
          refine HP.out.mono ?_
          rintro e w1 ⟨rfl, hb1⟩
          have HQ1 := Lib.hid (HQ.out.step hb1)
          clear hb1 c0 c1 c2 q0 q1
          cases b with
          | false =>
            have HN := Lib.hid (show false = mayK ⟨3, a, ps⟩ by
              have := ps_bad hlt (by rw [HE.out]; exact hb)
              unfold mayK
              simp [this])
            clear hb
            go_wp2
            go_ret
            exact ⟨by rw [← HN.out]; rfl, HQ1.out.1⟩
          | true =>
            have HPL := Lib.hid (show pL (ps.getD k pm0) = true by rw [HE.out]; exact hb)
            clear hb
            go_wp2_with fail
            go_loopw [4] (fun i W => ∃ q : Nat, q ≤ k ∧ i = .int .i64 q ∧ (∀ z, z < q → (ps.getD z pm0).1 ≠ (ps.getD k pm0).1) ∧ BQ w ⟨3, a, ps⟩ (.slice (some ⟨g, off, none⟩) ps.length cc) W) (fun i _ => k - (intOf i).toNat)
            case atStart => exact ⟨0, by omega, rfl, (fun j h => absurd h (Nat.not_lt_zero j)), HQ1.out⟩
            case round =>
              obtain ⟨q, hq, rfl, hne, hbq⟩ := hrel
              have HNE := Lib.hid hne
              have HQ2 := Lib.hid hbq
              clear hne hbq
              obtain ⟨c0, c1, c2⟩ := HQ2.out.allv 3 rfl
              by_cases hql : q < k
              · obtain ⟨x, hx⟩ : ∃ n, n = (ps.getD q pm0).1 := ⟨_, rfl⟩
                obtain ⟨_, _, e1, _, q0, _⟩ := (HV.out.step HQ2.out.1).at hlt
                obtain ⟨rfl, rfl⟩ : g = _ ∧ off = _ := by simpa using e1
                obtain ⟨_, _, e2, _, q1, _⟩ := (HV.out.step HQ2.out.1).at (k := q) (by omega)
                obtain ⟨rfl, rfl⟩ : g = _ ∧ off = _ := by simpa using e2
                rw [HE.out] at q0
                rw [← hx] at q1
                dsimp only at q0
                have HXN := Lib.hid hx
                have hq2 : (q : Int) < (k : Int) := by omega
                have hq3 : (q : Int) < (ps.length : Int) := by omega
                cases hxn : (x == n) with
                | true =>
                  have HN := Lib.hid (show false = mayK ⟨3, a, ps⟩ by
                    have := ps_twice hlt hql (by rw [← HXN.out, HE.out]; simpa using hxn)
                    unfold mayK
                    simp [this])
                  clear hx c0 c1
                  go_wp2_with fail
                  go_quiet (fail)
                  all_goals (try go_wp2)
                  all_goals go_ret
                  all_goals exact ⟨by rw [← HN.out]; rfl, (HQ2.out.step (below_drewN (Below.refl _ _) _)).1⟩
                | false =>
                  have HNE2 := Lib.hid (show ∀ z, z < q + 1 → (ps.getD z pm0).1 ≠ (ps.getD k pm0).1 by
                    intro z hz
                    by_cases e : z = q
                    · subst e
                      rw [← HXN.out, HE.out]
                      simpa using hxn
                    · exact HNE.out z (by omega))
                  clear hx c0 c1
                  go_wp2_with fail
                  go_quiet (fail)
                  all_goals (try go_wp2)
                  all_goals go_roundw
                  all_goals first | (case rel => exact ⟨q + 1, by omega, by go_num, HNE2.out, HQ2.out.step (below_drewN (Below.refl _ _) _)⟩) | skip
                  all_goals first | (case measure => simp [intOf]; omega) | skip
              · obtain rfl : q = k := by omega
                have HU2 := Lib.hid (HU.out.next HPL.out HNE.out)
                clear c0 c1 c2
                go_wp2_with fail
                go_roundw
                case rel => exact ⟨q + 1, by omega, by go_num, HU2.out, HQ2.out⟩
                case measure => simp [intOf]; omega
        · obtain rfl : k = ps.length := by omega
          have HP := Lib.hid (HU.out.yes l8)
          by_cases ha0 : a.isEmpty = true
          · have HN := Lib.hid (show true = mayK ⟨3, a, ps⟩ by unfold mayK endL; simp [HP.out, ha0])
            go_wp2
            go_ret
            exact ⟨by rw [← HN.out]; simp [ha0], HQ.out.1⟩
          · have ha1 : a.isEmpty = false := by simpa using ha0
            have HR := Lib.hid (rmay4_any a wr (by omega))
            have HN := Lib.hid (show mayK ⟨3, a, ps⟩ = amayL a by unfold mayK endL; simp [HP.out, ha1])
            clear ha0
            go_wp2_with fail
            refine HR.out.mono ?_
            rintro e w1 ⟨rfl, hb1⟩
            have HQ1 := Lib.hid (HQ.out.step hb1)
            clear hb1 c0 c1 c2
            go_wp2
            go_ret
            exact ⟨by rw [HN.out]; rfl, HQ1.out.1⟩
    · subst hv4
      obtain ⟨X, hXX⟩ : ∃ X, X = w.alloc (.cells #[.int .u8 4, sv a, .slice A ps.length cc] 61) := ⟨_, rfl⟩
      have HBX := Lib.hid (show BQ w ⟨4, a, ps⟩ (.slice A ps.length cc) X by rw [hXX]; exact HB.out)
      have HXX := Lib.hid hXX
      obtain ⟨c0, c1, c2⟩ := HBX.out.allv 4 rfl
      rw [hXX] at c0 c1 c2
      clear hXX
      
      go_enter Tryz.func31, Tryz.ntmps31
      go_wp2_with fail
      rw [← HXX.out]
      clear c0 c1 c2
      go_loopw [3, 4] (fun i q W => ∃ k : Nat, k ≤ ps.length ∧ i = .int .i64 k ∧ PsUp ps k ∧ BQ w ⟨4, a, ps⟩ (.slice A ps.length cc) W) (fun i _ _ => ps.length - (intOf i).toNat)
      case atStart => exact ⟨0, by omega, rfl, (fun j h => absurd h (Nat.not_lt_zero j)), HBX.out⟩
      case round =>
        obtain ⟨k, hk, rfl, hup, hbq⟩ := hrel
        have HU := Lib.hid hup
        have HQ := Lib.hid hbq
        clear hup hbq
        obtain ⟨c0, c1, c2⟩ := HQ.out.allv 4 rfl
        by_cases hlt : k < ps.length
        · obtain ⟨n, hn⟩ : ∃ n, n = (ps.getD k pm0).1 := ⟨_, rfl⟩
          obtain ⟨m, hm⟩ : ∃ n, n = (ps.getD k pm0).2 := ⟨_, rfl⟩
          have epm : ps.getD k pm0 = (n, m) := by rw [hn, hm]
          obtain ⟨g, off, rfl, hg, q0, q1⟩ := (HV.out.step HQ.out.1).at hlt
          rw [← hn] at q0
          rw [← hm] at q1
          have hnl := HX.out _ (pm_mem hlt)
          rw [epm] at hnl
          have HP := Lib.hid (rmayp_any (n, m) wr hnl.1 hnl.2)
          obtain ⟨b, hb⟩ : ∃ b, pL (n, m) = b := ⟨_, rfl⟩
          rw [hb] at HP
          have HE := Lib.hid epm
          have hk2 : (k : Int) < (ps.length : Int) := by omega
          clear hn hm epm hnl
          go_wp2_with fail
          refine HP.out.mono ?_
          rintro e w1 ⟨rfl, hb1⟩
          have HQ1 := Lib.hid (HQ.out.step hb1)
          clear hb1 c0 c1 c2 q0 q1
          cases b with
          | false =>
            have HN := Lib.hid (show false = mayK ⟨4, a, ps⟩ by
              have := ps_bad hlt (by rw [HE.out]; exact hb)
              unfold mayK
              simp [this])
            clear hb
            go_wp2
            go_ret
            exact ⟨by rw [← HN.out]; rfl, HQ1.out.1⟩
          | true =>
            have HPL := Lib.hid (show pL (ps.getD k pm0) = true by rw [HE.out]; exact hb)
            clear hb
            go_wp2_with fail
            go_loopw [4] (fun i W => ∃ q : Nat, q ≤ k ∧ i = .int .i64 q ∧ (∀ z, z < q → (ps.getD z pm0).1 ≠ (ps.getD k pm0).1) ∧ BQ w ⟨4, a, ps⟩ (.slice (some ⟨g, off, none⟩) ps.length cc) W) (fun i _ => k - (intOf i).toNat)
            case atStart => exact ⟨0, by omega, rfl, (fun j h => absurd h (Nat.not_lt_zero j)), HQ1.out⟩
            case round =>
              obtain ⟨q, hq, rfl, hne, hbq⟩ := hrel
              have HNE := Lib.hid hne
              have HQ2 := Lib.hid hbq
              clear hne hbq
              obtain ⟨c0, c1, c2⟩ := HQ2.out.allv 4 rfl
              by_cases hql : q < k
              · obtain ⟨x, hx⟩ : ∃ n, n = (ps.getD q pm0).1 := ⟨_, rfl⟩
                obtain ⟨_, _, e1, _, q0, _⟩ := (HV.out.step HQ2.out.1).at hlt
                obtain ⟨rfl, rfl⟩ : g = _ ∧ off = _ := by simpa using e1
                obtain ⟨_, _, e2, _, q1, _⟩ := (HV.out.step HQ2.out.1).at (k := q) (by omega)
                obtain ⟨rfl, rfl⟩ : g = _ ∧ off = _ := by simpa using e2
                rw [HE.out] at q0
                rw [← hx] at q1
                dsimp only at q0
                have HXN := Lib.hid hx
                have hq2 : (q : Int) < (k : Int) := by omega
                have hq3 : (q : Int) < (ps.length : Int) := by omega
                cases hxn : (x == n) with
                | true =>
                  have HN := Lib.hid (show false = mayK ⟨4, a, ps⟩ by
                    have := ps_twice hlt hql (by rw [← HXN.out, HE.out]; simpa using hxn)
                    unfold mayK
                    simp [this])
                  clear hx c0 c1
                  go_wp2_with fail
                  go_quiet (fail)
                  all_goals (try go_wp2)
                  all_goals go_ret
                  all_goals exact ⟨by rw [← HN.out]; rfl, (HQ2.out.step (below_drewN (Below.refl _ _) _)).1⟩
                | false =>
                  have HNE2 := Lib.hid (show ∀ z, z < q + 1 → (ps.getD z pm0).1 ≠ (ps.getD k pm0).1 by
                    intro z hz
                    by_cases e : z = q
                    · subst e
                      rw [← HXN.out, HE.out]
                      simpa using hxn
                    · exact HNE.out z (by omega))
                  clear hx c0 c1
                  go_wp2_with fail
                  go_quiet (fail)
                  all_goals (try go_wp2)
                  all_goals go_roundw
                  all_goals first | (case rel => exact ⟨q + 1, by omega, by go_num, HNE2.out, HQ2.out.step (below_drewN (Below.refl _ _) _)⟩) | skip
                  all_goals first | (case measure => simp [intOf]; omega) | skip
              · obtain rfl : q = k := by omega
                have HU2 := Lib.hid (HU.out.next HPL.out HNE.out)
                clear c0 c1 c2
                go_wp2_with fail
                go_roundw
                case rel => exact ⟨q + 1, by omega, by go_num, HU2.out, HQ2.out⟩
                case measure => simp [intOf]; omega
        · obtain rfl : k = ps.length := by omega
          have HP := Lib.hid (HU.out.yes l8)
          have HR := Lib.hid (rmay4_any a wr (by omega))
          have HN := Lib.hid (show mayK ⟨4, a, ps⟩ = amayL a by unfold mayK; simp [HP.out])
          go_wp2_with fail
          refine HR.out.mono ?_
          rintro e w1 ⟨rfl, hb1⟩
          have HQ1 := Lib.hid (HQ.out.step hb1)
          clear hb1 c0 c1 c2
          go_wp2
          go_ret
          exact ⟨by rw [HN.out]; rfl, HQ1.out.1⟩
    · have HPS := Lib.hid (List.length_eq_zero_iff.1 h5)
      have i7 : ¬ (0 : Int) < (ps.length : Int) := by omega
      have i4 : ((v : Int) == 3) = false := by rw [beq_eq_false_iff_ne]; omega
      have i5 : ((v : Int) == 4) = false := by rw [beq_eq_false_iff_ne]; omega
      have j4 : ((v : Int) != 3) = true := by simp; omega
      have j5 : ((v : Int) != 4) = true := by simp; omega
      by_cases hv1 : v = 1
      · have HR := Lib.hid (fun W => rmay_any a W (by omega))
        have HN := Lib.hid (show mayK ⟨1, a, ps⟩ = mayL a by rw [HPS.out]; unfold mayK; simp)
        clear h5 i4 i5 j4 j5
        subst hv1
        obtain ⟨X, hXX⟩ : ∃ X, X = w.alloc (.cells #[.int .u8 1, sv a, .slice A ps.length cc] 61) := ⟨_, rfl⟩
        have HBX := Lib.hid (show BQ w ⟨1, a, ps⟩ (.slice A ps.length cc) X by rw [hXX]; exact HB.out)
        have HXX := Lib.hid hXX
        obtain ⟨c0, c1, c2⟩ := HBX.out.allv 1 rfl
        rw [hXX] at c0 c1 c2
        clear hXX
        go_enter Tryz.func31, Tryz.ntmps31
        go_wp2_with fail
        rw [← HXX.out]
        clear c0 c1 c2
        obtain ⟨c0, c1, c2⟩ := HBX.out.allv 1 rfl
        go_loopw [3] (fun i W => i = .int .i64 (0 : Nat) ∧ W = X) (fun _ _ => 0)
        case atStart => exact ⟨rfl, rfl⟩
        case round =>
          obtain ⟨rfl, rfl⟩ := hrel
          rw [show ((0 : Nat) : Int) = 0 from rfl]
          go_wp2_with fail
          refine (HR.out wr).mono ?_
          rintro e w1 ⟨rfl, hb1⟩
          have HQ1 := Lib.hid (HBX.out.step hb1)
          clear hb1 c0 c1 c2
          go_wp2
          go_ret
          exact ⟨by rw [HN.out]; rfl, HQ1.out.1⟩
      · have i6 : ((v : Int) == 1) = false := by rw [beq_eq_false_iff_ne]; omega
        obtain ⟨X, hXX⟩ : ∃ X, X = w.alloc (.cells #[.int .u8 (v : Int), sv a, .slice A ps.length cc] 61) := ⟨_, rfl⟩
        have HBX := Lib.hid (show BQ w ⟨v, a, ps⟩ (.slice A ps.length cc) X by rw [hXX]; exact HB.out)
        have HXX := Lib.hid hXX
        obtain ⟨c0, c1, c2⟩ := HBX.out.allv (v : Int) rfl
        rw [hXX] at c0 c1 c2
        clear hXX
        have HN := Lib.hid (show mayK ⟨v, a, ps⟩ = a.isEmpty by
          rw [HPS.out]
          rcases (show v = 2 ∨ v = 5 ∨ v = 6 by omega) with rfl | rfl | rfl <;> (unfold mayK; simp))
        clear h5
        go_enter Tryz.func31, Tryz.ntmps31
        go_wp2_with fail
        rw [← HXX.out]
        clear c0 c1 c2
        obtain ⟨c0, c1, c2⟩ := HBX.out.allv (v : Int) rfl
        go_loopw [3] (fun i W => i = .int .i64 (0 : Nat) ∧ W = X) (fun _ _ => 0)
        case atStart => exact ⟨rfl, rfl⟩
        case round =>
          obtain ⟨rfl, rfl⟩ := hrel
          rw [show ((0 : Nat) : Int) = 0 from rfl]
          go_wp2
          go_ret
          exact ⟨by rw [HN.out]; rfl, HBX.out.1⟩
end Go.Proofs.YtbmjmiioobgbfaaGreatDoor

namespace Go.Proofs.YtbmjmiioobgbfaaGreatDoor
open Go Go.RowKit Go.Shelf
set_option maxRecDepth 100000
set_option linter.unusedSimpArgs false
set_option linter.unusedVariables false

/-- Behind W0, all blocks below m as they lay: in block m a command of the reference's, whose row is made from block B on. -/
structure XD (W0 : World) (B m : Nat) (vb a u : Value) (ps : List PM) (W : World) : Prop where
  bel : Below m W0 W
  up : m < B ∧ B ≤ W.heap.size
  mm : W.heap[m]? = some (.cells #[vb, a, u] 61 (0, 0))
  own : PO 95 B W u ps
theorem XD.step {W0 W W' : World} {B m : Nat} {vb a u : Value} {ps : List PM} (h : XD W0 B m vb a u ps W) (hb : Below W.heap.size W W') : XD W0 B m vb a u ps W' :=
  ⟨h.bel.trans (hb.mono (Nat.le_of_lt (lt_of_blk h.mm))), ⟨h.up.1, Nat.le_trans h.up.2 hb.size⟩, blk_below h.mm hb, h.own.below hb⟩
theorem XD.drew {W0 W : World} {B m : Nat} {vb a u : Value} {ps : List PM} (h : XD W0 B m vb a u ps W) : XD W0 B m vb a u ps W.drew := h.step (Below.refl _ _).drew
theorem XD.m3 {W0 W : World} {B m : Nat} {vb a u : Value} {ps : List PM} (h : XD W0 B m vb a u ps W) : W.cell? ⟨m, 0, none⟩ = some vb ∧ W.cell? ⟨m, 1, none⟩ = some a ∧ W.cell? ⟨m, 2, none⟩ = some u ∧ W.frozen? ⟨m, 2, none⟩ = false :=
  ⟨by rw [cellAt h.mm]; rfl, by rw [cellAt h.mm]; rfl, by rw [cellAt h.mm]; rfl, freeAt h.mm 2⟩
theorem XD.app {W0 W : World} {B m : Nat} {vb a u : Value} {ps : List PM} (h : XD W0 B m vb a u ps W) (n x : List UInt8) (hl : ps.length ≤ 1000000) :
    ∃ g cap w2, (Builtin.append_ #[59, 59] 59 #[u, .slice (some ⟨W.heap.size, 0, none⟩) 1 1]).run Tryz.prog (W.alloc (.cells #[sv n, sv x] 95)) = .ok (.slice (some ⟨g, 0, none⟩) (ps.length + 1) cap) w2 ∧
      w2.cell? ⟨m, 2, none⟩ = some u ∧ w2.frozen? ⟨m, 2, none⟩ = false ∧ m < w2.heap.size ∧
      XD W0 B m vb a (.slice (some ⟨g, 0, none⟩) (ps.length + 1) cap) (ps ++ [(n, x)]) (w2.setCell ⟨m, 2, none⟩ (.slice (some ⟨g, 0, none⟩) (ps.length + 1) cap)) := by
  obtain ⟨h1, h3⟩ := h.up
  obtain ⟨g, cap, w2, hrun, hown, hgr, hor⟩ := po_append Tryz.underlying59 info_rparam (by decide) h.own h3 (by omega) n x
  have ha := h.step (below_alloc W (.cells #[sv n, sv x] 95))
  have hrow : ∀ j, u.ownBlock = some j → B ≤ j := fun j e => (h.own.lt e).1
  have mm2 : w2.heap[m]? = some (.cells #[vb, a, u] 61 (0, 0)) := (hgr.block _ (lt_of_blk ha.mm) (fun e => by have := hrow _ e.symm; omega)).trans ha.mm
  have hb2 : Below m W0 w2 := ha.bel.grown hgr (Nat.le_of_lt (lt_of_blk ha.mm)) fun j e => by have := hrow j e; omega
  have hb3 := hb2.setCell (p := ⟨m, 2, none⟩) (Nat.le_refl _) (.slice (some ⟨g, 0, none⟩) (ps.length + 1) cap)
  refine ⟨g, cap, w2, hrun, by rw [cellAt mm2]; rfl, freeAt mm2 2, lt_of_blk mm2, hb3, ⟨h1, ?_⟩, ?_, ?_⟩
  · have := hgr.size
    simp [World.setCell] at this ⊢
    omega
  · simp [World.setCell, Array.getElem?_modify, mm2]
  · exact hown.set (b := m) (i := 2) (fun j e => by have := (hown.lt e).1; omega) (.slice (some ⟨g, 0, none⟩) (ps.length + 1) cap)

/-- What a command of the reference's leaves. -/
def RcPost (w : World) (c : Cm) (e : Ending) (w' : World) : Prop := ∃ u, e = .returned (cmV c u) ∧ Below w.heap.size w w' ∧ PR w' u c.ps

theorem z3R {W : World} {g : Nat} (h : W.heap[g]? = some (.cells zC 61 (0, 0))) :
    W.cell? ⟨g, 0, none⟩ = some (.int .u8 0) ∧ W.cell? ⟨g, 1, none⟩ = some (sv []) ∧ W.cell? ⟨g, 2, none⟩ = some (.slice none 0 0) ∧ W.frozen? ⟨g, 0, none⟩ = false ∧ W.frozen? ⟨g, 1, none⟩ = false ∧ W.frozen? ⟨g, 2, none⟩ = false :=
  ⟨by rw [cellAt h]; rfl, by rw [cellAt h]; rfl, by rw [cellAt h]; rfl, freeAt h 0, freeAt h 1, freeAt h 2⟩
theorem take_next {l : List PM} {k : Nat} (h : k < l.length) : l.take k ++ [l.getD k pm0] = l.take (k + 1) := by
  rw [List.take_succ_eq_append_getElem h, pm_getD h]

set_option maxHeartbeats 8000000 in
theorem told_any (c : Cm) (u : Value) (w : World) (hu : PR w u c.ps) (hl : c.ps.length ≤ 100000) : Calls Tryz.prog 28 #[cmV c u] w (RcPost w c) := by
  obtain ⟨v, a, ps⟩ := c
  obtain ⟨A, cc, rfl⟩ := hu.form
  dsimp only at hu hl
  have HV := Lib.hid hu
  clear hu
  obtain ⟨W0, hW0⟩ : ∃ W0, W0 = ((w.alloc (.cells #[.int .u8 (v : Int), sv a, .slice A ps.length cc] 41)).alloc (.cells zC 61)).alloc (.cells #[.int .u8 (v : Int), sv a, .slice none 0 0] 61) := ⟨_, rfl⟩
  have HX0 := Lib.hid (show XD W0 (w.heap.size + 3) (w.heap.size + 2) (.int .u8 (v : Int)) (sv a) (.slice none 0 0) [] W0 from
    ⟨Below.refl _ _, ⟨by omega, by rw [hW0]; simp⟩, by rw [hW0]; have := heap_alloc_new ((w.alloc (.cells #[.int .u8 (v : Int), sv a, .slice A ps.length cc] 41)).alloc (.cells zC 61)) (.cells #[.int .u8 (v : Int), sv a, .slice none 0 0] 61); simpa using this, PO.nil _ _ _⟩)
  have HB0 := Lib.hid (show W0.heap[w.heap.size]? = some (.cells #[.int .u8 (v : Int), sv a, .slice A ps.length cc] 41 (0, 0)) by
    rw [hW0]; exact (Lib.alloc_old _ _ _ (by simp; omega)).trans ((Lib.alloc_old _ _ _ (by simp)).trans (heap_alloc_new w _)))
  have HB1 := Lib.hid (show W0.heap[w.heap.size + 1]? = some (.cells zC 61 (0, 0)) by
    rw [hW0]
    refine (Lib.alloc_old _ _ _ (by simp)).trans ?_
    have := heap_alloc_new (w.alloc (.cells #[.int .u8 (v : Int), sv a, .slice A ps.length cc] 41)) (.cells zC 61)
    simpa using this)
  have HW := Lib.hid (show Below w.heap.size w W0 by rw [hW0]; exact (((Below.refl _ _).alloc (Nat.le_refl _) _).alloc (by simp) _).alloc (by simp; omega) _)
  obtain ⟨B, hBB⟩ : ∃ B, B = w.heap.size + 3 := ⟨_, rfl⟩
  rw [← hBB] at HX0
  have HBB := Lib.hid hBB
  clear hBB
  have HWW := Lib.hid hW0
  clear hW0
  go_enter Tryz.func28, Tryz.ntmps28
  go_wp2_with fail
  rw [← HWW.out]
  go_loopw [4] (fun i W => ∃ (k : Nat) (u : Value), k ≤ ps.length ∧ i = .int .i64 k ∧ XD W0 B (w.heap.size + 2) (.int .u8 (v : Int)) (sv a) u (ps.take k) W) (fun i _ => ps.length - (intOf i).toNat)
  case atStart => exact ⟨0, _, by omega, rfl, HX0.out⟩
  case round =>
    obtain ⟨k, ux, hk, rfl, hx⟩ := hrel
    have HX := Lib.hid hx
    have hb : wr.heap[w.heap.size]? = some (.cells #[.int .u8 (v : Int), sv a, .slice A ps.length cc] 41 (0, 0)) := (hx.bel.block _ (by omega)).trans HB0.out
    have hb1 : wr.heap[w.heap.size + 1]? = some (.cells zC 61 (0, 0)) := (hx.bel.block _ (by omega)).trans HB1.out
    have HBW := Lib.hid (show Below w.heap.size w wr from HW.out.trans (hx.bel.mono (by omega)))
    have c2 : wr.cell? ⟨w.heap.size, 2, none⟩ = some (.slice A ps.length cc) := by rw [cellAt hb]; rfl
    by_cases hlt : k < ps.length
    · obtain ⟨n, hn⟩ : ∃ n, n = (ps.getD k pm0).1 := ⟨_, rfl⟩
      obtain ⟨x, hxx⟩ : ∃ n, n = (ps.getD k pm0).2 := ⟨_, rfl⟩
      obtain ⟨g, off, rfl, hg, q0, q1⟩ := (HV.out.step HBW.out).at hlt
      rw [← hn] at q0
      rw [← hxx] at q1
      obtain ⟨A2, c3, rfl⟩ := hx.own.form
      obtain ⟨_, _, m2, m3⟩ := hx.m3
      have hm := lt_of_blk hx.mm
      have HAP := Lib.hid (fun W (h : XD W0 B (w.heap.size + 2) (.int .u8 (v : Int)) (sv a) (.slice A2 (ps.take k).length c3) (ps.take k) W) => h.app n x (by rw [List.length_take]; omega))
      rw [show ps.take k ++ [(n, x)] = ps.take (k + 1) by rw [← take_next hlt, show ps.getD k pm0 = (n, x) by rw [hn, hxx]]] at HAP
      have hk2 : (k : Int) < (ps.length : Int) := by omega
      have hk3 : (0 : Int) ≤ (k : Int) := by omega
      obtain ⟨L, hL⟩ : ∃ L, L = (ps.take k).length := ⟨_, rfl⟩
      rw [← hL] at m2 HAP HX
      clear hx hb hb1 hn hxx hL
      go_wp2_with fail
      go_region_law (first
        | (obtain ⟨g2, cap2, w2, hrun, y0, y1, y2, hfin⟩ := HAP.out wr HX.out; refine step_app rfl (.tmp 18) (.tmp 24) 59 rfl rfl rfl hrun ?_; have HFIN := Lib.hid hfin; clear hrun hfin)
        | (obtain ⟨g2, cap2, w2, hrun, y0, y1, y2, hfin⟩ := HAP.out wr.drew HX.out.drew; refine step_app rfl (.tmp 18) (.tmp 24) 59 rfl rfl rfl hrun ?_; have HFIN := Lib.hid hfin; clear hrun hfin)
        | (obtain ⟨g2, cap2, w2, hrun, y0, y1, y2, hfin⟩ := HAP.out wr.drew.drew HX.out.drew.drew; refine step_app rfl (.tmp 18) (.tmp 24) 59 rfl rfl rfl hrun ?_; have HFIN := Lib.hid hfin; clear hrun hfin))
      all_goals (try go_wp2)
      all_goals go_roundw
      all_goals first | (case rel => exact ⟨k + 1, _, by omega, by go_num, HFIN.out⟩) | skip
      all_goals first | (case measure => simp [intOf]; omega) | skip
    · obtain rfl : k = ps.length := by omega
      obtain ⟨A2, c3, rfl⟩ := hx.own.form
      obtain ⟨m0, m1, m2, m3⟩ := hx.m3
      have hm := lt_of_blk hx.mm
      obtain ⟨r0, r1, r2, r3, r4, r5⟩ := z3R hb1
      have hlb := lt_of_blk hb1
      have HB1W := Lib.hid hb1
      have hown := hx.own
      rw [List.take_length] at hown m2
      have HPO0 := Lib.hid hown
      have HBL := Lib.hid (show Below (w.heap.size + 1) (w.alloc (.cells #[.int .u8 (v : Int), sv a, .slice A ps.length cc] 41)) wr from by
        have h2 := hx.bel.mono (show w.heap.size + 1 ≤ w.heap.size + 2 by omega)
        refine Below.trans ?_ h2
        rw [HWW.out]
        exact ((Below.refl _ _).alloc (by simp) _).alloc (by simp) _)
      clear hx hb hb1 HX hown
      have HPO := Lib.hid (HPO0.put3 (n0 := w.heap.size + 1) (by have := HBB.out; omega) (.int .u8 (v : Int)) (sv a) (.slice A2 ps.length c3))
      obtain ⟨p1, p2⟩ := put_world HB1W.out HBL.out (.int .u8 (v : Int)) (sv a) (.slice A2 ps.length c3)
      have P1 := Lib.hid p1
      have P2 := Lib.hid p2
      clear p1 p2
      go_wp2_with fail
      refine bodyPost_ret (results_row (p := 2) (fr := (0, 0)) Tryz.results28 _ _ (w.heap.size + 1) 61 _ _ rfl P1.out Tryz.underlying61 rfl (by kernel_rfl)) rfl ?_
      exact ⟨_, rfl, (below_alloc w (.cells #[.int .u8 (v : Int), sv a, .slice A ps.length cc] 41)).trans (P2.out.mono (Nat.le_succ _)), HPO.out.pr⟩

/-! ### Same -/
def BQ2 (w : World) (x y : Cm) (u v : Value) (W : World) : Prop := Below w.heap.size w W ∧ W.heap[w.heap.size]? = some (.cells #[.int .u8 (x.verb : Int), sv x.arg, u] 61 (0, 0)) ∧ W.heap[w.heap.size + 1]? = some (.cells #[.int .u8 (y.verb : Int), sv y.arg, v] 61 (0, 0))
theorem BQ2.step {w W W' : World} {x y : Cm} {u v : Value} (h : BQ2 w x y u v W) (hb : Below W.heap.size W W') : BQ2 w x y u v W' := ⟨h.1.trans (hb.mono h.1.size), blk_below h.2.1 hb, blk_below h.2.2 hb⟩
theorem BQ2.all {w W : World} {x y : Cm} {u v : Value} (h : BQ2 w x y u v W) :
    (W.cell? ⟨w.heap.size, 0, none⟩ = some (.int .u8 (x.verb : Int)) ∧ W.cell? ⟨w.heap.size, 1, none⟩ = some (sv x.arg) ∧ W.cell? ⟨w.heap.size, 2, none⟩ = some u) ∧ W.cell? ⟨w.heap.size + 1, 0, none⟩ = some (.int .u8 (y.verb : Int)) ∧ W.cell? ⟨w.heap.size + 1, 1, none⟩ = some (sv y.arg) ∧ W.cell? ⟨w.heap.size + 1, 2, none⟩ = some v := by
  refine ⟨⟨?_, ?_, ?_⟩, ?_, ?_, ?_⟩ <;> first | (rw [cellAt h.2.1]; rfl) | (rw [cellAt h.2.2]; rfl)

set_option maxHeartbeats 8000000 in
theorem rsameK_any (x y : Cm) (u v : Value) (w : World) (hu : PR w u x.ps) (hv : PR w v y.ps) (hxl : x.ps.length ≤ 1000000) (hyl : y.ps.length ≤ 1000000) :
    Calls Tryz.prog 32 #[cmV x u, cmV y v] w fun e w' => e = .returned (.bool (sameK x y)) ∧ Below w.heap.size w w' := by
  obtain ⟨xv, xa, xs⟩ := x
  obtain ⟨yv, ya, ys⟩ := y
  obtain ⟨A, c, rfl⟩ := hu.form
  obtain ⟨B, d, rfl⟩ := hv.form
  dsimp only at hu hv hxl hyl
  have HU := Lib.hid hu
  have HV := Lib.hid hv
  obtain ⟨X, hX⟩ : ∃ X, X = (w.alloc (.cells #[.int .u8 (xv : Int), sv xa, .slice A xs.length c] 61)).alloc (.cells #[.int .u8 (yv : Int), sv ya, .slice B ys.length d] 61) := ⟨_, rfl⟩
  have HQ := Lib.hid (show BQ2 w ⟨xv, xa, xs⟩ ⟨yv, ya, ys⟩ (.slice A xs.length c) (.slice B ys.length d) X by
    rw [hX]
    refine ⟨((Below.refl _ _).alloc (Nat.le_refl _) _).alloc (by simp) _, (Lib.alloc_old _ _ _ (by simp)).trans (heap_alloc_new w _), ?_⟩
    have := heap_alloc_new (w.alloc (.cells #[.int .u8 (xv : Int), sv xa, .slice A xs.length c] 61)) (.cells #[.int .u8 (yv : Int), sv ya, .slice B ys.length d] 61)
    rwa [World.size_alloc] at this)
  have HXX := Lib.hid hX
  obtain ⟨⟨c0, c1, c2⟩, d0, d1, d2⟩ := HQ.out.all
  rw [hX] at c0 c1 c2 d0 d1 d2
  clear hu hv hX
  by_cases h1 : xv = yv
  · subst h1
    by_cases h2 : xa = ya
    · subst h2
      by_cases h3 : xs.length = ys.length
      · have g3 : ((xs.length : Int) != (ys.length : Int)) = false := by simp; omega
        have H3 := Lib.hid h3
        clear h3
        go_enter Tryz.func32, Tryz.ntmps32
        go_wp2_with fail
        rw [← HXX.out]
        clear c0 c1 c2 d0 d1 d2
        go_loopw [5] (fun i W => ∃ k : Nat, k ≤ xs.length ∧ i = .int .i64 k ∧ (∀ j, j < k → xs.getD j pm0 = ys.getD j pm0) ∧ BQ2 w ⟨xv, xa, xs⟩ ⟨xv, xa, ys⟩ (.slice A xs.length c) (.slice B ys.length d) W) (fun i _ => xs.length - (intOf i).toNat)
        case atStart => exact ⟨0, by omega, rfl, (fun j h => absurd h (Nat.not_lt_zero j)), HQ.out⟩
        case round =>
          obtain ⟨k, hk, rfl, hup, hq⟩ := hrel
          have HUP := Lib.hid hup
          have HK := Lib.hid hq
          clear hup hq
          obtain ⟨⟨c0, c1, c2⟩, d0, d1, d2⟩ := HK.out.all
          by_cases hlt : k < xs.length
          · have hlt2 : k < ys.length := by have := H3.out; omega
            obtain ⟨n1, e1⟩ : ∃ n, n = (xs.getD k pm0).1 := ⟨_, rfl⟩
            obtain ⟨n2, e2⟩ : ∃ n, n = (xs.getD k pm0).2 := ⟨_, rfl⟩
            obtain ⟨m1, e3⟩ : ∃ n, n = (ys.getD k pm0).1 := ⟨_, rfl⟩
            obtain ⟨m2, e4⟩ : ∃ n, n = (ys.getD k pm0).2 := ⟨_, rfl⟩
            obtain ⟨g, off, rfl, hg, q0, q1⟩ := (HU.out.step HK.out.1).at hlt
            obtain ⟨g', off', rfl, hg', r0, r1⟩ := (HV.out.step HK.out.1).at hlt2
            rw [← e1] at q0
            rw [← e2] at q1
            rw [← e3] at r0
            rw [← e4] at r1
            have HE := Lib.hid (show xs.getD k pm0 = (n1, n2) ∧ ys.getD k pm0 = (m1, m2) by rw [e1, e2, e3, e4]; exact ⟨rfl, rfl⟩)
            have hk2 : (k : Int) < (xs.length : Int) := by omega
            have hk3 : (k : Int) < (ys.length : Int) := by omega
            have hk4 : (0 : Int) ≤ (k : Int) := by omega
            clear e1 e2 e3 e4
            by_cases hsame : n1 = m1 ∧ n2 = m2
            · obtain ⟨rfl, rfl⟩ := hsame
              have HUP2 := Lib.hid (show ∀ j, j < k + 1 → xs.getD j pm0 = ys.getD j pm0 by
                intro j hj
                by_cases e : j = k
                · subst e; rw [HE.out.1, HE.out.2]
                · exact HUP.out j (by omega))
              go_wp2_with fail
              go_quiet (fail)
              all_goals (try go_wp2)
              all_goals go_roundw
              all_goals first | (case rel => exact ⟨k + 1, by omega, by go_num, HUP2.out, HK.out.step (below_drewN (Below.refl _ _) _)⟩) | skip
              all_goals first | (case measure => simp [intOf]; omega) | skip
            · have HN := Lib.hid (show false = sameK ⟨xv, xa, xs⟩ ⟨xv, xa, ys⟩ by
                symm
                rw [Bool.eq_false_iff]
                intro h
                have := (sameK_iff _ _).1 h
                injection this with _ _ h3
                rw [h3] at HE
                have := HE.out.1.symm.trans HE.out.2
                injection this with i1 i2
                exact hsame ⟨i1, i2⟩)
              by_cases hnm : n1 = m1
              · subst hnm
                have hxy : ¬ n2 = m2 := fun e => hsame ⟨rfl, e⟩
                have e1 : (n2 == m2) = false := by simpa using hxy
                have e2 : (n2 != m2) = true := by simpa using hxy
                clear hsame hxy
                go_wp2_with fail
                go_quiet (fail)
                all_goals (try go_wp2)
                all_goals go_ret
                all_goals exact ⟨by rw [← HN.out]; rfl, (HK.out.step (below_drewN (Below.refl _ _) _)).1⟩
              · have e1 : (n1 == m1) = false := by simpa using hnm
                have e2 : (n1 != m1) = true := by simpa using hnm
                clear hsame hnm
                go_wp2_with fail
                go_quiet (fail)
                all_goals (try go_wp2)
                all_goals go_ret
                all_goals exact ⟨by rw [← HN.out]; rfl, (HK.out.step (below_drewN (Below.refl _ _) _)).1⟩
          · obtain rfl : k = xs.length := by omega
            have HN := Lib.hid (show true = sameK ⟨xv, xa, xs⟩ ⟨xv, xa, ys⟩ by
              symm
              rw [sameK_iff]
              rw [rowsP_eq H3.out HUP.out])
            go_wp2
            go_ret
            exact ⟨by rw [← HN.out]; rfl, HK.out.1⟩
      · have g3 : ((xs.length : Int) != (ys.length : Int)) = true := by simp; omega
        have HN := Lib.hid (show false = sameK ⟨xv, xa, xs⟩ ⟨xv, xa, ys⟩ by
          symm
          rw [Bool.eq_false_iff]
          intro h
          have := (sameK_iff _ _).1 h
          injection this with _ _ h4
          rw [h4] at h3
          exact h3 rfl)
        clear h3
        go_enter Tryz.func32, Tryz.ntmps32
        go_wp2
        go_ret
        exact ⟨by rw [← HN.out]; rfl, by rw [← HXX.out]; exact HQ.out.1⟩
    · have g2 : (xa == ya) = false := by simpa using h2
      have HN := Lib.hid (show false = sameK ⟨xv, xa, xs⟩ ⟨xv, ya, ys⟩ by
        symm
        rw [Bool.eq_false_iff]
        intro h
        have := (sameK_iff _ _).1 h
        injection this with _ h4 _
        exact h2 h4)
      clear h2
      go_enter Tryz.func32, Tryz.ntmps32
      go_wp2
      go_ret
      exact ⟨by rw [← HN.out]; rfl, by rw [← HXX.out]; exact HQ.out.1⟩
  · have g1 : ((xv : Int) != (yv : Int)) = true := by simp; omega
    have HN := Lib.hid (show false = sameK ⟨xv, xa, xs⟩ ⟨yv, ya, ys⟩ by
      symm
      rw [Bool.eq_false_iff]
      intro h
      have := (sameK_iff _ _).1 h
      injection this with h4 _ _
      exact h1 h4)
    clear h1
    go_enter Tryz.func32, Tryz.ntmps32
    go_wp2
    go_ret
    exact ⟨by rw [← HN.out]; rfl, by rw [← HXX.out]; exact HQ.out.1⟩
end Go.Proofs.YtbmjmiioobgbfaaGreatDoor

namespace Go.Proofs.YtbmjmiioobgbfaaGreatDoor
open Go Go.RowKit Go.Shelf
set_option maxRecDepth 100000
set_option linter.unusedSimpArgs false
set_option linter.unusedVariables false

theorem wpList_app {P : Program} {ops : Array Oper} {rest : List Oper} {o : Oper} {a : Act} {w w' : World} {Q : Exit → Act → World → Prop} {v v' xv : Value}
    (hg : o.guard = none) (s x : Operand) (t : TypeId) (hop : o.op = Op.call { callee := Callee.builtin Builtin.append, args := #[s, x], argTypes := #[t, t] }) (hs : a.eval s = v) (hx : a.eval x = xv)
    (hrun : (Builtin.append_ #[t, t] o.type #[v, xv]).run P w = .ok v' w') (hK : wpList P ops Q rest (a.put o.dst v') w') : wpList P ops Q (o :: rest) a w :=
  wpList_plain hg fun K hK' => by
    unfold Oper.wp execOp
    simp only [hop, resolve, invoke, builtin, Sem.run_bind, Sem.run_pure, Result.andThen_ok, List.map_toArray, List.map_cons, List.map_nil, hs, hx, hrun]
    exact hK' _ _ hK

/-! ### What Mail adds may be -/
theorem env_val : ∀ c : UInt8, evC c = true → vlC c = true := by
  intro c
  have key : ∀ n : _root_.Fin 256, evC (UInt8.ofNat n) = true → vlC (UInt8.ofNat n) = true := by decide +kernel
  have := key ⟨c.toNat, UInt8.toNat_lt c⟩
  simpa using this
theorem dig_val : ∀ c : UInt8, digC c = true → vlC c = true := by
  intro c
  have key : ∀ n : _root_.Fin 256, digC (UInt8.ofNat n) = true → vlC (UInt8.ofNat n) = true := by decide +kernel
  have := key ⟨c.toNat, UInt8.toNat_lt c⟩
  simpa using this
theorem dg_digit : ∀ d, d < 10 → digC (dg d) = true := by decide
theorem dec_digits (u : Nat) : ∀ b ∈ Lib.decDigits u, digC b = true := by
  induction u using Nat.strongRecOn with
  | ind u ih =>
    intro b hb
    rw [decHd] at hb
    rcases List.mem_append.1 hb with h | h
    · by_cases h10 : u < 10
      · rw [decHead_small h10] at h; cases h
      · unfold decHead at h
        rw [if_neg h10] at h
        exact ih (u / 10) (by omega) b h
    · obtain rfl : b = dg (u % 10) := by simpa using h
      exact dg_digit _ (Nat.mod_lt _ (by omega))
theorem itoa_val {n : Int} (h : 0 ≤ n) : vlL (Lib.itoa n) = true := by
  unfold vlL
  rw [List.all_eq_true]
  intro b hb
  unfold Lib.itoa at hb
  rw [if_neg (by omega)] at hb
  exact dig_val b (dec_digits _ b hb)
theorem envid_val {s : List UInt8} (h : envC s = true) : vlL s = true := by
  unfold vlL
  rw [List.all_eq_true]
  intro b hb
  unfold envC at h
  rw [Bool.and_eq_true] at h
  exact env_val b (List.all_eq_true.1 h.2 b hb)
theorem ps_mail (sz rt dsn : Bool) {size : Int} (req : Bool) {env : List UInt8} (h0 : 0 ≤ size) (he : envC env = true) : psL (mailPs sz rt dsn (Lib.itoa size) req env) = true := by
  have e1 : pL (wSZ, Lib.itoa size) = true := by
    have h : pnL wSZ = true := by decide
    show (pnL wSZ && vlL (Lib.itoa size)) = true
    rw [h, itoa_val h0]; rfl
  have e2 : pL (wRT, []) = true := by decide
  have e3 : pL (wEN, env) = true := by
    have h : pnL wEN = true := by decide
    show (pnL wEN && vlL env) = true
    rw [h, envid_val he]; rfl
  unfold mailPs
  generalize (rt && req) = b2
  generalize (dsn && !env.isEmpty) = b3
  cases sz <;> cases b2 <;> cases b3 <;> simp [psL, optP, e1, e2, e3] <;> decide
theorem ps_rcpt (b : Bool) : psL (optP b (wNO, wNV)) = true := by cases b <;> decide
theorem mail_may (c : Cp) (f : List UInt8) {size : Int} (req : Bool) {env : List UInt8} (h0 : 0 ≤ size) (he : envC env = true) : mayK (mailC c f size req env) = mayK ⟨3, f, []⟩ := by
  have e1 := ps_mail c.sz c.rq c.ds req h0 he
  have e2 : psL [] = true := by decide
  unfold mailC mayK
  simp only [e1, e2]
theorem rcpt_may (c : Cp) (f : List UInt8) (never : Bool) : mayK (rcptC c f never) = mayK ⟨4, f, []⟩ := by
  have e1 := ps_rcpt (c.ds && never)
  have e2 : psL [] = true := by decide
  unfold rcptC mayK
  simp only [e1, e2]

/-- What the reference's makers leave. -/
def MqPost (w : World) (r : Cm × Nat) (e : Ending) (w' : World) : Prop := ∃ u, e = .returned (.tuple #[cmV r.1 u, .int .i64 (r.2 : Int)]) ∧ Below w.heap.size w w' ∧ PR w' u r.1.ps
theorem mq_none {w W : World} {n0 : Nat} {f : Func} {p u : Tmp} {tmps : Array Value} {r : Cm × Nat} (hres : f.results = #[.cell p 61, .tmp u]) (hn : w.heap.size ≤ n0) (hr : r = (cm0, 4)) (hb : Below w.heap.size w W) (hz : W.heap[n0]? = some (.cells zC 61 (0, 0)))
    (hp : tmps.getD p undef = .pointer (some ⟨n0, 0, none⟩)) (hu : tmps.getD u undef = .int .i64 4) :
    bodyPost Tryz.prog f (MqPost w r) .ret { tmps := tmps, defers := [] } (((W.setCell ⟨n0, 0, none⟩ (.int .u8 0)).setCell ⟨n0, 1, none⟩ (sv [])).setCell ⟨n0, 2, none⟩ (.slice none 0 0)) := by
  subst hr
  have hh : (((W.setCell ⟨n0, 0, none⟩ (.int .u8 0)).setCell ⟨n0, 1, none⟩ (sv [])).setCell ⟨n0, 2, none⟩ (.slice none 0 0)).heap[n0]? = some (.cells zC 61 (0, 0)) := by
    simp [World.setCell, Array.getElem?_modify, hz]
  have hb3 := ((hb.setCell (p := ⟨n0, 0, none⟩) hn (.int .u8 0)).setCell (p := ⟨n0, 1, none⟩) hn (sv [])).setCell (p := ⟨n0, 2, none⟩) hn (.slice none 0 0)
  refine bodyPost_ret (v := .tuple #[.agg zC, .int .i64 4]) ?_ rfl ⟨.slice none 0 0, rfl, hb3, PR.nil _ _ _⟩
  rw [results_row_tmp (p := p) (u := u) (fr := (0, 0)) hres tmps _ n0 61 zC _ hp hh Tryz.underlying61 rfl (by kernel_rfl), hu]
theorem mq_made {w W : World} {n0 B : Nat} {f : Func} {p q : Tmp} {tmps : Array Value} {r : Cm × Nat} {c : Cm} {u : Value} (hres : f.results = #[.cell p 61, .tmp q]) (hn : w.heap.size ≤ n0) (hB : n0 < B) (hr : r = (c, 0)) (hb : Below w.heap.size w W) (hz : W.heap[n0]? = some (.cells zC 61 (0, 0)))
    (hpo : PO 95 B W u c.ps) (hp : tmps.getD p undef = .pointer (some ⟨n0, 0, none⟩)) (hu : tmps.getD q undef = .int .i64 0) :
    bodyPost Tryz.prog f (MqPost w r) .ret { tmps := tmps, defers := [] } (((W.setCell ⟨n0, 0, none⟩ (.int .u8 (c.verb : Int))).setCell ⟨n0, 1, none⟩ (sv c.arg)).setCell ⟨n0, 2, none⟩ u) := by
  subst hr
  have hh : (((W.setCell ⟨n0, 0, none⟩ (.int .u8 (c.verb : Int))).setCell ⟨n0, 1, none⟩ (sv c.arg)).setCell ⟨n0, 2, none⟩ u).heap[n0]? = some (.cells #[.int .u8 (c.verb : Int), sv c.arg, u] 61 (0, 0)) := by
    simp [World.setCell, Array.getElem?_modify, hz]
  have hb3 := ((hb.setCell (p := ⟨n0, 0, none⟩) hn (.int .u8 (c.verb : Int))).setCell (p := ⟨n0, 1, none⟩) hn (sv c.arg)).setCell (p := ⟨n0, 2, none⟩) hn u
  refine bodyPost_ret (v := .tuple #[cmV c u, .int .i64 0]) ?_ rfl ⟨u, rfl, hb3, (hpo.put3 hB _ _ _).pr⟩
  rw [results_row_tmp (p := p) (u := q) (fr := (0, 0)) hres tmps _ n0 61 _ _ hp hh Tryz.underlying61 rfl (by kernel_rfl), hu]

/-- The three boxes that the makers begin by: what the peer can, the answer, the command. -/
def W3 (w : World) (c : Cp) (v : Int) (f : List UInt8) : World := ((w.alloc (.cells (cpL c) 71)).alloc (.cells zC 61)).alloc (.cells #[.int .u8 v, sv f, .slice none 0 0] 61)
theorem w3_is (w : World) (c : Cp) (v : Int) (f : List UInt8) :
    XD (W3 w c v f) (w.heap.size + 3) (w.heap.size + 2) (.int .u8 v) (sv f) (.slice none 0 0) [] (W3 w c v f) ∧ (W3 w c v f).heap[w.heap.size]? = some (.cells (cpL c) 71 (0, 0)) ∧
    (W3 w c v f).heap[w.heap.size + 1]? = some (.cells zC 61 (0, 0)) ∧ Below w.heap.size w (W3 w c v f) := by
  unfold W3
  refine ⟨⟨Below.refl _ _, ⟨by omega, by simp⟩, ?_, PO.nil _ _ _⟩, ?_, ?_, ?_⟩
  · have := heap_alloc_new ((w.alloc (.cells (cpL c) 71)).alloc (.cells zC 61)) (.cells #[.int .u8 v, sv f, .slice none 0 0] 61)
    simpa using this
  · exact (Lib.alloc_old _ _ _ (by simp; omega)).trans ((Lib.alloc_old _ _ _ (by simp)).trans (heap_alloc_new w _))
  · refine (Lib.alloc_old _ _ _ (by simp)).trans ?_
    have := heap_alloc_new (w.alloc (.cells (cpL c) 71)) (.cells zC 61)
    simpa using this
  · exact (((Below.refl _ _).alloc (Nat.le_refl _) _).alloc (by simp) _).alloc (by simp; omega) _
theorem cp7R {W : World} {g : Nat} {c : Cp} (h : W.heap[g]? = some (.cells (cpL c) 71 (0, 0))) : W.cell? ⟨g, 2, none⟩ = some (.bool c.rq) ∧ W.cell? ⟨g, 3, none⟩ = some (.bool c.ds) ∧ W.cell? ⟨g, 5, none⟩ = some (.bool c.sz) :=
  ⟨by rw [cellAt h]; rfl, by rw [cellAt h]; rfl, by rw [cellAt h]; rfl⟩
/-- All that the makers' walks read, in a world behind. -/
structure QX (w : World) (c : Cp) (v : Int) (f : List UInt8) (u : Value) (ps : List PM) (W : World) : Prop where
  xd : XD (W3 w c v f) (w.heap.size + 3) (w.heap.size + 2) (.int .u8 v) (sv f) u ps W
theorem QX.all {w W : World} {c : Cp} {v : Int} {f : List UInt8} {u : Value} {ps : List PM} (h : QX w c v f u ps W) :
    (W.cell? ⟨w.heap.size, 2, none⟩ = some (.bool c.rq) ∧ W.cell? ⟨w.heap.size, 3, none⟩ = some (.bool c.ds) ∧ W.cell? ⟨w.heap.size, 5, none⟩ = some (.bool c.sz)) ∧
    (W.cell? ⟨w.heap.size + 2, 0, none⟩ = some (.int .u8 v) ∧ W.cell? ⟨w.heap.size + 2, 1, none⟩ = some (sv f) ∧ W.cell? ⟨w.heap.size + 2, 2, none⟩ = some u ∧ W.frozen? ⟨w.heap.size + 2, 2, none⟩ = false) ∧
    (w.heap.size < W.heap.size ∧ w.heap.size + 1 < W.heap.size ∧ w.heap.size + 2 < W.heap.size) := by
  obtain ⟨_, h1, h2, _⟩ := w3_is w c v f
  have hb := (h.xd.bel.block w.heap.size (by omega)).trans h1
  have hb1 := (h.xd.bel.block (w.heap.size + 1) (by omega)).trans h2
  exact ⟨cp7R hb, h.xd.m3, lt_of_blk hb, lt_of_blk hb1, lt_of_blk h.xd.mm⟩
theorem QX.res {w W : World} {c : Cp} {v : Int} {f : List UInt8} {u : Value} {ps : List PM} (h : QX w c v f u ps W) : W.heap[w.heap.size + 1]? = some (.cells zC 61 (0, 0)) :=
  (h.xd.bel.block (w.heap.size + 1) (by omega)).trans (w3_is w c v f).2.2.1
theorem QX.below {w W : World} {c : Cp} {v : Int} {f : List UInt8} {u : Value} {ps : List PM} (h : QX w c v f u ps W) : Below w.heap.size w W := (w3_is w c v f).2.2.2.trans (h.xd.bel.mono (by omega))
theorem QX.step {w W W' : World} {c : Cp} {v : Int} {f : List UInt8} {u : Value} {ps : List PM} (h : QX w c v f u ps W) (hb : Below W.heap.size W W') : QX w c v f u ps W' := ⟨h.xd.step hb⟩
theorem QX.drew {w W : World} {c : Cp} {v : Int} {f : List UInt8} {u : Value} {ps : List PM} (h : QX w c v f u ps W) : QX w c v f u ps W.drew := ⟨h.xd.drew⟩
theorem QX.start (w : World) (c : Cp) (v : Int) (f : List UInt8) : QX w c v f (.slice none 0 0) [] (W3 w c v f) := ⟨(w3_is w c v f).1⟩
theorem QX.app {w W : World} {c : Cp} {v : Int} {f : List UInt8} {u : Value} {ps : List PM} (h : QX w c v f u ps W) (n x : List UInt8) (hl : ps.length ≤ 1000000) :
    ∃ g cap w2, (Builtin.append_ #[59, 59] 59 #[u, .slice (some ⟨W.heap.size, 0, none⟩) 1 1]).run Tryz.prog (W.alloc (.cells #[sv n, sv x] 95)) = .ok (.slice (some ⟨g, 0, none⟩) (ps.length + 1) cap) w2 ∧
      w2.cell? ⟨w.heap.size + 2, 2, none⟩ = some u ∧ w2.frozen? ⟨w.heap.size + 2, 2, none⟩ = false ∧ w.heap.size + 2 < w2.heap.size ∧
      QX w c v f (.slice (some ⟨g, 0, none⟩) (ps.length + 1) cap) (ps ++ [(n, x)]) (w2.setCell ⟨w.heap.size + 2, 2, none⟩ (.slice (some ⟨g, 0, none⟩) (ps.length + 1) cap)) := by
  obtain ⟨g, cap, w2, h1, h2, h3, h4, h5⟩ := h.xd.app n x hl
  exact ⟨g, cap, w2, h1, h2, h3, h4, ⟨h5⟩⟩

theorem set_alloc (W : World) (p : Addr) (v : Value) (o : Obj) (h : p.block < W.heap.size) : (W.setCell p v).alloc o = (W.alloc o).setCell p v := by
  have e : ∀ f : Obj → Obj, (W.heap.modify p.block f).push o = (W.heap.push o).modify p.block f := fun f => by
    apply Array.ext
    · simp
    · intro i h1 h2
      simp only [Array.getElem_push, Array.getElem_modify, Array.size_modify]
      by_cases e1 : i < W.heap.size
      · simp [e1]
      · have : p.block ≠ i := by omega
        simp [e1, this]
  unfold World.setCell World.alloc
  rw [e]
theorem QX.lit {w W : World} {c : Cp} {v : Int} {f : List UInt8} (h : QX w c v f (.slice none 0 0) [] W) (n x : List UInt8) :
    QX w c v f (.slice (some ⟨W.heap.size, 0, none⟩) 1 1) [(n, x)] ((W.alloc (.cells #[sv n, sv x] 95)).setCell ⟨w.heap.size + 2, 2, none⟩ (.slice (some ⟨W.heap.size, 0, none⟩) 1 1)) := by
  obtain ⟨h1, h2, h3, h4⟩ := h.xd
  have hm := lt_of_blk h3
  have hnew : (W.alloc (.cells #[sv n, sv x] 95)).heap[W.heap.size]? = some (.cells #[sv n, sv x] 95 (0, 0)) := heap_alloc_new _ _
  refine ⟨⟨(h1.alloc (by omega) _).setCell (p := ⟨w.heap.size + 2, 2, none⟩) (Nat.le_refl _) _, ⟨h2.1, by simp [World.setCell]; omega⟩, ?_, ?_⟩⟩
  · have : (W.alloc (.cells #[sv n, sv x] 95)).heap[w.heap.size + 2]? = some (.cells #[.int .u8 v, sv f, .slice none 0 0] 61 (0, 0)) := (Lib.alloc_old _ _ _ hm).trans h3
    simp [World.setCell, Array.getElem?_modify, this]
  · have hp : PO 95 (w.heap.size + 3) (W.alloc (.cells #[sv n, sv x] 95)) (.slice (some ⟨W.heap.size, 0, none⟩) 1 1) [(n, x)] :=
      ⟨by simp [flatP], .inr ⟨W.heap.size, 1, #[sv n, sv x], rfl, h2.2, hnew, Nat.le_refl _, by decide, rfl, by simp [flatP]⟩⟩
    exact hp.set (b := w.heap.size + 2) (i := 2) (fun g e => by simp [Value.ownBlock] at e; omega) _

set_option maxHeartbeats 8000000 in
theorem rrcptK_any (c : Cp) (tq : List UInt8) (never : Bool) (w : World) (ht : tq.length ≤ 1000000) :
    Calls Tryz.prog 35 #[sv tq, .agg (cpL c), .bool never] w (MqPost w (rcptK c tq never)) := by
  have HQ := Lib.hid (QX.start w c 4 tq)
  have hM := rmayK_any ⟨4, tq, []⟩ (.slice none 0 0) (W3 w c 4 tq) (PR.nil _ _ _) (by show 4 < 256; omega) ht (by simp) (by simp)
  obtain ⟨m, hm⟩ : ∃ m, mayK ⟨4, tq, []⟩ = m := ⟨_, rfl⟩
  rw [hm] at hM
  have HMM := Lib.hid hM
  obtain ⟨b, hb⟩ : ∃ b, (c.ds && never) = b := ⟨_, rfl⟩
  have HR := Lib.hid (show rcptK c tq never = if m then (⟨4, tq, optP b (wNO, wNV)⟩, 0) else (cm0, 4) by
    unfold rcptK
    rw [rcpt_may, hm, ← hb]; rfl)
  clear hM hm
  go_enter Tryz.func35, Tryz.ntmps35
  go_wp2_with fail
  change Calls _ _ _ (W3 w c 4 tq) _
  refine HMM.out.mono ?_
  rintro e w1 ⟨rfl, hb1⟩
  have HQ1 := Lib.hid (HQ.out.step hb1)
  obtain ⟨⟨c1, c2, c3⟩, ⟨m0, m1, m2, m3⟩, l0, l1, l2⟩ := HQ1.out.all
  obtain ⟨r0, r1, r2, r3, r4, r5⟩ := z3R HQ1.out.res
  clear hb1 HMM
  cases m with
  | false =>
    go_wp2_with fail
    exact mq_none Tryz.results35 (Nat.le_succ _) (by rw [HR.out]; rfl) HQ1.out.below HQ1.out.res rfl rfl
  | true =>
    obtain ⟨d, hd⟩ : ∃ d, d = c.ds := ⟨_, rfl⟩
    rw [← hd] at hb c2
    have HBB := Lib.hid hb
    clear hd hb
    cases d
    · have e := HBB.out
      simp only [Bool.false_and] at e
      subst e
      go_wp2_with fail
      exact mq_made Tryz.results35 (Nat.le_succ _) (show w.heap.size + 1 < w.heap.size + 3 by omega) (by rw [HR.out]; rfl) HQ1.out.below HQ1.out.res (c := ⟨4, tq, []⟩) HQ1.out.xd.own rfl rfl
    · cases never
      · have e := HBB.out
        simp only [Bool.and_false] at e
        subst e
        go_wp2_with fail
        exact mq_made Tryz.results35 (Nat.le_succ _) (show w.heap.size + 1 < w.heap.size + 3 by omega) (by rw [HR.out]; rfl) HQ1.out.below HQ1.out.res (c := ⟨4, tq, []⟩) HQ1.out.xd.own rfl rfl
      · have e := HBB.out
        simp only [Bool.and_true] at e
        subst e
        go_wp2_with fail
        rw [show w.heap.size + 1 + 1 = w.heap.size + 2 from rfl]
        obtain ⟨o, ho⟩ : ∃ o, o = (Obj.cells #[sv wNO, sv wNV] 95) := ⟨_, rfl⟩
        have hQ := HQ1.out.lit wNO wNV
        change bodyPost _ _ _ _ _ (((((w1.setCell ⟨w.heap.size + 2, 2, none⟩ (.slice (some ⟨w1.heap.size, 0, none⟩) 1 1)).setCell ⟨w.heap.size + 1, 0, none⟩ (.int .u8 4)).setCell ⟨w.heap.size + 1, 1, none⟩ (sv tq)).setCell ⟨w.heap.size + 1, 2, none⟩ (.slice (some ⟨w1.heap.size, 0, none⟩) 1 1)).alloc (.cells #[sv wNO, sv wNV] 95))
        rw [set_alloc _ _ _ _ (by simp [World.setCell]; omega), set_alloc _ _ _ _ (by simp [World.setCell]; omega), set_alloc _ _ _ _ (by simp [World.setCell]; omega), set_alloc _ _ _ _ (by simpa using l2)]
        exact mq_made Tryz.results35 (Nat.le_succ _) (show w.heap.size + 1 < w.heap.size + 3 by omega) (by rw [HR.out]; rfl) hQ.below hQ.res (c := ⟨4, tq, [(wNO, wNV)]⟩) hQ.xd.own rfl rfl
end Go.Proofs.YtbmjmiioobgbfaaGreatDoor
