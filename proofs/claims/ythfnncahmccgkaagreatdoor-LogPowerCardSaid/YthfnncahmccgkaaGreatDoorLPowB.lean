/-
  What LogPower asks of the plain log: Sync leaves what a log has; a failing Begin, a failing Add, and the Boot behind it.
-/
import Derived.Test.YthfnncahmccgkaaGreatDoorLThings
namespace Go.Proofs.YthfnncahmccgkaaGreatDoor
open Go Go.RowKit Go.Maps
set_option maxRecDepth 100000
set_option linter.unusedSimpArgs false
set_option linter.unusedVariables false

theorem LI.sync {S : DS} {l : LS} {put oth : List (List UInt8)} (h : LI S l put oth) : LI S.sync l put oth ∧ Dry S.sync ∧ S.sync.ops ≤ S.ops + 1 ∧ S.sync.was.length = S.was.length ∧ S.offE = 0 ∧ S.sync.Ok := by
  obtain ⟨h1, h2, h3, h4, h5⟩ := On.sync (n := S.was.length) ⟨h.on, h.lf, rfl⟩ h.ok
  have hk : S.sync.Ok := by
    rw [DS.sync_eq h.ok h.on]
    have hnl := h.ok.hn
    refine DS.Ok.did ⟨?_, ?_, ?_, ?_, ?_, ?_, ?_, ?_⟩
    · show 1 ≤ S.now.length; rw [hnl]; exact h.ok.n1
    · show S.now.length ≤ 1024; rw [hnl]; exact h.ok.n2
    · rfl
    · show (List.replicate S.was.length false).length = S.now.length; simp [hnl]
    · exact h.ok.l2
    · exact h.ok.l2
    · exact fun i _ => rfl
    · exact h.ok.lf
  have hs : ∀ k, hsec S.sync k = hsec S k := fun k => by unfold hsec; rw [h5, h1.len]
  refine ⟨⟨hk, h1.on, h1.lf, by rw [h1.len]; exact h.lo, h.lon, ?_, h.used, by rw [h5]; exact h.top, by rw [hs]; exact h.other⟩, h4, h2, h1.len, h3, hk⟩
  obtain ⟨r, e1, e2⟩ := h.sec
  exact ⟨r, by rw [hs]; exact e1, e2⟩
theorem has_fail (S : DS) (a half age : Int) (L : List (List UInt8)) : HasB (S.fail a) half age L ↔ HasB S half age L := Iff.rfl
theorem pow_beg {S : DS} {k age : Nat} {oth : List (List UInt8)} (h : LI S (newL (k : Int) (age : Int)) [] oth) (hd : Dry S) (hmay : mayH (k : Int) (age : Int) = true) {s : List UInt8} (hf : manyN s.length ≤ S.was.length / 2) {a : Nat} (h1 : 1 ≤ a) (h2 : a ≤ manyN s.length) (keep : List Int) :
    begE (S.fail (a : Int)) (k : Int) (age : Int) s ≠ 41 ∧ (begS (S.fail (a : Int)) (k : Int) (age : Int) s).off = true ∧ PW ((begS (S.fail (a : Int)) (k : Int) (age : Int) s).boot keep) S.was.length (newL (k : Int) (age : Int)) [] s oth := by
  have hfull : lfull S (newL (k : Int) (age : Int)) s = false := by
    show decide (S.was.length / 2 < 0 + manyN s.length) = false
    rw [decide_eq_false_iff_not]; omega
  have hfull2 : lfull (S.fail (a : Int)) (newL (k : Int) (age : Int)) s = false := hfull
  obtain ⟨g1, _, g3⟩ := power h hd hfull h1 h2 keep
  have e : begS (S.fail (a : Int)) (k : Int) (age : Int) s = (lwr (S.fail (a : Int)) (newL (k : Int) (age : Int)) s).1 := by
    rw [begS, if_pos hmay, lwrS, if_neg (by rw [hfull2]; simp)]
  rw [e]
  refine ⟨?_, g1, g3⟩
  rw [begE, if_pos hmay, lwrE, if_neg (by rw [hfull2]; simp)]
  split <;> decide
theorem pow_beg_full {S : DS} {k age : Nat} {s : List UInt8} (hmay : mayH (k : Int) (age : Int) = true) (hf : ¬ manyN s.length ≤ S.was.length / 2) (a : Int) :
    begE (S.fail a) (k : Int) (age : Int) s = 41 := by
  rw [begE, if_pos hmay, lwrE, if_pos (by show decide (S.was.length / 2 < 0 + manyN s.length) = true; rw [decide_eq_true_eq]; omega)]
theorem pow_add {S : DS} {l : LS} {put oth : List (List UInt8)} (h : LI S l put oth) (hd : Dry S) {s : List UInt8} (hf : manyN s.length ≤ S.was.length / 2 - l.used) {a : Nat} (h1 : 1 ≤ a) (h2 : a ≤ manyN s.length) (keep : List Int) :
    (addS (S.fail (a : Int)) l s).off = true ∧ PW ((addS (S.fail (a : Int)) l s).boot keep) S.was.length l put s oth := by
  have hm1 := manyN_pos s.length
  have hfull : lfull S l s = false := by
    simp only [lfull, decide_eq_false_iff_not]; omega
  have hfull2 : lfull (S.fail (a : Int)) l s = false := hfull
  obtain ⟨g1, _, g3⟩ := power h hd hfull h1 h2 keep
  have e : addS (S.fail (a : Int)) l s = (lwr (S.fail (a : Int)) l s).1 := by
    rw [addS, if_neg (by rw [h.lon]; simp), lwrS, if_neg (by rw [hfull2]; simp)]
  rw [e]
  exact ⟨g1, g3⟩
theorem pow_add_full {S : DS} {l : LS} {put oth : List (List UInt8)} (h : LI S l put oth) {s : List UInt8} (hf : ¬ manyN s.length ≤ S.was.length / 2 - l.used) (a : Int) :
    addE (S.fail a) l s = 41 ∧ addS (S.fail a) l s = S.fail a := by
  have hm1 := manyN_pos s.length
  have hus := h.lo.us
  have hfull : lfull (S.fail a) l s = true := by
    show decide (S.was.length / 2 < l.used + manyN s.length) = true
    rw [decide_eq_true_eq]; omega
  constructor
  · rw [addE, if_neg (by rw [h.lon]; simp), lwrE, if_pos hfull]
  · rw [addS, if_neg (by rw [h.lon]; simp), lwrS, if_pos hfull]
end Go.Proofs.YthfnncahmccgkaaGreatDoor
