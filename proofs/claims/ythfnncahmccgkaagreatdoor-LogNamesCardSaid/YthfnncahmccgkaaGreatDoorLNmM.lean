/-
  What LogPower asks of the plain log: Sync leaves what a log has; a failing Begin, a failing Add, and the Boot behind it.
  A power cut whose sectors are told one by one; a Boot that keeps the whole of what was dirty.
  The plain facts behind LogNames.
  The plain facts behind LogNames, the rest: a disk of one sector; a log over a copy.
-/
import Derived.Test.YthfnncahmccgkaaGreatDoorLThings
import Derived.Test.YthfnncahmccgkaaGreatDoorLInM
namespace Go.Proofs.YthfnncahmccgkaaGreatDoor
open Go Go.RowKit Go.Maps
set_option maxRecDepth 100000
set_option linter.unusedSimpArgs false
set_option linter.unusedVariables false

theorem LI.sync {S : DS} {l : LS} {put oth : List (List UInt8)} (h : LI S l put oth) : LI S.sync l put oth ∧ Dry S.sync ∧ S.sync.ops ≤ S.ops + 1 ∧ S.sync.was.length = S.was.length ∧ S.offE = 0 ∧ S.sync.Ok := by
  obtain ⟨h1, h2, h3, h4, h5⟩ := On.sync (n := S.was.length) ⟨h.on, h.lf, rfl⟩ h.ok
  have hk : S.sync.Ok := by
    rw [DS.sync_eq h.ok h.on]
    have hnl := h.ok.hn
    refine DS.Ok.did ⟨?_, ?_, ?_, ?_, ?_, ?_, ?_, ?_⟩
    · show 1 ≤ S.now.length; rw [hnl]; exact h.ok.n1
    · show S.now.length ≤ 1024; rw [hnl]; exact h.ok.n2
    · rfl
    · show (List.replicate S.was.length false).length = S.now.length; simp [hnl]
    · exact h.ok.l2
    · exact h.ok.l2
    · exact fun i _ => rfl
    · exact h.ok.lf
  have hs : ∀ k, hsec S.sync k = hsec S k := fun k => by unfold hsec; rw [h5, h1.len]
  refine ⟨⟨hk, h1.on, h1.lf, by rw [h1.len]; exact h.lo, h.lon, ?_, h.used, by rw [h5]; exact h.top, by rw [hs]; exact h.other⟩, h4, h2, h1.len, h3, hk⟩
  obtain ⟨r, e1, e2⟩ := h.sec
  exact ⟨r, by rw [hs]; exact e1, e2⟩
theorem has_fail (S : DS) (a half age : Int) (L : List (List UInt8)) : HasB (S.fail a) half age L ↔ HasB S half age L := Iff.rfl
theorem pow_beg {S : DS} {k age : Nat} {oth : List (List UInt8)} (h : LI S (newL (k : Int) (age : Int)) [] oth) (hd : Dry S) (hmay : mayH (k : Int) (age : Int) = true) {s : List UInt8} (hf : manyN s.length ≤ S.was.length / 2) {a : Nat} (h1 : 1 ≤ a) (h2 : a ≤ manyN s.length) (keep : List Int) :
    begE (S.fail (a : Int)) (k : Int) (age : Int) s ≠ 41 ∧ (begS (S.fail (a : Int)) (k : Int) (age : Int) s).off = true ∧ PW ((begS (S.fail (a : Int)) (k : Int) (age : Int) s).boot keep) S.was.length (newL (k : Int) (age : Int)) [] s oth := by
  have hfull : lfull S (newL (k : Int) (age : Int)) s = false := by
    show decide (S.was.length / 2 < 0 + manyN s.length) = false
    rw [decide_eq_false_iff_not]; omega
  have hfull2 : lfull (S.fail (a : Int)) (newL (k : Int) (age : Int)) s = false := hfull
  obtain ⟨g1, _, g3⟩ := power h hd hfull h1 h2 keep
  have e : begS (S.fail (a : Int)) (k : Int) (age : Int) s = (lwr (S.fail (a : Int)) (newL (k : Int) (age : Int)) s).1 := by
    rw [begS, if_pos hmay, lwrS, if_neg (by rw [hfull2]; simp)]
  rw [e]
  refine ⟨?_, g1, g3⟩
  rw [begE, if_pos hmay, lwrE, if_neg (by rw [hfull2]; simp)]
  split <;> decide
theorem pow_beg_full {S : DS} {k age : Nat} {s : List UInt8} (hmay : mayH (k : Int) (age : Int) = true) (hf : ¬ manyN s.length ≤ S.was.length / 2) (a : Int) :
    begE (S.fail a) (k : Int) (age : Int) s = 41 := by
  rw [begE, if_pos hmay, lwrE, if_pos (by show decide (S.was.length / 2 < 0 + manyN s.length) = true; rw [decide_eq_true_eq]; omega)]
theorem pow_add {S : DS} {l : LS} {put oth : List (List UInt8)} (h : LI S l put oth) (hd : Dry S) {s : List UInt8} (hf : manyN s.length ≤ S.was.length / 2 - l.used) {a : Nat} (h1 : 1 ≤ a) (h2 : a ≤ manyN s.length) (keep : List Int) :
    (addS (S.fail (a : Int)) l s).off = true ∧ PW ((addS (S.fail (a : Int)) l s).boot keep) S.was.length l put s oth := by
  have hm1 := manyN_pos s.length
  have hfull : lfull S l s = false := by
    simp only [lfull, decide_eq_false_iff_not]; omega
  have hfull2 : lfull (S.fail (a : Int)) l s = false := hfull
  obtain ⟨g1, _, g3⟩ := power h hd hfull h1 h2 keep
  have e : addS (S.fail (a : Int)) l s = (lwr (S.fail (a : Int)) l s).1 := by
    rw [addS, if_neg (by rw [h.lon]; simp), lwrS, if_neg (by rw [hfull2]; simp)]
  rw [e]
  exact ⟨g1, g3⟩
theorem pow_add_full {S : DS} {l : LS} {put oth : List (List UInt8)} (h : LI S l put oth) {s : List UInt8} (hf : ¬ manyN s.length ≤ S.was.length / 2 - l.used) (a : Int) :
    addE (S.fail a) l s = 41 ∧ addS (S.fail a) l s = S.fail a := by
  have hm1 := manyN_pos s.length
  have hus := h.lo.us
  have hfull : lfull (S.fail a) l s = true := by
    show decide (S.was.length / 2 < l.used + manyN s.length) = true
    rw [decide_eq_true_eq]; omega
  constructor
  · rw [addE, if_neg (by rw [h.lon]; simp), lwrE, if_pos hfull]
  · rw [addS, if_neg (by rw [h.lon]; simp), lwrS, if_pos hfull]
end Go.Proofs.YthfnncahmccgkaaGreatDoor

namespace Go.Proofs.YthfnncahmccgkaaGreatDoor
open Go Go.RowKit Go.Maps
set_option maxRecDepth 100000
set_option linter.unusedSimpArgs false
set_option linter.unusedVariables false

theorem power_core {S T : DS} {l : LS} {put oth : List (List UInt8)} (h : LI S l put oth) {s : List UInt8} (hroom : l.used + manyN s.length ≤ S.was.length / 2) {k : Nat} (hk2 : k ≤ manyN s.length) (hTok : T.Ok) (b1 : T.off = false) (b2 : T.left = 0) (b3 : T.was.length = S.was.length)
    (hin : ∀ i, i < k → ∃ c, c ≤ 128 ∧ T.now.getD (lfst S.was.length l.half + l.used + i) [] = mixL c (secL l.age l.used (recL s) i) (S.now.getD (lfst S.was.length l.half + l.used + i) []))
    (hout : ∀ j, ¬ (lfst S.was.length l.half + l.used ≤ j ∧ j < lfst S.was.length l.half + l.used + k) → T.now.getD j [] = S.now.getD j []) : PW T S.was.length l put s oth := by
  have hmb := manyN_lt s.length
  have hus := h.lo.us
  have hn2 := h.ok.n2
  have hle := lfst_le (n := S.was.length) h.lo.hh
  have hnl := h.ok.hn
  have hTl : T.now.length = S.was.length := by rw [hTok.hn, b3]
  obtain ⟨rest, hs1, hs2⟩ := h.sec
  have hHl := hsec_length h.ok h.lo.hh
  have hcl := catL_length l.age 0 put
  rw [h.used] at hcl
  have hg : ∀ h2 j, j < S.was.length / 2 → (hsec T h2)[j]? = T.now[lfst S.was.length h2 + j]? := fun h2 j hj => by rw [hsec_get (by rw [b3]; exact hj), b3]
  have hsl : ∀ h2, h2 < 2 → (hsec T h2).length = S.was.length / 2 := fun h2 hh2 => by rw [hsec_length hTok hh2, b3]
  have get_some : ∀ {l : List (List UInt8)} {j : Nat}, j < l.length → l[j]? = some (l.getD j []) := fun {l j} hj => by rw [List.getD_eq_getElem?_getD, List.getElem?_eq_getElem hj]; rfl
  -- the old ones behind the records
  have hold : ∀ i, l.used + i < S.was.length / 2 → oldL (S.now.getD (lfst S.was.length l.half + l.used + i) []) < l.age := by
    intro i hi
    refine hs2 _ (List.mem_of_getElem? (i := i) ?_)
    have e : (hsec S l.half)[l.used + i]? = rest[i]? := by rw [hs1, List.getElem?_append_right (by omega), hcl, Nat.add_sub_cancel_left]
    rw [← e, hsec_get hi, ← Nat.add_assoc]
    have := lfst_le (n := S.was.length) h.lo.hh
    exact get_some (by rw [hnl]; omega)
  -- the half
  have hD : hsec T l.half = catL l.age 0 put ++ (hsec T l.half).drop l.used := by
    have : (hsec T l.half).take l.used = catL l.age 0 put := by
      refine List.ext_getElem? fun j => ?_
      by_cases hj : j < l.used
      · rw [List.getElem?_take_of_lt hj, hg _ _ (by omega), get_some (by rw [hTl]; omega), hout _ (by omega), ← get_some (by rw [hnl]; omega), ← hsec_get (by omega), hs1, List.getElem?_append_left (by omega)]
      · rw [List.getElem?_eq_none (by simp; omega), List.getElem?_eq_none (by omega)]
    rw [← this, List.take_append_drop]
  have htorn : ∀ i x, ((hsec T l.half).drop l.used)[i]? = some x → oldL x < l.age ∨ (i < manyN s.length ∧ ∃ c y, c ≤ 128 ∧ y.length = 128 ∧ oldL y < l.age ∧ x = mixL c (secL l.age l.used (recL s) i) y) := by
    intro i x hx
    rw [List.getElem?_drop] at hx
    have hi : l.used + i < S.was.length / 2 := by
      have := (List.getElem?_eq_some_iff.1 hx).1
      rw [hsl _ h.lo.hh] at this
      exact this
    rw [hg _ _ hi, get_some (by rw [hTl]; omega), ← Nat.add_assoc] at hx
    have hx' := Option.some.inj hx
    by_cases hik : i < k
    · obtain ⟨c, hc, he⟩ := hin i hik
      refine .inr ⟨by omega, c, _, hc, ?_, hold i hi, by rw [← hx', he]⟩
      exact h.ok.now_len (by omega)
    · rw [hout _ (by omega)] at hx'
      exact .inl (by rw [← hx']; exact hold i hi)
  have hle2 : ∀ x ∈ T.now, oldL x ≤ l.age := by
    intro x hx
    obtain ⟨j, hj, rfl⟩ := List.getElem_of_mem hx
    have ej : T.now[j] = T.now.getD j [] := by rw [List.getD_eq_getElem?_getD, List.getElem?_eq_getElem hj]; rfl
    rw [ej]
    by_cases hjk : lfst S.was.length l.half + l.used ≤ j ∧ j < lfst S.was.length l.half + l.used + k
    · obtain ⟨i, rfl⟩ : ∃ i, j = lfst S.was.length l.half + l.used + i := ⟨j - (lfst S.was.length l.half + l.used), by omega⟩
      obtain ⟨c, hc, he⟩ := hin i (by omega)
      rw [he]
      exact (torn_new (chL_length _ _) (h.ok.now_len (by omega)) hc h.lo.a2 (hold i (by omega))).2
    · rw [hout j hjk]
      exact h.top _ (List.mem_of_getElem? (get_some (by rw [hnl]; omega)))
  have hoth : hsec T (1 - l.half) = oth := by
    rw [← h.other]
    have hh := h.lo.hh
    refine List.ext_getElem? fun j => ?_
    by_cases hj : j < S.was.length / 2
    · have h2 := lfst_le (n := S.was.length) (show 1 - l.half < 2 by omega)
      rw [hg _ _ hj, hsec_get hj, get_some (by rw [hTl]; omega), hout _ ?_, ← get_some (by rw [hnl]; omega)]
      unfold lfst
      rcases (show l.half = 0 ∨ l.half = 1 by omega) with e | e <;> rw [e] <;> omega
    · rw [List.getElem?_eq_none (by rw [hsl _ (by omega)]; omega), List.getElem?_eq_none (by rw [hsec_length h.ok (by omega)]; omega)]
  obtain ⟨D, hDe⟩ : ∃ D, D = (hsec T l.half).drop l.used := ⟨_, rfl⟩
  rw [← hDe] at hD htorn
  have hu : l.used + manyN s.length ≤ 1024 := by omega
  refine ⟨hTok, b1, b2, b3, by rw [topL_eq]; exact topM_le.2 hle2, hoth, fun hp => ?_, fun hp => ?_⟩
  · by_cases hj : JoinIs D l.age l.used
    · obtain ⟨rest2, hr1, hr2⟩ := join_torn h.a hu htorn hj
      refine .inr (has_cat hTok b1 h.lo.hh h.a (by simp) (rest := rest2) ?_ (rest_none h.lo.a1 hr2 _))
      rw [hD, hr1, catL_snoc, Nat.zero_add, h.used, List.append_assoc]
    · exact .inl (has_cat hTok b1 h.lo.hh h.a hp hD (by rw [h.used]; exact (joinB_false hj).1))
  · subst hp
    have hu0 : l.used = 0 := by rw [← h.used]; rfl
    have hD0 : hsec T l.half = D := by rw [hD]; rfl
    rw [hu0] at htorn hu
    have hEon : scnE T (l.half : Int) = if scnR T l.half = [] then 5 else 0 := by
      rw [scnE, if_pos (by have := h.lo.hh; omega), if_neg (by rw [b1]; simp), Int.toNat_natCast]
    by_cases hr : scnR T l.half = []
    · exact .inl (by rw [hEon, if_pos hr])
    · rw [if_neg hr] at hEon
      refine .inr ⟨hEon, ?_⟩
      have hA : scnA T l.half = ageH D := by rw [scnA, hEon, if_pos rfl, Int.toNat_natCast, hD0]
      have hL : scnL T l.half = recs D (ageH D) := by rw [scnL, hEon, if_pos rfl, Int.toNat_natCast, scnR, hD0]
      rw [hA, hL]
      by_cases ha : ageH D = l.age
      · rw [ha]
        refine .inl ⟨rfl, ?_⟩
        have hDl : D.length ≤ 1024 := by rw [← hD0, hsl _ h.lo.hh]; omega
        by_cases hj : JoinIs D l.age (0 : Nat)
        · obtain ⟨rest2, hr1, hr2⟩ := join_torn h.a hu htorn hj
          refine recs_cat h.a (rest := rest2) ?_ hDl (rest_none h.lo.a1 hr2 _)
          rw [hr1, catL, Nat.zero_add]
          show _ = (_ ++ []) ++ rest2
          rw [List.append_nil]
        · exfalso
          refine hr ?_
          rw [scnR, hD0, ha]
          exact recs_cat h.a (ss := []) (rest := D) rfl hDl (joinB_false hj).1
      · refine .inr ?_
        have h0 : ageH D ≤ l.age := by
          unfold ageH
          cases hD1 : D[0]? with
          | none => rw [List.getD_eq_getElem?_getD, hD1]; show agL [] ≤ _; rw [agL_nil]; omega
          | some x =>
            rw [getD_of hD1]
            have hm : x ∈ T.now := by
              have : x ∈ hsec T l.half := by rw [hD0]; exact List.mem_of_getElem? hD1
              exact List.mem_of_mem_drop (List.mem_of_mem_take this)
            exact Nat.le_trans (agL_le x) (hle2 x hm)
        omega

/-- A record that is not whole is not there. -/
theorem power_less {S T : DS} {l : LS} {put oth : List (List UInt8)} (h : LI S l put oth) {s : List UInt8} (hroom : l.used + manyN s.length ≤ S.was.length / 2) {k : Nat} (hk2 : k < manyN s.length) (hp : put ≠ []) (hTok : T.Ok) (b1 : T.off = false) (b2 : T.left = 0) (b3 : T.was.length = S.was.length)
    (hin : ∀ i, i < k → ∃ c, c ≤ 128 ∧ T.now.getD (lfst S.was.length l.half + l.used + i) [] = mixL c (secL l.age l.used (recL s) i) (S.now.getD (lfst S.was.length l.half + l.used + i) []))
    (hout : ∀ j, ¬ (lfst S.was.length l.half + l.used ≤ j ∧ j < lfst S.was.length l.half + l.used + k) → T.now.getD j [] = S.now.getD j []) : HasB T l.half l.age put := by
  have hmb := manyN_lt s.length
  have hus := h.lo.us
  have hn2 := h.ok.n2
  have hle := lfst_le (n := S.was.length) h.lo.hh
  have hnl := h.ok.hn
  have hTl : T.now.length = S.was.length := by rw [hTok.hn, b3]
  obtain ⟨rest, hs1, hs2⟩ := h.sec
  have hHl := hsec_length h.ok h.lo.hh
  have hcl := catL_length l.age 0 put
  rw [h.used] at hcl
  have hg : ∀ h2 j, j < S.was.length / 2 → (hsec T h2)[j]? = T.now[lfst S.was.length h2 + j]? := fun h2 j hj => by rw [hsec_get (by rw [b3]; exact hj), b3]
  have hsl : ∀ h2, h2 < 2 → (hsec T h2).length = S.was.length / 2 := fun h2 hh2 => by rw [hsec_length hTok hh2, b3]
  have get_some : ∀ {l : List (List UInt8)} {j : Nat}, j < l.length → l[j]? = some (l.getD j []) := fun {l j} hj => by rw [List.getD_eq_getElem?_getD, List.getElem?_eq_getElem hj]; rfl
  -- the old ones behind the records
  have hold : ∀ i, l.used + i < S.was.length / 2 → oldL (S.now.getD (lfst S.was.length l.half + l.used + i) []) < l.age := by
    intro i hi
    refine hs2 _ (List.mem_of_getElem? (i := i) ?_)
    have e : (hsec S l.half)[l.used + i]? = rest[i]? := by rw [hs1, List.getElem?_append_right (by omega), hcl, Nat.add_sub_cancel_left]
    rw [← e, hsec_get hi, ← Nat.add_assoc]
    have := lfst_le (n := S.was.length) h.lo.hh
    exact get_some (by rw [hnl]; omega)
  -- the half
  have hD : hsec T l.half = catL l.age 0 put ++ (hsec T l.half).drop l.used := by
    have : (hsec T l.half).take l.used = catL l.age 0 put := by
      refine List.ext_getElem? fun j => ?_
      by_cases hj : j < l.used
      · rw [List.getElem?_take_of_lt hj, hg _ _ (by omega), get_some (by rw [hTl]; omega), hout _ (by omega), ← get_some (by rw [hnl]; omega), ← hsec_get (by omega), hs1, List.getElem?_append_left (by omega)]
      · rw [List.getElem?_eq_none (by simp; omega), List.getElem?_eq_none (by omega)]
    rw [← this, List.take_append_drop]
  have htorn : ∀ i x, ((hsec T l.half).drop l.used)[i]? = some x → oldL x < l.age ∨ (i < manyN s.length ∧ ∃ c y, c ≤ 128 ∧ y.length = 128 ∧ oldL y < l.age ∧ x = mixL c (secL l.age l.used (recL s) i) y) := by
    intro i x hx
    rw [List.getElem?_drop] at hx
    have hi : l.used + i < S.was.length / 2 := by
      have := (List.getElem?_eq_some_iff.1 hx).1
      rw [hsl _ h.lo.hh] at this
      exact this
    rw [hg _ _ hi, get_some (by rw [hTl]; omega), ← Nat.add_assoc] at hx
    have hx' := Option.some.inj hx
    by_cases hik : i < k
    · obtain ⟨c, hc, he⟩ := hin i hik
      refine .inr ⟨by omega, c, _, hc, ?_, hold i hi, by rw [← hx', he]⟩
      exact h.ok.now_len (by omega)
    · rw [hout _ (by omega)] at hx'
      exact .inl (by rw [← hx']; exact hold i hi)
  have hle2 : ∀ x ∈ T.now, oldL x ≤ l.age := by
    intro x hx
    obtain ⟨j, hj, rfl⟩ := List.getElem_of_mem hx
    have ej : T.now[j] = T.now.getD j [] := by rw [List.getD_eq_getElem?_getD, List.getElem?_eq_getElem hj]; rfl
    rw [ej]
    by_cases hjk : lfst S.was.length l.half + l.used ≤ j ∧ j < lfst S.was.length l.half + l.used + k
    · obtain ⟨i, rfl⟩ : ∃ i, j = lfst S.was.length l.half + l.used + i := ⟨j - (lfst S.was.length l.half + l.used), by omega⟩
      obtain ⟨c, hc, he⟩ := hin i (by omega)
      rw [he]
      exact (torn_new (chL_length _ _) (h.ok.now_len (by omega)) hc h.lo.a2 (hold i (by omega))).2
    · rw [hout j hjk]
      exact h.top _ (List.mem_of_getElem? (get_some (by rw [hnl]; omega)))
  have hoth : hsec T (1 - l.half) = oth := by
    rw [← h.other]
    have hh := h.lo.hh
    refine List.ext_getElem? fun j => ?_
    by_cases hj : j < S.was.length / 2
    · have h2 := lfst_le (n := S.was.length) (show 1 - l.half < 2 by omega)
      rw [hg _ _ hj, hsec_get hj, get_some (by rw [hTl]; omega), hout _ ?_, ← get_some (by rw [hnl]; omega)]
      unfold lfst
      rcases (show l.half = 0 ∨ l.half = 1 by omega) with e | e <;> rw [e] <;> omega
    · rw [List.getElem?_eq_none (by rw [hsl _ (by omega)]; omega), List.getElem?_eq_none (by rw [hsec_length h.ok (by omega)]; omega)]
  obtain ⟨D, hDe⟩ : ∃ D, D = (hsec T l.half).drop l.used := ⟨_, rfl⟩
  rw [← hDe] at hD htorn
  have hu : l.used + manyN s.length ≤ 1024 := by omega
  have hnj : ¬ JoinIs D l.age l.used := fun hj => by
    obtain ⟨rest2, hr1, _⟩ := join_torn h.a hu htorn hj
    have e1 : D[k]? = some (secL l.age l.used (recL s) k) := by rw [hr1, List.getElem?_append_left (by rw [rowL_length]; exact hk2), rowL_get hk2]
    have hi : l.used + k < S.was.length / 2 := by omega
    rw [hDe, List.getElem?_drop, hg _ _ hi, get_some (by rw [hTl]; omega), ← Nat.add_assoc, hout _ (by omega)] at e1
    have e2 := Option.some.inj e1
    have h1 := hold k hi
    rw [e2] at h1
    have h2 : oldL (secL l.age l.used (recL s) k) = l.age := old_row (p := l.used) (t := recL s) (n := manyN s.length) h.lo.a2 _ (List.mem_of_getElem? (i := k) (rowL_get hk2))
    omega
  exact has_cat hTok b1 h.lo.hh h.a hp hD (by rw [h.used]; exact (joinB_false hnj).1)
/-- A Boot that keeps all. -/
theorem boot_all {S : DS} (hS : S.Ok) (ho : S.off = true) (keep : List Int) (hk : ∀ r, r < (dirtyL S.wet).length → keptN keep r = 128) (j : Nat) (hj : j < S.was.length) : (S.boot keep).now.getD j [] = S.now.getD j [] := by
  have hb : (S.boot keep).now = (S.sts (keptN keep) (dirtyL S.wet) 0).now := by rw [DS.boot, if_pos ho]
  rw [hb]
  obtain ⟨h1, h2⟩ := DS.sts_at (kf := keptN keep) (dirtyL S.wet) 0 S (nodup_dirtyL _) hS hS.dirty j
  by_cases hm : j ∈ dirtyL S.wet
  · obtain ⟨k, hkk⟩ := List.getElem?_of_mem hm
    have hkl := (List.getElem?_eq_some_iff.1 hkk).1
    rw [(h2 k hkk).2.1, Nat.zero_add, hk k hkl]
    have l1 := hS.now_len hj
    have l2 := hS.was_len hj
    unfold spl
    rw [List.take_of_length_le (by omega), List.drop_of_length_le (by omega), List.append_nil]
  · exact (h1 hm).2.1
/-- What stands behind a write that power cut. -/
theorem crash {S : DS} {l : LS} {put oth : List (List UInt8)} (h : LI S l put oth) {s : List UInt8} (hf : lfull S l s = false) {k : Nat} (hk1 : 1 ≤ k) (hk2 : k ≤ manyN s.length) :
    (lwr (S.fail k) l s).1.Ok ∧ (lwr (S.fail k) l s).1.was = S.was ∧ (lwr (S.fail k) l s).1.now = over S.now (lfst S.was.length l.half + l.used) ((lrow l s).take k) ∧ (lwr (S.fail k) l s).1.wet = over S.wet (lfst S.was.length l.half + l.used) (List.replicate k true) ∧ (lwr (S.fail k) l s).1.off = true ∧
      (lwr (S.fail k) l s).1.ops = S.ops + k ∧ (lwr (S.fail k) l s).2 = decide (k = manyN s.length) := by
  have hmb := manyN_lt s.length
  have hroom := lfull_no hf
  have hus := h.lo.us
  have hn2 := h.ok.n2
  have hSk : (S.fail k).Ok := h.ok.fail (by omega)
  have hf1 : lfull (S.fail k) l s = false := hf
  obtain ⟨e1, e2⟩ := lwr_eq hSk h.lo (show (S.fail k).off = false from h.on) hf1
  have hkk : wrK (S.fail k) (manyN s.length) = k := by
    unfold wrK
    show (if 0 < (k : Int) then min (k : Int).toNat (manyN s.length) else manyN s.length) = k
    rw [if_pos (by omega)]; omega
  rw [hkk] at e1 e2
  have hok : (lwr (S.fail k) l s).1.Ok := by
    have := (lwrS_ok (s := s) hSk h.lo).1
    rw [lwrS, if_neg (by rw [hf1]; simp)] at this
    exact this
  refine ⟨hok, by rw [e1]; rfl, by rw [e1]; rfl, by rw [e1]; rfl, ?_, by rw [e1]; rfl, e2⟩
  rw [e1]
  show decide (0 < (k : Int) ∧ (k : Int) ≤ (manyN s.length : Nat)) = true
  simp; omega
/-- A power cut, and a Boot that keeps all that was dirty: what was put and not synced is there too. -/
theorem power_all {S : DS} {l : LS} {put oth : List (List UInt8)} (h : LI S l put oth) {s : List UInt8} (hf : lfull S l s = false) {k : Nat} (hk1 : 1 ≤ k) (hk2 : k ≤ manyN s.length) (keep : List Int)
    (hk : ∀ r, r < (dirtyL (over S.wet (lfst S.was.length l.half + l.used) (List.replicate k true))).length → keptN keep r = 128) : PW ((lwr (S.fail k) l s).1.boot keep) S.was.length l put s oth := by
  obtain ⟨g1, g2, g3, g4, g5, _, _⟩ := crash h hf hk1 hk2
  obtain ⟨T1, hT1⟩ : ∃ T1, T1 = (lwr (S.fail k) l s).1 := ⟨_, rfl⟩
  rw [← hT1] at g1 g2 g3 g4 g5 ⊢
  obtain ⟨b1, b2, b3⟩ := boot_facts g5 keep
  have hroom := lfull_no hf
  have hle := lfst_le (n := S.was.length) h.lo.hh
  have hnl := h.ok.hn
  have hall := boot_all g1 g5 keep (by rw [g4]; exact hk)
  have htl : ((lrow l s).take k).length = k := by rw [List.length_take, lrow_length]; omega
  rw [g2] at b3 hall
  refine power_core h hroom hk2 (g1.boot keep) b1 b2 b3 (fun i hi => ⟨128, Nat.le_refl _, ?_⟩) (fun j hj => ?_)
  · have hjl : lfst S.was.length l.half + l.used + i < S.was.length := by omega
    rw [hall _ hjl]
    have hx : T1.now.getD (lfst S.was.length l.half + l.used + i) [] = secL l.age l.used (recL s) i := by
      rw [g3]
      refine getD_of ?_
      rw [over_get (by rw [htl]; omega), if_pos (by rw [htl]; omega), Nat.add_sub_cancel_left, List.getElem?_take_of_lt hi]
      exact rowL_get (by omega)
    rw [hx]
    have l1 : (secL l.age l.used (recL s) i).length = 128 := by rw [← hx]; exact g1.now_len (by rw [g2]; exact hjl)
    have l2 := h.ok.now_len hjl
    unfold mixL
    rw [List.take_of_length_le (by omega), List.drop_of_length_le (by omega), List.append_nil]
  · rcases Nat.lt_or_ge j S.was.length with hj2 | hj2
    · rw [hall j hj2, g3, List.getD_eq_getElem?_getD, over_get (by rw [htl]; omega), if_neg (by rw [htl]; exact hj), ← List.getD_eq_getElem?_getD]
    · have e1 : (T1.boot keep).now.length ≤ j := by rw [(g1.boot keep).hn, b3]; exact hj2
      rw [List.getD_eq_getElem?_getD, List.getElem?_eq_none e1, List.getD_eq_getElem?_getD, List.getElem?_eq_none (by omega)]
/-- A power cut, and a Boot that keeps all that was dirty: what was put and not synced is there too. -/
theorem power_all_less {S : DS} {l : LS} {put oth : List (List UInt8)} (h : LI S l put oth) {s : List UInt8} (hf : lfull S l s = false) {k : Nat} (hk1 : 1 ≤ k) (hk2' : k < manyN s.length) (hp : put ≠ []) (keep : List Int)
    (hk : ∀ r, r < (dirtyL (over S.wet (lfst S.was.length l.half + l.used) (List.replicate k true))).length → keptN keep r = 128) : HasB ((lwr (S.fail k) l s).1.boot keep) l.half l.age put := by
  have hk2 : k ≤ manyN s.length := by omega
  obtain ⟨g1, g2, g3, g4, g5, _, _⟩ := crash h hf hk1 hk2
  obtain ⟨T1, hT1⟩ : ∃ T1, T1 = (lwr (S.fail k) l s).1 := ⟨_, rfl⟩
  rw [← hT1] at g1 g2 g3 g4 g5 ⊢
  obtain ⟨b1, b2, b3⟩ := boot_facts g5 keep
  have hroom := lfull_no hf
  have hle := lfst_le (n := S.was.length) h.lo.hh
  have hnl := h.ok.hn
  have hall := boot_all g1 g5 keep (by rw [g4]; exact hk)
  have htl : ((lrow l s).take k).length = k := by rw [List.length_take, lrow_length]; omega
  rw [g2] at b3 hall
  refine power_less h hroom hk2' hp (g1.boot keep) b1 b2 b3 (fun i hi => ⟨128, Nat.le_refl _, ?_⟩) (fun j hj => ?_)
  · have hjl : lfst S.was.length l.half + l.used + i < S.was.length := by omega
    rw [hall _ hjl]
    have hx : T1.now.getD (lfst S.was.length l.half + l.used + i) [] = secL l.age l.used (recL s) i := by
      rw [g3]
      refine getD_of ?_
      rw [over_get (by rw [htl]; omega), if_pos (by rw [htl]; omega), Nat.add_sub_cancel_left, List.getElem?_take_of_lt hi]
      exact rowL_get (by omega)
    rw [hx]
    have l1 : (secL l.age l.used (recL s) i).length = 128 := by rw [← hx]; exact g1.now_len (by rw [g2]; exact hjl)
    have l2 := h.ok.now_len hjl
    unfold mixL
    rw [List.take_of_length_le (by omega), List.drop_of_length_le (by omega), List.append_nil]
  · rcases Nat.lt_or_ge j S.was.length with hj2 | hj2
    · rw [hall j hj2, g3, List.getD_eq_getElem?_getD, over_get (by rw [htl]; omega), if_neg (by rw [htl]; exact hj), ← List.getD_eq_getElem?_getD]
    · have e1 : (T1.boot keep).now.length ≤ j := by rw [(g1.boot keep).hn, b3]; exact hj2
      rw [List.getD_eq_getElem?_getD, List.getElem?_eq_none e1, List.getD_eq_getElem?_getD, List.getElem?_eq_none (by omega)]
end Go.Proofs.YthfnncahmccgkaaGreatDoor

namespace Go.Proofs.YthfnncahmccgkaaGreatDoor
open Go Go.RowKit Go.Maps
set_option maxRecDepth 100000
set_option linter.unusedSimpArgs false
set_option linter.unusedVariables false

def abcL : List UInt8 := [97, 98, 99]
def z110 : List UInt8 := List.replicate 110 0
def z300 : List UInt8 := List.replicate 300 0
structure NmA (S1 S2 S3 : DS) (l1 l2 : LS) : Prop where
  b : begE (DS.new 7) 0 4294967295 abcL = 0
  bs : begS (DS.new 7) 0 4294967295 abcL = S1
  bl : begL (DS.new 7) 0 4294967295 abcL = l1
  ops1 : S1.ops = 1
  top1 : topZ S1 = 4294967295
  n1 : S1.was.length = 7
  k1 : l1.Ok 7
  sc1 : scnE (S1.fail 1) 0 = 0
  e300 : addE (S1.fail 1) l1 z300 = 41
  s300 : addS (S1.fail 1) l1 z300 = S1.fail 1
  l300 : addL (S1.fail 1) l1 z300 = l1
  e110 : addE (S1.fail 1) l1 z110 = 42
  s110 : addS (S1.fail 1) l1 z110 = S2
  l110 : addL (S1.fail 1) l1 z110 = l2
  n2 : S2.was.length = 7
  o2 : S2.ops = 2
  k2 : l2.Ok 7
  off2 : S2.off = true
  loff : l2.off = true
  room : 7 / 2 - l2.used = 2
  sc2 : scnE S2 0 = 42
  tp2 : topE S2 = 42
  b2 : begE S2 1 5 [] = 42
  bs2 : begS S2 1 5 [] = S2
  be : S2.bootE = 0
  bt : S2.boot [128, 128] = S3
  n3 : S3.was.length = 7
  o3 : S3.ops = 2
  hs : HasB S3 0 4294967295 [abcL]
theorem nmA : ∃ S1 S2 S3 l1 l2, NmA S1 S2 S3 l1 l2 := by
  have m3 : manyN abcL.length = 1 := by decide
  have m110 : manyN z110.length = 2 := by simp [z110, manyN]
  have m300 : manyN z300.length = 3 := by simp [z300, manyN]
  have m0 : manyN ([] : List UInt8).length = 1 := by decide
  have hok := DS.Ok.new (n := 7) (by omega) (by omega)
  have hl7 : (DS.new 7).was.length = 7 := by decide +kernel
  rcases LI.begin (S := DS.new 7) hok rfl (by decide) (half := 0) (age := 4294967295) (by decide) (by rw [topL_new]; decide) abcL with ⟨_, b, h1, b1, b2, b3, b4, b5, b6⟩ | ⟨hn, _⟩
  · obtain ⟨S1, hS1⟩ : ∃ S, S = begS (DS.new 7) 0 4294967295 abcL := ⟨_, rfl⟩
    obtain ⟨L1, hL1⟩ : ∃ l, l = lwrL (DS.new 7) (newL 0 4294967295) abcL := ⟨_, rfl⟩
    have hwet : S1.wet = over (DS.new 7).wet 0 (List.replicate 1 true) := by
      rw [hS1, begS, if_pos (by decide), lwrS, if_neg (by decide +kernel)]
      obtain ⟨e, _⟩ := lwr_eq (S := DS.new 7) (l := newL 0 4294967295) (s := abcL) hok (newL_ok (by decide) _) rfl (by decide +kernel)
      rw [e]
      rfl
    rw [← hS1, ← hL1] at h1
    rw [← hL1] at b1 b2 b3
    rw [← hS1] at b4 b5 b6
    have n1 : S1.was.length = 7 := by rw [b6]; exact hl7
    have u1 : L1.used = 1 := by rw [b3, m3]
    have hh1 : L1.half = 0 := b1
    have ha1 : L1.age = 4294967295 := b2
    have hk1 : L1.Ok 7 := by have := h1.lo; rwa [n1] at this
    have hf : lfull S1 L1 z110 = false := by
      show decide (S1.was.length / 2 < L1.used + manyN z110.length) = false
      rw [n1, u1, m110]; decide
    have hfF : lfull (S1.fail 1) L1 z110 = false := hf
    have hb : HasB S1 L1.half L1.age [abcL] := h1.has (by simp)
    rw [hh1, ha1] at hb
    obtain ⟨f1, f2⟩ := pow_add_full h1 (s := z300) (by rw [n1, u1, m300]; decide) 1
    obtain ⟨g1, g2, g3, g4, g5, g6, g7⟩ := crash h1 (s := z110) hf (k := 1) (Nat.le_refl _) (by rw [m110]; decide)
    have hnoff : ¬ (L1.off = true) := by rw [h1.lon]; simp
    have eS : addS (S1.fail 1) L1 z110 = (lwr (S1.fail (1 : Nat)) L1 z110).1 := by rw [addS, if_neg hnoff, lwrS, if_neg (by rw [hfF]; simp)]; rfl
    have g7' : (lwr (S1.fail 1) L1 z110).2 = false := by rw [show (S1.fail 1) = S1.fail (1 : Nat) from rfl, g7, m110]; decide
    have eE : addE (S1.fail 1) L1 z110 = 42 := by rw [addE, if_neg hnoff, lwrE, if_neg (by rw [hfF]; simp), g7']; rfl
    have eL : addL (S1.fail 1) L1 z110 = { L1 with off := true } := by rw [addL, if_neg hnoff, lwrL, if_neg (by rw [hfF]; simp), g7']; rfl
    have hPW := power_all_less h1 (s := z110) hf (k := 1) (Nat.le_refl _) (by rw [m110]; decide) (by simp) [128, 128] (by
      rw [hwet, n1, hh1, u1]
      have e : (dirtyL (over (over (DS.new 7).wet 0 (List.replicate 1 true)) (lfst 7 0 + 1) (List.replicate 1 true))).length = 2 := by decide +kernel
      rw [e]
      intro r hr
      rcases (show r = 0 ∨ r = 1 by omega) with rfl | rfl <;> decide)
    obtain ⟨T, hT⟩ : ∃ T, T = (lwr (S1.fail (1 : Nat)) L1 z110).1 := ⟨_, rfl⟩
    rw [← hT] at eS g1 g2 g3 g4 g5 g6 hPW
    have nT : T.was.length = 7 := by rw [g2]; exact n1
    have hbt := boot_facts g5 [128, 128]
    have oT : T.ops = 2 := by rw [g6, b4, m3]; rfl
    have hlf2 : lfull T (newL 1 5) [] = false := by
      show decide (T.was.length / 2 < 0 + manyN ([] : List UInt8).length) = false
      rw [nT, m0]; decide
    have hw2 : lwr T (newL 1 5) [] = (T, false) := wrs_off g5 (by rw [lrow_length, m0]; decide)
    refine ⟨S1, T, T.boot [128, 128], L1, { L1 with off := true }, ⟨b, hS1.symm, hL1.symm, ?_, ?_, n1, hk1, ?_, f1, f2, ?_, eE, eS, eL, nT, oT, ⟨hk1.hh, hk1.a1, hk1.a2, hk1.us⟩, g5, rfl, by show 7 / 2 - L1.used = 2; rw [u1], ?_, ?_, ?_, ?_, ?_, rfl, by rw [hbt.2.2]; exact nT, ?_, ?_⟩⟩
    · rw [b4, m3]; rfl
    · rw [topZ, h1.on, if_neg (by simp), h1.topIs (by simp), ha1]; rfl
    · exact hb.1
    · rw [addL, if_neg hnoff, lwrL, if_pos (by show decide (S1.was.length / 2 < L1.used + manyN z300.length) = true; rw [n1, u1, m300]; decide)]
    · rw [scnE, if_pos (by decide), if_pos g5]
    · rw [topE, if_pos g5]
    · rw [begE, if_pos (by decide), lwrE, if_neg (by rw [hlf2]; simp), hw2]; rfl
    · rw [begS, if_pos (by decide), lwrS, if_neg (by rw [hlf2]; simp), hw2]
    · rw [DS.bootE, if_pos g5]
    · rw [DS.boot, if_pos g5]
      show (T.sts (keptN [128, 128]) (dirtyL T.wet) 0).ops = 2
      rw [(DS.sts_same _ _ _).1, oT]
    · rw [hh1, ha1] at hPW; exact hPW
  · rw [m3, hl7] at hn; omega
end Go.Proofs.YthfnncahmccgkaaGreatDoor

namespace Go.Proofs.YthfnncahmccgkaaGreatDoor
open Go Go.RowKit Go.Maps
set_option maxRecDepth 100000
set_option linter.unusedSimpArgs false
set_option linter.unusedVariables false

structure NmO : Prop where
  b : begE (DS.new 1) 0 1 [] = 41
  bs : begS (DS.new 1) 0 1 [] = DS.new 1
  sc : scnE (DS.new 1) 1 = 5
  tp : topZ (DS.new 1) = 0
  sc7 : scnE (DS.new 7) 2 = 1
theorem nmO : NmO := by
  have m0 : manyN ([] : List UInt8).length = 1 := by decide
  have hok := DS.Ok.new (n := 1) (by omega) (by omega)
  have hl : (DS.new 1).was.length = 1 := by decide +kernel
  rcases LI.begin (S := DS.new 1) hok rfl (by decide) (half := 0) (age := 1) (by decide) (by rw [topL_new]; decide) [] with ⟨hn, _⟩ | ⟨_, b, h1⟩
  · rw [m0, hl] at hn; omega
  · exact ⟨b, h1, scn_none rfl (half := 1) (by omega) (ageH_new 1 1), by rw [topZ, if_neg (by decide), topL_new]; rfl, by rw [scnE, if_neg (by decide)]⟩
theorem beg_bad (S : DS) {h a : Int} (hm : mayH h a = false) (s : List UInt8) : begE S h a s = 1 ∧ begS S h a s = S := by
  have hm' : ¬ (mayH h a = true) := by rw [hm]; simp
  exact ⟨by rw [begE, if_neg hm'], by rw [begS, if_neg hm']⟩
structure NmB (S4 S5 S6 : DS) (l4 l5 l6 : LS) : Prop where
  b : begE (DS.new 8) 0 7 [115] = 0
  bs : begS (DS.new 8) 0 7 [115] = S4
  bl : begL (DS.new 8) 0 7 [115] = l4
  n4 : S4.was.length = 8
  o4 : S4.ops = 1
  k4 : l4.Ok 8
  er : addE S4 l4 [114] = 0
  sr : addS S4 l4 [114] = S5
  lr : addL S4 l4 [114] = l5
  n5 : S5.was.length = 8
  k5 : l5.Ok 8
  r5 : 8 / 2 - l5.used = 2
  r4 : 8 / 2 - l4.used = 3
  et : addE S4 l4 [116] = 0
  st : addS S4 l4 [116] = S6
  lt : addL S4 l4 [116] = l6
  h4 : HasB S4 0 7 [[115]]
  h5 : HasB S5 0 7 [[115], [114]]
  h6 : HasB S6 0 7 [[115], [116]]
theorem nmB : ∃ S4 S5 S6 l4 l5 l6, NmB S4 S5 S6 l4 l5 l6 := by
  have m1 : manyN [(115 : UInt8)].length = 1 := by decide
  have m2 : manyN [(114 : UInt8)].length = 1 := by decide
  have m3 : manyN [(116 : UInt8)].length = 1 := by decide
  have hok := DS.Ok.new (n := 8) (by omega) (by omega)
  have hl : (DS.new 8).was.length = 8 := by decide +kernel
  rcases LI.begin (S := DS.new 8) hok rfl (by decide) (half := 0) (age := 7) (by decide) (by rw [topL_new]; decide) [115] with ⟨_, b, h1, b1, b2, b3, b4, b5, b6⟩ | ⟨hn, _⟩
  · obtain ⟨S4, hS⟩ : ∃ S, S = begS (DS.new 8) 0 7 [115] := ⟨_, rfl⟩
    obtain ⟨L4, hL⟩ : ∃ l, l = lwrL (DS.new 8) (newL 0 7) [115] := ⟨_, rfl⟩
    rw [← hS, ← hL] at h1
    rw [← hL] at b1 b2 b3
    rw [← hS] at b4 b5 b6
    have n4 : S4.was.length = 8 := by rw [b6]; exact hl
    have u4 : L4.used = 1 := by rw [b3, m1]
    have hh : L4.half = 0 := b1
    have ha : L4.age = 7 := b2
    have hk : L4.Ok 8 := by have := h1.lo; rwa [n4] at this
    rcases h1.add [114] with ⟨_, a, h2, a1, a2, a3, a4, a5, a6⟩ | ⟨hn, _⟩
    · rcases h1.add [116] with ⟨_, c, h3, c1, c2, c3, c4, c5, c6⟩ | ⟨hn, _⟩
      · have n5 : (addS S4 L4 [114]).was.length = 8 := by rw [a6]; exact n4
        have p4 := h1.has (by simp)
        have p5 := h2.has (by simp)
        have p6 := h3.has (by simp)
        rw [hh, ha] at p4
        rw [a1, a2, hh, ha] at p5
        rw [c1, c2, hh, ha] at p6
        exact ⟨S4, _, _, L4, _, _, ⟨b, hS.symm, hL.symm, n4, by rw [b4, m1]; rfl, hk, a, rfl, rfl, n5, by have := h2.lo; rwa [n5] at this, by rw [a3, u4, m2], by rw [u4], c, rfl, rfl, p4, p5, p6⟩⟩
      · rw [m3, n4, u4] at hn; omega
    · rw [m2, n4, u4] at hn; omega
  · rw [m1, hl] at hn; omega
end Go.Proofs.YthfnncahmccgkaaGreatDoor
