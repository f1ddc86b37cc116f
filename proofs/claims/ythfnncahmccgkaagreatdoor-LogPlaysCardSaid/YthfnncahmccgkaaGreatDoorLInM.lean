/-
  What stands behind a Begin and Adds; what is left of one in whose midst the power failed: plainly.
  What is left where the power failed in the midst of a record, behind a Boot: plainly.
-/
import Derived.Test.YthfnncahmccgkaaGreatDoorLPure
namespace Go.Proofs.YthfnncahmccgkaaGreatDoor
open Go Go.RowKit
set_option maxRecDepth 100000
set_option linter.unusedSimpArgs false
set_option linter.unusedVariables false

theorem over_app {α : Type} (A rest xs : List α) (h : xs.length ≤ rest.length) : over (A ++ rest) A.length xs = A ++ (xs ++ rest.drop xs.length) := by
  unfold over
  rw [List.take_left' rfl, ← List.drop_drop, List.drop_left' rfl]
theorem mem_over {α : Type} {l xs : List α} {a : Nat} {x : α} (h : x ∈ over l a xs) : x ∈ xs ∨ x ∈ l := by
  simp only [over, List.mem_append] at h
  rcases h with h | h | h
  · exact .inr (List.mem_of_mem_take h)
  · exact .inl h
  · exact .inr (List.mem_of_mem_drop h)
theorem lwr_eq {S : DS} {l : LS} {s : List UInt8} (hS : S.Ok) (hl : l.Ok S.was.length) (ho : S.off = false) (hf : lfull S l s = false) :
    (lwr S l s).1 = { S with now := over S.now (lfst S.was.length l.half + l.used) ((lrow l s).take (wrK S (manyN s.length))), wet := over S.wet (lfst S.was.length l.half + l.used) (List.replicate (wrK S (manyN s.length)) true), ops := S.ops + wrK S (manyN s.length), left := if 0 < S.left then S.left - wrK S (manyN s.length) else S.left, off := decide (0 < S.left ∧ S.left ≤ (manyN s.length : Nat)) } ∧
      (lwr S l s).2 = decide (wrK S (manyN s.length) = manyN s.length) := by
  have hin := lwr_in hl hf
  have h := wrs_eq (lrow l s) S (lfst S.was.length l.half + l.used) ho (by rw [hS.hn]; exact hin) (by rw [hS.hw, hS.hn])
  rw [lrow_length] at h
  exact h
/-- A half's sectors behind a write into it; the other half's. -/
theorem hsec_over {S T : DS} (hS : S.Ok) (hn : T.was.length = S.was.length) {half u : Nat} {xs : List (List UInt8)} (hh : half < 2) (hu : u + xs.length ≤ S.was.length / 2) (hT : T.now = over S.now (lfst S.was.length half + u) xs) :
    hsec T half = over (hsec S half) u xs ∧ ∀ h2, h2 < 2 → h2 ≠ half → hsec T h2 = hsec S h2 := by
  have hle := lfst_le (n := S.was.length) hh
  have hnl := hS.hn
  have hTl : T.now.length = S.was.length := by rw [hT, over_length (by omega), hnl]
  have hlen : ∀ h2, h2 < 2 → (hsec T h2).length = S.was.length / 2 := fun h2 hh2 => by
    have := lfst_le (n := S.was.length) hh2
    simp [hsec, hn, hTl]; omega
  have hget : ∀ h2 j, j < S.was.length / 2 → (hsec T h2)[j]? = T.now[lfst S.was.length h2 + j]? := fun h2 j hj => by
    rw [hsec, hn, List.getElem?_take_of_lt hj, List.getElem?_drop]
  constructor
  · refine List.ext_getElem? fun j => ?_
    have hSl := hsec_length hS hh
    by_cases hj : j < S.was.length / 2
    · rw [hget half j hj, hT, over_get (by omega), over_get (by omega), hsec_get hj]
      by_cases h1 : u ≤ j ∧ j < u + xs.length
      · rw [if_pos (by omega), if_pos h1]
        congr 1
        omega
      · rw [if_neg (by omega), if_neg h1]
    · rw [List.getElem?_eq_none (by rw [hlen half hh]; omega), List.getElem?_eq_none (by rw [over_length (by omega), hSl]; omega)]
  · intro h2 hh2 hne
    refine List.ext_getElem? fun j => ?_
    by_cases hj : j < S.was.length / 2
    · rw [hget h2 j hj, hsec_get hj, hT, over_get (by omega), if_neg]
      unfold lfst
      rcases (show (h2 = 0 ∧ half = 1) ∨ (h2 = 1 ∧ half = 0) by omega) with ⟨rfl, rfl⟩ | ⟨rfl, rfl⟩ <;> omega
    · rw [List.getElem?_eq_none (by rw [hlen h2 hh2]; omega), List.getElem?_eq_none (by rw [hsec_length hS hh2]; omega)]

/-- What a log has behind its records. -/
structure LI (S : DS) (l : LS) (put : List (List UInt8)) (oth : List (List UInt8)) : Prop where
  ok : S.Ok
  on : S.off = false
  lf : S.left ≤ 0
  lo : l.Ok S.was.length
  lon : l.off = false
  sec : ∃ rest, hsec S l.half = catL l.age 0 put ++ rest ∧ ∀ x ∈ rest, oldL x < l.age
  used : catN put = l.used
  top : ∀ x ∈ S.now, oldL x ≤ l.age
  other : hsec S (1 - l.half) = oth
theorem LI.a {S : DS} {l : LS} {put oth : List (List UInt8)} (h : LI S l put oth) : 1 ≤ l.age ∧ l.age < 4294967296 := ⟨h.lo.a1, h.lo.a2⟩
theorem old_row {age p : Nat} {t : List UInt8} {n : Nat} (ha : age < 4294967296) : ∀ x ∈ rowL age p t n, oldL x = age := by
  intro x hx
  simp only [rowL, List.mem_map] at hx
  obtain ⟨i, _, rfl⟩ := hx
  exact old_frL ha (chL_length _ _)
theorem LI.write {S : DS} {l : LS} {put oth : List (List UInt8)} (h : LI S l put oth) {s : List UInt8} (hf : lfull S l s = false) :
    lwrE S l s = 0 ∧ LI (lwrS S l s) (lwrL S l s) (put ++ [s]) oth ∧ (lwrL S l s).half = l.half ∧ (lwrL S l s).age = l.age ∧ (lwrL S l s).used = l.used + manyN s.length ∧ (lwrS S l s).ops = S.ops + manyN s.length ∧ (lwrS S l s).left = S.left ∧ (lwrS S l s).was = S.was := by
  have hk : wrK S (manyN s.length) = manyN s.length := by unfold wrK; rw [if_neg (by have := h.lf; omega)]
  obtain ⟨e1, e2⟩ := lwr_eq h.ok h.lo h.on hf
  have hroom := lfull_no hf
  have hrl := lrow_length l s
  rw [hk] at e1 e2
  rw [List.take_of_length_le (by omega)] at e1
  have hf' : ¬ (lfull S l s = true) := by rw [hf]; simp
  have b2 : (lwr S l s).2 = true := by rw [e2]; simp
  have r1 : lwrE S l s = 0 := by rw [lwrE, if_neg hf', b2]; rfl
  have r2 : lwrS S l s = (lwr S l s).1 := by rw [lwrS, if_neg hf']
  have r3 : lwrL S l s = { l with used := l.used + manyN s.length } := by rw [lwrL, if_neg hf', b2]; rfl
  have hoff : decide (0 < S.left ∧ S.left ≤ (manyN s.length : Nat)) = false := by have := h.lf; simp; omega
  obtain ⟨hok, hwas⟩ := lwrS_ok (s := s) h.ok h.lo
  obtain ⟨rest, hs1, hs2⟩ := h.sec
  have hnow : (lwrS S l s).now = over S.now (lfst S.was.length l.half + l.used) (lrow l s) := by rw [r2, e1]
  obtain ⟨g1, g2⟩ := hsec_over (T := lwrS S l s) h.ok (by rw [hwas]) h.lo.hh (by rw [hrl]; exact hroom) hnow
  have hHl := hsec_length h.ok h.lo.hh
  have hcl := catL_length l.age 0 put
  rw [h.used] at hcl
  have hrest : rest.length = S.was.length / 2 - l.used := by
    have : (hsec S l.half).length = (catL l.age 0 put ++ rest).length := by rw [hs1]
    rw [hHl, List.length_append, hcl] at this
    omega
  refine ⟨r1, ⟨hok, by rw [r2, e1]; exact hoff, by rw [r2, e1]; simp only; rw [if_neg (by have := h.lf; omega)]; exact h.lf, by rw [hwas]; exact lwrL_ok h.lo, by rw [r3]; exact h.lon, ?_, ?_, ?_, ?_⟩, by rw [r3], by rw [r3], by rw [r3], by rw [r2, e1], by rw [r2, e1]; simp only; rw [if_neg (by have := h.lf; omega)], hwas⟩
  · refine ⟨rest.drop (manyN s.length), ?_, fun x hx => ?_⟩
    · rw [r3]
      show hsec (lwrS S l s) l.half = catL l.age 0 (put ++ [s]) ++ _
      rw [g1, hs1, ← hcl, over_app _ _ _ (by omega), hrl, catL_snoc, Nat.zero_add, h.used, List.append_assoc]
      rfl
    · rw [r3]; exact hs2 x (List.mem_of_mem_drop hx)
  · rw [catN_snoc, h.used, r3]
  · intro x hx
    rw [r3]
    rw [hnow] at hx
    rcases mem_over hx with h1 | h1
    · exact Nat.le_of_eq (old_row h.lo.a2 x h1)
    · exact h.top x h1
  · rw [r3]
    show hsec (lwrS S l s) (1 - l.half) = oth
    rw [g2 (1 - l.half) (by omega) (by have := h.lo.hh; omega), h.other]
theorem LI.add {S : DS} {l : LS} {put oth : List (List UInt8)} (h : LI S l put oth) (s : List UInt8) :
    (manyN s.length ≤ S.was.length / 2 - l.used ∧ addE S l s = 0 ∧ LI (addS S l s) (addL S l s) (put ++ [s]) oth ∧ (addL S l s).half = l.half ∧ (addL S l s).age = l.age ∧ (addL S l s).used = l.used + manyN s.length ∧ (addS S l s).ops = S.ops + manyN s.length ∧ (addS S l s).left = S.left ∧ (addS S l s).was = S.was) ∨
    (¬ manyN s.length ≤ S.was.length / 2 - l.used ∧ addE S l s = 41 ∧ addS S l s = S ∧ addL S l s = l) := by
  have hn : ¬ (l.off = true) := by rw [h.lon]; simp
  have e1 : addE S l s = lwrE S l s := by rw [addE, if_neg hn]
  have e2 : addS S l s = lwrS S l s := by rw [addS, if_neg hn]
  have e3 : addL S l s = lwrL S l s := by rw [addL, if_neg hn]
  have hus := h.lo.us
  rw [e1, e2, e3]
  cases hf : lfull S l s with
  | true =>
    have hf2 : S.was.length / 2 < l.used + manyN s.length := by simpa [lfull] using hf
    exact .inr ⟨by omega, by rw [lwrE, if_pos hf], by rw [lwrS, if_pos hf], by rw [lwrL, if_pos hf]⟩
  | false =>
    have hf2 := lfull_no hf
    exact .inl ⟨by omega, h.write hf⟩
/-- Ahead of a Begin. -/
theorem LI.start {S : DS} (hS : S.Ok) (ho : S.off = false) (hl : S.left ≤ 0) {half age : Int} (hm : mayH half age = true) (ht : (topL S.now : Int) < age) : LI S (newL half age) [] (hsec S (1 - half.toNat)) := by
  have hlt : ∀ x ∈ S.now, oldL x < age.toNat := fun x hx => by
    have := topM_mem hx
    rw [topL_eq] at ht
    omega
  refine ⟨hS, ho, hl, newL_ok hm _, rfl, ⟨hsec S half.toNat, rfl, fun x hx => hlt x (List.mem_of_mem_drop (List.mem_of_mem_take hx))⟩, rfl, fun x hx => Nat.le_of_lt (hlt x hx), rfl⟩
theorem LI.begin {S : DS} (hS : S.Ok) (ho : S.off = false) (hl : S.left ≤ 0) {half age : Int} (hm : mayH half age = true) (ht : (topL S.now : Int) < age) (s : List UInt8) :
    (manyN s.length ≤ S.was.length / 2 ∧ begE S half age s = 0 ∧ LI (begS S half age s) (lwrL S (newL half age) s) [s] (hsec S (1 - half.toNat)) ∧ (lwrL S (newL half age) s).half = half.toNat ∧ (lwrL S (newL half age) s).age = age.toNat ∧ (lwrL S (newL half age) s).used = manyN s.length ∧ (begS S half age s).ops = S.ops + manyN s.length ∧ (begS S half age s).left = S.left ∧ (begS S half age s).was = S.was) ∨
    (¬ manyN s.length ≤ S.was.length / 2 ∧ begE S half age s = 41 ∧ begS S half age s = S) := by
  have h := LI.start hS ho hl hm ht
  have e1 : begE S half age s = lwrE S (newL half age) s := by rw [begE, if_pos hm]
  have e2 : begS S half age s = lwrS S (newL half age) s := by rw [begS, if_pos hm]
  rw [e1, e2]
  cases hf : lfull S (newL half age) s with
  | true =>
    have hf2 : S.was.length / 2 < (newL half age).used + manyN s.length := by simpa [lfull] using hf
    have h0 : (newL half age).used = 0 := rfl
    exact .inr ⟨by omega, by rw [lwrE, if_pos hf], by rw [lwrS, if_pos hf]⟩
  | false =>
    have hf2 := lfull_no hf
    have h0 : (newL half age).used = 0 := rfl
    obtain ⟨r1, r2, r3, r4, r5, r6⟩ := h.write hf
    rw [h0] at hf2 r5
    exact .inl ⟨by omega, r1, r2, r3, r4, by omega, r6⟩
/-- Has a half just these records, of that age? -/
def HasB (S : DS) (half age : Int) (L : List (List UInt8)) : Prop := scnE S half = 0 ∧ (scnA S half : Int) = age ∧ scnL S half = L
theorem has_cat {S : DS} (hS : S.Ok) (ho : S.off = false) {half age : Nat} (hh : half < 2) (ha : 1 ≤ age ∧ age < 4294967296) {put rest : List (List UInt8)} (hp : put ≠ []) (hs : hsec S half = catL age 0 put ++ rest) (hr : joinB rest age (catN put : Nat) = false) : HasB S half age put := by
  have hHl := hsec_length hS hh
  have hn2 := hS.n2
  obtain ⟨t, ss, rfl⟩ : ∃ t ss, put = t :: ss := by cases put with | nil => exact absurd rfl hp | cons t ss => exact ⟨t, ss, rfl⟩
  have e1 : ageH (hsec S half) = age := by rw [hs]; exact ageH_cat ha
  have e2 : scnR S half = t :: ss := by
    rw [scnR, e1]
    exact recs_cat ha hs (by omega) hr
  have e3 : scnE S half = 0 := by
    rw [scnE, if_pos (by omega), if_neg (by rw [ho]; simp), Int.toNat_natCast, if_neg (by rw [e2]; simp)]
  refine ⟨e3, ?_, ?_⟩
  · rw [scnA, e3, if_pos rfl, Int.toNat_natCast, e1]
  · rw [scnL, e3, if_pos rfl, Int.toNat_natCast, e2]
theorem rest_none {age : Nat} (h1 : 1 ≤ age) {rest : List (List UInt8)} (h : ∀ x ∈ rest, oldL x < age) (p : Int) : joinB rest age p = false := join_none h1 fun x hx => h x (List.mem_of_getElem? hx)
theorem LI.has {S : DS} {l : LS} {put oth : List (List UInt8)} (h : LI S l put oth) (hp : put ≠ []) : HasB S l.half l.age put := by
  obtain ⟨rest, hs1, hs2⟩ := h.sec
  exact has_cat h.ok h.on h.lo.hh h.a hp hs1 (rest_none h.lo.a1 hs2 _)
theorem LI.topIs {S : DS} {l : LS} {put oth : List (List UInt8)} (h : LI S l put oth) (hp : put ≠ []) : topL S.now = l.age := by
  obtain ⟨t, ss, rfl⟩ : ∃ t ss, put = t :: ss := by cases put with | nil => exact absurd rfl hp | cons t ss => exact ⟨t, ss, rfl⟩
  obtain ⟨rest, hs1, hs2⟩ := h.sec
  rw [topL_eq]
  refine Nat.le_antisymm (topM_le.2 h.top) ?_
  have hn := manyN_pos t.length
  have hm : secL l.age 0 (recL t) 0 ∈ S.now := by
    have : secL l.age 0 (recL t) 0 ∈ hsec S l.half := by
      rw [hs1, catL, List.append_assoc]
      exact List.mem_of_getElem? (row_at hn)
    exact List.mem_of_mem_drop (List.mem_of_mem_take this)
  have := topM_mem hm
  rwa [secL, old_frL h.lo.a2 (chL_length _ _)] at this

/-! ### The power -/
/-- All is synced. -/
def Dry (S : DS) : Prop := S.was = S.now ∧ ∀ j, S.wet.getD j false = false
theorem keptN_le (keep : List Int) (r : Nat) : keptN keep r ≤ 128 := by unfold keptN; split <;> omega
/-- Sector by sector, behind a Boot. -/
theorem boot_at {S : DS} (hS : S.Ok) (ho : S.off = true) (keep : List Int) (j : Nat) :
    (S.wet.getD j false = false → (S.boot keep).now.getD j [] = S.now.getD j []) ∧ (S.wet.getD j false = true → ∃ c, c ≤ 128 ∧ (S.boot keep).now.getD j [] = spl c (S.now.getD j []) (S.was.getD j [])) := by
  have hb : (S.boot keep).now = (S.sts (keptN keep) (dirtyL S.wet) 0).now := by rw [DS.boot, if_pos ho]
  rw [hb]
  obtain ⟨h1, h2⟩ := DS.sts_at (kf := keptN keep) (dirtyL S.wet) 0 S (nodup_dirtyL _) hS hS.dirty j
  constructor
  · intro hw
    refine (h1 (fun hm => ?_)).2.1
    have := (mem_dirtyL.1 hm).2
    rw [hw] at this; cases this
  · intro hw
    have hjl : j < S.wet.length := by
      rcases Nat.lt_or_ge j S.wet.length with h | h
      · exact h
      · rw [List.getD_eq_getElem?_getD, List.getElem?_eq_none h] at hw; cases hw
    obtain ⟨k, hk⟩ := List.getElem?_of_mem (mem_dirtyL.2 ⟨hjl, hw⟩)
    exact ⟨_, keptN_le _ _, (h2 k hk).2.1⟩
theorem boot_facts {S : DS} (ho : S.off = true) (keep : List Int) : (S.boot keep).off = false ∧ (S.boot keep).left = 0 ∧ (S.boot keep).was.length = S.was.length := by
  rw [DS.boot, if_pos ho]
  exact ⟨rfl, rfl, DS.sts_len _ _ _⟩
end Go.Proofs.YthfnncahmccgkaaGreatDoor

namespace Go.Proofs.YthfnncahmccgkaaGreatDoor
open Go Go.RowKit
set_option maxRecDepth 100000
set_option linter.unusedSimpArgs false
set_option linter.unusedVariables false

theorem getD_of {α : Type} {l : List α} {j : Nat} {d x : α} (h : l[j]? = some x) : l.getD j d = x := by rw [List.getD_eq_getElem?_getD, h]; rfl
structure PW (T : DS) (n : Nat) (l : LS) (put : List (List UInt8)) (s : List UInt8) (oth : List (List UInt8)) : Prop where
  ok : T.Ok
  on : T.off = false
  lf : T.left = 0
  len : T.was.length = n
  top : topL T.now ≤ l.age
  other : hsec T (1 - l.half) = oth
  some : put ≠ [] → HasB T l.half l.age put ∨ HasB T l.half l.age (put ++ [s])
  none : put = [] → scnE T l.half = 5 ∨ (scnE T l.half = 0 ∧ ((scnA T l.half = l.age ∧ scnL T l.half = [s]) ∨ scnA T l.half < l.age))
theorem power {S : DS} {l : LS} {put oth : List (List UInt8)} (h : LI S l put oth) (hd : Dry S) {s : List UInt8} (hf : lfull S l s = false) {k : Nat} (hk1 : 1 ≤ k) (hk2 : k ≤ manyN s.length) (keep : List Int) :
    (lwr (S.fail k) l s).1.off = true ∧ (lwr (S.fail k) l s).1.was = S.was ∧ PW ((lwr (S.fail k) l s).1.boot keep) S.was.length l put s oth := by
  have hmb := manyN_lt s.length
  have hroom := lfull_no hf
  have hus := h.lo.us
  have hn2 := h.ok.n2
  have hSk : (S.fail k).Ok := h.ok.fail (by omega)
  have hf1 : lfull (S.fail k) l s = false := hf
  obtain ⟨e1, _⟩ := lwr_eq hSk h.lo (show (S.fail k).off = false from h.on) hf1
  have hkk : wrK (S.fail k) (manyN s.length) = k := by
    unfold wrK
    show (if 0 < (k : Int) then min (k : Int).toNat (manyN s.length) else manyN s.length) = k
    rw [if_pos (by omega)]; omega
  rw [hkk] at e1
  have hrl := lrow_length l s
  have htl : ((lrow l s).take k).length = k := by rw [List.length_take, hrl]; omega
  obtain ⟨T1, hT1⟩ : ∃ T1, T1 = (lwr (S.fail k) l s).1 := ⟨_, rfl⟩
  rw [← hT1] at e1 ⊢
  have w1 : T1.was = S.was := by rw [e1]; rfl
  have w2 : T1.now = over S.now (lfst S.was.length l.half + l.used) ((lrow l s).take k) := by rw [e1]; rfl
  have w3 : T1.wet = over S.wet (lfst S.was.length l.half + l.used) (List.replicate k true) := by rw [e1]; rfl
  have w4 : T1.off = true := by
    rw [e1]
    show decide (0 < (k : Int) ∧ (k : Int) ≤ (manyN s.length : Nat)) = true
    simp; omega
  have hle := lfst_le (n := S.was.length) h.lo.hh
  have hnl := h.ok.hn
  have hwl := h.ok.hw
  have hT1ok : T1.Ok := by
    have := (lwrS_ok (s := s) hSk h.lo).1
    rw [lwrS, if_neg (by rw [hf1]; simp), ← hT1] at this
    exact this
  obtain ⟨b1, b2, b3⟩ := boot_facts w4 keep
  have hTok := hT1ok.boot keep
  obtain ⟨T, hT⟩ : ∃ T, T = T1.boot keep := ⟨_, rfl⟩
  have hat := fun j => boot_at hT1ok w4 keep j
  rw [← hT] at b1 b2 b3 hTok hat ⊢
  rw [w1] at b3
  have hTl : T.now.length = S.was.length := by rw [hTok.hn, b3]
  -- sector by sector
  have hin : ∀ i, i < k → ∃ c, c ≤ 128 ∧ T.now.getD (lfst S.was.length l.half + l.used + i) [] = mixL c (secL l.age l.used (recL s) i) (S.now.getD (lfst S.was.length l.half + l.used + i) []) := by
    intro i hi
    have hw : T1.wet.getD (lfst S.was.length l.half + l.used + i) false = true := by
      rw [w3]
      refine getD_of ?_
      rw [over_get (by simp; omega), if_pos (by simp; omega), Nat.add_sub_cancel_left, List.getElem?_replicate, if_pos hi]
    obtain ⟨c, hc, he⟩ := (hat _).2 hw
    refine ⟨c, hc, ?_⟩
    have hx : T1.now.getD (lfst S.was.length l.half + l.used + i) [] = secL l.age l.used (recL s) i := by
      rw [w2]
      refine getD_of ?_
      rw [over_get (by rw [htl]; omega), if_pos (by rw [htl]; omega), Nat.add_sub_cancel_left, List.getElem?_take_of_lt hi]
      exact rowL_get (by omega)
    have hwn : ∀ j, S.was.getD j [] = S.now.getD j [] := fun j => by rw [hd.1]
    rw [he, w1, hx, hwn]
    rfl
  have hout : ∀ j, ¬ (lfst S.was.length l.half + l.used ≤ j ∧ j < lfst S.was.length l.half + l.used + k) → T.now.getD j [] = S.now.getD j [] := by
    intro j hj
    have hw : T1.wet.getD j false = false := by
      rw [w3, List.getD_eq_getElem?_getD, over_get (by simp; omega), if_neg (by simp; omega), ← List.getD_eq_getElem?_getD]
      exact hd.2 j
    rw [(hat j).1 hw, w2, List.getD_eq_getElem?_getD, over_get (by rw [htl]; omega), if_neg (by rw [htl]; exact hj), ← List.getD_eq_getElem?_getD]
  obtain ⟨rest, hs1, hs2⟩ := h.sec
  have hHl := hsec_length h.ok h.lo.hh
  have hcl := catL_length l.age 0 put
  rw [h.used] at hcl
  have hg : ∀ h2 j, j < S.was.length / 2 → (hsec T h2)[j]? = T.now[lfst S.was.length h2 + j]? := fun h2 j hj => by rw [hsec_get (by rw [b3]; exact hj), b3]
  have hsl : ∀ h2, h2 < 2 → (hsec T h2).length = S.was.length / 2 := fun h2 hh2 => by rw [hsec_length hTok hh2, b3]
  have get_some : ∀ {l : List (List UInt8)} {j : Nat}, j < l.length → l[j]? = some (l.getD j []) := fun {l j} hj => by rw [List.getD_eq_getElem?_getD, List.getElem?_eq_getElem hj]; rfl
  -- the old ones behind the records
  have hold : ∀ i, l.used + i < S.was.length / 2 → oldL (S.now.getD (lfst S.was.length l.half + l.used + i) []) < l.age := by
    intro i hi
    refine hs2 _ (List.mem_of_getElem? (i := i) ?_)
    have e : (hsec S l.half)[l.used + i]? = rest[i]? := by rw [hs1, List.getElem?_append_right (by omega), hcl, Nat.add_sub_cancel_left]
    rw [← e, hsec_get hi, ← Nat.add_assoc]
    have := lfst_le (n := S.was.length) h.lo.hh
    exact get_some (by rw [hnl]; omega)
  -- the half
  have hD : hsec T l.half = catL l.age 0 put ++ (hsec T l.half).drop l.used := by
    have : (hsec T l.half).take l.used = catL l.age 0 put := by
      refine List.ext_getElem? fun j => ?_
      by_cases hj : j < l.used
      · rw [List.getElem?_take_of_lt hj, hg _ _ (by omega), get_some (by rw [hTl]; omega), hout _ (by omega), ← get_some (by rw [hnl]; omega), ← hsec_get (by omega), hs1, List.getElem?_append_left (by omega)]
      · rw [List.getElem?_eq_none (by simp; omega), List.getElem?_eq_none (by omega)]
    rw [← this, List.take_append_drop]
  have htorn : ∀ i x, ((hsec T l.half).drop l.used)[i]? = some x → oldL x < l.age ∨ (i < manyN s.length ∧ ∃ c y, c ≤ 128 ∧ y.length = 128 ∧ oldL y < l.age ∧ x = mixL c (secL l.age l.used (recL s) i) y) := by
    intro i x hx
    rw [List.getElem?_drop] at hx
    have hi : l.used + i < S.was.length / 2 := by
      have := (List.getElem?_eq_some_iff.1 hx).1
      rw [hsl _ h.lo.hh] at this
      exact this
    rw [hg _ _ hi, get_some (by rw [hTl]; omega), ← Nat.add_assoc] at hx
    have hx' := Option.some.inj hx
    by_cases hik : i < k
    · obtain ⟨c, hc, he⟩ := hin i hik
      refine .inr ⟨by omega, c, _, hc, ?_, hold i hi, by rw [← hx', he]⟩
      exact h.ok.now_len (by omega)
    · rw [hout _ (by omega)] at hx'
      exact .inl (by rw [← hx']; exact hold i hi)
  have hle2 : ∀ x ∈ T.now, oldL x ≤ l.age := by
    intro x hx
    obtain ⟨j, hj, rfl⟩ := List.getElem_of_mem hx
    have ej : T.now[j] = T.now.getD j [] := by rw [List.getD_eq_getElem?_getD, List.getElem?_eq_getElem hj]; rfl
    rw [ej]
    by_cases hjk : lfst S.was.length l.half + l.used ≤ j ∧ j < lfst S.was.length l.half + l.used + k
    · obtain ⟨i, rfl⟩ : ∃ i, j = lfst S.was.length l.half + l.used + i := ⟨j - (lfst S.was.length l.half + l.used), by omega⟩
      obtain ⟨c, hc, he⟩ := hin i (by omega)
      rw [he]
      exact (torn_new (chL_length _ _) (h.ok.now_len (by omega)) hc h.lo.a2 (hold i (by omega))).2
    · rw [hout j hjk]
      exact h.top _ (List.mem_of_getElem? (get_some (by rw [hnl]; omega)))
  have hoth : hsec T (1 - l.half) = oth := by
    rw [← h.other]
    have hh := h.lo.hh
    refine List.ext_getElem? fun j => ?_
    by_cases hj : j < S.was.length / 2
    · have h2 := lfst_le (n := S.was.length) (show 1 - l.half < 2 by omega)
      rw [hg _ _ hj, hsec_get hj, get_some (by rw [hTl]; omega), hout _ ?_, ← get_some (by rw [hnl]; omega)]
      unfold lfst
      rcases (show l.half = 0 ∨ l.half = 1 by omega) with e | e <;> rw [e] <;> omega
    · rw [List.getElem?_eq_none (by rw [hsl _ (by omega)]; omega), List.getElem?_eq_none (by rw [hsec_length h.ok (by omega)]; omega)]
  obtain ⟨D, hDe⟩ : ∃ D, D = (hsec T l.half).drop l.used := ⟨_, rfl⟩
  rw [← hDe] at hD htorn
  have hu : l.used + manyN s.length ≤ 1024 := by omega
  refine ⟨w4, w1, hTok, b1, b2, b3, by rw [topL_eq]; exact topM_le.2 hle2, hoth, fun hp => ?_, fun hp => ?_⟩
  · by_cases hj : JoinIs D l.age l.used
    · obtain ⟨rest2, hr1, hr2⟩ := join_torn h.a hu htorn hj
      refine .inr (has_cat hTok b1 h.lo.hh h.a (by simp) (rest := rest2) ?_ (rest_none h.lo.a1 hr2 _))
      rw [hD, hr1, catL_snoc, Nat.zero_add, h.used, List.append_assoc]
    · exact .inl (has_cat hTok b1 h.lo.hh h.a hp hD (by rw [h.used]; exact (joinB_false hj).1))
  · subst hp
    have hu0 : l.used = 0 := by rw [← h.used]; rfl
    have hD0 : hsec T l.half = D := by rw [hD]; rfl
    rw [hu0] at htorn hu
    have hEon : scnE T (l.half : Int) = if scnR T l.half = [] then 5 else 0 := by
      rw [scnE, if_pos (by have := h.lo.hh; omega), if_neg (by rw [b1]; simp), Int.toNat_natCast]
    by_cases hr : scnR T l.half = []
    · exact .inl (by rw [hEon, if_pos hr])
    · rw [if_neg hr] at hEon
      refine .inr ⟨hEon, ?_⟩
      have hA : scnA T l.half = ageH D := by rw [scnA, hEon, if_pos rfl, Int.toNat_natCast, hD0]
      have hL : scnL T l.half = recs D (ageH D) := by rw [scnL, hEon, if_pos rfl, Int.toNat_natCast, scnR, hD0]
      rw [hA, hL]
      by_cases ha : ageH D = l.age
      · rw [ha]
        refine .inl ⟨rfl, ?_⟩
        have hDl : D.length ≤ 1024 := by rw [← hD0, hsl _ h.lo.hh]; omega
        by_cases hj : JoinIs D l.age (0 : Nat)
        · obtain ⟨rest2, hr1, hr2⟩ := join_torn h.a hu htorn hj
          refine recs_cat h.a (rest := rest2) ?_ hDl (rest_none h.lo.a1 hr2 _)
          rw [hr1, catL, Nat.zero_add]
          show _ = (_ ++ []) ++ rest2
          rw [List.append_nil]
        · exfalso
          refine hr ?_
          rw [scnR, hD0, ha]
          exact recs_cat h.a (ss := []) (rest := D) rfl hDl (joinB_false hj).1
      · refine .inr ?_
        have h0 : ageH D ≤ l.age := by
          unfold ageH
          cases hD1 : D[0]? with
          | none => rw [List.getD_eq_getElem?_getD, hD1]; show agL [] ≤ _; rw [agL_nil]; omega
          | some x =>
            rw [getD_of hD1]
            have hm : x ∈ T.now := by
              have : x ∈ hsec T l.half := by rw [hD0]; exact List.mem_of_getElem? hD1
              exact List.mem_of_mem_drop (List.mem_of_mem_take this)
            exact Nat.le_trans (agL_le x) (hle2 x hm)
        omega
end Go.Proofs.YthfnncahmccgkaaGreatDoor
