/-
  A log, plainly: a half of a disk, records one behind the other; what a half has; the greatest age.
-/
import Derived.Test.YthfnncahmccgkaaGreatDoorDPure
import Derived.Test.YthfnncahmccgkaaGreatDoorFBack
import Derived.Test.YthfnncahmccgkaaGreatDoorFTornP
namespace Go.Proofs.YthfnncahmccgkaaGreatDoor
open Go Go.RowKit
set_option maxRecDepth 100000
set_option linter.unusedSimpArgs false
set_option linter.unusedVariables false

/-! ### Sectors that are written one behind the other -/
def over {α : Type} (l : List α) (a : Nat) (xs : List α) : List α := l.take a ++ (xs ++ l.drop (a + xs.length))
theorem over_nil {α : Type} (l : List α) (a : Nat) : over l a [] = l := by simp [over]
theorem over_length {α : Type} {l : List α} {a : Nat} {xs : List α} (h : a + xs.length ≤ l.length) : (over l a xs).length = l.length := by
  simp [over]; omega
theorem over_get {α : Type} {l : List α} {a : Nat} {xs : List α} (h : a + xs.length ≤ l.length) (j : Nat) : (over l a xs)[j]? = if a ≤ j ∧ j < a + xs.length then xs[j - a]? else l[j]? := by
  unfold over
  by_cases h1 : j < a
  · rw [List.getElem?_append_left (by simp; omega), List.getElem?_take_of_lt h1, if_neg (by omega)]
  · rw [List.getElem?_append_right (by simp; omega)]
    have e : j - (l.take a).length = j - a := by simp; omega
    rw [e]
    by_cases h2 : j < a + xs.length
    · rw [List.getElem?_append_left (by omega), if_pos (by omega)]
    · rw [List.getElem?_append_right (by omega), List.getElem?_drop, if_neg (by omega)]
      congr 1
      omega
theorem over_cons {α : Type} {l : List α} {a : Nat} {x : α} {xs : List α} (h : a + (xs.length + 1) ≤ l.length) : over (l.set a x) (a + 1) xs = over l a (x :: xs) := by
  refine List.ext_getElem? fun j => ?_
  rw [over_get (by simp; omega), over_get (by simp; omega)]
  by_cases h1 : j = a
  · subst h1
    rw [if_neg (by omega), if_pos (by simp), List.getElem?_set, if_pos rfl, if_pos (by omega)]
    simp
  · rw [List.getElem?_set_ne (fun e => h1 e.symm)]
    simp only [List.length_cons]
    by_cases h2 : a + 1 ≤ j ∧ j < a + 1 + xs.length
    · rw [if_pos h2, if_pos (by omega)]
      obtain ⟨q, rfl⟩ : ∃ q, j = a + 1 + q := ⟨j - (a + 1), by omega⟩
      rw [show a + 1 + q - (a + 1) = q by omega, show a + 1 + q - a = q + 1 by omega]
      simp
    · rw [if_neg h2, if_neg (by omega)]

/-- Sectors are written one behind the other, as long as there is power. -/
def wrs : List (List UInt8) → DS → Nat → DS × Bool
  | [], S, _ => (S, true)
  | x :: xs, S, a => if S.off then (S, false) else wrs xs ((S.put a x).did) (a + 1)
/-- So many are. -/
def wrK (S : DS) (m : Nat) : Nat := if 0 < S.left then min S.left.toNat m else m
theorem wrK_le (S : DS) (m : Nat) : wrK S m ≤ m := by unfold wrK; split <;> omega

theorem wrs_eq : ∀ (xs : List (List UInt8)) (S : DS) (a : Nat), S.off = false → a + xs.length ≤ S.now.length → S.wet.length = S.now.length →
    (wrs xs S a).1 = { S with now := over S.now a (xs.take (wrK S xs.length)), wet := over S.wet a (List.replicate (wrK S xs.length) true), ops := S.ops + wrK S xs.length, left := if 0 < S.left then S.left - wrK S xs.length else S.left, off := decide (0 < S.left ∧ S.left ≤ xs.length) } ∧
      (wrs xs S a).2 = decide (wrK S xs.length = xs.length)
  | [], S, a, h, _, _ => by
    have hk : wrK S 0 = 0 := by have := wrK_le S 0; omega
    simp only [wrs, List.length_nil, hk, List.take_nil, List.replicate_zero, over_nil]
    refine ⟨DS.ext' rfl rfl rfl rfl ?_ ?_, rfl⟩
    · simp
    · rw [h]; simp <;> omega
  | x :: xs, S, a, h, hl, hw => by
    simp only [List.length_cons] at hl
    have hn : ∀ b : Bool, b = false → (if b then (S, false) else wrs xs ((S.put a x).did) (a + 1)) = wrs xs ((S.put a x).did) (a + 1) := fun b hb => by rw [hb]; rfl
    rw [show wrs (x :: xs) S a = (if S.off then (S, false) else wrs xs ((S.put a x).did) (a + 1)) from rfl, hn _ h]
    have e1 : ((S.put a x).did).now = S.now.set a x := rfl
    have e2 : ((S.put a x).did).wet = S.wet.set a true := rfl
    have e3 : ((S.put a x).did).left = if 0 < S.left then S.left - 1 else S.left := rfl
    have e4 : ((S.put a x).did).off = if 0 < S.left then decide (S.left = 1) else S.off := rfl
    by_cases h0 : 0 < S.left
    · rw [if_pos h0] at e3 e4
      by_cases h1 : S.left = 1
      · -- the power fails behind it
        have hk : wrK S (x :: xs).length = 1 := by
          have e0 : S.left.toNat = 1 := by omega
          unfold wrK; rw [if_pos h0, e0, List.length_cons]; omega
        have hoff : ((S.put a x).did).off = true := by rw [e4]; simp [h1]
        rw [hk]
        have hS : ((S.put a x).did) = { S with now := over S.now a ((x :: xs).take 1), wet := over S.wet a (List.replicate 1 true), ops := S.ops + 1, left := if 0 < S.left then S.left - (1 : Nat) else S.left, off := decide (0 < S.left ∧ S.left ≤ (x :: xs).length) } := by
          refine DS.ext' rfl ?_ ?_ rfl ?_ ?_
          · rw [e1]
            show _ = over S.now a [x]
            rw [← over_cons (by simp; omega), over_nil]
          · rw [e2]
            show _ = over S.wet a [true]
            rw [← over_cons (by simp; omega), over_nil]
          · rw [e3]; simp [h0]
          · rw [hoff]; simp [h1]; omega
        cases xs with
        | nil => exact ⟨hS, rfl⟩
        | cons y ys =>
          rw [show wrs (y :: ys) ((S.put a x).did) (a + 1) = (if ((S.put a x).did).off then ((S.put a x).did, false) else wrs ys ((((S.put a x).did).put (a + 1) y).did) (a + 1 + 1)) from rfl, hoff]
          exact ⟨hS, by simp⟩
      · have hoff : ((S.put a x).did).off = false := by rw [e4]; simp [h1]
        obtain ⟨i1, i2⟩ := wrs_eq xs ((S.put a x).did) (a + 1) hoff (by rw [e1]; simp; omega) (by rw [e1, e2]; simp [hw])
        have hk : wrK S (x :: xs).length = wrK ((S.put a x).did) xs.length + 1 := by
          simp only [wrK, List.length_cons, e3, if_pos h0, if_pos (show 0 < S.left - 1 by omega)]; omega
        rw [hk]
        refine ⟨i1.trans ?_, by rw [i2]; simp⟩
        have hkl := wrK_le ((S.put a x).did) xs.length
        generalize wrK ((S.put a x).did) xs.length = k at hkl
        refine DS.ext' rfl ?_ ?_ ?_ ?_ ?_
        · show over ((S.put a x).did).now (a + 1) (xs.take k) = over S.now a ((x :: xs).take (k + 1))
          rw [e1, List.take_succ_cons, ← over_cons (by simp; omega)]
        · show over ((S.put a x).did).wet (a + 1) (List.replicate k true) = over S.wet a (List.replicate (k + 1) true)
          rw [e2, List.replicate_succ, ← over_cons (by simp; omega)]
        · show ((S.put a x).did).ops + k = S.ops + (k + 1)
          show S.ops + 1 + k = _
          omega
        · show (if 0 < ((S.put a x).did).left then ((S.put a x).did).left - (k : Int) else ((S.put a x).did).left) = if 0 < S.left then S.left - ((k + 1 : Nat) : Int) else S.left
          rw [e3, if_pos (by omega), if_pos h0]
          push_cast
          omega
        · show decide (0 < ((S.put a x).did).left ∧ ((S.put a x).did).left ≤ (xs.length : Int)) = decide (0 < S.left ∧ S.left ≤ ((xs.length + 1 : Nat) : Int))
          rw [e3, Bool.eq_iff_iff]
          simp only [decide_eq_true_eq]
          omega
    · rw [if_neg h0] at e3 e4
      have hoff : ((S.put a x).did).off = false := by rw [e4, h]
      obtain ⟨i1, i2⟩ := wrs_eq xs ((S.put a x).did) (a + 1) hoff (by rw [e1]; simp; omega) (by rw [e1, e2]; simp [hw])
      have hk : wrK S (x :: xs).length = wrK ((S.put a x).did) xs.length + 1 := by
        simp only [wrK, List.length_cons, e3, if_neg h0]
      rw [hk]
      refine ⟨i1.trans ?_, by rw [i2]; simp⟩
      have hkl := wrK_le ((S.put a x).did) xs.length
      generalize wrK ((S.put a x).did) xs.length = k at hkl
      refine DS.ext' rfl ?_ ?_ ?_ ?_ ?_
      · show over ((S.put a x).did).now (a + 1) (xs.take k) = over S.now a ((x :: xs).take (k + 1))
        rw [e1, List.take_succ_cons, ← over_cons (by simp; omega)]
      · show over ((S.put a x).did).wet (a + 1) (List.replicate k true) = over S.wet a (List.replicate (k + 1) true)
        rw [e2, List.replicate_succ, ← over_cons (by simp; omega)]
      · show ((S.put a x).did).ops + k = S.ops + (k + 1)
        show S.ops + 1 + k = _
        omega
      · show (if 0 < ((S.put a x).did).left then ((S.put a x).did).left - (k : Int) else ((S.put a x).did).left) = if 0 < S.left then S.left - ((k + 1 : Nat) : Int) else S.left
        rw [e3, if_neg h0, if_neg h0]
      · show decide (0 < ((S.put a x).did).left ∧ ((S.put a x).did).left ≤ (xs.length : Int)) = decide (0 < S.left ∧ S.left ≤ ((xs.length + 1 : Nat) : Int))
        rw [e3, Bool.eq_iff_iff]
        simp only [decide_eq_true_eq]
        omega
theorem wrs_off {xs : List (List UInt8)} {S : DS} {a : Nat} (h : S.off = true) (hx : 0 < xs.length) : wrs xs S a = (S, false) := by
  cases xs with
  | nil => simp at hx
  | cons x xs => rw [show wrs (x :: xs) S a = (if S.off then (S, false) else wrs xs ((S.put a x).did) (a + 1)) from rfl, h]; rfl
theorem wrs_ok : ∀ (xs : List (List UInt8)) (S : DS) (a : Nat), S.Ok → a + xs.length ≤ S.was.length → (∀ x ∈ xs, x.length = 128) → (wrs xs S a).1.Ok ∧ (wrs xs S a).1.was = S.was
  | [], S, a, h, _, _ => ⟨h, rfl⟩
  | x :: xs, S, a, h, hl, hx => by
    simp only [List.length_cons] at hl
    rw [show wrs (x :: xs) S a = (if S.off then (S, false) else wrs xs ((S.put a x).did) (a + 1)) from rfl]
    split
    · exact ⟨h, rfl⟩
    · have h1 := (h.put (i := a) (by omega) (hx x (by simp))).did
      obtain ⟨h2, h3⟩ := wrs_ok xs ((S.put a x).did) (a + 1) h1 (by show a + 1 + xs.length ≤ S.was.length; omega) (fun y hy => hx y (by simp [hy]))
      exact ⟨h2, h3⟩

/-! ### A log -/
structure LS where
  half : Nat
  age : Nat
  used : Nat
  off : Bool
structure LS.Ok (n : Nat) (l : LS) : Prop where
  hh : l.half < 2
  a1 : 1 ≤ l.age
  a2 : l.age < 4294967296
  us : l.used ≤ n / 2
def lfst (n half : Nat) : Nat := half * (n / 2)
theorem lfst_le {n half : Nat} (h : half < 2) : lfst n half + n / 2 ≤ n := by
  unfold lfst
  rcases (show half = 0 ∨ half = 1 by omega) with rfl | rfl <;> omega
def lrow (l : LS) (s : List UInt8) : List (List UInt8) := rowL l.age l.used (recL s) (manyN s.length)
theorem lrow_length (l : LS) (s : List UInt8) : (lrow l s).length = manyN s.length := rowL_length _ _ _ _
theorem lrow_lens (l : LS) (s : List UInt8) : ∀ x ∈ lrow l s, x.length = 128 := by
  intro x hx
  simp only [lrow, rowL, List.mem_map] at hx
  obtain ⟨i, _, rfl⟩ := hx
  exact frL_length (chL_length _ _)
/-- There is no room. -/
def lfull (S : DS) (l : LS) (s : List UInt8) : Bool := decide (S.was.length / 2 < l.used + manyN s.length)
def lwr (S : DS) (l : LS) (s : List UInt8) : DS × Bool := wrs (lrow l s) S (lfst S.was.length l.half + l.used)
def lwrE (S : DS) (l : LS) (s : List UInt8) : Int := if lfull S l s then 41 else if (lwr S l s).2 then 0 else 42
def lwrS (S : DS) (l : LS) (s : List UInt8) : DS := if lfull S l s then S else (lwr S l s).1
def lwrL (S : DS) (l : LS) (s : List UInt8) : LS := if lfull S l s then l else if (lwr S l s).2 then { l with used := l.used + manyN s.length } else { l with off := true }
def addE (S : DS) (l : LS) (s : List UInt8) : Int := if l.off then 7 else lwrE S l s
def addS (S : DS) (l : LS) (s : List UInt8) : DS := if l.off then S else lwrS S l s
def addL (S : DS) (l : LS) (s : List UInt8) : LS := if l.off then l else lwrL S l s
def mayH (half age : Int) : Bool := decide (0 ≤ half ∧ half < 2 ∧ 1 ≤ age ∧ age ≤ 4294967295)
def newL (half age : Int) : LS := ⟨half.toNat, age.toNat, 0, false⟩
def begE (S : DS) (half age : Int) (s : List UInt8) : Int := if mayH half age then lwrE S (newL half age) s else 1
def begS (S : DS) (half age : Int) (s : List UInt8) : DS := if mayH half age then lwrS S (newL half age) s else S
theorem newL_ok {half age : Int} (h : mayH half age = true) (n : Nat) : (newL half age).Ok n := by
  simp only [mayH, decide_eq_true_eq] at h
  exact ⟨by simp only [newL]; omega, by simp only [newL]; omega, by simp only [newL]; omega, by simp only [newL]; omega⟩
theorem lfull_no {S : DS} {l : LS} {s : List UInt8} (h : lfull S l s = false) : l.used + manyN s.length ≤ S.was.length / 2 := by
  simpa [lfull] using h
theorem lwr_in {S : DS} {l : LS} {s : List UInt8} (hl : l.Ok S.was.length) (h : lfull S l s = false) : lfst S.was.length l.half + l.used + (lrow l s).length ≤ S.was.length := by
  have h1 := lfull_no h
  have h2 := lfst_le (n := S.was.length) hl.hh
  rw [lrow_length]
  omega
theorem lwrS_ok {S : DS} {l : LS} {s : List UInt8} (hS : S.Ok) (hl : l.Ok S.was.length) : (lwrS S l s).Ok ∧ (lwrS S l s).was = S.was := by
  unfold lwrS
  split
  · exact ⟨hS, rfl⟩
  · rename_i h
    exact wrs_ok _ _ _ hS (lwr_in hl (by simpa using h)) (lrow_lens _ _)
theorem lwrL_ok {S : DS} {l : LS} {s : List UInt8} (hl : l.Ok S.was.length) : (lwrL S l s).Ok S.was.length := by
  unfold lwrL
  split
  · exact hl
  · rename_i h
    have h1 := lfull_no (S := S) (l := l) (s := s) (by simpa using h)
    split
    · exact ⟨hl.hh, hl.a1, hl.a2, h1⟩
    · exact ⟨hl.hh, hl.a1, hl.a2, hl.us⟩
theorem addS_ok {S : DS} {l : LS} {s : List UInt8} (hS : S.Ok) (hl : l.Ok S.was.length) : (addS S l s).Ok ∧ (addS S l s).was = S.was := by
  unfold addS; split
  · exact ⟨hS, rfl⟩
  · exact lwrS_ok hS hl
theorem addL_ok {S : DS} {l : LS} {s : List UInt8} (hl : l.Ok S.was.length) : (addL S l s).Ok S.was.length := by
  unfold addL; split
  · exact hl
  · exact lwrL_ok hl
theorem begS_ok {S : DS} {half age : Int} {s : List UInt8} (hS : S.Ok) : (begS S half age s).Ok ∧ (begS S half age s).was = S.was := by
  unfold begS; split
  · rename_i h; exact lwrS_ok hS (newL_ok h _)
  · exact ⟨hS, rfl⟩
theorem wrs_ops : ∀ (xs : List (List UInt8)) (S : DS) (a : Nat), (wrs xs S a).1.ops ≤ S.ops + xs.length
  | [], S, a => by simp [wrs]
  | x :: xs, S, a => by
    rw [show wrs (x :: xs) S a = (if S.off then (S, false) else wrs xs ((S.put a x).did) (a + 1)) from rfl]
    split
    · simp
    · have := wrs_ops xs ((S.put a x).did) (a + 1)
      have e : ((S.put a x).did).ops = S.ops + 1 := rfl
      simp only [List.length_cons]
      omega
theorem lwrS_ops {S : DS} {l : LS} {s : List UInt8} : (lwrS S l s).ops ≤ S.ops + S.was.length := by
  unfold lwrS
  split
  · omega
  · rename_i h
    have h1 := lfull_no (S := S) (l := l) (s := s) (by simpa using h)
    have := wrs_ops (lrow l s) S (lfst S.was.length l.half + l.used)
    rw [lrow_length] at this
    unfold lwr
    omega

/-! ### What a half has -/
def hsec (S : DS) (half : Nat) : List (List UInt8) := (S.now.drop (lfst S.was.length half)).take (S.was.length / 2)
theorem hsec_length {S : DS} (h : S.Ok) {half : Nat} (hh : half < 2) : (hsec S half).length = S.was.length / 2 := by
  have := lfst_le (n := S.was.length) hh
  have := h.hn
  simp [hsec]
  omega
theorem hsec_get {S : DS} {half j : Nat} (hj : j < S.was.length / 2) : (hsec S half)[j]? = S.now[lfst S.was.length half + j]? := by
  rw [hsec, List.getElem?_take_of_lt hj, List.getElem?_drop]
def ageH (l : List (List UInt8)) : Nat := agL (l.getD 0 [])
theorem agL_nil : agL [] = 0 := by
  have : isB [] = false := by
    cases h : isB []
    · rfl
    · have := isB_len h; simp at this
  simp [agL, this]
/-- The records of that age from place p on. -/
noncomputable def recsF (l : List (List UInt8)) (age : Nat) : Nat → Nat → List (List UInt8)
  | 0, _ => []
  | f + 1, p => if joinB (l.drop p) age p then joinT (l.drop p) age p :: recsF l age f (p + joinN (l.drop p) age p) else []
noncomputable def recs (l : List (List UInt8)) (age : Nat) : List (List UInt8) := recsF l age (l.length + 1) 0
noncomputable def scnR (S : DS) (half : Nat) : List (List UInt8) := recs (hsec S half) (ageH (hsec S half))
open Classical in
noncomputable def scnE (S : DS) (half : Int) : Int := if 0 ≤ half ∧ half < 2 then if S.off then 42 else if scnR S half.toNat = [] then 5 else 0 else 1
noncomputable def scnA (S : DS) (half : Int) : Nat := if scnE S half = 0 then ageH (hsec S half.toNat) else 0
noncomputable def scnL (S : DS) (half : Int) : List (List UInt8) := if scnE S half = 0 then scnR S half.toNat else []
def topM : List (List UInt8) → Nat
  | [] => 0
  | x :: xs => max (oldL x) (topM xs)
def topL (l : List (List UInt8)) : Nat := l.foldl (fun m x => max m (oldL x)) 0
theorem topL_from (l : List (List UInt8)) : ∀ m, l.foldl (fun m x => max m (oldL x)) m = max m (topM l) := by
  induction l with
  | nil => intro m; simp [topM]
  | cons x l ih => intro m; rw [List.foldl_cons, ih, topM]; omega
theorem topL_eq (l : List (List UInt8)) : topL l = topM l := by rw [topL, topL_from]; omega
theorem topM_le {l : List (List UInt8)} {a : Nat} : topM l ≤ a ↔ ∀ x ∈ l, oldL x ≤ a := by
  induction l with
  | nil => simp [topM]
  | cons x l ih => simp only [topM, List.mem_cons, forall_eq_or_imp, ← ih]; omega
theorem topM_mem {l : List (List UInt8)} {x : List UInt8} (h : x ∈ l) : oldL x ≤ topM l := topM_le.1 (Nat.le_refl _) x h
theorem oldL_lt (x : List UInt8) : oldL x < 4294967296 := by
  have h1 := ageN_lt (fstL x)
  have h2 := ageN_lt (lstL x)
  unfold oldL; omega
theorem topM_lt (l : List (List UInt8)) : topM l < 4294967296 := by
  have : topM l ≤ 4294967295 := topM_le.2 fun x _ => by have := oldL_lt x; omega
  omega
def topE (S : DS) : Int := if S.off then 42 else 0
def topV (S : DS) : Nat := if S.off then 0 else topL S.now
theorem agL_le (x : List UInt8) : agL x ≤ oldL x := by
  unfold agL oldL; split <;> omega
/-- No record of an age that no sector has. -/
theorem join_none {l : List (List UInt8)} {age : Nat} {p : Int} (h1 : 1 ≤ age) (h : ∀ x, l[0]? = some x → oldL x < age) : joinB l age p = false := by
  refine (joinB_false (not_first ?_)).1
  cases hb : partB l 0 age p
  · rfl
  · obtain ⟨x, hx, hi, ha, _⟩ := partB_iff.1 hb
    have := h x hx
    have := agL_le x
    omega
theorem join_zero {l : List (List UInt8)} {p : Int} : joinB l (0 : Nat) p = false := by
  refine (joinB_false (not_first ?_)).1
  cases hb : partB l 0 ((0 : Nat) : Int) p
  · rfl
  · obtain ⟨x, hx, hi, ha, _⟩ := partB_iff.1 hb
    have hm : mayB (ageN (fstL x)) (plN (fstL x)) = true := by
      have := hi
      rw [isB, Bool.and_eq_true] at this
      exact this.2
    have := mayB_iff.1 hm
    rw [agL, if_pos hi] at ha
    omega

/-- The sectors of these records, from place p on. -/
def catL (age : Nat) : Nat → List (List UInt8) → List (List UInt8)
  | _, [] => []
  | p, s :: ss => rowL age p (recL s) (manyN s.length) ++ catL age (p + manyN s.length) ss
def catN : List (List UInt8) → Nat
  | [] => 0
  | s :: ss => manyN s.length + catN ss
theorem catL_length (age : Nat) : ∀ (p : Nat) (ss : List (List UInt8)), (catL age p ss).length = catN ss
  | _, [] => rfl
  | p, s :: ss => by rw [catL, List.length_append, rowL_length, catL_length age _ ss, catN]
theorem catL_snoc (age : Nat) : ∀ (p : Nat) (ss : List (List UInt8)) (s : List UInt8), catL age p (ss ++ [s]) = catL age p ss ++ rowL age (p + catN ss) (recL s) (manyN s.length)
  | p, [], s => by simp [catL, catN]
  | p, t :: ss, s => by
    rw [List.cons_append, catL, catL, catL_snoc age _ ss s, catN, List.append_assoc, Nat.add_assoc]
theorem catN_snoc : ∀ (ss : List (List UInt8)) (s : List UInt8), catN (ss ++ [s]) = catN ss + manyN s.length
  | [], s => by simp [catN]
  | t :: ss, s => by rw [List.cons_append, catN, catN_snoc ss s, catN]; omega
theorem catN_ge : ∀ ss : List (List UInt8), ss.length ≤ catN ss
  | [] => by simp [catN]
  | s :: ss => by have := catN_ge ss; have := manyN_pos s.length; rw [catN, List.length_cons]; omega
theorem recsF_cat {age : Nat} (ha : 1 ≤ age ∧ age < 4294967296) {l : List (List UInt8)} : ∀ (ss : List (List UInt8)) (p f : Nat) (rest : List (List UInt8)), l.drop p = catL age p ss ++ rest → p + catN ss ≤ 1024 → ss.length < f →
    joinB rest age ((p + catN ss : Nat) : Int) = false → recsF l age f p = ss
  | [], p, f, rest, h, hp, hf, hr => by
    obtain ⟨g, rfl⟩ : ∃ g, f = g + 1 := ⟨f - 1, by simp at hf; omega⟩
    rw [show catL age p [] = [] from rfl, List.nil_append] at h
    rw [show catN [] = 0 from rfl, Nat.add_zero] at hr
    rw [recsF, h, if_neg (by rw [hr]; simp)]
  | s :: ss, p, f, rest, h, hp, hf, hr => by
    obtain ⟨g, rfl⟩ : ∃ g, f = g + 1 := ⟨f - 1, by simp at hf; omega⟩
    rw [catL, List.append_assoc] at h
    rw [catN] at hp hr
    obtain ⟨j1, j2, j3⟩ := join_back (a := age) (p := p) (s := s) (rest := catL age (p + manyN s.length) ss ++ rest) ha (by omega)
    rw [recsF, h, if_pos (joinB_iff.2 j1), j2, j3]
    congr 1
    refine recsF_cat ha ss (p + manyN s.length) g rest ?_ (by omega) (by simp at hf; omega) (by rw [← hr]; congr 2; omega)
    rw [← List.drop_drop, h]
    exact List.drop_left' (rowL_length _ _ _ _)
/-- A half that has these records, and old sectors behind. -/
theorem recs_cat {age : Nat} (ha : 1 ≤ age ∧ age < 4294967296) {l : List (List UInt8)} {ss rest : List (List UInt8)} (hl : l = catL age 0 ss ++ rest) (h5 : l.length ≤ 1024) (hr : joinB rest age (catN ss : Nat) = false) : recs l age = ss := by
  have h1 : catN ss ≤ l.length := by rw [hl, List.length_append, catL_length]; omega
  have h2 := catN_ge ss
  refine recsF_cat ha ss 0 _ rest (by rw [List.drop_zero]; exact hl) (by omega) (by omega) (by rw [Nat.zero_add]; exact hr)
theorem ageH_cat {age : Nat} (ha : 1 ≤ age ∧ age < 4294967296) {s : List UInt8} {ss rest : List (List UInt8)} : ageH (catL age 0 (s :: ss) ++ rest) = age := by
  have hn := manyN_pos s.length
  rw [ageH, List.getD_eq_getElem?_getD, catL, List.append_assoc, row_at hn]
  show agL (secL age 0 (recL s) 0) = age
  rw [secL, ag_frL ha (by omega) (chL_length _ _)]

/-! ### What is torn -/
theorem mix_fstG {a p k : Nat} {s y : List UInt8} (hs : s.length ≤ 112) (hy : y.length = 128) (hk : k ≤ 128) : fstL (mixL k (frL a p s) y) = mixL (min k 8) (stL a p) (y.take 8) := by
  have l1 := frL_length (a := a) (p := p) hs
  have l3 := stL_length a p
  have l4 : (y.take 8).length = 8 := by simp; omega
  rw [fstL, if_pos (by rw [mixL_length (by omega) (by omega), l1])]
  refine List.ext_getElem? fun i => ?_
  by_cases h : i < 8
  · rw [List.getElem?_take_of_lt h, mixL_get (by omega) (by omega), mixL_get (by omega) (by omega), fr_low h, List.getElem?_take_of_lt h]
    by_cases h2 : i < k
    · rw [if_pos h2, if_pos (by omega)]
    · rw [if_neg h2, if_neg (by omega)]
  · rw [List.getElem?_eq_none (by simp; omega), List.getElem?_eq_none (by rw [mixL_length (by omega) (by omega)]; omega)]
theorem mix_lstG {a p k : Nat} {s y : List UInt8} (hs : s.length ≤ 112) (hy : y.length = 128) (hk : k ≤ 128) : lstL (mixL k (frL a p s) y) = mixL (k - 120) (stL a p) (y.drop 120) := by
  have l1 := frL_length (a := a) (p := p) hs
  have l3 := stL_length a p
  have l4 : (y.drop 120).length = 8 := by simp; omega
  rw [lstL, if_pos (by rw [mixL_length (by omega) (by omega), l1])]
  refine List.ext_getElem? fun i => ?_
  rw [List.getElem?_drop, mixL_get (by omega) (by omega), mixL_get (by omega) (by omega), fr_high hs (by omega), List.getElem?_drop, show 120 + i - 120 = i by omega]
  by_cases h2 : 120 + i < k
  · rw [if_pos h2, if_pos (by omega)]
  · rw [if_neg h2, if_neg (by omega)]
theorem old_of {y : List UInt8} (hy : y.length = 128) : oldL y = max (ageN (y.take 8)) (ageN (y.drop 120)) := by rw [oldL, fstL, lstL, if_pos hy, if_pos hy]
theorem torn_new {a p k : Nat} {s y : List UInt8} (hs : s.length ≤ 112) (hy : y.length = 128) (hk : k ≤ 128) (ha : a < 4294967296) (ho : oldL y < a) :
    (isB (mixL k (frL a p s) y) = true → agL (mixL k (frL a p s) y) = a → mixL k (frL a p s) y = frL a p s) ∧ oldL (mixL k (frL a p s) y) ≤ a := by
  have l1 := frL_length (a := a) (p := p) hs
  have l3 := stL_length a p
  have l4 : (y.take 8).length = 8 := by simp; omega
  have l5 : (y.drop 120).length = 8 := by simp; omega
  have hov := old_of hy
  have e1 := stL_of l4
  have e2 := stL_of l5
  refine ⟨fun hi hg => ?_, ?_⟩
  · rw [agL, if_pos hi] at hg
    rw [isB, Bool.and_eq_true, beq_iff_eq] at hi
    have he := hi.1
    rcases Nat.lt_or_ge k 120 with h120 | h120
    · exfalso
      rw [he, mix_lstG hs hy hk, show k - 120 = 0 by omega] at hg
      have e0 : mixL 0 (stL a p) (y.drop 120) = y.drop 120 := by simp [mixL]
      rw [e0] at hg
      omega
    · rw [mix_fstG hs hy hk, mix_lstG hs hy hk, Nat.min_eq_right (by omega)] at he
      have e8 : mixL 8 (stL a p) (y.take 8) = stL a p := by rw [mixL, List.take_of_length_le (by omega), List.drop_of_length_le (by omega), List.append_nil]
      rw [e8] at he
      refine List.ext_getElem? fun i => ?_
      rw [mixL_get (by omega) (by omega)]
      by_cases h : i < k
      · rw [if_pos h]
      · rw [if_neg h, fr_high hs (by omega), he, mixL_get (by omega) (by omega), if_neg (by omega), List.getElem?_drop, show 120 + (i - 120) = i by omega]
  · rw [oldL, mix_fstG hs hy hk, mix_lstG hs hy hk, ← e1, ← e2]
    exact Nat.max_le.2 ⟨mix_age (by omega) (by omega), mix_age (by omega) (by omega)⟩
/-- Sectors of which some begin by a record's, and end by older ones: if there is a record of that age, it is that one, whole. -/
theorem join_torn {age u : Nat} (ha : 1 ≤ age ∧ age < 4294967296) {s : List UInt8} (hu : u + manyN s.length ≤ 1024) {D : List (List UInt8)}
    (hD : ∀ i x, D[i]? = some x → oldL x < age ∨ (i < manyN s.length ∧ ∃ c y, c ≤ 128 ∧ y.length = 128 ∧ oldL y < age ∧ x = mixL c (secL age u (recL s) i) y)) (hj : JoinIs D age u) :
    ∃ rest, D = rowL age u (recL s) (manyN s.length) ++ rest ∧ ∀ x ∈ rest, oldL x < age := by
  have hp : ∀ i, partB D i age u = true → i < manyN s.length ∧ D[i]? = some (secL age u (recL s) i) := fun i hi => by
    obtain ⟨x, hx, hb, hg, hpl⟩ := partB_iff.1 hi
    rcases hD i x hx with h1 | ⟨h1, c, y, hc, hy, ho, rfl⟩
    · have := agL_le x; omega
    · refine ⟨h1, ?_⟩
      rw [hx]
      congr 1
      exact (torn_new (p := u + i) (chL_length _ _) hy hc ha.2 ho).1 hb (Int.ofNat_inj.1 hg)
  have h0 := hp 0 (hj.2.1 0 (by rw [hj.1]; exact manyN_pos _))
  have hf := first_of ha hu h0.2
  have hall : ∀ i, i < manyN s.length → D[i]? = some (secL age u (recL s) i) := fun i hi => (hp i (hj.2.1 i (by rw [hf.1]; exact hi))).2
  refine ⟨D.drop (manyN s.length), ?_, fun x hx => ?_⟩
  · have : D.take (manyN s.length) = rowL age u (recL s) (manyN s.length) := by
      refine List.ext_getElem? fun i => ?_
      by_cases h : i < manyN s.length
      · rw [List.getElem?_take_of_lt h, hall i h, rowL_get h]
      · rw [List.getElem?_eq_none (by simp; omega), List.getElem?_eq_none (by rw [rowL_length]; omega)]
    rw [← this, List.take_append_drop]
  · obtain ⟨i, hi, rfl⟩ := List.getElem_of_mem hx
    have e : D[manyN s.length + i]? = some ((D.drop (manyN s.length))[i]) := by rw [← List.getElem?_drop, List.getElem?_eq_getElem hi]
    rcases hD _ _ e with h1 | ⟨h1, _⟩
    · exact h1
    · omega
end Go.Proofs.YthfnncahmccgkaaGreatDoor
