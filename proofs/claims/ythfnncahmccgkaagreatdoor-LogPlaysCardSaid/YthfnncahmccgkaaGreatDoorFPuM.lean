/-
  Plain functions of package frame: numbers as bytes, stamps, sectors, records.
  Package frame's number and put, over a slice of an array.
-/
import Derived.Test.YthfnncahmccgkaaGreatDoorBase
import Derived.Deep.QuietTactic
import Derived.BigQuiet
import Derived.WalkMore
import Derived.ScopeJumps
import Derived.Laws.BitsLemmas
import Derived.Laws.Shifts
import Derived.Test.YthfnncahmccgkaaGreatDoorDW
namespace Go.Proofs.YthfnncahmccgkaaGreatDoor
open Go Go.RowKit
set_option maxRecDepth 100000
set_option linter.unusedSimpArgs false
set_option linter.unusedVariables false

/-- The number that these bytes are, the least one first. -/
def numL : List UInt8 → Nat
  | [] => 0
  | b :: l => b.toNat + 256 * numL l
/-- A number, as so many bytes. -/
def bytesL : Nat → Nat → List UInt8
  | _, 0 => []
  | n, k + 1 => UInt8.ofNat n :: bytesL (n / 256) k
theorem bytesL_length (n k : Nat) : (bytesL n k).length = k := by
  induction k generalizing n with
  | zero => rfl
  | succ k ih => simp [bytesL, ih]
theorem numL_bytesL (n k : Nat) : numL (bytesL n k) = n % 256 ^ k := by
  induction k generalizing n with
  | zero => simp [bytesL, numL, Nat.mod_one]
  | succ k ih =>
    simp only [bytesL, numL, ih]
    rw [show (UInt8.ofNat n).toNat = n % 256 from by simp, Nat.pow_succ, Nat.mul_comm (256 ^ k) 256, Nat.mod_mul]
theorem numL_lt (l : List UInt8) : numL l < 256 ^ l.length := by
  induction l with
  | nil => simp [numL]
  | cons b l ih =>
    have := b.toNat_lt
    simp only [numL, List.length_cons, Nat.pow_succ]
    omega
theorem bytesL_numL (l : List UInt8) : bytesL (numL l) l.length = l := by
  induction l with
  | nil => rfl
  | cons b l ih =>
    have := b.toNat_lt
    simp only [numL, List.length_cons, bytesL]
    congr 1
    · rw [← UInt8.toNat_inj, show (UInt8.ofNat (b.toNat + 256 * numL l)).toNat = (b.toNat + 256 * numL l) % 256 from by simp]
      omega
    · rw [show (b.toNat + 256 * numL l) / 256 = numL l from by omega]; exact ih
theorem numL_inj {a b : List UInt8} (hl : a.length = b.length) (h : numL a = numL b) : a = b := by
  rw [← bytesL_numL a, ← bytesL_numL b, h, hl]
theorem numL_append (a b : List UInt8) : numL (a ++ b) = numL a + 256 ^ a.length * numL b := by
  induction a with
  | nil => simp [numL]
  | cons x a ih =>
    simp only [List.cons_append, numL, ih, List.length_cons, Nat.pow_succ, Nat.mul_add, Nat.mul_assoc, Nat.mul_comm, Nat.mul_left_comm]
    omega
theorem numL_snoc (a : List UInt8) (x : UInt8) : numL (a ++ [x]) = numL a + 256 ^ a.length * x.toNat := by
  rw [numL_append]; simp [numL]
theorem numL_replicate (k : Nat) : numL (List.replicate k 0) = 0 := by
  induction k with
  | zero => rfl
  | succ k ih => simp [List.replicate_succ, numL, ih]
theorem bytesL_take {n k j : Nat} (h : j ≤ k) : (bytesL n k).take j = bytesL n j := by
  induction j generalizing n k with
  | zero => simp [bytesL]
  | succ j ih =>
    obtain ⟨k, rfl⟩ : ∃ m, k = m + 1 := ⟨k - 1, by omega⟩
    simp only [bytesL, List.take_succ_cons, ih (show j ≤ k by omega)]
theorem bytesL_drop {n k j : Nat} (h : j ≤ k) : (bytesL n k).drop j = bytesL (n / 256 ^ j) (k - j) := by
  induction j generalizing n k with
  | zero => simp
  | succ j ih =>
    obtain ⟨k, rfl⟩ : ∃ m, k = m + 1 := ⟨k - 1, by omega⟩
    simp only [bytesL, List.drop_succ_cons, ih (show j ≤ k by omega)]
    rw [Nat.div_div_eq_div_mul, Nat.pow_succ, Nat.mul_comm (256 ^ j) 256, show k + 1 - (j + 1) = k - j from by omega]
theorem bytesL_snoc (n k : Nat) : bytesL n (k + 1) = bytesL n k ++ [UInt8.ofNat (n / 256 ^ k)] := by
  have h1 := bytesL_take (n := n) (k := k + 1) (j := k) (by omega)
  have h2 := bytesL_drop (n := n) (k := k + 1) (j := k) (by omega)
  rw [show k + 1 - k = 1 from by omega] at h2
  rw [← List.take_append_drop k (bytesL n (k + 1)), h1, h2]
  rfl

/-- There is such an age, and such a place. -/
def mayB (a p : Int) : Bool := decide (1 ≤ a ∧ a ≤ 4294967295 ∧ 0 ≤ p ∧ p ≤ 1023)
theorem mayB_iff {a p : Int} : mayB a p = true ↔ 1 ≤ a ∧ a ≤ 4294967295 ∧ 0 ≤ p ∧ p ≤ 1023 := by simp [mayB]
theorem mayB_nat {a p : Int} (h : mayB a p = true) : ∃ n q : Nat, a = n ∧ p = q ∧ 1 ≤ n ∧ n < 4294967296 ∧ q < 1024 := by
  obtain ⟨h1, h2, h3, h4⟩ := mayB_iff.1 h
  exact ⟨a.toNat, p.toNat, by omega, by omega, by omega, by omega, by omega⟩

def stL (a p : Nat) : List UInt8 := bytesL a 4 ++ bytesL p 4
theorem stL_length (a p : Nat) : (stL a p).length = 8 := by simp [stL, bytesL_length]
def padL (s : List UInt8) : List UInt8 := s ++ List.replicate (112 - s.length) 0
theorem padL_length {s : List UInt8} (h : s.length ≤ 112) : (padL s).length = 112 := by simp [padL]; omega
def frL (a p : Nat) (s : List UInt8) : List UInt8 := stL a p ++ (padL s ++ stL a p)
theorem frL_length {a p : Nat} {s : List UInt8} (h : s.length ≤ 112) : (frL a p s).length = 128 := by simp [frL, stL_length, padL_length h]
def ageN (s : List UInt8) : Nat := numL (s.take 4)
def plN (s : List UInt8) : Nat := numL ((s.drop 4).take 4)
theorem ageN_lt (s : List UInt8) : ageN s < 4294967296 := by
  have h := numL_lt (s.take 4)
  have h2 : 256 ^ (s.take 4).length ≤ 256 ^ 4 := Nat.pow_le_pow_right (by omega) (by simp; omega)
  unfold ageN
  omega
theorem plN_lt (s : List UInt8) : plN s < 4294967296 := by
  have h := numL_lt ((s.drop 4).take 4)
  have h2 : 256 ^ ((s.drop 4).take 4).length ≤ 256 ^ 4 := Nat.pow_le_pow_right (by omega) (by simp; omega)
  unfold plN
  omega
theorem ageN_stL {a p : Nat} (h : a < 4294967296) : ageN (stL a p) = a := by
  unfold ageN stL
  rw [List.take_left' (bytesL_length _ _), numL_bytesL]
  exact Nat.mod_eq_of_lt h
theorem plN_stL {a p : Nat} (h : p < 4294967296) : plN (stL a p) = p := by
  unfold plN stL
  rw [List.drop_left' (bytesL_length _ _), List.take_of_length_le (by rw [bytesL_length]; omega), numL_bytesL]
  exact Nat.mod_eq_of_lt h
theorem stL_of {s : List UInt8} (h : s.length = 8) : stL (ageN s) (plN s) = s := by
  unfold stL ageN plN
  have h1 : (s.take 4).length = 4 := by simp; omega
  have h2 : ((s.drop 4).take 4).length = 4 := by simp; omega
  have e1 := bytesL_numL (s.take 4)
  have e2 := bytesL_numL ((s.drop 4).take 4)
  rw [h1] at e1; rw [h2] at e2
  rw [e1, e2, List.take_of_length_le (l := s.drop 4) (by simp; omega), List.take_append_drop]
theorem ageN_zero : ageN (List.replicate 8 0) = 0 := by decide
theorem plN_zero : plN (List.replicate 8 0) = 0 := by decide

def fstL (x : List UInt8) : List UInt8 := if x.length = 128 then x.take 8 else List.replicate 8 0
def lstL (x : List UInt8) : List UInt8 := if x.length = 128 then x.drop 120 else List.replicate 8 0
theorem fstL_length (x : List UInt8) : (fstL x).length = 8 := by unfold fstL; split <;> simp; omega
theorem lstL_length (x : List UInt8) : (lstL x).length = 8 := by unfold lstL; split <;> simp; omega
/-- It is a sector. -/
def isB (x : List UInt8) : Bool := (fstL x == lstL x) && mayB (ageN (fstL x)) (plN (fstL x))
theorem isB_len {x : List UInt8} (h : isB x = true) : x.length = 128 := by
  rcases Nat.decEq x.length 128 with h1 | h1
  · exfalso
    have e : fstL x = List.replicate 8 0 := by simp [fstL, h1]
    simp only [isB, e, ageN_zero, Bool.and_eq_true] at h
    have := (mayB_iff.1 h.2).1
    omega
  · exact h1
def agL (x : List UInt8) : Nat := if isB x then ageN (fstL x) else 0
def plL (x : List UInt8) : Nat := if isB x then plN (fstL x) else 0
def bodL (x : List UInt8) : List UInt8 := if isB x then (x.drop 8).take 112 else []
def oldL (x : List UInt8) : Nat := max (ageN (fstL x)) (ageN (lstL x))
theorem bodL_length {x : List UInt8} (h : isB x = true) : (bodL x).length = 112 := by
  have := isB_len h
  simp [bodL, h]; omega
theorem fst_frL {a p : Nat} {s : List UInt8} (h : s.length ≤ 112) : fstL (frL a p s) = stL a p := by
  rw [fstL, if_pos (frL_length h), frL, List.take_left' (stL_length _ _)]
theorem lst_frL {a p : Nat} {s : List UInt8} (h : s.length ≤ 112) : lstL (frL a p s) = stL a p := by
  rw [lstL, if_pos (frL_length h), frL, ← List.append_assoc, List.drop_left' (by rw [List.length_append, stL_length, padL_length h])]
theorem is_frL {a p : Nat} {s : List UInt8} (ha : 1 ≤ a ∧ a < 4294967296) (hp : p < 1024) (h : s.length ≤ 112) : isB (frL a p s) = true := by
  rw [isB, fst_frL h, lst_frL h, ageN_stL ha.2, plN_stL (by omega)]
  simp [mayB]; omega
theorem ag_frL {a p : Nat} {s : List UInt8} (ha : 1 ≤ a ∧ a < 4294967296) (hp : p < 1024) (h : s.length ≤ 112) : agL (frL a p s) = a := by
  rw [agL, if_pos (is_frL ha hp h), fst_frL h, ageN_stL ha.2]
theorem pl_frL {a p : Nat} {s : List UInt8} (ha : 1 ≤ a ∧ a < 4294967296) (hp : p < 1024) (h : s.length ≤ 112) : plL (frL a p s) = p := by
  rw [plL, if_pos (is_frL ha hp h), fst_frL h, plN_stL (by omega)]
theorem mid_frL {a p : Nat} {s : List UInt8} (h : s.length ≤ 112) : ((frL a p s).drop 8).take 112 = padL s := by
  rw [frL, List.drop_left' (stL_length _ _), List.take_left' (padL_length h)]
theorem bod_frL {a p : Nat} {s : List UInt8} (ha : 1 ≤ a ∧ a < 4294967296) (hp : p < 1024) (h : s.length ≤ 112) : bodL (frL a p s) = padL s := by
  rw [bodL, if_pos (is_frL ha hp h), mid_frL h]
theorem old_frL {a p : Nat} {s : List UInt8} (ha : a < 4294967296) (h : s.length ≤ 112) : oldL (frL a p s) = a := by
  rw [oldL, fst_frL h, lst_frL h, ageN_stL ha, Nat.max_self]
/-- Put's answer. -/
def putE (a p : Int) (n : Nat) : Int := if mayB a p then if n ≤ 112 then 0 else 40 else 1
def putL (a p : Int) (s : List UInt8) : List UInt8 := if putE a p s.length = 0 then frL a.toNat p.toNat s else []
theorem putE_ok {a p : Int} {n : Nat} : putE a p n = 0 ↔ mayB a p = true ∧ n ≤ 112 := by
  unfold putE
  split
  · split <;> simp_all
  · simp_all

/-! ### Records -/
def manyN (n : Nat) : Nat := (n + 117) / 112
theorem manyN_pos (n : Nat) : 1 ≤ manyN n := by unfold manyN; omega
theorem manyN_ge (n : Nat) : 6 + n ≤ 112 * manyN n := by unfold manyN; omega
theorem manyN_lt (n : Nat) : 112 * manyN n ≤ n + 117 := by unfold manyN; omega
def manyI (z : Int) : Int := if z < 0 then 0 else (manyN z.toNat : Nat)
def recL (s : List UInt8) : List UInt8 := bytesL (manyN s.length) 2 ++ (bytesL s.length 4 ++ s)
theorem recL_length (s : List UInt8) : (recL s).length = 6 + s.length := by simp [recL, bytesL_length]; omega
def chL (t : List UInt8) (i : Nat) : List UInt8 := (t.drop (112 * i)).take 112
theorem chL_length (t : List UInt8) (i : Nat) : (chL t i).length ≤ 112 := by simp [chL]; omega
def secL (a p : Nat) (t : List UInt8) (i : Nat) : List UInt8 := frL a (p + i) (chL t i)
def rowL (a p : Nat) (t : List UInt8) (n : Nat) : List (List UInt8) := (List.range n).map (secL a p t)
def splE (a p : Int) (n : Nat) : Int := if mayB a p then if p + manyN n ≤ 1024 then 0 else 40 else 1
def splL (a p : Int) (s : List UInt8) : List (List UInt8) := if splE a p s.length = 0 then rowL a.toNat p.toNat (recL s) (manyN s.length) else []
theorem splE_ok {a p : Int} {n : Nat} : splE a p n = 0 ↔ mayB a p = true ∧ p + manyN n ≤ 1024 := by
  unfold splE
  split
  · split <;> simp_all
  · simp_all
theorem rowL_length (a p : Nat) (t : List UInt8) (n : Nat) : (rowL a p t n).length = n := by simp [rowL]
theorem rowL_get {a p : Nat} {t : List UInt8} {n i : Nat} (h : i < n) : (rowL a p t n)[i]? = some (secL a p t i) := by simp [rowL, h]
theorem rowL_succ (a p : Nat) (t : List UInt8) (n : Nat) : rowL a p t (n + 1) = rowL a p t n ++ [secL a p t n] := by simp [rowL, List.range_succ]

/-- In place i there lies a sector of that age, so far behind that place. -/
def partB (l : List (List UInt8)) (i : Nat) (a p : Int) : Bool := match l[i]? with
  | none => false
  | some x => isB x && decide ((agL x : Int) = a) && decide ((plL x : Int) = p + i)
theorem partB_iff {l : List (List UInt8)} {i : Nat} {a p : Int} : partB l i a p = true ↔ ∃ x, l[i]? = some x ∧ isB x = true ∧ (agL x : Int) = a ∧ (plL x : Int) = p + i := by
  unfold partB
  cases h : l[i]? with
  | none => simp
  | some x => simp [and_assoc]
def bodies (l : List (List UInt8)) (n : Nat) : List UInt8 := (l.take n).flatMap bodL
theorem bodies_zero (l : List (List UInt8)) : bodies l 0 = [] := by simp [bodies]
theorem bodies_succ {l : List (List UInt8)} {n : Nat} {x : List UInt8} (h : l[n]? = some x) : bodies l (n + 1) = bodies l n ++ bodL x := by
  unfold bodies
  rw [List.take_add_one, h]
  simp
def fstN (l : List (List UInt8)) : Nat := numL ((bodL (l.getD 0 [])).take 2)
def fstLong (l : List (List UInt8)) : Nat := numL (((bodL (l.getD 0 [])).drop 2).take 4)
def allP (l : List (List UInt8)) (n : Nat) (a p : Int) : Prop := ∀ i, i < n → partB l i a p = true
def zerosB (t : List UInt8) : Bool := t.all (· == 0)
/-- The record that the first of these begin by. -/
def JoinIs (l : List (List UInt8)) (a p : Int) : Prop := fstN l = manyN (fstLong l) ∧ allP l (fstN l) a p ∧ zerosB ((bodies l (fstN l)).drop (6 + fstLong l)) = true
open Classical in
noncomputable def joinB (l : List (List UInt8)) (a p : Int) : Bool := decide (JoinIs l a p)
noncomputable def joinT (l : List (List UInt8)) (a p : Int) : List UInt8 := if joinB l a p then ((bodies l (fstN l)).drop 6).take (fstLong l) else []
noncomputable def joinN (l : List (List UInt8)) (a p : Int) : Nat := if joinB l a p then fstN l else 0
theorem joinB_iff {l : List (List UInt8)} {a p : Int} : joinB l a p = true ↔ JoinIs l a p := by simp [joinB]
theorem joinB_false {l : List (List UInt8)} {a p : Int} (h : ¬ JoinIs l a p) : joinB l a p = false ∧ joinT l a p = [] ∧ joinN l a p = 0 := by
  have hb : joinB l a p = false := by simp [joinB, h]
  exact ⟨hb, by simp [joinT, hb], by simp [joinN, hb]⟩
theorem joinB_true {l : List (List UInt8)} {a p : Int} (h : JoinIs l a p) : joinB l a p = true ∧ joinT l a p = ((bodies l (fstN l)).drop 6).take (fstLong l) ∧ joinN l a p = fstN l := by
  have hb := joinB_iff.2 h
  exact ⟨hb, by simp [joinT, hb], by simp [joinN, hb]⟩
theorem bodies_length {l : List (List UInt8)} {a p : Int} {n : Nat} (h : allP l n a p) : (bodies l n).length = 112 * n := by
  induction n with
  | zero => simp [bodies]
  | succ n ih =>
    obtain ⟨x, hx, hi, _⟩ := partB_iff.1 (h n (by omega))
    rw [bodies_succ hx, List.length_append, ih (fun i hi => h i (by omega)), bodL_length hi]
    omega
end Go.Proofs.YthfnncahmccgkaaGreatDoor

namespace Go.Proofs.YthfnncahmccgkaaGreatDoor
set_option linter.unusedSimpArgs false
set_option linter.unusedVariables false
open Go Go.RowKit
set_option maxRecDepth 100000

theorem below_alloc (w : World) (o : Obj) : Below w.heap.size w (w.alloc o) := (Below.refl _ _).alloc (Nat.le_refl _) _
theorem below_drewN {n : Nat} {w w' : World} (h : Below n w w') (k : Nat) : Below n w (w'.drewN k) := ⟨h.os, h.tape, h.output, h.size, h.block⟩
theorem str_append (a b : List UInt8) : str a ++ str b = str (a ++ b) := by
  apply ByteArray.ext
  simp [str, ByteArray.data_append]

theorem wrap64_small {z : Int} (h0 : 0 ≤ z) (h1 : z < 9223372036854775808) : wrap64 z = z := by unfold wrap64; omega
theorem wraps_i64_32 (n : Int) (h0 : 0 ≤ n) (h1 : n < 2 ^ 32) : IntKind.i64.wrap n = n := by rw [IntKind.wrap_i64]; omega
theorem or_step {a x k : Nat} (hk : k < 4) (ha : a < 256 ^ k) (hx : x < 256) : bits .or .i64 (a : Int) (wrap64 ((x : Int) * 2 ^ (8 * k))) = ((a + 256 ^ k * x : Nat) : Int) := by
  have hb : (256 : Nat) ^ k ≤ 256 ^ 3 := Nat.pow_le_pow_right (by omega) (by omega)
  have h1 : 256 ^ k * x ≤ 256 ^ 3 * 255 := Nat.mul_le_mul hb (by omega)
  have e0 : (2 : Nat) ^ (8 * k) = 256 ^ k := by rw [show (256 : Nat) = 2 ^ 8 from rfl, ← Nat.pow_mul]
  have e1 : wrap64 ((x : Int) * 2 ^ (8 * k)) = ((256 ^ k * x : Nat) : Int) := by
    have e2 : (x : Int) * 2 ^ (8 * k) = ((256 ^ k * x : Nat) : Int) := by
      rw [← e0]; push_cast; rw [Int.mul_comm]
    rw [e2, wrap64_small (by omega) (by omega)]
  have h2 : a < 2 ^ 32 := by omega
  have h3 : 256 ^ k * x < 2 ^ 32 := by omega
  rw [e1, (bits_nat .i64 32 (by decide) wraps_i64_32 a (256 ^ k * x) h2 h3).2]
  have h4 : a < 2 ^ (8 * k) := by rw [e0]; exact ha
  have := Nat.two_pow_add_eq_or_of_lt h4 x
  rw [e0] at this
  rw [Nat.or_comm, ← this, Nat.add_comm]
theorem take_next {l : List UInt8} {k : Nat} (h : k < l.length) : l.take (k + 1) = l.take k ++ [l.getD k 0] := by
  rw [List.take_succ_eq_append_getElem h, List.getD_eq_getElem?_getD, List.getElem?_eq_getElem h]
  rfl

set_option maxHeartbeats 2000000 in
theorem number_any {w : World} (l : List UInt8) (hl : l.length ≤ 4) (b o c : Nat) (hc : ∀ j, j < l.length → w.cell? ⟨b, o + j, none⟩ = some (bv (l.getD j 0))) :
    Calls Tryz.prog 88 #[.slice (some ⟨b, o, none⟩) l.length c] w fun e w' => e = .returned (.int .i64 (numL l)) ∧ w = w' := by
  have HC := Lib.hid hc
  clear hc
  go_enter Tryz.func88, Tryz.ntmps88
  go_wp2_with fail
  go_loop [3, 8] (fun n i => ∃ k : Nat, k ≤ l.length ∧ i = .int .i64 k ∧ n = .int .i64 (numL (l.take k))) (fun _ i => l.length - (intOf i).toNat)
  case atStart => exact ⟨0, Nat.zero_le _, rfl, rfl⟩
  case round =>
    obtain ⟨k, hk, rfl, rfl⟩ := hrel
    by_cases hlt : k < l.length
    · have c1 := HC.out k hlt
      have hs : numL (l.take (k + 1)) = numL (l.take k) + 256 ^ k * (l.getD k 0).toNat := by
        rw [take_next hlt, numL_snoc]
        simp [hk]
      obtain ⟨x, hx⟩ : ∃ x, x = l.getD k 0 := ⟨_, rfl⟩
      rw [← hx] at c1 hs
      have ha : numL (l.take k) < 256 ^ k := by have := numL_lt (l.take k); simpa [List.length_take, Nat.min_eq_left hk] using this
      unfold bv at c1
      have hlt' : (k : Int) < (l.length : Int) := by omega
      have hx256 := x.toNat_lt
      have hor := or_step (k := k) (by omega) ha hx256
      obtain ⟨A, hA⟩ : ∃ A, A = numL (l.take k) := ⟨_, rfl⟩
      rw [← hA] at hs hor ⊢
      rw [← hs] at hor
      have HOR := Lib.hid hor
      clear hx hs ha hA hor
      go_wp2_with fail
      go_round
      case rel => exact ⟨k + 1, by omega, by go_num, by rw [← HOR.out]⟩
      case measure => simp [intOf]; omega
    · obtain rfl : k = l.length := by omega
      go_wp2_with fail
      go_ret
      exact ⟨rfl, rfl⟩

/-! ### Arrays of bytes -/
def cellsOfF (l : List UInt8) : List Value := l.map bv
theorem cellsOf_lengthF (l : List UInt8) : (cellsOfF l).length = l.length := by simp [cellsOfF]
theorem cellsOf_oneF (l : List UInt8) : ∀ v ∈ cellsOfF l, v.oneCell' = true := by
  intro v hv
  simp only [cellsOfF, List.mem_map] at hv
  obtain ⟨b, _, rfl⟩ := hv
  rfl
theorem cells_allF (l : List UInt8) : (cellsOfF l).toArray.all (·.oneCell') = true := by
  rw [Array.all_eq_true']
  intro v hv
  exact cellsOf_oneF l v (by simpa using hv)
/-- Block g is an array of these bytes. -/
def AB (w : World) (g : Nat) (T : TypeId) (l : List UInt8) : Prop := w.heap[g]? = some (.cells (cellsOfF l).toArray T (0, 0))
theorem AB.lt {w : World} {g : Nat} {T : TypeId} {l : List UInt8} (h : AB w g T l) : g < w.heap.size := lt_of_blk h
theorem AB.cell {w : World} {g : Nat} {T : TypeId} {l : List UInt8} (h : AB w g T l) {j : Nat} (hj : j < l.length) : w.cell? ⟨g, j, none⟩ = some (bv (l.getD j 0)) := by
  rw [cellAt h]
  simp [cellsOfF, List.getD_eq_getElem?_getD, hj]
theorem AB.free {w : World} {g : Nat} {T : TypeId} {l : List UInt8} (h : AB w g T l) (j : Nat) : w.frozen? ⟨g, j, none⟩ = false := freeAt h j
theorem AB.drew {w : World} {g : Nat} {T : TypeId} {l : List UInt8} (h : AB w g T l) : AB w.drew g T l := h
theorem AB.alloc {w : World} {g : Nat} {T : TypeId} {l : List UInt8} (h : AB w g T l) (o : Obj) : AB (w.alloc o) g T l := (Lib.alloc_old w o g h.lt).trans h
theorem AB.new (w : World) (T : TypeId) (l : List UInt8) : AB (w.alloc (.cells (cellsOfF l).toArray T)) w.heap.size T l := heap_alloc_new w _
theorem AB.below {w w' : World} {g n : Nat} {T : TypeId} {l : List UInt8} (h : AB w g T l) (hb : Below n w w') (hn : g < n) : AB w' g T l := (hb.block g hn).trans h
theorem AB.kp {S : List Nat} {w w' : World} {g : Nat} {T : TypeId} {l : List UInt8} (h : AB w g T l) (hk : Kp S w w') (hg : g ∉ S) : AB w' g T l := (hk.block g h.lt hg).trans h
theorem AB.setRow {w : World} {g : Nat} {T : TypeId} {l : List UInt8} (h : AB w g T l) (m : List UInt8) : AB (w.setRow g (cellsOfF m).toArray) g T m := setRow_heap w g _ _ _ _ h
theorem AB.setOther {w : World} {g k : Nat} {T : TypeId} {l : List UInt8} (h : AB w g T l) (hne : g ≠ k) (cs : Array Value) : AB (w.setRow k cs) g T l := (setRow_other w k g cs hne).trans h
theorem AB.set {w : World} {g : Nat} {T : TypeId} {l : List UInt8} (h : AB w g T l) (j : Nat) (x : UInt8) : AB (w.setCell ⟨g, j, none⟩ (bv x)) g T (l.set j x) := by
  unfold AB at h ⊢
  simp [World.setCell, Array.getElem?_modify, h, cellsOfF, List.map_set]

/-- A text's middle is replaced. -/
def midL (m : List UInt8) (o : Nat) (x : List UInt8) : List UInt8 := m.take o ++ (x ++ m.drop (o + x.length))
theorem midL_length {m : List UInt8} {o : Nat} {x : List UInt8} (h : o + x.length ≤ m.length) : (midL m o x).length = m.length := by simp [midL]; omega
theorem midL_step {m : List UInt8} {o : Nat} {x : List UInt8} (y : UInt8) (h : o + x.length < m.length) : (midL m o x).set (o + x.length) y = midL m o (x ++ [y]) := by
  have h1 : (m.take o).length = o := by simp; omega
  unfold midL
  rw [List.set_append_right _ _ (by omega), h1, show o + x.length - o = x.length from by omega, List.set_append_right _ _ (by omega), Nat.sub_self]
  have h2 : m.drop (o + x.length) = m[o + x.length] :: m.drop (o + x.length + 1) := List.drop_eq_getElem_cons h
  rw [h2, List.set_cons_zero]
  simp [Nat.add_assoc]

theorem shr_step (n k : Nat) (hk : k < 4) : ((n : Int) / 2 ^ (8 * k) % 256 : Int) = ((UInt8.ofNat (n / 256 ^ k)).toNat : Int) := by
  have e0 : (2 : Nat) ^ (8 * k) = 256 ^ k := by rw [show (256 : Nat) = 2 ^ 8 from rfl, ← Nat.pow_mul]
  have e1 : (n : Int) / 2 ^ (8 * k) = ((n / 256 ^ k : Nat) : Int) := by rw [← e0]; push_cast; rfl
  rw [e1, show (UInt8.ofNat (n / 256 ^ k)).toNat = (n / 256 ^ k) % 256 from by simp]
  omega

set_option maxHeartbeats 2000000 in
theorem put_any {w : World} (n k : Nat) (hn : n < 4294967296) (hk : k ≤ 4) {b o c : Nat} {T : TypeId} {m : List UInt8} (hb : AB w b T m) (ho : o + k ≤ m.length) :
    Calls Tryz.prog 98 #[.slice (some ⟨b, o, none⟩) k c, .int .i64 n] w fun e w' => e = .returned (.tuple #[]) ∧ AB w' b T (midL m o (bytesL n k)) ∧ Kp [b] w w' := by
  have H0 := Lib.hid (show AB w b T (midL m o (bytesL n 0)) from by simpa [midL, bytesL] using hb)
  clear hb
  go_enter Tryz.func98, Tryz.ntmps98
  go_wp2_with fail
  go_loopw [7] (fun i wr => ∃ j : Nat, j ≤ k ∧ i = .int .i64 j ∧ AB wr b T (midL m o (bytesL n j)) ∧ Kp [b] w wr) (fun i _ => k - (intOf i).toNat)
  case atStart => exact ⟨0, Nat.zero_le _, rfl, H0.out, Kp.refl _ _⟩
  case round =>
    obtain ⟨j, hj, rfl, hB, hK⟩ := hrel
    by_cases hlt : j < k
    · have hlt' : (j : Int) < (k : Int) := by omega
      have hlen := midL_length (m := m) (o := o) (x := bytesL n j) (by rw [bytesL_length]; omega)
      have c1 := hB.cell (j := o + j) (by rw [hlen]; omega)
      have f1 := hB.free (o + j)
      have hsh := shr_step n j (by omega)
      have hst := hB.set (o + j) (UInt8.ofNat (n / 256 ^ j))
      have hms := midL_step (m := m) (o := o) (x := bytesL n j) (UInt8.ofNat (n / 256 ^ j)) (by rw [bytesL_length]; omega)
      rw [bytesL_length] at hms
      rw [hms, ← bytesL_snoc] at hst
      have hK2 := hK.setCell (p := ⟨b, o + j, none⟩) (by simp) (bv (UInt8.ofNat (n / 256 ^ j)))
      unfold bv at hst hK2
      have HST := Lib.hid hst
      have HK2 := Lib.hid hK2
      have HSH := Lib.hid hsh
      clear hst hK2 hsh hms hlen hB hK
      go_wp2_with fail
      go_roundw
      case rel =>
        refine ⟨j + 1, by omega, by go_num, ?_, ?_⟩
        · rw [HSH.out]; exact HST.out
        · rw [HSH.out]; exact HK2.out
      case measure => simp [intOf]; omega
    · obtain rfl : j = k := by omega
      go_wp2_with fail
      go_end0
      exact ⟨rfl, hB, hK⟩
end Go.Proofs.YthfnncahmccgkaaGreatDoor
