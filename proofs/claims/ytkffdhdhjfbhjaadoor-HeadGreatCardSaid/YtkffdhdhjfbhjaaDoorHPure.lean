/-
  Package head, as plain functions on lists of bytes: names, values, the lines of a head, its fields, the body.
-/

import Derived.Test.YtkffdhdhjfbhjaaDoorSPure
namespace Go.Proofs.YtkffdhdhjfbhjaaDoor
open Go
set_option maxRecDepth 100000

def smallB (b : UInt8) : UInt8 := if 65 ≤ b ∧ b ≤ 90 then b + 32 else b
def likeB (a b : List UInt8) : Bool := a.map smallB == b.map smallB
def okN (c : UInt8) : Bool := decide (32 < c) && decide (c ≤ 126) && !(c == 58)
def nameB (n : List UInt8) : Bool := n.all okN && !n.isEmpty
def okV (c : UInt8) : Bool := c == 9 || (decide (32 ≤ c) && decide (c ≤ 126))
def onB (c : UInt8) : Bool := c == 32 || c == 9
def trimL (v : List UInt8) : List UInt8 := (v.reverse.dropWhile onB).reverse.dropWhile onB
def valB (v : List UInt8) : Bool := v.all okV && trimL v == v

/-- A field: its name, its value. -/
abbrev FP := List UInt8 × List UInt8

def goesB (l : List UInt8) : Bool := match l with | [] => false | c :: _ => onB c

/-- A line by which a field begins: the name, and what stands behind the colon. -/
def beginB (l : List UInt8) : Option FP :=
  let c := Lib.cut l [58]
  if c.2.2 && nameB c.1 then some (c.1, c.2.1) else none

def flN : Nat → List (List UInt8) → List FP
  | 0, _ => []
  | _ + 1, [] => []
  | k + 1, l :: r => match beginB l with
    | none => []
    | some p => (p.1, trimL (p.2 ++ (r.takeWhile goesB).flatten)) :: flN k (r.dropWhile goesB)

def fl (ls : List (List UInt8)) : List FP := flN ls.length ls

theorem dropWhile_len {α : Type} (p : α → Bool) (l : List α) : (l.dropWhile p).length ≤ l.length := by
  induction l with
  | nil => exact Nat.le_refl _
  | cons x l ih => rw [List.dropWhile_cons]; split <;> simp <;> omega

theorem flN_enough : ∀ (k m : Nat) (ls : List (List UInt8)), ls.length ≤ k → ls.length ≤ m → flN k ls = flN m ls := by
  intro k
  induction k with
  | zero =>
    intro m ls h _
    obtain rfl : ls = [] := List.eq_nil_of_length_eq_zero (by omega)
    cases m <;> rfl
  | succ k ih =>
    intro m ls h h'
    cases ls with
    | nil => cases m <;> rfl
    | cons l r =>
      cases m with
      | zero => simp at h'
      | succ m =>
        simp only [flN]
        cases beginB l with
        | none => rfl
        | some p =>
          have := dropWhile_len goesB r
          simp only [List.length_cons] at h h'
          rw [ih m _ (by omega) (by omega)]

theorem fl_nil : fl [] = [] := rfl
theorem fl_none {l : List UInt8} (r : List (List UInt8)) (h : beginB l = none) : fl (l :: r) = [] := by
  unfold fl
  simp only [List.length_cons, flN, h]
theorem fl_some {l : List UInt8} {p : FP} (r : List (List UInt8)) (h : beginB l = some p) : fl (l :: r) = (p.1, trimL (p.2 ++ (r.takeWhile goesB).flatten)) :: fl (r.dropWhile goesB) := by
  unfold fl
  simp only [List.length_cons, flN, h]
  rw [flN_enough r.length (r.dropWhile goesB).length _ (dropWhile_len _ _) (Nat.le_refl _)]

def neB (l : List UInt8) : Bool := !l.isEmpty
def headL (s : List UInt8) : List (List UInt8) := (cutL s).takeWhile neB
def fieldsL (s : List UInt8) : List FP := fl (headL s)
def getL (s n : List UInt8) : List (List UInt8) := ((fieldsL s).filter fun f => likeB f.1 n).map (·.2)
def reqL : List UInt8 := [84, 76, 83, 45, 82, 101, 113, 117, 105, 114, 101, 100]
def recL : List UInt8 := [82, 101, 99, 101, 105, 118, 101, 100]
def plainL (s : List UInt8) : Bool := match getL s reqL with
  | [v] => likeB v [78, 111]
  | _ => false
def hopsL (s : List UInt8) : Nat := (getL s recL).length
def bodyL (s : List UInt8) : List UInt8 := match (cutL s).dropWhile neB with
  | [] => []
  | _ :: r => joinL r ++ restL s
def showL (f : FP) : List UInt8 × Int := if nameB f.1 && valB f.2 then (f.1 ++ 58 :: 32 :: f.2, 0) else ([], 4)

/-! ### How long they are -/
theorem flatten_take_le {α : Type} (p : List α → Bool) (r : List (List α)) : (r.takeWhile p).flatten.length + (r.dropWhile p).flatten.length = r.flatten.length := by
  conv => rhs; rw [← List.takeWhile_append_dropWhile (p := p) (l := r)]
  rw [List.flatten_append, List.length_append]

theorem dropWhile_le {α : Type} (p : α → Bool) (l : List α) : (l.dropWhile p).length ≤ l.length := dropWhile_len p l
theorem trimL_le (v : List UInt8) : (trimL v).length ≤ v.length := by
  unfold trimL
  have h1 := dropWhile_len onB v.reverse
  have h2 := dropWhile_len onB (v.reverse.dropWhile onB).reverse
  simp only [List.length_reverse] at h1 h2
  omega
end Go.Proofs.YtkffdhdhjfbhjaaDoor
