/-
  Where a parameter of a name stands; no two of one name; what Mail and Rcpt make.
  Plain functions and lemmas; no program.
-/
import Derived.Test.YtifmnlcggokfkaaGreatDoorKPure2
namespace Go.Proofs.YtifmnlcggokfkaaGreatDoor

def findF : Nat → List PM → List UInt8 → Int
  | _, [], _ => -1
  | i, p :: l, n => if p.1 = n then (i : Int) else findF (i + 1) l n
/-- The place of the first parameter of that name; -1: there is none. -/
def findP (l : List PM) (n : List UInt8) : Int := findF 0 l n
theorem findF_spec : ∀ (l : List PM) (i : Nat) (n : List UInt8), (findF i l n = -1 ∧ ∀ p ∈ l, p.1 ≠ n) ∨ ∃ k, ∃ h : k < l.length, findF i l n = ((i + k : Nat) : Int) ∧ (l[k]).1 = n ∧ ∀ j, ∀ h : j < l.length, j < k → (l[j]).1 ≠ n
  | [], i, n => .inl ⟨rfl, by simp⟩
  | p :: l, i, n => by
    unfold findF
    by_cases hp : p.1 = n
    · rw [if_pos hp]
      exact .inr ⟨0, by simp, rfl, hp, fun j _ hj => by omega⟩
    · rw [if_neg hp]
      rcases findF_spec l (i + 1) n with ⟨h1, h2⟩ | ⟨k, h, h1, h2, h3⟩
      · refine .inl ⟨h1, fun q hq => ?_⟩
        rcases List.mem_cons.1 hq with rfl | hq
        · exact hp
        · exact h2 q hq
      · refine .inr ⟨k + 1, by simpa using h, by rw [h1]; congr 1; omega, by simpa using h2, fun j hj hk => ?_⟩
        cases j with
        | zero => exact hp
        | succ j => simpa using h3 j (by simpa using hj) (by omega)
theorem findP_spec (l : List PM) (n : List UInt8) : (findP l n = -1 ∧ ∀ p ∈ l, p.1 ≠ n) ∨ ∃ k, ∃ h : k < l.length, findP l n = (k : Int) ∧ (l[k]).1 = n ∧ ∀ j, ∀ h : j < l.length, j < k → (l[j]).1 ≠ n := by
  have := findF_spec l 0 n
  simpa [findP] using this
theorem findF_drop {l : List PM} {k : Nat} (h : k < l.length) (n : List UInt8) : findF k (l.drop k) n = if (l.getD k pm0).1 = n then (k : Int) else findF (k + 1) (l.drop (k + 1)) n := by
  rw [List.drop_eq_getElem_cons h, List.getD_eq_getElem?_getD, List.getElem?_eq_getElem h]
  rfl
theorem findP_range (l : List PM) (n : List UInt8) : -1 ≤ findP l n ∧ findP l n < l.length := by
  rcases findP_spec l n with ⟨h, _⟩ | ⟨k, hk, h, _⟩ <;> omega
theorem pm_getD {l : List PM} {k : Nat} (h : k < l.length) : l.getD k pm0 = l[k] := by rw [List.getD_eq_getElem?_getD, List.getElem?_eq_getElem h]; rfl
theorem nodup_find {l : List PM} : (l.map (·.1)).Nodup ↔ ∀ j, j < l.length → findP l (l.getD j pm0).1 = (j : Int) := by
  constructor
  · intro hn j hj
    rw [pm_getD hj]
    rcases findP_spec l (l[j]).1 with ⟨_, h2⟩ | ⟨k, hk, h1, h2, h3⟩
    · exact absurd rfl (h2 l[j] (List.getElem_mem hj))
    · rw [h1]
      rcases Nat.lt_trichotomy k j with h | h | h
      · exact absurd h2 ((List.pairwise_iff_getElem.1 hn k j (by simpa using hk) (by simpa using hj) h |> fun e => by simpa using e))
      · rw [h]
      · exact absurd rfl (h3 j hj h)
  · intro h
    refine List.pairwise_iff_getElem.2 fun i j hi hj hij => ?_
    simp only [List.length_map] at hi hj
    rw [List.getElem_map, List.getElem_map]
    have hf := h j hj
    rw [pm_getD hj] at hf
    rcases findP_spec l (l[j]).1 with ⟨h1, _⟩ | ⟨k, hk, h1, h2, h3⟩
    · rw [h1] at hf; omega
    · rw [h1] at hf
      obtain rfl : k = j := by omega
      exact h3 i hi hij
/-- Is it so up to a place? -/
def okUpto (l : List PM) (k : Nat) : Prop := ∀ j, j < k → pL (l.getD j pm0) = true ∧ findP l (l.getD j pm0).1 = (j : Int)
theorem okUpto_next {l : List PM} {k : Nat} (h : okUpto l k) (h1 : pL (l.getD k pm0) = true) (h2 : findP l (l.getD k pm0).1 = (k : Int)) : okUpto l (k + 1) := by
  intro j hj
  by_cases e : j = k
  · rw [e]; exact ⟨h1, h2⟩
  · exact h j (by omega)
theorem psL_yes {l : List PM} (h8 : l.length ≤ 8) (h : okUpto l l.length) : psL l = true := by
  have h1 : l.all pL = true := by
    rw [List.all_eq_true]
    intro p hp
    obtain ⟨j, hj, rfl⟩ := List.getElem_of_mem hp
    have := (h j hj).1
    rwa [pm_getD hj] at this
  unfold psL
  rw [h1, decide_eq_true h8, decide_eq_true (nodup_find.2 fun j hj => (h j hj).2)]
  rfl
theorem psL_long {l : List PM} (h : 8 < l.length) : psL l = false := by
  unfold psL; rw [decide_eq_false (by omega)]; rfl
theorem psL_bad {l : List PM} {k : Nat} (hk : k < l.length) (h : pL (l.getD k pm0) = false) : psL l = false := by
  have : l.all pL = false := by
    rw [List.all_eq_false]
    refine ⟨l[k], List.getElem_mem hk, ?_⟩
    rw [pm_getD hk] at h
    rw [h]; simp
  unfold psL; rw [this]; simp
theorem psL_twice {l : List PM} {k : Nat} (hk : k < l.length) (h : findP l (l.getD k pm0).1 ≠ (k : Int)) : psL l = false := by
  have : ¬ (l.map (·.1)).Nodup := fun e => h (nodup_find.1 e k hk)
  unfold psL; rw [decide_eq_false this]; simp
/-- Two of one name. -/
theorem psL_two {l : List PM} {k i : Nat} (hi : i < l.length) (hk : k < i) (h : (l.getD k pm0).1 = (l.getD i pm0).1) : psL l = false := by
  refine psL_twice hi fun e => ?_
  rcases findP_spec l (l.getD i pm0).1 with ⟨h1, _⟩ | ⟨m, hm, h1, _, h3⟩
  · omega
  · rw [h1] at e
    obtain rfl : m = i := by omega
    exact h3 k (by omega) hk (by rw [pm_getD (by omega : k < l.length)] at h; exact h)
/-- None of a name ahead of its place. -/
theorem find_self {l : List PM} {i : Nat} (hi : i < l.length) (h : ∀ k, k < i → (l.getD k pm0).1 ≠ (l.getD i pm0).1) : findP l (l.getD i pm0).1 = (i : Int) := by
  rcases findP_spec l (l.getD i pm0).1 with ⟨_, h2⟩ | ⟨m, hm, h1, h2, h3⟩
  · exact absurd rfl (h2 (l.getD i pm0) (by rw [pm_getD hi]; exact List.getElem_mem hi))
  · rw [h1]
    rcases Nat.lt_trichotomy m i with e | e | e
    · exact absurd (by rw [pm_getD hm]; exact h2) (h m e)
    · rw [e]
    · exact absurd (by rw [pm_getD hi]) (h3 i hi e)

/-! ### What Mail and Rcpt make -/
def envC (s : List UInt8) : Bool := decide (s.length ≤ 32) && s.all fun c => upC c || lowC c || digC c || c == 45
def wSZ : List UInt8 := [83, 73, 90, 69]
def wRT : List UInt8 := [82, 69, 81, 85, 73, 82, 69, 84, 76, 83]
def wEN : List UInt8 := [69, 78, 86, 73, 68]
def wNO : List UInt8 := [78, 79, 84, 73, 70, 89]
def wNV : List UInt8 := [78, 69, 86, 69, 82]
def optP (b : Bool) (p : PM) : List PM := if b then [p] else []
def mailPs (sz rt dsn : Bool) (num : List UInt8) (req : Bool) (env : List UInt8) : List PM := optP sz (wSZ, num) ++ (optP (rt && req) (wRT, []) ++ optP (dsn && !env.isEmpty) (wEN, env))
end Go.Proofs.YtifmnlcggokfkaaGreatDoor
