/-
  Commands over lists of bytes: great letters, parameters, what a command's line is, what a line is read as; what follows of these.
  Plain functions and lemmas; no program.
  What follows of commands' lines: what is shown is read as it was, whatever letters of the verb's word are small; what is read, shown, is the line but for great letters; one path, one verb; bytes.
  Plain lemmas; no program.
  Where a parameter of a name stands; no two of one name; what Mail and Rcpt make.
  Plain functions and lemmas; no program.
-/
import Derived.Test.YtbmjmiioobgbfaaGreatDoorAPureM
namespace Go.Proofs.YtbmjmiioobgbfaaGreatDoor
set_option linter.unusedSimpArgs false
set_option linter.unusedVariables false

def greatC (c : UInt8) : UInt8 := if 97 ≤ c && c ≤ 122 then c - 32 else c
abbrev gr (s : List UInt8) : List UInt8 := s.map greatC
def upC (c : UInt8) : Bool := 65 ≤ c && c ≤ 90
def pnC (c : UInt8) : Bool := upC c || digC c
def vlC (c : UInt8) : Bool := 33 ≤ c && c ≤ 126 && c != 61

abbrev PM := List UInt8 × List UInt8
abbrev pm0 : PM := ([], [])
/-- A command: its verb, its argument, its parameters. -/
structure Cm where
  verb : Nat
  arg : List UInt8
  ps : List PM
deriving DecidableEq
abbrev cm0 : Cm := ⟨0, [], []⟩

def hdL : Nat → List UInt8
  | 1 => [69, 72, 76, 79, 32]
  | 2 => [83, 84, 65, 82, 84, 84, 76, 83]
  | 3 => [77, 65, 73, 76, 32, 70, 82, 79, 77, 58]
  | 4 => [82, 67, 80, 84, 32, 84, 79, 58]
  | 5 => [68, 65, 84, 65]
  | 6 => [81, 85, 73, 84]
  | _ => []

def pnL (n : List UInt8) : Bool := decide (0 < n.length) && decide (n.length ≤ 32) && upC (n.headD 0) && n.all pnC
def vlL (v : List UInt8) : Bool := v.all vlC
def pL (p : PM) : Bool := pnL p.1 && vlL p.2
def psL (l : List PM) : Bool := decide (l.length ≤ 8) && l.all pL && decide (l.map (·.1)).Nodup
def pathV (v : Nat) : Bool := v == 3 || v == 4
def mayK (c : Cm) : Bool := match c.verb with
  | 1 => mayL c.arg && c.ps.isEmpty
  | 3 => endL c.arg && psL c.ps
  | 4 => amayL c.arg && psL c.ps
  | 2 => c.arg.isEmpty && c.ps.isEmpty
  | 5 => c.arg.isEmpty && c.ps.isEmpty
  | 6 => c.arg.isEmpty && c.ps.isEmpty
  | _ => false

def pText (p : PM) : List UInt8 := 32 :: (p.1 ++ (if p.2 = [] then [] else 61 :: p.2))
def psText (l : List PM) : List UInt8 := l.flatMap pText
def argText (c : Cm) : List UInt8 := if c.verb = 1 then c.arg else if pathV c.verb then pathL c.arg else []
def shownK (c : Cm) : List UInt8 := hdL c.verb ++ argText c ++ psText c.ps
def showK (c : Cm) : List UInt8 × Nat := if mayK c then (if (shownK c).length ≤ 510 then (shownK c, 0) else ([], 40)) else ([], 4)

/-! ### Reading -/
def hdAt (s : List UInt8) (v : Nat) : Bool := gr (s.take (hdL v).length) == hdL v
def cutH (s : List UInt8) : Nat × List UInt8 :=
  if hdAt s 1 then (1, s.drop 5) else if hdAt s 2 then (2, s.drop 8) else if hdAt s 3 then (3, s.drop 10) else if hdAt s 4 then (4, s.drop 8) else if hdAt s 5 then (5, s.drop 4) else if hdAt s 6 then (6, s.drop 4) else (0, s)
/-- The path that a text begins by, looked for from place i on. -/
def cutPF (s : List UInt8) : Nat → Nat → Option (List UInt8 × List UInt8)
  | 0, _ => none
  | n + 1, i => match unpathL (s.take (i + 1)) with
    | some a => some (a, s.drop (i + 1))
    | none => cutPF s n (i + 1)
def cutP (s : List UInt8) : Option (List UInt8 × List UInt8) := cutPF s s.length 0

def untilB (s : List UInt8) (b : UInt8) : List UInt8 := s.takeWhile (· != b)
def wordP (w : List UInt8) : Option PM :=
  if pL (gr (untilB w 61), (w.drop (untilB w 61).length).tail) && (w.contains 61 == !((w.drop (untilB w 61).length).tail).isEmpty) then some (gr (untilB w 61), (w.drop (untilB w 61).length).tail) else none
/-- The parameter that a text begins by, and what stands behind it. -/
def stepP : List UInt8 → Option (PM × List UInt8)
  | [] => none
  | c :: r => if c = 32 then (wordP (untilB r 32)).map fun p => (p, r.drop (untilB r 32).length) else none

theorem stepP_cons (c : UInt8) (r : List UInt8) : stepP (c :: r) = if c = 32 then (wordP (untilB r 32)).map fun p => (p, r.drop (untilB r 32).length) else none := rfl
theorem stepP_len {s : List UInt8} {p : PM} {r : List UInt8} (h : stepP s = some (p, r)) : r.length < s.length := by
  cases s with
  | nil => cases h
  | cons c t =>
    rw [stepP_cons] at h
    split at h
    · cases hw : wordP (untilB t 32) with
      | none => rw [hw] at h; cases h
      | some q =>
        rw [hw] at h
        simp only [Option.map_some, Option.some.injEq, Prod.mk.injEq] at h
        rw [← h.2]
        simp
        omega
    · cases h
/-- All parameters that a text begins by, and what stands behind them. -/
def parsF : Nat → List UInt8 → List PM × List UInt8
  | 0, s => ([], s)
  | n + 1, s => match stepP s with
    | none => ([], s)
    | some (p, r) => (p :: (parsF n r).1, (parsF n r).2)
def parsP (s : List UInt8) : List PM × List UInt8 := parsF s.length s
theorem parsF_more : ∀ (n m : Nat) (s : List UInt8), s.length ≤ n → s.length ≤ m → parsF n s = parsF m s
  | 0, 0, _, _, _ => rfl
  | 0, m + 1, s, h, _ => by
    obtain rfl : s = [] := List.length_eq_zero_iff.1 (by omega)
    rfl
  | n + 1, 0, s, _, h => by
    obtain rfl : s = [] := List.length_eq_zero_iff.1 (by omega)
    rfl
  | n + 1, m + 1, s, h1, h2 => by
    unfold parsF
    cases e : stepP s with
    | none => rfl
    | some x =>
      obtain ⟨p, r⟩ := x
      have := stepP_len e
      dsimp only
      rw [parsF_more n m r (by omega) (by omega)]
theorem parsP_none {s : List UInt8} (h : stepP s = none) : parsP s = ([], s) := by
  unfold parsP
  cases e : s.length with
  | zero => rfl
  | succ n => unfold parsF; rw [h]
theorem parsP_some {s r : List UInt8} {p : PM} (h : stepP s = some (p, r)) : parsP s = (p :: (parsP r).1, (parsP r).2) := by
  have hl := stepP_len h
  unfold parsP
  cases e : s.length with
  | zero => omega
  | succ n =>
    rw [parsF_more r.length n r (Nat.le_refl _) (by omega)]
    conv => lhs; unfold parsF
    rw [h]

def readK (line : List UInt8) : Cm × List UInt8 := match cutH line with
  | (v, rest) => if v = 1 then (⟨1, rest, []⟩, []) else if pathV v then (match cutP rest with
      | none => (cm0, rest)
      | some (a, b) => (⟨v, a, (parsP b).1⟩, (parsP b).2)) else (⟨v, [], []⟩, rest)
def parseK (line : List UInt8) : Cm × Nat := if 510 < line.length then (cm0, 40) else
  if (readK line).2.isEmpty && mayK (readK line).1 then ((readK line).1, 0) else (cm0, 4)

/-! ### Great letters -/
theorem great_all : ∀ c : UInt8, greatC (greatC c) = greatC c ∧ (upC c = true → greatC c = c) ∧ (digC c = true → greatC c = c) ∧ (greatC c = 62 ↔ c = 62) ∧ (greatC c = 32 ↔ c = 32) ∧ (greatC c = 61 ↔ c = 61) := by
  intro c
  have key : ∀ n : Fin 256, greatC (greatC (UInt8.ofNat n)) = greatC (UInt8.ofNat n) ∧ (upC (UInt8.ofNat n) = true → greatC (UInt8.ofNat n) = UInt8.ofNat n) ∧ (digC (UInt8.ofNat n) = true → greatC (UInt8.ofNat n) = UInt8.ofNat n) ∧ (greatC (UInt8.ofNat n) = 62 ↔ UInt8.ofNat n = 62) ∧ (greatC (UInt8.ofNat n) = 32 ↔ UInt8.ofNat n = 32) ∧ (greatC (UInt8.ofNat n) = 61 ↔ UInt8.ofNat n = 61) := by decide +kernel
  have := key ⟨c.toNat, c.toNat_lt⟩
  simpa using this
theorem gr_gr (s : List UInt8) : gr (gr s) = gr s := by
  simp only [gr, List.map_map]
  refine List.map_congr_left fun c _ => ?_
  exact (great_all c).1
theorem pnC_great {c : UInt8} (h : pnC c = true) : greatC c = c := by
  unfold pnC at h
  rw [Bool.or_eq_true] at h
  rcases h with h | h
  · exact (great_all c).2.1 h
  · exact (great_all c).2.2.1 h
theorem map_id_of {f : UInt8 → UInt8} {s : List UInt8} (h : ∀ c ∈ s, f c = c) : s.map f = s := by
  conv => rhs; rw [← List.map_id s]
  exact List.map_congr_left h
theorem pnL_all {n : List UInt8} (h : pnL n = true) : 0 < n.length ∧ n.length ≤ 32 ∧ upC (n.headD 0) = true ∧ ∀ c ∈ n, pnC c = true := by
  unfold pnL at h
  simp only [Bool.and_eq_true, decide_eq_true_eq, List.all_eq_true] at h
  exact ⟨h.1.1.1, h.1.1.2, h.1.2, h.2⟩
theorem pn_gr {n : List UInt8} (h : pnL n = true) : gr n = n := map_id_of fun c hc => pnC_great ((pnL_all h).2.2.2 c hc)
theorem pnC_not {c : UInt8} (h : pnC c = true) : c ≠ 61 ∧ c ≠ 32 ∧ 32 ≤ c ∧ c ≤ 126 := by
  have key : ∀ n : Fin 256, pnC (UInt8.ofNat n) = true → UInt8.ofNat n ≠ 61 ∧ UInt8.ofNat n ≠ 32 ∧ 32 ≤ UInt8.ofNat n ∧ UInt8.ofNat n ≤ 126 := by decide +kernel
  have := key ⟨c.toNat, c.toNat_lt⟩
  simp only [UInt8.ofNat_toNat] at this
  exact this h
theorem vlC_not {c : UInt8} (h : vlC c = true) : c ≠ 61 ∧ c ≠ 32 ∧ 32 ≤ c ∧ c ≤ 126 := by
  have key : ∀ n : Fin 256, vlC (UInt8.ofNat n) = true → UInt8.ofNat n ≠ 61 ∧ UInt8.ofNat n ≠ 32 ∧ 32 ≤ UInt8.ofNat n ∧ UInt8.ofNat n ≤ 126 := by decide +kernel
  have := key ⟨c.toNat, c.toNat_lt⟩
  simp only [UInt8.ofNat_toNat] at this
  exact this h

/-! ### Up to a byte -/
theorem until_all {a : List UInt8} {b : UInt8} (h : ∀ c ∈ a, c ≠ b) : untilB a b = a := by
  unfold untilB
  induction a with
  | nil => rfl
  | cons x a ih =>
    have hx : (x != b) = true := by simpa using h x (by simp)
    rw [List.takeWhile_cons, hx, if_pos rfl, ih fun c hc => h c (by simp [hc])]
theorem until_at {a t : List UInt8} {b : UInt8} (h : ∀ c ∈ a, c ≠ b) : untilB (a ++ b :: t) b = a := by
  unfold untilB
  induction a with
  | nil => simp
  | cons x a ih =>
    have hx : (x != b) = true := by simpa using h x (by simp)
    rw [List.cons_append, List.takeWhile_cons, hx, if_pos rfl, ih fun c hc => h c (by simp [hc])]
/-- Every text is a part without that byte, or that, the byte, and a text. -/
theorem until_cases (b : UInt8) : ∀ (s : List UInt8), ((∀ c ∈ s, c ≠ b) ∧ untilB s b = s) ∨ ∃ a t, s = a ++ b :: t ∧ (∀ c ∈ a, c ≠ b) ∧ untilB s b = a
  | [] => .inl ⟨by simp, rfl⟩
  | c :: s => by
    by_cases hc : c = b
    · exact .inr ⟨[], s, by simp [hc], by simp, by simp [untilB, hc]⟩
    · rcases until_cases b s with ⟨h1, h2⟩ | ⟨a, t, h1, h2, h3⟩
      · have : ∀ x ∈ c :: s, x ≠ b := by
          intro x hx
          rcases List.mem_cons.1 hx with rfl | hx
          · exact hc
          · exact h1 x hx
        exact .inl ⟨this, until_all this⟩
      · have : ∀ x ∈ c :: a, x ≠ b := by
          intro x hx
          rcases List.mem_cons.1 hx with rfl | hx
          · exact hc
          · exact h2 x hx
        exact .inr ⟨c :: a, t, by simp [h1], this, by rw [h1]; exact until_at (a := c :: a) this⟩

/-! ### Words -/
theorem wordP_plain {n : List UInt8} (h : ∀ c ∈ n, c ≠ 61) : wordP n = if pnL (gr n) then some (gr n, []) else none := by
  have h2 : n.contains 61 = false := by
    rw [Bool.eq_false_iff]
    intro e
    exact h 61 (by simpa using e) rfl
  unfold wordP
  rw [until_all h, h2]
  simp [pL, vlL]
theorem wordP_eq {n v : List UInt8} (h : ∀ c ∈ n, c ≠ 61) : wordP (n ++ 61 :: v) = if pnL (gr n) && vlL v && !v.isEmpty then some (gr n, v) else none := by
  have h2 : (n ++ 61 :: v).contains 61 = true := by simp
  unfold wordP
  rw [until_at h, h2]
  simp [pL]
theorem wordP_some {w : List UInt8} {p : PM} (h : wordP w = some p) : pL p = true ∧ gr w = gr (p.1 ++ (if p.2 = [] then [] else 61 :: p.2)) ∧ w.length = (p.1 ++ (if p.2 = [] then [] else 61 :: p.2)).length := by
  rcases until_cases 61 w with ⟨h1, h2⟩ | ⟨a, t, rfl, h2, _⟩
  · rw [wordP_plain h1] at h
    split at h
    · rename_i hp
      simp only [Option.some.injEq] at h
      subst h
      refine ⟨by unfold pL; rw [hp]; rfl, ?_, ?_⟩
      · simp only [if_true, List.append_nil]; exact (gr_gr w).symm
      · simp
    · cases h
  · rw [wordP_eq h2] at h
    split at h
    · rename_i hp
      simp only [Bool.and_eq_true, Bool.not_eq_true', Option.some.injEq] at h hp
      subst h
      have hv : t ≠ [] := by rintro rfl; simp at hp
      refine ⟨by unfold pL; rw [hp.1.1, hp.1.2]; rfl, ?_, ?_⟩
      · simp only [if_neg hv]
        have := gr_gr a
        simp only [gr, List.map_append, List.map_cons] at this ⊢
        rw [this]
      · simp [hv]
    · cases h
theorem pText_word {p : PM} (h : pL p = true) : wordP (p.1 ++ (if p.2 = [] then [] else 61 :: p.2)) = some p ∧ ∀ c ∈ p.1 ++ (if p.2 = [] then [] else 61 :: p.2), c ≠ 32 := by
  obtain ⟨n, v⟩ := p
  unfold pL at h
  rw [Bool.and_eq_true] at h
  obtain ⟨hn, hv⟩ := h
  have hna := (pnL_all hn).2.2.2
  have hva : ∀ c ∈ v, vlC c = true := List.all_eq_true.1 hv
  have h61 : ∀ c ∈ n, c ≠ 61 := fun c hc => (pnC_not (hna c hc)).1
  by_cases he : v = []
  · subst he
    simp only [if_true, List.append_nil]
    rw [wordP_plain h61, pn_gr hn, if_pos hn]
    exact ⟨rfl, fun c hc => (pnC_not (hna c hc)).2.1⟩
  · simp only [if_neg he]
    have hve : v.isEmpty = false := by simpa using he
    rw [wordP_eq h61, pn_gr hn, hn, hve]
    dsimp only at hv
    rw [hv]
    refine ⟨rfl, fun c hc => ?_⟩
    rcases List.mem_append.1 hc with hc | hc
    · exact (pnC_not (hna c hc)).2.1
    · rcases List.mem_cons.1 hc with rfl | hc
      · decide
      · exact (vlC_not (hva c hc)).2.1

theorem stepP_text {p : PM} (h : pL p = true) {r : List UInt8} (hr : r = [] ∨ ∃ t, r = 32 :: t) : stepP (pText p ++ r) = some (p, r) := by
  obtain ⟨h1, h2⟩ := pText_word h
  unfold pText
  generalize p.1 ++ (if p.2 = [] then [] else 61 :: p.2) = w at h1 h2
  show (if (32 : UInt8) = 32 then (wordP (untilB (w ++ r) 32)).map fun q => (q, (w ++ r).drop (untilB (w ++ r) 32).length) else none) = _
  rw [if_pos rfl]
  have hu : untilB (w ++ r) 32 = w := by
    rcases hr with rfl | ⟨t, rfl⟩
    · rw [List.append_nil]; exact until_all h2
    · exact until_at h2
  rw [hu, h1]
  simp
theorem psText_head (l : List PM) : psText l = [] ∨ ∃ t, psText l = 32 :: t := by
  cases l with
  | nil => exact .inl rfl
  | cons p l => exact .inr ⟨_, by simp only [psText, List.flatMap_cons, pText, List.cons_append]; rfl⟩
/-- What is shown of parameters is read as they were. -/
theorem parsP_text : ∀ {l : List PM}, (∀ p ∈ l, pL p = true) → parsP (psText l) = (l, [])
  | [], _ => by rw [show psText [] = [] from rfl, parsP_none rfl]
  | p :: l, h => by
    have ih := parsP_text (l := l) fun q hq => h q (by simp [hq])
    rw [show psText (p :: l) = pText p ++ psText l by simp [psText], parsP_some (stepP_text (h p (by simp)) (psText_head l)), ih]
/-- What is read as parameters is, shown, the text, but for great letters. -/
theorem parsP_great : ∀ (n : Nat) (s : List UInt8), s.length ≤ n → (parsP s).2 = [] → gr (psText (parsP s).1) = gr s ∧ (psText (parsP s).1).length = s.length ∧ ∀ p ∈ (parsP s).1, pL p = true := by
  intro n
  induction n with
  | zero =>
    intro s hs _
    obtain rfl : s = [] := List.length_eq_zero_iff.1 (by omega)
    rw [parsP_none rfl]
    exact ⟨rfl, rfl, by simp⟩
  | succ n ih =>
    intro s hs h2
    cases hst : stepP s with
    | none =>
      rw [parsP_none hst] at h2 ⊢
      dsimp only at h2
      subst h2
      exact ⟨rfl, rfl, by simp⟩
    | some x =>
      obtain ⟨p, r⟩ := x
      have hl := stepP_len hst
      rw [parsP_some hst] at h2 ⊢
      dsimp only at h2 ⊢
      obtain ⟨i1, i2, i3⟩ := ih r (by omega) h2
      cases s with
      | nil => cases hst
      | cons c t =>
        rw [stepP_cons] at hst
        split at hst
        · rename_i hc
          subst hc
          cases hw : wordP (untilB t 32) with
          | none => rw [hw] at hst; cases hst
          | some q =>
            rw [hw] at hst
            simp only [Option.map_some, Option.some.injEq, Prod.mk.injEq] at hst
            obtain ⟨rfl, rfl⟩ := hst
            obtain ⟨w1, w2, w3⟩ := wordP_some hw
            have ht : untilB t 32 ++ t.drop (untilB t 32).length = t := by
              rcases until_cases 32 t with ⟨_, e⟩ | ⟨a, u, e1, _, e⟩
              · rw [e]; simp
              · rw [e]; conv => lhs; rw [e1]
                simp [e1]
            refine ⟨?_, ?_, ?_⟩
            · simp only [psText, List.flatMap_cons, pText, gr, List.map_append, List.map_cons] at i1 w2 ⊢
              rw [i1, List.cons_append]
              conv => rhs; rw [← ht, List.map_append]
              rw [w2]
            · have := congrArg List.length ht
              rw [List.length_append] at this
              simp only [psText, List.flatMap_cons, pText, List.length_append, List.length_cons] at i2 w3 ⊢
              omega
            · intro p hp
              rcases List.mem_cons.1 hp with rfl | hp
              · exact w1
              · exact i3 p hp
        · cases hst
end Go.Proofs.YtbmjmiioobgbfaaGreatDoor

namespace Go.Proofs.YtbmjmiioobgbfaaGreatDoor
set_option linter.unusedSimpArgs false
set_option linter.unusedVariables false

theorem hd_six {P : Nat → Prop} (h1 : P 1) (h2 : P 2) (h3 : P 3) (h4 : P 4) (h5 : P 5) (h6 : P 6) : ∀ v, 1 ≤ v → v ≤ 6 → P v := by
  intro v a b
  rcases (show v = 1 ∨ v = 2 ∨ v = 3 ∨ v = 4 ∨ v = 5 ∨ v = 6 by omega) with rfl | rfl | rfl | rfl | rfl | rfl <;> assumption
theorem hd_cons : ∀ v, 1 ≤ v → v ≤ 6 → ∃ t, hdL v = (hdL v).headD 0 :: t := hd_six ⟨_, rfl⟩ ⟨_, rfl⟩ ⟨_, rfl⟩ ⟨_, rfl⟩ ⟨_, rfl⟩ ⟨_, rfl⟩
theorem hd_great : ∀ v, 1 ≤ v → v ≤ 6 → gr (hdL v) = hdL v := hd_six (by decide) (by decide) (by decide) (by decide) (by decide) (by decide)
theorem hd_len : ∀ v, 1 ≤ v → v ≤ 6 → (hdL v).length ≤ 10 := hd_six (by decide) (by decide) (by decide) (by decide) (by decide) (by decide)
theorem hd_bytes : ∀ v, 1 ≤ v → v ≤ 6 → ∀ c ∈ hdL v, 32 ≤ c ∧ c ≤ 126 := hd_six (by decide) (by decide) (by decide) (by decide) (by decide) (by decide)
theorem hd_first {u v : Nat} (hu : 1 ≤ u ∧ u ≤ 6) (hv : 1 ≤ v ∧ v ≤ 6) (h : (hdL u).headD 0 = (hdL v).headD 0) : u = v := by
  have key : ∀ x : Fin 7, ∀ y : Fin 7, 1 ≤ x.val → 1 ≤ y.val → (hdL x.val).headD 0 = (hdL y.val).headD 0 → x = y := by decide
  have := key ⟨u, by omega⟩ ⟨v, by omega⟩ hu.1 hv.1 h
  simpa using this
theorem hdAt_first {s : List UInt8} {u : Nat} (hu : 1 ≤ u ∧ u ≤ 6) (h : hdAt s u = true) : greatC (s.headD 0) = (hdL u).headD 0 ∧ (hdL u).length ≤ s.length := by
  obtain ⟨t, ht⟩ := hd_cons u hu.1 hu.2
  unfold hdAt at h
  rw [beq_iff_eq] at h
  have hl := congrArg List.length h
  rw [List.length_map, List.length_take] at hl
  refine ⟨?_, by omega⟩
  rw [ht] at h hl ⊢
  cases s with
  | nil => simp at hl
  | cons c r =>
    simp only [gr, List.length_cons, List.take_succ_cons, List.map_cons, List.cons.injEq] at h
    exact h.1
theorem hdAt_one {s : List UInt8} {u v : Nat} (hu : 1 ≤ u ∧ u ≤ 6) (hv : 1 ≤ v ∧ v ≤ 6) (h : hdAt s u = true) (h' : hdAt s v = true) : u = v :=
  hd_first hu hv ((hdAt_first hu h).1.symm.trans (hdAt_first hv h').1)
theorem hdAt_not {s : List UInt8} {u v : Nat} (hu : 1 ≤ u ∧ u ≤ 6) (hv : 1 ≤ v ∧ v ≤ 6) (h : hdAt s v = true) (hn : u ≠ v) : hdAt s u = false := by
  rw [Bool.eq_false_iff]
  exact fun h' => hn (hdAt_one hu hv h' h)
theorem cutH_of {s : List UInt8} {v : Nat} (hv : 1 ≤ v ∧ v ≤ 6) (h : hdAt s v = true) : cutH s = (v, s.drop (hdL v).length) := by
  have n : ∀ u, 1 ≤ u ∧ u ≤ 6 → u ≠ v → hdAt s u = false := fun u hu hn => hdAt_not hu hv h hn
  rcases (show v = 1 ∨ v = 2 ∨ v = 3 ∨ v = 4 ∨ v = 5 ∨ v = 6 by omega) with rfl | rfl | rfl | rfl | rfl | rfl
  · unfold cutH; simp only [h, if_true]; rfl
  · unfold cutH; simp only [h, n 1 (by omega) (by omega), Bool.false_eq_true, if_true, if_false]; rfl
  · unfold cutH; simp only [h, n 1 (by omega) (by omega), n 2 (by omega) (by omega), Bool.false_eq_true, if_true, if_false]; rfl
  · unfold cutH; simp only [h, n 1 (by omega) (by omega), n 2 (by omega) (by omega), n 3 (by omega) (by omega), Bool.false_eq_true, if_true, if_false]; rfl
  · unfold cutH; simp only [h, n 1 (by omega) (by omega), n 2 (by omega) (by omega), n 3 (by omega) (by omega), n 4 (by omega) (by omega), Bool.false_eq_true, if_true, if_false]; rfl
  · unfold cutH; simp only [h, n 1 (by omega) (by omega), n 2 (by omega) (by omega), n 3 (by omega) (by omega), n 4 (by omega) (by omega), n 5 (by omega) (by omega), Bool.false_eq_true, if_true, if_false]; rfl
theorem cutH_none {s : List UInt8} (h : ∀ v, 1 ≤ v → v ≤ 6 → hdAt s v = false) : cutH s = (0, s) := by
  unfold cutH
  simp only [h 1 (by omega) (by omega), h 2 (by omega) (by omega), h 3 (by omega) (by omega), h 4 (by omega) (by omega), h 5 (by omega) (by omega), h 6 (by omega) (by omega), Bool.false_eq_true, if_false]
theorem cutH_cases (s : List UInt8) : (∃ v, 1 ≤ v ∧ v ≤ 6 ∧ hdAt s v = true ∧ cutH s = (v, s.drop (hdL v).length)) ∨ (∀ v, 1 ≤ v → v ≤ 6 → hdAt s v = false) ∧ cutH s = (0, s) := by
  by_cases h : ∃ v, (1 ≤ v ∧ v ≤ 6) ∧ hdAt s v = true
  · obtain ⟨v, hv, h⟩ := h
    exact .inl ⟨v, hv.1, hv.2, h, cutH_of hv h⟩
  · have : ∀ v, 1 ≤ v → v ≤ 6 → hdAt s v = false := fun v a b => by
      rw [Bool.eq_false_iff]
      exact fun e => h ⟨v, ⟨a, b⟩, e⟩
    exact .inr ⟨this, cutH_none this⟩
theorem hdAt_mk {h' r : List UInt8} {v : Nat} (h : gr h' = hdL v) : hdAt (h' ++ r) v = true ∧ (h' ++ r).drop (hdL v).length = r := by
  have hl := congrArg List.length h
  rw [List.length_map] at hl
  unfold hdAt
  rw [← hl]
  simp [h]

/-! ### One path -/
theorem atoms_no : ∀ {a b : List UInt8} {c : UInt8} (st : Bool), signC c = false → c ≠ 46 → atomsF st (a ++ c :: b) = false
  | [], b, c, st, h, h' => by
    have : (c == 46) = false := by simpa using h'
    show ((signC c || (st && c == 46)) && _) = false
    rw [h, this]; simp
  | x :: a, b, c, st, h, h' => by
    show ((signC x || (st && x == 46)) && atomsF (signC x) (a ++ c :: b)) = false
    rw [atoms_no (signC x) h h', Bool.and_false]
theorem quot_no : ∀ {m r : List UInt8} (st : Bool), quotF st m = true → quotF st (m ++ 34 :: r) = false
  | [], r, st, h => by
    have : st = false := by simpa [quotF] using h
    subst this
    show ((grC 34 && (false || (34 : UInt8) != 34)) && _) = false
    rw [show (grC 34 && (false || (34 : UInt8) != 34)) = false by decide, Bool.false_and]
  | c :: m, r, st, h => by
    have h' : ((grC c && (st || c != 34)) && quotF (c == 92 && !st) m) = true := h
    rw [Bool.and_eq_true] at h'
    show ((grC c && (st || c != 34)) && quotF (c == 92 && !st) (m ++ 34 :: r)) = false
    rw [quot_no _ h'.2, Bool.and_false]
theorem quoted_form {l : List UInt8} (h : quotedL l = true) : ∃ m, l = 34 :: (m ++ [34]) ∧ quotF false m = true := by
  unfold quotedL at h
  simp only [Bool.and_eq_true, decide_eq_true_eq, beq_iff_eq] at h
  obtain ⟨⟨⟨h1, h2⟩, h3⟩, h4⟩ := h
  cases l with
  | nil => simp at h2
  | cons c t =>
    simp only [List.head?_cons, Option.some.injEq, List.tail_cons] at h1 h4
    subst h1
    have ht : t ≠ [] := by rintro rfl; simp at h2
    rw [List.getLast?_cons] at h3
    have h5 : t.getLast? = some 34 := by
      cases hg : t.getLast? with
      | none => rw [List.getLast?_eq_none_iff] at hg; exact absurd hg ht
      | some z => rw [hg] at h3; simpa using h3
    obtain ⟨u, rfl⟩ := List.getLast?_eq_some_iff.1 h5
    exact ⟨u, rfl, by simpa using h4⟩
/-- No local part is one with an @ and more behind it. -/
theorem local_no {l x : List UInt8} (h : localL l = true) (h' : localL (l ++ 64 :: x) = true) : False := by
  have hne := (localL_ne h).1
  unfold localL at h h'
  simp only [Bool.and_eq_true, Bool.or_eq_true] at h h'
  have hat : ∀ (a b : List UInt8), atomsL (a ++ 64 :: b) = false := fun a b => atoms_no false (by decide) (by decide)
  rcases h'.2 with h2 | h2
  · rw [hat] at h2; cases h2
  · obtain ⟨m', e', q'⟩ := quoted_form h2
    rcases h.2 with h1 | h1
    · cases l with
      | nil => exact hne rfl
      | cons c t =>
        simp only [List.cons_append, List.cons.injEq] at e'
        obtain ⟨rfl, _⟩ := e'
        exact absurd h1 (by unfold atomsL; show ¬ ((signC 34 || (false && (34 : UInt8) == 46)) && _) = true; rw [show (signC 34 || (false && (34 : UInt8) == 46)) = false by decide]; simp)
    · obtain ⟨m, rfl, q⟩ := quoted_form h1
      simp only [List.cons_append, List.append_assoc, List.cons.injEq, true_and] at e'
      have hx : (64 :: x) ≠ [] := by simp
      obtain ⟨z, hz⟩ : ∃ z, m' = m ++ 34 :: z := by
        have hl := congrArg List.dropLast e'
        rw [List.dropLast_concat] at hl
        refine ⟨(64 :: x).dropLast, ?_⟩
        rw [← hl, List.dropLast_append_of_ne_nil (by simp)]
        rfl
      rw [hz, quot_no false q] at q'
      cases q'
theorem smallC_not (c : UInt8) : smallC c = 62 → c = 62 := by
  have key : ∀ n : Fin 256, smallC (UInt8.ofNat n) = 62 → UInt8.ofNat n = 62 := by decide +kernel
  have := key ⟨c.toNat, c.toNat_lt⟩
  simpa using this
theorem small_of (c : UInt8) (h : c = 62) : smallC c = 62 := by subst h; decide
theorem may_no_shut {d : List UInt8} (h : mayL d = true) : ∀ c ∈ d, c ≠ 62 ∧ c ≠ 32 ∧ 32 ≤ c ∧ c ≤ 126 := by
  intro c hc
  obtain ⟨_, h2, _⟩ := may_iff.1 h
  rcases mem_cutD d hc with rfl | ⟨l, hl, hcl⟩
  · decide
  · have := (isLab_all (h2 l hl)).2.2 c hcl
    have key : ∀ n : Fin 256, labC (UInt8.ofNat n) = true → UInt8.ofNat n ≠ 62 ∧ UInt8.ofNat n ≠ 32 ∧ 32 ≤ UInt8.ofNat n ∧ UInt8.ofNat n ≤ 126 := by decide +kernel
    have k := key ⟨c.toNat, c.toNat_lt⟩
    simp only [UInt8.ofNat_toNat] at k
    exact k this
theorem small_in (c : UInt8) : (32 ≤ smallC c ∧ smallC c ≤ 126) → 32 ≤ c ∧ c ≤ 126 := by
  have key : ∀ n : Fin 256, (32 ≤ smallC (UInt8.ofNat n) ∧ smallC (UInt8.ofNat n) ≤ 126) → 32 ≤ UInt8.ofNat n ∧ UInt8.ofNat n ≤ 126 := by decide +kernel
  have := key ⟨c.toNat, c.toNat_lt⟩
  simpa using this
theorem fold_no_shut {b d : List UInt8} (h : foldL b = some d) : ∀ c ∈ b, c ≠ 62 ∧ 32 ≤ c ∧ c ≤ 126 := by
  have hm := fold_is h
  unfold foldL at h
  split at h
  · simp only [Option.some.injEq] at h
    have hu : ∀ c ∈ undot b, c ≠ 62 ∧ 32 ≤ c ∧ c ≤ 126 := by
      intro c hc
      have hs := may_no_shut hm (smallC c) (by rw [← h]; exact List.mem_map_of_mem hc)
      exact ⟨fun e => hs.1 (small_of c e), small_in c hs.2.2⟩
    intro c hc
    unfold undot at hu
    split at hu
    · rename_i hl
      obtain ⟨u, rfl⟩ := List.getLast?_eq_some_iff.1 hl
      rw [List.dropLast_concat] at hu
      rcases List.mem_append.1 hc with hc | hc
      · exact hu c hc
      · obtain rfl := List.mem_singleton.1 hc
        decide
    · exact hu c hc
  · cases h
theorem end_cases {a : List UInt8} (h : endL a = true) : a = [] ∨ amayL a = true := by
  unfold endL at h
  rw [Bool.or_eq_true] at h
  exact h.imp (fun h => by simpa using h) id
theorem amay_form {a : List UInt8} (h : amayL a = true) : ∃ l b d, a = l ++ 64 :: b ∧ localL l = true ∧ foldL b = some d ∧ ∀ c ∈ b, c ≠ 64 := by
  unfold amayL at h
  obtain ⟨⟨l, d⟩, hp⟩ := Option.isSome_iff_exists.1 h
  obtain ⟨b, h1, h2, _, h4⟩ := parse_some.1 hp
  obtain ⟨e1, e2⟩ := cutA_some.1 h1
  exact ⟨l, b, d, e1, h2, h4, e2⟩
theorem local_first {l : List UInt8} (h : localL l = true) : l.headD 0 ≠ 62 := by
  have hne := (localL_ne h).1
  cases l with
  | nil => exact absurd rfl hne
  | cons c t =>
    intro e
    obtain rfl : c = 62 := e
    unfold localL at h
    simp only [Bool.and_eq_true, Bool.or_eq_true] at h
    rcases h.2 with h | h
    · exact absurd h (by unfold atomsL; show ¬ ((signC 62 || (false && (62 : UInt8) == 46)) && _) = true; rw [show (signC 62 || (false && (62 : UInt8) == 46)) = false by decide]; simp)
    · obtain ⟨m, e, _⟩ := quoted_form h
      simp at e
/-- No path begins by another one. -/
theorem path_one {a x : List UInt8} (ha : endL a = true) (hb : endL (a ++ 62 :: x) = true) : False := by
  rcases end_cases hb with e | hb
  · simp at e
  obtain ⟨l', b', d', e', h1', h2', h3'⟩ := amay_form hb
  rcases end_cases ha with rfl | ha
  · rw [List.nil_append] at e'
    have := local_first h1'
    have hne := (localL_ne h1').1
    cases l' with
    | nil => exact hne rfl
    | cons c t =>
      simp only [List.cons_append, List.cons.injEq] at e'
      exact this e'.1.symm
  · obtain ⟨l, b, d, rfl, h1, h2, h3⟩ := amay_form ha
    have hn := fold_no_shut h2'
    -- 62 stands in l', so l' begins by l ++ [64]
    rw [List.append_assoc] at e'
    simp only [List.cons_append] at e'
    rcases List.append_eq_append_iff.1 e' with ⟨z, hz, hz2⟩ | ⟨z, hz, hz2⟩
    · -- l' = l ++ z, 64 :: (b ++ 62 :: x) = z ++ 64 :: b'
      cases z with
      | nil =>
        simp only [List.nil_append, List.cons.injEq, true_and] at hz2
        exact (hn 62 (by rw [← hz2]; simp)).1 rfl
      | cons c t =>
        simp only [List.cons_append, List.cons.injEq] at hz2
        obtain ⟨rfl, _⟩ := hz2
        rw [hz] at h1'
        exact local_no h1 h1'
    · -- l = l' ++ z, 64 :: b' = z ++ 64 :: (b ++ 62 :: x)
      cases z with
      | nil =>
        simp only [List.nil_append, List.cons.injEq, true_and] at hz2
        exact (hn 62 (by rw [hz2]; simp)).1 rfl
      | cons c t =>
        simp only [List.cons_append, List.cons.injEq] at hz2
        exact (hn 62 (by rw [hz2.2]; simp)).1 rfl

theorem cutPF_some : ∀ {n i : Nat} {s a r : List UInt8}, cutPF s n i = some (a, r) → ∃ j, i ≤ j ∧ j < i + n ∧ unpathL (s.take (j + 1)) = some a ∧ r = s.drop (j + 1) ∧ ∀ k, i ≤ k → k < j → unpathL (s.take (k + 1)) = none
  | 0, i, s, a, r, h => by cases h
  | n + 1, i, s, a, r, h => by
    unfold cutPF at h
    cases e : unpathL (s.take (i + 1)) with
    | some b =>
      rw [e] at h
      simp only [Option.some.injEq, Prod.mk.injEq] at h
      obtain ⟨rfl, rfl⟩ := h
      exact ⟨i, Nat.le_refl _, by omega, e, rfl, fun k h1 h2 => by omega⟩
    | none =>
      rw [e] at h
      obtain ⟨j, h1, h2, h3, h4, h5⟩ := cutPF_some h
      refine ⟨j, by omega, by omega, h3, h4, fun k a b => ?_⟩
      by_cases hk : k = i
      · rw [hk]; exact e
      · exact h5 k (by omega) b
theorem cutPF_none : ∀ {n i : Nat} {s : List UInt8}, cutPF s n i = none → ∀ k, i ≤ k → k < i + n → unpathL (s.take (k + 1)) = none
  | 0, i, s, _, k, a, b => by omega
  | n + 1, i, s, h, k, a, b => by
    unfold cutPF at h
    cases e : unpathL (s.take (i + 1)) with
    | some b => rw [e] at h; cases h
    | none =>
      rw [e] at h
      by_cases hk : k = i
      · rw [hk]; exact e
      · exact cutPF_none h k (by omega) (by omega)
/-- Two places at which a path ends are one. -/
theorem unpath_one {s a b : List UInt8} {i j : Nat} (hi : unpathL (s.take (i + 1)) = some a) (hj : unpathL (s.take (j + 1)) = some b) (hij : i < j) (hl : j < s.length) : False := by
  obtain ⟨e1, h1⟩ := unpath_some hi
  obtain ⟨e2, h2⟩ := unpath_some hj
  have hil : (s.take (i + 1)).length = i + 1 := by rw [List.length_take]; omega
  have e3 : s.take (j + 1) = s.take (i + 1) ++ (s.take (j + 1)).drop (i + 1) := by
    conv => lhs; rw [← List.take_append_drop (i + 1) (s.take (j + 1))]
    rw [List.take_take, show min (i + 1) (j + 1) = i + 1 by omega]
  rw [h1, h2] at e3
  have hn : ((60 :: (b ++ [62])).drop (i + 1)) ≠ [] := by
    rw [← h2]
    intro e
    have := congrArg List.length e
    rw [List.length_drop, List.length_take] at this
    simp at this
    omega
  generalize (60 :: (b ++ [62])).drop (i + 1) = u at e3 hn
  simp only [List.cons_append, List.append_assoc, List.cons.injEq, true_and] at e3
  obtain ⟨y, rfl⟩ : ∃ y, b = a ++ 62 :: y := by
    have hd := congrArg List.dropLast e3
    rw [List.dropLast_concat] at hd
    refine ⟨u.dropLast, ?_⟩
    rw [hd, List.dropLast_append_of_ne_nil (by simp)]
    cases u with
    | nil => exact absurd rfl hn
    | cons c t => rfl
  exact path_one e1 e2
theorem cutP_some {s a r : List UInt8} (h : cutP s = some (a, r)) : endL a = true ∧ s = 60 :: (a ++ 62 :: r) := by
  obtain ⟨j, _, h2, h3, h4, _⟩ := cutPF_some h
  obtain ⟨e1, e2⟩ := unpath_some h3
  refine ⟨e1, ?_⟩
  rw [← List.take_append_drop (j + 1) s, e2, h4]
  simp
theorem cutP_mk {a : List UInt8} (h : endL a = true) (r : List UInt8) : cutP (60 :: (a ++ 62 :: r)) = some (a, r) := by
  have hl : (60 :: (a ++ 62 :: r)).length = a.length + r.length + 2 := by simp; omega
  have ht : (60 :: (a ++ 62 :: r)).take (a.length + 1 + 1) = 60 :: (a ++ [62]) := by
    rw [List.take_succ_cons, show a ++ 62 :: r = (a ++ [62]) ++ r by simp, List.take_left' (by simp)]
  have hu : unpathL ((60 :: (a ++ 62 :: r)).take (a.length + 1 + 1)) = some a := by rw [ht]; exact unpath_path h
  have hd : (60 :: (a ++ 62 :: r)).drop (a.length + 1 + 1) = r := by simp
  cases hc : cutP (60 :: (a ++ 62 :: r)) with
  | none =>
    have := cutPF_none hc (a.length + 1) (by omega) (by rw [hl]; omega)
    rw [hu] at this; cases this
  | some x =>
    obtain ⟨b, t⟩ := x
    obtain ⟨j, _, h2, h3, h4, _⟩ := cutPF_some hc
    rw [Nat.zero_add] at h2
    rcases Nat.lt_trichotomy j (a.length + 1) with hj | rfl | hj
    · exact (unpath_one h3 hu hj (by rw [hl]; omega)).elim
    · rw [hu] at h3
      rw [hd] at h4
      simp only [Option.some.injEq] at h3
      rw [h3, h4]
    · exact (unpath_one hu h3 hj h2).elim

/-! ### There and back -/
theorem pathL_of {a : List UInt8} (h : endL a = true) : pathL a = 60 :: (a ++ [62]) := by unfold pathL; rw [if_pos h]
theorem end_of_may {a : List UInt8} (h : amayL a = true) : endL a = true := by unfold endL; rw [h]; simp
theorem may_verb {c : Cm} (h : mayK c = true) : 1 ≤ c.verb ∧ c.verb ≤ 6 := by
  obtain ⟨v, a, ps⟩ := c
  unfold mayK at h
  match v, h with
  | 0, h => cases h
  | 1, _ => exact ⟨by simp, by simp⟩
  | 2, _ => exact ⟨by simp, by simp⟩
  | 3, _ => exact ⟨by simp, by simp⟩
  | 4, _ => exact ⟨by simp, by simp⟩
  | 5, _ => exact ⟨by simp, by simp⟩
  | 6, _ => exact ⟨by simp, by simp⟩
  | n + 7, h => cases h
/-- What may be, by its verb. -/
theorem may_kinds {c : Cm} (h : mayK c = true) : (c.verb = 1 ∧ mayL c.arg = true ∧ c.ps = []) ∨ (pathV c.verb = true ∧ c.verb ≠ 1 ∧ endL c.arg = true ∧ psL c.ps = true) ∨ (pathV c.verb = false ∧ c.verb ≠ 1 ∧ c.arg = [] ∧ c.ps = []) := by
  have hv := may_verb h
  obtain ⟨v, a, ps⟩ := c
  dsimp only at hv ⊢
  unfold mayK at h
  rcases (show v = 1 ∨ v = 2 ∨ v = 3 ∨ v = 4 ∨ v = 5 ∨ v = 6 by omega) with rfl | rfl | rfl | rfl | rfl | rfl
  · simp only [Bool.and_eq_true] at h
    exact .inl ⟨rfl, h.1, by simpa using h.2⟩
  · simp only [Bool.and_eq_true] at h
    exact .inr (.inr ⟨rfl, by decide, by simpa using h.1, by simpa using h.2⟩)
  · simp only [Bool.and_eq_true] at h
    exact .inr (.inl ⟨rfl, by decide, h.1, h.2⟩)
  · simp only [Bool.and_eq_true] at h
    exact .inr (.inl ⟨rfl, by decide, end_of_may h.1, h.2⟩)
  · simp only [Bool.and_eq_true] at h
    exact .inr (.inr ⟨rfl, by decide, by simpa using h.1, by simpa using h.2⟩)
  · simp only [Bool.and_eq_true] at h
    exact .inr (.inr ⟨rfl, by decide, by simpa using h.1, by simpa using h.2⟩)
theorem psL_all {l : List PM} (h : psL l = true) : l.length ≤ 8 ∧ (∀ p ∈ l, pL p = true) ∧ (l.map (·.1)).Nodup := by
  unfold psL at h
  simp only [Bool.and_eq_true, decide_eq_true_eq, List.all_eq_true] at h
  exact ⟨h.1.1, h.1.2, h.2⟩
theorem read_shown {c : Cm} (h : mayK c = true) {h' : List UInt8} (hh : gr h' = hdL c.verb) : readK (h' ++ (argText c ++ psText c.ps)) = (c, []) := by
  have hv := may_verb h
  obtain ⟨x1, x2⟩ := hdAt_mk (r := argText c ++ psText c.ps) hh
  unfold readK
  rw [cutH_of hv x1, x2]
  dsimp only
  obtain ⟨v, a, ps⟩ := c
  unfold argText
  rcases may_kinds h with ⟨h1, _, h3⟩ | ⟨h1, h2, h3, h4⟩ | ⟨h1, h2, h3, h4⟩
  · dsimp only at h1 h3 ⊢
    subst h1 h3
    simp [psText]
  · dsimp only at h1 h2 h3 h4 ⊢
    rw [if_neg h2, if_neg h2, if_pos h1, if_pos h1, pathL_of h3]
    simp only [List.cons_append, List.append_assoc, List.nil_append]
    rw [cutP_mk h3]
    dsimp only
    rw [parsP_text (psL_all h4).2.1]
  · dsimp only at h1 h2 h3 h4 ⊢
    subst h3 h4
    rw [if_neg h2, if_neg h2, h1]
    simp [psText]
/-- What is shown is parsed as it was, whatever letters of its verb's word are small. -/
theorem parse_shown {c : Cm} (h : mayK c = true) (hl : (shownK c).length ≤ 510) {h' : List UInt8} (hh : gr h' = hdL c.verb) : parseK (h' ++ (argText c ++ psText c.ps)) = (c, 0) := by
  have e := congrArg List.length hh
  rw [List.length_map] at e
  have hl' : ¬ 510 < (h' ++ (argText c ++ psText c.ps)).length := by
    unfold shownK at hl
    simp only [List.length_append] at hl ⊢
    omega
  unfold parseK
  rw [if_neg hl', read_shown h hh]
  simp [h]
theorem shown_form (c : Cm) : shownK c = hdL c.verb ++ (argText c ++ psText c.ps) := by unfold shownK; rw [List.append_assoc]
theorem parse_show' {c : Cm} (h : mayK c = true) (hl : (shownK c).length ≤ 510) : parseK (shownK c) = (c, 0) := by
  have hv := may_verb h
  rw [shown_form]
  exact parse_shown h hl (hd_great _ hv.1 hv.2)

/-- What is parsed may be, and is, shown, the line but for great letters. -/
theorem parse_back {line : List UInt8} {a : Cm} (h : parseK line = (a, 0)) : mayK a = true ∧ gr (shownK a) = gr line ∧ (shownK a).length ≤ 510 := by
  unfold parseK at h
  split at h
  · simp at h
  rename_i hl
  split at h
  rotate_left
  · simp at h
  rename_i hc
  simp only [Prod.mk.injEq, and_true] at h
  rw [Bool.and_eq_true] at hc
  obtain ⟨c1, c2⟩ := hc
  rw [h] at c2
  have c1' : (readK line).2 = [] := by simpa using c1
  suffices hs : gr (shownK a) = gr line by
    refine ⟨c2, hs, ?_⟩
    have := congrArg List.length hs
    rw [List.length_map, List.length_map] at this
    omega
  have hv := may_verb c2
  unfold readK at h c1'
  rcases cutH_cases line with ⟨v, v1, v6, h1, h2⟩ | ⟨_, h2⟩
  · have hln : gr line = hdL v ++ gr (line.drop (hdL v).length) := by
      conv => lhs; rw [← List.take_append_drop (hdL v).length line]
      unfold hdAt at h1
      rw [beq_iff_eq] at h1
      simp only [gr, List.map_append] at h1 ⊢
      rw [h1]
    rw [hln]
    rw [h2] at h c1'
    dsimp only at h c1'
    generalize line.drop (hdL v).length = rest at h c1'
    have hg := hd_great v v1 v6
    by_cases e1 : v = 1
    · subst e1
      rw [if_pos rfl] at h
      subst h
      simp [shownK, argText, psText, gr]
      exact hg
    · rw [if_neg e1] at h c1'
      cases hp : pathV v with
      | true =>
        rw [hp, if_pos rfl] at h c1'
        cases hcp : cutP rest with
        | none =>
          rw [hcp] at h
          dsimp only at h
          subst h
          simp at hv
        | some x =>
          obtain ⟨q, b⟩ := x
          rw [hcp] at h c1'
          dsimp only at h c1'
          obtain ⟨g1, g2⟩ := cutP_some hcp
          obtain ⟨g3, _, _⟩ := parsP_great b.length b (Nat.le_refl _) c1'
          subst h
          unfold shownK argText
          dsimp only
          rw [if_neg e1, if_pos hp, pathL_of g1, g2]
          simp only [gr, List.map_append, List.map_cons, List.map_nil, List.cons_append, List.append_assoc, List.nil_append] at hg g3 ⊢
          rw [hg, g3]
      | false =>
        rw [hp] at h c1'
        simp only [Bool.false_eq_true, if_false] at h c1'
        subst h c1'
        unfold shownK argText
        dsimp only
        rw [if_neg e1, hp]
        simp [psText, gr]
        exact hg
  · rw [h2] at h
    dsimp only at h
    rw [if_neg (by decide), show pathV 0 = false by decide] at h
    simp only [Bool.false_eq_true, if_false] at h
    subst h
    simp at hv

theorem shown_inj {a b : Cm} (ha : mayK a = true) (hb : mayK b = true) (la : (shownK a).length ≤ 510) (lb : (shownK b).length ≤ 510) (h : shownK a = shownK b) : a = b := by
  have h1 := parse_show' ha la
  have h2 := parse_show' hb lb
  rw [h, h2] at h1
  simp only [Prod.mk.injEq, and_true] at h1
  exact h1.symm
theorem great_verb {a b : Cm} (ha : mayK a = true) (hb : mayK b = true) (h : gr (shownK a) = gr (shownK b)) : a.verb = b.verb := by
  have va := may_verb ha
  have vb := may_verb hb
  have key : ∀ c : Cm, mayK c = true → hdAt (gr (shownK c)) c.verb = true := by
    intro c hc
    have vc := may_verb hc
    rw [shown_form, gr, List.map_append]
    exact (hdAt_mk (h' := gr (hdL c.verb)) (by rw [gr_gr]; exact hd_great _ vc.1 vc.2)).1
  exact hdAt_one va vb (key a ha) (by rw [h]; exact key b hb)

theorem atoms_bytes : ∀ {l : List UInt8} (st : Bool), atomsF st l = true → ∀ c ∈ l, 32 ≤ c ∧ c ≤ 126
  | [], _, _ => by simp
  | x :: l, st, h => by
    have h' : ((signC x || (st && x == 46)) && atomsF (signC x) l) = true := h
    rw [Bool.and_eq_true] at h'
    intro c hc
    rcases List.mem_cons.1 hc with rfl | hc
    · have key : ∀ n : Fin 256, (signC (UInt8.ofNat n) || UInt8.ofNat n == 46) = true → 32 ≤ UInt8.ofNat n ∧ UInt8.ofNat n ≤ 126 := by decide +kernel
      have k := key ⟨c.toNat, c.toNat_lt⟩
      simp only [UInt8.ofNat_toNat] at k
      refine k ?_
      have h1 := h'.1
      cases hs : signC c with
      | true => rfl
      | false =>
        rw [hs] at h1
        simp only [Bool.false_or, Bool.and_eq_true] at h1 ⊢
        exact h1.2
    · exact atoms_bytes _ h'.2 c hc
theorem quot_bytes : ∀ {l : List UInt8} (st : Bool), quotF st l = true → ∀ c ∈ l, 32 ≤ c ∧ c ≤ 126
  | [], _, _ => by simp
  | x :: l, st, h => by
    have h' : ((grC x && (st || x != 34)) && quotF (x == 92 && !st) l) = true := h
    simp only [Bool.and_eq_true] at h'
    intro c hc
    rcases List.mem_cons.1 hc with rfl | hc
    · have := h'.1.1
      unfold grC at this
      simpa using this
    · exact quot_bytes _ h'.2 c hc
theorem local_bytes {l : List UInt8} (h : localL l = true) : ∀ c ∈ l, 32 ≤ c ∧ c ≤ 126 := by
  unfold localL at h
  simp only [Bool.and_eq_true, Bool.or_eq_true] at h
  rcases h.2 with h | h
  · exact atoms_bytes false h
  · obtain ⟨m, rfl, q⟩ := quoted_form h
    intro c hc
    rcases List.mem_cons.1 hc with rfl | hc
    · decide
    rcases List.mem_append.1 hc with hc | hc
    · exact quot_bytes false q c hc
    · obtain rfl := List.mem_singleton.1 hc
      decide
theorem end_bytes {a : List UInt8} (h : endL a = true) : ∀ c ∈ a, 32 ≤ c ∧ c ≤ 126 := by
  rcases end_cases h with rfl | h
  · simp
  obtain ⟨l, b, d, rfl, h1, h2, _⟩ := amay_form h
  intro c hc
  rcases List.mem_append.1 hc with hc | hc
  · exact local_bytes h1 c hc
  rcases List.mem_cons.1 hc with rfl | hc
  · decide
  · exact (fold_no_shut h2 c hc).2
theorem ps_bytes {l : List PM} (h : ∀ p ∈ l, pL p = true) : ∀ c ∈ psText l, 32 ≤ c ∧ c ≤ 126 := by
  intro c hc
  simp only [psText, List.mem_flatMap] at hc
  obtain ⟨p, hp, hc⟩ := hc
  have hpl := h p hp
  unfold pL at hpl
  rw [Bool.and_eq_true] at hpl
  unfold pText at hc
  rcases List.mem_cons.1 hc with rfl | hc
  · decide
  rcases List.mem_append.1 hc with hc | hc
  · exact (pnC_not ((pnL_all hpl.1).2.2.2 c hc)).2.2
  · split at hc
    · cases hc
    · rcases List.mem_cons.1 hc with rfl | hc
      · decide
      · exact (vlC_not (List.all_eq_true.1 hpl.2 c hc)).2.2
theorem shown_bytes {c : Cm} (h : mayK c = true) : ∀ x ∈ shownK c, 32 ≤ x ∧ x ≤ 126 := by
  have hv := may_verb h
  intro x hx
  unfold shownK at hx
  rcases List.mem_append.1 hx with hx | hx
  rcases List.mem_append.1 hx with hx | hx
  · exact hd_bytes _ hv.1 hv.2 x hx
  · unfold argText at hx
    rcases may_kinds h with ⟨h1, h2, _⟩ | ⟨h1, h2, h3, _⟩ | ⟨h1, h2, _, _⟩
    · rw [if_pos h1] at hx
      exact (may_no_shut h2 x hx).2.2
    · rw [if_neg h2, if_pos h1, pathL_of h3] at hx
      rcases List.mem_cons.1 hx with rfl | hx
      · decide
      rcases List.mem_append.1 hx with hx | hx
      · exact end_bytes h3 x hx
      · obtain rfl := List.mem_singleton.1 hx
        decide
    · rw [if_neg h2, h1] at hx
      simp at hx
  · refine ps_bytes ?_ x hx
    rcases may_kinds h with ⟨_, _, h3⟩ | ⟨_, _, _, h4⟩ | ⟨_, _, _, h4⟩
    · rw [h3]; simp
    · exact (psL_all h4).2.1
    · rw [h4]; simp
theorem shown_ne {c : Cm} (h : mayK c = true) : shownK c ≠ [] := by
  have hv := may_verb h
  obtain ⟨t, ht⟩ := hd_cons _ hv.1 hv.2
  unfold shownK
  rw [ht]
  simp
end Go.Proofs.YtbmjmiioobgbfaaGreatDoor

namespace Go.Proofs.YtbmjmiioobgbfaaGreatDoor
set_option linter.unusedSimpArgs false
set_option linter.unusedVariables false

def findF : Nat → List PM → List UInt8 → Int
  | _, [], _ => -1
  | i, p :: l, n => if p.1 = n then (i : Int) else findF (i + 1) l n
/-- The place of the first parameter of that name; -1: there is none. -/
def findP (l : List PM) (n : List UInt8) : Int := findF 0 l n
theorem findF_spec : ∀ (l : List PM) (i : Nat) (n : List UInt8), (findF i l n = -1 ∧ ∀ p ∈ l, p.1 ≠ n) ∨ ∃ k, ∃ h : k < l.length, findF i l n = ((i + k : Nat) : Int) ∧ (l[k]).1 = n ∧ ∀ j, ∀ h : j < l.length, j < k → (l[j]).1 ≠ n
  | [], i, n => .inl ⟨rfl, by simp⟩
  | p :: l, i, n => by
    unfold findF
    by_cases hp : p.1 = n
    · rw [if_pos hp]
      exact .inr ⟨0, by simp, rfl, hp, fun j _ hj => by omega⟩
    · rw [if_neg hp]
      rcases findF_spec l (i + 1) n with ⟨h1, h2⟩ | ⟨k, h, h1, h2, h3⟩
      · refine .inl ⟨h1, fun q hq => ?_⟩
        rcases List.mem_cons.1 hq with rfl | hq
        · exact hp
        · exact h2 q hq
      · refine .inr ⟨k + 1, by simpa using h, by rw [h1]; congr 1; omega, by simpa using h2, fun j hj hk => ?_⟩
        cases j with
        | zero => exact hp
        | succ j => simpa using h3 j (by simpa using hj) (by omega)
theorem findP_spec (l : List PM) (n : List UInt8) : (findP l n = -1 ∧ ∀ p ∈ l, p.1 ≠ n) ∨ ∃ k, ∃ h : k < l.length, findP l n = (k : Int) ∧ (l[k]).1 = n ∧ ∀ j, ∀ h : j < l.length, j < k → (l[j]).1 ≠ n := by
  have := findF_spec l 0 n
  simpa [findP] using this
theorem findF_drop {l : List PM} {k : Nat} (h : k < l.length) (n : List UInt8) : findF k (l.drop k) n = if (l.getD k pm0).1 = n then (k : Int) else findF (k + 1) (l.drop (k + 1)) n := by
  rw [List.drop_eq_getElem_cons h, List.getD_eq_getElem?_getD, List.getElem?_eq_getElem h]
  rfl
theorem findP_range (l : List PM) (n : List UInt8) : -1 ≤ findP l n ∧ findP l n < l.length := by
  rcases findP_spec l n with ⟨h, _⟩ | ⟨k, hk, h, _⟩ <;> omega
theorem pm_getD {l : List PM} {k : Nat} (h : k < l.length) : l.getD k pm0 = l[k] := by rw [List.getD_eq_getElem?_getD, List.getElem?_eq_getElem h]; rfl
theorem nodup_find {l : List PM} : (l.map (·.1)).Nodup ↔ ∀ j, j < l.length → findP l (l.getD j pm0).1 = (j : Int) := by
  constructor
  · intro hn j hj
    rw [pm_getD hj]
    rcases findP_spec l (l[j]).1 with ⟨_, h2⟩ | ⟨k, hk, h1, h2, h3⟩
    · exact absurd rfl (h2 l[j] (List.getElem_mem hj))
    · rw [h1]
      rcases Nat.lt_trichotomy k j with h | h | h
      · exact absurd h2 ((List.pairwise_iff_getElem.1 hn k j (by simpa using hk) (by simpa using hj) h |> fun e => by simpa using e))
      · rw [h]
      · exact absurd rfl (h3 j hj h)
  · intro h
    refine List.pairwise_iff_getElem.2 fun i j hi hj hij => ?_
    simp only [List.length_map] at hi hj
    rw [List.getElem_map, List.getElem_map]
    have hf := h j hj
    rw [pm_getD hj] at hf
    rcases findP_spec l (l[j]).1 with ⟨h1, _⟩ | ⟨k, hk, h1, h2, h3⟩
    · rw [h1] at hf; omega
    · rw [h1] at hf
      obtain rfl : k = j := by omega
      exact h3 i hi hij
/-- Is it so up to a place? -/
def okUpto (l : List PM) (k : Nat) : Prop := ∀ j, j < k → pL (l.getD j pm0) = true ∧ findP l (l.getD j pm0).1 = (j : Int)
theorem okUpto_next {l : List PM} {k : Nat} (h : okUpto l k) (h1 : pL (l.getD k pm0) = true) (h2 : findP l (l.getD k pm0).1 = (k : Int)) : okUpto l (k + 1) := by
  intro j hj
  by_cases e : j = k
  · rw [e]; exact ⟨h1, h2⟩
  · exact h j (by omega)
theorem psL_yes {l : List PM} (h8 : l.length ≤ 8) (h : okUpto l l.length) : psL l = true := by
  have h1 : l.all pL = true := by
    rw [List.all_eq_true]
    intro p hp
    obtain ⟨j, hj, rfl⟩ := List.getElem_of_mem hp
    have := (h j hj).1
    rwa [pm_getD hj] at this
  unfold psL
  rw [h1, decide_eq_true h8, decide_eq_true (nodup_find.2 fun j hj => (h j hj).2)]
  rfl
theorem psL_long {l : List PM} (h : 8 < l.length) : psL l = false := by
  unfold psL; rw [decide_eq_false (by omega)]; rfl
theorem psL_bad {l : List PM} {k : Nat} (hk : k < l.length) (h : pL (l.getD k pm0) = false) : psL l = false := by
  have : l.all pL = false := by
    rw [List.all_eq_false]
    refine ⟨l[k], List.getElem_mem hk, ?_⟩
    rw [pm_getD hk] at h
    rw [h]; simp
  unfold psL; rw [this]; simp
theorem psL_twice {l : List PM} {k : Nat} (hk : k < l.length) (h : findP l (l.getD k pm0).1 ≠ (k : Int)) : psL l = false := by
  have : ¬ (l.map (·.1)).Nodup := fun e => h (nodup_find.1 e k hk)
  unfold psL; rw [decide_eq_false this]; simp
/-- Two of one name. -/
theorem psL_two {l : List PM} {k i : Nat} (hi : i < l.length) (hk : k < i) (h : (l.getD k pm0).1 = (l.getD i pm0).1) : psL l = false := by
  refine psL_twice hi fun e => ?_
  rcases findP_spec l (l.getD i pm0).1 with ⟨h1, _⟩ | ⟨m, hm, h1, _, h3⟩
  · omega
  · rw [h1] at e
    obtain rfl : m = i := by omega
    exact h3 k (by omega) hk (by rw [pm_getD (by omega : k < l.length)] at h; exact h)
/-- None of a name ahead of its place. -/
theorem find_self {l : List PM} {i : Nat} (hi : i < l.length) (h : ∀ k, k < i → (l.getD k pm0).1 ≠ (l.getD i pm0).1) : findP l (l.getD i pm0).1 = (i : Int) := by
  rcases findP_spec l (l.getD i pm0).1 with ⟨_, h2⟩ | ⟨m, hm, h1, h2, h3⟩
  · exact absurd rfl (h2 (l.getD i pm0) (by rw [pm_getD hi]; exact List.getElem_mem hi))
  · rw [h1]
    rcases Nat.lt_trichotomy m i with e | e | e
    · exact absurd (by rw [pm_getD hm]; exact h2) (h m e)
    · rw [e]
    · exact absurd (by rw [pm_getD hi]) (h3 i hi e)

/-! ### What Mail and Rcpt make -/
def envC (s : List UInt8) : Bool := decide (s.length ≤ 32) && s.all fun c => upC c || lowC c || digC c || c == 45
def wSZ : List UInt8 := [83, 73, 90, 69]
def wRT : List UInt8 := [82, 69, 81, 85, 73, 82, 69, 84, 76, 83]
def wEN : List UInt8 := [69, 78, 86, 73, 68]
def wNO : List UInt8 := [78, 79, 84, 73, 70, 89]
def wNV : List UInt8 := [78, 69, 86, 69, 82]
def optP (b : Bool) (p : PM) : List PM := if b then [p] else []
def mailPs (sz rt dsn : Bool) (num : List UInt8) (req : Bool) (env : List UInt8) : List PM := optP sz (wSZ, num) ++ (optP (rt && req) (wRT, []) ++ optP (dsn && !env.isEmpty) (wEN, env))
end Go.Proofs.YtbmjmiioobgbfaaGreatDoor
