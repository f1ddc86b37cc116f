/-
  Commands over lists of bytes: great letters, parameters, what a command's line is, what a line is read as; what follows of these.
  Plain functions and lemmas; no program.
-/
import Derived.Test.YtifmnlcggokfkaaGreatDoorAPure
namespace Go.Proofs.YtifmnlcggokfkaaGreatDoor

def greatC (c : UInt8) : UInt8 := if 97 ≤ c && c ≤ 122 then c - 32 else c
abbrev gr (s : List UInt8) : List UInt8 := s.map greatC
def upC (c : UInt8) : Bool := 65 ≤ c && c ≤ 90
def pnC (c : UInt8) : Bool := upC c || digC c
def vlC (c : UInt8) : Bool := 33 ≤ c && c ≤ 126 && c != 61

abbrev PM := List UInt8 × List UInt8
abbrev pm0 : PM := ([], [])
/-- A command: its verb, its argument, its parameters. -/
structure Cm where
  verb : Nat
  arg : List UInt8
  ps : List PM
deriving DecidableEq
abbrev cm0 : Cm := ⟨0, [], []⟩

def hdL : Nat → List UInt8
  | 1 => [69, 72, 76, 79, 32]
  | 2 => [83, 84, 65, 82, 84, 84, 76, 83]
  | 3 => [77, 65, 73, 76, 32, 70, 82, 79, 77, 58]
  | 4 => [82, 67, 80, 84, 32, 84, 79, 58]
  | 5 => [68, 65, 84, 65]
  | 6 => [81, 85, 73, 84]
  | _ => []

def pnL (n : List UInt8) : Bool := decide (0 < n.length) && decide (n.length ≤ 32) && upC (n.headD 0) && n.all pnC
def vlL (v : List UInt8) : Bool := v.all vlC
def pL (p : PM) : Bool := pnL p.1 && vlL p.2
def psL (l : List PM) : Bool := decide (l.length ≤ 8) && l.all pL && decide (l.map (·.1)).Nodup
def pathV (v : Nat) : Bool := v == 3 || v == 4
def mayK (c : Cm) : Bool := match c.verb with
  | 1 => mayL c.arg && c.ps.isEmpty
  | 3 => endL c.arg && psL c.ps
  | 4 => amayL c.arg && psL c.ps
  | 2 => c.arg.isEmpty && c.ps.isEmpty
  | 5 => c.arg.isEmpty && c.ps.isEmpty
  | 6 => c.arg.isEmpty && c.ps.isEmpty
  | _ => false

def pText (p : PM) : List UInt8 := 32 :: (p.1 ++ (if p.2 = [] then [] else 61 :: p.2))
def psText (l : List PM) : List UInt8 := l.flatMap pText
def argText (c : Cm) : List UInt8 := if c.verb = 1 then c.arg else if pathV c.verb then pathL c.arg else []
def shownK (c : Cm) : List UInt8 := hdL c.verb ++ argText c ++ psText c.ps
def showK (c : Cm) : List UInt8 × Nat := if mayK c then (if (shownK c).length ≤ 510 then (shownK c, 0) else ([], 40)) else ([], 4)

/-! ### Reading -/
def hdAt (s : List UInt8) (v : Nat) : Bool := gr (s.take (hdL v).length) == hdL v
def cutH (s : List UInt8) : Nat × List UInt8 :=
  if hdAt s 1 then (1, s.drop 5) else if hdAt s 2 then (2, s.drop 8) else if hdAt s 3 then (3, s.drop 10) else if hdAt s 4 then (4, s.drop 8) else if hdAt s 5 then (5, s.drop 4) else if hdAt s 6 then (6, s.drop 4) else (0, s)
/-- The path that a text begins by, looked for from place i on. -/
def cutPF (s : List UInt8) : Nat → Nat → Option (List UInt8 × List UInt8)
  | 0, _ => none
  | n + 1, i => match unpathL (s.take (i + 1)) with
    | some a => some (a, s.drop (i + 1))
    | none => cutPF s n (i + 1)
def cutP (s : List UInt8) : Option (List UInt8 × List UInt8) := cutPF s s.length 0

def untilB (s : List UInt8) (b : UInt8) : List UInt8 := s.takeWhile (· != b)
def wordP (w : List UInt8) : Option PM :=
  if pL (gr (untilB w 61), (w.drop (untilB w 61).length).tail) && (w.contains 61 == !((w.drop (untilB w 61).length).tail).isEmpty) then some (gr (untilB w 61), (w.drop (untilB w 61).length).tail) else none
/-- The parameter that a text begins by, and what stands behind it. -/
def stepP : List UInt8 → Option (PM × List UInt8)
  | [] => none
  | c :: r => if c = 32 then (wordP (untilB r 32)).map fun p => (p, r.drop (untilB r 32).length) else none

theorem stepP_cons (c : UInt8) (r : List UInt8) : stepP (c :: r) = if c = 32 then (wordP (untilB r 32)).map fun p => (p, r.drop (untilB r 32).length) else none := rfl
theorem stepP_len {s : List UInt8} {p : PM} {r : List UInt8} (h : stepP s = some (p, r)) : r.length < s.length := by
  cases s with
  | nil => cases h
  | cons c t =>
    rw [stepP_cons] at h
    split at h
    · cases hw : wordP (untilB t 32) with
      | none => rw [hw] at h; cases h
      | some q =>
        rw [hw] at h
        simp only [Option.map_some, Option.some.injEq, Prod.mk.injEq] at h
        rw [← h.2]
        simp
        omega
    · cases h
/-- All parameters that a text begins by, and what stands behind them. -/
def parsF : Nat → List UInt8 → List PM × List UInt8
  | 0, s => ([], s)
  | n + 1, s => match stepP s with
    | none => ([], s)
    | some (p, r) => (p :: (parsF n r).1, (parsF n r).2)
def parsP (s : List UInt8) : List PM × List UInt8 := parsF s.length s
theorem parsF_more : ∀ (n m : Nat) (s : List UInt8), s.length ≤ n → s.length ≤ m → parsF n s = parsF m s
  | 0, 0, _, _, _ => rfl
  | 0, m + 1, s, h, _ => by
    obtain rfl : s = [] := List.length_eq_zero_iff.1 (by omega)
    rfl
  | n + 1, 0, s, _, h => by
    obtain rfl : s = [] := List.length_eq_zero_iff.1 (by omega)
    rfl
  | n + 1, m + 1, s, h1, h2 => by
    unfold parsF
    cases e : stepP s with
    | none => rfl
    | some x =>
      obtain ⟨p, r⟩ := x
      have := stepP_len e
      dsimp only
      rw [parsF_more n m r (by omega) (by omega)]
theorem parsP_none {s : List UInt8} (h : stepP s = none) : parsP s = ([], s) := by
  unfold parsP
  cases e : s.length with
  | zero => rfl
  | succ n => unfold parsF; rw [h]
theorem parsP_some {s r : List UInt8} {p : PM} (h : stepP s = some (p, r)) : parsP s = (p :: (parsP r).1, (parsP r).2) := by
  have hl := stepP_len h
  unfold parsP
  cases e : s.length with
  | zero => omega
  | succ n =>
    rw [parsF_more r.length n r (Nat.le_refl _) (by omega)]
    conv => lhs; unfold parsF
    rw [h]

def readK (line : List UInt8) : Cm × List UInt8 := match cutH line with
  | (v, rest) => if v = 1 then (⟨1, rest, []⟩, []) else if pathV v then (match cutP rest with
      | none => (cm0, rest)
      | some (a, b) => (⟨v, a, (parsP b).1⟩, (parsP b).2)) else (⟨v, [], []⟩, rest)
def parseK (line : List UInt8) : Cm × Nat := if 510 < line.length then (cm0, 40) else
  if (readK line).2.isEmpty && mayK (readK line).1 then ((readK line).1, 0) else (cm0, 4)

/-! ### Great letters -/
theorem great_all : ∀ c : UInt8, greatC (greatC c) = greatC c ∧ (upC c = true → greatC c = c) ∧ (digC c = true → greatC c = c) ∧ (greatC c = 62 ↔ c = 62) ∧ (greatC c = 32 ↔ c = 32) ∧ (greatC c = 61 ↔ c = 61) := by
  intro c
  have key : ∀ n : Fin 256, greatC (greatC (UInt8.ofNat n)) = greatC (UInt8.ofNat n) ∧ (upC (UInt8.ofNat n) = true → greatC (UInt8.ofNat n) = UInt8.ofNat n) ∧ (digC (UInt8.ofNat n) = true → greatC (UInt8.ofNat n) = UInt8.ofNat n) ∧ (greatC (UInt8.ofNat n) = 62 ↔ UInt8.ofNat n = 62) ∧ (greatC (UInt8.ofNat n) = 32 ↔ UInt8.ofNat n = 32) ∧ (greatC (UInt8.ofNat n) = 61 ↔ UInt8.ofNat n = 61) := by decide +kernel
  have := key ⟨c.toNat, c.toNat_lt⟩
  simpa using this
theorem gr_gr (s : List UInt8) : gr (gr s) = gr s := by
  simp only [gr, List.map_map]
  refine List.map_congr_left fun c _ => ?_
  exact (great_all c).1
theorem pnC_great {c : UInt8} (h : pnC c = true) : greatC c = c := by
  unfold pnC at h
  rw [Bool.or_eq_true] at h
  rcases h with h | h
  · exact (great_all c).2.1 h
  · exact (great_all c).2.2.1 h
theorem map_id_of {f : UInt8 → UInt8} {s : List UInt8} (h : ∀ c ∈ s, f c = c) : s.map f = s := by
  conv => rhs; rw [← List.map_id s]
  exact List.map_congr_left h
theorem pnL_all {n : List UInt8} (h : pnL n = true) : 0 < n.length ∧ n.length ≤ 32 ∧ upC (n.headD 0) = true ∧ ∀ c ∈ n, pnC c = true := by
  unfold pnL at h
  simp only [Bool.and_eq_true, decide_eq_true_eq, List.all_eq_true] at h
  exact ⟨h.1.1.1, h.1.1.2, h.1.2, h.2⟩
theorem pn_gr {n : List UInt8} (h : pnL n = true) : gr n = n := map_id_of fun c hc => pnC_great ((pnL_all h).2.2.2 c hc)
theorem pnC_not {c : UInt8} (h : pnC c = true) : c ≠ 61 ∧ c ≠ 32 ∧ 32 ≤ c ∧ c ≤ 126 := by
  have key : ∀ n : Fin 256, pnC (UInt8.ofNat n) = true → UInt8.ofNat n ≠ 61 ∧ UInt8.ofNat n ≠ 32 ∧ 32 ≤ UInt8.ofNat n ∧ UInt8.ofNat n ≤ 126 := by decide +kernel
  have := key ⟨c.toNat, c.toNat_lt⟩
  simp only [UInt8.ofNat_toNat] at this
  exact this h
theorem vlC_not {c : UInt8} (h : vlC c = true) : c ≠ 61 ∧ c ≠ 32 ∧ 32 ≤ c ∧ c ≤ 126 := by
  have key : ∀ n : Fin 256, vlC (UInt8.ofNat n) = true → UInt8.ofNat n ≠ 61 ∧ UInt8.ofNat n ≠ 32 ∧ 32 ≤ UInt8.ofNat n ∧ UInt8.ofNat n ≤ 126 := by decide +kernel
  have := key ⟨c.toNat, c.toNat_lt⟩
  simp only [UInt8.ofNat_toNat] at this
  exact this h

/-! ### Up to a byte -/
theorem until_all {a : List UInt8} {b : UInt8} (h : ∀ c ∈ a, c ≠ b) : untilB a b = a := by
  unfold untilB
  induction a with
  | nil => rfl
  | cons x a ih =>
    have hx : (x != b) = true := by simpa using h x (by simp)
    rw [List.takeWhile_cons, hx, if_pos rfl, ih fun c hc => h c (by simp [hc])]
theorem until_at {a t : List UInt8} {b : UInt8} (h : ∀ c ∈ a, c ≠ b) : untilB (a ++ b :: t) b = a := by
  unfold untilB
  induction a with
  | nil => simp
  | cons x a ih =>
    have hx : (x != b) = true := by simpa using h x (by simp)
    rw [List.cons_append, List.takeWhile_cons, hx, if_pos rfl, ih fun c hc => h c (by simp [hc])]
/-- Every text is a part without that byte, or that, the byte, and a text. -/
theorem until_cases (b : UInt8) : ∀ (s : List UInt8), ((∀ c ∈ s, c ≠ b) ∧ untilB s b = s) ∨ ∃ a t, s = a ++ b :: t ∧ (∀ c ∈ a, c ≠ b) ∧ untilB s b = a
  | [] => .inl ⟨by simp, rfl⟩
  | c :: s => by
    by_cases hc : c = b
    · exact .inr ⟨[], s, by simp [hc], by simp, by simp [untilB, hc]⟩
    · rcases until_cases b s with ⟨h1, h2⟩ | ⟨a, t, h1, h2, h3⟩
      · have : ∀ x ∈ c :: s, x ≠ b := by
          intro x hx
          rcases List.mem_cons.1 hx with rfl | hx
          · exact hc
          · exact h1 x hx
        exact .inl ⟨this, until_all this⟩
      · have : ∀ x ∈ c :: a, x ≠ b := by
          intro x hx
          rcases List.mem_cons.1 hx with rfl | hx
          · exact hc
          · exact h2 x hx
        exact .inr ⟨c :: a, t, by simp [h1], this, by rw [h1]; exact until_at (a := c :: a) this⟩

/-! ### Words -/
theorem wordP_plain {n : List UInt8} (h : ∀ c ∈ n, c ≠ 61) : wordP n = if pnL (gr n) then some (gr n, []) else none := by
  have h2 : n.contains 61 = false := by
    rw [Bool.eq_false_iff]
    intro e
    exact h 61 (by simpa using e) rfl
  unfold wordP
  rw [until_all h, h2]
  simp [pL, vlL]
theorem wordP_eq {n v : List UInt8} (h : ∀ c ∈ n, c ≠ 61) : wordP (n ++ 61 :: v) = if pnL (gr n) && vlL v && !v.isEmpty then some (gr n, v) else none := by
  have h2 : (n ++ 61 :: v).contains 61 = true := by simp
  unfold wordP
  rw [until_at h, h2]
  simp [pL]
theorem wordP_some {w : List UInt8} {p : PM} (h : wordP w = some p) : pL p = true ∧ gr w = gr (p.1 ++ (if p.2 = [] then [] else 61 :: p.2)) ∧ w.length = (p.1 ++ (if p.2 = [] then [] else 61 :: p.2)).length := by
  rcases until_cases 61 w with ⟨h1, h2⟩ | ⟨a, t, rfl, h2, _⟩
  · rw [wordP_plain h1] at h
    split at h
    · rename_i hp
      simp only [Option.some.injEq] at h
      subst h
      refine ⟨by unfold pL; rw [hp]; rfl, ?_, ?_⟩
      · simp only [if_true, List.append_nil]; exact (gr_gr w).symm
      · simp
    · cases h
  · rw [wordP_eq h2] at h
    split at h
    · rename_i hp
      simp only [Bool.and_eq_true, Bool.not_eq_true', Option.some.injEq] at h hp
      subst h
      have hv : t ≠ [] := by rintro rfl; simp at hp
      refine ⟨by unfold pL; rw [hp.1.1, hp.1.2]; rfl, ?_, ?_⟩
      · simp only [if_neg hv]
        have := gr_gr a
        simp only [gr, List.map_append, List.map_cons] at this ⊢
        rw [this]
      · simp [hv]
    · cases h
theorem pText_word {p : PM} (h : pL p = true) : wordP (p.1 ++ (if p.2 = [] then [] else 61 :: p.2)) = some p ∧ ∀ c ∈ p.1 ++ (if p.2 = [] then [] else 61 :: p.2), c ≠ 32 := by
  obtain ⟨n, v⟩ := p
  unfold pL at h
  rw [Bool.and_eq_true] at h
  obtain ⟨hn, hv⟩ := h
  have hna := (pnL_all hn).2.2.2
  have hva : ∀ c ∈ v, vlC c = true := List.all_eq_true.1 hv
  have h61 : ∀ c ∈ n, c ≠ 61 := fun c hc => (pnC_not (hna c hc)).1
  by_cases he : v = []
  · subst he
    simp only [if_true, List.append_nil]
    rw [wordP_plain h61, pn_gr hn, if_pos hn]
    exact ⟨rfl, fun c hc => (pnC_not (hna c hc)).2.1⟩
  · simp only [if_neg he]
    have hve : v.isEmpty = false := by simpa using he
    rw [wordP_eq h61, pn_gr hn, hn, hve]
    dsimp only at hv
    rw [hv]
    refine ⟨rfl, fun c hc => ?_⟩
    rcases List.mem_append.1 hc with hc | hc
    · exact (pnC_not (hna c hc)).2.1
    · rcases List.mem_cons.1 hc with rfl | hc
      · decide
      · exact (vlC_not (hva c hc)).2.1

theorem stepP_text {p : PM} (h : pL p = true) {r : List UInt8} (hr : r = [] ∨ ∃ t, r = 32 :: t) : stepP (pText p ++ r) = some (p, r) := by
  obtain ⟨h1, h2⟩ := pText_word h
  unfold pText
  generalize p.1 ++ (if p.2 = [] then [] else 61 :: p.2) = w at h1 h2
  show (if (32 : UInt8) = 32 then (wordP (untilB (w ++ r) 32)).map fun q => (q, (w ++ r).drop (untilB (w ++ r) 32).length) else none) = _
  rw [if_pos rfl]
  have hu : untilB (w ++ r) 32 = w := by
    rcases hr with rfl | ⟨t, rfl⟩
    · rw [List.append_nil]; exact until_all h2
    · exact until_at h2
  rw [hu, h1]
  simp
theorem psText_head (l : List PM) : psText l = [] ∨ ∃ t, psText l = 32 :: t := by
  cases l with
  | nil => exact .inl rfl
  | cons p l => exact .inr ⟨_, by simp only [psText, List.flatMap_cons, pText, List.cons_append]; rfl⟩
/-- What is shown of parameters is read as they were. -/
theorem parsP_text : ∀ {l : List PM}, (∀ p ∈ l, pL p = true) → parsP (psText l) = (l, [])
  | [], _ => by rw [show psText [] = [] from rfl, parsP_none rfl]
  | p :: l, h => by
    have ih := parsP_text (l := l) fun q hq => h q (by simp [hq])
    rw [show psText (p :: l) = pText p ++ psText l by simp [psText], parsP_some (stepP_text (h p (by simp)) (psText_head l)), ih]
/-- What is read as parameters is, shown, the text, but for great letters. -/
theorem parsP_great : ∀ (n : Nat) (s : List UInt8), s.length ≤ n → (parsP s).2 = [] → gr (psText (parsP s).1) = gr s ∧ (psText (parsP s).1).length = s.length ∧ ∀ p ∈ (parsP s).1, pL p = true := by
  intro n
  induction n with
  | zero =>
    intro s hs _
    obtain rfl : s = [] := List.length_eq_zero_iff.1 (by omega)
    rw [parsP_none rfl]
    exact ⟨rfl, rfl, by simp⟩
  | succ n ih =>
    intro s hs h2
    cases hst : stepP s with
    | none =>
      rw [parsP_none hst] at h2 ⊢
      dsimp only at h2
      subst h2
      exact ⟨rfl, rfl, by simp⟩
    | some x =>
      obtain ⟨p, r⟩ := x
      have hl := stepP_len hst
      rw [parsP_some hst] at h2 ⊢
      dsimp only at h2 ⊢
      obtain ⟨i1, i2, i3⟩ := ih r (by omega) h2
      cases s with
      | nil => cases hst
      | cons c t =>
        rw [stepP_cons] at hst
        split at hst
        · rename_i hc
          subst hc
          cases hw : wordP (untilB t 32) with
          | none => rw [hw] at hst; cases hst
          | some q =>
            rw [hw] at hst
            simp only [Option.map_some, Option.some.injEq, Prod.mk.injEq] at hst
            obtain ⟨rfl, rfl⟩ := hst
            obtain ⟨w1, w2, w3⟩ := wordP_some hw
            have ht : untilB t 32 ++ t.drop (untilB t 32).length = t := by
              rcases until_cases 32 t with ⟨_, e⟩ | ⟨a, u, e1, _, e⟩
              · rw [e]; simp
              · rw [e]; conv => lhs; rw [e1]
                simp [e1]
            refine ⟨?_, ?_, ?_⟩
            · simp only [psText, List.flatMap_cons, pText, gr, List.map_append, List.map_cons] at i1 w2 ⊢
              rw [i1, List.cons_append]
              conv => rhs; rw [← ht, List.map_append]
              rw [w2]
            · have := congrArg List.length ht
              rw [List.length_append] at this
              simp only [psText, List.flatMap_cons, pText, List.length_append, List.length_cons] at i2 w3 ⊢
              omega
            · intro p hp
              rcases List.mem_cons.1 hp with rfl | hp
              · exact w1
              · exact i3 p hp
        · cases hst
end Go.Proofs.YtifmnlcggokfkaaGreatDoor
