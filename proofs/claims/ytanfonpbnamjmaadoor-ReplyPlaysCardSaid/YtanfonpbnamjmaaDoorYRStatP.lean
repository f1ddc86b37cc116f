/-
  The reference's status, as a plain function; it is the program's.
-/
import Derived.Test.YtanfonpbnamjmaaDoorYPure
namespace Go.Proofs.YtanfonpbnamjmaaDoor
open Go Go.RowKit
set_option maxRecDepth 100000

/-- The parts between dots. -/
def splitD : List UInt8 → List (List UInt8)
  | [] => [[]]
  | b :: l => if b == 46 then [] :: splitD l else match splitD l with
    | [] => [[b]]
    | p :: ps => (b :: p) :: ps
def consD (b : UInt8) : List (List UInt8) → List (List UInt8)
  | [] => [[b]]
  | p :: ps => (b :: p) :: ps
theorem splitD_cons (b : UInt8) (l : List UInt8) : splitD (b :: l) = if b == 46 then [] :: splitD l else consD b (splitD l) := by
  conv => lhs; unfold splitD
  cases splitD l <;> rfl
theorem splitD_ne : ∀ l, splitD l ≠ []
  | [] => by simp [splitD]
  | b :: l => by
    rw [splitD_cons]
    split
    · simp
    · cases splitD l <;> simp [consD]
theorem splitD_none : ∀ {l : List UInt8}, (∀ b ∈ l, b ≠ 46) → splitD l = [l]
  | [], _ => rfl
  | b :: l, h => by
    have h1 : (b == 46) = false := by simpa using h b (by simp)
    have ih := splitD_none (l := l) (fun x hx => h x (by simp [hx]))
    rw [splitD_cons, h1, ih]
    rfl
theorem splitD_at : ∀ {a : List UInt8} (r : List UInt8), (∀ b ∈ a, b ≠ 46) → splitD (a ++ 46 :: r) = a :: splitD r
  | [], r, _ => by simp [splitD]
  | b :: a, r, h => by
    have h1 : (b == 46) = false := by simpa using h b (by simp)
    have ih := splitD_at (a := a) r (fun x hx => h x (by simp [hx]))
    rw [List.cons_append, splitD_cons, h1, ih]
    rfl
/-- What the parts are of. -/
def joinD : List (List UInt8) → List UInt8
  | [] => []
  | [p] => p
  | p :: q :: ps => p ++ 46 :: joinD (q :: ps)
theorem joinD_split : ∀ l, joinD (splitD l) = l
  | [] => rfl
  | b :: l => by
    have ih := joinD_split l
    have hne := splitD_ne l
    rw [splitD_cons]
    by_cases h : (b == 46) = true
    · rw [if_pos h]
      obtain rfl : b = 46 := by simpa using h
      match e : splitD l, hne with
      | p :: ps, _ =>
        rw [e] at ih
        show [] ++ 46 :: joinD (p :: ps) = _
        rw [ih]; rfl
    · rw [if_neg h]
      match e : splitD l, hne with
      | [p], _ =>
        rw [e] at ih
        have : p = l := ih
        show b :: p = _
        rw [this]
      | p :: q :: ps, _ =>
        rw [e] at ih
        show (b :: p) ++ 46 :: joinD (q :: ps) = _
        rw [List.cons_append]
        congr 1
theorem splitD_dots : ∀ l, ∀ p ∈ splitD l, ∀ b ∈ p, b ≠ 46
  | [], p, hp, b, hb => by simp [splitD] at hp; subst hp; simp at hb
  | c :: l, p, hp, b, hb => by
    have ih := splitD_dots l
    rw [splitD_cons] at hp
    by_cases h : (c == 46) = true
    · rw [if_pos h] at hp
      rcases List.mem_cons.1 hp with rfl | hp
      · simp at hb
      · exact ih p hp b hb
    · rw [if_neg h] at hp
      match e : splitD l, splitD_ne l with
      | q :: ps, _ =>
        rw [e] at hp ih
        rcases List.mem_cons.1 hp with rfl | hp
        · rcases List.mem_cons.1 hb with rfl | hb
          · simpa using h
          · exact ih q (by simp) b hb
        · exact ih p (by simp [hp]) b hb

def wordC (b : UInt8) : Bool := !(b == 32)
def wordR (t : List UInt8) : List UInt8 := t.takeWhile wordC
def numB (p : List UInt8) : Bool := decide (1 ≤ p.length) && decide (p.length ≤ 3) && !(decide (1 < p.length) && p.getD 0 0 == 48) && p.all digC
def refOk (code : Nat) (t : List UInt8) : Bool :=
  decide ((splitD (wordR t)).length = 3) && decide (((splitD (wordR t)).getD 0 []).length = 1) && numB ((splitD (wordR t)).getD 0 []) && numB ((splitD (wordR t)).getD 1 []) && numB ((splitD (wordR t)).getD 2 []) &&
    decide ((((splitD (wordR t)).getD 0 []).getD 0 0).toNat - 48 = code / 100) && !decide ((((splitD (wordR t)).getD 0 []).getD 0 0).toNat - 48 = 3)
def statS (code : Nat) (t : List UInt8) : List UInt8 := if refOk code t then wordR t else []

theorem digC_bounds {b : UInt8} (h : digC b = true) : 48 ≤ b.toNat ∧ b.toNat ≤ 57 := by
  unfold digC at h
  simp only [List.contains_eq_mem, List.mem_cons, List.mem_nil_iff, or_false, decide_eq_true_eq] at h
  rcases h with rfl | rfl | rfl | rfl | rfl | rfl | rfl | rfl | rfl | rfl <;> decide
theorem digC_not46 {b : UInt8} (h : digC b = true) : b ≠ 46 ∧ b ≠ 32 ∧ dotC b = false := by
  have := digC_bounds h
  refine ⟨?_, ?_, ?_⟩
  · rintro rfl; revert this; decide
  · rintro rfl; revert this; decide
  · cases e : dotC b with
    | false => rfl
    | true =>
      unfold dotC at e
      simp only [List.contains_eq_mem, List.mem_cons, List.mem_nil_iff, or_false, decide_eq_true_eq] at e
      subst e; revert this; decide

theorem numB_part {p : List UInt8} (hd : p.all digC = true) : numB p = partC p := by
  unfold numB partC
  rw [hd, Bool.and_true]
  match p, hd with
  | [], _ => rfl
  | [b], _ =>
    by_cases h : b = 48
    · subst h; rfl
    · have h1 : (b == 48) = false := by simpa using h
      simp [h1]
  | b :: c :: l, _ =>
    have : (b :: c :: l == [48]) = false := by simp
    rw [this]
    simp [List.getD]

/-- A text that begins by a status. -/
structure Dec (code : Nat) (t a b c r : List UInt8) : Prop where
  is : t = a ++ 46 :: (b ++ 46 :: (c ++ r))
  da : a.all digC = true
  db : b.all digC = true
  dc : c.all digC = true
  ca : classC a code = true
  pb : partC b = true
  pc : partC c = true
  er : r = [] ∨ r.head? = some 32

theorem partC_ne {p : List UInt8} (h : partC p = true) : p ≠ [] := by rintro rfl; revert h; decide

theorem takeWhile_app {p : UInt8 → Bool} {a r : List UInt8} (ha : a.all p = true) (hr : r = [] ∨ ∃ b l, r = b :: l ∧ p b = false) : (a ++ r).takeWhile p = a ∧ (a ++ r).dropWhile p = r := by
  induction a with
  | nil =>
    rcases hr with rfl | ⟨b, l, rfl, hb⟩
    · exact ⟨rfl, rfl⟩
    · constructor
      · rw [List.nil_append, List.takeWhile_cons, if_neg (by rw [hb]; simp)]
      · rw [List.nil_append, List.dropWhile_cons, if_neg (by rw [hb]; simp)]
  | cons x a ih =>
    simp only [List.all_cons, Bool.and_eq_true] at ha
    obtain ⟨i1, i2⟩ := ih ha.2
    constructor
    · rw [List.cons_append, List.takeWhile_cons, if_pos ha.1, i1]
    · rw [List.cons_append, List.dropWhile_cons, if_pos ha.1, i2]

/-- The program's status by heads and tails. -/
theorem piece_run (p : UInt8 → Bool) (t : List UInt8) (i : Nat) : piece t i (i + runC p (t.drop i)) = (t.drop i).takeWhile p ∧ t.drop (i + runC p (t.drop i)) = (t.drop i).dropWhile p := by
  have h := List.takeWhile_append_dropWhile (p := p) (l := t.drop i)
  have h1 : (t.drop i).take (runC p (t.drop i)) = (t.drop i).takeWhile p := by
    unfold runC
    conv => lhs; rw [← h]
    rw [List.take_left']
    · rw [h]
  have h2 : (t.drop i).drop (runC p (t.drop i)) = (t.drop i).dropWhile p := by
    unfold runC
    conv => lhs; rw [← h]
    rw [List.drop_left']
    · rw [h]
  refine ⟨?_, ?_⟩
  · unfold piece
    rw [List.drop_take, Nat.add_sub_cancel_left, h1]
  · rw [← List.drop_drop, h2]
def hA (t : List UInt8) := t.takeWhile digC
def rA (t : List UInt8) := t.dropWhile digC
def hB (t : List UInt8) := (rA t).takeWhile dotC
def rB (t : List UInt8) := (rA t).dropWhile dotC
def hC (t : List UInt8) := (rB t).takeWhile digC
def rC (t : List UInt8) := (rB t).dropWhile digC
def hD (t : List UInt8) := (rC t).takeWhile dotC
def rD (t : List UInt8) := (rC t).dropWhile dotC
def hE (t : List UInt8) := (rD t).takeWhile digC
def rE (t : List UInt8) := (rD t).dropWhile digC
theorem formsT (t : List UInt8) : (piece t 0 (cutA t) = hA t ∧ piece t (cutA t) (cutB t) = hB t ∧ piece t (cutB t) (cutC t) = hC t ∧ piece t (cutC t) (cutD t) = hD t ∧ piece t (cutD t) (cutE t) = hE t) ∧ t.drop (cutE t) = rE t := by
  have a := piece_run digC t 0
  rw [Nat.zero_add, List.drop_zero] at a
  have b := piece_run dotC t (cutA t)
  rw [show t.drop (cutA t) = rA t from a.2] at b
  have e1 : cutA t + runC dotC (rA t) = cutB t := by rw [← show t.drop (cutA t) = rA t from a.2]; rfl
  rw [e1] at b
  have c := piece_run digC t (cutB t)
  rw [show t.drop (cutB t) = rB t from b.2] at c
  have e2 : cutB t + runC digC (rB t) = cutC t := by rw [← show t.drop (cutB t) = rB t from b.2]; rfl
  rw [e2] at c
  have d := piece_run dotC t (cutC t)
  rw [show t.drop (cutC t) = rC t from c.2] at d
  have e3 : cutC t + runC dotC (rC t) = cutD t := by rw [← show t.drop (cutC t) = rC t from c.2]; rfl
  rw [e3] at d
  have e := piece_run digC t (cutD t)
  rw [show t.drop (cutD t) = rD t from d.2] at e
  have e4 : cutD t + runC digC (rD t) = cutE t := by rw [← show t.drop (cutD t) = rD t from d.2]; rfl
  rw [e4] at e
  exact ⟨⟨a.1, b.1, c.1, d.1, e.1⟩, e.2⟩
theorem end_form (t : List UInt8) : endC t = true ↔ rE t = [] ∨ (rE t).head? = some 32 := by
  obtain ⟨_, h⟩ := formsT t
  unfold endC
  rw [← h]
  by_cases hl : t.length ≤ cutE t
  · rw [decide_eq_true hl, List.drop_eq_nil_of_le hl]; simp
  · have hl' : cutE t < t.length := by omega
    rw [decide_eq_false hl, Bool.false_or, List.drop_eq_getElem_cons hl', getD_str t _ hl', List.head?_cons, beq_iff_eq, Option.some.injEq]
    exact ⟨fun h => .inr h, fun h => h.elim (fun h => by cases h) id⟩
theorem all_tw (p : UInt8 → Bool) : ∀ l : List UInt8, (l.takeWhile p).all p = true
  | [] => rfl
  | b :: l => by
    rw [List.takeWhile_cons]
    split
    · next h => rw [List.all_cons, h, all_tw p l]; rfl
    · rfl

theorem Dec.forms {code : Nat} {t a b c r : List UInt8} (h : Dec code t a b c r) : hA t = a ∧ hB t = [46] ∧ hC t = b ∧ hD t = [46] ∧ hE t = c ∧ rE t = r := by
  obtain ⟨is, da, db, dc, ca, pb, pc, er⟩ := h
  have hb0 := partC_ne pb
  have hc0 := partC_ne pc
  have n46 : digC 46 = false := by decide
  have y46 : ([46] : List UInt8).all dotC = true := by decide
  have dots : ∀ {q : List UInt8} (l : List UInt8), q ≠ [] → q.all digC = true → (q ++ l = [] ∨ ∃ x y, q ++ l = x :: y ∧ dotC x = false) := by
    intro q l h0 hd
    match q, h0, hd with
    | x :: q, _, hd =>
      simp only [List.all_cons, Bool.and_eq_true] at hd
      exact .inr ⟨x, q ++ l, rfl, (digC_not46 hd.1).2.2⟩
  have s1 := takeWhile_app (p := digC) (a := a) (r := 46 :: (b ++ 46 :: (c ++ r))) da (.inr ⟨46, _, rfl, n46⟩)
  rw [← is] at s1
  have s2 := takeWhile_app (p := dotC) (a := [46]) (r := b ++ 46 :: (c ++ r)) y46 (dots _ hb0 db)
  have s3 := takeWhile_app (p := digC) (a := b) (r := 46 :: (c ++ r)) db (.inr ⟨46, _, rfl, n46⟩)
  have s4 := takeWhile_app (p := dotC) (a := [46]) (r := c ++ r) y46 (dots _ hc0 dc)
  have s5 := takeWhile_app (p := digC) (a := c) (r := r) dc (by
    rcases er with rfl | er
    · exact .inl rfl
    · match r, er with
      | x :: l, er => exact .inr ⟨x, l, rfl, by simp only [List.head?_cons, Option.some.injEq] at er; subst er; decide⟩)
  have e1 : rA t = [46] ++ (b ++ 46 :: (c ++ r)) := s1.2
  have e2 : rB t = b ++ 46 :: (c ++ r) := by unfold rB; rw [e1]; exact s2.2
  have e3 : rC t = [46] ++ (c ++ r) := by unfold rC; rw [e2]; exact s3.2
  have e4 : rD t = c ++ r := by unfold rD; rw [e3]; exact s4.2
  refine ⟨s1.1, ?_, ?_, ?_, ?_, ?_⟩
  · unfold hB; rw [e1]; exact s2.1
  · unfold hC; rw [e2]; exact s3.1
  · unfold hD; rw [e3]; exact s4.1
  · unfold hE; rw [e4]; exact s5.1
  · unfold rE; rw [e4]; exact s5.2
theorem Dec.stat {code : Nat} {t a b c r : List UInt8} (h : Dec code t a b c r) : statR code t = a ++ 46 :: (b ++ 46 :: c) := by
  obtain ⟨f1, f2, f3, f4, f5, f6⟩ := h.forms
  obtain ⟨⟨p1, p2, p3, p4, p5⟩, p6⟩ := formsT t
  have hok : statOk code t = true := by
    unfold statOk
    rw [p1, p2, p3, p4, p5, f1, f2, f3, f4, f5, h.ca, h.pb, h.pc, (end_form t).2 (by rw [f6]; exact h.er)]
    rfl
  unfold statR
  rw [if_pos hok]
  have h1 := List.take_append_drop (cutE t) t
  rw [p6, f6] at h1
  have h2 : t = (a ++ 46 :: (b ++ 46 :: c)) ++ r := by rw [h.is]; simp
  exact List.append_cancel_right (h1.trans h2)
theorem dec_of_stat {code : Nat} {t : List UInt8} (h : statOk code t = true) : Dec code t (hA t) (hC t) (hE t) (rE t) := by
  obtain ⟨⟨p1, p2, p3, p4, p5⟩, p6⟩ := formsT t
  unfold statOk at h
  rw [p1, p2, p3, p4, p5] at h
  simp only [Bool.and_eq_true, beq_iff_eq] at h
  obtain ⟨⟨⟨⟨⟨h1, h2⟩, h3⟩, h4⟩, h5⟩, h6⟩ := h
  refine ⟨?_, all_tw _ _, all_tw _ _, all_tw _ _, h1, h3, h5, (end_form t).1 h6⟩
  have e1 : hA t ++ rA t = t := List.takeWhile_append_dropWhile
  have e2 : hB t ++ rB t = rA t := List.takeWhile_append_dropWhile
  have e3 : hC t ++ rC t = rB t := List.takeWhile_append_dropWhile
  have e4 : hD t ++ rD t = rC t := List.takeWhile_append_dropWhile
  have e5 : hE t ++ rE t = rD t := List.takeWhile_append_dropWhile
  rw [h2] at e2
  rw [h4] at e4
  conv => lhs; rw [← e1, ← e2, ← e3, ← e4, ← e5]
  simp

theorem Dec.word {code : Nat} {t a b c r : List UInt8} (h : Dec code t a b c r) : wordR t = a ++ 46 :: (b ++ 46 :: c) := by
  have h2 : t = (a ++ 46 :: (b ++ 46 :: c)) ++ r := by rw [h.is]; simp
  have hd : ∀ {q : List UInt8}, q.all digC = true → ∀ x ∈ q, wordC x = true := fun hq x hx => by
    have := (digC_not46 (List.all_eq_true.1 hq x hx)).2.1
    unfold wordC
    simpa using this
  unfold wordR
  rw [h2]
  refine (takeWhile_app ?_ ?_).1
  · rw [List.all_eq_true]
    intro x hx
    simp only [List.mem_append, List.mem_cons] at hx
    rcases hx with hx | rfl | hx | rfl | hx
    · exact hd h.da x hx
    · decide
    · exact hd h.db x hx
    · decide
    · exact hd h.dc x hx
  · rcases h.er with rfl | er
    · exact .inl rfl
    · match r, er with
      | x :: l, er => exact .inr ⟨x, l, rfl, by simp only [List.head?_cons, Option.some.injEq] at er; subst er; decide⟩
theorem not_dots {q : List UInt8} (h : q.all digC = true) : ∀ b ∈ q, b ≠ 46 := fun b hb => (digC_not46 (List.all_eq_true.1 h b hb)).1
theorem class_ref {a : List UInt8} {code : Nat} (h0 : 200 ≤ code) (h1 : code ≤ 599) (hd : a.all digC = true) : classC a code = (decide (a.length = 1) && decide ((a.getD 0 0).toNat - 48 = code / 100) && !decide ((a.getD 0 0).toNat - 48 = 3)) := by
  match a, hd with
  | [], _ => rfl
  | [b], hd =>
    simp only [List.all_cons, List.all_nil, Bool.and_true] at hd
    have hb := digC_bounds hd
    have hq : code / 100 = 2 ∨ code / 100 = 3 ∨ code / 100 = 4 ∨ code / 100 = 5 := by omega
    have hbb : b.toNat = 48 ∨ b.toNat = 49 ∨ b.toNat = 50 ∨ b.toNat = 51 ∨ b.toNat = 52 ∨ b.toNat = 53 ∨ b.toNat = 54 ∨ b.toNat = 55 ∨ b.toNat = 56 ∨ b.toNat = 57 := by omega
    have hbo : b = UInt8.ofNat b.toNat := UInt8.ofNat_toNat.symm
    unfold classC
    rcases hq with q | q | q | q <;> rw [q] <;> rcases hbb with e | e | e | e | e | e | e | e | e | e <;> rw [hbo, e] <;> decide
  | b :: c :: l, _ =>
    unfold classC
    simp
theorem Dec.ref {code : Nat} {t a b c r : List UInt8} (h0 : 200 ≤ code) (h1 : code ≤ 599) (h : Dec code t a b c r) : refOk code t = true := by
  have hs : splitD (wordR t) = [a, b, c] := by
    rw [h.word, splitD_at _ (not_dots h.da), splitD_at _ (not_dots h.db), splitD_none (not_dots h.dc)]
  have hca := h.ca
  rw [class_ref h0 h1 h.da] at hca
  simp only [Bool.and_eq_true, decide_eq_true_eq] at hca
  unfold refOk
  rw [hs]
  show (decide (3 = 3) && decide (a.length = 1) && numB a && numB b && numB c && decide ((a.getD 0 0).toNat - 48 = code / 100) && !decide ((a.getD 0 0).toNat - 48 = 3)) = true
  have hna : numB a = true := by
    unfold numB
    rw [h.da, hca.1.1]
    simp
  rw [hna, numB_part h.db, numB_part h.dc, h.pb, h.pc, decide_eq_true hca.1.1, decide_eq_true hca.1.2, hca.2]
  rfl
theorem dec_of_ref {code : Nat} {t : List UInt8} (h0 : 200 ≤ code) (h1 : code ≤ 599) (h : refOk code t = true) : ∃ a b c r, Dec code t a b c r := by
  unfold refOk at h
  have hj := joinD_split (wordR t)
  have hw : wordR t ++ t.dropWhile wordC = t := List.takeWhile_append_dropWhile
  match e : splitD (wordR t), h with
  | [a, b, c], h =>
    rw [e] at hj
    simp only [List.getD_cons_zero, List.getD_cons_succ, Bool.and_eq_true] at h
    obtain ⟨⟨⟨⟨⟨⟨_, k1⟩, k2⟩, k3⟩, k4⟩, k5⟩, k6⟩ := h
    have dg : ∀ {q : List UInt8}, numB q = true → q.all digC = true := fun hq => by
      unfold numB at hq
      simp only [Bool.and_eq_true] at hq
      exact hq.2
    refine ⟨a, b, c, t.dropWhile wordC, ?_, dg k2, dg k3, dg k4, ?_, by rw [← numB_part (dg k3)]; exact k3, by rw [← numB_part (dg k4)]; exact k4, ?_⟩
    · rw [← hj] at hw
      refine hw.symm.trans ?_
      show (a ++ 46 :: (b ++ 46 :: c)) ++ _ = _
      simp
    · rw [class_ref h0 h1 (dg k2)]
      rw [k1, k5, k6]
      rfl
    · match e2 : t.dropWhile wordC with
      | [] => exact .inl rfl
      | x :: l =>
        refine .inr ?_
        have := List.head?_dropWhile_not (p := wordC) (l := t)
        rw [e2] at this
        simp only [List.head?_cons] at this
        unfold wordC at this
        simpa using this
theorem statS_eq (code : Nat) (t : List UInt8) (h0 : 200 ≤ code) (h1 : code ≤ 599) : statS code t = statR code t := by
  cases hr : refOk code t with
  | true =>
    obtain ⟨a, b, c, r, hd⟩ := dec_of_ref h0 h1 hr
    unfold statS
    rw [if_pos hr, hd.stat, hd.word]
  | false =>
    have hn : statOk code t = false := by
      cases e : statOk code t with
      | false => rfl
      | true => rw [(dec_of_stat e).ref h0 h1] at hr; cases hr
    unfold statS statR
    rw [if_neg (by rw [hr]; exact Bool.false_ne_true), if_neg (by rw [hn]; exact Bool.false_ne_true)]
end Go.Proofs.YtanfonpbnamjmaaDoor
