/-
  What follows of commands' lines: what is shown is read as it was, whatever letters of the verb's word are small; what is read, shown, is the line but for great letters; one path, one verb; bytes.
  Plain lemmas; no program.
-/
import Derived.Test.YtifmnlcggokfkaaGreatDoorAPure2
import Derived.Test.YtifmnlcggokfkaaGreatDoorKPure
namespace Go.Proofs.YtifmnlcggokfkaaGreatDoor

theorem hd_six {P : Nat → Prop} (h1 : P 1) (h2 : P 2) (h3 : P 3) (h4 : P 4) (h5 : P 5) (h6 : P 6) : ∀ v, 1 ≤ v → v ≤ 6 → P v := by
  intro v a b
  rcases (show v = 1 ∨ v = 2 ∨ v = 3 ∨ v = 4 ∨ v = 5 ∨ v = 6 by omega) with rfl | rfl | rfl | rfl | rfl | rfl <;> assumption
theorem hd_cons : ∀ v, 1 ≤ v → v ≤ 6 → ∃ t, hdL v = (hdL v).headD 0 :: t := hd_six ⟨_, rfl⟩ ⟨_, rfl⟩ ⟨_, rfl⟩ ⟨_, rfl⟩ ⟨_, rfl⟩ ⟨_, rfl⟩
theorem hd_great : ∀ v, 1 ≤ v → v ≤ 6 → gr (hdL v) = hdL v := hd_six (by decide) (by decide) (by decide) (by decide) (by decide) (by decide)
theorem hd_len : ∀ v, 1 ≤ v → v ≤ 6 → (hdL v).length ≤ 10 := hd_six (by decide) (by decide) (by decide) (by decide) (by decide) (by decide)
theorem hd_bytes : ∀ v, 1 ≤ v → v ≤ 6 → ∀ c ∈ hdL v, 32 ≤ c ∧ c ≤ 126 := hd_six (by decide) (by decide) (by decide) (by decide) (by decide) (by decide)
theorem hd_first {u v : Nat} (hu : 1 ≤ u ∧ u ≤ 6) (hv : 1 ≤ v ∧ v ≤ 6) (h : (hdL u).headD 0 = (hdL v).headD 0) : u = v := by
  have key : ∀ x : Fin 7, ∀ y : Fin 7, 1 ≤ x.val → 1 ≤ y.val → (hdL x.val).headD 0 = (hdL y.val).headD 0 → x = y := by decide
  have := key ⟨u, by omega⟩ ⟨v, by omega⟩ hu.1 hv.1 h
  simpa using this
theorem hdAt_first {s : List UInt8} {u : Nat} (hu : 1 ≤ u ∧ u ≤ 6) (h : hdAt s u = true) : greatC (s.headD 0) = (hdL u).headD 0 ∧ (hdL u).length ≤ s.length := by
  obtain ⟨t, ht⟩ := hd_cons u hu.1 hu.2
  unfold hdAt at h
  rw [beq_iff_eq] at h
  have hl := congrArg List.length h
  rw [List.length_map, List.length_take] at hl
  refine ⟨?_, by omega⟩
  rw [ht] at h hl ⊢
  cases s with
  | nil => simp at hl
  | cons c r =>
    simp only [gr, List.length_cons, List.take_succ_cons, List.map_cons, List.cons.injEq] at h
    exact h.1
theorem hdAt_one {s : List UInt8} {u v : Nat} (hu : 1 ≤ u ∧ u ≤ 6) (hv : 1 ≤ v ∧ v ≤ 6) (h : hdAt s u = true) (h' : hdAt s v = true) : u = v :=
  hd_first hu hv ((hdAt_first hu h).1.symm.trans (hdAt_first hv h').1)
theorem hdAt_not {s : List UInt8} {u v : Nat} (hu : 1 ≤ u ∧ u ≤ 6) (hv : 1 ≤ v ∧ v ≤ 6) (h : hdAt s v = true) (hn : u ≠ v) : hdAt s u = false := by
  rw [Bool.eq_false_iff]
  exact fun h' => hn (hdAt_one hu hv h' h)
theorem cutH_of {s : List UInt8} {v : Nat} (hv : 1 ≤ v ∧ v ≤ 6) (h : hdAt s v = true) : cutH s = (v, s.drop (hdL v).length) := by
  have n : ∀ u, 1 ≤ u ∧ u ≤ 6 → u ≠ v → hdAt s u = false := fun u hu hn => hdAt_not hu hv h hn
  rcases (show v = 1 ∨ v = 2 ∨ v = 3 ∨ v = 4 ∨ v = 5 ∨ v = 6 by omega) with rfl | rfl | rfl | rfl | rfl | rfl
  · unfold cutH; simp only [h, if_true]; rfl
  · unfold cutH; simp only [h, n 1 (by omega) (by omega), Bool.false_eq_true, if_true, if_false]; rfl
  · unfold cutH; simp only [h, n 1 (by omega) (by omega), n 2 (by omega) (by omega), Bool.false_eq_true, if_true, if_false]; rfl
  · unfold cutH; simp only [h, n 1 (by omega) (by omega), n 2 (by omega) (by omega), n 3 (by omega) (by omega), Bool.false_eq_true, if_true, if_false]; rfl
  · unfold cutH; simp only [h, n 1 (by omega) (by omega), n 2 (by omega) (by omega), n 3 (by omega) (by omega), n 4 (by omega) (by omega), Bool.false_eq_true, if_true, if_false]; rfl
  · unfold cutH; simp only [h, n 1 (by omega) (by omega), n 2 (by omega) (by omega), n 3 (by omega) (by omega), n 4 (by omega) (by omega), n 5 (by omega) (by omega), Bool.false_eq_true, if_true, if_false]; rfl
theorem cutH_none {s : List UInt8} (h : ∀ v, 1 ≤ v → v ≤ 6 → hdAt s v = false) : cutH s = (0, s) := by
  unfold cutH
  simp only [h 1 (by omega) (by omega), h 2 (by omega) (by omega), h 3 (by omega) (by omega), h 4 (by omega) (by omega), h 5 (by omega) (by omega), h 6 (by omega) (by omega), Bool.false_eq_true, if_false]
theorem cutH_cases (s : List UInt8) : (∃ v, 1 ≤ v ∧ v ≤ 6 ∧ hdAt s v = true ∧ cutH s = (v, s.drop (hdL v).length)) ∨ (∀ v, 1 ≤ v → v ≤ 6 → hdAt s v = false) ∧ cutH s = (0, s) := by
  by_cases h : ∃ v, (1 ≤ v ∧ v ≤ 6) ∧ hdAt s v = true
  · obtain ⟨v, hv, h⟩ := h
    exact .inl ⟨v, hv.1, hv.2, h, cutH_of hv h⟩
  · have : ∀ v, 1 ≤ v → v ≤ 6 → hdAt s v = false := fun v a b => by
      rw [Bool.eq_false_iff]
      exact fun e => h ⟨v, ⟨a, b⟩, e⟩
    exact .inr ⟨this, cutH_none this⟩
theorem hdAt_mk {h' r : List UInt8} {v : Nat} (h : gr h' = hdL v) : hdAt (h' ++ r) v = true ∧ (h' ++ r).drop (hdL v).length = r := by
  have hl := congrArg List.length h
  rw [List.length_map] at hl
  unfold hdAt
  rw [← hl]
  simp [h]

/-! ### One path -/
theorem atoms_no : ∀ {a b : List UInt8} {c : UInt8} (st : Bool), signC c = false → c ≠ 46 → atomsF st (a ++ c :: b) = false
  | [], b, c, st, h, h' => by
    have : (c == 46) = false := by simpa using h'
    show ((signC c || (st && c == 46)) && _) = false
    rw [h, this]; simp
  | x :: a, b, c, st, h, h' => by
    show ((signC x || (st && x == 46)) && atomsF (signC x) (a ++ c :: b)) = false
    rw [atoms_no (signC x) h h', Bool.and_false]
theorem quot_no : ∀ {m r : List UInt8} (st : Bool), quotF st m = true → quotF st (m ++ 34 :: r) = false
  | [], r, st, h => by
    have : st = false := by simpa [quotF] using h
    subst this
    show ((grC 34 && (false || (34 : UInt8) != 34)) && _) = false
    rw [show (grC 34 && (false || (34 : UInt8) != 34)) = false by decide, Bool.false_and]
  | c :: m, r, st, h => by
    have h' : ((grC c && (st || c != 34)) && quotF (c == 92 && !st) m) = true := h
    rw [Bool.and_eq_true] at h'
    show ((grC c && (st || c != 34)) && quotF (c == 92 && !st) (m ++ 34 :: r)) = false
    rw [quot_no _ h'.2, Bool.and_false]
theorem quoted_form {l : List UInt8} (h : quotedL l = true) : ∃ m, l = 34 :: (m ++ [34]) ∧ quotF false m = true := by
  unfold quotedL at h
  simp only [Bool.and_eq_true, decide_eq_true_eq, beq_iff_eq] at h
  obtain ⟨⟨⟨h1, h2⟩, h3⟩, h4⟩ := h
  cases l with
  | nil => simp at h2
  | cons c t =>
    simp only [List.head?_cons, Option.some.injEq, List.tail_cons] at h1 h4
    subst h1
    have ht : t ≠ [] := by rintro rfl; simp at h2
    rw [List.getLast?_cons] at h3
    have h5 : t.getLast? = some 34 := by
      cases hg : t.getLast? with
      | none => rw [List.getLast?_eq_none_iff] at hg; exact absurd hg ht
      | some z => rw [hg] at h3; simpa using h3
    obtain ⟨u, rfl⟩ := List.getLast?_eq_some_iff.1 h5
    exact ⟨u, rfl, by simpa using h4⟩
/-- No local part is one with an @ and more behind it. -/
theorem local_no {l x : List UInt8} (h : localL l = true) (h' : localL (l ++ 64 :: x) = true) : False := by
  have hne := (localL_ne h).1
  unfold localL at h h'
  simp only [Bool.and_eq_true, Bool.or_eq_true] at h h'
  have hat : ∀ (a b : List UInt8), atomsL (a ++ 64 :: b) = false := fun a b => atoms_no false (by decide) (by decide)
  rcases h'.2 with h2 | h2
  · rw [hat] at h2; cases h2
  · obtain ⟨m', e', q'⟩ := quoted_form h2
    rcases h.2 with h1 | h1
    · cases l with
      | nil => exact hne rfl
      | cons c t =>
        simp only [List.cons_append, List.cons.injEq] at e'
        obtain ⟨rfl, _⟩ := e'
        exact absurd h1 (by unfold atomsL; show ¬ ((signC 34 || (false && (34 : UInt8) == 46)) && _) = true; rw [show (signC 34 || (false && (34 : UInt8) == 46)) = false by decide]; simp)
    · obtain ⟨m, rfl, q⟩ := quoted_form h1
      simp only [List.cons_append, List.append_assoc, List.cons.injEq, true_and] at e'
      have hx : (64 :: x) ≠ [] := by simp
      obtain ⟨z, hz⟩ : ∃ z, m' = m ++ 34 :: z := by
        have hl := congrArg List.dropLast e'
        rw [List.dropLast_concat] at hl
        refine ⟨(64 :: x).dropLast, ?_⟩
        rw [← hl, List.dropLast_append_of_ne_nil (by simp)]
        rfl
      rw [hz, quot_no false q] at q'
      cases q'
theorem smallC_not (c : UInt8) : smallC c = 62 → c = 62 := by
  have key : ∀ n : Fin 256, smallC (UInt8.ofNat n) = 62 → UInt8.ofNat n = 62 := by decide +kernel
  have := key ⟨c.toNat, c.toNat_lt⟩
  simpa using this
theorem small_of (c : UInt8) (h : c = 62) : smallC c = 62 := by subst h; decide
theorem may_no_shut {d : List UInt8} (h : mayL d = true) : ∀ c ∈ d, c ≠ 62 ∧ c ≠ 32 ∧ 32 ≤ c ∧ c ≤ 126 := by
  intro c hc
  obtain ⟨_, h2, _⟩ := may_iff.1 h
  rcases mem_cutD d hc with rfl | ⟨l, hl, hcl⟩
  · decide
  · have := (isLab_all (h2 l hl)).2.2 c hcl
    have key : ∀ n : Fin 256, labC (UInt8.ofNat n) = true → UInt8.ofNat n ≠ 62 ∧ UInt8.ofNat n ≠ 32 ∧ 32 ≤ UInt8.ofNat n ∧ UInt8.ofNat n ≤ 126 := by decide +kernel
    have k := key ⟨c.toNat, c.toNat_lt⟩
    simp only [UInt8.ofNat_toNat] at k
    exact k this
theorem small_in (c : UInt8) : (32 ≤ smallC c ∧ smallC c ≤ 126) → 32 ≤ c ∧ c ≤ 126 := by
  have key : ∀ n : Fin 256, (32 ≤ smallC (UInt8.ofNat n) ∧ smallC (UInt8.ofNat n) ≤ 126) → 32 ≤ UInt8.ofNat n ∧ UInt8.ofNat n ≤ 126 := by decide +kernel
  have := key ⟨c.toNat, c.toNat_lt⟩
  simpa using this
theorem fold_no_shut {b d : List UInt8} (h : foldL b = some d) : ∀ c ∈ b, c ≠ 62 ∧ 32 ≤ c ∧ c ≤ 126 := by
  have hm := fold_is h
  unfold foldL at h
  split at h
  · simp only [Option.some.injEq] at h
    have hu : ∀ c ∈ undot b, c ≠ 62 ∧ 32 ≤ c ∧ c ≤ 126 := by
      intro c hc
      have hs := may_no_shut hm (smallC c) (by rw [← h]; exact List.mem_map_of_mem hc)
      exact ⟨fun e => hs.1 (small_of c e), small_in c hs.2.2⟩
    intro c hc
    unfold undot at hu
    split at hu
    · rename_i hl
      obtain ⟨u, rfl⟩ := List.getLast?_eq_some_iff.1 hl
      rw [List.dropLast_concat] at hu
      rcases List.mem_append.1 hc with hc | hc
      · exact hu c hc
      · obtain rfl := List.mem_singleton.1 hc
        decide
    · exact hu c hc
  · cases h
theorem end_cases {a : List UInt8} (h : endL a = true) : a = [] ∨ amayL a = true := by
  unfold endL at h
  rw [Bool.or_eq_true] at h
  exact h.imp (fun h => by simpa using h) id
theorem amay_form {a : List UInt8} (h : amayL a = true) : ∃ l b d, a = l ++ 64 :: b ∧ localL l = true ∧ foldL b = some d ∧ ∀ c ∈ b, c ≠ 64 := by
  unfold amayL at h
  obtain ⟨⟨l, d⟩, hp⟩ := Option.isSome_iff_exists.1 h
  obtain ⟨b, h1, h2, _, h4⟩ := parse_some.1 hp
  obtain ⟨e1, e2⟩ := cutA_some.1 h1
  exact ⟨l, b, d, e1, h2, h4, e2⟩
theorem local_first {l : List UInt8} (h : localL l = true) : l.headD 0 ≠ 62 := by
  have hne := (localL_ne h).1
  cases l with
  | nil => exact absurd rfl hne
  | cons c t =>
    intro e
    obtain rfl : c = 62 := e
    unfold localL at h
    simp only [Bool.and_eq_true, Bool.or_eq_true] at h
    rcases h.2 with h | h
    · exact absurd h (by unfold atomsL; show ¬ ((signC 62 || (false && (62 : UInt8) == 46)) && _) = true; rw [show (signC 62 || (false && (62 : UInt8) == 46)) = false by decide]; simp)
    · obtain ⟨m, e, _⟩ := quoted_form h
      simp at e
/-- No path begins by another one. -/
theorem path_one {a x : List UInt8} (ha : endL a = true) (hb : endL (a ++ 62 :: x) = true) : False := by
  rcases end_cases hb with e | hb
  · simp at e
  obtain ⟨l', b', d', e', h1', h2', h3'⟩ := amay_form hb
  rcases end_cases ha with rfl | ha
  · rw [List.nil_append] at e'
    have := local_first h1'
    have hne := (localL_ne h1').1
    cases l' with
    | nil => exact hne rfl
    | cons c t =>
      simp only [List.cons_append, List.cons.injEq] at e'
      exact this e'.1.symm
  · obtain ⟨l, b, d, rfl, h1, h2, h3⟩ := amay_form ha
    have hn := fold_no_shut h2'
    -- 62 stands in l', so l' begins by l ++ [64]
    rw [List.append_assoc] at e'
    simp only [List.cons_append] at e'
    rcases List.append_eq_append_iff.1 e' with ⟨z, hz, hz2⟩ | ⟨z, hz, hz2⟩
    · -- l' = l ++ z, 64 :: (b ++ 62 :: x) = z ++ 64 :: b'
      cases z with
      | nil =>
        simp only [List.nil_append, List.cons.injEq, true_and] at hz2
        exact (hn 62 (by rw [← hz2]; simp)).1 rfl
      | cons c t =>
        simp only [List.cons_append, List.cons.injEq] at hz2
        obtain ⟨rfl, _⟩ := hz2
        rw [hz] at h1'
        exact local_no h1 h1'
    · -- l = l' ++ z, 64 :: b' = z ++ 64 :: (b ++ 62 :: x)
      cases z with
      | nil =>
        simp only [List.nil_append, List.cons.injEq, true_and] at hz2
        exact (hn 62 (by rw [hz2]; simp)).1 rfl
      | cons c t =>
        simp only [List.cons_append, List.cons.injEq] at hz2
        exact (hn 62 (by rw [hz2.2]; simp)).1 rfl

theorem cutPF_some : ∀ {n i : Nat} {s a r : List UInt8}, cutPF s n i = some (a, r) → ∃ j, i ≤ j ∧ j < i + n ∧ unpathL (s.take (j + 1)) = some a ∧ r = s.drop (j + 1) ∧ ∀ k, i ≤ k → k < j → unpathL (s.take (k + 1)) = none
  | 0, i, s, a, r, h => by cases h
  | n + 1, i, s, a, r, h => by
    unfold cutPF at h
    cases e : unpathL (s.take (i + 1)) with
    | some b =>
      rw [e] at h
      simp only [Option.some.injEq, Prod.mk.injEq] at h
      obtain ⟨rfl, rfl⟩ := h
      exact ⟨i, Nat.le_refl _, by omega, e, rfl, fun k h1 h2 => by omega⟩
    | none =>
      rw [e] at h
      obtain ⟨j, h1, h2, h3, h4, h5⟩ := cutPF_some h
      refine ⟨j, by omega, by omega, h3, h4, fun k a b => ?_⟩
      by_cases hk : k = i
      · rw [hk]; exact e
      · exact h5 k (by omega) b
theorem cutPF_none : ∀ {n i : Nat} {s : List UInt8}, cutPF s n i = none → ∀ k, i ≤ k → k < i + n → unpathL (s.take (k + 1)) = none
  | 0, i, s, _, k, a, b => by omega
  | n + 1, i, s, h, k, a, b => by
    unfold cutPF at h
    cases e : unpathL (s.take (i + 1)) with
    | some b => rw [e] at h; cases h
    | none =>
      rw [e] at h
      by_cases hk : k = i
      · rw [hk]; exact e
      · exact cutPF_none h k (by omega) (by omega)
/-- Two places at which a path ends are one. -/
theorem unpath_one {s a b : List UInt8} {i j : Nat} (hi : unpathL (s.take (i + 1)) = some a) (hj : unpathL (s.take (j + 1)) = some b) (hij : i < j) (hl : j < s.length) : False := by
  obtain ⟨e1, h1⟩ := unpath_some hi
  obtain ⟨e2, h2⟩ := unpath_some hj
  have hil : (s.take (i + 1)).length = i + 1 := by rw [List.length_take]; omega
  have e3 : s.take (j + 1) = s.take (i + 1) ++ (s.take (j + 1)).drop (i + 1) := by
    conv => lhs; rw [← List.take_append_drop (i + 1) (s.take (j + 1))]
    rw [List.take_take, show min (i + 1) (j + 1) = i + 1 by omega]
  rw [h1, h2] at e3
  have hn : ((60 :: (b ++ [62])).drop (i + 1)) ≠ [] := by
    rw [← h2]
    intro e
    have := congrArg List.length e
    rw [List.length_drop, List.length_take] at this
    simp at this
    omega
  generalize (60 :: (b ++ [62])).drop (i + 1) = u at e3 hn
  simp only [List.cons_append, List.append_assoc, List.cons.injEq, true_and] at e3
  obtain ⟨y, rfl⟩ : ∃ y, b = a ++ 62 :: y := by
    have hd := congrArg List.dropLast e3
    rw [List.dropLast_concat] at hd
    refine ⟨u.dropLast, ?_⟩
    rw [hd, List.dropLast_append_of_ne_nil (by simp)]
    cases u with
    | nil => exact absurd rfl hn
    | cons c t => rfl
  exact path_one e1 e2
theorem cutP_some {s a r : List UInt8} (h : cutP s = some (a, r)) : endL a = true ∧ s = 60 :: (a ++ 62 :: r) := by
  obtain ⟨j, _, h2, h3, h4, _⟩ := cutPF_some h
  obtain ⟨e1, e2⟩ := unpath_some h3
  refine ⟨e1, ?_⟩
  rw [← List.take_append_drop (j + 1) s, e2, h4]
  simp
theorem cutP_mk {a : List UInt8} (h : endL a = true) (r : List UInt8) : cutP (60 :: (a ++ 62 :: r)) = some (a, r) := by
  have hl : (60 :: (a ++ 62 :: r)).length = a.length + r.length + 2 := by simp; omega
  have ht : (60 :: (a ++ 62 :: r)).take (a.length + 1 + 1) = 60 :: (a ++ [62]) := by
    rw [List.take_succ_cons, show a ++ 62 :: r = (a ++ [62]) ++ r by simp, List.take_left' (by simp)]
  have hu : unpathL ((60 :: (a ++ 62 :: r)).take (a.length + 1 + 1)) = some a := by rw [ht]; exact unpath_path h
  have hd : (60 :: (a ++ 62 :: r)).drop (a.length + 1 + 1) = r := by simp
  cases hc : cutP (60 :: (a ++ 62 :: r)) with
  | none =>
    have := cutPF_none hc (a.length + 1) (by omega) (by rw [hl]; omega)
    rw [hu] at this; cases this
  | some x =>
    obtain ⟨b, t⟩ := x
    obtain ⟨j, _, h2, h3, h4, _⟩ := cutPF_some hc
    rw [Nat.zero_add] at h2
    rcases Nat.lt_trichotomy j (a.length + 1) with hj | rfl | hj
    · exact (unpath_one h3 hu hj (by rw [hl]; omega)).elim
    · rw [hu] at h3
      rw [hd] at h4
      simp only [Option.some.injEq] at h3
      rw [h3, h4]
    · exact (unpath_one hu h3 hj h2).elim

/-! ### There and back -/
theorem pathL_of {a : List UInt8} (h : endL a = true) : pathL a = 60 :: (a ++ [62]) := by unfold pathL; rw [if_pos h]
theorem end_of_may {a : List UInt8} (h : amayL a = true) : endL a = true := by unfold endL; rw [h]; simp
theorem may_verb {c : Cm} (h : mayK c = true) : 1 ≤ c.verb ∧ c.verb ≤ 6 := by
  obtain ⟨v, a, ps⟩ := c
  unfold mayK at h
  match v, h with
  | 0, h => cases h
  | 1, _ => exact ⟨by simp, by simp⟩
  | 2, _ => exact ⟨by simp, by simp⟩
  | 3, _ => exact ⟨by simp, by simp⟩
  | 4, _ => exact ⟨by simp, by simp⟩
  | 5, _ => exact ⟨by simp, by simp⟩
  | 6, _ => exact ⟨by simp, by simp⟩
  | n + 7, h => cases h
/-- What may be, by its verb. -/
theorem may_kinds {c : Cm} (h : mayK c = true) : (c.verb = 1 ∧ mayL c.arg = true ∧ c.ps = []) ∨ (pathV c.verb = true ∧ c.verb ≠ 1 ∧ endL c.arg = true ∧ psL c.ps = true) ∨ (pathV c.verb = false ∧ c.verb ≠ 1 ∧ c.arg = [] ∧ c.ps = []) := by
  have hv := may_verb h
  obtain ⟨v, a, ps⟩ := c
  dsimp only at hv ⊢
  unfold mayK at h
  rcases (show v = 1 ∨ v = 2 ∨ v = 3 ∨ v = 4 ∨ v = 5 ∨ v = 6 by omega) with rfl | rfl | rfl | rfl | rfl | rfl
  · simp only [Bool.and_eq_true] at h
    exact .inl ⟨rfl, h.1, by simpa using h.2⟩
  · simp only [Bool.and_eq_true] at h
    exact .inr (.inr ⟨rfl, by decide, by simpa using h.1, by simpa using h.2⟩)
  · simp only [Bool.and_eq_true] at h
    exact .inr (.inl ⟨rfl, by decide, h.1, h.2⟩)
  · simp only [Bool.and_eq_true] at h
    exact .inr (.inl ⟨rfl, by decide, end_of_may h.1, h.2⟩)
  · simp only [Bool.and_eq_true] at h
    exact .inr (.inr ⟨rfl, by decide, by simpa using h.1, by simpa using h.2⟩)
  · simp only [Bool.and_eq_true] at h
    exact .inr (.inr ⟨rfl, by decide, by simpa using h.1, by simpa using h.2⟩)
theorem psL_all {l : List PM} (h : psL l = true) : l.length ≤ 8 ∧ (∀ p ∈ l, pL p = true) ∧ (l.map (·.1)).Nodup := by
  unfold psL at h
  simp only [Bool.and_eq_true, decide_eq_true_eq, List.all_eq_true] at h
  exact ⟨h.1.1, h.1.2, h.2⟩
theorem read_shown {c : Cm} (h : mayK c = true) {h' : List UInt8} (hh : gr h' = hdL c.verb) : readK (h' ++ (argText c ++ psText c.ps)) = (c, []) := by
  have hv := may_verb h
  obtain ⟨x1, x2⟩ := hdAt_mk (r := argText c ++ psText c.ps) hh
  unfold readK
  rw [cutH_of hv x1, x2]
  dsimp only
  obtain ⟨v, a, ps⟩ := c
  unfold argText
  rcases may_kinds h with ⟨h1, _, h3⟩ | ⟨h1, h2, h3, h4⟩ | ⟨h1, h2, h3, h4⟩
  · dsimp only at h1 h3 ⊢
    subst h1 h3
    simp [psText]
  · dsimp only at h1 h2 h3 h4 ⊢
    rw [if_neg h2, if_neg h2, if_pos h1, if_pos h1, pathL_of h3]
    simp only [List.cons_append, List.append_assoc, List.nil_append]
    rw [cutP_mk h3]
    dsimp only
    rw [parsP_text (psL_all h4).2.1]
  · dsimp only at h1 h2 h3 h4 ⊢
    subst h3 h4
    rw [if_neg h2, if_neg h2, h1]
    simp [psText]
/-- What is shown is parsed as it was, whatever letters of its verb's word are small. -/
theorem parse_shown {c : Cm} (h : mayK c = true) (hl : (shownK c).length ≤ 510) {h' : List UInt8} (hh : gr h' = hdL c.verb) : parseK (h' ++ (argText c ++ psText c.ps)) = (c, 0) := by
  have e := congrArg List.length hh
  rw [List.length_map] at e
  have hl' : ¬ 510 < (h' ++ (argText c ++ psText c.ps)).length := by
    unfold shownK at hl
    simp only [List.length_append] at hl ⊢
    omega
  unfold parseK
  rw [if_neg hl', read_shown h hh]
  simp [h]
theorem shown_form (c : Cm) : shownK c = hdL c.verb ++ (argText c ++ psText c.ps) := by unfold shownK; rw [List.append_assoc]
theorem parse_show' {c : Cm} (h : mayK c = true) (hl : (shownK c).length ≤ 510) : parseK (shownK c) = (c, 0) := by
  have hv := may_verb h
  rw [shown_form]
  exact parse_shown h hl (hd_great _ hv.1 hv.2)

/-- What is parsed may be, and is, shown, the line but for great letters. -/
theorem parse_back {line : List UInt8} {a : Cm} (h : parseK line = (a, 0)) : mayK a = true ∧ gr (shownK a) = gr line ∧ (shownK a).length ≤ 510 := by
  unfold parseK at h
  split at h
  · simp at h
  rename_i hl
  split at h
  rotate_left
  · simp at h
  rename_i hc
  simp only [Prod.mk.injEq, and_true] at h
  rw [Bool.and_eq_true] at hc
  obtain ⟨c1, c2⟩ := hc
  rw [h] at c2
  have c1' : (readK line).2 = [] := by simpa using c1
  suffices hs : gr (shownK a) = gr line by
    refine ⟨c2, hs, ?_⟩
    have := congrArg List.length hs
    rw [List.length_map, List.length_map] at this
    omega
  have hv := may_verb c2
  unfold readK at h c1'
  rcases cutH_cases line with ⟨v, v1, v6, h1, h2⟩ | ⟨_, h2⟩
  · have hln : gr line = hdL v ++ gr (line.drop (hdL v).length) := by
      conv => lhs; rw [← List.take_append_drop (hdL v).length line]
      unfold hdAt at h1
      rw [beq_iff_eq] at h1
      simp only [gr, List.map_append] at h1 ⊢
      rw [h1]
    rw [hln]
    rw [h2] at h c1'
    dsimp only at h c1'
    generalize line.drop (hdL v).length = rest at h c1'
    have hg := hd_great v v1 v6
    by_cases e1 : v = 1
    · subst e1
      rw [if_pos rfl] at h
      subst h
      simp [shownK, argText, psText, gr]
      exact hg
    · rw [if_neg e1] at h c1'
      cases hp : pathV v with
      | true =>
        rw [hp, if_pos rfl] at h c1'
        cases hcp : cutP rest with
        | none =>
          rw [hcp] at h
          dsimp only at h
          subst h
          simp at hv
        | some x =>
          obtain ⟨q, b⟩ := x
          rw [hcp] at h c1'
          dsimp only at h c1'
          obtain ⟨g1, g2⟩ := cutP_some hcp
          obtain ⟨g3, _, _⟩ := parsP_great b.length b (Nat.le_refl _) c1'
          subst h
          unfold shownK argText
          dsimp only
          rw [if_neg e1, if_pos hp, pathL_of g1, g2]
          simp only [gr, List.map_append, List.map_cons, List.map_nil, List.cons_append, List.append_assoc, List.nil_append] at hg g3 ⊢
          rw [hg, g3]
      | false =>
        rw [hp] at h c1'
        simp only [Bool.false_eq_true, if_false] at h c1'
        subst h c1'
        unfold shownK argText
        dsimp only
        rw [if_neg e1, hp]
        simp [psText, gr]
        exact hg
  · rw [h2] at h
    dsimp only at h
    rw [if_neg (by decide), show pathV 0 = false by decide] at h
    simp only [Bool.false_eq_true, if_false] at h
    subst h
    simp at hv

theorem shown_inj {a b : Cm} (ha : mayK a = true) (hb : mayK b = true) (la : (shownK a).length ≤ 510) (lb : (shownK b).length ≤ 510) (h : shownK a = shownK b) : a = b := by
  have h1 := parse_show' ha la
  have h2 := parse_show' hb lb
  rw [h, h2] at h1
  simp only [Prod.mk.injEq, and_true] at h1
  exact h1.symm
theorem great_verb {a b : Cm} (ha : mayK a = true) (hb : mayK b = true) (h : gr (shownK a) = gr (shownK b)) : a.verb = b.verb := by
  have va := may_verb ha
  have vb := may_verb hb
  have key : ∀ c : Cm, mayK c = true → hdAt (gr (shownK c)) c.verb = true := by
    intro c hc
    have vc := may_verb hc
    rw [shown_form, gr, List.map_append]
    exact (hdAt_mk (h' := gr (hdL c.verb)) (by rw [gr_gr]; exact hd_great _ vc.1 vc.2)).1
  exact hdAt_one va vb (key a ha) (by rw [h]; exact key b hb)

theorem atoms_bytes : ∀ {l : List UInt8} (st : Bool), atomsF st l = true → ∀ c ∈ l, 32 ≤ c ∧ c ≤ 126
  | [], _, _ => by simp
  | x :: l, st, h => by
    have h' : ((signC x || (st && x == 46)) && atomsF (signC x) l) = true := h
    rw [Bool.and_eq_true] at h'
    intro c hc
    rcases List.mem_cons.1 hc with rfl | hc
    · have key : ∀ n : Fin 256, (signC (UInt8.ofNat n) || UInt8.ofNat n == 46) = true → 32 ≤ UInt8.ofNat n ∧ UInt8.ofNat n ≤ 126 := by decide +kernel
      have k := key ⟨c.toNat, c.toNat_lt⟩
      simp only [UInt8.ofNat_toNat] at k
      refine k ?_
      have h1 := h'.1
      cases hs : signC c with
      | true => rfl
      | false =>
        rw [hs] at h1
        simp only [Bool.false_or, Bool.and_eq_true] at h1 ⊢
        exact h1.2
    · exact atoms_bytes _ h'.2 c hc
theorem quot_bytes : ∀ {l : List UInt8} (st : Bool), quotF st l = true → ∀ c ∈ l, 32 ≤ c ∧ c ≤ 126
  | [], _, _ => by simp
  | x :: l, st, h => by
    have h' : ((grC x && (st || x != 34)) && quotF (x == 92 && !st) l) = true := h
    simp only [Bool.and_eq_true] at h'
    intro c hc
    rcases List.mem_cons.1 hc with rfl | hc
    · have := h'.1.1
      unfold grC at this
      simpa using this
    · exact quot_bytes _ h'.2 c hc
theorem local_bytes {l : List UInt8} (h : localL l = true) : ∀ c ∈ l, 32 ≤ c ∧ c ≤ 126 := by
  unfold localL at h
  simp only [Bool.and_eq_true, Bool.or_eq_true] at h
  rcases h.2 with h | h
  · exact atoms_bytes false h
  · obtain ⟨m, rfl, q⟩ := quoted_form h
    intro c hc
    rcases List.mem_cons.1 hc with rfl | hc
    · decide
    rcases List.mem_append.1 hc with hc | hc
    · exact quot_bytes false q c hc
    · obtain rfl := List.mem_singleton.1 hc
      decide
theorem end_bytes {a : List UInt8} (h : endL a = true) : ∀ c ∈ a, 32 ≤ c ∧ c ≤ 126 := by
  rcases end_cases h with rfl | h
  · simp
  obtain ⟨l, b, d, rfl, h1, h2, _⟩ := amay_form h
  intro c hc
  rcases List.mem_append.1 hc with hc | hc
  · exact local_bytes h1 c hc
  rcases List.mem_cons.1 hc with rfl | hc
  · decide
  · exact (fold_no_shut h2 c hc).2
theorem ps_bytes {l : List PM} (h : ∀ p ∈ l, pL p = true) : ∀ c ∈ psText l, 32 ≤ c ∧ c ≤ 126 := by
  intro c hc
  simp only [psText, List.mem_flatMap] at hc
  obtain ⟨p, hp, hc⟩ := hc
  have hpl := h p hp
  unfold pL at hpl
  rw [Bool.and_eq_true] at hpl
  unfold pText at hc
  rcases List.mem_cons.1 hc with rfl | hc
  · decide
  rcases List.mem_append.1 hc with hc | hc
  · exact (pnC_not ((pnL_all hpl.1).2.2.2 c hc)).2.2
  · split at hc
    · cases hc
    · rcases List.mem_cons.1 hc with rfl | hc
      · decide
      · exact (vlC_not (List.all_eq_true.1 hpl.2 c hc)).2.2
theorem shown_bytes {c : Cm} (h : mayK c = true) : ∀ x ∈ shownK c, 32 ≤ x ∧ x ≤ 126 := by
  have hv := may_verb h
  intro x hx
  unfold shownK at hx
  rcases List.mem_append.1 hx with hx | hx
  rcases List.mem_append.1 hx with hx | hx
  · exact hd_bytes _ hv.1 hv.2 x hx
  · unfold argText at hx
    rcases may_kinds h with ⟨h1, h2, _⟩ | ⟨h1, h2, h3, _⟩ | ⟨h1, h2, _, _⟩
    · rw [if_pos h1] at hx
      exact (may_no_shut h2 x hx).2.2
    · rw [if_neg h2, if_pos h1, pathL_of h3] at hx
      rcases List.mem_cons.1 hx with rfl | hx
      · decide
      rcases List.mem_append.1 hx with hx | hx
      · exact end_bytes h3 x hx
      · obtain rfl := List.mem_singleton.1 hx
        decide
    · rw [if_neg h2, h1] at hx
      simp at hx
  · refine ps_bytes ?_ x hx
    rcases may_kinds h with ⟨_, _, h3⟩ | ⟨_, _, _, h4⟩ | ⟨_, _, _, h4⟩
    · rw [h3]; simp
    · exact (psL_all h4).2.1
    · rw [h4]; simp
theorem shown_ne {c : Cm} (h : mayK c = true) : shownK c ≠ [] := by
  have hv := may_verb h
  obtain ⟨t, ht⟩ := hd_cons _ hv.1 hv.2
  unfold shownK
  rw [ht]
  simp
end Go.Proofs.YtifmnlcggokfkaaGreatDoor
