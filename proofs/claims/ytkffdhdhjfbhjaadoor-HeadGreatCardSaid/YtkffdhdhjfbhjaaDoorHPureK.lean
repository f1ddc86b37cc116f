/-
  Lines shown of fields, folded or not: what the fields of their text are, and its body.
-/
import Derived.Test.YtkffdhdhjfbhjaaDoorHFolded
import Derived.Test.YtkffdhdhjfbhjaaDoorHRShow
namespace Go.Proofs.YtkffdhdhjfbhjaaDoor
set_option linter.unusedSimpArgs false
set_option linter.unusedVariables false
open Go Go.RowKit Go.Shelf
set_option maxRecDepth 100000

/-- A field that may be shown. -/
def goodB (f : FP) : Bool := nameB f.1 && valB f.2
def lineOf (f : FP) : List UInt8 := f.1 ++ 58 :: 32 :: f.2
theorem showL_good {f : FP} (h : goodB f = true) : showL f = (lineOf f, 0) := by unfold showL; unfold goodB at h; rw [if_pos h]; rfl
theorem showL_bad {f : FP} (h : goodB f = false) : showL f = ([], 4) := by unfold showL; unfold goodB at h; rw [if_neg (by rw [h]; decide)]

theorem name_bytes {n : List UInt8} (h : nameB n = true) : n ≠ [] ∧ ∀ c ∈ n, okN c = true := by
  unfold nameB at h
  rw [Bool.and_eq_true] at h
  exact ⟨by intro e; rw [e] at h; simp at h, List.all_eq_true.1 h.1⟩
theorem okN_is {c : UInt8} (h : okN c = true) : c ≠ 32 ∧ c ≠ 58 ∧ c ≠ 10 ∧ c ≠ 9 := by
  refine ⟨?_, ?_, ?_, ?_⟩ <;> (rintro rfl; revert h; decide)
theorem okV_is {c : UInt8} (h : okV c = true) : c ≠ 10 := by rintro rfl; revert h; decide
theorem val_bytes {v : List UInt8} (h : valB v = true) : (∀ c ∈ v, c ≠ 10) ∧ trimL v = v := by
  unfold valB at h
  rw [Bool.and_eq_true] at h
  exact ⟨fun c hc => okV_is (List.all_eq_true.1 h.1 c hc), by simpa using h.2⟩
theorem noCL_no10 {x : List UInt8} (h : ∀ c ∈ x, c ≠ 10) : NoCL (x ++ [13]) := by
  intro i hi
  obtain ⟨h1, h2⟩ := hi
  have hm : (10 : UInt8) ∈ x ++ [13] := List.mem_of_getElem? h2
  rcases List.mem_append.1 hm with hm | hm
  · exact h _ hm rfl
  · simp at hm

/-- The lines of one field. -/
def Ln (f : FP) (L : List (List UInt8)) : Prop := goodB f = true ∧ ∃ (y : List UInt8) (B : List (List UInt8)), L = (f.1 ++ 58 :: 32 :: y) :: B ∧ f.2 = y ++ B.flatten ∧ ∀ x ∈ B, goesB x = true
theorem Ln.plain {f : FP} (h : goodB f = true) : Ln f [lineOf f] := ⟨h, f.2, [], rfl, by simp, fun x hx => by cases hx⟩
theorem Ln.of {f : FP} (h : goodB f = true) {t : List UInt8} (ht : FT (f.1.length + 2) (lineOf f) t) : ∃ L, Ln f L ∧ t ++ [13, 10] = joinL L := by
  rcases ht with rfl | ⟨x0, B, l, rfl, hp, h1, h2, h3⟩
  · exact ⟨_, Ln.plain h, by simp [joinL]⟩
  · have e0 : x0 = f.1 ++ 58 :: 32 :: x0.drop (f.1.length + 2) := by
      have h4 : x0.take (f.1.length + 2) = f.1 ++ [58, 32] := by
        have h5 := congrArg (List.take (f.1.length + 2)) hp
        rw [List.take_append_of_le_length h3] at h5
        rw [← h5]
        unfold lineOf
        rw [show f.1 ++ 58 :: 32 :: f.2 = (f.1 ++ [58, 32]) ++ f.2 by simp, List.take_append_of_le_length (by simp), List.take_of_length_le (by simp)]
      conv => lhs; rw [← List.take_append_drop (f.1.length + 2) x0, h4]
      simp
    refine ⟨x0 :: (B ++ [l]), ⟨h, x0.drop (f.1.length + 2), B ++ [l], by rw [← e0], ?_, fun x hx => ?_⟩, ?_⟩
    · unfold lineOf at hp
      rw [e0] at hp
      have : f.1 ++ 58 :: 32 :: f.2 = f.1 ++ (58 :: 32 :: (x0.drop (f.1.length + 2) ++ (B.flatten ++ l))) := by rw [hp]; simp
      have := List.append_cancel_left this
      simpa using this
    · rcases List.mem_append.1 hx with hx | hx
      · exact h2 x hx
      · simp only [List.mem_singleton] at hx; rw [hx]; exact h1
    · simp [joinL]
theorem Ln.clean {f : FP} {L : List (List UInt8)} (h : Ln f L) : ∀ x ∈ L, x ≠ [] ∧ NoCL (x ++ [13]) := by
  obtain ⟨hg, y, B, rfl, hv, hB⟩ := h
  unfold goodB at hg
  rw [Bool.and_eq_true] at hg
  obtain ⟨n1, n2⟩ := name_bytes hg.1
  obtain ⟨v1, -⟩ := val_bytes hg.2
  rw [hv] at v1
  intro x hx
  rcases List.mem_cons.1 hx with rfl | hx
  · refine ⟨by simp, noCL_no10 fun c hc => ?_⟩
    rcases List.mem_append.1 hc with hc | hc
    · exact (okN_is (n2 c hc)).2.2.1
    · rcases List.mem_cons.1 hc with rfl | hc
      · decide
      · rcases List.mem_cons.1 hc with rfl | hc
        · decide
        · exact v1 c (by simp [hc])
  · refine ⟨?_, noCL_no10 fun c hc => v1 c ?_⟩
    · have := hB x hx
      rintro rfl
      simp [goesB] at this
    · exact List.mem_append_right _ (List.mem_flatten.2 ⟨x, hx, hc⟩)

/-- The lines of fields. -/
def Cl : List FP → List (List UInt8) → Prop
  | [], G => G = []
  | f :: fs, G => ∃ L H, G = L ++ H ∧ Ln f L ∧ Cl fs H
theorem Cl.snoc : ∀ {fs : List FP} {G : List (List UInt8)} {f : FP} {L : List (List UInt8)}, Cl fs G → Ln f L → Cl (fs ++ [f]) (G ++ L)
  | [], G, f, L, h, hl => by
    obtain rfl : G = [] := h
    exact ⟨L, [], by simp, hl, rfl⟩
  | g :: fs, G, f, L, h, hl => by
    obtain ⟨M, H, rfl, h1, h2⟩ := h
    exact ⟨M, H ++ L, by simp, h1, h2.snoc hl⟩
theorem Cl.clean : ∀ {fs : List FP} {G : List (List UInt8)}, Cl fs G → ∀ x ∈ G, x ≠ [] ∧ NoCL (x ++ [13])
  | [], G, h => by
    obtain rfl : G = [] := h
    intro x hx; cases hx
  | g :: fs, G, h => by
    obtain ⟨M, H, rfl, h1, h2⟩ := h
    intro x hx
    rcases List.mem_append.1 hx with hx | hx
    · exact h1.clean x hx
    · exact h2.clean x hx

theorem begin_line {n : List UInt8} (h : nameB n = true) (r : List UInt8) : beginB (n ++ 58 :: r) = some (n, r) := by
  obtain ⟨h1, h2⟩ := name_bytes h
  have hpos : 0 < n.length := List.length_pos_iff.2 h1
  have hc : colL (n ++ 58 :: r) = n.length := by
    have hk : ((n ++ 58 :: r).takeWhile okN).length = n.length := by
      refine tw_of_all (fun j hj hjl => ?_) (by simp) (fun hjl => ?_)
      · rw [List.getElem_append_left hj]
        exact h2 _ (List.getElem_mem hj)
      · rw [List.getElem_append_right (Nat.le_refl _)]
        simp [okN]
    unfold colL
    dsimp only
    rw [hk, List.getElem?_append_right (Nat.le_refl _)]
    simp
  rw [begin_col, hc, if_neg (by omega)]
  simp
theorem goes_name {n : List UInt8} (h : nameB n = true) (r : List UInt8) : goesB (n ++ r) = false := by
  obtain ⟨h1, h2⟩ := name_bytes h
  cases n with
  | nil => exact absurd rfl h1
  | cons c n =>
    obtain ⟨a, _, _, b⟩ := okN_is (h2 c (by simp))
    show onB c = false
    unfold onB
    simp [a, b]
theorem tw_goes {B H : List (List UInt8)} (h : ∀ x ∈ B, goesB x = true) (hH : ∀ x r, H = x :: r → goesB x = false) : (B ++ H).takeWhile goesB = B ∧ (B ++ H).dropWhile goesB = H := by
  induction B with
  | nil =>
    cases H with
    | nil => exact ⟨rfl, rfl⟩
    | cons x r =>
      have := hH x r rfl
      simp [this]
  | cons b B ih =>
    have hb := h b (by simp)
    obtain ⟨h1, h2⟩ := ih fun x hx => h x (by simp [hx])
    rw [List.cons_append, List.takeWhile_cons_of_pos hb, List.dropWhile_cons_of_pos hb, h1, h2]
    exact ⟨rfl, rfl⟩
theorem Cl.head {fs : List FP} {G : List (List UInt8)} (h : Cl fs G) : ∀ x r, G = x :: r → goesB x = false := by
  cases fs with
  | nil =>
    obtain rfl : G = [] := h
    intro x r e; cases e
  | cons f fs =>
    obtain ⟨L, H, rfl, ⟨hg, y, B, rfl, -⟩, -⟩ := h
    intro x r e
    simp only [List.cons_append, List.cons.injEq] at e
    rw [← e.1]
    unfold goodB at hg
    rw [Bool.and_eq_true] at hg
    exact goes_name hg.1 _
theorem trim_blank (v : List UInt8) : trimL (32 :: v) = trimL v := by
  rw [trimL_is, trimL_is, List.dropWhile_cons_of_pos (by decide)]
theorem Cl.fl : ∀ {fs : List FP} {G : List (List UInt8)}, Cl fs G → fl G = fs
  | [], G, h => by
    obtain rfl : G = [] := h
    rfl
  | f :: fs, G, h => by
    obtain ⟨L, H, rfl, ⟨hg, y, B, rfl, hv, hB⟩, h2⟩ := h
    unfold goodB at hg
    rw [Bool.and_eq_true] at hg
    obtain ⟨t1, t2⟩ := tw_goes hB h2.head
    rw [List.cons_append, fl_some _ (begin_line hg.1 _), t1, t2, h2.fl]
    dsimp only
    rw [List.cons_append, ← hv, trim_blank, (val_bytes hg.2).2]

theorem tw_all {α : Type} {p : α → Bool} {l : List α} (h : ∀ x ∈ l, p x = true) : l.takeWhile p = l ∧ l.dropWhile p = [] := by
  induction l with
  | nil => exact ⟨rfl, rfl⟩
  | cons x l ih =>
    obtain ⟨h1, h2⟩ := ih fun y hy => h y (by simp [hy])
    rw [List.takeWhile_cons_of_pos (h x (by simp)), List.dropWhile_cons_of_pos (h x (by simp)), h1, h2]
    exact ⟨rfl, rfl⟩
/-- Their text, with or without something behind. -/
theorem Cl.text {fs : List FP} {G : List (List UInt8)} (h : Cl fs G) : fieldsL (joinL G) = fs ∧ bodyL (joinL G) = [] := by
  have hc := h.clean
  have hn : ∀ x ∈ G, neB x = true := fun x hx => by have := (hc x hx).1; simpa [neB] using this
  obtain ⟨h1, h2⟩ := cut_join G [] fun x hx => (hc x hx).2
  rw [List.append_nil, cut_nil.1, List.append_nil] at h1
  have e1 := (tw_all hn).1
  have e2 := (tw_all hn).2
  refine ⟨?_, ?_⟩
  · unfold fieldsL headL; rw [h1, e1]; exact h.fl
  · unfold bodyL; rw [h1, e2]
theorem Cl.textB {fs : List FP} {G : List (List UInt8)} (h : Cl fs G) (q : List UInt8) : fieldsL (joinL G ++ 13 :: 10 :: q) = fs ∧ bodyL (joinL G ++ 13 :: 10 :: q) = q := by
  have hc := h.clean
  obtain ⟨h1, h2⟩ := cut_join G (13 :: 10 :: q) fun x hx => (hc x hx).2
  obtain ⟨h3, h4⟩ := cut_cons (a := []) q (noCL_cr noCL_nil)
  rw [List.nil_append] at h3 h4
  rw [h3] at h1
  rw [h4] at h2
  obtain ⟨h5, h6⟩ := tw_stop_at (R := cutL q) fun x hx => (hc x hx).1
  refine ⟨?_, ?_⟩
  · unfold fieldsL headL; rw [h1, h5]; exact h.fl
  · unfold bodyL
    rw [h1, h6]
    dsimp only
    rw [h2]
    exact join_cut q
/-- A name has no blank, and a colon behind. -/
theorem line_place (f : FP) (h : goodB f = true) (k : Nat) (h0 : 0 < k) (hk : k < (lineOf f).length) (h32 : (lineOf f).getD k 0 = 32) (h58 : (lineOf f).getD (k - 1) 0 ≠ 58) : f.1.length + 2 ≤ k := by
  unfold goodB at h
  rw [Bool.and_eq_true] at h
  obtain ⟨h1, h2⟩ := name_bytes h.1
  unfold lineOf at h32 h58 hk
  rcases Nat.lt_or_ge k f.1.length with hlt | hge
  · exfalso
    rw [List.getD_eq_getElem?_getD, List.getElem?_append_left hlt, List.getElem?_eq_getElem hlt] at h32
    exact (okN_is (h2 _ (List.getElem_mem hlt))).1 h32
  · rcases Nat.eq_or_lt_of_le hge with e | hgt
    · exfalso
      rw [← e, List.getD_eq_getElem?_getD, List.getElem?_append_right (Nat.le_refl _)] at h32
      simp at h32
    · rcases Nat.eq_or_lt_of_le (show f.1.length + 1 ≤ k from hgt) with e | hgt
      · exfalso
        apply h58
        rw [← e, List.getD_eq_getElem?_getD, List.getElem?_append_right (by omega)]
        simp
      · exact hgt
end Go.Proofs.YtkffdhdhjfbhjaaDoor
