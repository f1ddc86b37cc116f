/-
  Unstuff's contract: the text that was sent, what is behind its end, and the error.
-/
import Derived.Test.YtjbjbbbhcncfnaaSStuff
namespace Go.Proofs.Ytjbjbbbhcncfnaa
open Go Go.RowKit Go.Shelf
set_option maxRecDepth 100000
attribute [local go_sem] Oper.semAt_some

theorem pre_ended {T : List (List UInt8 × Bool)} (hT : ∀ x ∈ T, x.2 = false) : ∀ (Q : List (List UInt8 × Bool)) (M : List (List UInt8)), Q <+: M.map (·, true) ++ T → (∀ x ∈ Q, x.2 = true) → ∃ L, M = Q.map (·.1) ++ L := by
  intro Q
  induction Q with
  | nil => intro M _ _; exact ⟨M, rfl⟩
  | cons q Q ih =>
    intro M h hq
    cases M with
    | nil =>
      have : q ∈ T := by simpa using h.subset (List.mem_cons_self)
      have h1 := hT q this
      rw [hq q (by simp)] at h1; cases h1
    | cons m M =>
      rw [List.map_cons, List.cons_append, List.cons_prefix_cons] at h
      obtain ⟨L, e⟩ := ih M h.2 fun x hx => hq x (by simp [hx])
      exact ⟨L, by rw [e, h.1]; rfl⟩
theorem pre_open {T : List (List UInt8 × Bool)} {x : List UInt8 × Bool} (hx : x.2 = false) : ∀ (Q : List (List UInt8 × Bool)) (M : List (List UInt8)), Q ++ [x] <+: M.map (·, true) ++ T → (∀ y ∈ Q, y.2 = true) → (∀ y ∈ T, y.2 = false) → M = Q.map (·.1) := by
  intro Q
  induction Q with
  | nil =>
    intro M h _ _
    cases M with
    | nil => rfl
    | cons m M =>
      rw [List.nil_append, List.map_cons, List.cons_append, List.cons_prefix_cons] at h
      rw [h.1] at hx; cases hx
  | cons q Q ih =>
    intro M h hq hT
    cases M with
    | nil =>
      have : q ∈ T := by simpa using h.subset (by simp : q ∈ q :: Q ++ [x])
      have h1 := hT q this
      rw [hq q (by simp)] at h1; cases h1
    | cons m M =>
      rw [List.cons_append, List.map_cons, List.cons_append, List.cons_prefix_cons] at h
      rw [ih M h.2 (fun y hy => hq y (by simp [hy])) hT, h.1]; rfl

theorem tail_open (s : List UInt8) : ∀ x ∈ (if restL s = [] then [] else [(restL s, false)] : List (List UInt8 × Bool)), x.2 = false := by
  intro x hx
  split at hx
  · cases hx
  · obtain rfl : x = (restL s, false) := by simpa using hx
    rfl

/-- The items so far: ended, none of them ends the text, none is bad. -/
def GoodP (pre : List It) : Prop := ∀ x ∈ valsI pre, x.2 = true ∧ x.1 ≠ [46] ∧ badL x.1 = false
def readL (pre : List It) : List (List UInt8) := (linesI pre).map undL
theorem readL_snoc (pre : List It) (x : It) : readL (pre ++ [x]) = readL pre ++ [undL x.1.1] := by unfold readL; rw [linesI_snoc]; simp
def offs (pre : List It) : Nat := (joinL (linesI pre)).length
theorem offs_snoc (pre : List It) (x : It) : offs (pre ++ [x]) = offs pre + (x.1.1.length + 2) := by unfold offs; rw [linesI_snoc, joinL_append]; simp [joinL]
theorem GoodP.lines {pre : List It} (h : GoodP pre) : ∀ l ∈ linesI pre, l ≠ [46] ∧ badL l = false := by
  intro l hl
  obtain ⟨x, hx, rfl⟩ := List.mem_map.1 hl
  exact (h x hx).2
theorem GoodP.snoc {pre : List It} {x : It} (h : GoodP pre) (h1 : x.1.2 = true) (h2 : x.1.1 ≠ [46]) (h3 : badL x.1.1 = false) : GoodP (pre ++ [x]) := by
  intro y hy
  rw [valsI_snoc] at hy
  rcases List.mem_append.1 hy with hy | hy
  · exact h y hy
  · obtain rfl : y = x.1 := by simpa using hy
    exact ⟨h1, h2, h3⟩

theorem next_line {s : List UInt8} {pre : List It} {x : It} (hp : valsI (pre ++ [x]) <+: itemsL s) (hg : GoodP pre) (hx : x.1.2 = true) : ∃ L, cutL s = linesI pre ++ x.1.1 :: L := by
  rw [valsI_snoc] at hp
  obtain ⟨L, e⟩ := pre_ended (tail_open s) _ _ hp (fun y hy => by
    rcases List.mem_append.1 hy with hy | hy
    · exact (hg y hy).1
    · obtain rfl : y = x.1 := by simpa using hy
      exact hx)
  exact ⟨L, by rw [e]; simp [linesI]⟩

theorem next_len {s : List UInt8} {pre : List It} {x : It} (hp : valsI (pre ++ [x]) <+: itemsL s) (hg : GoodP pre) (hx : x.1.2 = true) : offs pre + (x.1.1.length + 2) ≤ s.length := by
  obtain ⟨L, e⟩ := next_line hp hg hx
  have := (cut_len s).1
  rw [e, joinL_append, joinL_cons] at this
  unfold offs
  simp only [List.length_append, List.length_cons] at this
  omega

/-- What comes out at each of the three ends. -/
theorem uns_dot {s : List UInt8} {pre : List It} {x : It} (hp : valsI (pre ++ [x]) <+: itemsL s) (hg : GoodP pre) (hx : x.1.2 = true) (hd : x.1.1 = [46]) :
    unsT s = joinL (readL pre) ∧ unsR s = s.drop (offs pre + 3) ∧ unsE s = 0 := by
  obtain ⟨L, e⟩ := next_line hp hg hx
  have hu : uns (cutL s) = (joinL (readL pre), offs pre + 3, 0) := by
    rw [e, hd, uns_pre0 _ _ hg.lines (by unfold uns; rw [if_pos rfl])]
    unfold uns
    rw [if_pos rfl]
    simp [readL, offs]
  have hE : unsE s = 0 := by unfold unsE; rw [hu]
  refine ⟨by unfold unsT; rw [hu], ?_, hE⟩
  unfold unsR unsN
  rw [if_pos hE, hu]
theorem uns_bad {s : List UInt8} {pre : List It} {x : It} (hp : valsI (pre ++ [x]) <+: itemsL s) (hg : GoodP pre) (hx : x.1.2 = true) (hd : x.1.1 ≠ [46]) (hb : badL x.1.1 = true) :
    unsT s = [] ∧ unsR s = [] ∧ unsE s = 4 := by
  obtain ⟨L, e⟩ := next_line hp hg hx
  have h4 : (uns (x.1.1 :: L)).2.2 = 4 := by unfold uns; rw [if_neg hd, if_pos hb]
  obtain ⟨u1, u2⟩ := uns_pre1 _ (x.1.1 :: L) hg.lines (by rw [h4]; decide)
  have hE : unsE s = 4 := by unfold unsE; rw [e, u2, h4]
  obtain ⟨h1, h2⟩ := uns_no_text (s := s) (by rw [hE]; decide)
  exact ⟨h1, h2, hE⟩
theorem uns_short {s : List UInt8} {P : List (List UInt8)} (e : cutL s = P) (hg : ∀ l ∈ P, l ≠ [46] ∧ badL l = false) : unsT s = [] ∧ unsR s = [] ∧ unsE s = 8 := by
  have h8 : (uns []).2.2 = 8 := rfl
  obtain ⟨u1, u2⟩ := uns_pre1 P [] hg (by rw [h8]; decide)
  rw [List.append_nil] at u1 u2
  have hE : unsE s = 8 := by unfold unsE; rw [e, u2, h8]
  obtain ⟨h1, h2⟩ := uns_no_text (s := s) (by rw [hE]; decide)
  exact ⟨h1, h2, hE⟩
theorem uns_open {s : List UInt8} {pre : List It} {x : It} (hp : valsI (pre ++ [x]) <+: itemsL s) (hg : GoodP pre) (hx : x.1.2 = false) : unsT s = [] ∧ unsR s = [] ∧ unsE s = 8 := by
  rw [valsI_snoc] at hp
  exact uns_short (pre_open hx _ _ hp (fun y hy => (hg y hy).1) (tail_open s)) hg.lines

/-- The seven boxes: the results' three last. -/
structure UnB (w : World) (s T R : List UInt8) (E : Int) (W : World) : Prop where
  b0 : Boxed W w.heap.size 9 (sv s)
  b1 : Boxed W (w.heap.size + 1) 9 (sv T)
  b2 : Boxed W (w.heap.size + 2) 9 (sv R)
  b3 : Boxed W (w.heap.size + 3) 24 (.int .i64 E)
  bel : Below w.heap.size w W
  size : w.heap.size + 7 ≤ W.heap.size

theorem UnB.kept {w : World} {s T R : List UInt8} {E : Int} {W W' : World} {row : Option Nat} (h : UnB w s T R E W) (hg : W.grownBy W' row) (hr : ∀ r, row = some r → w.heap.size + 4 ≤ r) : UnB w s T R E W' := by
  have ne : ∀ k, k < w.heap.size + 4 → some k ≠ row := fun k hk e => by have := hr k e.symm; omega
  exact ⟨h.b0.kept hg (ne _ (by omega)), h.b1.kept hg (ne _ (by omega)), h.b2.kept hg (ne _ (by omega)), h.b3.kept hg (ne _ (by omega)), h.bel.grown hg h.bel.size fun k e => by have := hr k e; omega, Nat.le_trans h.size hg.size⟩
theorem UnB.put {w : World} {s T R : List UInt8} {E : Int} {W : World} (h : UnB w s T R E W) (T' R' : List UInt8) (E' : Int) : UnB w s T' R' E' (((W.setCell ⟨w.heap.size + 1, 0, none⟩ (sv T')).setCell ⟨w.heap.size + 2, 0, none⟩ (sv R')).setCell ⟨w.heap.size + 3, 0, none⟩ (.int .i64 E')) := by
  refine ⟨((h.b0.other (by omega) _).other (by omega) _).other (by omega) _, ((h.b1.set _).other (by omega) _).other (by omega) _, ((h.b2.other (by omega) _).set _).other (by omega) _, ((h.b3.other (by omega) _).other (by omega) _).set _, ?_, ?_⟩
  · exact ((h.bel.setCell (p := ⟨w.heap.size + 1, 0, none⟩) (by simp) _).setCell (p := ⟨w.heap.size + 2, 0, none⟩) (by simp) _).setCell (p := ⟨w.heap.size + 3, 0, none⟩) (by simp) _
  · simpa [World.setCell] using h.size

/-- Between two rounds; and where one has left. -/
def UnI (w : World) (s : List UInt8) (pre : List It) (W : World) : Prop :=
  UnB w s [] [] 0 W ∧ (∃ v, Boxed W (w.heap.size + 4) 23 v ∧ Ows W (w.heap.size + 7) v (readL pre)) ∧ Boxed W (w.heap.size + 5) 3 (.int .i64 ((offs pre : Nat) : Int)) ∧ GoodP pre ∧ offs pre ≤ s.length
def UnX (w : World) (s : List UInt8) (c : Code) (_pre : List It) (W : World) : Prop :=
  (c = .ret ∧ UnB w s (unsT s) (unsR s) (unsE s) W) ∨ (c = .exit 0 ∧ UnB w s [] [] 0 W ∧ unsT s = [] ∧ unsR s = [] ∧ unsE s = 8)

theorem unI_from {w : World} {s : List UInt8} {B : Nat} (hB : w.heap.size + 7 ≤ B) : OwnFrom B (UnI w s) := by
  rintro pre W W' row ⟨h1, ⟨v, h3, h4⟩, h5, h6, h7⟩ hg hr
  have ne : ∀ k, k < B → some k ≠ row := fun k hk e => by have := (hr k e.symm).1; omega
  exact ⟨h1.kept hg (fun r e => by have := (hr r e).1; omega), ⟨v, h3.kept hg (ne _ (by omega)), ows_notCells h4 hg hr⟩, h5.kept hg (ne _ (by omega)), h6, h7⟩
theorem unX_from {w : World} {s : List UInt8} {B : Nat} (hB : w.heap.size + 7 ≤ B) (c : Code) : OwnFrom B (UnX w s c) := by
  rintro pre W W' row h hg hr
  have hr' : ∀ r, row = some r → w.heap.size + 4 ≤ r := fun r e => by have := (hr r e).1; omega
  rcases h with ⟨h1, h2⟩ | ⟨h1, h2, h3⟩
  · exact .inl ⟨h1, h2.kept hg hr'⟩
  · exact .inr ⟨h1, h2.kept hg hr', h3⟩

/-- The store of the place; then the text that is collected. -/
theorem un_round {w : World} {s : List UInt8} {pre : List It} {x : It} {W : World} {A0 : Option Addr} {n cp0 : Nat} (hB : UnB w s [] [] 0 W) (h3 : Boxed W (w.heap.size + 4) 23 (.slice A0 (readL pre).length cp0)) (h4 : Ows W (w.heap.size + 7) (.slice A0 (readL pre).length cp0) (readL pre)) (h5 : Boxed W (w.heap.size + 5) 3 (.int .i64 (n : Int)))
    (hn : n = offs pre) (hG : GoodP (pre ++ [x])) (hlen : n + (x.1.1.length + 2) ≤ s.length) (hrl : (readL pre).length ≤ 2000000) (W5 : World) (hW5 : W5 = W.setCell ⟨w.heap.size + 5, 0, none⟩ (.int .i64 ((n : Int) + ((x.1.1.length : Int) + 2)))) :
    KeepsOthers W W5 ∧ UnB w s [] [] 0 W5 ∧ Boxed W5 (w.heap.size + 4) 23 (.slice A0 (readL pre).length cp0) ∧ Ows W5 (w.heap.size + 7) (.slice A0 (readL pre).length cp0) (readL pre) ∧ Boxed W5 (w.heap.size + 5) 3 (.int .i64 ((n : Int) + ((x.1.1.length : Int) + 2))) ∧ W5.heap.size = W.heap.size ∧
    ∃ g cap w2, (Builtin.append_ #[23, 23] 23 #[.slice A0 (readL pre).length cp0, .slice (some ⟨W5.heap.size, 0, none⟩) 1 1]).run Try.prog (W5.alloc (.cells #[sv (undL x.1.1)] 9)) = .ok (.slice (some ⟨g, 0, none⟩) ((readL pre).length + 1) cap) w2 ∧
      w2.cell? ⟨w.heap.size + 4, 0, none⟩ = some (.slice A0 (readL pre).length cp0) ∧ w2.frozen? ⟨w.heap.size + 4, 0, none⟩ = false ∧
      KeepsOthers W (w2.setCell ⟨w.heap.size + 4, 0, none⟩ (.slice (some ⟨g, 0, none⟩) ((readL pre).length + 1) cap)) ∧
      KpR w.heap.size [w.heap.size + 4, w.heap.size + 5] (w.heap.size + 4) W (w2.setCell ⟨w.heap.size + 4, 0, none⟩ (.slice (some ⟨g, 0, none⟩) ((readL pre).length + 1) cap)) ∧
      UnI w s (pre ++ [x]) (w2.setCell ⟨w.heap.size + 4, 0, none⟩ (.slice (some ⟨g, 0, none⟩) ((readL pre).length + 1) cap)) := by
  subst hW5
  have hsW := hB.size
  have hgs := grownBy_setCell' W (w.heap.size + 5) (Value.int .i64 ((n : Int) + ((x.1.1.length : Int) + 2)))
  have hB5 := hB.kept hgs (fun r e => by cases e; omega)
  have h35 : Boxed (W.setCell ⟨w.heap.size + 5, 0, none⟩ (.int .i64 ((n : Int) + ((x.1.1.length : Int) + 2)))) (w.heap.size + 4) 23 (.slice A0 (readL pre).length cp0) := h3.other (by omega) _
  have h45 := h4.kept hgs (fun r e => by cases e; exact .inl (by omega))
  have h55 := h5.set (.int .i64 ((n : Int) + ((x.1.1.length : Int) + 2)))
  have hs5 : (W.setCell ⟨w.heap.size + 5, 0, none⟩ (.int .i64 ((n : Int) + ((x.1.1.length : Int) + 2)))).heap.size = W.heap.size := by simp [World.setCell]
  have hk5 : KeepsOthers W (W.setCell ⟨w.heap.size + 5, 0, none⟩ (.int .i64 ((n : Int) + ((x.1.1.length : Int) + 2)))) := KeepsOthers.setCell _ _ _
  refine ⟨hk5, hB5, h35, h45, h55, hs5, ?_⟩
  obtain ⟨g, cap, w2, hrun, d0, d1, d2, d3, d4, d5, d6⟩ := collect (n₀ := w.heap.size) (undL x.1.1) h35 h45 (by omega) (by omega) (by omega) (by omega)
  have d7 := d4 [w.heap.size + 4, w.heap.size + 5] (by simp)
  refine ⟨g, cap, w2, hrun, d0, d1, hk5.trans d3, kpr_trans (kpr_set (by simp) (by omega) (.inl (by omega))) d7, ?_⟩
  refine ⟨⟨d2 _ (by omega) (by omega) _ _ hB5.b0, d2 _ (by omega) (by omega) _ _ hB5.b1, d2 _ (by omega) (by omega) _ _ hB5.b2, d2 _ (by omega) (by omega) _ _ hB5.b3, hB5.bel.trans d7.1, ?_⟩, ⟨_, d5, by rw [readL_snoc]; exact d6⟩, ?_, hG, by rw [offs_snoc, ← hn]; exact hlen⟩
  · have := d7.1.size; omega
  · have := d2 (w.heap.size + 5) (by omega) (by omega) _ _ h55
    rw [offs_snoc, ← hn]
    rw [show (((n + (x.1.1.length + 2) : Nat)) : Int) = (n : Int) + ((x.1.1.length : Int) + 2) by omega]
    exact this

theorem uns_len (s : List UInt8) : (unsT s).length ≤ s.length := by
  by_cases h : unsE s = 0
  · have h1 := congrArg List.length (back_stuff h).2
    rw [List.length_append, stuff_len (back_stuff h).1] at h1
    omega
  · rw [(uns_no_text h).1]; exact Nat.zero_le _

theorem un_close {w W : World} {D : Nat} {s T R : List UInt8} {E : Int} (h : UnB w s T R E W) (hD : w.heap.size + 7 ≤ D) :
    (W.putObj D (.deferred none)).cell? ⟨w.heap.size + 1, 0, none⟩ = some (sv T) ∧ (W.putObj D (.deferred none)).cell? ⟨w.heap.size + 2, 0, none⟩ = some (sv R) ∧ (W.putObj D (.deferred none)).cell? ⟨w.heap.size + 3, 0, none⟩ = some (.int .i64 E) ∧ Below w.heap.size w (W.putObj D (.deferred none)) :=
  have hu := h.kept (grownBy_putObj' W D (.deferred none)) (fun r e => by cases e; omega)
  ⟨hu.b1.cell, hu.b2.cell, hu.b3.cell, hu.bel⟩

set_option maxHeartbeats 4000000 in
theorem unstuff_any (s : List UInt8) (w : World) (hs : s.length ≤ 2000000) (hM : ML w) :
    Calls Try.prog 10 #[.string (str s)] w fun e w' => e = .returned (.tuple #[sv (unsT s), sv (unsR s), .int .i64 (unsE s)]) ∧ Below w.heap.size w w' := by
  have HM := Lib.hid hM
  have H0 := Lib.hid hM.lt
  clear hM
  refine (callsIn_wide (n := 3)).1 ?_
  refine callsIn_of_wp_marks Try.func10 rfl trivial (wpIn_calmly ?_) rfl
  simp only [Try.ntmps10, List.size_toArray, List.length_cons, List.length_nil, Nat.reduceAdd, Nat.reduceSub, Array.replicate_succ, Array.replicate_zero, List.push_toArray, List.append_toArray, List.nil_append, List.cons_append]
  gi_wp2_with (refine ⟨trivial, ?_⟩; gi_at_call 17; refine (callsIn_wide.2 (lines_any _ _)).mono ?_; rintro e w' ⟨rfl, rfl⟩)
  obtain ⟨Wl, hWl⟩ : ∃ Wl, Wl = ((((((w.alloc (.cells #[sv s] 9)).alloc (.cells #[sv []] 9)).alloc (.cells #[sv []] 9)).alloc (.cells #[.int .i64 0] 24)).alloc (.cells #[.slice none 0 0] 23)).alloc (.cells #[.int .i64 0] 3)).alloc (.cells #[sv s] 9) := ⟨_, rfl⟩
  rw [← hWl]
  have hsz : Wl.heap.size = w.heap.size + 7 := by rw [hWl]; simp
  have hbel : Below w.heap.size w Wl := by rw [hWl]; exact (((((((Below.refl _ w).alloc (Nat.le_refl _) _).alloc (by simp) _).alloc (by simp; omega) _).alloc (by simp; omega) _).alloc (by simp; omega) _).alloc (by simp; omega) _).alloc (by simp; omega) _
  have hbx : (∀ k, k < 7 → ∀ t v, [(9, sv s), (9, sv []), (9, sv []), (24, .int .i64 0), (23, .slice none 0 0), (3, .int .i64 0), (9, sv s)][k]? = some (t, v) → Boxed Wl (w.heap.size + k) t v) := by
    intro k hk t v he
    rw [hWl]
    unfold Boxed
    simp only [World.alloc, Array.getElem?_push, Array.size_push]
    match k, hk with
    | 0, _ =>
      obtain ⟨rfl, rfl⟩ : _ ∧ _ := by simpa using he
      repeat (first | rw [if_pos (by omega)] | rw [if_neg (by omega)])
    | 1, _ =>
      obtain ⟨rfl, rfl⟩ : _ ∧ _ := by simpa using he
      repeat (first | rw [if_pos (by omega)] | rw [if_neg (by omega)])
    | 2, _ =>
      obtain ⟨rfl, rfl⟩ : _ ∧ _ := by simpa using he
      repeat (first | rw [if_pos (by omega)] | rw [if_neg (by omega)])
    | 3, _ =>
      obtain ⟨rfl, rfl⟩ : _ ∧ _ := by simpa using he
      repeat (first | rw [if_pos (by omega)] | rw [if_neg (by omega)])
    | 4, _ =>
      obtain ⟨rfl, rfl⟩ : _ ∧ _ := by simpa using he
      repeat (first | rw [if_pos (by omega)] | rw [if_neg (by omega)])
    | 5, _ =>
      obtain ⟨rfl, rfl⟩ : _ ∧ _ := by simpa using he
      repeat (first | rw [if_pos (by omega)] | rw [if_neg (by omega)])
    | 6, _ =>
      obtain ⟨rfl, rfl⟩ : _ ∧ _ := by simpa using he
      repeat (first | rw [if_pos (by omega)] | rw [if_neg (by omega)])
  have b4 := hbx 4 (by omega) _ _ rfl
  have b6 := hbx 6 (by omega) _ _ rfl
  have hU : UnI w s [] Wl := ⟨⟨hbx 0 (by omega) _ _ rfl, hbx 1 (by omega) _ _ rfl, hbx 2 (by omega) _ _ rfl, hbx 3 (by omega) _ _ rfl, hbel, by omega⟩, ⟨_, b4, World.ownsRow_nil _ _ _ _⟩, hbx 5 (by omega) _ _ rfl, by intro x hx; simp [valsI] at hx, by simp [offs, linesI, valsI, joinL]⟩
  refine wpIn_rangeFunc_nx (α := It) (w := Wl) rfl (by omega) (gf := 22) (lb := #[.pointer (some ⟨w.heap.size + 6, 0, none⟩)]) rfl trivial (enters_of Try.func22 (by kernel_rfl) rfl)
    (lines_hands (w.heap.size + 6) w.heap.size s hs H0.out (KpR w.heap.size [w.heap.size + 4, w.heap.size + 5] (w.heap.size + 4)) (FreeR [w.heap.size + 4, w.heap.size + 5] (w.heap.size + 4)) (kpr_keeps _ _ _) Wl
      (fun W' k hb hk => free_new (by simp; omega) b4.cell rfl (by omega) hb k hk) (HM.out.step hbel) (by omega) b6.cell) kpr_trans (kpr_putObj (by omega) (by omega)) (fun _ => rfl)
    (UnI w s) (UnX w s) (unI_from (by omega)) (unX_from (by omega)) hU
    ?acts ?assign ?body ?done ?stop
  case assign =>
    intro l x W K hK
    gi_wp2
    exact hK
  case body =>
    rintro l pre ⟨⟨x, b⟩, hx⟩ W ⟨hB, ⟨v0, h3, h4⟩, h5, hG, hof⟩ hnx
    dsimp only at hx
    obtain ⟨A0, cp0, rfl⟩ := h4.form
    have hsW := hB.size
    obtain ⟨n, hn⟩ : ∃ n, n = offs pre := ⟨_, rfl⟩
    rw [← hn] at h5 hof
    have c0 := hB.b0.cell
    have c1 := hB.b1.cell
    have f1 := hB.b1.frozen
    have c2 := hB.b2.cell
    have f2 := hB.b2.frozen
    have c3 := hB.b3.cell
    have f3 := hB.b3.frozen
    have c4 := h3.cell
    have c5 := h5.cell
    have f5 := h5.frozen
    have hpl : pre.length < (itemsL s).length := by have := hnx.length_le; simp [valsI] at this; omega
    have hrl : (readL pre).length ≤ 2000000 := by unfold readL; rw [List.length_map, linesI_len]; have := items_len s; omega
    have hxl : x.length ≤ 4000000 := by omega
    have hul : (undL x).length ≤ 4000000 := by
      have : (undL x).length ≤ x.length := by
        unfold undL
        split
        · simp
        · exact Nat.le_refl _
      omega
    have HB := Lib.hid hB
    have HNX := Lib.hid hnx
    have HG := Lib.hid hG
    have HN := Lib.hid hn
    have K3 := Lib.hid h3
    have K4 := Lib.hid h4
    have K5 := Lib.hid h5
    clear hB h3 h4 h5 hG hnx hn hbx b4 b6 hbel hWl hU hpl
    cases b with
    | false =>
      obtain ⟨u1, u2, u3⟩ := uns_open HNX.out HG.out rfl
      have U1 := Lib.hid u1
      have U2 := Lib.hid u2
      have U3 := Lib.hid u3
      clear u1 u2 u3
      gi_wp2
      exact ⟨KeepsOthers.refl _, .inr ⟨rfl, HB.out, U1.out, U2.out, U3.out⟩⟩
    | true =>
      have hlen : n + (x.length + 2) ≤ s.length := by rw [HN.out]; exact next_len HNX.out HG.out rfl
      by_cases hd : x = [46]
      · subst hd
        obtain ⟨u1, u2, u3⟩ := uns_dot HNX.out HG.out rfl rfl
        rw [← HN.out] at u2
        have hsz1 : ([46] : List UInt8).length = 1 := rfl
        have hgs := grownBy_setCell' W (w.heap.size + 5) (Value.int .i64 ((n : Int) + 3))
        obtain ⟨W5, hW5⟩ : ∃ W5, W5 = W.setCell ⟨w.heap.size + 5, 0, none⟩ (.int .i64 ((n : Int) + 3)) := ⟨_, rfl⟩
        rw [← hW5] at hgs
        have hB5 := HB.out.kept hgs (fun r e => by cases e; omega)
        have h35 : Boxed W5 (w.heap.size + 4) 23 (.slice A0 (readL pre).length cp0) := by rw [hW5]; exact K3.out.other (by omega) _
        have h45 := K4.out.kept hgs (fun r e => by cases e; exact .inl (by omega))
        have h55 : Boxed W5 (w.heap.size + 5) 3 (.int .i64 ((n : Int) + 3)) := by rw [hW5]; exact K5.out.set _
        have hjl : (joinL (readL pre)).length ≤ 2000000 := by
          have h0 := (back_stuff u3).1
          have h1 := join_of_rest h0
          have h2 : (unsT s).length ≤ s.length := uns_len s
          rw [← u1]; omega
        have hjn := join_any (readL pre) (.slice A0 (readL pre).length cp0) W5.drew (SR.of_own h45) (by omega) (by omega)
        rw [← u1] at hjn
        have hcl : ((str s).extract (n + 3) s.length) = str (unsR s) := by rw [str_extract, List.take_of_length_le (Nat.le_refl _), u2]
        have hrs : (str (unsR s)).size ≤ 281474976710656 := by rw [u2]; simp [ByteArray.size]; omega
        have hlen' : n + 3 ≤ s.length := hlen
        have kk : ∀ w1, Below W5.heap.size W5 w1 → UnB w s [] [] 0 w1 ∧ w1.cell? ⟨w.heap.size, 0, none⟩ = some (sv s) ∧ w1.cell? ⟨w.heap.size + 5, 0, none⟩ = some (.int .i64 ((n : Int) + 3)) ∧ w1.frozen? ⟨w.heap.size + 1, 0, none⟩ = false ∧ w1.frozen? ⟨w.heap.size + 2, 0, none⟩ = false ∧ w1.frozen? ⟨w.heap.size + 3, 0, none⟩ = false ∧ w1.cell? ⟨w.heap.size + 1, 0, none⟩ = some (sv []) ∧ w1.cell? ⟨w.heap.size + 2, 0, none⟩ = some (sv []) ∧ w1.cell? ⟨w.heap.size + 3, 0, none⟩ = some (.int .i64 0) ∧ KeepsOthers W w1 := fun w1 hb => by
          have g := grownBy_of_below hb none
          have hu := hB5.kept g (fun r e => by cases e)
          exact ⟨hu, hu.b0.cell, (h55.kept g (by simp)).cell, hu.b1.frozen, hu.b2.frozen, hu.b3.frozen, hu.b1.cell, hu.b2.cell, hu.b3.cell, by
            have h1 : KeepsOthers W W5 := by rw [hW5]; exact KeepsOthers.setCell _ _ _
            exact h1.trans (KeepsOthers.of_grownBy g fun j o e _ => by cases e)⟩
        have c0' := hB5.b0.cell
        have c4' := h35.cell
        have c5' := h55.cell
        have KK := Lib.hid kk
        have U3 := Lib.hid u3
        have HJ := Lib.hid hjn
        have HCL := Lib.hid hcl
        have HRS := Lib.hid hrs
        have HW := Lib.hid hW5
        clear hgs h35 h45 h55 hjl hjn hcl hrs kk u1 u2 u3 hB5 hW5
        have hmx : Try.prog.follows .mixedOrders = true := by kernel_rfl
        gi_wp2
        rw [← HW.out]
        gi_region_with_o (refine ⟨trivial, ?_⟩; first
          | (gi_at_call 19; refine (CallsIn.inRound l (callsIn_wide.2 HJ.out)).mono ?_; rintro e w1 ⟨rfl, hb1⟩
             obtain ⟨_, k0, k5, _, _, _, _, _, _, _⟩ := KK.out w1 ⟨hb1.os, hb1.tape, hb1.output, hb1.size, hb1.block⟩
             have HB1 := Lib.hid (show Below W5.heap.size W5 w1 from ⟨hb1.os, hb1.tape, hb1.output, hb1.size, hb1.block⟩); clear hb1)
          | (gi_at_call 20; rw [HCL.out]; refine (CallsIn.inRound l (callsIn_wide.2 (clone_any _ _ HRS.out))).mono ?_; rintro e w2 ⟨rfl, hb2⟩
             have HB2 := Lib.hid (HB1.out.trans (hb2.mono HB1.out.size)); clear hb2
             obtain ⟨hu, _, _, g1, g2, g3, e1, e2, e3, hko⟩ := KK.out w2 HB2.out
             have HU := Lib.hid hu; have HKO := Lib.hid hko; clear hu hko))
        all_goals gi_wp2
        all_goals
          refine ⟨((HKO.out.trans (KeepsOthers.setCell _ _ _)).trans (KeepsOthers.setCell _ _ _)).trans (KeepsOthers.setCell _ _ _), .inl ⟨rfl, ?_⟩⟩
          rw [U3.out]
          exact HU.out.put _ _ _
      · have hde : (x == [46]) = false := by simpa using hd
        have HD := Lib.hid hd
        clear hd
        cases hb : badL x with
        | true =>
          obtain ⟨u1, u2, u3⟩ := uns_bad HNX.out HG.out rfl HD.out hb
          have U1 := Lib.hid u1
          have U2 := Lib.hid u2
          have U3 := Lib.hid u3
          clear u1 u2 u3
          obtain ⟨q1, q2⟩ : dotB x = true ∧ dotB (undL x) = false := by unfold badL at hb; simpa using hb
          have Q1 := Lib.hid q1
          have Q2 := Lib.hid q2
          clear q1 q2 hb
          gi_wp2_with (first | (refine ⟨trivial, ?_⟩; gi_at_call 18; with_reducible refine (CallsIn.inRound l (callsIn_wide.2 (undot_any x _ hxl))).mono ?_; rintro e w' ⟨rfl, rfl⟩; rw [Q1.out]) | (refine ⟨trivial, ?_⟩; gi_at_call 18; with_reducible refine (CallsIn.inRound l (callsIn_wide.2 (undot_any (undL x) _ hul))).mono ?_; rintro e w' ⟨rfl, rfl⟩; rw [Q2.out]))
          have hB5 := HB.out.kept (grownBy_setCell' W (w.heap.size + 5) (Value.int .i64 ((n : Int) + ((x.length : Int) + 2)))) (fun r e => by cases e; omega)
          refine ⟨(((KeepsOthers.setCell _ _ _).trans (KeepsOthers.setCell _ _ _)).trans (KeepsOthers.setCell _ _ _)).trans (KeepsOthers.setCell _ _ _), .inl ⟨rfl, ?_⟩⟩
          rw [U1.out, U2.out, U3.out]
          exact hB5.put [] [] 4
        | false =>
          have hgood : GoodP (pre ++ [⟨(x, true), hx⟩]) := HG.out.snoc rfl HD.out hb
          obtain ⟨W5, hW5⟩ : ∃ W5, W5 = W.setCell ⟨w.heap.size + 5, 0, none⟩ (.int .i64 ((n : Int) + ((x.length : Int) + 2))) := ⟨_, rfl⟩
          obtain ⟨_, _, _, _, _, hs5, g, cap, w2, hrun, d0, d1, d2, d3, d4⟩ := un_round (x := ⟨(x, true), hx⟩) HB.out K3.out K4.out K5.out HN.out hgood hlen hrl W5 hW5
          rw [hs5] at hrun
          subst hW5
          have HR := Lib.hid hrun
          have D2 := Lib.hid d2
          have D3 := Lib.hid d3
          have D4 := Lib.hid d4
          clear hrun d2 d3 d4 hgood hs5
          obtain ⟨p, hp⟩ : ∃ p, dotB x = p := ⟨_, rfl⟩
          obtain ⟨q, hq⟩ : ∃ q, dotB (undL x) = q := ⟨_, rfl⟩
          have hpq : (p && !q) = false := by unfold badL at hb; rw [hp, hq] at hb; exact hb
          have Q1 := Lib.hid hp
          have Q2 := Lib.hid hq
          clear hp hq hb
          cases p <;> cases q <;> first | (exact absurd hpq (by decide)) | skip
          all_goals
            gi_wp2_with (first | (gi_at_builtin; refine wpListIn_append_run rfl (.tmp 47) (.tmp 49) 23 rfl rfl rfl HR.out ?_) | (refine ⟨trivial, ?_⟩; gi_at_call 18; with_reducible refine (CallsIn.inRound l (callsIn_wide.2 (undot_any x _ hxl))).mono ?_; rintro e w' ⟨rfl, rfl⟩; rw [Q1.out]) | (refine ⟨trivial, ?_⟩; gi_at_call 18; with_reducible refine (CallsIn.inRound l (callsIn_wide.2 (undot_any (undL x) _ hul))).mono ?_; rintro e w' ⟨rfl, rfl⟩; rw [Q2.out]))
            exact ⟨D2.out, D3.out, D4.out⟩
  case done =>
    rintro D xs W hD hxs ⟨hB, _, _, hG, _⟩ hK
    rw [hsz] at hD
    obtain ⟨_, hcl⟩ := ended_rest (s := s) (by rw [← hxs]; exact fun x hx => (hG x hx).1)
    obtain ⟨u1, u2, u3⟩ := uns_short (s := s) (P := linesI xs) (by rw [← hcl, ← hxs]; rfl) hG.lines
    have f1 := hB.b1.frozen
    have f2 := hB.b2.frozen
    have f3 := hB.b3.frozen
    have HU := Lib.hid (hB.put [] [] 8)
    have HK := Lib.hid hK
    have U1 := Lib.hid u1
    have U2 := Lib.hid u2
    have U3 := Lib.hid u3
    have c1 := hB.b1.cell
    have c2 := hB.b2.cell
    have c3 := hB.b3.cell
    clear hB hG hK hcl u1 u2 u3 hxs hbx b4 b6 hbel hWl hU
    gi_wp2
    have hKX : ((((W.setCell ⟨w.heap.size + 1, 0, none⟩ (sv [])).setCell ⟨w.heap.size + 2, 0, none⟩ (sv [])).setCell ⟨w.heap.size + 3, 0, none⟩ (.int .i64 8)).heap[D]? = some (.deferred (some []))) := (by rw [heap_setCell_other _ _ _ _ (by show D ≠ w.heap.size + 3; omega), heap_setCell_other _ _ _ _ (by show D ≠ w.heap.size + 2; omega), heap_setCell_other _ _ _ _ (by show D ≠ w.heap.size + 1; omega)]; exact HK.out)
    obtain ⟨q1, q2, q3, q4⟩ := un_close (D := D) HU.out (by omega)
    refine ⟨by simp, .inl ⟨_, _, rfl, run_takeDeferred hKX, ?_⟩⟩
    exact ⟨.tuple #[sv [], sv [], .int .i64 8], by simp [results, Try.results10, go_sem, q1, q2, q3], by rw [U1.out, U2.out, U3.out], q4⟩
  case stop =>
    rintro D c pre W hD hp hX hK
    rw [hsz] at hD
    rcases hX with ⟨rfl, hB⟩ | ⟨rfl, hB, u1, u2, u3⟩
    · have HB := Lib.hid hB
      have HK := Lib.hid hK
      clear hB hK hbx b4 b6 hbel hWl hU
      gi_wp2
      obtain ⟨q1, q2, q3, q4⟩ := un_close (D := D) HB.out (by omega)
      refine ⟨by simp, .inl ⟨_, _, rfl, run_takeDeferred HK.out, ?_⟩⟩
      exact ⟨.tuple #[sv (unsT s), sv (unsR s), .int .i64 (unsE s)], by simp [results, Try.results10, go_sem, q1, q2, q3], rfl, q4⟩
    · have f1 := hB.b1.frozen
      have f2 := hB.b2.frozen
      have f3 := hB.b3.frozen
      have HU := Lib.hid (hB.put [] [] 8)
      have HK := Lib.hid hK
      have U1 := Lib.hid u1
      have U2 := Lib.hid u2
      have U3 := Lib.hid u3
      have c1 := hB.b1.cell
      have c2 := hB.b2.cell
      have c3 := hB.b3.cell
      clear hB hK u1 u2 u3 hbx b4 b6 hbel hWl hU
      gi_wp2
      have hKX : ((((W.setCell ⟨w.heap.size + 1, 0, none⟩ (sv [])).setCell ⟨w.heap.size + 2, 0, none⟩ (sv [])).setCell ⟨w.heap.size + 3, 0, none⟩ (.int .i64 8)).heap[D]? = some (.deferred (some []))) := (by rw [heap_setCell_other _ _ _ _ (by show D ≠ w.heap.size + 3; omega), heap_setCell_other _ _ _ _ (by show D ≠ w.heap.size + 2; omega), heap_setCell_other _ _ _ _ (by show D ≠ w.heap.size + 1; omega)]; exact HK.out)
      obtain ⟨q1, q2, q3, q4⟩ := un_close (D := D) HU.out (by omega)
      refine ⟨by simp, .inl ⟨_, _, rfl, run_takeDeferred hKX, ?_⟩⟩
      exact ⟨.tuple #[sv [], sv [], .int .i64 8], by simp [results, Try.results10, go_sem, q1, q2, q3], by rw [U1.out, U2.out, U3.out], q4⟩
end Go.Proofs.Ytjbjbbbhcncfnaa
