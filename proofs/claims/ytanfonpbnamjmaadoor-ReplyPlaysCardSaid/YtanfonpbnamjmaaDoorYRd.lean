/-
  Readers of the program's: New, die, Reset, Dead, Take, Copy.
-/
import Derived.Deep.QuietTactic
import Derived.BigQuiet
import Derived.Deep.RegionHeld3
import Derived.Test.YtanfonpbnamjmaaDoorYStat2
namespace Go.Proofs.YtanfonpbnamjmaaDoor
open Go Go.RowKit Go.Shelf
set_option maxRecDepth 100000

/-- A reader's block. -/
def Blk (w : World) (b : Nat) (c : Nat) (v : Value) (lc : Nat) (lst : List UInt8) (u : Value) (d : Bool) : Prop :=
  w.heap[b]? = some (.cells #[.int .i64 (c : Int), v, .int .i64 (lc : Int), sv lst, u, .bool d] 90 (0, 0))
section
variable {w w' : World} {b c lc : Nat} {v u : Value} {lst : List UInt8} {d : Bool}
theorem Blk.c0 (h : Blk w b c v lc lst u d) : w.cell? ⟨b, 0, none⟩ = some (.int .i64 (c : Int)) := by rw [cellAt h]; rfl
theorem Blk.c1 (h : Blk w b c v lc lst u d) : w.cell? ⟨b, 1, none⟩ = some v := by rw [cellAt h]; rfl
theorem Blk.c2 (h : Blk w b c v lc lst u d) : w.cell? ⟨b, 2, none⟩ = some (.int .i64 (lc : Int)) := by rw [cellAt h]; rfl
theorem Blk.c3 (h : Blk w b c v lc lst u d) : w.cell? ⟨b, 3, none⟩ = some (sv lst) := by rw [cellAt h]; rfl
theorem Blk.c4 (h : Blk w b c v lc lst u d) : w.cell? ⟨b, 4, none⟩ = some u := by rw [cellAt h]; rfl
theorem Blk.c5 (h : Blk w b c v lc lst u d) : w.cell? ⟨b, 5, none⟩ = some (.bool d) := by rw [cellAt h]; rfl
theorem Blk.fr (h : Blk w b c v lc lst u d) (i : Nat) : w.frozen? ⟨b, i, none⟩ = false := freeAt h i
theorem Blk.lt (h : Blk w b c v lc lst u d) : b < w.heap.size := lt_of_blk h
theorem Blk.alloc (h : Blk w b c v lc lst u d) (o : Obj) : Blk (w.alloc o) b c v lc lst u d := (Lib.alloc_old w o _ h.lt).trans h
theorem Blk.below (h : Blk w b c v lc lst u d) (hb : Below w.heap.size w w') : Blk w' b c v lc lst u d := (hb.block b h.lt).trans h
theorem Blk.set0 (h : Blk w b c v lc lst u d) (x : Nat) : Blk (w.setCell ⟨b, 0, none⟩ (.int .i64 (x : Int))) b x v lc lst u d := blk_set h 0 _
theorem Blk.set1 (h : Blk w b c v lc lst u d) (x : Value) : Blk (w.setCell ⟨b, 1, none⟩ x) b c x lc lst u d := blk_set h 1 _
theorem Blk.set2 (h : Blk w b c v lc lst u d) (x : Nat) : Blk (w.setCell ⟨b, 2, none⟩ (.int .i64 (x : Int))) b c v x lst u d := blk_set h 2 _
theorem Blk.set3 (h : Blk w b c v lc lst u d) (x : List UInt8) : Blk (w.setCell ⟨b, 3, none⟩ (sv x)) b c v lc x u d := blk_set h 3 _
theorem Blk.set4 (h : Blk w b c v lc lst u d) (x : Value) : Blk (w.setCell ⟨b, 4, none⟩ x) b c v lc lst x d := blk_set h 4 _
theorem Blk.set5 (h : Blk w b c v lc lst u d) (x : Bool) : Blk (w.setCell ⟨b, 5, none⟩ (.bool x)) b c v lc lst u x := blk_set h 5 _
/-- A row of texts is not a reader's block. -/
theorem Blk.ne {n : Nat} {r : Value} {m : Nat} {xs : List Value} (h : Blk w b c v lc lst u d) (hr : w.ownsRow n 9 1 r m xs) : r.ownBlock ≠ some b := by
  intro e
  rcases hr.2 with ⟨rfl, _⟩ | ⟨g, cap, cur, rfl, _, hg, _⟩
  · cases e
  · obtain rfl : g = b := by simpa [Value.ownBlock] using e
    unfold Blk at h
    rw [hg] at h
    simp at h
end

/-- A row is as it was where another block is written. -/
theorem owns_set {n : Nat} {w : World} {r : Value} {m : Nat} {xs : List Value} (h : w.ownsRow n 9 1 r m xs) {b : Nat} (i : Nat) (x : Value) (hb : r.ownBlock ≠ some b) : (w.setCell ⟨b, i, none⟩ x).ownsRow n 9 1 r m xs :=
  ownsRow_kp h ((Kp.refl [b] w).setCell (p := ⟨b, i, none⟩) (by simp) x) (fun g e hg => hb (by rw [e]; simp at hg; rw [hg]))

theorem Rd.make {n : Nat} {w : World} {b : Nat} {F : List Nat} {st : RS} {v u : Value} (hb : Blk w b st.c v st.lc st.lst u st.d) (hm : b ∈ F) (hu : ∀ k ∈ F, n ≤ k ∧ 4 + 1 ≤ k ∧ k < w.heap.size) (hl : st.ls.length ≤ 32 ∧ st.lls.length ≤ 32) (he : st.lls = [] → st.lc = 0 ∧ st.lst = [])
    (hv : w.ownsRow n 9 1 v st.ls.length (st.ls.map sv)) (hu' : w.ownsRow n 9 1 u st.lls.length (st.lls.map sv)) (h1 : ∀ g, v.ownBlock = some g → g ∈ F) (h2 : ∀ g, u.ownBlock = some g → g ∈ F)
    (h3 : ∀ g, v.ownBlock = some g → u.ownBlock ≠ some g) (h4 : st.ls = [] → v = .slice none 0 0) (h5 : st.lls = [] → u = .slice none 0 0) : Rd n w b F st :=
  ⟨hm, hu, hl, he, v, u, hb, hv, hu', h1, h2, h3, h4, h5⟩

/-! ### New -/
theorem new_any (n : Nat) (w : World) (hn : n ≤ w.heap.size) (hw : LW w) :
    Calls Tryd.prog 17 #[] w fun e w' => ∃ b, e = .returned (.pointer (some ⟨b, 0, none⟩)) ∧ b = w.heap.size ∧ Rd n w' b [b] rs0 ∧ Below w.heap.size w w' := by
  have h3 := hw.pos
  have HA : Rd n (w.alloc (.cells #[.int .i64 0, .slice none 0 0, .int .i64 0, sv [], .slice none 0 0, .bool false] 90)) w.heap.size [w.heap.size] rs0 :=
    Rd.make (st := rs0) (v := .slice none 0 0) (u := .slice none 0 0) (heap_alloc_new w _) (by simp) (fun k hk => by simp only [List.mem_singleton] at hk; subst hk; simp; omega) (by decide) (fun _ => ⟨rfl, rfl⟩) (World.ownsRow_nil _ _ _ _) (World.ownsRow_nil _ _ _ _)
      (fun g e => by simp [Value.ownBlock] at e) (fun g e => by simp [Value.ownBlock] at e) (fun g e => by simp [Value.ownBlock] at e) (fun _ => rfl) (fun _ => rfl)
  have HX := Lib.hid HA
  clear HA h3 hw
  go_enter Tryd.func17, Tryd.ntmps17
  go_wp2
  go_ret
  exact ⟨_, rfl, rfl, HX.out, (Below.refl _ _).alloc (Nat.le_refl _) _⟩

/-! ### die -/
theorem die_any (x : Int) (b : Nat) (w : World) {c lc : Nat} {v u : Value} {lst : List UInt8} {d : Bool} (h : Blk w b c v lc lst u d) :
    Calls Tryd.prog 54 #[.pointer (some ⟨b, 0, none⟩), .int .i64 x] w fun e w' => e = .returned (.int .i64 x) ∧ w' = (w.setCell ⟨b, 1, none⟩ (.slice none 0 0)).setCell ⟨b, 5, none⟩ (.bool true) := by
  have c1 := h.c1
  have f1 := h.fr 1
  have c0 := h.c0
  have f0 := h.fr 0
  have c5 := (h.set1 (.slice none 0 0)).c5
  have f5 := (h.set1 (.slice none 0 0)).fr 5
  have c5' := h.c5
  have f5' := h.fr 5
  clear h
  go_enter Tryd.func54, Tryd.ntmps54
  go_wp2
  go_ret
  exact ⟨rfl, rfl⟩

/-! ### Reset -/
theorem Rd.reset {n : Nat} {w : World} {b : Nat} {F : List Nat} {st : RS} (h : Rd n w b F st) : ∃ c v lc lst u d, Blk w b c v lc lst u d := by
  obtain ⟨hm, hu, hl, _, v, u, hb, _⟩ := h
  exact ⟨_, _, _, _, _, _, hb⟩
theorem reset_any {n : Nat} {w : World} {b : Nat} {F : List Nat} {st : RS} (h : Rd n w b F st) :
    Calls Tryd.prog 26 #[.pointer (some ⟨b, 0, none⟩)] w fun e w' => e = .returned (.tuple #[]) ∧ Rd n w' b [b] rs0 ∧ Kp F w w' := by
  have hu := h.up b h.mem
  have hm := h.mem
  obtain ⟨c, v, lc, lst, u, d, hb⟩ := h.reset
  have hb6 := (((((hb.set0 0).set1 (.slice none 0 0)).set2 0).set3 []).set4 (.slice none 0 0)).set5 false
  have hk6 : Kp F w _ := (((((((Kp.refl F w).setCell (p := ⟨b, 0, none⟩) hm (.int .i64 ((0 : Nat) : Int))).setCell (p := ⟨b, 1, none⟩) hm (.slice none 0 0)).setCell (p := ⟨b, 2, none⟩) hm (.int .i64 ((0 : Nat) : Int))).setCell (p := ⟨b, 3, none⟩) hm (sv [])).setCell (p := ⟨b, 4, none⟩) hm (.slice none 0 0)).setCell (p := ⟨b, 5, none⟩) hm (.bool false))
  have HR := Lib.hid (Rd.make (n := n) (F := [b]) (st := rs0) hb6 (by simp) (fun k hk => by simp only [List.mem_singleton] at hk; subst hk; exact ⟨hu.1, hu.2.1, hb6.lt⟩) (by decide) (fun _ => ⟨rfl, rfl⟩) (World.ownsRow_nil _ _ _ _) (World.ownsRow_nil _ _ _ _)
      (fun g e => by simp [Value.ownBlock] at e) (fun g e => by simp [Value.ownBlock] at e) (fun g e => by simp [Value.ownBlock] at e) (fun _ => rfl) (fun _ => rfl))
  have HK := Lib.hid hk6
  have c0 := hb.c0
  have f0 := hb.fr 0
  have c1 := hb.c1
  have f1 := hb.fr 1
  have c2 := hb.c2
  have f2 := hb.fr 2
  have c3 := hb.c3
  have f3 := hb.fr 3
  have c4 := hb.c4
  have f4 := hb.fr 4
  have c5 := hb.c5
  have f5 := hb.fr 5
  clear hb6 hk6 hu hm h hb
  go_enter Tryd.func26, Tryd.ntmps26
  go_wp2
  go_end0
  exact ⟨rfl, HR.out, HK.out⟩

/-! ### Dead -/
theorem dead_any {n : Nat} {w : World} {b : Nat} {F : List Nat} {st : RS} (h : Rd n w b F st) :
    Calls Tryd.prog 22 #[.pointer (some ⟨b, 0, none⟩)] w fun e w' => e = .returned (.bool st.d) ∧ w = w' := by
  obtain ⟨_, _, _, _, v, u, hb, _⟩ := h
  have hb' : Blk w b st.c v st.lc st.lst u st.d := hb
  have c5 := hb'.c5
  have f5 := hb'.fr 5
  clear hb hb'
  go_enter Tryd.func22, Tryd.ntmps22
  go_wp2
  go_ret
  exact ⟨rfl, rfl⟩

/-! ### Take -/
/-- A reply, as a value. -/
def repV (lc : Nat) (lst : List UInt8) (u : Value) : Value := .agg #[.int .i64 (lc : Int), sv lst, u]
theorem results_cell_tmp {P : Program} {fn : Func} {p q : Tmp} {ty : TypeId} (h : fn.results = #[.cell p ty, .tmp q]) (tmps : Array Value) (w : World) (g : Nat) (t : TypeId) (cs : Array Value) (fr : Nat × Nat) (d : TypeDesc)
    (hp : tmps.getD p undef = .pointer (some ⟨g, 0, none⟩)) (hg : w.heap[g]? = some (.cells cs t fr))
    (hu : P.underlying ty = some d) (hd : (match d with | .struct _ | .array _ _ => true | _ => false) = true) (hi : (P.info? ty).map (·.size) = some cs.size) :
    (results fn tmps).run P w = .ok (.tuple #[.agg cs, tmps.getD q undef]) w := by
  have hp' : tmps[p]?.getD undef = .pointer (some ⟨g, 0, none⟩) := by simpa using hp
  simp [results, h, hp', asAddr, run_loadVar_row w g t ty cs fr d hg hu hd hi]
/-- What Take tells and leaves. -/
def TakePost (n : Nat) (w : World) (b : Nat) (F : List Nat) (st : RS) (e : Ending) (w' : World) : Prop :=
  ∃ u F' G, e = .returned (.tuple #[repV st.lc st.lst u, .bool (decide (0 < st.lls.length))]) ∧ Rd n w' b F' (takenR st) ∧ Rw n w' G u st.lls ∧ Kp F w w' ∧ (∀ k ∈ F', k ∈ F) ∧ (∀ k ∈ G, k ∈ F) ∧ (∀ k ∈ G, k ∉ F')

set_option maxHeartbeats 4000000 in
theorem take_none {n : Nat} {w : World} {b : Nat} {F : List Nat} {st : RS} (h : Rd n w b F st) (h0 : st.lls = []) :
    Calls Tryd.prog 23 #[.pointer (some ⟨b, 0, none⟩)] w (TakePost n w b F st) := by
  have H := Lib.hid h
  obtain ⟨hm, hu, hl, he, v, u, hb, hv, hu', h1, h2, h3, h4, h5⟩ := h
  have hb' : Blk w b st.c v st.lc st.lst u st.d := hb
  obtain rfl := h5 h0
  have c4 := hb'.c4
  have hlt := hb'.lt
  have HE := Lib.hid (he h0)
  have H0 := Lib.hid h0
  clear hm hu hl hb hv hu' h1 h2 h3 h4 h5 hb' he h0
  go_enter Tryd.func23, Tryd.ntmps23
  go_wp2_with fail
  refine bodyPost_ret (results_cell_tmp (p := 2) (q := 3) (fr := (0, 0)) Tryd.results23 _ _ w.heap.size 42 _ _ rfl (heap_alloc_new w _) Tryd.underlying42 rfl (by kernel_rfl)) rfl ?_
  obtain ⟨e1, e2⟩ := HE.out
  have e3 := H0.out
  have hbl := (Below.refl w.heap.size w).alloc (Nat.le_refl _) (.cells #[.int .i64 0, sv [], .slice none 0 0] 42)
  have et : takenR st = st := by
    obtain ⟨a1, a2, a3, a4, a5, a6⟩ := st
    simp only at e1 e2 e3
    subst e1; subst e2; subst e3
    rfl
  refine ⟨.slice none 0 0, F, [], ?_, ?_, ?_, Kp.of_below hbl _, fun _ h => h, fun _ h => by simp at h, fun _ h => by simp at h⟩
  · rw [e1, e2, e3]; rfl
  · rw [et]; exact (H.out).below hbl
  · rw [e3]; exact Rw.nil _ _

set_option maxHeartbeats 4000000 in
theorem take_some {n : Nat} {w : World} {b : Nat} {F : List Nat} {st : RS} (h : Rd n w b F st) (h0 : 0 < st.lls.length) :
    Calls Tryd.prog 23 #[.pointer (some ⟨b, 0, none⟩)] w (TakePost n w b F st) := by
  have H := Lib.hid h
  obtain ⟨hm, hu, hl, he, v, u, hb, hv, hu', h1, h2, h3, h4, h5⟩ := h
  have hb' : Blk w b st.c v st.lc st.lst u st.d := hb
  have hou := hu'.2
  obtain ⟨A, cu, rfl⟩ : ∃ A cu, u = .slice A st.lls.length cu := by
    rcases hou with ⟨rfl, h⟩ | ⟨g, cap, cur, rfl, _⟩
    · omega
    · exact ⟨_, _, rfl⟩
  have hlt := hb'.lt
  have c4 := hb'.c4
  have c3 := hb'.c3
  have c2 := hb'.c2
  have f4 := hb'.fr 4
  have f3 := hb'.fr 3
  have f2 := hb'.fr 2
  obtain ⟨X, hX⟩ : ∃ X, X = ((w.setCell ⟨b, 2, none⟩ (.int .i64 ((0 : Nat) : Int))).setCell ⟨b, 3, none⟩ (sv [])).setCell ⟨b, 4, none⟩ (.slice none 0 0) := ⟨_, rfl⟩
  have hbX : Blk X b st.c v 0 [] (.slice none 0 0) st.d := by rw [hX]; exact ((hb'.set2 0).set3 []).set4 _
  have hkb : Kp [b] w X := by rw [hX]; exact (((Kp.refl [b] w).setCell (p := ⟨b, 2, none⟩) (by simp) _).setCell (p := ⟨b, 3, none⟩) (by simp) _).setCell (p := ⟨b, 4, none⟩) (by simp) _
  have hsX : X.heap.size = w.heap.size := by rw [hX]; simp [World.setCell]
  have hub := hb'.ne hu'
  have hvb := hb'.ne hv
  have HFIN := Lib.hid (show ∃ F' G, Rd n X b F' (takenR st) ∧ Rw n X G (.slice A st.lls.length cu) st.lls ∧ Kp F w X ∧ (∀ k ∈ F', k ∈ F) ∧ (∀ k ∈ G, k ∈ F) ∧ (∀ k ∈ G, k ∉ F') by
    refine ⟨F.filter (fun k => decide ((Value.slice A st.lls.length cu).ownBlock ≠ some k)), (Value.slice A st.lls.length cu).ownBlock.toList, ?_, ⟨ownsRow_kp hu' hkb (fun g e hg => hub (by rw [e]; simp at hg; rw [hg])), fun g e => by rw [e]; simp, fun k hk => ?_⟩, hkb.mono (fun k hk => by simp at hk; subst hk; exact hm), fun k hk => (List.mem_filter.1 hk).1, fun k hk => h2 k (by simpa using hk), fun k hk hk' => ?_⟩
    · refine Rd.make (st := takenR st) (v := v) (u := .slice none 0 0) hbX (List.mem_filter.2 ⟨hm, by simpa using hub⟩) (fun k hk => ?_) ⟨hl.1, by simp [takenR]⟩ (fun _ => ⟨rfl, rfl⟩) (ownsRow_kp hv hkb (fun g e hg => hvb (by rw [e]; simp at hg; rw [hg]))) (World.ownsRow_nil _ _ _ _)
        (fun g e => List.mem_filter.2 ⟨h1 g e, by simpa using h3 g e⟩) (fun g e => by simp [Value.ownBlock] at e) (fun g e => by simp [Value.ownBlock]) h4 (fun _ => rfl)
      have := hu k (List.mem_filter.1 hk).1
      rw [hsX]; exact this
    · rw [hsX]
      exact (hu k (h2 k (by simpa using hk))).2.2
    · have h := (List.mem_filter.1 hk').2
      simp only [decide_eq_true_eq] at h
      exact h (by simpa using hk))
  have HXE := Lib.hid hX
  have HSX := Lib.hid hsX
  have hne0 : ((st.lls.length : Int) == 0) = false := by rw [beq_eq_false_iff_ne]; omega
  have H0 := Lib.hid h0
  clear hm hu hl hb hv hu' h1 h2 h3 h4 h5 he h0 hou hb' hbX hkb hsX hub hvb hX
  go_enter Tryd.func23, Tryd.ntmps23
  go_wp2_with fail
  obtain ⟨R, hR⟩ : ∃ R, R = Obj.cells #[.int .i64 (st.lc : Int), sv st.lst, .slice A st.lls.length cu] 42 := ⟨_, rfl⟩
  have hg : ((X.alloc R).alloc R).heap[w.heap.size]? = some R := by
    rw [← HSX.out]
    exact (Lib.alloc_old _ R _ (by simp)).trans (heap_alloc_new X R)
  have hbl : Below X.heap.size X ((X.alloc R).alloc R) := ((Below.refl _ X).alloc (Nat.le_refl _) _).alloc (by simp) _
  rw [hR] at hg
  rw [HXE.out] at hg
  refine bodyPost_ret (results_cell_tmp (p := 2) (q := 3) (fr := (0, 0)) Tryd.results23 _ _ w.heap.size 42 _ _ rfl hg Tryd.underlying42 rfl (by kernel_rfl)) rfl ?_
  obtain ⟨F', G, r1, r2, r3, r4, r5, r6⟩ := HFIN.out
  rw [hR] at hbl
  have hfin : TakePost n w b F st (.returned (.tuple #[repV st.lc st.lst (.slice A st.lls.length cu), .bool true])) ((X.alloc (Obj.cells #[.int .i64 (st.lc : Int), sv st.lst, .slice A st.lls.length cu] 42)).alloc (Obj.cells #[.int .i64 (st.lc : Int), sv st.lst, .slice A st.lls.length cu] 42)) :=
    ⟨_, F', G, by rw [decide_eq_true H0.out], r1.below hbl, r2.below hbl, r3.below hbl, r4, r5, r6⟩
  rw [HXE.out] at hfin
  exact hfin

theorem take_any {n : Nat} {w : World} {b : Nat} {F : List Nat} {st : RS} (h : Rd n w b F st) :
    Calls Tryd.prog 23 #[.pointer (some ⟨b, 0, none⟩)] w (TakePost n w b F st) := by
  by_cases h0 : 0 < st.lls.length
  · exact take_some h h0
  · exact take_none h (List.length_eq_zero_iff.1 (by omega))
end Go.Proofs.YtanfonpbnamjmaaDoor
