/-
  CapsMore's walk: true for any lines, any more.
-/
import Derived.Deep.RegionHeld3
import Derived.Test.YtanfonpbnamjmaaDoorCUnion
import Derived.Test.YtanfonpbnamjmaaDoorCLong
namespace Go.Proofs.YtanfonpbnamjmaaDoor
open Go Go.RowKit Go.Shelf
set_option maxRecDepth 100000

theorem bulk_lenS (xs : List (List UInt8)) : 10 * xs.length ≤ bulk xs := by
  induction xs with
  | nil => simp
  | cons x xs ih => simp only [bulk, List.map_cons, List.sum_cons, List.length_cons] at ih ⊢; omega
theorem bulk_memS {xs : List (List UInt8)} {x : List UInt8} (h : x ∈ xs) : min 9000 x.length ≤ bulk xs := by
  induction xs with
  | nil => cases h
  | cons y xs ih =>
    simp only [bulk, List.map_cons, List.sum_cons] at ih ⊢
    rcases List.mem_cons.1 h with rfl | h
    · omega
    · have := ih h; omega
/-- Texts that are not too long together. -/
theorem short_is {xs : List (List UInt8)} (h : longB xs = false) : (∀ x ∈ xs, x.length ≤ 1000000) ∧ xs.length ≤ 900 := by
  unfold longB at h
  have h1 := of_decide_eq_false h
  refine ⟨fun x hx => ?_, ?_⟩
  · have := bulk_memS hx; omega
  · have := bulk_lenS xs; omega
theorem cbC3 {W : World} {k : Nat} {c : Cp} (h : CB W k c) :
    W.cell? ⟨k, 0, none⟩ = some (.bool c.st) ∧ W.cell? ⟨k, 1, none⟩ = some (.bool c.pi) ∧ W.cell? ⟨k, 2, none⟩ = some (.bool c.rq) ∧ W.cell? ⟨k, 3, none⟩ = some (.bool c.ds) ∧ W.cell? ⟨k, 4, none⟩ = some (.bool c.eb) ∧ W.cell? ⟨k, 5, none⟩ = some (.bool c.sz) ∧ W.cell? ⟨k, 6, none⟩ = some (.int .i64 c.mo) :=
  ⟨by rw [cellAt h]; rfl, by rw [cellAt h]; rfl, by rw [cellAt h]; rfl, by rw [cellAt h]; rfl, by rw [cellAt h]; rfl, by rw [cellAt h]; rfl, by rw [cellAt h]; rfl⟩
def SU (X W : World) : Prop := Below X.heap.size X W
theorem SU.drew {X W : World} (h : SU X W) : SU X W.drew := Below.drew h

theorem three_heap {w X : World} {A B C : Obj} {k5 k6 k7 : Nat} (hX : X = ((w.alloc A).alloc B).alloc C) (h5 : k5 = w.heap.size) (h6 : k6 = w.heap.size + 1) (h7 : k7 = w.heap.size + 1 + 1) :
    X.heap[k5]? = some A ∧ X.heap[k6]? = some B ∧ X.heap[k7]? = some C ∧ Below w.heap.size w X := by
  have h1 := heap_alloc_new w A
  have h2 := heap_alloc_new (w.alloc A) B
  have h3 := heap_alloc_new ((w.alloc A).alloc B) C
  rw [World.size_alloc] at h2
  rw [World.size_alloc, World.size_alloc] at h3
  rw [hX, h5, h6, h7]
  exact ⟨(Lib.alloc_old _ _ _ (lt_of_blk ((Lib.alloc_old _ B _ (lt_of_blk h1)).trans h1))).trans ((Lib.alloc_old _ _ _ (lt_of_blk h1)).trans h1), (Lib.alloc_old _ _ _ (lt_of_blk h2)).trans h2, h3, ((((Below.refl _ w).alloc (Nat.le_refl _) _).alloc (by simp) _).alloc (by simp; omega) _)⟩
theorem grown_bl1 {w w3 W4 : World} (hg : (w3.alloc (.cells #[] 9)).grownBy W4 (some w3.heap.size)) (h : BL w w3) : BL w W4 := by
  have hb : Below w3.heap.size w3 W4 := Below.grown (below_alloc w3 _) hg (by simp) (fun j e => by injection e with e; omega)
  exact h.step hb
theorem grown_bl2 {w W4 W5 : World} {g : Nat} (hg : W4.grownBy W5 (some g)) (h : BL w W4) (hge : w.heap.size ≤ g) (hw : LW w) : BL w W5 := by
  have hb : Below w.heap.size w W5 := Below.grown h.below hg h.size (fun j e => by injection e with e; omega)
  exact ⟨hb, hw.below hb⟩
theorem owns_lt {W : World} {B g n cap : Nat} {xs : List (List UInt8)} (h : W.ownsRow B 9 1 (.slice (some ⟨g, 0, none⟩) n cap) n (xs.map sv)) : B ≤ W.heap.size := by
  obtain ⟨_, h1, h2, _⟩ := owns_cells h; omega
theorem owns_ge {W : World} {B b g n cap : Nat} {xs : List (List UInt8)} (h : W.ownsRow B 9 1 (.slice (some ⟨g, 0, none⟩) n cap) n (xs.map sv)) (hb : b ≤ B) : b ≤ g := by
  obtain ⟨_, h1, _⟩ := owns_cells h; omega
set_option maxHeartbeats 16000000 in
theorem more_long (xs ys : List (List UInt8)) (v u : Value) (w : World) (hw : LW w) (hx : SR w v xs) (hy : SR w u ys) (hn : xs.length ≤ 140737488351232) (hm : ys.length ≤ 140737488351232) (hl : ∀ x ∈ xs, x.length ≤ 9223372036854775807) (hk : ∀ x ∈ ys, x.length ≤ 9223372036854775807) (hb : longB xs = true ∨ (longB xs = false ∧ longB ys = true)) :
    Calls Tryd.prog 8 #[v, u] w fun e w' => e = .returned (.bool true) ∧ Below w.heap.size w w' := by
  have HW := Lib.hid hw
  have HX := Lib.hid (fun W (h : Below w.heap.size w W) => long_any xs v W (hx.step h) hn hl)
  have HY := Lib.hid (fun W (h : Below w.heap.size w W) => long_any ys u W (hy.step h) hm hk)
  obtain ⟨A, c, rfl, -⟩ := hx
  obtain ⟨B, d, rfl, -⟩ := hy
  clear hw hl hk
  rcases hb with hb | ⟨ha, hb⟩
  · rw [hb] at HX
    clear hb
    go_enter Tryd.func8, Tryd.ntmps8
    go_wp2_with fail
    refine (works_any _ HW.out).mono ?_
    rintro e w1 ⟨rfl, hb⟩
    have HB := Lib.hid ((BL.start HW.out).step hb)
    clear hb
    go_wp2_with fail
    refine (HX.out _ HB.out.below).mono ?_
    rintro e w2 ⟨rfl, rfl⟩
    go_wp2_with fail
    refine (works_any _ HB.out.lw).mono ?_
    rintro e w2 ⟨rfl, hb⟩
    have HB2 := Lib.hid (HB.out.step hb)
    clear hb
    go_wp2_with fail
    go_ret
    exact ⟨rfl, HB2.out.below⟩
  · rw [ha] at HX
    rw [hb] at HY
    clear hb ha
    go_enter Tryd.func8, Tryd.ntmps8
    go_wp2_with fail
    refine (works_any _ HW.out).mono ?_
    rintro e w1 ⟨rfl, hb⟩
    have HB := Lib.hid ((BL.start HW.out).step hb)
    clear hb
    go_wp2_with fail
    refine (HX.out _ HB.out.below).mono ?_
    rintro e w2 ⟨rfl, rfl⟩
    go_wp2_with fail
    refine (HY.out _ HB.out.below).mono ?_
    rintro e w2 ⟨rfl, rfl⟩
    go_wp2_with fail
    refine (works_any _ HB.out.lw).mono ?_
    rintro e w2 ⟨rfl, hb⟩
    have HB2 := Lib.hid (HB.out.step hb)
    clear hb
    go_wp2_with fail
    go_ret
    exact ⟨rfl, HB2.out.below⟩

set_option maxHeartbeats 16000000 in
theorem more_short (xs ys : List (List UInt8)) (v u : Value) (w : World) (hw : LW w) (hx : SR w v xs) (hy : SR w u ys) (hn : xs.length ≤ 140737488351232) (hm : ys.length ≤ 140737488351232) (hl : ∀ x ∈ xs, x.length ≤ 9223372036854775807) (hk : ∀ x ∈ ys, x.length ≤ 9223372036854775807) (ha : longB xs = false) (hb : longB ys = false) :
    Calls Tryd.prog 8 #[v, u] w fun e w' => e = .returned (.bool true) ∧ Below w.heap.size w w' := by
  have HW := Lib.hid hw
  have HX := Lib.hid (fun W (h : Below w.heap.size w W) => long_any xs v W (hx.step h) hn hl)
  have HY := Lib.hid (fun W (h : Below w.heap.size w W) => long_any ys u W (hy.step h) hm hk)
  have sx := short_is ha
  have sy := short_is hb
  rw [ha] at HX
  rw [hb] at HY
  have HSX := Lib.hid sx; have HSY := Lib.hid sy
  have HRX := Lib.hid hx; have HRY := Lib.hid hy
  obtain ⟨A, c, rfl, -⟩ := hx
  obtain ⟨B, d, rfl, -⟩ := hy
  have hxn := sx.2
  have hyn := sy.2
  have HA := Lib.hid (fun W (h : BL w W) => lof_any xs _ W (HRX.out.step h.below) HSX.out.1 (by omega) h.lw)
  have HC := Lib.hid (fun W (h : BL w W) => lof_any ys _ W (HRY.out.step h.below) HSY.out.1 (by omega) h.lw)
  clear hw hl hk ha hb sx sy
  go_enter Tryd.func8, Tryd.ntmps8
  go_wp2_with fail
  refine (works_any _ HW.out).mono ?_
  rintro e w1 ⟨rfl, hb⟩
  have HB := Lib.hid ((BL.start HW.out).step hb)
  clear hb
  go_wp2_with fail
  refine (HX.out _ HB.out.below).mono ?_
  rintro e w2 ⟨rfl, rfl⟩
  go_wp2_with fail
  refine (HY.out _ HB.out.below).mono ?_
  rintro e w2 ⟨rfl, rfl⟩
  go_wp2_with fail
  refine (HA.out _ HB.out).mono ?_
  rintro e w2 ⟨rfl, hb⟩
  have HB2 := Lib.hid (HB.out.step hb)
  clear hb
  go_wp2_with fail
  refine (HC.out _ HB2.out).mono ?_
  rintro e w3 ⟨rfl, hb⟩
  have HB3 := Lib.hid (HB2.out.step hb)
  clear hb
  have ho1 := owns_empty_t (base := w3.heap.size) (heap_alloc_new w3 (.cells #[] 9)) (Nat.le_refl _)
  have hs1 := (HRX.out.step (HB3.out.alloc (.cells #[] 9)).below).src
  have HO1 := Lib.hid ho1
  have HS1 := Lib.hid hs1
  clear ho1 hs1
  go_wp2_with first
    | (at_builtin; refine row_app HO2.out rfl HS2.out HZ2.out (by omega) _ _ rfl rfl rfl rfl rfl (xs.length + ys.length) rfl ?_; intro g5 cap5 W5 hown5 hgr5; have HB5 := Lib.hid (grown_bl2 hgr5 HB4.out HG4.out HW.out); have hrs : SR W5 (.slice (some ⟨g5, 0, none⟩) (xs.length + ys.length) cap5) (xs ++ ys) := owns_any hown5; have HRS := Lib.hid hrs; clear hown5 hgr5 hrs)
    | (at_builtin; refine row_app HO1.out rfl HS1.out (by simp) (by omega) _ _ rfl rfl rfl rfl rfl xs.length (by omega) ?_; intro g4 cap4 W4 hown4 hgr4; have HB4 := Lib.hid (grown_bl1 hgr4 HB3.out); have HO2 := Lib.hid hown4; have hs2 := (HRY.out.step HB4.out.below).src; have HS2 := Lib.hid hs2; have HZ2 := Lib.hid (owns_lt hown4); have HG4 := Lib.hid (owns_ge hown4 HB3.out.below.size); clear hown4 hgr4 hs2)
  have HL5 := Lib.hid (lof_any (xs ++ ys) _ W5 HRS.out (fun x hx => (List.mem_append.1 hx).elim (HSX.out.1 x) (HSY.out.1 x)) (by rw [List.length_append]; omega) HB5.out.lw)
  refine (HL5.out).mono ?_
  rintro e w6 ⟨rfl, hb⟩
  have HB6 := Lib.hid (HB5.out.step hb)
  clear hb
  rw [say_append]
  obtain ⟨ca, hca⟩ : ∃ z, z = sayC xs := ⟨_, rfl⟩
  obtain ⟨cb, hcb⟩ : ∃ z, z = sayC ys := ⟨_, rfl⟩
  obtain ⟨cc, hcc⟩ : ∃ z, z = unionC ca cb := ⟨_, rfl⟩
  rw [← hca, ← hcb, ← hcc]
  clear hca hcb
  obtain ⟨a0, a1, a2, a3, a4, a5, a6⟩ := ca
  obtain ⟨b0, b1, b2, b3, b4, b5, b6⟩ := cb
  obtain ⟨c0, c1, c2, c3, c4, c5, c6⟩ := cc
  have HCC := Lib.hid hcc
  have HD := Lib.hid (show c0 = (a0 || b0) ∧ c2 = (a2 || b2) ∧ c6 = (if a6 = 0 then b6 else a6) by
    unfold unionC at hcc
    simp only [Cp.mk.injEq] at hcc
    exact ⟨hcc.1, hcc.2.2.1, hcc.2.2.2.2.2.2⟩)
  clear hcc
  unfold ofV cpL
  go_wp2_with fail
  obtain ⟨k5, hk5⟩ : ∃ k, k = w6.heap.size := ⟨_, rfl⟩
  obtain ⟨k6, hk6⟩ : ∃ k, k = w6.heap.size + 1 := ⟨_, rfl⟩
  obtain ⟨k7, hk7⟩ : ∃ k, k = w6.heap.size + 1 + 1 := ⟨_, rfl⟩
  obtain ⟨X, hX⟩ : ∃ X, X = ((w6.alloc (Obj.cells #[.bool a0, .bool a1, .bool a2, .bool a3, .bool a4, .bool a5, .int .i64 a6] 50)).alloc (Obj.cells #[.bool b0, .bool b1, .bool b2, .bool b3, .bool b4, .bool b5, .int .i64 b6] 50)).alloc (Obj.cells #[.bool c0, .bool c1, .bool c2, .bool c3, .bool c4, .bool c5, .int .i64 c6] 50) := ⟨_, rfl⟩
  rw [← hX, ← hk7, ← hk6, ← hk5]
  have hx3 := three_heap hX hk5 hk6 hk7
  have HBX := Lib.hid (HB6.out.step hx3.2.2.2)
  have HCE := Lib.hid (show ∀ W, SU X W → W.cell? ⟨k7, 0, none⟩ = some (.bool c0) ∧ W.cell? ⟨k7, 1, none⟩ = some (.bool c1) ∧ W.cell? ⟨k7, 2, none⟩ = some (.bool c2) ∧ W.cell? ⟨k7, 3, none⟩ = some (.bool c3) ∧ W.cell? ⟨k7, 4, none⟩ = some (.bool c4) ∧ W.cell? ⟨k7, 5, none⟩ = some (.bool c5) ∧ W.cell? ⟨k7, 6, none⟩ = some (.int .i64 c6) ∧ W.cell? ⟨k5, 0, none⟩ = some (.bool a0) ∧ W.cell? ⟨k5, 1, none⟩ = some (.bool a1) ∧ W.cell? ⟨k5, 2, none⟩ = some (.bool a2) ∧ W.cell? ⟨k5, 3, none⟩ = some (.bool a3) ∧ W.cell? ⟨k5, 4, none⟩ = some (.bool a4) ∧ W.cell? ⟨k5, 5, none⟩ = some (.bool a5) ∧ W.cell? ⟨k5, 6, none⟩ = some (.int .i64 a6) ∧ W.cell? ⟨k6, 0, none⟩ = some (.bool b0) ∧ W.cell? ⟨k6, 1, none⟩ = some (.bool b1) ∧ W.cell? ⟨k6, 2, none⟩ = some (.bool b2) ∧ W.cell? ⟨k6, 3, none⟩ = some (.bool b3) ∧ W.cell? ⟨k6, 4, none⟩ = some (.bool b4) ∧ W.cell? ⟨k6, 5, none⟩ = some (.bool b5) ∧ W.cell? ⟨k6, 6, none⟩ = some (.int .i64 b6) from fun W h => by
    have h5 := blk_below hx3.1 h
    have h6 := blk_below hx3.2.1 h
    have h7 := blk_below hx3.2.2.1 h
    refine ⟨?_, ?_, ?_, ?_, ?_, ?_, ?_, ?_, ?_, ?_, ?_, ?_, ?_, ?_, ?_, ?_, ?_, ?_, ?_, ?_, ?_⟩
    all_goals first | (rw [cellAt h7]; rfl) | (rw [cellAt h5]; rfl) | (rw [cellAt h6]; rfl))
  have HU1 := Lib.hid (show ∀ W, SU X W → Calls Tryd.prog 31 #[.agg #[.bool a0, .bool a1, .bool a2, .bool a3, .bool a4, .bool a5, .int .i64 a6], .agg #[.bool b0, .bool b1, .bool b2, .bool b3, .bool b4, .bool b5, .int .i64 b6]] W fun e w' => e = .returned (.agg #[.bool c0, .bool c1, .bool c2, .bool c3, .bool c4, .bool c5, .int .i64 c6]) ∧ SU X w' from fun W h => by
    have := union_any ⟨a0, a1, a2, a3, a4, a5, a6⟩ ⟨b0, b1, b2, b3, b4, b5, b6⟩ W
    rw [← HCC.out] at this
    exact this.mono fun _ _ ⟨h1, h2⟩ => ⟨h1, Below.trans h (h2.mono (Below.size h))⟩)
  have HU2 := Lib.hid (show ∀ W, SU X W → Calls Tryd.prog 31 #[.agg #[.bool a0, .bool a1, .bool a2, .bool a3, .bool a4, .bool a5, .int .i64 a6], .agg #[.bool a0, .bool a1, .bool a2, .bool a3, .bool a4, .bool a5, .int .i64 a6]] W fun e w' => e = .returned (.agg #[.bool a0, .bool a1, .bool a2, .bool a3, .bool a4, .bool a5, .int .i64 a6]) ∧ SU X w' from fun W h => by
    have := union_any ⟨a0, a1, a2, a3, a4, a5, a6⟩ ⟨a0, a1, a2, a3, a4, a5, a6⟩ W
    rw [union_self] at this
    exact this.mono fun _ _ ⟨h1, h2⟩ => ⟨h1, Below.trans h (h2.mono (Below.size h))⟩)
  have HU3 := Lib.hid (show ∀ W, SU X W → Calls Tryd.prog 31 #[.agg #[.bool a0, .bool a1, .bool a2, .bool a3, .bool a4, .bool a5, .int .i64 a6], .agg #[.bool false, .bool false, .bool false, .bool false, .bool false, .bool false, .int .i64 0]] W fun e w' => e = .returned (.agg #[.bool a0, .bool a1, .bool a2, .bool a3, .bool a4, .bool a5, .int .i64 a6]) ∧ SU X w' from fun W h => by
    have := union_any ⟨a0, a1, a2, a3, a4, a5, a6⟩ cp0 W
    rw [union_zero] at this
    exact this.mono fun _ _ ⟨h1, h2⟩ => ⟨h1, Below.trans h (h2.mono (Below.size h))⟩)
  have HU4 := Lib.hid (show ∀ W, SU X W → Calls Tryd.prog 31 #[.agg #[.bool false, .bool false, .bool false, .bool false, .bool false, .bool false, .int .i64 0], .agg #[.bool b0, .bool b1, .bool b2, .bool b3, .bool b4, .bool b5, .int .i64 b6]] W fun e w' => e = .returned (.agg #[.bool b0, .bool b1, .bool b2, .bool b3, .bool b4, .bool b5, .int .i64 b6]) ∧ SU X w' from fun W h => by
    have := union_any cp0 ⟨b0, b1, b2, b3, b4, b5, b6⟩ W
    rw [zero_union] at this
    exact this.mono fun _ _ ⟨h1, h2⟩ => ⟨h1, Below.trans h (h2.mono (Below.size h))⟩)
  have hs0 : SU X X := Below.refl _ _
  have hc0 := HCE.out _ hs0
  clear hX hk5 hk6 hk7 hx3
  go_region_held3 (fun W => SU X W ∧ W.cell? ⟨k7, 0, none⟩ = some (.bool c0) ∧ W.cell? ⟨k7, 1, none⟩ = some (.bool c1) ∧ W.cell? ⟨k7, 2, none⟩ = some (.bool c2) ∧ W.cell? ⟨k7, 3, none⟩ = some (.bool c3) ∧ W.cell? ⟨k7, 4, none⟩ = some (.bool c4) ∧ W.cell? ⟨k7, 5, none⟩ = some (.bool c5) ∧ W.cell? ⟨k7, 6, none⟩ = some (.int .i64 c6) ∧ W.cell? ⟨k5, 0, none⟩ = some (.bool a0) ∧ W.cell? ⟨k5, 1, none⟩ = some (.bool a1) ∧ W.cell? ⟨k5, 2, none⟩ = some (.bool a2) ∧ W.cell? ⟨k5, 3, none⟩ = some (.bool a3) ∧ W.cell? ⟨k5, 4, none⟩ = some (.bool a4) ∧ W.cell? ⟨k5, 5, none⟩ = some (.bool a5) ∧ W.cell? ⟨k5, 6, none⟩ = some (.int .i64 a6) ∧ W.cell? ⟨k6, 0, none⟩ = some (.bool b0) ∧ W.cell? ⟨k6, 1, none⟩ = some (.bool b1) ∧ W.cell? ⟨k6, 2, none⟩ = some (.bool b2) ∧ W.cell? ⟨k6, 3, none⟩ = some (.bool b3) ∧ W.cell? ⟨k6, 4, none⟩ = some (.bool b4) ∧ W.cell? ⟨k6, 5, none⟩ = some (.bool b5) ∧ W.cell? ⟨k6, 6, none⟩ = some (.int .i64 b6))
    (first | exact ⟨by assumption, HCE.out _ (by assumption)⟩ | exact ⟨SU.drew (by assumption), HCE.out _ (SU.drew (by assumption))⟩)
    (first
      | (go_at_call 31; with_reducible refine (HU1.out _ (by first | assumption | exact SU.drew (by assumption))).mono ?_; rintro e1 w8 ⟨rfl, hR⟩)
      | (go_at_call 31; with_reducible refine (HU2.out _ (by first | assumption | exact SU.drew (by assumption))).mono ?_; rintro e1 w8 ⟨rfl, hR⟩)
      | (go_at_call 31; with_reducible refine (HU3.out _ (by first | assumption | exact SU.drew (by assumption))).mono ?_; rintro e1 w8 ⟨rfl, hR⟩)
      | (go_at_call 31; with_reducible refine (HU4.out _ (by first | assumption | exact SU.drew (by assumption))).mono ?_; rintro e1 w8 ⟨rfl, hR⟩))
  all_goals
    have hz := HCE.out _ hR
    have HRB := Lib.hid hR
    obtain ⟨e0, e2, e6⟩ := HD.out
    have q0 : c0 = true ∨ (c0 = false ∧ a0 = false ∧ b0 = false) := by rw [e0]; cases a0 <;> cases b0 <;> simp
    have q2 : c2 = true ∨ (c2 = false ∧ a2 = false ∧ b2 = false) := by rw [e2]; cases a2 <;> cases b2 <;> simp
    have q6 : a6 = 0 ∨ ((a6 == 0) = false ∧ c6 = a6) := by
      rw [e6]
      by_cases h : a6 = 0
      · exact .inl h
      · exact .inr ⟨by simpa using h, by rw [if_neg h]⟩
    clear hR hs0 hc0 e0 e2 e6 HD HCE HU1 HU2 HU3 HU4 HCC
    rcases q0 with rfl | ⟨rfl, rfl, rfl⟩ <;> rcases q2 with rfl | ⟨rfl, rfl, rfl⟩ <;> rcases q6 with rfl | ⟨h6, rfl⟩
    all_goals
      go_wp2_with fail
      go_ret
      exact ⟨rfl, HBX.out.below.trans (Below.mono HRB.out HBX.out.below.size)⟩

theorem capsMore_walk (A0 : Option Addr) (c0 : Nat) (x0 : List (List UInt8)) (A1 : Option Addr) (c1 : Nat) (x1 : List (List UInt8)) {w : World}
    (hS0 : SR w (.slice A0 x0.length c0) x0) (hn0 : x0.length ≤ 140737488351232) (hx0 : ∀ x ∈ x0, x.length ≤ 9223372036854775807) (hS1 : SR w (.slice A1 x1.length c1) x1) (hn1 : x1.length ≤ 140737488351232) (hx1 : ∀ x ∈ x1, x.length ≤ 9223372036854775807) (hw : LW w) :
    Calls Tryd.prog 8 #[.slice A0 x0.length c0, .slice A1 x1.length c1] w fun e w' => e = .returned (.bool true) ∧ Below w.heap.size w w' := by
  cases ha : longB x0 with
  | true => exact more_long x0 x1 _ _ w hw hS0 hS1 hn0 hn1 hx0 hx1 (.inl ha)
  | false =>
    cases hb : longB x1 with
    | true => exact more_long x0 x1 _ _ w hw hS0 hS1 hn0 hn1 hx0 hx1 (.inr ⟨ha, hb⟩)
    | false => exact more_short x0 x1 _ _ w hw hS0 hS1 hn0 hn1 hx0 hx1 ha hb
end Go.Proofs.YtanfonpbnamjmaaDoor
