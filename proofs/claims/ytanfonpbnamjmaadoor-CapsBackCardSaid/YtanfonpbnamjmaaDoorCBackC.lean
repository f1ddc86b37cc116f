/-
  CapsBack's walk: true for any host, any caps.
-/
import Derived.Deep.RegionHeld3
import Derived.Test.YtanfonpbnamjmaaDoorCLaw
namespace Go.Proofs.YtanfonpbnamjmaaDoor
open Go Go.RowKit Go.Shelf
set_option maxRecDepth 100000

theorem of_texts (host : List UInt8) (c : Cp) : ofC 250 (textsR host c) = backC c := by
  have : ofC 250 (textsR host c) = sayC (sixT c) := rfl
  rw [this, say_six]
theorem six_len (c : Cp) : ∀ x ∈ sixT c, x.length ≤ 1000000 := by
  intro x hx
  have ho : ∀ (b : Bool) (t : List UInt8), t.length ≤ 1000000 → x ∈ opt b t → x.length ≤ 1000000 := fun b t ht h => by
    cases b
    · simp [opt] at h
    · simp [opt] at h; rw [h]; exact ht
  have hz : (sizeT c.mo).length ≤ 1000000 := by
    unfold sizeT
    cases hm : mayN c.mo with
    | false => rw [if_neg (by simp)]; decide
    | true =>
      unfold mayN topN at hm
      simp only [Bool.and_eq_true, decide_eq_true_eq] at hm
      have := dec_len20 (m := c.mo.toNat) (by omega)
      rw [if_pos rfl, List.length_append, itoa_pos hm.1]
      simp [wSB]
      omega
  unfold sixT at hx
  simp only [List.mem_append] at hx
  rcases hx with h | h | h | h | h | h
  · exact ho _ _ (by decide) h
  · exact ho _ _ hz h
  · exact ho _ _ (by decide) h
  · exact ho _ _ (by decide) h
  · exact ho _ _ (by decide) h
  · exact ho _ _ (by decide) h
theorem cbC {W : World} {k : Nat} {c : Cp} (h : CB W k c) :
    W.cell? ⟨k, 0, none⟩ = some (.bool c.st) ∧ W.cell? ⟨k, 1, none⟩ = some (.bool c.pi) ∧ W.cell? ⟨k, 2, none⟩ = some (.bool c.rq) ∧ W.cell? ⟨k, 3, none⟩ = some (.bool c.ds) ∧ W.cell? ⟨k, 4, none⟩ = some (.bool c.eb) ∧ W.cell? ⟨k, 5, none⟩ = some (.bool c.sz) ∧ W.cell? ⟨k, 6, none⟩ = some (.int .i64 c.mo) :=
  ⟨by rw [cellAt h]; rfl, by rw [cellAt h]; rfl, by rw [cellAt h]; rfl, by rw [cellAt h]; rfl, by rw [cellAt h]; rfl, by rw [cellAt h]; rfl, by rw [cellAt h]; rfl⟩

/-- What lies there still. -/
def ST (X W : World) : Prop := Below X.heap.size X W
theorem ST.drew {X W : World} (h : ST X W) : ST X W.drew := Below.drew h

theorem back_cases (s0 s1 s2 s3 s4 s5 : Bool) (m : Int) : ∃ m', backC ⟨s0, s1, s2, s3, s4, s5, m⟩ = ⟨s0, s1, s2, s3, s4, s5, m'⟩ ∧
    ((s5 = false ∧ m' = 0) ∨ (s5 = true ∧ m < 1 ∧ m' = 0) ∨ (s5 = true ∧ ¬ m < 1 ∧ 1099511627776 < m ∧ m' = 0) ∨ (s5 = true ∧ ¬ m < 1 ∧ ¬ 1099511627776 < m ∧ m' = m)) := by
  unfold backC mayN topN
  cases s5 with
  | false => exact ⟨0, by simp, .inl ⟨rfl, rfl⟩⟩
  | true =>
    by_cases h1 : m < 1
    · exact ⟨0, by simp [show ¬ 1 ≤ m by omega], .inr (.inl ⟨rfl, h1, rfl⟩)⟩
    · by_cases h2 : 1099511627776 < m
      · exact ⟨0, by simp [show ¬ m ≤ 1099511627776 by omega], .inr (.inr (.inl ⟨rfl, h1, h2, rfl⟩))⟩
      · exact ⟨m, by simp [show 1 ≤ m by omega, show m ≤ 1099511627776 by omega], .inr (.inr (.inr ⟨rfl, h1, h2, rfl⟩))⟩

set_option maxHeartbeats 16000000 in
theorem back_long (host : List UInt8) (c : Cp) (w : World) (hh : 5000 < host.length) (hw : LW w) :
    Calls Tryd.prog 7 #[sv host, ofV c] w fun e w' => e = .returned (.bool true) ∧ Below w.heap.size w w' := by
  have HW := Lib.hid hw
  have hd : decide ((host.length : Int) > 5000) = true := decide_eq_true (by omega)
  clear hw hh
  unfold ofV cpL
  go_enter Tryd.func7, Tryd.ntmps7
  go_wp2_with fail
  refine (works_any _ (HW.out.below (below_alloc _ _))).mono ?_
  rintro e w1 ⟨rfl, hb⟩
  have HB := Lib.hid (show BL w w1 from ((BL.start HW.out).alloc _).step hb)
  clear hb
  go_wp2_with fail
  refine (works_any _ HB.out.lw).mono ?_
  rintro e w2 ⟨rfl, hb⟩
  have HB2 := Lib.hid (HB.out.step hb)
  clear hb
  go_wp2_with fail
  go_ret
  exact ⟨rfl, HB2.out.below⟩

set_option maxHeartbeats 16000000 in
theorem back_short (host : List UInt8) (c : Cp) (w : World) (hh : ¬ 5000 < host.length) (h0 : -9223372036854775808 ≤ c.mo) (h1 : c.mo ≤ 9223372036854775807) (hw : LW w) :
    Calls Tryd.prog 7 #[sv host, ofV c] w fun e w' => e = .returned (.bool true) ∧ Below w.heap.size w w' := by
  have HW := Lib.hid hw
  have hd : decide ((host.length : Int) > 5000) = false := decide_eq_false (by omega)
  have HH := Lib.hid (show host.length ≤ 1000000 by omega)
  have HT := Lib.hid (fun (W : World) (hl : LW W) => texts_any host c W HH.out h0 h1 hl)
  have HX := Lib.hid (show ∀ x ∈ textsR host c, x.length ≤ 1000000 from fun x hx => by
    rcases List.mem_cons.1 hx with rfl | hx
    · exact HH.out
    · exact six_len c x hx)
  obtain ⟨xs, hxs⟩ : ∃ xs, xs = textsR host c := ⟨_, rfl⟩
  have HOF := Lib.hid (of_texts host c)
  have hlen : 0 < xs.length := by rw [hxs]; simp [textsR]
  have HHD := Lib.hid (show xs[0]'hlen = host by subst hxs; rfl)
  rw [← hxs] at HT HX HOF
  have HXS := Lib.hid hxs
  clear hw hh hxs
  obtain ⟨s0, s1, s2, s3, s4, s5, m⟩ := c
  obtain ⟨m', hbk, hcase⟩ := back_cases s0 s1 s2 s3 s4 s5 m
  rw [hbk] at HOF
  clear hbk h0 h1
  have hblk := heap_alloc_new w (.cells (cpL ⟨s0, s1, s2, s3, s4, s5, m⟩) 50)
  have HBK := Lib.hid hblk
  clear hblk
  unfold ofV cpL
  go_enter Tryd.func7, Tryd.ntmps7
  go_wp2_with fail
  refine (works_any _ (HW.out.below (below_alloc _ _))).mono ?_
  rintro e w1 ⟨rfl, hb⟩
  have HB := Lib.hid (show BL w w1 from ((BL.start HW.out).alloc _).step hb)
  have hcb : CB w1 w.heap.size ⟨s0, s1, s2, s3, s4, s5, m⟩ := blk_below HBK.out hb
  obtain ⟨c0, c1, c2, c3, c4, c5, c6⟩ := cbC hcb
  have HK := Lib.hid (lt_of_blk hcb)
  have hlt : w.heap.size < w1.heap.size := HK.out
  clear hb hcb
  rcases hcase with ⟨rfl, rfl⟩ | ⟨rfl, hm1, rfl⟩ | ⟨rfl, hm1, hm2, rfl⟩ | ⟨rfl, hm1, hm2, rfl⟩
  · go_wp2_with fail
    refine (HT.out _ (HB.out.alloc _).lw).mono ?_
    rintro e w2 ⟨v, rfl, hb, hown⟩
    obtain ⟨g, cap, rfl, hg0, hgl⟩ := hown.form (by omega)
    have hkb := blk_below (heap_alloc_new w1 _) hb
    have HB2 := Lib.hid ((HB.out.alloc _).step hb)
    have HC := Lib.hid (show ∀ W, ST w2 W → W.cell? ⟨g, 0, none⟩ = some (sv host) ∧ W.cell? ⟨w1.heap.size, 0, none⟩ = some (.bool s0) ∧ W.cell? ⟨w1.heap.size, 1, none⟩ = some (.bool s1) ∧ W.cell? ⟨w1.heap.size, 2, none⟩ = some (.bool s2) ∧ W.cell? ⟨w1.heap.size, 3, none⟩ = some (.bool s3) ∧ W.cell? ⟨w1.heap.size, 4, none⟩ = some (.bool s4) ∧ W.cell? ⟨w1.heap.size, 5, none⟩ = some (.bool false) ∧ W.cell? ⟨w1.heap.size, 6, none⟩ = some (.int .i64 0) from fun W h => by
      obtain ⟨_, _, _, _, _, hc, _⟩ := owns_cells hown
      have h1 := hc 0 hlen
      rw [HHD.out] at h1
      have hk := blk_below hkb h
      exact ⟨(Below.cell h (p := ⟨g, 0, none⟩) hgl).trans h1, by rw [cellAt hk]; rfl, by rw [cellAt hk]; rfl, by rw [cellAt hk]; rfl, by rw [cellAt hk]; rfl, by rw [cellAt hk]; rfl, by rw [cellAt hk]; rfl, by rw [cellAt hk]; rfl⟩)
    have HO := Lib.hid (show ∀ W, ST w2 W → Calls Tryd.prog 29 #[.agg #[.int .i64 250, .string { data := #[] }, .slice (some ⟨g, 0, none⟩) xs.length cap]] W fun e w' => e = .returned (.agg #[.bool s0, .bool s1, .bool s2, .bool s3, .bool s4, .bool false, .int .i64 0]) ∧ ST w2 w' from fun W h => by
      have := of_any 250 { data := #[] } _ xs W ((owns_sw hown).below h) HX.out ((HB2.out).step h).lw
      rw [HOF.out] at this
      exact this.mono fun _ _ ⟨h1, h2⟩ => ⟨h1, Below.trans h (h2.mono (Below.size h))⟩)
    have hs0 : ST w2 w2 := Below.refl _ _
    have hc0 := HC.out _ hs0
    clear hb hown hkb c0 c1 c2 c3 c4 c5 c6 hlt
    go_wp2_with fail
    go_region_held3 (fun W => ST w2 W ∧ W.cell? ⟨g, 0, none⟩ = some (sv host) ∧ W.cell? ⟨w1.heap.size, 0, none⟩ = some (.bool s0) ∧ W.cell? ⟨w1.heap.size, 1, none⟩ = some (.bool s1) ∧ W.cell? ⟨w1.heap.size, 2, none⟩ = some (.bool s2) ∧ W.cell? ⟨w1.heap.size, 3, none⟩ = some (.bool s3) ∧ W.cell? ⟨w1.heap.size, 4, none⟩ = some (.bool s4) ∧ W.cell? ⟨w1.heap.size, 5, none⟩ = some (.bool false) ∧ W.cell? ⟨w1.heap.size, 6, none⟩ = some (.int .i64 0))
      (first | exact ⟨by assumption, HC.out _ (by assumption)⟩ | exact ⟨ST.drew (by assumption), HC.out _ (ST.drew (by assumption))⟩)
      (first
        | (go_at_call 29; with_reducible refine (HO.out _ (by first | assumption | exact ST.drew (by assumption))).mono ?_; rintro e1 w8 ⟨rfl, hR⟩))
    all_goals (try go_wp2_with fail)
    all_goals (go_ret; exact ⟨rfl, HB2.out.below.trans (Below.mono (by show ST w2 _; assumption) HB2.out.below.size)⟩)
  · go_wp2_with fail
    refine (HT.out _ (HB.out.alloc _).lw).mono ?_
    rintro e w2 ⟨v, rfl, hb, hown⟩
    obtain ⟨g, cap, rfl, hg0, hgl⟩ := hown.form (by omega)
    have hkb := blk_below (heap_alloc_new w1 _) hb
    have HB2 := Lib.hid ((HB.out.alloc _).step hb)
    have HC := Lib.hid (show ∀ W, ST w2 W → W.cell? ⟨g, 0, none⟩ = some (sv host) ∧ W.cell? ⟨w1.heap.size, 0, none⟩ = some (.bool s0) ∧ W.cell? ⟨w1.heap.size, 1, none⟩ = some (.bool s1) ∧ W.cell? ⟨w1.heap.size, 2, none⟩ = some (.bool s2) ∧ W.cell? ⟨w1.heap.size, 3, none⟩ = some (.bool s3) ∧ W.cell? ⟨w1.heap.size, 4, none⟩ = some (.bool s4) ∧ W.cell? ⟨w1.heap.size, 5, none⟩ = some (.bool true) ∧ W.cell? ⟨w1.heap.size, 6, none⟩ = some (.int .i64 0) from fun W h => by
      obtain ⟨_, _, _, _, _, hc, _⟩ := owns_cells hown
      have h1 := hc 0 hlen
      rw [HHD.out] at h1
      have hk := blk_below hkb h
      exact ⟨(Below.cell h (p := ⟨g, 0, none⟩) hgl).trans h1, by rw [cellAt hk]; rfl, by rw [cellAt hk]; rfl, by rw [cellAt hk]; rfl, by rw [cellAt hk]; rfl, by rw [cellAt hk]; rfl, by rw [cellAt hk]; rfl, by rw [cellAt hk]; rfl⟩)
    have HO := Lib.hid (show ∀ W, ST w2 W → Calls Tryd.prog 29 #[.agg #[.int .i64 250, .string { data := #[] }, .slice (some ⟨g, 0, none⟩) xs.length cap]] W fun e w' => e = .returned (.agg #[.bool s0, .bool s1, .bool s2, .bool s3, .bool s4, .bool true, .int .i64 0]) ∧ ST w2 w' from fun W h => by
      have := of_any 250 { data := #[] } _ xs W ((owns_sw hown).below h) HX.out ((HB2.out).step h).lw
      rw [HOF.out] at this
      exact this.mono fun _ _ ⟨h1, h2⟩ => ⟨h1, Below.trans h (h2.mono (Below.size h))⟩)
    have hs0 : ST w2 w2 := Below.refl _ _
    have hc0 := HC.out _ hs0
    clear hb hown hkb c0 c1 c2 c3 c4 c5 c6 hlt
    go_wp2_with fail
    go_region_held3 (fun W => ST w2 W ∧ W.cell? ⟨g, 0, none⟩ = some (sv host) ∧ W.cell? ⟨w1.heap.size, 0, none⟩ = some (.bool s0) ∧ W.cell? ⟨w1.heap.size, 1, none⟩ = some (.bool s1) ∧ W.cell? ⟨w1.heap.size, 2, none⟩ = some (.bool s2) ∧ W.cell? ⟨w1.heap.size, 3, none⟩ = some (.bool s3) ∧ W.cell? ⟨w1.heap.size, 4, none⟩ = some (.bool s4) ∧ W.cell? ⟨w1.heap.size, 5, none⟩ = some (.bool true) ∧ W.cell? ⟨w1.heap.size, 6, none⟩ = some (.int .i64 0))
      (first | exact ⟨by assumption, HC.out _ (by assumption)⟩ | exact ⟨ST.drew (by assumption), HC.out _ (ST.drew (by assumption))⟩)
      (first
        | (go_at_call 29; with_reducible refine (HO.out _ (by first | assumption | exact ST.drew (by assumption))).mono ?_; rintro e1 w8 ⟨rfl, hR⟩))
    all_goals (try go_wp2_with fail)
    all_goals (go_ret; exact ⟨rfl, HB2.out.below.trans (Below.mono (by show ST w2 _; assumption) HB2.out.below.size)⟩)
  · go_wp2_with fail
    refine (HT.out _ (HB.out.alloc _).lw).mono ?_
    rintro e w2 ⟨v, rfl, hb, hown⟩
    obtain ⟨g, cap, rfl, hg0, hgl⟩ := hown.form (by omega)
    have hkb := blk_below (heap_alloc_new w1 _) hb
    have HB2 := Lib.hid ((HB.out.alloc _).step hb)
    have HC := Lib.hid (show ∀ W, ST w2 W → W.cell? ⟨g, 0, none⟩ = some (sv host) ∧ W.cell? ⟨w1.heap.size, 0, none⟩ = some (.bool s0) ∧ W.cell? ⟨w1.heap.size, 1, none⟩ = some (.bool s1) ∧ W.cell? ⟨w1.heap.size, 2, none⟩ = some (.bool s2) ∧ W.cell? ⟨w1.heap.size, 3, none⟩ = some (.bool s3) ∧ W.cell? ⟨w1.heap.size, 4, none⟩ = some (.bool s4) ∧ W.cell? ⟨w1.heap.size, 5, none⟩ = some (.bool true) ∧ W.cell? ⟨w1.heap.size, 6, none⟩ = some (.int .i64 0) from fun W h => by
      obtain ⟨_, _, _, _, _, hc, _⟩ := owns_cells hown
      have h1 := hc 0 hlen
      rw [HHD.out] at h1
      have hk := blk_below hkb h
      exact ⟨(Below.cell h (p := ⟨g, 0, none⟩) hgl).trans h1, by rw [cellAt hk]; rfl, by rw [cellAt hk]; rfl, by rw [cellAt hk]; rfl, by rw [cellAt hk]; rfl, by rw [cellAt hk]; rfl, by rw [cellAt hk]; rfl, by rw [cellAt hk]; rfl⟩)
    have HO := Lib.hid (show ∀ W, ST w2 W → Calls Tryd.prog 29 #[.agg #[.int .i64 250, .string { data := #[] }, .slice (some ⟨g, 0, none⟩) xs.length cap]] W fun e w' => e = .returned (.agg #[.bool s0, .bool s1, .bool s2, .bool s3, .bool s4, .bool true, .int .i64 0]) ∧ ST w2 w' from fun W h => by
      have := of_any 250 { data := #[] } _ xs W ((owns_sw hown).below h) HX.out ((HB2.out).step h).lw
      rw [HOF.out] at this
      exact this.mono fun _ _ ⟨h1, h2⟩ => ⟨h1, Below.trans h (h2.mono (Below.size h))⟩)
    have hs0 : ST w2 w2 := Below.refl _ _
    have hc0 := HC.out _ hs0
    clear hb hown hkb c0 c1 c2 c3 c4 c5 c6 hlt
    go_wp2_with fail
    go_region_held3 (fun W => ST w2 W ∧ W.cell? ⟨g, 0, none⟩ = some (sv host) ∧ W.cell? ⟨w1.heap.size, 0, none⟩ = some (.bool s0) ∧ W.cell? ⟨w1.heap.size, 1, none⟩ = some (.bool s1) ∧ W.cell? ⟨w1.heap.size, 2, none⟩ = some (.bool s2) ∧ W.cell? ⟨w1.heap.size, 3, none⟩ = some (.bool s3) ∧ W.cell? ⟨w1.heap.size, 4, none⟩ = some (.bool s4) ∧ W.cell? ⟨w1.heap.size, 5, none⟩ = some (.bool true) ∧ W.cell? ⟨w1.heap.size, 6, none⟩ = some (.int .i64 0))
      (first | exact ⟨by assumption, HC.out _ (by assumption)⟩ | exact ⟨ST.drew (by assumption), HC.out _ (ST.drew (by assumption))⟩)
      (first
        | (go_at_call 29; with_reducible refine (HO.out _ (by first | assumption | exact ST.drew (by assumption))).mono ?_; rintro e1 w8 ⟨rfl, hR⟩))
    all_goals (try go_wp2_with fail)
    all_goals (go_ret; exact ⟨rfl, HB2.out.below.trans (Below.mono (by show ST w2 _; assumption) HB2.out.below.size)⟩)
  · go_wp2_with fail
    refine (HT.out _ (HB.out.alloc _).lw).mono ?_
    rintro e w2 ⟨v, rfl, hb, hown⟩
    obtain ⟨g, cap, rfl, hg0, hgl⟩ := hown.form (by omega)
    have hkb := blk_below (heap_alloc_new w1 _) hb
    have HB2 := Lib.hid ((HB.out.alloc _).step hb)
    have HC := Lib.hid (show ∀ W, ST w2 W → W.cell? ⟨g, 0, none⟩ = some (sv host) ∧ W.cell? ⟨w1.heap.size, 0, none⟩ = some (.bool s0) ∧ W.cell? ⟨w1.heap.size, 1, none⟩ = some (.bool s1) ∧ W.cell? ⟨w1.heap.size, 2, none⟩ = some (.bool s2) ∧ W.cell? ⟨w1.heap.size, 3, none⟩ = some (.bool s3) ∧ W.cell? ⟨w1.heap.size, 4, none⟩ = some (.bool s4) ∧ W.cell? ⟨w1.heap.size, 5, none⟩ = some (.bool true) ∧ W.cell? ⟨w1.heap.size, 6, none⟩ = some (.int .i64 m') from fun W h => by
      obtain ⟨_, _, _, _, _, hc, _⟩ := owns_cells hown
      have h1 := hc 0 hlen
      rw [HHD.out] at h1
      have hk := blk_below hkb h
      exact ⟨(Below.cell h (p := ⟨g, 0, none⟩) hgl).trans h1, by rw [cellAt hk]; rfl, by rw [cellAt hk]; rfl, by rw [cellAt hk]; rfl, by rw [cellAt hk]; rfl, by rw [cellAt hk]; rfl, by rw [cellAt hk]; rfl, by rw [cellAt hk]; rfl⟩)
    have HO := Lib.hid (show ∀ W, ST w2 W → Calls Tryd.prog 29 #[.agg #[.int .i64 250, .string { data := #[] }, .slice (some ⟨g, 0, none⟩) xs.length cap]] W fun e w' => e = .returned (.agg #[.bool s0, .bool s1, .bool s2, .bool s3, .bool s4, .bool true, .int .i64 m']) ∧ ST w2 w' from fun W h => by
      have := of_any 250 { data := #[] } _ xs W ((owns_sw hown).below h) HX.out ((HB2.out).step h).lw
      rw [HOF.out] at this
      exact this.mono fun _ _ ⟨h1, h2⟩ => ⟨h1, Below.trans h (h2.mono (Below.size h))⟩)
    have hs0 : ST w2 w2 := Below.refl _ _
    have hc0 := HC.out _ hs0
    clear hb hown hkb c0 c1 c2 c3 c4 c5 c6 hlt
    go_wp2_with fail
    go_region_held3 (fun W => ST w2 W ∧ W.cell? ⟨g, 0, none⟩ = some (sv host) ∧ W.cell? ⟨w1.heap.size, 0, none⟩ = some (.bool s0) ∧ W.cell? ⟨w1.heap.size, 1, none⟩ = some (.bool s1) ∧ W.cell? ⟨w1.heap.size, 2, none⟩ = some (.bool s2) ∧ W.cell? ⟨w1.heap.size, 3, none⟩ = some (.bool s3) ∧ W.cell? ⟨w1.heap.size, 4, none⟩ = some (.bool s4) ∧ W.cell? ⟨w1.heap.size, 5, none⟩ = some (.bool true) ∧ W.cell? ⟨w1.heap.size, 6, none⟩ = some (.int .i64 m'))
      (first | exact ⟨by assumption, HC.out _ (by assumption)⟩ | exact ⟨ST.drew (by assumption), HC.out _ (ST.drew (by assumption))⟩)
      (first
        | (go_at_call 29; with_reducible refine (HO.out _ (by first | assumption | exact ST.drew (by assumption))).mono ?_; rintro e1 w8 ⟨rfl, hR⟩))
    all_goals (try go_wp2_with fail)
    all_goals (go_ret; exact ⟨rfl, HB2.out.below.trans (Below.mono (by show ST w2 _; assumption) HB2.out.below.size)⟩)

theorem capsBack_walk (a0 : ByteArray) (c1 : Cp) (z0 : a0.data.size ≤ 140737488351232) (m1 : -9223372036854775808 ≤ c1.mo ∧ c1.mo ≤ 9223372036854775807) {w : World} (hw : LW w) :
    Calls Tryd.prog 7 #[.string a0, ofV c1] w fun e w' => e = .returned (.bool true) ∧ Below w.heap.size w w' := by
  obtain ⟨l, rfl, _⟩ := to_str a0
  by_cases h : 5000 < l.length
  · exact back_long l c1 w h hw
  · exact back_short l c1 w h m1.1 m1.2 hw
end Go.Proofs.YtanfonpbnamjmaaDoor
