/-
  CapsTells' walk: true for any code, any lines, any host, any caps.
-/
import Derived.Deep.RegionHeld3
import Derived.Test.YtanfonpbnamjmaaDoorCMoreC
import Derived.Test.YtanfonpbnamjmaaDoorCROf
import Derived.Test.YtanfonpbnamjmaaDoorCRTexts
namespace Go.Proofs.YtanfonpbnamjmaaDoor
open Go Go.RowKit Go.Shelf
set_option maxRecDepth 100000

/-- A row of one's own, as the block in which it lies. -/
theorem owns_blk {W : World} {B n : Nat} {v : Value} {xs : List (List UInt8)} (h : W.ownsRow B 9 1 v n (xs.map sv)) (hp : 0 < n) :
    ∃ g cap C, v = .slice (some ⟨g, 0, none⟩) n cap ∧ B ≤ g ∧ W.heap[g]? = some (.cells C 9 (0, 0)) ∧ n = xs.length ∧ ∀ j, ∀ h : j < xs.length, C[j]? = some (sv xs[j]) := by
  obtain ⟨h1, h2⟩ := h
  have hn : n = xs.length := by simpa using h1.symm
  rcases h2 with ⟨_, h0⟩ | ⟨g, cap, cur, rfl, hb, hg, hnc, hcm, hsz, ht⟩
  · omega
  · refine ⟨g, cap, cur, rfl, hb, hg, hn, fun k hk => ?_⟩
    have h3 : (cur.toList.take (n * 1))[k]? = cur.toList[k]? := List.getElem?_take_of_lt (by omega)
    rw [ht, List.getElem?_map, List.getElem?_eq_getElem hk] at h3
    rw [← Array.getElem?_toList, ← h3]
    rfl
theorem owns_own {W : World} {B g n cap : Nat} {xs : List (List UInt8)} (h : W.ownsRow B 9 1 (.slice (some ⟨g, 0, none⟩) n cap) n (xs.map sv)) :
    ∃ C, W.heap[g]? = some (.cells C 9 (0, 0)) ∧ B ≤ g ∧ ∀ j, ∀ h : j < xs.length, C[j]? = some (sv xs[j]) := by
  obtain ⟨h1, h2⟩ := h
  have hn : n = xs.length := by simpa using h1.symm
  rcases h2 with ⟨h, _⟩ | ⟨g', cap', cur, e, hb, hg, hnc, hcm, hsz, ht⟩
  · cases h
  · simp only [Value.slice.injEq, Option.some.injEq, Addr.mk.injEq, true_and, and_true] at e
    obtain ⟨rfl, rfl⟩ := e
    refine ⟨cur, hg, hb, fun k hk => ?_⟩
    have h3 : (cur.toList.take (n * 1))[k]? = cur.toList[k]? := List.getElem?_take_of_lt (by omega)
    rw [ht, List.getElem?_map, List.getElem?_eq_getElem hk] at h3
    rw [← Array.getElem?_toList, ← h3]
    rfl

/-- What stands from round to round: the peer's block, the copy of the lines. -/
structure TI (w : World) (k7 : Nat) (c : Cp) (g : Nat) (C : Array Value) (W : World) : Prop where
  bl : BL w W
  cb : CB W k7 c
  own : W.heap[g]? = some (.cells C 9 (0, 0))
theorem TI.below {w W W' : World} {k7 g : Nat} {c : Cp} {C : Array Value} (h : TI w k7 c g C W) (hb : Below W.heap.size W W') : TI w k7 c g C W' :=
  ⟨h.bl.step hb, blk_below h.cb hb, blk_below h.own hb⟩
theorem TI.drew {w W : World} {k7 g : Nat} {c : Cp} {C : Array Value} (h : TI w k7 c g C W) : TI w k7 c g C W.drew := h.below (Below.refl _ _).drew
/-- What stands while the texts are compared, and spoilt behind. -/
structure NI (W0 : World) (gl gw : Nat) (D : Array Value) (ts : List (List UInt8)) (k : Nat) (W : World) : Prop where
  b : Below W0.heap.size W0 W
  up : W0.heap.size ≤ gl ∧ gl ≠ gw
  l : ∃ C, W.heap[gl]? = some (.cells C 9 (0, 0)) ∧ ∀ j, ∀ h : j < ts.length, k ≤ j → C[j]? = some (sv ts[j])
  wn : W.heap[gw]? = some (.cells D 9 (0, 0))
theorem NI.drew {W0 W : World} {gl gw k : Nat} {D : Array Value} {ts : List (List UInt8)} (h : NI W0 gl gw D ts k W) : NI W0 gl gw D ts k W.drew := by
  obtain ⟨C, h1, h2⟩ := h.l
  exact ⟨h.b.drew, h.up, ⟨C, h1, h2⟩, h.wn⟩
theorem NI.spoil {W0 W : World} {gl gw k : Nat} {D : Array Value} {ts : List (List UInt8)} (h : NI W0 gl gw D ts k W) (x : Value) : NI W0 gl gw D ts (k + 1) (W.setCell ⟨gl, k, none⟩ x) := by
  obtain ⟨C, h1, h2⟩ := h.l
  refine ⟨h.b.setCell (p := ⟨gl, k, none⟩) h.up.1 _, h.up, ⟨C.setIfInBounds k x, blk_set h1 k x, fun j hj hk => ?_⟩, (Below.heap_setCell _ _ _ _ (fun e => h.up.2 (by simpa using e.symm))).trans h.wn⟩
  rw [Array.getElem?_setIfInBounds_ne (by omega)]
  exact h2 j hj (by omega)

set_option maxHeartbeats 16000000 in
theorem tells_long (code : Int) (xs : List (List UInt8)) (v : Value) (host : List UInt8) (c3 : Cp) (w : World) (hw : LW w) (hx : SR w v xs) (hn : xs.length ≤ 140737488351232) (hl : ∀ x ∈ xs, x.length ≤ 9223372036854775807) (hb : longB xs = true ∨ (longB xs = false ∧ 5000 < host.length)) :
    Calls Tryd.prog 6 #[.int .i64 code, v, sv host, ofV c3] w fun e w' => e = .returned (.bool true) ∧ Below w.heap.size w w' := by
  have HX := Lib.hid (fun W (h : Below w.heap.size w W) => long_any xs v W (hx.step h) hn hl)
  have HB := Lib.hid ((BL.start hw).alloc (.cells (cpL c3) 50))
  obtain ⟨A, c, rfl, -⟩ := hx
  clear hw hl
  unfold ofV cpL
  rcases hb with hb | ⟨ha, hb⟩
  · rw [hb] at HX
    clear hb
    go_enter Tryd.func6, Tryd.ntmps6
    go_wp2_with fail
    refine (HX.out _ HB.out.below).mono ?_
    rintro e w2 ⟨rfl, rfl⟩
    go_wp2_with fail
    refine (works_any _ HB.out.lw).mono ?_
    rintro e w2 ⟨rfl, hb⟩
    have HB2 := Lib.hid (HB.out.step hb)
    clear hb
    go_wp2_with fail
    go_ret
    exact ⟨rfl, HB2.out.below⟩
  · rw [ha] at HX
    have hd : decide ((host.length : Int) > 5000) = true := decide_eq_true (by omega)
    clear hb ha
    go_enter Tryd.func6, Tryd.ntmps6
    go_wp2_with fail
    refine (HX.out _ HB.out.below).mono ?_
    rintro e w2 ⟨rfl, rfl⟩
    go_wp2_with fail
    refine (works_any _ HB.out.lw).mono ?_
    rintro e w2 ⟨rfl, hb⟩
    have HB2 := Lib.hid (HB.out.step hb)
    clear hb
    go_wp2_with fail
    go_ret
    exact ⟨rfl, HB2.out.below⟩

set_option maxHeartbeats 16000000 in
theorem tells_short (code : Int) (xs : List (List UInt8)) (v : Value) (host : List UInt8) (c3 : Cp) (w : World) (hw : LW w) (hx : SR w v xs) (hn : xs.length ≤ 140737488351232) (hl : ∀ x ∈ xs, x.length ≤ 9223372036854775807) (ha : longB xs = false) (hh : ¬ 5000 < host.length) (h0 : -9223372036854775808 ≤ c3.mo) (h1 : c3.mo ≤ 9223372036854775807) :
    Calls Tryd.prog 6 #[.int .i64 code, v, sv host, ofV c3] w fun e w' => e = .returned (.bool true) ∧ Below w.heap.size w w' := by
  have HX := Lib.hid (fun W (h : Below w.heap.size w W) => long_any xs v W (hx.step h) hn hl)
  have hd : decide ((host.length : Int) > 5000) = false := decide_eq_false (by omega)
  have sx := short_is ha
  rw [ha] at HX
  have HSX := Lib.hid sx
  have hxn := sx.2
  have HRX := Lib.hid hx
  have HT := Lib.hid (fun (W : World) (hl : LW W) => texts_any host c3 W (by omega) h0 h1 hl)
  have HRT := Lib.hid (fun (W : World) => rtexts_any host c3 W h0 h1)
  obtain ⟨ts, hts⟩ : ∃ ts, ts = textsR host c3 := ⟨_, rfl⟩
  have htp : 0 < ts.length := by rw [hts]; simp [textsR]
  have htl : ts.length ≤ 1000 := by
    have ho : ∀ (b : Bool) (t : List UInt8), (opt b t).length ≤ 1 := fun b t => by cases b <;> simp [opt]
    rw [hts]
    unfold textsR sixT
    simp only [List.length_cons, List.length_append]
    have := ho c3.pi wPI; have := ho c3.sz (sizeT c3.mo); have := ho c3.st wST; have := ho c3.rq wRQ; have := ho c3.ds wDS; have := ho c3.eb wEB
    omega
  rw [← hts] at HT HRT
  obtain ⟨cc, hcc⟩ : ∃ cc, cc = ofC code xs := ⟨_, rfl⟩
  have HCC := Lib.hid hcc
  have HB1 := Lib.hid ((BL.start hw).alloc (.cells (cpL c3) 50))
  obtain ⟨k7, hk7⟩ : ∃ k, k = w.heap.size := ⟨_, rfl⟩
  have hcb1 : CB (w.alloc (.cells (cpL c3) 50)) k7 c3 := by rw [hk7]; exact heap_alloc_new w _
  obtain ⟨W1, hW1⟩ : ∃ W1, W1 = w.alloc (.cells (cpL c3) 50) := ⟨_, rfl⟩
  rw [← hW1] at HB1 hcb1
  have HCB1 := Lib.hid hcb1
  have HK7 := Lib.hid hk7
  have HW1 := Lib.hid hW1
  have ho1 := owns_empty_t (base := W1.heap.size) (heap_alloc_new W1 (.cells #[] 9)) (Nat.le_refl _)
  have HO1 := Lib.hid ho1
  have hx' := hx
  obtain ⟨A, c, rfl, hA⟩ := hx'
  have HA := Lib.hid hA
  have hs1 := (HRX.out.step (HB1.out.alloc (.cells #[] 9)).below).src
  have HS1 := Lib.hid hs1
  clear hw hl ha hh sx hx hts hcc hk7 hcb1 hW1 ho1 hs1 hA h0 h1
  unfold ofV cpL
  go_enter Tryd.func6, Tryd.ntmps6
  go_wp2_with fail
  change Calls _ _ _ (w.alloc (.cells (cpL c3) 50)) _
  rw [← HW1.out, ← HK7.out]
  refine (HX.out _ HB1.out.below).mono ?_
  rintro e w2 ⟨rfl, rfl⟩
  go_wp2_with (at_builtin; refine row_app HO1.out rfl HS1.out (by simp) (by omega) _ _ rfl rfl rfl rfl rfl xs.length (by omega) ?_; intro g cap W4 hown hgr; have HB4 := Lib.hid (grown_bl1 hgr HB1.out); have HCB4 := Lib.hid (show CB W4 k7 c3 from (hgr.block k7 (by have := lt_of_blk HCB1.out; simp; omega) (by have := lt_of_blk HCB1.out; simp; omega)).trans ((Lib.alloc_old _ _ _ (lt_of_blk HCB1.out)).trans HCB1.out)); have HO4 := Lib.hid hown; clear hown hgr)
  refine (of_any code _ _ xs W4 (owns_sw HO4.out) HSX.out.1 HB4.out.lw).mono ?_
  rintro e W5 ⟨rfl, hb5⟩
  obtain ⟨C, hC1, -, hC2⟩ := owns_own HO4.out
  have HT5 := Lib.hid ((TI.mk HB4.out HCB4.out hC1 : TI w k7 c3 g C W4).below hb5)
  have HC2 := Lib.hid hC2
  clear hb5 hC1 hC2
  rw [← HCC.out]
  unfold ofV cpL
  go_wp2_with fail
  refine (rof_any code _ _ xs W5 (HRX.out.step HT5.out.bl.below) HSX.out.1 (by omega)).mono ?_
  rintro e W6 ⟨rfl, hb6⟩
  have HT6 := Lib.hid (HT5.out.below hb6)
  clear hb6
  rw [← HCC.out]
  unfold ofV cpL
  go_wp2_with fail
  go_loopw [10, 11, 12, 13] (fun i _ _ _ wr => ∃ j : Nat, j ≤ 2 ∧ i = .int .i64 j ∧ TI w k7 c3 g C wr) (fun i _ _ _ _ => 2 - (intOf i).toNat)
  case atStart => exact ⟨0, by omega, rfl, HT6.out⟩
  case round =>
    obtain ⟨j, hj, rfl, hi⟩ := hrel
    have HI := Lib.hid hi
    by_cases hlt : j < 2
    · obtain ⟨c0, c1, c2, c3', c4, c5, c6⟩ := cbC3 hi.cb
      clear hi
      go_wp2_with fail
      refine (HT.out _ HI.out.bl.lw).mono ?_
      rintro e V1 ⟨v1, rfl, hb1, ho1⟩
      obtain ⟨gl, cl, Cl, rfl, hgl, hbl, -, hcl⟩ := owns_blk ho1 htp
      have hi1 := HI.out.below hb1
      obtain ⟨d0, d1, d2, d3, d4, d5, d6⟩ := cbC3 hi1.cb
      have HI1 := Lib.hid hi1
      have HB1' := Lib.hid hb1
      have HBL := Lib.hid hbl
      have HCL := Lib.hid hcl
      clear ho1 hi1 hb1 hbl hcl c0 c1 c2 c3' c4 c5 c6
      go_wp2_with fail
      refine (HRT.out _).mono ?_
      rintro e V2 ⟨v2, rfl, hb2, ho2⟩
      obtain ⟨gw, cw, D, rfl, hgw, hbw, -, hcw⟩ := owns_blk ho2 htp
      have HN := Lib.hid (show NI wr gl gw D ts 0 V2 from ⟨HB1'.out.trans (hb2.mono HB1'.out.size), ⟨hgl, by have := lt_of_blk HBL.out; omega⟩, ⟨Cl, blk_below HBL.out hb2, fun j hj _ => HCL.out j hj⟩, hbw⟩)
      have HCW := Lib.hid hcw
      clear ho2 hb2 hbw hcw d0 d1 d2 d3 d4 d5 d6
      go_wp2_with fail
      go_loopw [13] (fun i W => ∃ k : Nat, k ≤ ts.length ∧ i = .int .i64 k ∧ NI wr gl gw D ts k W) (fun i _ => ts.length - (intOf i).toNat)
      case atStart => exact ⟨0, by omega, rfl, HN.out⟩
      case round =>
        obtain ⟨k, hk, rfl, hni⟩ := hrel
        have HNI := Lib.hid hni
        by_cases hkl : k < ts.length
        · obtain ⟨C', hC1, hC2⟩ := hni.l
          obtain ⟨s, hs⟩ : ∃ s, s = ts[k] := ⟨_, rfl⟩
          have q1 : wr.cell? ⟨gl, k, none⟩ = some (sv s) := by rw [cellAt hC1, hs]; exact hC2 k hkl (Nat.le_refl _)
          have q2 : wr.cell? ⟨gw, k, none⟩ = some (sv s) := by rw [cellAt hni.wn, hs]; exact HCW.out k hkl
          have f1 := freeAt hC1 k
          clear hC1 hC2 hs hni
          go_wp2_with fail
          go_region
          all_goals (try go_wp2_with fail)
          all_goals go_roundw
          case rel => exact ⟨k + 1, by omega, by go_num, HNI.out.drew.spoil _⟩
          case measure => simp [intOf]; omega
        · obtain rfl : k = ts.length := by omega
          have HT9 := Lib.hid (HI.out.below hni.b)
          clear hni
          go_wp2_with fail
          go_roundw
          case rel => exact ⟨j + 1, by omega, by go_num, HT9.out⟩
          case measure => simp [intOf]; omega
    · obtain rfl : j = 2 := by omega
      clear hi
      go_wp2_with fail
      go_loopw [14] (fun i W => ∃ k : Nat, k ≤ xs.length ∧ i = .int .i64 k ∧ TI w k7 c3 g C W) (fun i _ => xs.length - (intOf i).toNat)
      case atStart => exact ⟨0, by omega, rfl, HI.out⟩
      case round =>
        obtain ⟨k, hk, rfl, hti⟩ := hrel
        have HTI := Lib.hid hti
        by_cases hkl : k < xs.length
        · obtain ⟨b, o, rfl, hbl, hcl⟩ : ∃ b o, A = some ⟨b, o, none⟩ ∧ b < w.heap.size ∧ ∀ k, ∀ h : k < xs.length, w.cell? ⟨b, o + k, none⟩ = some (sv xs[k]) := by
            rcases HA.out with h | h
            · rw [h] at hkl; simp at hkl
            · exact h
          obtain ⟨s, hs⟩ : ∃ s, s = xs[k] := ⟨_, rfl⟩
          have q1 : wr.cell? ⟨g, k, none⟩ = some (sv s) := by rw [cellAt hti.own, hs]; exact HC2.out k hkl
          have q2 : wr.cell? ⟨b, o + k, none⟩ = some (sv s) := by rw [hs]; exact (hti.bl.below.cell (p := ⟨b, o + k, none⟩) hbl).trans (hcl k hkl)
          clear hs hti hcl hbl
          go_wp2_with fail
          go_region
          all_goals (try go_wp2_with fail)
          all_goals go_roundw
          case rel => exact ⟨k + 1, by omega, by go_num, HTI.out.drew⟩
          case measure => simp [intOf]; omega
        · obtain rfl : k = xs.length := by omega
          have HBZ := Lib.hid hti.bl
          clear hti
          go_wp2_with fail
          refine (works_any _ HBZ.out.lw).mono ?_
          rintro e w8 ⟨rfl, hb⟩
          have HB8 := Lib.hid (HBZ.out.step hb)
          clear hb
          go_wp2_with fail
          go_ret
          exact ⟨rfl, HB8.out.below⟩

theorem capsTells_walk (a0 : Int) (A1 : Option Addr) (c1 : Nat) (x1 : List (List UInt8)) (a2 : ByteArray) (c3 : Cp) {w : World} (_w0 : (Lit.int .i64 a0).wf = true)
    (hS1 : SR w (.slice A1 x1.length c1) x1) (hn1 : x1.length ≤ 140737488351232) (hx1 : ∀ x ∈ x1, x.length ≤ 9223372036854775807) (_z2 : a2.data.size ≤ 140737488351232) (m3 : -9223372036854775808 ≤ c3.mo ∧ c3.mo ≤ 9223372036854775807) (hw : LW w) :
    Calls Tryd.prog 6 #[.int .i64 a0, .slice A1 x1.length c1, .string a2, ofV c3] w fun e w' => e = .returned (.bool true) ∧ Below w.heap.size w w' := by
  obtain ⟨l, rfl, _⟩ := to_str a2
  cases ha : longB x1 with
  | true => exact tells_long a0 x1 _ l c3 w hw hS1 hn1 hx1 (.inl ha)
  | false =>
    by_cases h : 5000 < l.length
    · exact tells_long a0 x1 _ l c3 w hw hS1 hn1 hx1 (.inr ⟨ha, h⟩)
    · exact tells_short a0 x1 _ l c3 w hw hS1 hn1 hx1 ha h m3.1 m3.2
end Go.Proofs.YtanfonpbnamjmaaDoor
