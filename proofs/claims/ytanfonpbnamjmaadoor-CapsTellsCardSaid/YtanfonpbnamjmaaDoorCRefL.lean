/-
  The reference's line.
-/
import Derived.Test.YtanfonpbnamjmaaDoorCRef
namespace Go.Proofs.YtanfonpbnamjmaaDoor
open Go Go.RowKit Go.Shelf
set_option maxRecDepth 100000

theorem run_slice_both (s : List UInt8) (i j : Nat) (hi : i ≤ j) (hj : j ≤ s.length) (w : World) :
    (Instr.slice 9 (sv s) (some (.int .i64 (i : Int))) (some (.int .i64 (j : Int))) none).run Tryd.prog w = .ok (.string ((str s).extract i j)) w := by
  have hji : (i : Int) ≤ (j : Int) := by omega
  have hjs : (j : Int) ≤ (s.length : Int) := by omega
  go_simp
/-- What stands between the first byte and the last one. -/
theorem run_slice_to (s a : List UInt8) (n : Nat) (h : n ≤ s.length) (E : (str s).extract 0 n = str a) (w : World) :
    (Instr.slice 9 (sv s) none (some (.int .i64 (n : Int))) none).run Tryd.prog w = .ok (sv a) w := by
  have hjs : (n : Int) ≤ (s.length : Int) := by omega
  go_simp
theorem run_slice_from (s b : List UInt8) (n : Nat) (h : n ≤ s.length) (E : (str s).extract n s.length = str b) (w : World) :
    (Instr.slice 9 (sv s) (some (.int .i64 (n : Int))) none none).run Tryd.prog w = .ok (sv b) w := by
  have hjs : (n : Int) ≤ (s.length : Int) := by omega
  go_simp

def fldC (c : Cp) : Nat → Cp
  | 0 => { c with st := true }
  | 1 => { c with pi := true }
  | 2 => { c with rq := true }
  | 3 => { c with ds := true }
  | 4 => { c with eb := true }
  | _ => { c with sz := true }
theorem line_word (c : Cp) {t : List UInt8} {i : Nat} (h : (t, i) ∈ [(wST, 0), (wPI, 1), (wRQ, 2), (wDS, 3), (wEB, 4), (wSZ, 5)]) : setC c (partsR t).1 (partsR t).2 = fldC c i := by
  simp only [List.mem_cons, Prod.mk.injEq, List.mem_nil_iff, or_false] at h
  rcases h with ⟨rfl, rfl⟩ | ⟨rfl, rfl⟩ | ⟨rfl, rfl⟩ | ⟨rfl, rfl⟩ | ⟨rfl, rfl⟩ | ⟨rfl, rfl⟩
  · rfl
  · rfl
  · rfl
  · rfl
  · rfl
  · show ({ c with sz := true, mo := if c.mo = 0 then 0 else c.mo } : Cp) = { c with sz := true }
    by_cases hz : c.mo = 0
    · rw [if_pos hz]; rw [← hz]
    · rw [if_neg hz]
theorem line_none (c : Cp) {t : List UInt8} (h : isWord t = false) (hp : sizedB t = false) : setC c (partsR t).1 (partsR t).2 = c := by
  unfold partsR
  rw [hp]
  exact setC_noword h
theorem line_size (c : Cp) {t : List UInt8} (hp : sizedB t = true) : setC c (partsR t).1 (partsR t).2 = { c with sz := true, mo := if c.mo = 0 then (numR (t.drop 5) topN).1 else c.mo } := by
  unfold partsR
  rw [hp]
  rfl
theorem pre_take (t : List UInt8) (h : 5 ≤ t.length) : wSB.isPrefixOf t = (t.take 5 == wSB) := by
  rw [Bool.eq_iff_iff, List.isPrefixOf_iff_prefix, beq_iff_eq]
  constructor
  · intro hp
    exact (List.prefix_iff_eq_take.1 hp).symm
  · intro hp
    rw [← hp]
    exact List.take_prefix _ _
theorem pre_short (t : List UInt8) (h : t.length < 5) : wSB.isPrefixOf t = false := by
  cases hp : wSB.isPrefixOf t with
  | false => rfl
  | true =>
    have := (List.isPrefixOf_iff_prefix.1 hp).length_le
    simp [wSB] at this
    omega
theorem noword_eqs {t : List UInt8} (h : isWord t = false) : (t == [83, 84, 65, 82, 84, 84, 76, 83]) = false ∧ (t == [80, 73, 80, 69, 76, 73, 78, 73, 78, 71]) = false ∧ (t == [82, 69, 81, 85, 73, 82, 69, 84, 76, 83]) = false ∧ (t == [68, 83, 78]) = false ∧ (t == [56, 66, 73, 84, 77, 73, 77, 69]) = false ∧ (t == [83, 73, 90, 69]) = false := by
  unfold isWord funF at h
  refine ⟨?_, ?_, ?_, ?_, ?_, ?_⟩ <;>
  · rw [beq_eq_false_iff_ne]
    rintro rfl
    revert h
    decide
theorem word_is {t : List UInt8} (h : isWord t = true) : t = wST ∨ t = wPI ∨ t = wRQ ∨ t = wDS ∨ t = wEB ∨ t = wSZ := by
  unfold isWord funF at h
  by_cases h1 : t = wST
  · exact .inl h1
  · by_cases h2 : t = wPI
    · exact .inr (.inl h2)
    · by_cases h3 : t = wRQ
      · exact .inr (.inr (.inl h3))
      · by_cases h4 : t = wDS
        · exact .inr (.inr (.inr (.inl h4)))
        · by_cases h5 : t = wEB
          · exact .inr (.inr (.inr (.inr (.inl h5))))
          · by_cases h6 : t = wSZ
            · exact .inr (.inr (.inr (.inr (.inr h6))))
            · simp [h1, h2, h3, h4, h5, h6] at h

/-- What line holds behind great. -/
structure LnI (w : World) (c : Cp) (W : World) : Prop where
  b : Below w.heap.size w W
  cb : CB5 W w.heap.size c
  res : CB5 W (w.heap.size + 1) cp0
theorem ln_start {w W : World} {c : Cp} (hb : Below (w.heap.size + 1 + 1) ((w.alloc (.cells (cpL c) 55)).alloc (.cells (cpL cp0) 55)) W) : LnI w c W := by
  have h1 := heap_alloc_new w (.cells (cpL c) 55)
  have h2 := heap_alloc_new (w.alloc (.cells (cpL c) 55)) (.cells (cpL cp0) 55)
  rw [World.size_alloc] at h2
  have h1' := (Lib.alloc_old _ (.cells (cpL cp0) 55) _ (lt_of_blk h1)).trans h1
  exact ⟨(((Below.refl _ w).alloc (Nat.le_refl _) _).alloc (by simp) _).trans (hb.mono (by omega)), (hb.block _ (by omega)).trans h1', (hb.block _ (by omega)).trans h2⟩
theorem LnI.set {w W : World} {c c' : Cp} (h : LnI w c W) {i : Nat} {x : Value} (hx : (cpL c).setIfInBounds i x = cpL c') : LnI w c' (W.setCell ⟨w.heap.size, i, none⟩ x) :=
  ⟨h.b.setCell (p := ⟨w.heap.size, i, none⟩) (Nat.le_refl _) _, by unfold CB5; rw [← hx]; exact blk_set h.cb i x, (Below.heap_setCell _ _ _ _ (by simp)).trans h.res⟩
/-- The end: what was loaded is stored in the result. -/
theorem LnI.fin {w W : World} {c : Cp} (h : LnI w c W) :
    CB5 (((((((W.setCell ⟨w.heap.size + 1, 0, none⟩ (.bool c.st)).setCell ⟨w.heap.size + 1, 1, none⟩ (.bool c.pi)).setCell ⟨w.heap.size + 1, 2, none⟩ (.bool c.rq)).setCell ⟨w.heap.size + 1, 3, none⟩ (.bool c.ds)).setCell ⟨w.heap.size + 1, 4, none⟩ (.bool c.eb)).setCell ⟨w.heap.size + 1, 5, none⟩ (.bool c.sz)).setCell ⟨w.heap.size + 1, 6, none⟩ (.int .i64 c.mo)) (w.heap.size + 1) c ∧
    Below w.heap.size w (((((((W.setCell ⟨w.heap.size + 1, 0, none⟩ (.bool c.st)).setCell ⟨w.heap.size + 1, 1, none⟩ (.bool c.pi)).setCell ⟨w.heap.size + 1, 2, none⟩ (.bool c.rq)).setCell ⟨w.heap.size + 1, 3, none⟩ (.bool c.ds)).setCell ⟨w.heap.size + 1, 4, none⟩ (.bool c.eb)).setCell ⟨w.heap.size + 1, 5, none⟩ (.bool c.sz)).setCell ⟨w.heap.size + 1, 6, none⟩ (.int .i64 c.mo)) :=
  seven5 (w := w) (c := c) h.res h.b (by omega)

theorem bdy5 {Q : Ending → World → Prop} {w W' : World} {c : Cp} {tmps : Array Value} (hp : tmps.getD 4 undef = .pointer (some ⟨w.heap.size + 1, 0, none⟩)) (h : CB5 W' (w.heap.size + 1) c) (hq : Q (.returned (ofV c)) W') : bodyPost Tryd.prog Tryd.f65 Q .ret { tmps := tmps, defers := [] } W' :=
  bodyPost_ret (v := ofV c) (results_cell_row (p := 4) (fr := (0, 0)) Tryd.results65 _ _ (w.heap.size + 1) 55 _ _ hp h Tryd.underlying55 rfl (by kernel_rfl)) rfl hq

set_option maxHeartbeats 16000000 in
theorem rline_any (c : Cp) (s : List UInt8) (w : World) (hs : s.length ≤ 1000000) : Calls Tryd.prog 65 #[ofV c, sv s] w fun e w' => e = .returned (ofV (lineC c s)) ∧ Below w.heap.size w w' := by
  have HG := Lib.hid (fun W => rgreat_any s W hs)
  obtain ⟨t, ht⟩ : ∃ t, t = greatL s := ⟨_, rfl⟩
  have htl : t.length ≤ 1000000 := by rw [ht, greatL_len]; exact hs
  have HL := Lib.hid (show lineC c s = setC c (partsR t).1 (partsR t).2 by rw [ht]; rfl)
  rw [← ht] at HG
  clear ht
  obtain ⟨a0, a1, a2, a3, a4, a5, a6⟩ := c
  obtain ⟨cc, hcc⟩ : ∃ cc, cc = setC ⟨a0, a1, a2, a3, a4, a5, a6⟩ (partsR t).1 (partsR t).2 := ⟨_, rfl⟩
  rw [HL.out, ← hcc]
  have HCC := Lib.hid hcc
  clear hcc HL
  unfold ofV cpL
  go_enter Tryd.func65, Tryd.ntmps65
  go_wp2_with fail
  refine (HG.out _).mono ?_
  rintro e w1 ⟨rfl, hb⟩
  have hi : LnI w ⟨a0, a1, a2, a3, a4, a5, a6⟩ w1 := ln_start (by rw [World.size_alloc, World.size_alloc] at hb; exact hb)
  obtain ⟨c0, c1, c2, c3, c4, c5, c6⟩ := cbC5 hi.cb
  obtain ⟨d0, d1, d2, d3, d4, d5, d6⟩ := cbC5 hi.res
  have e0 := freeAt hi.cb 0; have e1 := freeAt hi.cb 1; have e2 := freeAt hi.cb 2; have e3 := freeAt hi.cb 3; have e4 := freeAt hi.cb 4; have e5 := freeAt hi.cb 5; have e6 := freeAt hi.cb 6
  have f0 := freeAt hi.res 0; have f1 := freeAt hi.res 1; have f2 := freeAt hi.res 2; have f3 := freeAt hi.res 3; have f4 := freeAt hi.res 4; have f5 := freeAt hi.res 5; have f6 := freeAt hi.res 6
  have HI := Lib.hid hi
  clear hb hi
  cases hw : isWord t with
  | true =>
    rcases word_is hw with rfl | rfl | rfl | rfl | rfl | rfl
    · have HS := Lib.hid (show cc = ⟨true, a1, a2, a3, a4, a5, a6⟩ from HCC.out.trans (line_word _ (i := 0) (by simp)))
      have HF := Lib.hid (LnI.fin (HI.out.set (c' := ⟨true, a1, a2, a3, a4, a5, a6⟩) (i := 0) (x := .bool true) rfl))
      clear hw
      unfold wST at *
      have hne : (!((str [83, 84, 65, 82, 84, 84, 76, 83]).extract 0 5).toList == [83, 73, 90, 69, 32]) = true := by rw [Lib.toList_data, str_extract]; decide
      go_wp2_with fail
      rw [HS.out]
      exact bdy5 (w := w) rfl HF.out.1 ⟨rfl, HF.out.2⟩
    · have HS := Lib.hid (show cc = ⟨a0, true, a2, a3, a4, a5, a6⟩ from HCC.out.trans (line_word _ (i := 1) (by simp)))
      have HF := Lib.hid (LnI.fin (HI.out.set (c' := ⟨a0, true, a2, a3, a4, a5, a6⟩) (i := 1) (x := .bool true) rfl))
      clear hw
      unfold wPI at *
      have hne : (!((str [80, 73, 80, 69, 76, 73, 78, 73, 78, 71]).extract 0 5).toList == [83, 73, 90, 69, 32]) = true := by rw [Lib.toList_data, str_extract]; decide
      go_wp2_with fail
      rw [HS.out]
      exact bdy5 (w := w) rfl HF.out.1 ⟨rfl, HF.out.2⟩
    · have HS := Lib.hid (show cc = ⟨a0, a1, true, a3, a4, a5, a6⟩ from HCC.out.trans (line_word _ (i := 2) (by simp)))
      have HF := Lib.hid (LnI.fin (HI.out.set (c' := ⟨a0, a1, true, a3, a4, a5, a6⟩) (i := 2) (x := .bool true) rfl))
      clear hw
      unfold wRQ at *
      have hne : (!((str [82, 69, 81, 85, 73, 82, 69, 84, 76, 83]).extract 0 5).toList == [83, 73, 90, 69, 32]) = true := by rw [Lib.toList_data, str_extract]; decide
      go_wp2_with fail
      rw [HS.out]
      exact bdy5 (w := w) rfl HF.out.1 ⟨rfl, HF.out.2⟩
    · have HS := Lib.hid (show cc = ⟨a0, a1, a2, true, a4, a5, a6⟩ from HCC.out.trans (line_word _ (i := 3) (by simp)))
      have HF := Lib.hid (LnI.fin (HI.out.set (c' := ⟨a0, a1, a2, true, a4, a5, a6⟩) (i := 3) (x := .bool true) rfl))
      clear hw
      unfold wDS at *
      go_wp2_with fail
      rw [HS.out]
      exact bdy5 (w := w) rfl HF.out.1 ⟨rfl, HF.out.2⟩
    · have HS := Lib.hid (show cc = ⟨a0, a1, a2, a3, true, a5, a6⟩ from HCC.out.trans (line_word _ (i := 4) (by simp)))
      have HF := Lib.hid (LnI.fin (HI.out.set (c' := ⟨a0, a1, a2, a3, true, a5, a6⟩) (i := 4) (x := .bool true) rfl))
      clear hw
      unfold wEB at *
      have hne : (!((str [56, 66, 73, 84, 77, 73, 77, 69]).extract 0 5).toList == [83, 73, 90, 69, 32]) = true := by rw [Lib.toList_data, str_extract]; decide
      go_wp2_with fail
      rw [HS.out]
      exact bdy5 (w := w) rfl HF.out.1 ⟨rfl, HF.out.2⟩
    · have HS := Lib.hid (show cc = ⟨a0, a1, a2, a3, a4, true, a6⟩ from HCC.out.trans (line_word _ (i := 5) (by simp)))
      have HF := Lib.hid (LnI.fin (HI.out.set (c' := ⟨a0, a1, a2, a3, a4, true, a6⟩) (i := 5) (x := .bool true) rfl))
      clear hw
      unfold wSZ at *
      go_wp2_with fail
      rw [HS.out]
      exact bdy5 (w := w) rfl HF.out.1 ⟨rfl, HF.out.2⟩
  | false =>
    obtain ⟨n1, n2, n3, n4, n5, n6⟩ := noword_eqs hw
    by_cases hlen : t.length < 5
    · have HS := Lib.hid (show cc = ⟨a0, a1, a2, a3, a4, a5, a6⟩ from HCC.out.trans (line_none _ hw (by unfold sizedB; rw [pre_short t hlen]; rfl)))
      have HF := Lib.hid HI.out.fin
      have hd : decide ((t.length : Int) < 5) = true := decide_eq_true (by omega)
      clear hw
      go_wp2_with fail
      rw [HS.out]
      exact bdy5 (w := w) rfl HF.out.1 ⟨rfl, HF.out.2⟩
    · have hd : decide ((t.length : Int) < 5) = false := decide_eq_false (by omega)
      obtain ⟨a, ha⟩ : ∃ a, a = t.take 5 := ⟨_, rfl⟩
      have hsl : ((str t).extract 0 5).toList = a := by rw [Lib.toList_data, str_extract, List.drop_zero, ha]
      have hpre := pre_take t (by omega)
      rw [← ha] at hpre
      cases hp : (a == wSB) with
      | false =>
        have HS := Lib.hid (show cc = ⟨a0, a1, a2, a3, a4, a5, a6⟩ from HCC.out.trans (line_none _ hw (by unfold sizedB; rw [hpre, hp]; rfl)))
        have HF := Lib.hid HI.out.fin
        have hne : (!((str t).extract 0 5).toList == [83, 73, 90, 69, 32]) = true := by rw [hsl, show (a == [83, 73, 90, 69, 32]) = false from hp]; rfl
        clear hw ha hpre hp hsl
        go_wp2_with fail
        rw [HS.out]
        exact bdy5 (w := w) rfl HF.out.1 ⟨rfl, HF.out.2⟩
      | true =>
        have hne : (!((str t).extract 0 5).toList == [83, 73, 90, 69, 32]) = false := by rw [hsl, show (a == [83, 73, 90, 69, 32]) = true from hp]; rfl
        obtain ⟨u, hu⟩ : ∃ u, u = t.drop 5 := ⟨_, rfl⟩
        have hsf : Value.string (str u) = Value.string ((str t).extract 5 t.length) := by rw [str_extract, List.take_of_length_le (by omega), hu]
        have hul : u.length ≤ 1000000 := by rw [hu, List.length_drop]; omega
        have HN := Lib.hid (fun W => rnum_any u topN W hul (by decide) (by decide))
        rw [hsf] at HN
        cases hn : isNumB u with
        | false =>
          have HS := Lib.hid (show cc = ⟨a0, a1, a2, a3, a4, a5, a6⟩ from HCC.out.trans (line_none _ hw (by unfold sizedB; rw [← hu, hn, Bool.and_false])))
          have HF := Lib.hid HI.out.fin
          have hv : numV u topN = .tuple #[.int .i64 0, .int .i64 4] := numV_form u topN hn
          rw [hv] at HN
          clear hw ha hpre hp hsl hsf hu hv hn
          go_wp2_with fail
          refine (HN.out _).mono ?_
          rintro e w' ⟨rfl, rfl⟩
          go_wp2_with fail
          rw [HS.out]
          exact bdy5 (w := w) rfl HF.out.1 ⟨rfl, HF.out.2⟩
        | true =>
          have HS0 := Lib.hid (show cc = { (⟨a0, a1, a2, a3, a4, a5, a6⟩ : Cp) with sz := true, mo := if a6 = 0 then (numR u topN).1 else a6 } from HCC.out.trans ((line_size _ (by unfold sizedB; rw [hpre, hp, ← hu, hn]; rfl)).trans (by rw [← hu])))
          obtain ⟨n, er, hr, hnr⟩ : ∃ n er, numR u topN = (n, er) ∧ (er == 4) = false := by
            unfold numR
            rw [if_pos hn]
            split
            · exact ⟨_, _, rfl, rfl⟩
            · exact ⟨_, _, rfl, rfl⟩
          rw [hr] at HS0
          have hv : numV u topN = .tuple #[.int .i64 n, .int .i64 er] := by unfold numV; rw [hr]
          rw [hv] at HN
          by_cases hz : a6 = 0
          · subst hz
            have HS := Lib.hid (show cc = ⟨a0, a1, a2, a3, a4, true, n⟩ from HS0.out)
            have HF := Lib.hid (LnI.fin ((HI.out.set (c' := ⟨a0, a1, a2, a3, a4, true, 0⟩) (i := 5) (x := .bool true) rfl).set (c' := ⟨a0, a1, a2, a3, a4, true, n⟩) (i := 6) (x := .int .i64 n) rfl))
            clear hw ha hpre hp hsl hsf hu hv hn hr HS0
            go_wp2_with fail
            refine (HN.out _).mono ?_
            rintro e w' ⟨rfl, rfl⟩
            go_wp2_with fail
            rw [HS.out]
            exact bdy5 (w := w) rfl HF.out.1 ⟨rfl, HF.out.2⟩
          · have HS := Lib.hid (show cc = ⟨a0, a1, a2, a3, a4, true, a6⟩ from HS0.out.trans (by simp only [if_neg hz]))
            have hz' : (a6 == 0) = false := by simpa using hz
            have HF := Lib.hid (LnI.fin (HI.out.set (c' := ⟨a0, a1, a2, a3, a4, true, a6⟩) (i := 5) (x := .bool true) rfl))
            clear hw ha hpre hp hsl hsf hu hv hn hr HS0 hz
            go_wp2_with fail
            refine (HN.out _).mono ?_
            rintro e w' ⟨rfl, rfl⟩
            go_wp2_with fail
            rw [HS.out]
            exact bdy5 (w := w) rfl HF.out.1 ⟨rfl, HF.out.2⟩
end Go.Proofs.YtanfonpbnamjmaaDoor
