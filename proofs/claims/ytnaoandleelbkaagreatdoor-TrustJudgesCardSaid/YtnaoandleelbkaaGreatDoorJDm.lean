/-
  The reference's Decode, plain: it reads what it can, encodes it anew, and compares.
  What the reference's Decode asks and keeps.
-/
import Derived.Test.YtnaoandleelbkaaGreatDoorGPure
import Derived.Test.YtnaoandleelbkaaGreatDoorEWm
import Derived.Test.YtnaoandleelbkaaGreatDoorJRSame
import Derived.Test.YtnaoandleelbkaaGreatDoorERn
import Derived.Test.YtnaoandleelbkaaGreatDoorJWm
namespace Go.Proofs.YtnaoandleelbkaaGreatDoor
set_option linter.unusedSimpArgs false
set_option linter.unusedVariables false
open Go Go.RowKit
set_option maxRecDepth 100000

/-- The value of the first thing; none: no bytes. -/
def headV (s : List UInt8) : List UInt8 := match cutP s with
  | .ok ((_, v), _) => v
  | .er _ => []
/-- The things of a text; none: none. -/
def itemsV (s : List UInt8) : List Tv := match allR s with
  | .ok l => l
  | .er _ => []
def valAt (l : List Tv) (i : Nat) : List UInt8 := (l.getD i pm0).2
/-- The certificate that things tell, whatever they are. -/
def rdC (l : List Tv) : Ct := ⟨headV (valAt l 0), valAt l 1, (itemsV (valAt l 2)).map (·.2), readN (valAt l 3), readN (valAt l 4), valAt l 5 == [255]⟩
theorem headV_put (t : UInt8) (v : List UInt8) (ht : tagB t = true) (hv : v.length ≤ 65535) : headV (putT t v) = v := by
  have := cutP_put t v [] ht hv
  rw [List.append_nil] at this
  unfold headV; rw [this]
theorem rdC_parts {c : Ct} (h : fewB c = true) : rdC (partsC c) = c := by
  obtain ⟨hm, hl⟩ := fewB_iff.1 h
  obtain ⟨⟨_, h1⟩, h2, h3, h4, h5⟩ := mayC_iff.1 hm
  have e1 : headV (putT 4 c.key) = c.key := headV_put 4 c.key tag4 (by omega)
  have e2 : (itemsV (namesL c.names)).map (·.2) = c.names := by
    unfold itemsV namesL
    rw [allR_puts _ (names_good h3), if_pos (by simpa using hl)]
    simp [nameT, Function.comp_def]
  have e3 : readN (intL c.fr) = c.fr := by unfold readN; rw [readB_intL (time_int h4), if_pos rfl]; exact valL_intL (time_int h4)
  have e4 : readN (intL c.un) = c.un := by unfold readN; rw [readB_intL (time_int h5), if_pos rfl]; exact valL_intL (time_int h5)
  unfold rdC valAt partsC
  simp only [List.getD_cons_zero, List.getD_cons_succ, e1, e2, e3, e4, caL_is]
/-- What the first bytes are, of a text that is a certificate's. -/
theorem dec_parts {s : List UInt8} {c : Ct} (h : decO s = some c) : cutP s = .ok ((48, rowC c), []) ∧ allR (rowC c) = .ok (partsC c) ∧ rdC (partsC c) = c := by
  obtain ⟨h1, h2, h3, h4, h5⟩ := decO_some h
  obtain ⟨h6, h7, h8⟩ := encE_zero h3
  have hr := row_le h6
  refine ⟨?_, ?_, rdC_parts h6⟩
  · rw [← h4, h8]
    have := cutP_put 48 (rowC c) [] tag48 (by omega)
    rw [List.append_nil] at this
    exact this
  · rw [show rowC c = putsL (partsC c) from rfl, allR_puts _ (parts_good h6), if_pos (by simp [partsC])]
theorem dec_er1 {s : List UInt8} {e : Nat} (h : cutP s = .er e) : decO s = none := by
  cases hd : decO s with
  | none => rfl
  | some c => rw [(dec_parts hd).1] at h; cases h
theorem dec_er2 {s v r : List UInt8} {t : UInt8} {e : Nat} (h : cutP s = .ok ((t, v), r)) (h2 : allR v = .er e) : decO s = none := by
  cases hd : decO s with
  | none => rfl
  | some c =>
    obtain ⟨a, b, _⟩ := dec_parts hd
    rw [a] at h
    simp only [Rd.ok.injEq, Prod.mk.injEq] at h
    rw [← h.1.2, b] at h2; cases h2
theorem dec_yes {s v r : List UInt8} {t : UInt8} {l : List Tv} (h3 : encE (rdC l) = 0) (h4 : encL (rdC l) = s) : decO s = some (rdC l) ∧ decE s = 0 := by
  rw [← h4]; exact dec_enc h3
theorem dec_no {s v r : List UInt8} {t : UInt8} {l : List Tv} (h : cutP s = .ok ((t, v), r)) (h2 : allR v = .ok l) (h3 : ¬ (encE (rdC l) = 0 ∧ encL (rdC l) = s)) : decO s = none := by
  cases hd : decO s with
  | none => rfl
  | some c =>
    obtain ⟨a, b, d⟩ := dec_parts hd
    rw [a] at h
    simp only [Rd.ok.injEq, Prod.mk.injEq] at h
    rw [← h.1.2, b] at h2
    simp only [Rd.ok.injEq] at h2
    rw [← h2, d] at h3
    obtain ⟨_, _, h5, h6, _⟩ := decO_some hd
    exact absurd ⟨h5, h6⟩ h3
theorem dec_four {s : List UInt8} (hl : ¬ 512 < s.length) (h : decO s = none) : decE s = 4 := by
  unfold decE
  rw [if_neg hl, h]; rfl
theorem dec_forty {s : List UInt8} (hl : 512 < s.length) : decE s = 40 ∧ decO s = none := by
  constructor
  · unfold decE; rw [if_pos hl]
  · unfold decO; rw [if_pos hl]
end Go.Proofs.YtnaoandleelbkaaGreatDoor

namespace Go.Proofs.YtnaoandleelbkaaGreatDoor
set_option linter.unusedSimpArgs false
set_option linter.unusedVariables false
open Go Go.RowKit
set_option maxRecDepth 100000

theorem CQB.zero {W : World} {k : Nat} (h : CQB W k ct0 (.slice none 0 0)) : (W.cell? ⟨k, 0, none⟩ = some (sv []) ∧ W.cell? ⟨k, 1, none⟩ = some (sv []) ∧ W.cell? ⟨k, 2, none⟩ = some (.slice none 0 0) ∧ W.cell? ⟨k, 3, none⟩ = some (.int .i64 0) ∧ W.cell? ⟨k, 4, none⟩ = some (.int .i64 0) ∧ W.cell? ⟨k, 5, none⟩ = some (.bool false)) ∧
    W.frozen? ⟨k, 0, none⟩ = false ∧ W.frozen? ⟨k, 1, none⟩ = false ∧ W.frozen? ⟨k, 2, none⟩ = false ∧ W.frozen? ⟨k, 3, none⟩ = false ∧ W.frozen? ⟨k, 4, none⟩ = false ∧ W.frozen? ⟨k, 5, none⟩ = false :=
  ⟨⟨h.c0, h.c1, h.c2, h.c3, h.c4, h.c5⟩, h.free 0, h.free 1, h.free 2, h.free 3, h.free 4, h.free 5⟩
theorem CQB.put6 {W : World} {k : Nat} {c : Ct} {nv : Value} (h : CQB W k c nv) (d : Ct) (nu : Value) : CQB (st6 W k (sv d.key) (sv d.sig) nu (.int .i64 d.fr) (.int .i64 d.un) (.bool d.ca)) k d nu := filled6 h

theorem CQB.set2 {W : World} {k : Nat} {c : Ct} {nv : Value} (h : CQB W k c nv) (ns : List (List UInt8)) (nu : Value) : CQB (W.setCell ⟨k, 2, none⟩ nu) k { c with names := ns } nu := by
  unfold CQB at h ⊢
  simp [World.setCell, Array.getElem?_modify, h]
theorem CQB.set3 {W : World} {k : Nat} {c : Ct} {nv : Value} (h : CQB W k c nv) (z : Int) : CQB (W.setCell ⟨k, 3, none⟩ (.int .i64 z)) k { c with fr := z } nv := by
  unfold CQB at h ⊢
  simp [World.setCell, Array.getElem?_modify, h]
theorem CQB.set4 {W : World} {k : Nat} {c : Ct} {nv : Value} (h : CQB W k c nv) (z : Int) : CQB (W.setCell ⟨k, 4, none⟩ (.int .i64 z)) k { c with un := z } nv := by
  unfold CQB at h ⊢
  simp [World.setCell, Array.getElem?_modify, h]
theorem CQB.set5 {W : World} {k : Nat} {c : Ct} {nv : Value} (h : CQB W k c nv) (z : Bool) : CQB (W.setCell ⟨k, 5, none⟩ (.bool z)) k { c with ca := z } nv := by
  unfold CQB at h ⊢
  simp [World.setCell, Array.getElem?_modify, h]
theorem rdec_fin {w W : World} {R : Ending → World → Prop} {d : Ct} {nu : Value} (hc : CQB W w.heap.size d nu) (tm : Array Value) (Z : Int) (h2 : tm.getD 2 undef = .pointer (some ⟨w.heap.size, 0, none⟩)) (h3 : tm.getD 3 undef = .int .i64 Z) (hR : R (.returned (.tuple #[certV d nu, .int .i64 Z])) W) :
    bodyPost Tryz.prog Tryz.f30 R .ret { tmps := tm, defers := [] } W :=
  bodyPost_ret (resCT (p := 2) (q := 3) (by kernel_rfl) _ _ w.heap.size 39 _ (0, 0) _ h2 hc Tryz.underlying39 rfl (by kernel_rfl)) rfl (by rw [h3]; exact hR)
theorem rdec_end0 {w W : World} {s : List UInt8} (hn : decO s = none) (hb : Below w.heap.size w W) (hc : CQB W w.heap.size ct0 (.slice none 0 0)) (tm : Array Value) (h2 : tm.getD 2 undef = .pointer (some ⟨w.heap.size, 0, none⟩)) (h3 : tm.getD 3 undef = .int .i64 (decE s : Nat)) :
    bodyPost Tryz.prog Tryz.f30 (DecPost w s) .ret { tmps := tm, defers := [] } W :=
  rdec_fin hc tm _ h2 h3 ⟨hb, by rw [hn]⟩
theorem rdec_end1 {w W : World} {s : List UInt8} (hn : decO s = none) (hb : Below w.heap.size w W) (hc : CQB W w.heap.size ct0 (.slice none 0 0)) (tm : Array Value) (h2 : tm.getD 2 undef = .pointer (some ⟨w.heap.size, 0, none⟩)) (h3 : tm.getD 3 undef = .int .i64 (decE s : Nat)) :
    bodyPost Tryz.prog Tryz.f30 (DecPost w s) .ret { tmps := tm, defers := [] } (st6 W w.heap.size (.string ⟨#[]⟩) (.string ⟨#[]⟩) (.slice none 0 0) (.int .i64 0) (.int .i64 0) (.bool false)) :=
  rdec_end0 hn (below_put6 hb (Nat.le_refl _)) (hc.put6 ct0 (.slice none 0 0)) tm h2 h3
theorem cutP_rest {s r v : List UInt8} {t : UInt8} (h : cutP s = .ok ((t, v), r)) : v.length ≤ s.length ∧ r.length ≤ s.length := by
  obtain ⟨_, _, h3⟩ := cutP_ok h
  have h4 := congrArg List.length h3
  rw [List.length_append] at h4
  have := putT_ge t v
  omega
theorem valAt_le {v : List UInt8} {l : List Tv} (h : allR v = .ok l) (i : Nat) : (valAt l i).length ≤ v.length := by
  unfold valAt
  by_cases hi : i < l.length
  · rw [(allR_ok h).1]
    refine mem_puts_le ?_
    rw [List.getD_eq_getElem?_getD, List.getElem?_eq_getElem hi]
    exact List.getElem_mem hi
  · rw [List.getD_eq_getElem?_getD, List.getElem?_eq_none (by omega)]
    exact Nat.zero_le _
theorem headV_le (s : List UInt8) : (headV s).length ≤ s.length := by
  unfold headV
  cases h : cutP s with
  | er e => exact Nat.zero_le _
  | ok p => obtain ⟨⟨t, v⟩, r⟩ := p; exact (cutP_rest h).1
theorem itemsV_le (s : List UInt8) : (itemsV s).length ≤ 64 ∧ ∀ x ∈ itemsV s, x.2.length ≤ s.length := by
  unfold itemsV
  cases h : allR s with
  | er e => exact ⟨Nat.zero_le _, fun x hx => by cases hx⟩
  | ok l =>
    refine ⟨(allR_ok h).2, fun x hx => ?_⟩
    rw [(allR_ok h).1]; exact mem_puts_le hx
theorem rdC_short {v : List UInt8} {l : List Tv} (h : allR v = .ok l) (hv : v.length ≤ 512) : shortC (rdC l) := by
  have h0 := valAt_le h 0
  have h1 := valAt_le h 1
  have h2 := valAt_le h 2
  have h3 := headV_le (valAt l 0)
  obtain ⟨h4, h5⟩ := itemsV_le (valAt l 2)
  refine ⟨by show (headV (valAt l 0)).length ≤ _; omega, by show (valAt l 1).length ≤ _; omega, by show ((itemsV (valAt l 2)).map (·.2)).length ≤ _; rw [List.length_map]; omega, fun n hn => ?_⟩
  obtain ⟨x, hx, rfl⟩ := List.mem_map.1 (show n ∈ (itemsV (valAt l 2)).map (·.2) from hn)
  have := h5 x hx; omega
theorem rget_head {w : World} (s : List UInt8) (hs : s.length ≤ 1000000000) : Calls Tryz.prog 77 #[sv s] w fun e w' => (∃ (t : UInt8) (r : List UInt8) (z : Int), e = .returned (.tuple #[.agg #[.int .u8 (t.toNat : Int), sv (headV s)], sv r, .int .i64 z])) ∧ Below w.heap.size w w' := by
  refine (rget_any s hs).mono ?_
  rintro e w' ⟨rfl, hb⟩
  refine ⟨?_, hb⟩
  unfold headV
  cases h : cutP s with
  | er z => exact ⟨0, [], (z : Int), rfl⟩
  | ok p => obtain ⟨⟨t, v⟩, r⟩ := p; exact ⟨t, r, 0, rfl⟩
theorem rall_items {w : World} (s : List UInt8) (hs : s.length ≤ 1000000000) : Calls Tryz.prog 78 #[sv s] w fun e w' => (∃ A c z, e = .returned (.tuple #[.slice A (itemsV s).length c, .int .i64 z]) ∧ TR w' (.slice A (itemsV s).length c) (itemsV s)) ∧ Below w.heap.size w w' := by
  refine (rall_any s hs).mono ?_
  intro e w' h
  unfold itemsV
  cases hr : allR s with
  | er z =>
    rw [hr] at h
    obtain ⟨rfl, hb⟩ := h
    exact ⟨⟨none, 0, (z : Int), rfl, TR.nil _ _ _⟩, hb⟩
  | ok l =>
    rw [hr] at h
    obtain ⟨⟨A, c, rfl, hto, _⟩, hb⟩ := h
    exact ⟨⟨A, c, 0, rfl, hto.pr⟩, hb⟩
theorem allOf_er : ∀ (L : List (Tv × Nat)) (acc : List Tv) (z : Nat), allOf L acc = .er z → z ≠ 0
  | [], acc, z, h => by cases h
  | (x, e) :: L, acc, z, h => by
    have h2 : (if e ≠ 0 then Rd.er e else if acc.length = 64 then Rd.er 40 else allOf L (acc ++ [x])) = .er z := h
    by_cases he : e = 0
    · rw [if_neg (by simpa using he)] at h2
      by_cases h64 : acc.length = 64
      · rw [if_pos h64] at h2; cases h2; decide
      · rw [if_neg h64] at h2; exact allOf_er L _ _ h2
    · rw [if_pos he] at h2; cases h2; exact he
theorem TW.set1J {b : Nat} {W : World} {n j : Nat} {v u : Value} {xs : List (List UInt8)} (h : TW b W v xs) (hn : n < b) : TW b (W.setCell ⟨n, j, none⟩ u) v xs :=
  h.old (row := some n) (grownBy_cellF W n j u) (fun g e e2 => by have := (h.lt e).1; simp only [Option.some.injEq] at e2; omega)
theorem dec_app {W0 W : World} {d : Ct} {A : Option Addr} {k c : Nat} {xs : List (List UInt8)} (hk : xs.length = k) (hC : CQB W W0.heap.size d (.slice A k c)) (hT : TW (W0.heap.size + 1) W (.slice A k c) xs) (hb : Below W0.heap.size W0 W) (hl : k ≤ 1000000) (x : List UInt8) :
    ∃ g cap w2, (Builtin.append_ #[25, 25] 25 #[.slice A k c, .slice (some ⟨W.heap.size, 0, none⟩) 1 1]).run Tryz.prog (W.alloc (.cells #[sv x] 9)) = .ok (.slice g (k + 1) cap) w2 ∧
      w2.cell? ⟨W0.heap.size, 2, none⟩ = some (.slice A k c) ∧ w2.frozen? ⟨W0.heap.size, 2, none⟩ = false ∧
      (CQB (w2.setCell ⟨W0.heap.size, 2, none⟩ (.slice g (k + 1) cap)) W0.heap.size { d with names := xs ++ [x] } (.slice g (k + 1) cap) ∧ TW (W0.heap.size + 1) (w2.setCell ⟨W0.heap.size, 2, none⟩ (.slice g (k + 1) cap)) (.slice g (k + 1) cap) (xs ++ [x]) ∧ Below W0.heap.size W0 (w2.setCell ⟨W0.heap.size, 2, none⟩ (.slice g (k + 1) cap))) := by
  subst hk
  have hlt := hC.lt
  have hx : SX (W.alloc (.cells #[sv x] 9)) (.slice (some ⟨W.heap.size, 0, none⟩) 1 1) [x] := ⟨_, _, rfl, fun _ => ⟨W.heap.size, 0, rfl, by simp, fun j hj => by
    obtain rfl : j = 0 := by simp at hj; exact hj
    rw [cell_of_row _ _ 0 _ _ _ (heap_alloc_new W _)]; rfl⟩⟩
  obtain ⟨g, cap, w2, h1, h2, h3⟩ := tw_row (base := W0.heap.size + 1) (W := W.alloc (.cells #[sv x] 9)) (ys := [x]) (hT.below (below_alloc _ _)) hx (by rw [World.size_alloc]; omega) (by simp) hl
  have hne : ∀ j, (Value.slice A xs.length c).ownBlock = some j → W0.heap.size + 1 ≤ j := fun j hj => (hT.lt hj).1
  have hC1 : CQB (W.alloc (.cells #[sv x] 9)) W0.heap.size d (.slice A xs.length c) := hC.step (below_alloc _ _)
  have hC2 : CQB w2 W0.heap.size d (.slice A xs.length c) := (h3.block W0.heap.size (by simp; omega) (fun e => by have := hne _ e.symm; omega)).trans hC1
  have hb2 : Below W0.heap.size W0 w2 := Below.grown (hb.alloc hb.size _) h3 (by simp; omega) fun j hj => by have := hne j hj; omega
  exact ⟨g, cap, w2, h1, hC2.c2, hC2.free 2, hC2.set2 _ _, h2.set1J (by omega), hb2.setCell (p := ⟨W0.heap.size, 2, none⟩) (Nat.le_refl _) _⟩
end Go.Proofs.YtnaoandleelbkaaGreatDoor
