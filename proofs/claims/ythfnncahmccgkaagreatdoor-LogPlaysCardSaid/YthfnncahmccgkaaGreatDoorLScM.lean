/-
  What a half has: Scan's contract.
  Scan where there is power: the loop over the records.
-/
import Derived.RangeFuncBox
import Derived.RangeFuncFrom
import Derived.Maps.AppendAt
import Derived.Test.YthfnncahmccgkaaGreatDoorLRead
import Derived.Test.YthfnncahmccgkaaGreatDoorLIter
namespace Go.Proofs.YthfnncahmccgkaaGreatDoor
set_option linter.unusedSimpArgs false
set_option linter.unusedVariables false
open Go Go.RowKit Go.Shelf Go.Maps
set_option maxRecDepth 100000
attribute [local go_sem] Oper.semAt_some

/-- What Scan tells: the age, the records in a row of one's own. -/
def ScPost (w : World) (S : DS) (half : Int) (e : Ending) (w' : World) : Prop :=
  ∃ v, e = .returned (.tuple #[.int .i64 (scnA S half : Nat), v, .int .i64 (scnE S half)]) ∧ Ro w w' v (scnL S half)
theorem ScPost.none {w w' : World} {S : DS} {half z : Int} (hz : scnE S half = z) (h0 : z ≠ 0) (hb : Below w.heap.size w w') : ScPost w S half (.returned (.tuple #[.int .i64 0, .slice none 0 0, .int .i64 z])) w' := by
  have e1 : scnA S half = 0 := by rw [scnA, hz, if_neg h0]
  have e2 : scnL S half = [] := by rw [scnL, hz, if_neg h0]
  refine ⟨.slice Option.none 0 0, by rw [e1, hz]; rfl, ?_⟩
  rw [e2]
  exact (Ro.nil w).step hb
theorem ScPost.some {w w' : World} {S : DS} {half : Int} {v : Value} {a : Nat} {L : List (List UInt8)} (hz : scnE S half = 0) (ha : ageH (hsec S half.toNat) = a) (hl : scnR S half.toNat = L) (h : Ro w w' v L) : ScPost w S half (.returned (.tuple #[.int .i64 (a : Int), v, .int .i64 0])) w' := by
  refine ⟨v, by rw [scnA, hz, if_pos rfl, ha], ?_⟩
  rw [scnL, hz, if_pos rfl, hl]
  exact h

set_option maxHeartbeats 2000000 in
theorem scan_bad {w : World} {p : Nat} {S : DS} {half : Int} (hh : isH half = false) : Calls Tryz.prog 8 #[dp p, .int .i64 half] w (ScPost w S half) := by
  have HE := Lib.hid (show scnE S half = 1 by
    have : ¬ (0 ≤ half ∧ half < 2) := by simpa [isH] using hh
    rw [scnE, if_neg this])
  have IH := fun W => @isHalf_any W half
  rw [hh] at IH
  have HB := Lib.hid (fun v => show Below w.heap.size w (w.alloc (.cells #[v] 26)) from below_alloc w _)
  clear hh
  go_enter Tryz.func8, Tryz.ntmps8
  go_wp2_with (go_at_call 34; refine (IH _).mono ?_; rintro e w1 ⟨rfl, rfl⟩)
  refine bodyPost_ret (v := .tuple #[.int .i64 0, .slice none 0 0, .int .i64 1]) (by simp [results, Tryz.results8, go_sem]) rfl ?_
  exact ScPost.none HE.out (by decide) (HB.out _)

/-- What is read of a half. -/
theorem rdhalf_any {W : World} {p bl bd : Nat} {S : DS} (hW : PD W p bl bd S) {half : Nat} (hh : half < 2) {g : Nat} (hg : IB W g (plc S.was.length S.was.length)) :
    Calls Tryz.prog 36 #[dp p, .slice (fromB ⟨g, 0, none⟩ (lfst S.was.length half) (lfst S.was.length half + S.was.length / 2)) (S.was.length / 2) (S.was.length / 2)] W fun e w' =>
      ∃ v, e = .returned (.tuple #[v, .int .i64 (topE S)]) ∧ Ro W w' v (if S.off then [] else hsec S half) := by
  have hle := lfst_le (n := S.was.length) hh
  exact rdlog_any hW (c := S.was.length / 2) (hg.ir (f := lfst S.was.length half) (m := S.was.length / 2) (A := fromB ⟨g, 0, none⟩ (lfst S.was.length half) (lfst S.was.length half + S.was.length / 2)) hle (fun hm => by
      unfold fromB
      rw [if_neg (by omega), Go.WideShapes.add_plain, Nat.zero_add])) hle

set_option maxHeartbeats 2000000 in
theorem scan_off {w : World} {p bl bd : Nat} {S : DS} (h : PD w p bl bd S) {half : Nat} (hh : half < 2) (ho : S.off = true) : Calls Tryz.prog 8 #[dp p, .int .i64 (half : Int)] w (ScPost w S half) := by
  have HE := Lib.hid (show scnE S half = 42 by rw [scnE, if_pos (by omega), if_pos ho])
  have hT : topE S = 42 := by simp [topE, ho]
  have IH := fun W => @isHalf_any W (half : Int)
  rw [show isH (half : Int) = true by simp [isH]; omega] at IH
  have PO := Lib.hid (fun W (hb : Below w.heap.size w W) => placesOf_any (h.below hb) hh)
  have RD := Lib.hid (fun W g (hb : Below w.heap.size w W) (hg : IB W g (plc S.was.length S.was.length)) => rdhalf_any (h.below hb) hh hg)
  rw [hT] at RD
  have hB0 := below_alloc w (.cells #[.slice none 0 0] 26)
  have b0 : Bx (w.alloc (.cells #[.slice none 0 0] 26)) w.heap.size (.slice none 0 0) 26 := Bx.new _ _ _
  have HB0 := Lib.hid hB0
  have B0 := Lib.hid b0
  clear hT h hB0 b0
  go_enter Tryz.func8, Tryz.ntmps8
  go_wp2_with (first
    | (go_at_call 34; refine (IH _).mono ?_; rintro e w2 ⟨rfl, rfl⟩)
    | (go_at_call 37; refine (PO.out _ HB0.out).mono ?_; rintro e w3 ⟨g, rfl, hg, hb3, _⟩)
    | (go_at_call 36; refine (RD.out _ g (HB0.out.trans (hb3.mono HB0.out.size)) hg).mono ?_; rintro e w4 ⟨v, rfl, hro⟩; obtain ⟨A', c', rfl, _⟩ := hro.form; have hb4 := hb3.trans (hro.below.mono hb3.size); have B4 := B0.out.below hb4 B0.out.lt; have cb4 := B4.cell; have fb4 := B4.free; have HX := Lib.hid (B4.set (.slice none 0 0)); have HB4 := Lib.hid hb4; clear hb4 hro B4))
  have hc5 := HX.out.cell
  refine bodyPost_ret (v := .tuple #[.int .i64 0, .slice none 0 0, .int .i64 42]) (by simp [results, Tryz.results8, go_sem, hc5]) rfl ?_
  exact ScPost.none HE.out (by decide) ((HB0.out.trans (HB4.out.mono HB0.out.size)).setCell (p := ⟨w.heap.size, 0, none⟩) (Nat.le_refl _) _)
end Go.Proofs.YthfnncahmccgkaaGreatDoor

namespace Go.Proofs.YthfnncahmccgkaaGreatDoor
set_option linter.unusedSimpArgs false
set_option linter.unusedVariables false
open Go Go.RowKit Go.Shelf Go.Maps
set_option maxRecDepth 100000
attribute [local go_sem] Oper.semAt_some

/-- All below nl is kept, but for block B. -/
def KBx (B nl : Nat) (A A' : World) : Prop := ∀ k, k < nl → k ≠ B → A'.heap[k]? = A.heap[k]?
theorem KBx.trans {B nl : Nat} {A A' A'' : World} (h : KBx B nl A A') (h' : KBx B nl A' A'') : KBx B nl A A'' := fun k hk hn => (h' k hk hn).trans (h k hk hn)
theorem KBx.putObj {B nl : Nat} {w : World} (hn : nl ≤ w.heap.size) (W : World) (l : Nat) (o o' : Obj) (hl : w.heap.size ≤ l) : KBx B nl W (W.putObj l o') := fun k hk _ =>
  by
  rw [World.putObj_heap_other (by omega)]

theorem recsF_len (l : List (List UInt8)) (age : Nat) : ∀ f p, (recsF l age f p).length ≤ f
  | 0, _ => by simp [recsF]
  | f + 1, p => by
    rw [recsF]
    split
    · have := recsF_len l age f (p + joinN (l.drop p) age p)
      simp only [List.length_cons]; omega
    · simp
theorem recs_len (l : List (List UInt8)) (age : Nat) : (recs l age).length ≤ l.length + 1 := recsF_len l age _ _
theorem ownsRow_base {W : World} {b b' : Nat} {e : TypeId} {v : Value} {n : Nat} {xs : List Value} (h : W.ownsRow b e 1 v n xs) (hb : b' ≤ b) : W.ownsRow b' e 1 v n xs := by
  refine ⟨h.1, ?_⟩
  rcases h.2 with hn | ⟨g, cap, cur, rfl, hg, rest⟩
  · exact .inl hn
  · exact .inr ⟨g, cap, cur, rfl, Nat.le_trans hb hg, rest⟩
/-- Kept, but for the box. -/
def KS (B nl : Nat) (A A' : World) : Prop := A.heap.size ≤ A'.heap.size ∧ KBx B nl A A'
/-- A record more in the box's row. -/
theorem scan_round {W w1 : World} {n0 nl B k m : Nat} {v v' : Value} {xs ys : List Value} {tmp : Obj} (hv : Boxed W B 26 v) (hrow : W.ownsRow nl 9 1 v k xs) (hnl : nl ≤ W.heap.size) (hB : n0 ≤ B) (hBn : B < nl)
    (hown' : w1.ownsRow nl 9 1 v' m ys) (hgrow : (W.alloc tmp).grownBy w1 v.ownBlock) :
    Boxed w1 B 26 v ∧ Boxed (w1.setCell ⟨B, 0, none⟩ v') B 26 v' ∧ (w1.setCell ⟨B, 0, none⟩ v').ownsRow nl 9 1 v' m ys ∧ KeepsOthers W (w1.setCell ⟨B, 0, none⟩ v') ∧ Below n0 W (w1.setCell ⟨B, 0, none⟩ v') ∧ KS B nl W (w1.setCell ⟨B, 0, none⟩ v') := by
  obtain ⟨h1, h2, _, h4, h5⟩ := hv.appended (by decide) (ownsRow_base hrow (show n0 ≤ nl by omega)) (by omega) hB (ownsRow_base hown' (show n0 ≤ nl by omega)) hgrow
  refine ⟨h1, h2, hown'.kept (grownBy_setCell' w1 B v') (.inr (h1.not_row (by decide) hown').symm), h4, h5, ?_, fun k hk hn => ?_⟩
  · have := hgrow.size
    simp at this
    simp [World.setCell]
    omega
  · rw [heap_set_ne _ (fun e => hn e.symm), hgrow.block k (by simp; omega) (fun e => ?_)]
    · exact Below.heap_alloc _ _ _ (by omega)
    · rcases hrow.2 with ⟨rfl, _⟩ | ⟨g, cap, cur, rfl, hg, _⟩
      · simp [Value.ownBlock] at e
      · simp [Value.ownBlock] at e
        omega

theorem bx_put {W : World} {D B : Nat} {o : Obj} {v : Value} {T : TypeId} (h : Bx W B v T) (hne : D ≠ B) : Bx (W.putObj D o) B v T := (World.putObj_heap_other (fun e => hne e.symm)).trans h
set_option maxHeartbeats 8000000 in
theorem scan_on {w : World} {p bl bd : Nat} {S : DS} (h : PD w p bl bd S) {half : Nat} (hh : half < 2) (ho : S.off = false) : Calls Tryz.prog 8 #[dp p, .int .i64 (half : Int)] w (ScPost w S half) := by
  have hT : topE S = 0 := by simp [topE, ho]
  have IH := fun W => @isHalf_any W (half : Int)
  rw [show isH (half : Int) = true by simp [isH]; omega] at IH
  have PO := Lib.hid (fun W (hb : Below w.heap.size w W) => placesOf_any (h.below hb) hh)
  have RD := Lib.hid (fun W g (hb : Below w.heap.size w W) (hg : IB W g (plc S.was.length S.was.length)) => rdhalf_any (h.below hb) hh hg)
  rw [hT, ho, if_neg (by simp)] at RD
  have hHl := hsec_length h.ok hh
  have hn2 := h.ok.n2
  have hHx : ∀ x ∈ hsec S half, x.length ≤ 9223372036854775807 := fun x hx => by
    have := h.ok.l2 x (List.mem_of_mem_drop (List.mem_of_mem_take hx))
    omega
  have HS := Lib.hid (show scnR S half = recs (hsec S half) (ageH (hsec S half)) from rfl)
  have HHX := Lib.hid hHx
  have AG := Lib.hid (fun W A c (hT : Tx W A (hsec S half)) => @ageOf_any W (hsec S half) A c hT hHx)
  have hB0 := below_alloc w (.cells #[.slice none 0 0] 26)
  have b0 : Bx (w.alloc (.cells #[.slice none 0 0] 26)) w.heap.size (.slice none 0 0) 26 := Bx.new _ _ _
  have HB0 := Lib.hid hB0
  have B0 := Lib.hid b0
  have HHL := Lib.hid (show (hsec S half).length ≤ 1024 by omega)
  clear hT h hB0 b0 hHl hn2 hHx
  have hmx : Tryz.prog.follows .mixedOrders = true := by kernel_rfl
  refine (callsIn_wide (n := 3)).1 ?_
  refine callsIn_of_wp_marks Tryz.func8 rfl trivial (wpIn_calmly ?_) rfl
  simp only [Tryz.ntmps8, List.size_toArray, List.length_cons, List.length_nil, Nat.reduceAdd, Nat.reduceSub, Array.replicate_succ, Array.replicate_zero, List.push_toArray, List.append_toArray, List.nil_append, List.cons_append]
  gi_wp2_with (first
    | (refine ⟨trivial, ?_⟩; gi_at_call 34; refine (callsIn_wide.2 (IH _)).mono ?_; rintro e w2 ⟨rfl, rfl⟩)
    | (refine ⟨trivial, ?_⟩; gi_at_call 37; refine (callsIn_wide.2 (PO.out _ HB0.out)).mono ?_; rintro e w3 ⟨g, rfl, hg, hb3, _⟩)
    | (refine ⟨trivial, ?_⟩; gi_at_call 36; refine (callsIn_wide.2 (RD.out _ g (HB0.out.trans (hb3.mono HB0.out.size)) hg)).mono ?_; rintro e w4 ⟨v, rfl, hro⟩; obtain ⟨A', c', rfl, htx, hlc, _⟩ := hro.form)
    | (refine ⟨trivial, ?_⟩; gi_at_call 38; refine (callsIn_wide.2 (AG.out _ _ _ htx)).mono ?_; rintro e w5 ⟨rfl, hb5⟩)
    | (refine ⟨trivial, ?_⟩; gi_at_call 39; refine (callsIn_wide.2 (recordsOf_any _ _ _ _ _)).mono ?_; rintro e w6 ⟨rfl, rfl⟩))
  obtain ⟨B, hBe⟩ : ∃ B, B = w.heap.size := ⟨_, rfl⟩
  obtain ⟨H, hHe⟩ : ∃ H, H = hsec S half := ⟨_, rfl⟩
  obtain ⟨a, hae⟩ : ∃ a, a = ageH (hsec S half) := ⟨_, rfl⟩
  rw [← hae]
  rw [← hHe] at hro htx hlc ⊢
  have hb45 := (HB0.out.trans (hb3.mono HB0.out.size)).trans ((hro.below.trans (hb5.mono hro.below.size)).mono (Nat.le_trans HB0.out.size hb3.size))
  have hbo := hro.step hb5
  have s01 := HB0.out.size
  have s13 := hb3.size
  have s34 := hro.below.size
  have s45 := hb5.size
  have s0B := B0.out.lt
  have b5 : Bx w5 B (.slice none 0 0) 26 := by rw [hBe]; exact (B0.out.below hb3 s0B).below (hro.below.trans (hb5.mono hro.below.size)) (by omega)
  obtain ⟨Wl, hWl⟩ : ∃ Wl, Wl = (w5.alloc (.cells #[.slice A' H.length c'] 26)).alloc (.cells #[.int .i64 (a : Int)] 3) := ⟨_, rfl⟩
  rw [← hWl, ← hBe]
  have hsz : Wl.heap.size = w5.heap.size + 2 := by rw [hWl]; simp
  have hb5l : Below w5.heap.size w5 Wl := by rw [hWl]; exact ((Below.refl _ _).alloc (Nat.le_refl _) _).alloc (by simp) _
  have hbel : Below w.heap.size w Wl := hb45.trans (hb5l.mono (by omega))
  have bB : Boxed Wl B 26 (.slice none 0 0) := b5.below hb5l b5.lt
  have c1 : Wl.cell? ⟨w5.heap.size, 0, none⟩ = some (.slice A' H.length c') := by rw [hWl]; exact ((Bx.new w5 _ _).alloc _).cell
  have c2 : Wl.cell? ⟨w5.heap.size + 1, 0, none⟩ = some (.int .i64 (a : Int)) := by rw [hWl]; have := Bx.new (w5.alloc (.cells #[.slice A' H.length c'] 26)) (.int .i64 (a : Int)) 3; rw [World.size_alloc] at this; exact this.cell
  have tx : Tx Wl A' H := (htx.below hb5).below hb5l
  have hlt5 : w5.heap.size < Wl.heap.size := by omega
  have HRO := Lib.hid hro
  have HHe := Lib.hid hHe
  have HAe := Lib.hid hae
  have HBe := Lib.hid hBe
  have hgA : ∀ b o, A' = some ⟨b, o, none⟩ → 0 < H.length → b ≠ B ∧ b < Wl.heap.size := by
    intro b o hb h0
    rcases hro.1.2 with ⟨hv, hz⟩ | ⟨g', cap, cur, hv, hg1, hg2, _⟩
    · omega
    · simp only [Value.slice.injEq] at hv
      obtain ⟨rfl, _, _⟩ := hv
      simp only [Option.some.injEq, Addr.mk.injEq] at hb
      have := lt_of_blk hg2
      omega
  have hgA2 : ∀ W, KBx B Wl.heap.size Wl W → Tx W A' H := fun W hk => by
    rcases tx with h0 | ⟨b, o, hb, hlt, hc⟩
    · exact .inl h0
    · rcases Nat.eq_zero_or_pos H.length with h0 | h0
      · exact .inl (List.length_eq_zero_iff.1 h0)
      · obtain ⟨h1, h2⟩ := hgA b o hb h0
        have hbk := hk b h2 h1
        refine .inr ⟨b, o, hb, ?_, fun k hk' => (World.cell?_of_block (w := Wl) hbk).trans (hc k hk')⟩
        rcases Nat.lt_or_ge b W.heap.size with h3 | h3
        · exact h3
        · rw [Array.getElem?_eq_none h3, Array.getElem?_eq_getElem h2] at hbk
          cases hbk
  have ne1 : w5.heap.size ≠ B := by omega
  have ne2 : w5.heap.size + 1 ≠ B := by omega
  have hRL := recs_len H a
  have hHL : H.length ≤ 1024 := by rw [hHe]; exact HHL.out
  have st := records_stops w5.heap.size (w5.heap.size + 1) A' c' H a hHL hlc (by rw [hHe]; exact HHX.out)
    (fun W => Wl.heap.size ≤ W.heap.size ∧ KBx B Wl.heap.size Wl W) (KS B Wl.heap.size)
    (fun W ⟨_, hk⟩ => ⟨(World.cell?_of_block (w := Wl) (hk _ hlt5 ne1)).trans c1, (World.cell?_of_block (w := Wl) (hk _ (by show w5.heap.size + 1 < _; omega) ne2)).trans c2, hgA2 W hk⟩)
    (fun W W' ⟨h1, h2⟩ hb => ⟨Nat.le_trans h1 hb.size, fun k hk hn => (hb.block k (by omega)).trans (h2 k hk hn)⟩)
    (fun W W' ⟨h1, h2⟩ ⟨h3, h4⟩ => ⟨Nat.le_trans h1 h3, h2.trans h4⟩) Wl ⟨Nat.le_refl _, fun k _ _ => rfl⟩
  have ST := Lib.hid st
  have HRL := Lib.hid (show (recs H a).length ≤ 1025 by omega)
  have hsB : w.heap.size ≤ B := by omega
  have hBl : B < Wl.heap.size := by omega
  have HSZ := Lib.hid hsz
  have HWW := Lib.hid hbel.size
  obtain ⟨i0, hi, hz0, hz1, hz2⟩ := info_parts info9t
  clear st hWl c1 c2 tx hgA hgA2 hRL hHL hb45 hbo hro htx hlc hb3 hg hb5 b5 hb5l hHe hae hBe s01 s13 s34 s45 s0B hlt5 ne1 ne2 hsz
  refine wpIn_rangeFunc_ownF (α := List UInt8) (w := Wl) rfl (by omega) (gf := 63) (lb := #[.pointer (some ⟨w5.heap.size, 0, none⟩), .pointer (some ⟨w5.heap.size + 1, 0, none⟩)]) rfl trivial (enters_of Tryz.func63 (by kernel_rfl) rfl)
    ST.out (fun {X Y Z} (h1 : KS B Wl.heap.size X Y) (h2 : KS B Wl.heap.size Y Z) => ⟨Nat.le_trans h1.1 h2.1, h1.2.trans h2.2⟩)
    (fun W l o o' hl _ _ _ => ⟨by simp, KBx.putObj (w := Wl) (Nat.le_refl _) W l o o' hl⟩) (Below.refl _ _) (fun _ => rfl)
    (fun pre W => (∃ v, Boxed W B 26 v ∧ W.ownsRow Wl.heap.size 9 1 v pre.length (txs pre) ∧ True) ∧ Below w.heap.size w W ∧ Wl.heap.size ≤ W.heap.size) (fun _ _ _ => False)
    (OwnFrom.and (Own.from (holdsRow_own Wl.heap.size B 26 9 1 (fun pre : List (List UInt8) => pre.length) (fun pre => txs pre) (fun _ _ => True)) _) (OwnFrom.and (ownFrom_below (Nat.le_refl _) HWW.out) (fun _ _ _ _ h hg _ => Nat.le_trans h hg.size)))
    (fun _ _ _ _ _ h _ _ => h) ⟨⟨_, bB, World.ownsRow_nil _ _ _ _, trivial⟩, hbel, Nat.le_refl _⟩
    (fun x => { tmps := #[dp p, .int .i64 half, undef, undef, .int .i64 a, .pointer (some ⟨B, 0, none⟩), .int .i64 0, .slice A' H.length c', sv x, .bool false, dp p, .bool false, .bool false, .int .i64 half, .bool true, .bool false,
          .tuple #[.slice A' H.length c', .int .i64 0], dp p, dp p, .int .i64 half, .slice (fromB ⟨g, 0, none⟩ (lfst S.was.length half) (lfst S.was.length half + S.was.length / 2)) (S.was.length / 2) (S.was.length / 2),
          .tuple #[.slice A' H.length c', .int .i64 0], .slice A' H.length c', .int .i64 0, .int .i64 0, .bool false, undef, .slice A' H.length c', .int .i64 a, .slice A' H.length c', .int .i64 a,
          .func (.func 63) #[] #[.pointer (some ⟨w5.heap.size, 0, none⟩), .pointer (some ⟨w5.heap.size + 1, 0, none⟩)], sv x, undef, undef, undef, undef, undef, undef, undef, undef, undef], defers := [] }) ?assign ?body ?done ?stop
  case assign =>
    intro l x W K hK
    gi_wp2
    exact hK
  case body =>
    rintro l pre x W ⟨⟨v, hv, hrow, _⟩, hB, hSz⟩ hlt
    have hc := hv.cell
    have hpl : pre.length ≤ 1025 := by have := HRL.out; omega
    have htl : (txs pre).length = pre.length := txs_length pre
    have HV := Lib.hid hv
    have HR := Lib.hid hrow
    have HB := Lib.hid hB
    have HSz := Lib.hid hSz
    clear hv hrow hB hSz bB hbel
    gi_wp2_with (gi_at_builtin; refine wpListIn_append_own _ rfl _ _ 26 rfl Wl.heap.size 9 i0 (.string ⟨#[]⟩) 1 16 Tryz.underlying26 hi hz0 hz1 hz2 rfl (by decide) _ _ _ rfl (HR.out.alloc _) ⟨W.heap.size, 0, none⟩ 1 1 [sv x] rfl rfl (cell_one_new _ _ _) (by simp [Value.oneCell']) (by unfold maxLen; omega) (by omega) (by have := HSz.out; simp; omega) ?_; intro v' w1 hown' hgrow _; obtain ⟨g', cap', rfl⟩ := ownsRow_succ hown'; obtain ⟨hv1, hv2, hr2, hk2, hb2, hs2⟩ := scan_round HV.out HR.out HSz.out hsB hBl hown' hgrow; have hc1 := hv1.cell; have hf1 := hv1.frozen)
    exact ⟨hk2, hs2, ⟨_, hv2, by simpa [txs] using hr2, trivial⟩, HB.out.trans hb2, Nat.le_trans HSz.out hs2.1⟩
  case done =>
    rintro D ys W hD hys ⟨⟨v, hv, hrow, _⟩, hB, hSz⟩ hK
    have hform : ∃ A c, v = .slice A ys.length c := by
      rcases hrow.2 with ⟨rfl, h0⟩ | ⟨g, cap, _, rfl, _⟩
      · exact ⟨none, 0, by rw [h0]⟩
      · exact ⟨_, _, rfl⟩
    obtain ⟨A, c, rfl⟩ := hform
    have c0 := hv.cell
    have f0 := hv.frozen
    have hDB : D ≠ B := by omega
    have HK := Lib.hid (fun v => (heap_set_ne v (Ne.symm hDB) : (W.setCell ⟨B, 0, none⟩ v).heap[D]? = W.heap[D]?).trans hK)
    have HV := Lib.hid hv
    have HR := Lib.hid hrow
    have HB := Lib.hid hB
    have HY := Lib.hid hys
    have HDB := Lib.hid hDB
    have HWD := Lib.hid (show w.heap.size ≤ D by omega)
    clear hv hrow hB hK hys bB hbel hDB
    by_cases h0 : ys.length = 0
    · have h0' : ((ys.length : Int) == 0) = true := by rw [h0]; rfl
      have HE := Lib.hid (show scnE S half = 5 by
        have e1 : scnR S half = [] := by rw [HS.out, ← HAe.out, ← HHe.out, ← HY.out]; exact List.length_eq_zero_iff.1 h0
        rw [scnE, if_pos (by omega), ho, if_neg (by simp), Int.toNat_natCast, if_pos e1])
      clear h0
      have hx := HV.out.set (.slice none 0 0)
      gi_wp2
      have c5 := hx.cell
      refine calmly_ret ?_
      refine ⟨by simp, .inl ⟨_, _, rfl, run_takeDeferred (HK.out _), ?_⟩⟩
      have cp := (bx_put (o := .deferred none) hx HDB.out).cell
      exact ⟨.tuple #[.int .i64 0, .slice none 0 0, .int .i64 5], by simp [results, Tryz.results8, go_sem, cp],
        ScPost.none HE.out (by decide) ((HB.out.setCell (p := ⟨B, 0, none⟩) hsB _).trans (belowK_b (w := w) (Nat.le_refl _) _ D _ _ HWD.out (HK.out _) rfl rfl))⟩
    · have h0' : ((ys.length : Int) == 0) = false := by rw [beq_eq_false_iff_ne]; omega
      have HE := Lib.hid (show scnE S half = 0 by
        have e1 : scnR S half ≠ [] := by rw [HS.out, ← HAe.out, ← HHe.out, ← HY.out]; exact fun e => h0 (by rw [e]; rfl)
        rw [scnE, if_pos (by omega), ho, if_neg (by simp), Int.toNat_natCast, if_neg e1])
      clear h0
      gi_wp2
      have hx := HV.out.set (.slice A ys.length c)
      have hnr := HV.out.not_row (by decide) HR.out
      gi_region_o
      gi_wp2
      refine calmly_ret ?_
      refine ⟨by simp, .inl ⟨_, _, rfl, run_takeDeferred (show ((W.setCell ⟨B, 0, none⟩ (.slice A ys.length c)).drew).heap[D]? = _ from HK.out _), ?_⟩⟩
      have cp : (((W.setCell ⟨B, 0, none⟩ (.slice A ys.length c)).drew).putObj D (.deferred none)).cell? ⟨B, 0, none⟩ = some (.slice A ys.length c) := (bx_put (o := .deferred none) hx HDB.out).cell
      have hr1 : (W.setCell ⟨B, 0, none⟩ (.slice A ys.length c)).ownsRow Wl.heap.size 9 1 (.slice A ys.length c) ys.length (txs ys) := HR.out.kept (grownBy_setCell' W B _) (.inr hnr.symm)
      have hr2 : ((W.setCell ⟨B, 0, none⟩ (.slice A ys.length c)).drew).ownsRow Wl.heap.size 9 1 (.slice A ys.length c) ys.length (txs ys) := hr1
      have hr3 := ownsRow_base (ownsRow_putObj hr2 (.deferred none) (HK.out _) rfl) HWW.out
      exact ⟨.tuple #[.int .i64 a, .slice A ys.length c, .int .i64 0], by simp [results, Tryz.results8, go_sem, cp],
        ScPost.some HE.out (by rw [Int.toNat_natCast]; exact HAe.out.symm) (by rw [Int.toNat_natCast, HS.out, ← HAe.out, ← HHe.out]; exact HY.out.symm)
          ⟨hr3, ((HB.out.setCell (p := ⟨B, 0, none⟩) hsB _).drew).trans (belowK_b (w := w) (Nat.le_refl _) _ D _ _ HWD.out (show ((W.setCell ⟨B, 0, none⟩ (.slice A ys.length c)).drew).heap[D]? = _ from HK.out _) rfl rfl)⟩⟩
  case stop =>
    rintro D c pre W _ _ h _
    exact h.elim

/-- What a half has. -/
theorem scan_log {w : World} {p bl bd : Nat} {S : DS} (h : PD w p bl bd S) (half : Int) : Calls Tryz.prog 8 #[dp p, .int .i64 half] w (ScPost w S half) := by
  cases hh : isH half with
  | false => exact scan_bad hh
  | true =>
    simp only [isH, decide_eq_true_eq] at hh
    obtain ⟨k, rfl⟩ : ∃ k : Nat, half = k := ⟨half.toNat, by omega⟩
    cases ho : S.off with
    | true => exact scan_off h (by omega) ho
    | false => exact scan_on h (by omega) ho
end Go.Proofs.YthfnncahmccgkaaGreatDoor
