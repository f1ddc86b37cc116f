/-
  Package frame's part.
  Package frame's Join.
-/
import Derived.Test.YthfnncahmccgkaaGreatDoorFRow
import Derived.Test.YthfnncahmccgkaaGreatDoorFGtM
import Derived.Lib.TrimByte
import Derived.Test.YthfnncahmccgkaaGreatDoorFBld
import Derived.Test.YthfnncahmccgkaaGreatDoorFSplit
namespace Go.Proofs.YthfnncahmccgkaaGreatDoor
set_option linter.unusedSimpArgs false
set_option linter.unusedVariables false
open Go Go.RowKit
set_option maxRecDepth 100000

def partT (l : List (List UInt8)) (i : Nat) (a p : Int) : List UInt8 := if partB l i a p then bodL (l.getD i []) else []
theorem partB_at {l : List (List UInt8)} {i : Nat} {a p : Int} (h : i < l.length) : partB l i a p = (isB (l.getD i []) && decide ((agL (l.getD i []) : Int) = a) && decide ((plL (l.getD i []) : Int) = p + i)) := by
  unfold partB
  rw [List.getD_eq_getElem?_getD, List.getElem?_eq_getElem h]
  rfl
theorem partB_out {l : List (List UInt8)} {i : Nat} {a p : Int} (h : ¬ i < l.length) : partB l i a p = false := by
  unfold partB
  rw [List.getElem?_eq_none (by omega)]
theorem wrap64_high {z : Int} (h0 : 9223372036854775807 < z) (h1 : z < 18446744073709551616) : wrap64 z < 0 := by unfold wrap64; omega

set_option maxHeartbeats 4000000 in
theorem part_any {w : World} (l : List (List UInt8)) (A : Option Addr) (c i : Nat) (a p : Int) (ht : Tx w A l) (hx : ∀ x ∈ l, x.length ≤ 9223372036854775807) (hl : l.length ≤ 140737488351232) (hi : i < 1000000000)
    (hp0 : -9223372036854775808 ≤ p) (hp1 : p ≤ 9223372036854775807) :
    Calls Tryz.prog 83 #[.slice A l.length c, .int .i64 i, .int .i64 a, .int .i64 p] w fun e w' => e = .returned (.tuple #[sv (partT l i a p), .bool (partB l i a p)]) ∧ Below w.heap.size w w' := by
  by_cases hlt : i < l.length
  · obtain ⟨b, o, rfl, hc⟩ := ht.cell hlt
    have hB := partB_at (a := a) (p := p) hlt
    have hxl : (l.getD i []).length ≤ 9223372036854775807 := by
      rw [List.getD_eq_getElem?_getD, List.getElem?_eq_getElem hlt]
      exact hx _ (List.getElem_mem hlt)
    have HT := Lib.hid (show partT l i a p = if partB l i a p then bodL (l.getD i []) else [] from rfl)
    obtain ⟨x, hxe⟩ : ∃ x, x = l.getD i [] := ⟨_, rfl⟩
    rw [← hxe] at hc hB hxl HT
    have GE := fun W => @get_any W x hxl
    obtain ⟨ag, hag⟩ : ∃ n, n = agL x := ⟨_, rfl⟩
    obtain ⟨pl, hpl⟩ : ∃ n, n = plL x := ⟨_, rfl⟩
    obtain ⟨bo, hbo⟩ : ∃ n, n = bodL x := ⟨_, rfl⟩
    rw [← hag, ← hpl] at hB GE
    rw [← hbo] at GE HT
    have hplt : pl < 4294967296 := by rw [hpl]; unfold plL; split; exact plN_lt _; omega
    have hlt' : ¬ ((l.length : Int) ≤ (i : Int)) := by omega
    have hgi : (i : Int) < (l.length : Int) := by omega
    clear hag hpl hbo hxe hxl hx ht
    cases his : isB x with
    | false =>
      rw [his] at GE hB
      have HF := Lib.hid (show partB l i a p = false by rw [hB]; simp)
      have HG := Lib.hid (show partT l i a p = [] by rw [HT.out, HF.out]; rfl)
      clear hB his
      go_enter Tryz.func83, Tryz.ntmps83
      go_wp2_with (go_at_call 62; refine (GE _).mono ?_; rintro e w9 ⟨rfl, hb9⟩)
      go_ret2
      exact ⟨by rw [HF.out, HG.out]; rfl, hb9⟩
    | true =>
      rw [his] at GE hB
      by_cases h1 : (ag : Int) = a
      · have h1' : ((ag : Int) != a) = false := by rw [h1]; simp
        by_cases h2 : (pl : Int) = p + i
        · have h2' : ((pl : Int) != p + i) = false := by rw [h2]; simp
          have hov : p + i ≤ 9223372036854775807 := by omega
          have hov2 : -9223372036854775808 ≤ p + i := by omega
          have HF := Lib.hid (show partB l i a p = true by rw [hB]; simp [h1, h2])
          have HG := Lib.hid (show partT l i a p = bo by rw [HT.out, HF.out]; rfl)
          clear hB his
          go_enter Tryz.func83, Tryz.ntmps83
          go_wp2_with (go_at_call 62; refine (GE _).mono ?_; rintro e w9 ⟨rfl, hb9⟩)
          go_ret2
          exact ⟨by rw [HF.out, HG.out]; rfl, hb9⟩
        · have HF := Lib.hid (show partB l i a p = false by rw [hB]; simp [h2])
          have HG := Lib.hid (show partT l i a p = [] by rw [HT.out, HF.out]; rfl)
          clear hB his
          by_cases hov : p + i ≤ 9223372036854775807
          · have h2' : ((pl : Int) != p + i) = true := by rw [bne_iff_ne]; exact h2
            have hov2 : -9223372036854775808 ≤ p + i := by omega
            clear h2
            go_enter Tryz.func83, Tryz.ntmps83
            go_wp2_with (go_at_call 62; refine (GE _).mono ?_; rintro e w9 ⟨rfl, hb9⟩)
            go_ret2
            exact ⟨by rw [HF.out, HG.out]; rfl, hb9⟩
          · have hw := wrap64_high (z := p + i) (by omega) (by omega)
            have h2' : ((pl : Int) != wrap64 (p + i)) = true := by rw [bne_iff_ne]; omega
            clear h2
            go_enter Tryz.func83, Tryz.ntmps83
            go_wp2_with (go_at_call 62; refine (GE _).mono ?_; rintro e w9 ⟨rfl, hb9⟩)
            go_ret2
            exact ⟨by rw [HF.out, HG.out]; rfl, hb9⟩
      · have h1' : ((ag : Int) != a) = true := by rw [bne_iff_ne]; exact h1
        have HF := Lib.hid (show partB l i a p = false by rw [hB]; simp [h1])
        have HG := Lib.hid (show partT l i a p = [] by rw [HT.out, HF.out]; rfl)
        clear hB his h1
        go_enter Tryz.func83, Tryz.ntmps83
        go_wp2_with (go_at_call 62; refine (GE _).mono ?_; rintro e w9 ⟨rfl, hb9⟩)
        go_ret2
        exact ⟨by rw [HF.out, HG.out]; rfl, hb9⟩
  · have hge : (l.length : Int) ≤ (i : Int) := by omega
    have HF := Lib.hid (show partB l i a p = false from partB_out hlt)
    have HG := Lib.hid (show partT l i a p = [] by rw [partT, HF.out]; rfl)
    clear ht hx
    go_enter Tryz.func83, Tryz.ntmps83
    go_wp2_with fail
    go_ret2
    exact ⟨by rw [HF.out, HG.out]; rfl, Below.refl _ _⟩
end Go.Proofs.YthfnncahmccgkaaGreatDoor

namespace Go.Proofs.YthfnncahmccgkaaGreatDoor
set_option linter.unusedSimpArgs false
set_option linter.unusedVariables false
open Go Go.RowKit
set_option maxRecDepth 100000

section
variable {P : Program} (w : World) {o : Oper} {a : Act}
theorem exec_slice2 {t : TypeId} {x lo hi : Operand} (hu : P.underlying t = some .string) (ho : o.op = .slice t x (some lo) (some hi) none) {u p q v : Value} (hx : a.eval x = u) (hl : a.eval lo = p) (hh : a.eval hi = q)
    (hr : (Instr.slice t u (some p) (some q) none).run P w = .ok v w) : (execOp a.eval o).run P w = .ok (.value v) w := by
  unfold execOp
  simp [ho, hx, hl, hh, Instr.sliceAt, run_underlying hu, hr]
theorem exec_slice1 {t : TypeId} {x lo : Operand} (hu : P.underlying t = some .string) (ho : o.op = .slice t x (some lo) none none) {u p v : Value} (hx : a.eval x = u) (hl : a.eval lo = p)
    (hr : (Instr.slice t u (some p) none none).run P w = .ok v w) : (execOp a.eval o).run P w = .ok (.value v) w := by
  unfold execOp
  simp [ho, hx, hl, Instr.sliceAt, run_underlying hu, hr]
end
theorem slice_from {w : World} (R : List UInt8) (i : Nat) (x : List UInt8) (hi : i ≤ R.length) (hx : R.drop i = x) :
    (Instr.slice 9 (.string (str R)) (some (.int .i64 i)) none none).run Tryz.prog w = .ok (sv x) w := by
  have hs : (str R).size = R.length := by show R.toArray.size = _; simp
  have h1 : (i : Int) ≤ (R.length : Int) := by omega
  have he : (str R).extract i R.length = str x := by rw [str_extract, List.take_length, hx]
  simp [Instr.slice, run_underlying Tryz.underlying9, Instr.sliceBounds, Instr.sliceBound, asIntOf, hs, h1, hi, he, Int.toNat_natCast, Result.andThen]
theorem dropWhile_nil {p : UInt8 → Bool} : ∀ l : List UInt8, l.dropWhile p = [] ↔ l.all p = true
  | [] => by simp
  | x :: l => by
    by_cases h : p x
    · simp [h, dropWhile_nil l]
    · simp [h]
theorem trim_zero (l : List UInt8) : (Lib.trimB l 0 == []) = zerosB l := by
  rw [Bool.eq_iff_iff, beq_iff_eq]
  unfold Lib.trimB Lib.trimLeftB Lib.trimRightB zerosB
  rw [dropWhile_nil, List.all_reverse]
  constructor
  · intro h
    cases hd : l.reverse.dropWhile (· == 0) with
    | nil =>
      rw [dropWhile_nil, List.all_reverse] at hd
      exact hd
    | cons x m =>
      exfalso
      rw [hd] at h
      simp only [List.all_cons, Bool.and_eq_true] at h
      have := List.head?_dropWhile_not (· == (0 : UInt8)) l.reverse
      rw [hd] at this
      simp at this
      have h1 := h.1
      simp at h1
      exact this h1
  · intro h
    rw [show l.reverse.dropWhile (· == 0) = [] from (dropWhile_nil _).2 (by rw [List.all_reverse]; exact h)]
    rfl
theorem builder_below {T e : TypeId} {B b : Nat} {bs : List Value} {w w' : World} (h : Lib.IsBuilder T e B b bs w) (hb : Below w.heap.size w w') : Lib.IsBuilder T e B b bs w' := by
  have k : ∀ q, Lib.BuilderAt T e B b q bs w → Lib.BuilderAt T e B b q bs w' := by
    rintro q ⟨h1, v, hv, hown, hne⟩
    refine ⟨h1, v, (hb.block b (lt_of_blk hv)).trans hv, ?_, hne⟩
    refine ⟨hown.1, ?_⟩
    rcases hown.2 with hn | ⟨g, cap, cur, rfl, hg, hgg, rest⟩
    · exact .inl hn
    · exact .inr ⟨g, cap, cur, rfl, hg, (hb.block g (lt_of_blk hgg)).trans hgg, rest⟩
  exact h.elim (fun x => .inl (k _ x)) (fun x => .inr (k _ x))
theorem builder_new (w : World) : Lib.IsBuilder 135 5 w.heap.size w.heap.size [] (w.alloc (.cells #[.pointer none, .slice none 0 0] 135)) :=
  .inl ⟨Nat.le_refl _, .slice none 0 0, heap_alloc_new w _, World.ownsRow_nil _ _ _ _, by simp [Value.ownBlock]⟩
theorem join_first {l : List (List UInt8)} {a p : Int} (h : JoinIs l a p) : partB l 0 a p = true := h.2.1 0 (by rw [h.1]; exact manyN_pos _)
/-- What Join answers. -/
def JoPost (w : World) (l : List (List UInt8)) (a p : Int) (e : Ending) (w' : World) : Prop := e = .returned (.tuple #[sv (joinT l a p), .int .i64 (joinN l a p), .bool (joinB l a p)]) ∧ Below w.heap.size w w'
theorem JoPost.no {w w' : World} {l : List (List UInt8)} {a p : Int} (h : ¬ JoinIs l a p) (hb : Below w.heap.size w w') : JoPost w l a p (.returned (.tuple #[.string ⟨#[]⟩, .int .i64 0, .bool false])) w' := by
  obtain ⟨h1, h2, h3⟩ := joinB_false h
  exact ⟨by rw [h1, h2, h3]; rfl, hb⟩
theorem JoPost.yes {w w' : World} {l : List (List UInt8)} {a p : Int} {t : List UInt8} {n : Nat} (h : JoinIs l a p) (ht : ((bodies l (fstN l)).drop 6).take (fstLong l) = t) (hn : fstN l = n) (hb : Below w.heap.size w w') : JoPost w l a p (.returned (.tuple #[sv t, .int .i64 n, .bool true])) w' := by
  obtain ⟨h1, h2, h3⟩ := joinB_true h
  exact ⟨by rw [h1, h2, h3, ht, hn], hb⟩

set_option maxHeartbeats 4000000 in
theorem join_any {w : World} (l : List (List UInt8)) (A : Option Addr) (c : Nat) (a p : Int) (ht : Tx w A l) (hx : ∀ x ∈ l, x.length ≤ 9223372036854775807) (hl : l.length ≤ 140737488351232)
    (hp0 : -9223372036854775808 ≤ p) (hp1 : p ≤ 9223372036854775807) :
    Calls Tryz.prog 64 #[.slice A l.length c, .int .i64 a, .int .i64 p] w (JoPost w l a p) := by
  have PA := Lib.hid (fun W i (hW : Tx W A l) (hi : i < 1000000000) => @part_any W l A c i a p hW hx hl hi hp0 hp1)
  have HT := Lib.hid ht
  have P0 := PA.out w 0 ht (by omega)
  clear ht hx
  cases h0 : partB l 0 a p with
  | false =>
    have HN := Lib.hid (show ¬ JoinIs l a p from fun h => by have := join_first h; rw [h0] at this; cases this)
    rw [h0] at P0
    go_enter Tryz.func64, Tryz.ntmps64
    go_wp2_with (go_at_call 83; refine P0.mono ?_; rintro e w9 ⟨rfl, hb9⟩)
    go_ret3
    exact JoPost.no HN.out hb9
  | true =>
    have hT0 : partT l 0 a p = bodL (l.getD 0 []) := by rw [partT, if_pos h0]
    have hlen : (bodL (l.getD 0 [])).length = 112 := by
      obtain ⟨x, hx1, hx2, _⟩ := partB_iff.1 h0
      rw [List.getD_eq_getElem?_getD, hx1]
      exact bodL_length hx2
    rw [h0, hT0] at P0
    have BE := fun W => @begun_any W (bodL (l.getD 0 [])) hlen
    have hn2 : numL ((bodL (l.getD 0 [])).take 2) = fstN l := rfl
    have hl2 : numL (((bodL (l.getD 0 [])).drop 2).take 4) = fstLong l := rfl
    have hnlt : fstN l < 65536 := by have := numL_lt ((bodL (l.getD 0 [])).take 2); rw [hn2, List.length_take, hlen] at this; exact this
    have hllt : fstLong l < 4294967296 := by have := numL_lt (((bodL (l.getD 0 [])).drop 2).take 4); rw [hl2, List.length_take, List.length_drop, hlen] at this; exact this
    rw [hn2, hl2] at BE
    obtain ⟨n, hne⟩ : ∃ n, n = fstN l := ⟨_, rfl⟩
    obtain ⟨g, hge⟩ : ∃ g, g = fstLong l := ⟨_, rfl⟩
    have MN := fun W => @many_top W (g : Int) (by omega) (by omega)
    rw [manyI_nat] at MN
    rw [← hne, ← hge] at BE
    rw [← hne] at hnlt
    rw [← hge] at hllt
    have HNE := Lib.hid hne
    have HGE := Lib.hid hge
    clear hn2 hl2 hne hge hlen hT0 h0
    obtain ⟨first, hfi⟩ : ∃ f, f = bodL (l.getD 0 []) := ⟨_, rfl⟩
    rw [← hfi] at P0 BE
    clear hfi
    by_cases hm : n = manyN g
    · have hm' : ((n : Int) != (manyN g : Int)) = false := by rw [hm]; simp
      obtain ⟨m, hmm⟩ : ∃ m, m = manyN g := ⟨_, rfl⟩
      rw [← hmm] at hm' MN
      have HM := Lib.hid hm
      have hroom : 6 + g ≤ 112 * n := by rw [hm]; exact manyN_ge g
      clear hm hmm
      go_enter Tryz.func64, Tryz.ntmps64
      go_wp2_with (first | (go_at_call 83; refine P0.mono ?_; rintro e w1 ⟨rfl, hb1⟩) | (go_at_call 84; refine (BE _).mono ?_; rintro e w2 ⟨rfl, hb2⟩) | (go_at_call 30; refine (MN _).mono ?_; rintro e w3 ⟨rfl, rfl⟩))
      have hB1 := builder_new w2
      have hB2 := (hb1.trans (hb2.mono hb1.size)).alloc (Nat.le_trans hb1.size hb2.size) (.cells #[.pointer none, .slice none 0 0] 135)
      have hB3 : w2.heap.size ≤ (w2.alloc (.cells #[.pointer none, .slice none 0 0] 135)).heap.size := by simp
      have hB4 := Nat.le_trans hb1.size hb2.size
      obtain ⟨B, hBe⟩ : ∃ B, B = w2.heap.size := ⟨_, rfl⟩
      rw [← hBe] at hB1 hB3 hB4 ⊢
      generalize w2.alloc (.cells #[.pointer none, .slice none 0 0] 135) = w3 at hB1 hB2 hB3 ⊢
      have HWB := Lib.hid hB4
      have HB1 := Lib.hid hB1
      have HB2 := Lib.hid hB2
      have HB3 := Lib.hid hB3
      clear hb1 hb2 hBe hB1 hB2 hB3 hB4 P0 BE MN hm'
      go_loopw [7, 35] (fun nn i wr => ∃ k : Nat, k ≤ n ∧ nn = .int .i64 n ∧ i = .int .i64 k ∧ allP l k a p ∧ Lib.IsBuilder 135 5 B B (Lib.byteCells (bodies l k)) wr ∧ Below w.heap.size w wr ∧ B ≤ wr.heap.size) (fun _ i _ => n - (intOf i).toNat)
      case atStart => exact ⟨0, Nat.zero_le _, rfl, rfl, fun i hi => by omega, by rw [bodies_zero]; exact HB1.out, HB2.out, HB3.out⟩
      case round =>
        obtain ⟨k, hk, rfl, rfl, hall, hbd, hbl, hsz⟩ := hrel
        have HALL := Lib.hid hall
        have HBD := Lib.hid hbd
        have HBL := Lib.hid hbl
        have HSZ := Lib.hid hsz
        have HLEN := Lib.hid (bodies_length hall)
        clear hall hbd hbl hsz
        by_cases hlt : k < n
        · have hlt' : (k : Int) < (n : Int) := by omega
          have P1 := PA.out wr k (HT.out.below (HBL.out)) (by omega)
          cases hpk : partB l k a p with
          | false =>
            have HN := Lib.hid (show ¬ JoinIs l a p from fun h => by have := h.2.1 k (by rw [← HNE.out]; exact hlt); rw [hpk] at this; cases this)
            rw [hpk] at P1
            clear hpk
            go_wp2_with (go_at_call 83; refine P1.mono ?_; rintro e w9 ⟨rfl, hb9⟩)
            go_ret3
            exact JoPost.no HN.out (HBL.out.trans (hb9.mono HBL.out.size))
          | true =>
            have hTk : partT l k a p = bodL (l.getD k []) := by rw [partT, if_pos hpk]
            rw [hpk, hTk] at P1
            obtain ⟨x, hx1, hx2, _⟩ := partB_iff.1 hpk
            have hgd : l.getD k [] = x := by rw [List.getD_eq_getElem?_getD, hx1]; rfl
            rw [hgd] at P1
            have HSC := Lib.hid (bodies_succ hx1)
            have HX := Lib.hid (bodL_length hx2)
            have HAN := Lib.hid (show allP l (k + 1) a p from fun i hi => by
              by_cases e : i = k
              · rw [e]; exact hpk
              · exact HALL.out i (by omega))
            clear hpk hTk hgd hx1 hx2
            obtain ⟨y, hy⟩ : ∃ y, y = bodL x := ⟨_, rfl⟩
            rw [← hy] at P1 HSC HX
            clear hy
            go_wp2_with (first | (go_at_call 83; refine P1.mono ?_; rintro e w9 ⟨rfl, hb9⟩) | (go_at_call 85; refine (write_anyF B B _ y _ (builder_below HBD.out hb9) (by rw [Lib.byteCells_length, HLEN.out, HX.out]; omega) (Nat.le_trans HSZ.out hb9.size)).mono ?_; rintro e w10 ⟨rfl, hbd10, hb10⟩))
            go_roundw
            case rel => exact ⟨k + 1, by omega, rfl, by go_num, HAN.out, by rw [HSC.out, show Lib.byteCells (bodies l k ++ y) = Lib.byteCells (bodies l k) ++ Lib.byteCells y from List.map_append]; exact hbd10, (HBL.out.trans (hb9.mono HBL.out.size)).trans (hb10.mono HWB.out), Nat.le_trans (Nat.le_trans HSZ.out hb9.size) hb10.size⟩
            case measure => simp [intOf]; omega
        · obtain rfl : k = n := by omega
          obtain ⟨L, hL⟩ : ∃ L, L = bodies l k := ⟨_, rfl⟩
          have HL := Lib.hid hL
          rw [← hL] at HBD HLEN
          have HF := Lib.hid (show Lib.IsBuilderF 135 5 B B (Lib.byteCells L) wr.drew from Lib.IsBuilderF.of (show Lib.IsBuilder _ _ B B _ wr.drew from builder_below HBD.out (Below.refl _ _).drew))
          have hLl := HLEN.out
          have hLs : (str L).size = L.length := by show L.toArray.size = _; simp
          have q1 : (6 : Int) ≤ 6 + (g : Int) := by omega
          have q2 : (6 : Int) + (g : Int) ≤ (L.length : Int) := by omega
          have q3 : (6 : Int) + (g : Int) ≤ 9223372036854775807 := by omega
          obtain ⟨X, hX⟩ : ∃ X, X = (L.take (6 + g)).drop 6 := ⟨_, rfl⟩
          obtain ⟨Y, hY⟩ : ∃ Y, Y = L.drop (6 + g) := ⟨_, rfl⟩
          have hwr : IntKind.i64.wrap (6 + (g : Int)) = 6 + (g : Int) := IntWalk.i64_in _ (by omega)
          have XS := fun W => slice_str (w := W) L 6 (6 + g) X (by omega) (by omega) hX.symm
          have YS := fun W => slice_from (w := W) L (6 + g) Y (by omega) hY.symm
          rw [show ((6 + g : Nat) : Int) = 6 + (g : Int) by omega] at XS YS
          have x1 : (str L).extract 6 (6 + g) = str X := by rw [str_extract, hX]
          have x2 : (str L).extract (6 + g) L.length = str Y := by rw [str_extract, hY, List.take_length]
          have HXX := Lib.hid hX
          have HYY := Lib.hid hY
          have hYl : Y.length ≤ 9223372036854775807 := by rw [hY, List.length_drop]; omega
          clear hX hY hL
          go_wp2_with fail
          refine wp_region_held_drew (S := fun W => Lib.IsBuilderF 135 5 B B (Lib.byteCells L) W ∧ Below w.heap.size w W ∧ B ≤ W.heap.size) (by kernel_rfl) ⟨HF.out, HBL.out.drew, HSZ.out⟩ (fun hHeld => ?_)
          refine wpAnyH_take (i := 1) (v := ?vv1_1) rfl (by kernel_rfl) (by kernel_rfl) (by kernel_rfl) (fun _ _ _ h => h) (Or.inl ⟨by rfl, ?hy1_1⟩) (by assumption) ?rest1_1
          case hy1_1 => (intro w' hSw; (try dsimp only at hSw); go_simp; try with_reducible rfl)
          try simp only [List.getElem_toArray, List.getElem_cons_zero, List.getElem_cons_succ, Act.put, List.setIfInBounds_toArray, List.set_cons_zero, List.set_cons_succ]
          refine wpAnyH_take (i := 2) (v := ?vv2_1) rfl (by kernel_rfl) (by kernel_rfl) (by kernel_rfl) (fun _ _ _ h => h) (Or.inl ⟨by rfl, ?hy2_1⟩) (by assumption) ?rest2_1
          case hy2_1 => (intro w' hSw; (try dsimp only at hSw); go_simp; try with_reducible rfl)
          try simp only [List.getElem_toArray, List.getElem_cons_zero, List.getElem_cons_succ, Act.put, List.setIfInBounds_toArray, List.set_cons_zero, List.set_cons_succ]
          refine wpAnyH_take (i := 5) (v := ?vv5_1) rfl (by kernel_rfl) (by kernel_rfl) (by kernel_rfl) (fun _ _ _ h => h) (Or.inl ⟨by rfl, ?hy5_1⟩) (by assumption) ?rest5_1
          case hy5_1 => (intro w' hSw; (try dsimp only at hSw); go_simp; try with_reducible rfl)
          try simp only [List.getElem_toArray, List.getElem_cons_zero, List.getElem_cons_succ, Act.put, List.setIfInBounds_toArray, List.set_cons_zero, List.set_cons_succ]
          refine wpAnyH_take (i := 6) (v := ?vv6_1) rfl (by kernel_rfl) (by kernel_rfl) (by kernel_rfl) (fun _ _ _ h => h) (Or.inl ⟨by rfl, ?hy6_1⟩) (by assumption) ?rest6_1
          case hy6_1 => (intro w' hSw; (try dsimp only at hSw); go_simp; try with_reducible rfl)
          try simp only [List.getElem_toArray, List.getElem_cons_zero, List.getElem_cons_succ, Act.put, List.setIfInBounds_toArray, List.set_cons_zero, List.set_cons_succ]
          refine wpAnyH_ready (rs := [0]) (by kernel_rfl) (by simp) ?_
          refine AllReadyH.cons rfl (fun K hK => ?_) AllReadyH.nil
          go_simp
          go_at_call 86
          refine (Tryz.Builder_String_any_f B B L _ hHeld.1 hHeld.2.2).mono ?_
          rintro e1 w8 ⟨rfl, hF8, hb8⟩
          refine hK.out _ _ ⟨hF8, hHeld.2.1.trans (hb8.mono HWB.out), Nat.le_trans hHeld.2.2 hb8.size⟩ (fun hHeld => ?_)
          clear hK K
          try simp only [List.getElem_toArray, List.getElem_cons_zero, List.getElem_cons_succ, Act.put, List.setIfInBounds_toArray, List.set_cons_zero, List.set_cons_succ]
          refine wpAnyH_take (i := 3) (v := sv X) rfl (by kernel_rfl) (by kernel_rfl) (by kernel_rfl) (fun _ _ _ h => h) (Or.inl ⟨by rfl, fun w' hSw => exec_slice2 w' Tryz.underlying9 (x := .tmp 51) (lo := .const (.int .i64 6)) (hi := .tmp 53) rfl rfl rfl rfl (XS w')⟩) (by assumption) ?_
          try simp only [List.getElem_toArray, List.getElem_cons_zero, List.getElem_cons_succ, Act.put, List.setIfInBounds_toArray, List.set_cons_zero, List.set_cons_succ]
          refine wpAnyH_ready (rs := [4]) (by kernel_rfl) (by simp) ?_
          refine AllReadyH.cons rfl (fun K hK => ?_) AllReadyH.nil
          go_simp
          go_at_call 86
          refine (Tryz.Builder_String_any_f B B L _ hHeld.1 hHeld.2.2).mono ?_
          rintro e1 w8 ⟨rfl, hF8, hb8⟩
          refine hK.out _ _ ⟨hF8, hHeld.2.1.trans (hb8.mono HWB.out), Nat.le_trans hHeld.2.2 hb8.size⟩ (fun hHeld => ?_)
          clear hK K
          try simp only [List.getElem_toArray, List.getElem_cons_zero, List.getElem_cons_succ, Act.put, List.setIfInBounds_toArray, List.set_cons_zero, List.set_cons_succ]
          refine wpAnyH_take (i := 7) (v := sv Y) rfl (by kernel_rfl) (by kernel_rfl) (by kernel_rfl) (fun _ _ _ h => h) (Or.inl ⟨by rfl, fun w' hSw => exec_slice1 w' Tryz.underlying9 (x := .tmp 55) (lo := .tmp 57) rfl rfl rfl (YS w')⟩) (by assumption) ?_
          try simp only [List.getElem_toArray, List.getElem_cons_zero, List.getElem_cons_succ, Act.put, List.setIfInBounds_toArray, List.set_cons_zero, List.set_cons_succ]
          refine wpAnyH_take (i := 8) (v := ?vv8_1) rfl (by kernel_rfl) (by kernel_rfl) (by kernel_rfl) (fun _ _ _ h => h) (Or.inl ⟨by rfl, ?hy8_1⟩) (by assumption) ?rest8_1
          case hy8_1 => (intro w' hSw; (try dsimp only at hSw); go_simp; try with_reducible rfl)
          try simp only [List.getElem_toArray, List.getElem_cons_zero, List.getElem_cons_succ, Act.put, List.setIfInBounds_toArray, List.set_cons_zero, List.set_cons_succ]
          refine wpAnyH_take (i := 9) (v := ?vv9_1) rfl (by kernel_rfl) (by kernel_rfl) (by kernel_rfl) (fun _ _ _ h => h) (Or.inl ⟨by rfl, ?hy9_1⟩) (by assumption) ?rest9_1
          case hy9_1 => (intro w' hSw; (try dsimp only at hSw); go_simp; try with_reducible rfl)
          try simp only [List.getElem_toArray, List.getElem_cons_zero, List.getElem_cons_succ, Act.put, List.setIfInBounds_toArray, List.set_cons_zero, List.set_cons_succ]
          refine wpAnyH_done (by kernel_rfl) ?_ _
          have TR := fun W => Tryz.strings_Trim_one (str Y) 0 (by decide) W (by show Y.toArray.size ≤ _; simpa using hYl)
          have HTZ := Lib.hid (trim_zero Y)
          have hfin : ((L.drop 6).take g) = X := by rw [HXX.out, List.drop_take, show 6 + g - 6 = g by omega]
          have HBF := Lib.hid hHeld.2.1
          cases hz : zerosB Y with
          | true =>
            have HJ := Lib.hid (show JoinIs l a p from ⟨by rw [← HNE.out, ← HGE.out]; exact HM.out, by rw [← HNE.out]; exact HALL.out, by rw [← HNE.out, ← HGE.out, ← HL.out, ← HYY.out]; exact hz⟩)
            have htb : Lib.trimB Y 0 = [] := by have := HTZ.out; rw [hz] at this; simpa using this
            rw [show (str Y).data.toList = Y from rfl, htb] at TR
            clear hz htb
            go_wp2_with (go_at_call 87; refine (TR _).mono ?_; rintro e w9 ⟨rfl, hw9⟩)
            go_ret3
            exact JoPost.yes HJ.out (by rw [← HNE.out, ← HGE.out, ← HL.out]; exact hfin) HNE.out.symm (by rcases hw9 with rfl | rfl; exact HBF.out; exact HBF.out.drew)
          | false =>
            have HJ := Lib.hid (show ¬ JoinIs l a p from fun h => by
              have h3 := h.2.2
              rw [← HNE.out, ← HGE.out, ← HL.out, ← HYY.out, hz] at h3
              cases h3)
            have htb : (Lib.trimB Y 0 == []) = false := by rw [HTZ.out]; exact hz
            rw [show (str Y).data.toList = Y from rfl] at TR
            obtain ⟨Z, hZ⟩ : ∃ Z, Z = Lib.trimB Y 0 := ⟨_, rfl⟩
            rw [← hZ] at TR htb
            have hne : (Z != []) = true := by simp only [bne, htb]; rfl
            clear hz hZ
            go_wp2_with (go_at_call 87; refine (TR _).mono ?_; rintro e w9 ⟨rfl, hw9⟩)
            go_ret3
            exact JoPost.no HJ.out (by rcases hw9 with rfl | rfl; exact HBF.out; exact HBF.out.drew)
    · have hm' : ((n : Int) != (manyN g : Int)) = true := by rw [bne_iff_ne]; omega
      have HN := Lib.hid (show ¬ JoinIs l a p from fun h => hm (by rw [HNE.out, HGE.out]; exact h.1))
      obtain ⟨m, hmm⟩ : ∃ m, m = manyN g := ⟨_, rfl⟩
      rw [← hmm] at hm' MN
      clear hm hmm
      go_enter Tryz.func64, Tryz.ntmps64
      go_wp2_with (first | (go_at_call 83; refine P0.mono ?_; rintro e w1 ⟨rfl, hb1⟩) | (go_at_call 84; refine (BE _).mono ?_; rintro e w2 ⟨rfl, hb2⟩) | (go_at_call 30; refine (MN _).mono ?_; rintro e w3 ⟨rfl, rfl⟩))
      go_ret3
      exact JoPost.no HN.out (hb1.trans (hb2.mono hb1.size))
end Go.Proofs.YthfnncahmccgkaaGreatDoor

