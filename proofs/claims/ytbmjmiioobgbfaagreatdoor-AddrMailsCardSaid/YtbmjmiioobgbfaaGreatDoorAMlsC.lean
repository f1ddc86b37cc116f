/-
  The walk of AddrMails.
-/
import Derived.WalkLawsBesides
import Derived.Deep.RegionLaw
import Derived.Deep.QuietTactic
import Derived.Deep.CutRange
import Derived.BigQuiet
import Derived.Deep.RegionHeld3
import Derived.Test.YtbmjmiioobgbfaaGreatDoorALess1
import Derived.Test.YtbmjmiioobgbfaaGreatDoorALaw
import Derived.Test.YtbmjmiioobgbfaaGreatDoorATexts
import Derived.Test.YtbmjmiioobgbfaaGreatDoorARMail
import Derived.Test.YtbmjmiioobgbfaaGreatDoorARDoms
namespace Go.Proofs.YtbmjmiioobgbfaaGreatDoor
set_option linter.unusedSimpArgs false
set_option linter.unusedVariables false
open Go Go.RowKit
set_option maxRecDepth 100000

/-- What all ways of AddrMails begin by. -/
theorem less_texts (f en tx : List UInt8) (q : Bool) (rs : List RC) (A : Option Addr) (c : Nat) (w : World) (hv : RcIs w (.slice A rs.length c) rs) (hl : rs.length ≤ 9223372036854775807) (W : World) (hb : MB w (mailCells f (.slice A rs.length c) q en tx) W) :
    Calls Tryz.prog 8 #[mailV f (.slice A rs.length c) q en tx] W fun e w' => ∃ v, e = .returned v ∧ RowIs w' v (f :: en :: tx :: tosL (rs.take 400)) ∧ MB w (mailCells f (.slice A rs.length c) q en tx) w' :=
  (texts_any f en tx q rs (.slice A rs.length c) W (hv.step hb.1.below) hl).mono fun _ _ ⟨v, h1, h2⟩ => ⟨v, h1, h2.row, hb.1.step h2.below, (h2.below.block _ (lt_of_blk hb.2)).trans hb.2⟩
theorem texts_big {f en tx : List UInt8} {rs : List RC} (hx : ∀ r ∈ rs, r.1.length ≤ 9223372036854775807) (hf : f.length ≤ 9223372036854775807) (hen : en.length ≤ 9223372036854775807) (htx : tx.length ≤ 9223372036854775807) : ∀ x ∈ f :: en :: tx :: tosL (rs.take 400), x.length ≤ 9223372036854775807 := by
  intro x h
  simp only [List.mem_cons] at h
  rcases h with rfl | rfl | rfl | h
  · exact hf
  · exact hen
  · exact htx
  · obtain ⟨r, hr, rfl⟩ := List.mem_map.1 h
    exact hx r (List.mem_of_mem_take hr)
theorem texts_count (f en tx : List UInt8) (rs : List RC) : (f :: en :: tx :: tosL (rs.take 400)).length ≤ 1000000 := by
  simp; omega
theorem mb_works {w : World} {cs : Array Value} (W : World) (hb : MB w cs W) : Calls Tryz.prog 9 #[] W fun e w' => e = .returned (.bool true) ∧ MB w cs w' := by
  have h := works_bl (w0 := W) W (BL.start hb.1.ml)
  exact h.mono fun _ _ ⟨h1, h2⟩ => ⟨h1, hb.1.step h2.below, (h2.below.block _ (lt_of_blk hb.2)).trans hb.2⟩
theorem mb_start {w : World} (hM : ML w) (cs : Array Value) : MB w cs (w.alloc (.cells cs 24)) := ⟨(BL.start hM).alloc _, heap_alloc_new _ _⟩
theorem mb_keep {w W W' : World} {cs : Array Value} (h : MB w cs W) (hb : Below W.heap.size W W') : MB w cs W' := ⟨h.1.step hb, (hb.block _ (lt_of_blk h.2)).trans h.2⟩
theorem MB.all {w W : World} {f en tx : List UInt8} {q : Bool} {rv : Value} (h : MB w (mailCells f rv q en tx) W) :
    W.cell? ⟨w.heap.size, 0, none⟩ = some (sv f) ∧ W.cell? ⟨w.heap.size, 1, none⟩ = some rv ∧ W.cell? ⟨w.heap.size, 2, none⟩ = some (.bool q) ∧ W.cell? ⟨w.heap.size, 3, none⟩ = some (sv en) ∧ W.cell? ⟨w.heap.size, 4, none⟩ = some (sv tx) := by
  refine ⟨?_, ?_, ?_, ?_, ?_⟩ <;> (rw [cellAt h.2]; rfl)

theorem RcIs.at_ {W : World} {g off n c : Nat} {rs : List RC} (h : RcIs W (.slice (some ⟨g, off, none⟩) n c) rs) {j : Nat} (hj : j < rs.length) : g < W.heap.size ∧ W.cell? ⟨g, off + j * 2, none⟩ = some (sv (rs.getD j rc0).1) ∧ W.cell? ⟨g, off + j * 2 + 1, none⟩ = some (.bool (rs.getD j rc0).2) := by
  obtain ⟨A, c', e, h⟩ := h
  simp only [Value.slice.injEq] at e
  obtain ⟨rfl, _, _⟩ := e
  obtain ⟨g', off', e, hg, hc⟩ := h (by omega)
  simp only [Option.some.injEq, Addr.mk.injEq, and_true] at e
  obtain ⟨rfl, rfl⟩ := e
  exact ⟨hg, hc j hj⟩

theorem wpList_append_run {P : Program} {ops : Array Oper} {rest : List Oper} {o : Oper} {a : Act} {w w' : World} {Q : Exit → Act → World → Prop} {v v' xv : Value}
    (hg : o.guard = none) (s x : Operand) (t : TypeId) (hop : o.op = Op.call { callee := Callee.builtin Builtin.append, args := #[s, x], argTypes := #[t, t] }) (hs : a.eval s = v) (hx : a.eval x = xv)
    (hrun : (Builtin.append_ #[t, t] o.type #[v, xv]).run P w = .ok v' w') (hK : wpList P ops Q rest (a.put o.dst v') w') : wpList P ops Q (o :: rest) a w :=
  wpList_plain hg fun K hK' => by
    unfold Oper.wp execOp
    simp only [hop, resolve, invoke, builtin, Sem.run_bind, Sem.run_pure, Result.andThen_ok, List.map_toArray, List.map_cons, List.map_nil, hs, hx, hrun]
    exact hK' _ _ hK

/-- The mail's box, and the own one's at gt, with recipients v'; these are the same. -/
def MX (w : World) (f en tx : List UInt8) (q : Bool) (v v' : Value) (gt : Nat) (rs : List RC) (W : World) : Prop := TS w (mailCells f v q en tx) gt (mailCells f v' q en tx) W ∧ RcIs W v' rs
theorem MX.step {w : World} {f en tx : List UInt8} {q : Bool} {v v' : Value} {gt : Nat} {rs : List RC} {W W' : World} (h : MX w f en tx q v v' gt rs W) (hb : Below W.heap.size W W') : MX w f en tx q v v' gt rs W' := ⟨h.1.step hb, h.2.step hb⟩
theorem MX.drew {w : World} {f en tx : List UInt8} {q : Bool} {v v' : Value} {gt : Nat} {rs : List RC} {W : World} (h : MX w f en tx q v v' gt rs W) : MX w f en tx q v v' gt rs W.drew := ⟨h.1.drew, h.2.drew⟩
theorem MX.ml {w : World} {f en tx : List UInt8} {q : Bool} {v v' : Value} {gt : Nat} {rs : List RC} {W : World} (h : MX w f en tx q v v' gt rs W) : ML W := h.1.1.1.ml
theorem MX.below {w : World} {f en tx : List UInt8} {q : Bool} {v v' : Value} {gt : Nat} {rs : List RC} {W : World} (h : MX w f en tx q v v' gt rs W) : Below w.heap.size w W := h.1.1.1.below
theorem mx {w : World} {f en tx : List UInt8} {q : Bool} {v v' : Value} {gt : Nat} {rs : List RC} {W : World} {fn : Nat} {args : Array Value} {u : Value} (hc : Calls Tryz.prog fn args W fun e w' => e = .returned u ∧ Below W.heap.size W w') (h : MX w f en tx q v v' gt rs W) :
    Calls Tryz.prog fn args W fun e w' => e = .returned u ∧ MX w f en tx q v v' gt rs w' := hc.mono fun _ _ ⟨h1, h2⟩ => ⟨h1, h.step h2⟩
theorem MX.all {w : World} {f en tx : List UInt8} {q : Bool} {v v' : Value} {gt : Nat} {rs : List RC} {W : World} (h : MX w f en tx q v v' gt rs W) :
    (W.cell? ⟨w.heap.size, 0, none⟩ = some (sv f) ∧ W.cell? ⟨w.heap.size, 1, none⟩ = some v ∧ W.cell? ⟨w.heap.size, 2, none⟩ = some (.bool q) ∧ W.cell? ⟨w.heap.size, 3, none⟩ = some (sv en) ∧ W.cell? ⟨w.heap.size, 4, none⟩ = some (sv tx)) ∧
    (W.cell? ⟨gt, 0, none⟩ = some (sv f) ∧ W.cell? ⟨gt, 1, none⟩ = some v' ∧ W.cell? ⟨gt, 2, none⟩ = some (.bool q) ∧ W.cell? ⟨gt, 3, none⟩ = some (sv en) ∧ W.cell? ⟨gt, 4, none⟩ = some (sv tx)) := by
  obtain ⟨a, b, c, d, e, _⟩ := h.1.all
  exact ⟨h.1.1.all, a, b, c, d, e⟩

/-- 'append([]T{}, m.Rcpts...)'. -/
theorem own_append {w W : World} {cs ct : Array Value} {gt c : Nat} {A : Option Addr} {rs : List RC} (hT : TS w cs gt ct W) (hM : ML w) (hv : RcIs W (.slice A rs.length c) rs) (hl : rs.length ≤ 1000000) :
    ∃ g cap W', (Builtin.append_ #[22, 22] 22 #[.slice (some ⟨W.heap.size, 0, none⟩) 0 0, .slice A rs.length c]).run Tryz.prog (W.alloc (.cells #[] 31)) = .ok (.slice (some ⟨g, 0, none⟩) rs.length cap) W' ∧
      TS w cs gt ct W' ∧ RcIs W' (.slice (some ⟨g, 0, none⟩) rs.length cap) rs ∧ gt ≠ g := by
  have hT1 := hT.alloc (.cells #[] 31)
  have hv1 := hv.step ((Below.refl W.heap.size W).alloc (Nat.le_refl _) (.cells #[] 31))
  have hgt := lt_of_blk hT.2.1
  have hown := owns_empty (base := W.heap.size) (heap_alloc_new W (.cells #[] 31)) (Nat.le_refl _)
  obtain ⟨i, hi, hz0, hz1, hz2⟩ := info_parts info_rcpt
  rcases Nat.eq_zero_or_pos rs.length with h0 | hp
  · obtain rfl : rs = [] := List.length_eq_zero_iff.1 h0
    refine ⟨W.heap.size, 0, W.alloc (.cells #[] 31), ?_, hT1, ⟨_, _, rfl, fun h => absurd h (by simp)⟩, by omega⟩
    cases A <;> simp [Builtin.append_, run_underlying Tryz.underlying22, sizeOf, typeInfo, hi, Builtin.lenOf, Builtin.firstCells, storeCells, loadCells, loadCellsFrom]
  · obtain ⟨A', c', e, hh⟩ := hv1
    simp only [Value.slice.injEq] at e
    obtain ⟨rfl, _, _⟩ := e
    obtain ⟨ga, oa, rfl, hga, hc⟩ := hh hp
    obtain ⟨g', cap', W', h1, h2, h3, h4, h5⟩ := run_append_lies (P := Tryz.prog) (W.alloc (.cells #[] 31)) 22 22 W.heap.size 31 i _ 2 24 Tryz.underlying22 hi hz0 hz1 hz2 rfl (by decide) _ 0 [] hown ⟨ga, oa, none⟩ rs.length c (flatR rs) (by rw [flat_len]) (flat_news hc) (flat_one rs) hp (by unfold maxLen; omega) (by omega) (by simp) _ rfl
    rw [Nat.zero_add] at h1 h2
    rw [List.nil_append] at h2
    have hg' := (h2.lt g' rfl).1
    exact ⟨g', cap', W', h1, hT1.grown hM h3 (by omega), rcs_owned rfl h2, by omega⟩

set_option maxHeartbeats 16000000 in
theorem addrMails_long (f en tx : List UInt8) (q : Bool) (rs : List RC) (A : Option Addr) (c : Nat) (r m : Int) (w : World) (hv : RcIs w (.slice A rs.length c) rs) (hl : rs.length ≤ 9223372036854775807) (hx : ∀ r ∈ rs, r.1.length ≤ 9223372036854775807) (hf : f.length ≤ 9223372036854775807) (hen : en.length ≤ 9223372036854775807) (htx : tx.length ≤ 9223372036854775807) (hM : ML w)
    (h : longL (f :: en :: tx :: tosL (rs.take 400)) = true ∨ (longL (f :: en :: tx :: tosL (rs.take 400)) = false ∧ 300 < rs.length)) :
    Calls Tryz.prog 3 #[mailV f (.slice A rs.length c) q en tx, .int .i64 r, .int .i64 m] w fun e w' => e = .returned (.bool true) ∧ Below w.heap.size w w' := by
  have HS := Lib.hid (mb_start hM (mailCells f (.slice A rs.length c) q en tx))
  have HT := Lib.hid (less_texts f en tx q rs A c w hv hl)
  have HB := Lib.hid (texts_big (f := f) (en := en) (tx := tx) hx hf hen htx)
  obtain ⟨c0, c1, c2, c3, c4⟩ := HS.out.all
  clear hv hx hM
  rcases h with h | ⟨h, h3⟩
  · have HL := Lib.hid h
    clear h
    go_enter Tryz.func3, Tryz.ntmps3
    go_wp2_with fail
    clear c0 c1 c2 c3 c4
    refine (HT.out _ HS.out).mono ?_
    rintro e w2 ⟨v, rfl, hr, hb2⟩
    have HB2 := Lib.hid hb2
    have HR := Lib.hid hr
    clear hb2 hr
    go_wp2_with fail
    refine (long_any _ _ _ HR.out (texts_count f en tx rs) HB.out).mono ?_
    rintro e w3 ⟨rfl, rfl⟩
    rw [HL.out]
    obtain ⟨c0, c1, c2, c3, c4⟩ := HB2.out.all
    go_wp2_with fail
    clear c0 c1 c2 c3 c4
    refine (mb_works _ HB2.out).mono ?_
    rintro e w9 ⟨rfl, hb9⟩
    have HB9 := Lib.hid hb9.1.below
    clear hb9
    go_wp2_with fail
    go_ret
    exact ⟨rfl, HB9.out⟩
  · have HL := Lib.hid h
    have h3' : (300 : Int) < (rs.length : Int) := by omega
    clear h h3
    go_enter Tryz.func3, Tryz.ntmps3
    go_wp2_with fail
    clear c0 c1 c2 c3 c4
    refine (HT.out _ HS.out).mono ?_
    rintro e w2 ⟨v, rfl, hr, hb2⟩
    have HB2 := Lib.hid hb2
    have HR := Lib.hid hr
    clear hb2 hr
    go_wp2_with fail
    refine (long_any _ _ _ HR.out (texts_count f en tx rs) HB.out).mono ?_
    rintro e w3 ⟨rfl, rfl⟩
    rw [HL.out]
    obtain ⟨c0, c1, c2, c3, c4⟩ := HB2.out.all
    go_wp2_with fail
    clear c0 c1 c2 c3 c4
    refine (mb_works _ HB2.out).mono ?_
    rintro e w9 ⟨rfl, hb9⟩
    have HB9 := Lib.hid hb9.1.below
    clear hb9
    go_wp2_with fail
    go_ret
    exact ⟨rfl, HB9.out⟩

theorem GT.blk_own {w0 W : World} {A : Option Addr} {n c : Nat} {xs : List (List UInt8)} (h : GT w0 (.slice A n c) xs W) (hp : 0 < xs.length) :
    ∃ g cur, A = some ⟨g, 0, none⟩ ∧ w0.heap.size ≤ g ∧ W.heap[g]? = some (.cells cur 9 (0, 0)) ∧ xs.length ≤ cur.size := by
  obtain ⟨g, rfl, h1, h2, hc, _⟩ := h.cell hp
  obtain ⟨_, hw⟩ := h
  rcases hw.2 with ⟨h, _⟩ | ⟨g', cap', cur, e1, _, e2, _⟩
  · cases h
  · obtain ⟨rfl, _, _⟩ : g = g' ∧ _ ∧ _ := by simpa using e1
    refine ⟨g, cur, rfl, h1, e2, ?_⟩
    have := hc (xs.length - 1) (by omega)
    rw [cellAt e2] at this
    have := (Array.getElem?_eq_some_iff.1 this).1
    omega

set_option maxHeartbeats 16000000 in
theorem addrMails_short (f en tx : List UInt8) (q : Bool) (rs : List RC) (A : Option Addr) (c : Nat) (r m : Int) (w : World) (hv : RcIs w (.slice A rs.length c) rs) (hM : ML w) (h : longL (f :: en :: tx :: tosL (rs.take 400)) = false) (hn : rs.length ≤ 300) :
    Calls Tryz.prog 3 #[mailV f (.slice A rs.length c) q en tx, .int .i64 r, .int .i64 m] w fun e w' => e = .returned (.bool true) ∧ Below w.heap.size w w' := by
  obtain ⟨_, hsm⟩ := long_not h
  have hf : f.length ≤ 9000 := Nat.le_of_lt (hsm f (by simp))
  have hen : en.length ≤ 9000 := Nat.le_of_lt (hsm en (by simp))
  have htx : tx.length ≤ 9000 := Nat.le_of_lt (hsm tx (by simp))
  have hx : ∀ r ∈ rs, r.1.length ≤ 9000 := fun r hr => Nat.le_of_lt (hsm r.1 (by
    rw [List.take_of_length_le (by omega)]
    simp only [List.mem_cons]
    exact .inr (.inr (.inr (List.mem_map_of_mem hr)))))
  have HS := Lib.hid (mb_start hM (mailCells f (.slice A rs.length c) q en tx))
  have HT := Lib.hid (less_texts f en tx q rs A c w hv (by omega))
  have HB := Lib.hid (texts_big (f := f) (en := en) (tx := tx) (rs := rs) (fun r hr => by have := hx r hr; omega) (by omega) (by omega) (by omega))
  have HX := Lib.hid (show ∀ r ∈ rs, r.1.length ≤ 1000000 from fun r hr => by have := hx r hr; omega)
  have HV := Lib.hid hv
  have HM := Lib.hid hM
  have HL := Lib.hid h
  have h3 : ¬ (300 : Int) < (rs.length : Int) := by omega
  obtain ⟨c0, c1, c2, c3, c4⟩ := HS.out.all
  clear hv hx hM h hsm
  go_enter Tryz.func3, Tryz.ntmps3
  go_wp2_with fail
  clear c0 c1 c2 c3 c4
  refine (HT.out _ HS.out).mono ?_
  rintro e w2 ⟨v, rfl, hr, hb2⟩
  have HB2 := Lib.hid hb2
  have HR := Lib.hid hr
  clear hb2 hr
  go_wp2_with fail
  refine (long_any _ _ _ HR.out (texts_count f en tx rs) HB.out).mono ?_
  rintro e w3 ⟨rfl, rfl⟩
  rw [HL.out]
  obtain ⟨c0, c1, c2, c3, c4⟩ := HB2.out.all
  go_upto_region 4 with (fail)
  clear c0 c1 c2 c3 c4
  obtain ⟨X, hX⟩ : ∃ X, X = w2.alloc (.cells (mailCells f (.slice A rs.length c) q en tx) 24) := ⟨_, rfl⟩
  have hTX : TS w (mailCells f (.slice A rs.length c) q en tx) w2.heap.size (mailCells f (.slice A rs.length c) q en tx) X := by
    rw [hX]
    exact ⟨mb_keep HB2.out ((Below.refl _ _).alloc (Nat.le_refl _) _), heap_alloc_new _ _, lt_of_blk HB2.out.2⟩
  have hXB : Below w.heap.size w X := hTX.1.1.below
  change Code.wp _ _ _ _ (w2.alloc (.cells (mailCells f (.slice A rs.length c) q en tx) 24))
  rw [← hX]
  obtain ⟨gt, hgt⟩ : ∃ g, g = w2.heap.size := ⟨_, rfl⟩
  rw [← hgt] at hTX ⊢
  obtain ⟨g4, cap4, W4, hrun, hT4, hR4, hg4⟩ := own_append hTX HM.out (HV.out.step hXB) (by omega)
  obtain ⟨d0, d1, d2, d3, d4, d5⟩ := hTX.all
  obtain ⟨c0, c1, c2, c3, c4⟩ := hTX.1.all
  have hgtX : gt < X.heap.size := lt_of_blk hTX.2.1
  have hwX : w.heap.size < X.heap.size := lt_of_blk hTX.1.2
  have e4 := hT4.all.2.1
  have e5 := hT4.all.2.2.2.2.2
  have e6 : gt < W4.heap.size := lt_of_blk hT4.2.1
  have HMX := Lib.hid (show MX w f en tx q (.slice A rs.length c) (.slice (some ⟨g4, 0, none⟩) rs.length cap4) gt rs (W4.setCell ⟨gt, 1, none⟩ (.slice (some ⟨g4, 0, none⟩) rs.length cap4)) from ⟨hT4.set HM.out, RcIs.other hg4 hR4⟩)
  have HRUN := Lib.hid hrun
  clear hTX hXB hX hgt hT4 hR4 hrun
  go_wp2_with (at_builtin; refine wpList_append_run rfl (.tmp 23) (.tmp 25) 22 rfl rfl rfl HRUN.out ?_)
  obtain ⟨W5, hW5⟩ : ∃ W5, W5 = W4.setCell ⟨gt, 1, none⟩ (.slice (some ⟨g4, 0, none⟩) rs.length cap4) := ⟨_, rfl⟩
  rw [← hW5] at HMX ⊢
  clear hW5 e4 e5 e6 d0 d1 d2 d3 d4 d5 c0 c1 c2 c3 c4 hgtX hwX hg4 HRUN HB2 HR HS HT HB HL
  obtain ⟨D, hD⟩ : ∃ D, D = uniqS (domL (tosL rs)) := ⟨_, rfl⟩
  have hDl : D.length ≤ 1000 := by
    rw [hD]
    have h1 := putL_len (tosL rs) (tosL rs).length
    rw [putL_all] at h1
    have h2 : (tosL rs).length = rs.length := List.length_map _
    omega
  have HD1 := Lib.hid (fun (W : World) (h : MX w f en tx q (.slice A rs.length c) (.slice (some ⟨g4, 0, none⟩) rs.length cap4) gt rs W) => domains_any f en tx q rs _ W h.2 (by omega) HX.out h.ml)
  have HD2 := Lib.hid (fun (W : World) (h : MX w f en tx q (.slice A rs.length c) (.slice (some ⟨g4, 0, none⟩) rs.length cap4) gt rs W) => rdomains_any f en tx q rs A c W (HV.out.step h.below) (by omega) HX.out h.ml)
  rw [← hD] at HD1 HD2
  clear hD
  go_loopw [8, 9, 10] (fun u l i wr => ∃ k : Nat, k ≤ 2 ∧ u = .int .i64 k ∧ MX w f en tx q (.slice A rs.length c) (.slice (some ⟨g4, 0, none⟩) rs.length cap4) gt rs wr) (fun u _ _ _ => 2 - (intOf u).toNat)
  case atStart => exact ⟨0, by omega, rfl, HMX.out⟩
  case round =>
    obtain ⟨k, hk, rfl, hmx⟩ := hrel
    obtain ⟨Wr, hWr⟩ : ∃ X, X = wr := ⟨_, rfl⟩
    subst hWr
    by_cases hlt : k < 2
    · obtain ⟨⟨c0, c1, c2, c3, c4⟩, d0, d1, d2, d3, d4⟩ := hmx.all
      have HK := Lib.hid hmx
      have hk2 : (k : Int) < 2 := by omega
      clear hmx
      go_wp2_with fail
      clear c0 c1 c2 c3 c4 d0 d1 d2 d3 d4
      refine (HD1.out _ HK.out).mono ?_
      rintro e w6 ⟨v9, rfl, hg9⟩
      have HK6 := Lib.hid (HK.out.step hg9.below)
      have HG9 := Lib.hid hg9
      obtain ⟨A9, c9, rfl⟩ := hg9.form
      obtain ⟨⟨c0, c1, c2, c3, c4⟩, d0, d1, d2, d3, d4⟩ := HK6.out.all
      clear hg9
      go_wp2_with fail
      clear c0 c1 c2 c3 c4 d0 d1 d2 d3 d4
      refine (HD2.out _ HK6.out).mono ?_
      rintro e w7 ⟨v10, rfl, hg10⟩
      have HG7 := Lib.hid (HG9.out.behind hg10.below)
      have HK7 := Lib.hid (HK6.out.step hg10.below)
      have HS7 := Lib.hid (lsame_any D D _ v10 w7 HG7.out.row hg10.row (by omega) (by omega))
      clear hg10
      go_wp2_with fail
      refine HS7.out.mono ?_
      rintro e w8 ⟨rfl, hb8⟩
      have e8 : (D == D) = true := by simp
      rw [e8]
      have HG8 := Lib.hid (HG7.out.behind hb8)
      have HK8 := Lib.hid (HK7.out.step hb8)
      clear hb8 HG7 HG9 HS7 HK7 HK6 e8
      go_wp2_with fail
      obtain ⟨n0, hn0⟩ : ∃ n0, n0 = Wr.heap.size := ⟨_, rfl⟩
      have hst : Below n0 Wr w8 := by rw [hn0]; exact HG8.out.below
      have HSP := Lib.hid (show 0 < D.length → ∃ g cur, A9 = some ⟨g, 0, none⟩ ∧ n0 ≤ g ∧ w8.heap[g]? = some (.cells cur 9 (0, 0)) ∧ D.length ≤ cur.size from fun hp => by rw [hn0]; exact HG8.out.blk_own hp)
      have HST := Lib.hid hst
      have HN0 := Lib.hid hn0
      clear hst hn0 HG8 HK8
      go_loopw [10] (fun i W => ∃ j : Nat, j ≤ D.length ∧ i = .int .i64 j ∧ Below n0 Wr W ∧ (0 < D.length → ∃ g cur, A9 = some ⟨g, 0, none⟩ ∧ n0 ≤ g ∧ W.heap[g]? = some (.cells cur 9 (0, 0)) ∧ D.length ≤ cur.size)) (fun i _ => D.length - (intOf i).toNat)
      case atStart => exact ⟨0, by omega, rfl, HST.out, HSP.out⟩
      case round =>
        obtain ⟨j, hj, rfl, hbb, hsp⟩ := hrel
        by_cases hjl : j < D.length
        · obtain ⟨g, cur, rfl, hg0, hgc, hcs⟩ := hsp (by omega)
          have hjc : j < cur.size := by omega
          have q0 : wr.cell? ⟨g, j, none⟩ = some cur[j] := by rw [cellAt hgc, Array.getElem?_eq_getElem hjc]
          have q1 : wr.frozen? ⟨g, j, none⟩ = false := freeAt hgc j
          have q2 : g < wr.heap.size := lt_of_blk hgc
          have HBB := Lib.hid hbb
          have HGC := Lib.hid hgc
          have HG0 := Lib.hid hg0
          have HCS := Lib.hid hcs
          have hj2 : (j : Int) < (D.length : Int) := by omega
          clear hbb hsp hgc hg0 hcs
          go_wp2_with fail
          go_roundw
          case rel =>
            refine ⟨j + 1, by omega, by go_num, HBB.out.setCell (p := ⟨g, j, none⟩) HG0.out _, fun _ => ⟨g, _, rfl, HG0.out, by simp [World.setCell, Array.getElem?_modify, HGC.out]; rfl, ?_⟩⟩
            have := HCS.out
            simpa using this
          case measure => simp [intOf]; omega
        · obtain rfl : j = D.length := by omega
          have HBB := Lib.hid hbb
          clear hbb hsp
          go_wp2_with fail
          go_roundw
          case rel => exact ⟨k + 1, by omega, by go_num, HK.out.step (by rw [← HN0.out]; exact HBB.out)⟩
          case measure => simp [intOf]; omega
    · obtain rfl : k = 2 := by omega
      have HK := Lib.hid hmx
      clear hmx HMX HD1 HD2 hDl hlt hk
      go_wp2_with fail
      rw [show ((2 : Nat) : Int) = 2 from rfl]
      go_loopw [11] (fun i W => ∃ j : Nat, j ≤ rs.length ∧ i = .int .i64 j ∧ MX w f en tx q (.slice A rs.length c) (.slice (some ⟨g4, 0, none⟩) rs.length cap4) gt rs W) (fun i _ => rs.length - (intOf i).toNat)
      case atStart => exact ⟨0, by omega, rfl, HK.out⟩
      case round =>
        clear HK
        obtain ⟨j, hj, rfl, hk3⟩ := hrel
        have HK := Lib.hid hk3
        clear hk3
        obtain ⟨⟨c0, c1, c2, c3, c4⟩, d0, d1, d2, d3, d4⟩ := HK.out.all
        by_cases hjl : j < rs.length
        · obtain ⟨x, hx⟩ : ∃ x, x = (rs.getD j rc0).1 := ⟨_, rfl⟩
          obtain ⟨b, hb⟩ : ∃ x, x = (rs.getD j rc0).2 := ⟨_, rfl⟩
          obtain ⟨_, p1, p2⟩ := HK.out.2.at_ hjl
          obtain ⟨A', c', e, hh⟩ := HV.out.step HK.out.below
          simp only [Value.slice.injEq] at e
          obtain ⟨rfl, _, _⟩ := e
          obtain ⟨ga, oa, rfl, _, hcc⟩ := hh (by omega)
          obtain ⟨p3, p4⟩ := hcc j hjl
          rw [← hx] at p1 p3
          rw [← hb] at p2 p4
          have hj2 : (j : Int) < (rs.length : Int) := by omega
          have hj3 : (0 : Int) ≤ (j : Int) := by omega
          simp only [Nat.zero_add] at p1 p2
          clear hx hb hh hcc c0 c2 c3 c4 d0 d2 d3 d4
          go_wp2_with fail
          go_quiet (fail)
          all_goals (try go_wp2)
          all_goals go_roundw
          all_goals first | (case rel => exact ⟨j + 1, by omega, by go_num, HK.out.step (below_drewN (Below.refl _ _) _)⟩) | skip
          all_goals first | (case measure => simp [intOf]; omega) | skip
          all_goals sorry
        · obtain rfl : j = rs.length := by omega
          obtain ⟨z, hz⟩ : ∃ z, z = mailL f (tosL rs) en tx r m := ⟨_, rfl⟩
          have C1 := fun (W : World) (h : MX w f en tx q (.slice A rs.length c) (.slice (some ⟨g4, 0, none⟩) rs.length cap4) gt rs W) => mx (mail_any f en tx q rs _ r m W h.2 (by omega) HX.out (by omega) (by omega) (by omega) h.ml) h
          have C2 := fun (W : World) (h : MX w f en tx q (.slice A rs.length c) (.slice (some ⟨g4, 0, none⟩) rs.length cap4) gt rs W) => mx (rmail_any f en tx q rs A c r m W (HV.out.step h.below) (by omega) HX.out (by omega) (by omega) (by omega) h.ml) h
          have C3 := fun (W : World) (h : MX w f en tx q (.slice A rs.length c) (.slice (some ⟨g4, 0, none⟩) rs.length cap4) gt rs W) => (show Calls Tryz.prog 9 #[] W fun e w' => e = .returned (.bool true) ∧ MX w f en tx q (.slice A rs.length c) (.slice (some ⟨g4, 0, none⟩) rs.length cap4) gt rs w' from
            (works_bl W (BL.start h.ml)).mono fun _ _ ⟨h1, h2⟩ => ⟨h1, h.step h2.below⟩)
          rw [← hz] at C1 C2
          have D1 := Lib.hid C1
          have D2 := Lib.hid C2
          have D3 := Lib.hid C3
          clear C1 C2 C3 hz
          go_wp2_with fail
          clear c0 c1 c2 c3 c4 d0 d1 d2 d3 d4
          have HALL := Lib.hid (show ∀ W, MX w f en tx q (.slice A rs.length c) (.slice (some ⟨g4, 0, none⟩) rs.length cap4) gt rs W → MX w f en tx q (.slice A rs.length c) (.slice (some ⟨g4, 0, none⟩) rs.length cap4) gt rs W ∧ W.cell? ⟨w.heap.size, 0, none⟩ = some (sv f) ∧ W.cell? ⟨w.heap.size, 1, none⟩ = some (.slice A rs.length c) ∧ W.cell? ⟨w.heap.size, 2, none⟩ = some (.bool q) ∧ W.cell? ⟨w.heap.size, 3, none⟩ = some (sv en) ∧ W.cell? ⟨w.heap.size, 4, none⟩ = some (sv tx) ∧
            W.cell? ⟨gt, 0, none⟩ = some (sv f) ∧ W.cell? ⟨gt, 1, none⟩ = some (.slice (some ⟨g4, 0, none⟩) rs.length cap4) ∧ W.cell? ⟨gt, 2, none⟩ = some (.bool q) ∧ W.cell? ⟨gt, 3, none⟩ = some (sv en) ∧ W.cell? ⟨gt, 4, none⟩ = some (sv tx) from fun W h => by
              obtain ⟨⟨a0, a1, a2, a3, a4⟩, b0, b1, b2, b3, b4⟩ := h.all
              exact ⟨h, a0, a1, a2, a3, a4, b0, b1, b2, b3, b4⟩)
          obtain ⟨hk, c0, c1, c2, c3, c4, d0, d1, d2, d3, d4⟩ := HALL.out _ HK.out
          have hzz : (z == z) = true := by simp
          go_region_held3 (fun W => MX w f en tx q (.slice A rs.length c) (.slice (some ⟨g4, 0, none⟩) rs.length cap4) gt rs W ∧ W.cell? ⟨w.heap.size, 0, none⟩ = some (sv f) ∧ W.cell? ⟨w.heap.size, 1, none⟩ = some (.slice A rs.length c) ∧ W.cell? ⟨w.heap.size, 2, none⟩ = some (.bool q) ∧ W.cell? ⟨w.heap.size, 3, none⟩ = some (sv en) ∧ W.cell? ⟨w.heap.size, 4, none⟩ = some (sv tx) ∧
            W.cell? ⟨gt, 0, none⟩ = some (sv f) ∧ W.cell? ⟨gt, 1, none⟩ = some (.slice (some ⟨g4, 0, none⟩) rs.length cap4) ∧ W.cell? ⟨gt, 2, none⟩ = some (.bool q) ∧ W.cell? ⟨gt, 3, none⟩ = some (sv en) ∧ W.cell? ⟨gt, 4, none⟩ = some (sv tx)) (first | exact HALL.out _ (by assumption) | exact HALL.out _ (MX.drew (by assumption)))
            (first
              | (go_at_call 13; with_reducible refine (D1.out _ (by first | assumption | exact MX.drew (by assumption))).mono ?_; rintro e1 w8 ⟨rfl, hR⟩)
              | (go_at_call 14; with_reducible refine (D2.out _ (by first | assumption | exact MX.drew (by assumption))).mono ?_; rintro e1 w8 ⟨rfl, hR⟩)
              | (go_at_call 9; with_reducible refine (D3.out _ (by first | assumption | exact MX.drew (by assumption))).mono ?_; rintro e1 w8 ⟨rfl, hR⟩))
          all_goals (try go_wp2)
          all_goals go_ret
          all_goals exact ⟨rfl, MX.below (by assumption)⟩

theorem addrMails_walk (f en tx : List UInt8) (q : Bool) (rs : List RC) (A : Option Addr) (c : Nat) (r m : Int) {w : World} (hv : RcIs w (.slice A rs.length c) rs) (hl : rs.length ≤ 9223372036854775807) (hx : ∀ r ∈ rs, r.1.length ≤ 9223372036854775807) (hf : f.length ≤ 9223372036854775807) (hen : en.length ≤ 9223372036854775807) (htx : tx.length ≤ 9223372036854775807) (_hc : rs.length ≤ c) (hM : ML w) :
    Calls Tryz.prog 3 #[mailV f (.slice A rs.length c) q en tx, .int .i64 r, .int .i64 m] w fun e w' => e = .returned (.bool true) ∧ Below w.heap.size w w' := by
  cases h : longL (f :: en :: tx :: tosL (rs.take 400)) with
  | true => exact addrMails_long f en tx q rs A c r m w hv hl hx hf hen htx hM (.inl h)
  | false =>
    by_cases hn : 300 < rs.length
    · exact addrMails_long f en tx q rs A c r m w hv hl hx hf hen htx hM (.inr ⟨h, hn⟩)
    · exact addrMails_short f en tx q rs A c r m w hv hM h (by omega)
end Go.Proofs.YtbmjmiioobgbfaaGreatDoor
