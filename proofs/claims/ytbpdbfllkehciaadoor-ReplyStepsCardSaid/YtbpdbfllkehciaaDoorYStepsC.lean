/-
  ReplySteps's walk: true for any lines.
-/
import Derived.Deep.QuietTactic
import Derived.Test.YtbpdbfllkehciaaDoorYStepsP
namespace Go.Proofs.YtbpdbfllkehciaaDoor
open Go Go.RowKit Go.Shelf
set_option maxRecDepth 100000

theorem steps_long (xs : List (List UInt8)) (v : Value) (w : World) (hw : LW w) (hx : SR w v xs) (hn : xs.length ≤ 140737488351232) (hl : ∀ x ∈ xs, x.length ≤ 9223372036854775807) (hb : longB xs = true) :
    Calls Tryd.prog 7 #[v] w fun e w' => e = .returned (.bool true) ∧ Below w.heap.size w w' := by
  have HL := Lib.hid (long_any xs v w hx hn hl)
  rw [hb] at HL
  have HA := Lib.hid (awake_any w hw)
  obtain ⟨A, c, rfl, _⟩ := hx
  clear hw hl hb
  go_enter Tryd.func7, Tryd.ntmps7
  go_wp2_with fail
  refine (HL.out).mono ?_
  rintro e w1 ⟨rfl, rfl⟩
  go_wp2_with fail
  refine (HA.out).mono ?_
  rintro e w2 ⟨rfl, hb⟩
  have B1 := Lib.hid hb
  clear hb
  go_wp2_with fail
  go_ret
  exact ⟨rfl, B1.out⟩

theorem sp_start {w W1 W2 W3 : World} {b a k : Nat} (h1 : Rd w.heap.size W1 b [b] rs0) (hb1 : BL w W1) (h2 : Rd w.heap.size W2 a [a] rs0) (hb2 : Below W1.heap.size W1 W2) (ha : a = W1.heap.size) (hk : k = W2.heap.size) (h3 : W3 = W2.alloc (.cells #[.int .i64 0, sv [], .slice none 0 0] 28)) :
    SP w W3 b [b] rs0 a [a] rs0 k 0 [] (.slice none 0 0) [] [] := by
  have hb3 : Below W2.heap.size W2 W3 := by rw [h3]; exact below_alloc _ _
  have e1 := h1.lt b (by simp)
  have e2 := h2.lt a (by simp)
  have e3 := hb2.size
  have e4 := h1.up b (by simp)
  exact ⟨(hb1.step hb2).step hb3, (h1.below hb2).below hb3, h2.below hb3, by rw [h3, hk]; exact heap_alloc_new _ _, Rw.nil _ _, fun k' e e' => by simp at e e'; omega, by simp; omega, by simp; omega, by simp, fun k e => by simp at e, fun k e => by simp at e, by omega⟩

theorem rsame_same (c : Nat) (a : List UInt8) (xs : List (List UInt8)) (v u : Value) (w : World) (hx : RowIs w v xs) (hy : RowIs w u xs) (hl : xs.length ≤ 1000000) :
    Calls Tryd.prog 28 #[repV c a v, repV c a u] w fun e w' => e = .returned (.bool true) ∧ Below w.heap.size w w' := by
  have := rsame_any c c a a xs xs v u w hx hy hl hl
  simpa using this

theorem step_dead {st : RS} (h : st.d = true) (s : List UInt8) : stepR st s = st := by unfold stepR; rw [if_pos h]
theorem done_dead {st : RS} (h : st.d = true) (s : List UInt8) : doneR st s = false := by unfold doneR; rw [h]; rfl
theorem err_dead {st : RS} (h : st.d = true) (s : List UInt8) : errR st s = 7 := by unfold errR; rw [if_pos h]
def Eqs (has : Bool) (p : Prop) : Prop := has = true → p
/-- What a round begins and ends by. -/
def SI (w W : World) (b a kl : Nat) (has : Bool) : Prop :=
  ∃ F st H sa lc lst ul G xs, SP w W b F st a H sa kl lc lst ul G xs ∧ Rel st sa ∧ has = decide (0 < st.lls.length) ∧ Eqs has (lc = st.lc ∧ lst = st.lst ∧ xs = st.lls)

set_option maxHeartbeats 64000000 in
theorem steps_short (xs : List (List UInt8)) (v : Value) (w : World) (hw : LW w) (hx : SR w v xs) (hn : xs.length ≤ 140737488351232) (hl : ∀ x ∈ xs, x.length ≤ 9223372036854775807) (hb : longB xs = false) :
    Calls Tryd.prog 7 #[v] w fun e w' => e = .returned (.bool true) ∧ Below w.heap.size w w' := by
  have HL := Lib.hid (long_any xs v w hx hn hl)
  rw [hb] at HL
  have HA := Lib.hid (awake_any w hw)
  have HX := Lib.hid (show ∀ x ∈ xs, x.length ≤ 1000000 from fun x h => by
    have := bulk_mem h
    unfold longB at hb
    have := of_decide_eq_false hb
    omega)
  have HSR := Lib.hid hx
  have HB := Lib.hid (BL.start hw)
  obtain ⟨A, c, rfl, hxs⟩ := hx
  have HXS := Lib.hid hxs
  clear hw hl hb hxs
  go_enter Tryd.func7, Tryd.ntmps7
  go_wp2_with fail
  refine (HL.out).mono ?_
  rintro e w1 ⟨rfl, rfl⟩
  go_wp2_with fail
  refine (HA.out).mono ?_
  rintro e w2 ⟨rfl, hb⟩
  have B2 := Lib.hid ((HB.out).step hb)
  clear hb
  go_wp2_with fail
  refine (new_of B2.out).mono ?_
  rintro e w3 ⟨b, rfl, -, r, hb, -⟩
  have R3 := Lib.hid r; have B3 := Lib.hid hb
  clear r hb
  go_wp2_with fail
  refine (new_of B3.out).mono ?_
  rintro e w4 ⟨a, rfl, ha, r, -, hb⟩
  have R4 := Lib.hid r; have BB4 := Lib.hid hb; have HAE := Lib.hid ha
  clear r hb ha
  go_wp2_with fail
  obtain ⟨kl, hkl⟩ : ∃ k, k = w4.heap.size := ⟨_, rfl⟩
  obtain ⟨W0, hW0⟩ : ∃ X, X = w4.alloc (Obj.cells #[.int .i64 0, .string { data := #[] }, .slice none 0 0] 28) := ⟨_, rfl⟩
  rw [← hkl, ← hW0]
  have H0 := Lib.hid (show SI w W0 b a kl false from ⟨_, _, _, _, _, _, _, _, _, sp_start R3.out B3.out R4.out BB4.out HAE.out hkl hW0, Rel.start, rfl, fun e => by cases e⟩)
  clear hkl hW0
  go_loopw [4, 6, 7, 8, 9, 10, 11, 12, 13, 14, 15] (fun p h i _ _ _ _ _ _ _ _ wr => ∃ k : Nat, k ≤ xs.length ∧ i = .int .i64 k ∧ ∃ a has, p = .pointer (some ⟨a, 0, none⟩) ∧ h = .bool has ∧ SI w wr b a kl has) (fun _ _ i _ _ _ _ _ _ _ _ _ => xs.length - (intOf i).toNat)
  case atStart => exact ⟨0, Nat.zero_le _, rfl, a, false, rfl, rfl, H0.out⟩
  case round =>
    obtain ⟨k, hk, rfl, a, has, rfl, rfl, F, st, H, sa, lc, lst, ul, G, ys, hsp, hrel, hhas, heq⟩ := hrel
    by_cases hlt : k < xs.length
    · obtain ⟨x, hx'⟩ : ∃ x, x = xs[k] := ⟨_, rfl⟩
      have hxl : x.length ≤ 1000000 := by rw [hx']; exact HX.out _ (List.getElem_mem hlt)
      have HXE := Lib.hid hx'
      have HXL := Lib.hid hxl
      have HCX := Lib.hid (show ∀ W, BL w W → ∀ bb oo, A = some ⟨bb, oo, none⟩ → W.cell? ⟨bb, oo + k, none⟩ = some (sv x) from fun W hb bb oo e => by
        obtain ⟨A', c', e', h⟩ := HSR.out
        simp only [Value.slice.injEq] at e'
        obtain ⟨rfl, _, rfl⟩ := e'
        rcases h with h | ⟨b', o', e2, hl2, hc2⟩
        · rw [h] at hlt; simp at hlt
        · rw [e] at e2
          simp only [Option.some.injEq, Addr.mk.injEq] at e2
          obtain ⟨rfl, rfl, _⟩ := e2
          rw [hx']
          exact (hb.below.cell (p := ⟨bb, oo + k, none⟩) hl2).trans (hc2 k hlt))
      obtain ⟨bb, oo, rfl⟩ : ∃ bb oo, A = some ⟨bb, oo, none⟩ := by
        rcases HXS.out with h | ⟨b', o', e2, _⟩
        · rw [h] at hlt; simp at hlt
        · exact ⟨b', o', e2⟩
      have c1 := HCX.out _ hsp.bl bb oo rfl
      have e1 := rel_done hrel x
      have e2 := rel_err hrel x
      have hst := rel_step hrel x
      obtain ⟨Al, cl, rfl⟩ := hsp.row.form
      have HS := Lib.hid hsp
      clear hx' hxl hsp
      rcases hst with ⟨d1, d2, d3, d4, d5, d6, d7⟩ | ⟨d1, d2, d3, d4, d5, d6⟩ | ⟨d1, d2, d3, d4, d5, d6⟩
      · rw [d1] at e1
        rw [d2] at e2
        have D1 := Lib.hid d1; have D2 := Lib.hid d2; have E1 := Lib.hid e1; have E2 := Lib.hid e2
        have D3 := Lib.hid d3; have D4 := Lib.hid d4; have D5 := Lib.hid d5; have D6 := Lib.hid d6; have D7 := Lib.hid d7
        clear d1 d2 d3 d4 d5 d6 d7 e1 e2 hrel hhas heq
        go_wp2_with fail
        refine (line_of HS.out.r HS.out.bl HXL.out D1.out D2.out rfl).mono ?_
        rintro e w5 ⟨F5, rfl, r, hb, hk1, hn⟩
        have HS1 := Lib.hid (HS.out.turnR r hb hk1 hn)
        have c2 := HCX.out _ hb bb oo rfl
        clear r hb hk1 hn c1
        go_wp2_with fail
        refine (line_of HS1.out.al HS1.out.bl HXL.out E1.out E2.out rfl).mono ?_
        rintro e w6 ⟨H6, rfl, r, hb, hk1, hn⟩
        have HS2 := Lib.hid (HS1.out.turnA r hb hk1 hn)
        clear r hb hk1 hn c2
        go_wp2_with fail
        refine (take_of (has := true) HS2.out.al HS2.out.bl D4.out D5.out D6.out (decide_eq_true D7.out)).mono ?_
        rintro e w7 ⟨u7, H7, G7, rfl, r, hg, hb, hk1, hn, hn2, hd, hgs⟩
        have HS3 := Lib.hid (HS2.out.turnA r hb hk1 hn)
        have HG7 := Lib.hid hg
        have HD7 := Lib.hid (show (kl ∉ G7) ∧ (∀ k ∈ G7, k ∉ F5) ∧ (∀ k ∈ G7, k ∉ H7) from ⟨fun e => HS2.out.kh (hgs _ e), fun k e e' => HS2.out.fh k e' (hgs k e), hd⟩)
        obtain ⟨A7, c7, rfl⟩ := hg.form
        obtain ⟨zc, hzc⟩ : ∃ z, z = (stepR st x).lc := ⟨_, rfl⟩
        obtain ⟨zs, hzs⟩ : ∃ z, z = (stepR st x).lst := ⟨_, rfl⟩
        obtain ⟨zl, hzl⟩ : ∃ z, z = (stepR st x).lls := ⟨_, rfl⟩
        rw [← hzl] at HG7
        rw [← hzc, ← hzs, ← hzl]
        have HQ := Lib.hid (show Eqs true (zc = (stepR st x).lc ∧ zs = (stepR st x).lst ∧ zl = (stepR st x).lls) from fun _ => ⟨hzc, hzs, hzl⟩)
        have q0 := HS3.out.box.c0; have q1 := HS3.out.box.c1; have q2 := HS3.out.box.c2
        have f0 := HS3.out.box.fr 0; have f1 := HS3.out.box.fr 1; have f2 := HS3.out.box.fr 2
        clear r hg hb hk1 hn hn2 hd hgs hzc hzs hzl
        unfold repV
        go_wp2_with fail
        clear q0 q1 q2 f0 f1 f2
        have HS4 := Lib.hid (HS3.out.setL (lc' := zc) (lst' := zs) HG7.out HD7.out.1 HD7.out.2.1 HD7.out.2.2)
        obtain ⟨w7', hw7⟩ : ∃ X, X = ((w7.setCell ⟨kl, 0, none⟩ (.int .i64 (zc : Int))).setCell ⟨kl, 1, none⟩ (sv zs)).setCell ⟨kl, 2, none⟩ (.slice A7 zl.length c7) := ⟨_, rfl⟩
        rw [← hw7] at HS4 ⊢
        clear hw7
        refine (new_of HS4.out.bl).mono ?_
        rintro e wn ⟨a', rfl, ha', r, -, hb⟩
        have HSn := Lib.hid (HS4.out.newA hb r (fun j hj => by simp only [List.mem_singleton] at hj; omega))
        have HH := Lib.hid (show decide (0 < (stepR st x).lls.length) = true from decide_eq_true D7.out)
        clear r hb ha'
        go_wp2_with fail
        refine (copy_of HSn.out.r HSn.out.bl).mono ?_
        rintro e w8 ⟨cc, HC, rfl, r, hb, hbel, hge⟩
        have RC := Lib.hid r; have BC := Lib.hid hb; have HBE := Lib.hid hbel; have HGE := Lib.hid hge
        clear r hb hbel hge
        go_wp2_with fail
        refine (take_of (lc := (stepR st x).lc) (lst := (stepR st x).lst) (lls := (stepR st x).lls) (has := true) RC.out BC.out rfl rfl rfl HH.out).mono ?_
        rintro e w9 ⟨u9, F9, G9, rfl, -, hg, -, hk1, -, -, -, -⟩
        obtain ⟨A9, c9, rfl⟩ := hg.form
        have hb9 : Below wn.heap.size wn w9 := (HBE.out).trans (hk1.to_below HGE.out HBE.out.size)
        obtain ⟨tc, htc⟩ : ∃ z, z = (stepR st x).lc := ⟨_, rfl⟩
        obtain ⟨ts, hts⟩ : ∃ z, z = (stepR st x).lst := ⟨_, rfl⟩
        obtain ⟨tl, htl⟩ : ∃ z, z = (stepR st x).lls := ⟨_, rfl⟩
        rw [← htl] at hg
        rw [← htc, ← hts, ← htl]
        obtain ⟨kx, hkx⟩ : ∃ k, k = w9.heap.size := ⟨_, rfl⟩
        obtain ⟨w10, hw10⟩ : ∃ X, X = w9.alloc (Obj.cells #[.int .i64 (tc : Int), sv ts, .slice A9 tl.length c9] 28) := ⟨_, rfl⟩
        have hb10 : Below w9.heap.size w9 w10 := by rw [hw10]; exact below_alloc _ _
        have HS10 := Lib.hid ((HSn.out.below hb9).below hb10)
        have VX := Lib.hid (show Bk w10 kx tc ts (.slice A9 tl.length c9) by rw [hw10, hkx]; exact Bk.new _ _ _ _)
        have RX := Lib.hid (hg.below hb10).row
        have hszz := hb9.size
        have NX := Lib.hid (show kx ∉ F5 ∧ kx ∉ [a'] ∧ kx ∉ G7 ∧ kx ≠ kl ∧ w.heap.size ≤ kx ∧ 3 ≤ kx from by
          have z1 := HSn.out.box.lt
          have z2 := HSn.out.kb
          exact ⟨fun e => by have := HSn.out.r.lt _ e; omega, fun e => by have := HSn.out.al.lt _ e; omega, fun e => by have := HSn.out.row.lt _ e; omega, by omega, by omega, by omega⟩)
        have HTC := Lib.hid htc; have HTS := Lib.hid hts; have HTL := Lib.hid htl
        have x0 := VX.out.c0; have x1 := VX.out.c1; have x2 := VX.out.c2
        have y0 := HS10.out.box.c0; have y1 := HS10.out.box.c1; have y2 := HS10.out.box.c2
        rw [hw10] at x0 x1 x2 y0 y1 y2
        have HKX := Lib.hid hkx; have HW10 := Lib.hid hw10; have LTL := Lib.hid (show tl.length ≤ 1000000 from by rw [htl]; have := HSn.out.r.len.2; omega)
        clear hg hk1 hb9 hb10 hszz htc hts htl hkx hw10
        unfold repV
        go_wp2_with fail
        rw [← HKX.out, ← HW10.out]
        clear x0 x1 x2 y0 y1 y2
        have HQQ := Lib.hid (show zc = tc ∧ zs = ts ∧ zl = tl from by rw [HTC.out, HTS.out, HTL.out]; exact HQ.out rfl)
        have HSM := Lib.hid (show Calls Tryd.prog 28 #[repV tc ts (.slice A9 tl.length c9), repV zc zs (.slice A7 zl.length c7)] w10 fun e w' => e = .returned (.bool true) ∧ Below w10.heap.size w10 w' from by
          have z := HS10.out.row.row
          obtain ⟨z1, z2, z3⟩ := HQQ.out
          rw [z1, z2]
          rw [z3] at z ⊢
          exact rsame_same tc ts tl _ _ w10 RX.out z LTL.out)
        unfold repV at HSM
        refine (HSM.out).mono ?_
        rintro e w11 ⟨rfl, hb11⟩
        have HS11 := Lib.hid (HS10.out.below hb11); have VX11 := Lib.hid (VX.out.below hb11)
        clear hb11
        go_wp2_with fail
        go_roundw
        case rel => exact ⟨k + 1, by omega, by go_num, _, _, rfl, rfl, F5, _, _, _, _, _, _, _, _, HS11.out, D3.out, HH.out.symm, HQ.out⟩
        case measure => simp [intOf]; omega
      · rw [d1] at e1
        rw [d2] at e2
        have D1 := Lib.hid d1; have D2 := Lib.hid d2; have E1 := Lib.hid e1; have E2 := Lib.hid e2
        have D3 := Lib.hid d3
        clear d2
        have HQ := Lib.hid (show Eqs has (lc = (stepR st x).lc ∧ lst = (stepR st x).lst ∧ ys = (stepR st x).lls) from by rw [d4, d5, d6]; exact heq)
        have HH := Lib.hid (show decide (0 < (stepR st x).lls.length) = has from by rw [d6]; exact hhas.symm)
        clear d1 d3 d4 d5 d6 e1 e2 hrel hhas heq
        cases has with
        | true =>
          go_wp2_with fail
          refine (line_of HS.out.r HS.out.bl HXL.out D1.out D2.out rfl).mono ?_
          rintro e w5 ⟨F5, rfl, r, hb, hk1, hn⟩
          have HS1 := Lib.hid (HS.out.turnR r hb hk1 hn)
          have c2 := HCX.out _ hb bb oo rfl
          clear r hb hk1 hn c1
          go_wp2_with fail
          refine (line_of HS1.out.al HS1.out.bl HXL.out E1.out E2.out rfl).mono ?_
          rintro e w6 ⟨H6, rfl, r, hb, hk1, hn⟩
          have HS2 := Lib.hid (HS1.out.turnA r hb hk1 hn)
          clear r hb hk1 hn c2
          go_wp2_with fail
          refine (copy_of HS2.out.r HS2.out.bl).mono ?_
          rintro e w8 ⟨cc, HC, rfl, r, hb, hbel, hge⟩
          have RC := Lib.hid r; have BC := Lib.hid hb; have HBE := Lib.hid hbel; have HGE := Lib.hid hge
          clear r hb hbel hge
          go_wp2_with fail
          refine (take_of (lc := (stepR st x).lc) (lst := (stepR st x).lst) (lls := (stepR st x).lls) (has := true) RC.out BC.out rfl rfl rfl HH.out).mono ?_
          rintro e w9 ⟨u9, F9, G9, rfl, -, hg, -, hk1, -, -, -, -⟩
          obtain ⟨A9, c9, rfl⟩ := hg.form
          have hb9 : Below w6.heap.size w6 w9 := (HBE.out).trans (hk1.to_below HGE.out HBE.out.size)
          obtain ⟨tc, htc⟩ : ∃ z, z = (stepR st x).lc := ⟨_, rfl⟩
          obtain ⟨ts, hts⟩ : ∃ z, z = (stepR st x).lst := ⟨_, rfl⟩
          obtain ⟨tl, htl⟩ : ∃ z, z = (stepR st x).lls := ⟨_, rfl⟩
          rw [← htl] at hg
          rw [← htc, ← hts, ← htl]
          obtain ⟨kx, hkx⟩ : ∃ k, k = w9.heap.size := ⟨_, rfl⟩
          obtain ⟨w10, hw10⟩ : ∃ X, X = w9.alloc (Obj.cells #[.int .i64 (tc : Int), sv ts, .slice A9 tl.length c9] 28) := ⟨_, rfl⟩
          have hb10 : Below w9.heap.size w9 w10 := by rw [hw10]; exact below_alloc _ _
          have HS10 := Lib.hid ((HS2.out.below hb9).below hb10)
          have VX := Lib.hid (show Bk w10 kx tc ts (.slice A9 tl.length c9) by rw [hw10, hkx]; exact Bk.new _ _ _ _)
          have RX := Lib.hid (hg.below hb10).row
          have hszz := hb9.size
          have NX := Lib.hid (show kx ∉ F5 ∧ kx ∉ H6 ∧ kx ∉ G ∧ kx ≠ kl ∧ w.heap.size ≤ kx ∧ 3 ≤ kx from by
            have z1 := HS2.out.box.lt
            have z2 := HS2.out.kb
            exact ⟨fun e => by have := HS2.out.r.lt _ e; omega, fun e => by have := HS2.out.al.lt _ e; omega, fun e => by have := HS2.out.row.lt _ e; omega, by omega, by omega, by omega⟩)
          have HTC := Lib.hid htc; have HTS := Lib.hid hts; have HTL := Lib.hid htl
          have x0 := VX.out.c0; have x1 := VX.out.c1; have x2 := VX.out.c2
          have y0 := HS10.out.box.c0; have y1 := HS10.out.box.c1; have y2 := HS10.out.box.c2
          rw [hw10] at x0 x1 x2 y0 y1 y2
          have HKX := Lib.hid hkx; have HW10 := Lib.hid hw10; have LTL := Lib.hid (show tl.length ≤ 1000000 from by rw [htl]; have := HS2.out.r.len.2; omega)
          clear hg hk1 hb9 hb10 hszz htc hts htl hkx hw10
          unfold repV
          go_wp2_with fail
          rw [← HKX.out, ← HW10.out]
          clear x0 x1 x2 y0 y1 y2
          have HQQ := Lib.hid (show lc = tc ∧ lst = ts ∧ ys = tl from by rw [HTC.out, HTS.out, HTL.out]; exact HQ.out rfl)
          have HSM := Lib.hid (show Calls Tryd.prog 28 #[repV tc ts (.slice A9 tl.length c9), repV lc lst (.slice Al ys.length cl)] w10 fun e w' => e = .returned (.bool true) ∧ Below w10.heap.size w10 w' from by
            have z := HS10.out.row.row
            obtain ⟨z1, z2, z3⟩ := HQQ.out
            rw [z1, z2]
            rw [z3] at z ⊢
            exact rsame_same tc ts tl _ _ w10 RX.out z LTL.out)
          unfold repV at HSM
          refine (HSM.out).mono ?_
          rintro e w11 ⟨rfl, hb11⟩
          have HS11 := Lib.hid (HS10.out.below hb11); have VX11 := Lib.hid (VX.out.below hb11)
          clear hb11
          go_wp2_with fail
          go_roundw
          case rel => exact ⟨k + 1, by omega, by go_num, _, _, rfl, rfl, F5, _, _, _, _, _, _, _, _, HS11.out, D3.out, HH.out.symm, HQ.out⟩
          case measure => simp [intOf]; omega
        | false =>
          go_wp2_with fail
          refine (line_of HS.out.r HS.out.bl HXL.out D1.out D2.out rfl).mono ?_
          rintro e w5 ⟨F5, rfl, r, hb, hk1, hn⟩
          have HS1 := Lib.hid (HS.out.turnR r hb hk1 hn)
          have c2 := HCX.out _ hb bb oo rfl
          clear r hb hk1 hn c1
          go_wp2_with fail
          refine (line_of HS1.out.al HS1.out.bl HXL.out E1.out E2.out rfl).mono ?_
          rintro e w6 ⟨H6, rfl, r, hb, hk1, hn⟩
          have HS2 := Lib.hid (HS1.out.turnA r hb hk1 hn)
          clear r hb hk1 hn c2
          go_wp2_with fail
          refine (copy_of HS2.out.r HS2.out.bl).mono ?_
          rintro e w8 ⟨cc, HC, rfl, r, hb, hbel, hge⟩
          have RC := Lib.hid r; have BC := Lib.hid hb; have HBE := Lib.hid hbel; have HGE := Lib.hid hge
          clear r hb hbel hge
          go_wp2_with fail
          refine (take_of (lc := (stepR st x).lc) (lst := (stepR st x).lst) (lls := (stepR st x).lls) (has := false) RC.out BC.out rfl rfl rfl HH.out).mono ?_
          rintro e w9 ⟨u9, F9, G9, rfl, -, hg, -, hk1, -, -, -, -⟩
          obtain ⟨A9, c9, rfl⟩ := hg.form
          have hb9 : Below w6.heap.size w6 w9 := (HBE.out).trans (hk1.to_below HGE.out HBE.out.size)
          obtain ⟨tc, htc⟩ : ∃ z, z = (stepR st x).lc := ⟨_, rfl⟩
          obtain ⟨ts, hts⟩ : ∃ z, z = (stepR st x).lst := ⟨_, rfl⟩
          obtain ⟨tl, htl⟩ : ∃ z, z = (stepR st x).lls := ⟨_, rfl⟩
          rw [← htl] at hg
          rw [← htc, ← hts, ← htl]
          obtain ⟨kx, hkx⟩ : ∃ k, k = w9.heap.size := ⟨_, rfl⟩
          obtain ⟨w10, hw10⟩ : ∃ X, X = w9.alloc (Obj.cells #[.int .i64 (tc : Int), sv ts, .slice A9 tl.length c9] 28) := ⟨_, rfl⟩
          have hb10 : Below w9.heap.size w9 w10 := by rw [hw10]; exact below_alloc _ _
          have HS10 := Lib.hid ((HS2.out.below hb9).below hb10)
          have VX := Lib.hid (show Bk w10 kx tc ts (.slice A9 tl.length c9) by rw [hw10, hkx]; exact Bk.new _ _ _ _)
          have RX := Lib.hid (hg.below hb10).row
          have hszz := hb9.size
          have NX := Lib.hid (show kx ∉ F5 ∧ kx ∉ H6 ∧ kx ∉ G ∧ kx ≠ kl ∧ w.heap.size ≤ kx ∧ 3 ≤ kx from by
            have z1 := HS2.out.box.lt
            have z2 := HS2.out.kb
            exact ⟨fun e => by have := HS2.out.r.lt _ e; omega, fun e => by have := HS2.out.al.lt _ e; omega, fun e => by have := HS2.out.row.lt _ e; omega, by omega, by omega, by omega⟩)
          have HTC := Lib.hid htc; have HTS := Lib.hid hts; have HTL := Lib.hid htl
          have x0 := VX.out.c0; have x1 := VX.out.c1; have x2 := VX.out.c2
          have y0 := HS10.out.box.c0; have y1 := HS10.out.box.c1; have y2 := HS10.out.box.c2
          rw [hw10] at x0 x1 x2 y0 y1 y2
          have HKX := Lib.hid hkx; have HW10 := Lib.hid hw10; have LTL := Lib.hid (show tl.length ≤ 1000000 from by rw [htl]; have := HS2.out.r.len.2; omega)
          clear hg hk1 hb9 hb10 hszz htc hts htl hkx hw10
          unfold repV
          go_wp2_with fail
          rw [← HW10.out]
          clear x0 x1 x2 y0 y1 y2
          have HS11 := HS10
          go_roundw
          case rel => exact ⟨k + 1, by omega, by go_num, _, _, rfl, rfl, F5, _, _, _, _, _, _, _, _, HS11.out, D3.out, HH.out.symm, HQ.out⟩
          case measure => simp [intOf]; omega
      · obtain ⟨E, hE⟩ : ∃ E, E = errR st x := ⟨_, rfl⟩
        rw [d1] at e1
        rw [← hE] at e2 d2
        have hE0 : (E != 0) = true := by rw [bne_iff_ne]; exact d2
        have D1 := Lib.hid d1; have D2 := Lib.hid hE.symm; have E1 := Lib.hid e1; have E2 := Lib.hid e2
        have D3 := Lib.hid d3
        clear hE d2
        have HQ := Lib.hid (show Eqs has (lc = (stepR st x).lc ∧ lst = (stepR st x).lst ∧ ys = (stepR st x).lls) from by rw [d4, d5, d6]; exact heq)
        have HH := Lib.hid (show decide (0 < (stepR st x).lls.length) = has from by rw [d6]; exact hhas.symm)
        clear d1 d3 d4 d5 d6 e1 e2 hrel hhas heq
        cases has with
        | true =>
          go_wp2_with fail
          refine (line_of HS.out.r HS.out.bl HXL.out D1.out D2.out rfl).mono ?_
          rintro e w5 ⟨F5, rfl, r, hb, hk1, hn⟩
          have HS1 := Lib.hid (HS.out.turnR r hb hk1 hn)
          have c2 := HCX.out _ hb bb oo rfl
          clear r hb hk1 hn c1
          go_wp2_with fail
          refine (line_of HS1.out.al HS1.out.bl HXL.out E1.out E2.out rfl).mono ?_
          rintro e w6 ⟨H6, rfl, r, hb, hk1, hn⟩
          have HS2 := Lib.hid (HS1.out.turnA r hb hk1 hn)
          clear r hb hk1 hn c2
          go_wp2_with fail
          refine (copy_of HS2.out.r HS2.out.bl).mono ?_
          rintro e w8 ⟨cc, HC, rfl, r, hb, hbel, hge⟩
          have RC := Lib.hid r; have BC := Lib.hid hb; have HBE := Lib.hid hbel; have HGE := Lib.hid hge
          clear r hb hbel hge
          go_wp2_with fail
          refine (take_of (lc := (stepR st x).lc) (lst := (stepR st x).lst) (lls := (stepR st x).lls) (has := true) RC.out BC.out rfl rfl rfl HH.out).mono ?_
          rintro e w9 ⟨u9, F9, G9, rfl, -, hg, -, hk1, -, -, -, -⟩
          obtain ⟨A9, c9, rfl⟩ := hg.form
          have hb9 : Below w6.heap.size w6 w9 := (HBE.out).trans (hk1.to_below HGE.out HBE.out.size)
          obtain ⟨tc, htc⟩ : ∃ z, z = (stepR st x).lc := ⟨_, rfl⟩
          obtain ⟨ts, hts⟩ : ∃ z, z = (stepR st x).lst := ⟨_, rfl⟩
          obtain ⟨tl, htl⟩ : ∃ z, z = (stepR st x).lls := ⟨_, rfl⟩
          rw [← htl] at hg
          rw [← htc, ← hts, ← htl]
          obtain ⟨kx, hkx⟩ : ∃ k, k = w9.heap.size := ⟨_, rfl⟩
          obtain ⟨w10, hw10⟩ : ∃ X, X = w9.alloc (Obj.cells #[.int .i64 (tc : Int), sv ts, .slice A9 tl.length c9] 28) := ⟨_, rfl⟩
          have hb10 : Below w9.heap.size w9 w10 := by rw [hw10]; exact below_alloc _ _
          have HS10 := Lib.hid ((HS2.out.below hb9).below hb10)
          have VX := Lib.hid (show Bk w10 kx tc ts (.slice A9 tl.length c9) by rw [hw10, hkx]; exact Bk.new _ _ _ _)
          have RX := Lib.hid (hg.below hb10).row
          have hszz := hb9.size
          have NX := Lib.hid (show kx ∉ F5 ∧ kx ∉ H6 ∧ kx ∉ G ∧ kx ≠ kl ∧ w.heap.size ≤ kx ∧ 3 ≤ kx from by
            have z1 := HS2.out.box.lt
            have z2 := HS2.out.kb
            exact ⟨fun e => by have := HS2.out.r.lt _ e; omega, fun e => by have := HS2.out.al.lt _ e; omega, fun e => by have := HS2.out.row.lt _ e; omega, by omega, by omega, by omega⟩)
          have HTC := Lib.hid htc; have HTS := Lib.hid hts; have HTL := Lib.hid htl
          have x0 := VX.out.c0; have x1 := VX.out.c1; have x2 := VX.out.c2
          have y0 := HS10.out.box.c0; have y1 := HS10.out.box.c1; have y2 := HS10.out.box.c2
          rw [hw10] at x0 x1 x2 y0 y1 y2
          have HKX := Lib.hid hkx; have HW10 := Lib.hid hw10; have LTL := Lib.hid (show tl.length ≤ 1000000 from by rw [htl]; have := HS2.out.r.len.2; omega)
          clear hg hk1 hb9 hb10 hszz htc hts htl hkx hw10
          unfold repV
          go_wp2_with fail
          rw [← HKX.out, ← HW10.out]
          clear x0 x1 x2 y0 y1 y2
          have HQQ := Lib.hid (show lc = tc ∧ lst = ts ∧ ys = tl from by rw [HTC.out, HTS.out, HTL.out]; exact HQ.out rfl)
          have HSM := Lib.hid (show Calls Tryd.prog 28 #[repV tc ts (.slice A9 tl.length c9), repV lc lst (.slice Al ys.length cl)] w10 fun e w' => e = .returned (.bool true) ∧ Below w10.heap.size w10 w' from by
            have z := HS10.out.row.row
            obtain ⟨z1, z2, z3⟩ := HQQ.out
            rw [z1, z2]
            rw [z3] at z ⊢
            exact rsame_same tc ts tl _ _ w10 RX.out z LTL.out)
          unfold repV at HSM
          refine (HSM.out).mono ?_
          rintro e w11 ⟨rfl, hb11⟩
          have HS11 := Lib.hid (HS10.out.below hb11); have VX11 := Lib.hid (VX.out.below hb11)
          clear hb11
          go_wp2_with fail
          refine (line_of (s := [50, 53, 48, 32, 120]) (dn := false) (er := 7) (st' := stepR st x) HS11.out.r HS11.out.bl (by decide) (done_dead D3.out _) (err_dead D3.out _) (step_dead D3.out _)).mono ?_
          rintro e w12 ⟨F12, rfl, r, hb, hk1, hn⟩
          have HS12 := Lib.hid (HS11.out.turnR r hb hk1 hn)
          have VX12 := Lib.hid (VX11.out.kp hk1 NX.out.1)
          have NX12 := Lib.hid (hn.not VX11.out.lt NX.out.1)
          clear r hb hk1 hn
          go_wp2_with fail
          refine (take_of (lc := tc) (lst := ts) (lls := tl) (has := true) HS12.out.r HS12.out.bl HTC.out.symm HTS.out.symm HTL.out.symm (by rw [HTL.out]; exact HH.out)).mono ?_
          rintro e w13 ⟨u13, F13, G13, rfl, r, hg, hb, hk1, hn, -, -, -⟩
          obtain ⟨A13, c13, rfl⟩ := hg.form
          have HS13 := Lib.hid (HS12.out.turnR r hb hk1 hn)
          have VX13 := Lib.hid (VX12.out.kp hk1 NX12.out)
          have NX13 := Lib.hid (hn.not VX12.out.lt NX12.out)
          have kp3 := kp_set3 w13 kx (.int .i64 (tc : Int)) (sv ts) (.slice A13 tl.length c13)
          have HS14 := Lib.hid (HS13.out.setX kp3 NX.out.2.2.2.1 NX13.out NX.out.2.1 NX.out.2.2.1 NX.out.2.2.2.2)
          have VX14 := Lib.hid (VX13.out.set tc ts (.slice A13 tl.length c13))
          have v0 := VX13.out.c0; have v1 := VX13.out.c1; have v2 := VX13.out.c2; have f0 := VX13.out.fr 0; have f1 := VX13.out.fr 1; have f2 := VX13.out.fr 2
          have z0 := VX14.out.c0; have l0 := HS14.out.box.c0
          clear r hg hb hk1 hn kp3
          unfold repV
          go_wp2_with fail
          obtain ⟨w14, hw14⟩ : ∃ X, X = ((w13.setCell ⟨kx, 0, none⟩ (.int .i64 (tc : Int))).setCell ⟨kx, 1, none⟩ (sv ts)).setCell ⟨kx, 2, none⟩ (.slice A13 tl.length c13) := ⟨_, rfl⟩
          rw [← hw14] at HS14 z0 l0 ⊢
          have HDD := Lib.hid (dead_any HS14.out.r)
          rw [show (takenR (stepR st x)).d = true from D3.out] at HDD
          clear hw14 v0 v1 v2 f0 f1 f2
          have hlc : lc = tc := by rw [HTC.out]; exact (HQ.out rfl).1
          rw [hlc] at l0
          clear hlc
          refine (HDD.out).mono ?_
          rintro e w14' ⟨rfl, rfl⟩
          go_wp2_with fail
          clear z0 l0
          refine (reset_of HS14.out.r HS14.out.bl).mono ?_
          rintro e w15 ⟨rfl, r, hb, hk1, hn⟩
          have HS15 := Lib.hid (HS14.out.turnR r hb hk1 hn)
          clear r hb hk1 hn
          go_wp2_with fail
          refine (new_of HS15.out.bl).mono ?_
          rintro e w16 ⟨a', rfl, ha', r, -, hb⟩
          have HS16 := Lib.hid (HS15.out.newA hb r (fun j hj => by simp only [List.mem_singleton] at hj; omega))
          clear r hb ha'
          go_wp2_with fail
          refine (take_of (lc := 0) (lst := []) (lls := []) (has := false) HS16.out.r HS16.out.bl rfl rfl rfl rfl).mono ?_
          rintro e w17 ⟨u17, F17, G17, rfl, r, -, hb, hk1, hn, -, -, -⟩
          have HS17 := Lib.hid (HS16.out.turnR r hb hk1 hn)
          have HDX := Lib.hid (dead_any HS17.out.r)
          rw [show (takenR rs0).d = false from rfl] at HDX
          clear r hb hk1 hn
          unfold repV
          go_wp2_with fail
          refine (HDX.out).mono ?_
          rintro e w17' ⟨rfl, rfl⟩
          go_wp2_with fail
          go_roundw
          case rel => exact ⟨k + 1, by omega, by go_num, _, _, rfl, rfl, _, _, _, _, _, _, _, _, _, HS17.out, ⟨rfl, rfl, rfl, fun _ => rfl⟩, rfl, fun e => by cases e⟩
          case measure => simp [intOf]; omega
        | false =>
          go_wp2_with fail
          refine (line_of HS.out.r HS.out.bl HXL.out D1.out D2.out rfl).mono ?_
          rintro e w5 ⟨F5, rfl, r, hb, hk1, hn⟩
          have HS1 := Lib.hid (HS.out.turnR r hb hk1 hn)
          have c2 := HCX.out _ hb bb oo rfl
          clear r hb hk1 hn c1
          go_wp2_with fail
          refine (line_of HS1.out.al HS1.out.bl HXL.out E1.out E2.out rfl).mono ?_
          rintro e w6 ⟨H6, rfl, r, hb, hk1, hn⟩
          have HS2 := Lib.hid (HS1.out.turnA r hb hk1 hn)
          clear r hb hk1 hn c2
          go_wp2_with fail
          refine (copy_of HS2.out.r HS2.out.bl).mono ?_
          rintro e w8 ⟨cc, HC, rfl, r, hb, hbel, hge⟩
          have RC := Lib.hid r; have BC := Lib.hid hb; have HBE := Lib.hid hbel; have HGE := Lib.hid hge
          clear r hb hbel hge
          go_wp2_with fail
          refine (take_of (lc := (stepR st x).lc) (lst := (stepR st x).lst) (lls := (stepR st x).lls) (has := false) RC.out BC.out rfl rfl rfl HH.out).mono ?_
          rintro e w9 ⟨u9, F9, G9, rfl, -, hg, -, hk1, -, -, -, -⟩
          obtain ⟨A9, c9, rfl⟩ := hg.form
          have hb9 : Below w6.heap.size w6 w9 := (HBE.out).trans (hk1.to_below HGE.out HBE.out.size)
          obtain ⟨tc, htc⟩ : ∃ z, z = (stepR st x).lc := ⟨_, rfl⟩
          obtain ⟨ts, hts⟩ : ∃ z, z = (stepR st x).lst := ⟨_, rfl⟩
          obtain ⟨tl, htl⟩ : ∃ z, z = (stepR st x).lls := ⟨_, rfl⟩
          rw [← htl] at hg
          rw [← htc, ← hts, ← htl]
          obtain ⟨kx, hkx⟩ : ∃ k, k = w9.heap.size := ⟨_, rfl⟩
          obtain ⟨w10, hw10⟩ : ∃ X, X = w9.alloc (Obj.cells #[.int .i64 (tc : Int), sv ts, .slice A9 tl.length c9] 28) := ⟨_, rfl⟩
          have hb10 : Below w9.heap.size w9 w10 := by rw [hw10]; exact below_alloc _ _
          have HS10 := Lib.hid ((HS2.out.below hb9).below hb10)
          have VX := Lib.hid (show Bk w10 kx tc ts (.slice A9 tl.length c9) by rw [hw10, hkx]; exact Bk.new _ _ _ _)
          have RX := Lib.hid (hg.below hb10).row
          have hszz := hb9.size
          have NX := Lib.hid (show kx ∉ F5 ∧ kx ∉ H6 ∧ kx ∉ G ∧ kx ≠ kl ∧ w.heap.size ≤ kx ∧ 3 ≤ kx from by
            have z1 := HS2.out.box.lt
            have z2 := HS2.out.kb
            exact ⟨fun e => by have := HS2.out.r.lt _ e; omega, fun e => by have := HS2.out.al.lt _ e; omega, fun e => by have := HS2.out.row.lt _ e; omega, by omega, by omega, by omega⟩)
          have HTC := Lib.hid htc; have HTS := Lib.hid hts; have HTL := Lib.hid htl
          have x0 := VX.out.c0; have x1 := VX.out.c1; have x2 := VX.out.c2
          have y0 := HS10.out.box.c0; have y1 := HS10.out.box.c1; have y2 := HS10.out.box.c2
          rw [hw10] at x0 x1 x2 y0 y1 y2
          have HKX := Lib.hid hkx; have HW10 := Lib.hid hw10; have LTL := Lib.hid (show tl.length ≤ 1000000 from by rw [htl]; have := HS2.out.r.len.2; omega)
          clear hg hk1 hb9 hb10 hszz htc hts htl hkx hw10
          unfold repV
          go_wp2_with fail
          rw [← HKX.out, ← HW10.out]
          clear x0 x1 x2 y0 y1 y2
          have HS11 := HS10; have VX11 := VX
          refine (line_of (s := [50, 53, 48, 32, 120]) (dn := false) (er := 7) (st' := stepR st x) HS11.out.r HS11.out.bl (by decide) (done_dead D3.out _) (err_dead D3.out _) (step_dead D3.out _)).mono ?_
          rintro e w12 ⟨F12, rfl, r, hb, hk1, hn⟩
          have HS12 := Lib.hid (HS11.out.turnR r hb hk1 hn)
          have VX12 := Lib.hid (VX11.out.kp hk1 NX.out.1)
          have NX12 := Lib.hid (hn.not VX11.out.lt NX.out.1)
          clear r hb hk1 hn
          go_wp2_with fail
          refine (take_of (lc := tc) (lst := ts) (lls := tl) (has := false) HS12.out.r HS12.out.bl HTC.out.symm HTS.out.symm HTL.out.symm (by rw [HTL.out]; exact HH.out)).mono ?_
          rintro e w13 ⟨u13, F13, G13, rfl, r, hg, hb, hk1, hn, -, -, -⟩
          obtain ⟨A13, c13, rfl⟩ := hg.form
          have HS13 := Lib.hid (HS12.out.turnR r hb hk1 hn)
          have VX13 := Lib.hid (VX12.out.kp hk1 NX12.out)
          have NX13 := Lib.hid (hn.not VX12.out.lt NX12.out)
          have kp3 := kp_set3 w13 kx (.int .i64 (tc : Int)) (sv ts) (.slice A13 tl.length c13)
          have HS14 := Lib.hid (HS13.out.setX kp3 NX.out.2.2.2.1 NX13.out NX.out.2.1 NX.out.2.2.1 NX.out.2.2.2.2)
          have VX14 := Lib.hid (VX13.out.set tc ts (.slice A13 tl.length c13))
          have v0 := VX13.out.c0; have v1 := VX13.out.c1; have v2 := VX13.out.c2; have f0 := VX13.out.fr 0; have f1 := VX13.out.fr 1; have f2 := VX13.out.fr 2
          have z0 := VX14.out.c0; have l0 := HS14.out.box.c0
          clear r hg hb hk1 hn kp3
          unfold repV
          go_wp2_with fail
          obtain ⟨w14, hw14⟩ : ∃ X, X = ((w13.setCell ⟨kx, 0, none⟩ (.int .i64 (tc : Int))).setCell ⟨kx, 1, none⟩ (sv ts)).setCell ⟨kx, 2, none⟩ (.slice A13 tl.length c13) := ⟨_, rfl⟩
          rw [← hw14] at HS14 z0 l0 ⊢
          have HDD := Lib.hid (dead_any HS14.out.r)
          rw [show (takenR (stepR st x)).d = true from D3.out] at HDD
          clear hw14 v0 v1 v2 f0 f1 f2
          refine (HDD.out).mono ?_
          rintro e w14' ⟨rfl, rfl⟩
          go_wp2_with fail
          clear z0 l0
          refine (reset_of HS14.out.r HS14.out.bl).mono ?_
          rintro e w15 ⟨rfl, r, hb, hk1, hn⟩
          have HS15 := Lib.hid (HS14.out.turnR r hb hk1 hn)
          clear r hb hk1 hn
          go_wp2_with fail
          refine (new_of HS15.out.bl).mono ?_
          rintro e w16 ⟨a', rfl, ha', r, -, hb⟩
          have HS16 := Lib.hid (HS15.out.newA hb r (fun j hj => by simp only [List.mem_singleton] at hj; omega))
          clear r hb ha'
          go_wp2_with fail
          refine (take_of (lc := 0) (lst := []) (lls := []) (has := false) HS16.out.r HS16.out.bl rfl rfl rfl rfl).mono ?_
          rintro e w17 ⟨u17, F17, G17, rfl, r, -, hb, hk1, hn, -, -, -⟩
          have HS17 := Lib.hid (HS16.out.turnR r hb hk1 hn)
          have HDX := Lib.hid (dead_any HS17.out.r)
          rw [show (takenR rs0).d = false from rfl] at HDX
          clear r hb hk1 hn
          unfold repV
          go_wp2_with fail
          refine (HDX.out).mono ?_
          rintro e w17' ⟨rfl, rfl⟩
          go_wp2_with fail
          go_roundw
          case rel => exact ⟨k + 1, by omega, by go_num, _, _, rfl, rfl, _, _, _, _, _, _, _, _, _, HS17.out, ⟨rfl, rfl, rfl, fun _ => rfl⟩, rfl, fun e => by cases e⟩
          case measure => simp [intOf]; omega
    · obtain rfl : k = xs.length := by omega
      have HE := Lib.hid hsp.bl.below
      clear hsp hrel hhas heq
      go_wp2_with fail
      go_ret
      exact ⟨rfl, HE.out⟩
theorem replySteps_walk (A : Option Addr) (c : Nat) (xs : List (List UInt8)) (w : World) (hx : SR w (.slice A xs.length c) xs) (hn : xs.length ≤ 140737488351232) (hl : ∀ x ∈ xs, x.length ≤ 9223372036854775807) (hw : LW w) :
    Calls Tryd.prog 7 #[.slice A xs.length c] w fun e w' => e = .returned (.bool true) ∧ Below w.heap.size w w' := by
  cases hb : longB xs with
  | true => exact steps_long xs _ w hw hx hn hl hb
  | false => exact steps_short xs _ w hw hx hn hl hb
end Go.Proofs.YtbpdbfllkehciaaDoor
