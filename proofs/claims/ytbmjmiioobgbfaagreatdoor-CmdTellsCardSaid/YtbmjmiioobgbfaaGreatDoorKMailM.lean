/-
  Contracts of package cmd's Mail, Rcpt.
  The contract of package cmd's Mail.
-/
import Derived.Deep.RegionHeld3
import Derived.Test.YtbmjmiioobgbfaaGreatDoorKAdd
import Derived.Test.YtbmjmiioobgbfaaGreatDoorKParse
namespace Go.Proofs.YtbmjmiioobgbfaaGreatDoor
open Go Go.RowKit Go.Shelf
set_option maxRecDepth 100000
set_option linter.unusedSimpArgs false
set_option linter.unusedVariables false

/-- What a peer can. -/
structure Cp where
  st : Bool
  pi : Bool
  rq : Bool
  ds : Bool
  eb : Bool
  sz : Bool
  mo : Int
abbrev cpL (c : Cp) : Array Value := #[.bool c.st, .bool c.pi, .bool c.rq, .bool c.ds, .bool c.eb, .bool c.sz, .int .i64 c.mo]

def mailC (c : Cp) (from_ : List UInt8) (size : Int) (req : Bool) (env : List UInt8) : Cm := ⟨3, from_, mailPs c.sz c.rq c.ds (Lib.itoa size) req env⟩
def mailK (c : Cp) (from_ : List UInt8) (size : Int) (req : Bool) (env : List UInt8) : Cm × Nat :=
  if size < 0 then (cm0, 4) else if envC env && mayK (mailC c from_ size req env) then (mailC c from_ size req env, 0) else (cm0, 4)
def rcptC (c : Cp) (to : List UInt8) (never : Bool) : Cm := ⟨4, to, optP (c.ds && never) (wNO, wNV)⟩
def rcptK (c : Cp) (to : List UInt8) (never : Bool) : Cm × Nat := if mayK (rcptC c to never) then (rcptC c to never, 0) else (cm0, 4)

/-- What a command made, and an error, leave. -/
def MaPost (w : World) (r : Cm × Nat) (e : Ending) (w' : World) : Prop :=
  ∃ u, e = .returned (.tuple #[cmV r.1 u, .int .i64 (r.2 : Int)]) ∧ Below w.heap.size w w' ∧ PO 38 w.heap.size w' u r.1.ps

theorem ad_start {w : World} (hL : LW w) (vb a : Value) : AD w (w.heap.size + 2) (w.heap.size + 1) w.heap.size vb a (.slice none 0 0) [] ((w.alloc (.cells #[vb, a, .slice none 0 0] 41)).alloc (.cells #[.pointer (some ⟨w.heap.size, 0, none⟩)] 92)) := by
  have h2 := heap_alloc_new (w.alloc (.cells #[vb, a, .slice none 0 0] 41)) (.cells #[.pointer (some ⟨w.heap.size, 0, none⟩)] 92)
  rw [World.size_alloc] at h2
  exact ⟨((BK.start hL).alloc _).alloc _, ⟨Nat.le_refl _, by omega, by omega, by simp, by omega⟩, h2, (Lib.alloc_old _ _ _ (by simp)).trans (heap_alloc_new w _), PO.nil _ _ _⟩
theorem AD.m3 {w W : World} {B k m : Nat} {vb a u : Value} {ps : List PM} (h : AD w B k m vb a u ps W) : W.cell? ⟨m, 0, none⟩ = some vb ∧ W.cell? ⟨m, 1, none⟩ = some a ∧ W.cell? ⟨m, 2, none⟩ = some u :=
  ⟨by rw [cellAt h.mm]; rfl, by rw [cellAt h.mm]; rfl, by rw [cellAt h.mm]; rfl⟩
theorem z3 {W : World} {g : Nat} (h : W.heap[g]? = some (.cells zC 41 (0, 0))) :
    W.cell? ⟨g, 0, none⟩ = some (.int .u8 0) ∧ W.cell? ⟨g, 1, none⟩ = some (sv []) ∧ W.cell? ⟨g, 2, none⟩ = some (.slice none 0 0) ∧ W.frozen? ⟨g, 0, none⟩ = false ∧ W.frozen? ⟨g, 1, none⟩ = false ∧ W.frozen? ⟨g, 2, none⟩ = false :=
  ⟨by rw [cellAt h]; rfl, by rw [cellAt h]; rfl, by rw [cellAt h]; rfl, freeAt h 0, freeAt h 1, freeAt h 2⟩
theorem cp7 {W : World} {g : Nat} {c : Cp} (h : W.heap[g]? = some (.cells (cpL c) 53 (0, 0))) : W.cell? ⟨g, 2, none⟩ = some (.bool c.rq) ∧ W.cell? ⟨g, 3, none⟩ = some (.bool c.ds) ∧ W.cell? ⟨g, 5, none⟩ = some (.bool c.sz) :=
  ⟨by rw [cellAt h]; rfl, by rw [cellAt h]; rfl, by rw [cellAt h]; rfl⟩
theorem optP_len (b : Bool) (p : PM) : (optP b p).length ≤ 1 := by cases b <;> simp [optP]
theorem itoa_len (n : Int) (h0 : -9223372036854775808 ≤ n) (h1 : n ≤ 9223372036854775807) : (Lib.itoa n).length ≤ 21 := by
  have hd := dec_len (m := n.natAbs) (by omega)
  have hd2 := dec_len (m := n.toNat) (by omega)
  unfold Lib.itoa
  split <;> simp <;> omega
theorem optP_mem {b : Bool} {p q : PM} (h : q ∈ optP b p) : q = p := by cases b <;> simp [optP] at h; exact h
theorem mailPs_small (c : Cp) (size : Int) (req : Bool) (env : List UInt8) (h0 : -9223372036854775808 ≤ size) (h1 : size ≤ 9223372036854775807) (he : env.length ≤ 6000) :
    (mailPs c.sz c.rq c.ds (Lib.itoa size) req env).length ≤ 3 ∧ ∀ p ∈ mailPs c.sz c.rq c.ds (Lib.itoa size) req env, p.1.length ≤ 6000 ∧ p.2.length ≤ 6000 := by
  have hi := itoa_len size h0 h1
  unfold mailPs
  refine ⟨?_, fun p hp => ?_⟩
  · have := optP_len c.sz (wSZ, Lib.itoa size)
    have := optP_len (c.rq && req) (wRT, [])
    have := optP_len (c.ds && !env.isEmpty) (wEN, env)
    simp only [List.length_append]
    omega
  · rcases List.mem_append.1 hp with hp | hp
    · rw [optP_mem hp]; exact ⟨by simp [wSZ], by dsimp only; omega⟩
    rcases List.mem_append.1 hp with hp | hp
    · rw [optP_mem hp]; exact ⟨by simp [wRT], by simp⟩
    · rw [optP_mem hp]; exact ⟨by simp [wEN], he⟩
/-- The end where nothing is made. -/
theorem ma_none {w W : World} {n0 : Nat} {f : Func} {p u : Tmp} {tmps : Array Value} {r : Cm × Nat} (hres : f.results = #[.cell p 41, .tmp u]) (hn : w.heap.size ≤ n0) (hr : r = (cm0, 4)) (hb : Below w.heap.size w W) (hz : W.heap[n0]? = some (.cells zC 41 (0, 0)))
    (hp : tmps.getD p undef = .pointer (some ⟨n0, 0, none⟩)) (hu : tmps.getD u undef = .int .i64 4) :
    bodyPost Tryz.prog f (MaPost w r) .ret { tmps := tmps, defers := [] } (((W.setCell ⟨n0, 0, none⟩ (.int .u8 0)).setCell ⟨n0, 1, none⟩ (sv [])).setCell ⟨n0, 2, none⟩ (.slice none 0 0)) := by
  subst hr
  have hh : (((W.setCell ⟨n0, 0, none⟩ (.int .u8 0)).setCell ⟨n0, 1, none⟩ (sv [])).setCell ⟨n0, 2, none⟩ (.slice none 0 0)).heap[n0]? = some (.cells zC 41 (0, 0)) := by
    simp [World.setCell, Array.getElem?_modify, hz]
  have hb3 := ((hb.setCell (p := ⟨n0, 0, none⟩) hn (.int .u8 0)).setCell (p := ⟨n0, 1, none⟩) hn (sv [])).setCell (p := ⟨n0, 2, none⟩) hn (.slice none 0 0)
  refine bodyPost_ret (v := .tuple #[.agg zC, .int .i64 4]) ?_ rfl ⟨.slice none 0 0, rfl, hb3, PO.nil _ _ _⟩
  rw [results_row_tmp (p := p) (u := u) (fr := (0, 0)) hres tmps _ n0 41 zC _ hp hh Tryz.underlying41 rfl (by kernel_rfl), hu]
theorem ma_made {w W : World} {n0 B : Nat} {f : Func} {p q : Tmp} {tmps : Array Value} {r : Cm × Nat} {c : Cm} {u : Value} (hres : f.results = #[.cell p 41, .tmp q]) (hn : w.heap.size ≤ n0) (hB : n0 < B) (hr : r = (c, 0)) (hb : Below w.heap.size w W) (hz : W.heap[n0]? = some (.cells zC 41 (0, 0)))
    (hpo : PO 38 B W u c.ps) (hp : tmps.getD p undef = .pointer (some ⟨n0, 0, none⟩)) (hu : tmps.getD q undef = .int .i64 0) :
    bodyPost Tryz.prog f (MaPost w r) .ret { tmps := tmps, defers := [] } (((W.setCell ⟨n0, 0, none⟩ (.int .u8 (c.verb : Int))).setCell ⟨n0, 1, none⟩ (sv c.arg)).setCell ⟨n0, 2, none⟩ u) := by
  subst hr
  have hh : (((W.setCell ⟨n0, 0, none⟩ (.int .u8 (c.verb : Int))).setCell ⟨n0, 1, none⟩ (sv c.arg)).setCell ⟨n0, 2, none⟩ u).heap[n0]? = some (.cells #[.int .u8 (c.verb : Int), sv c.arg, u] 41 (0, 0)) := by
    simp [World.setCell, Array.getElem?_modify, hz]
  have hb3 := ((hb.setCell (p := ⟨n0, 0, none⟩) hn (.int .u8 (c.verb : Int))).setCell (p := ⟨n0, 1, none⟩) hn (sv c.arg)).setCell (p := ⟨n0, 2, none⟩) hn u
  refine bodyPost_ret (v := .tuple #[cmV c u, .int .i64 0]) ?_ rfl ⟨u, rfl, hb3, (hpo.put3 hB _ _ _).lower (by omega)⟩
  rw [results_row_tmp (p := p) (u := q) (fr := (0, 0)) hres tmps _ n0 41 _ _ hp hh Tryz.underlying41 rfl (by kernel_rfl), hu]

set_option maxHeartbeats 4000000 in
theorem rcptK_any (c : Cp) (to : List UInt8) (never : Bool) (w : World) (ht : to.length ≤ 6000) (hL : LW w) :
    Calls Tryz.prog 24 #[sv to, .agg (cpL c), .bool never] w (MaPost w (rcptK c to never)) := by
  obtain ⟨X, hX⟩ : ∃ X, X = (w.alloc (.cells (cpL c) 53)).alloc (.cells zC 41) := ⟨_, rfl⟩
  have HLX := Lib.hid (show LW X by rw [hX]; exact (hL.below (below_alloc _ _)).below (below_alloc _ _))
  have HBX := Lib.hid (show Below w.heap.size w X by rw [hX]; exact (below_alloc _ _).trans ((below_alloc _ _).mono (by simp)))
  have HZ := Lib.hid (show X.heap[w.heap.size + 1]? = some (.cells zC 41 (0, 0)) by
    rw [hX]; have := heap_alloc_new (w.alloc (.cells (cpL c) 53)) (.cells zC 41); rw [World.size_alloc] at this; exact this)
  have HCB := Lib.hid (show X.heap[w.heap.size]? = some (.cells (cpL c) 53 (0, 0)) by
    rw [hX]; exact (Lib.alloc_old _ _ _ (by simp)).trans (heap_alloc_new w _))
  clear hL
  go_enter Tryz.func24, Tryz.ntmps24
  go_wp2_with fail
  rw [← hX]
  clear hX
  refine (clone_any (str to) X (by simp [ByteArray.size]; omega)).mono ?_
  rintro e w1 ⟨rfl, hb1⟩
  have HB1 := Lib.hid (HBX.out.trans (hb1.mono HBX.out.size))
  have HZ1 := Lib.hid (blk_below HZ.out hb1)
  have HC1 := Lib.hid (blk_below HCB.out hb1)
  have HL1 := Lib.hid (HLX.out.below hb1)
  have HA := Lib.hid (ad_start HL1.out (.int .u8 4) (sv to))
  have hm1 : w.heap.size + 1 < w1.heap.size := lt_of_blk HZ1.out
  clear hb1
  go_wp2_with fail
  refine (adder_any w1.heap.size _).mono ?_
  rintro e w2 ⟨rfl, rfl⟩
  obtain ⟨Y, hY⟩ : ∃ Y, Y = (w1.alloc (.cells #[.int .u8 4, sv to, .slice none 0 0] 41)).alloc (.cells #[.pointer (some ⟨w1.heap.size, 0, none⟩)] 92) := ⟨_, rfl⟩
  rw [World.size_alloc]
  rw [← hY] at HA ⊢
  clear hY
  have hcb := blk_below (w := w1) HC1.out HA.out.bk.below
  obtain ⟨x0, x1, x2⟩ := cp7 hcb
  obtain ⟨t, htt⟩ : ∃ t, t = (c.ds && never) := ⟨_, rfl⟩
  have HRC := Lib.hid (show rcptC c to never = ⟨4, to, optP t (wNO, wNV)⟩ by rw [htt]; rfl)
  have HAD := Lib.hid (adder1_any HL1.out HA.out t wNO wNV (by simp) (by decide))
  have HX2 := Lib.hid (show (c.ds && never) = t from htt.symm)
  clear hcb htt x0 x2
  obtain ⟨d, hd⟩ : ∃ d, d = c.ds := ⟨_, rfl⟩
  rw [← hd] at HX2 x1
  clear hd
  have HMY := Lib.hid (fun (u : Value) (ps : List PM) W (hA : AD w1 (w1.heap.size + 2) (w1.heap.size + 1) w1.heap.size (.int .u8 4) (sv to) u ps W) (h3 : ps = optP t (wNO, wNV)) => mayK_any ⟨4, to, ps⟩ u W hA.own.pr (by show 4 < 256; omega) (by show to.length ≤ 1000000; omega) (by show ps.length ≤ 1000000; have := optP_len t (wNO, wNV); rw [h3]; omega) (fun p hp => by rw [h3] at hp; rw [optP_mem hp]; exact ⟨by decide, by decide⟩) hA.bk.ml)
  obtain ⟨m, hm⟩ : ∃ m, m = mayK ⟨4, to, optP t (wNO, wNV)⟩ := ⟨_, rfl⟩
  have HRK := Lib.hid (show rcptK c to never = if m then (⟨4, to, optP t (wNO, wNV)⟩, 0) else (cm0, 4) by rw [hm, ← HRC.out]; rfl)
  have HM := Lib.hid hm
  have H256 := Lib.hid HB1.out.size
  clear hm
  cases d
  all_goals
    have e := HX2.out
    simp only [Bool.false_and, Bool.true_and] at e
    subst e
    go_wp2_with fail
    refine (HAD.out).mono ?_
    rintro e w3 ⟨rfl, u, hAD⟩
    rw [List.nil_append] at hAD
    obtain ⟨A, cap, hu⟩ := hAD.own.form
    subst hu
    obtain ⟨y0, y1, y2⟩ := hAD.m3
    have hz := blk_below (w := w1) HZ1.out hAD.bk.below
    have HZ3 := Lib.hid hz
    have HA3 := Lib.hid hAD
    clear hAD hz x1
    go_wp2_with fail
    refine (HMY.out _ _ _ HA3.out rfl).mono ?_
    rintro e w4 ⟨rfl, hb4⟩
    have hA4 := HA3.out.step hb4
    have hz4 := blk_below HZ3.out hb4
    obtain ⟨y0, y1, y2⟩ := hA4.m3
    obtain ⟨z0, z1, z2, f0, f1, f2⟩ := z3 hz4
    have HA4 := Lib.hid hA4
    have HZ4 := Lib.hid hz4
    have HB4 := Lib.hid (show Below w.heap.size w w4 from HB1.out.trans (hA4.bk.below.mono H256.out))
    rw [← HM.out]
    clear hA4 hz4 hb4
    cases m with
    | false =>
      go_wp2_with fail
      exact ma_none (p := 6) (u := 7) Tryz.results24 (Nat.le_succ _) (by rw [HRK.out]; rfl) HB4.out HZ4.out rfl rfl
    | true =>
      go_wp2_with fail
      exact ma_made (B := w1.heap.size + 2) (c := ⟨4, to, _⟩) (p := 6) (q := 7) Tryz.results24 (Nat.le_succ _) (by omega) (by rw [HRK.out]; rfl) HB4.out HZ4.out HA4.out.own rfl rfl
end Go.Proofs.YtbmjmiioobgbfaaGreatDoor

namespace Go.Proofs.YtbmjmiioobgbfaaGreatDoor
open Go Go.RowKit Go.Shelf
set_option maxRecDepth 100000
set_option linter.unusedSimpArgs false
set_option linter.unusedVariables false

set_option maxHeartbeats 16000000 in
theorem mailK_any (c : Cp) (from_ : List UInt8) (size : Int) (req : Bool) (env : List UInt8) (w : World) (hf : from_.length ≤ 6000) (he : env.length ≤ 6000) (h0 : -9223372036854775808 ≤ size) (h1 : size ≤ 9223372036854775807) (hL : LW w) :
    Calls Tryz.prog 22 #[sv from_, .agg (cpL c), .int .i64 size, .bool req, sv env] w (MaPost w (mailK c from_ size req env)) := by
  have HPS := Lib.hid (mailPs_small c size req env h0 h1 he)
  have HIL := Lib.hid (itoa_len size h0 h1)
  obtain ⟨st, pi, rq, ds, eb, sz, mo⟩ := c
  dsimp only at HPS
  obtain ⟨num, hnum⟩ : ∃ num, num = Lib.itoa size := ⟨_, rfl⟩
  obtain ⟨t1, ht1⟩ : ∃ t, t = (rq && req) := ⟨_, rfl⟩
  obtain ⟨ee, hee⟩ : ∃ e, env.isEmpty = e := ⟨_, rfl⟩
  obtain ⟨t2, ht2⟩ : ∃ t, t = (ds && !ee) := ⟨_, rfl⟩
  have hps : mailPs sz rq ds (Lib.itoa size) req env = optP sz (wSZ, num) ++ (optP t1 (wRT, []) ++ optP t2 (wEN, env)) := by unfold mailPs; rw [hnum, ht1, ht2, hee]
  obtain ⟨PS, hPSd⟩ : ∃ p, p = optP sz (wSZ, num) ++ (optP t1 (wRT, []) ++ optP t2 (wEN, env)) := ⟨_, rfl⟩
  rw [← hPSd] at hps
  have HPE := Lib.hid hPSd.symm
  have HMC := Lib.hid (show mailC ⟨st, pi, rq, ds, eb, sz, mo⟩ from_ size req env = ⟨3, from_, PS⟩ by unfold mailC; dsimp only; rw [hps])
  rw [hps] at HPS
  obtain ⟨mm, hmm⟩ : ∃ m, m = mayK ⟨3, from_, PS⟩ := ⟨_, rfl⟩
  obtain ⟨ev, hev⟩ : ∃ e, e = envC env := ⟨_, rfl⟩
  have HK := Lib.hid (show mailK ⟨st, pi, rq, ds, eb, sz, mo⟩ from_ size req env = if size < 0 then (cm0, 4) else if ev && mm then (⟨3, from_, PS⟩, 0) else (cm0, 4) by unfold mailK; rw [HMC.out, ← hev, ← hmm])
  have HMM := Lib.hid hmm
  have HEV := Lib.hid hev
  have HX1 := Lib.hid ht1.symm
  have HX2 := Lib.hid ht2.symm
  have HNUM := Lib.hid (show ∀ W, LW W → Calls Tryz.prog 59 #[.int .i64 size] W fun e w' => e = .returned (sv num) ∧ Below W.heap.size W w' from fun W hW => by rw [hnum]; exact show_any size W h0 h1 hW)
  have HNL := Lib.hid (show num.length ≤ 21 by rw [hnum]; exact HIL.out)
  obtain ⟨X, hX⟩ : ∃ X, X = (w.alloc (.cells #[.bool st, .bool pi, .bool rq, .bool ds, .bool eb, .bool sz, .int .i64 mo] 53)).alloc (.cells zC 41) := ⟨_, rfl⟩
  have HLX := Lib.hid (show LW X by rw [hX]; exact (hL.below (below_alloc _ _)).below (below_alloc _ _))
  have HBX := Lib.hid (show Below w.heap.size w X by rw [hX]; exact (below_alloc _ _).trans ((below_alloc _ _).mono (by simp)))
  have HZ := Lib.hid (show X.heap[w.heap.size + 1]? = some (.cells zC 41 (0, 0)) by
    rw [hX]; have := heap_alloc_new (w.alloc (.cells #[.bool st, .bool pi, .bool rq, .bool ds, .bool eb, .bool sz, .int .i64 mo] 53)) (.cells zC 41); rw [World.size_alloc] at this; exact this)
  have HCB := Lib.hid (show X.heap[w.heap.size]? = some (.cells (cpL ⟨st, pi, rq, ds, eb, sz, mo⟩) 53 (0, 0)) by
    rw [hX]; exact (Lib.alloc_old _ _ _ (by simp)).trans (heap_alloc_new w _))
  clear hL hnum ht1 ht2 hPSd hps hmm hev HIL
  go_enter Tryz.func22, Tryz.ntmps22
  go_wp2_with fail
  rw [← hX]
  clear hX
  refine (clone_any (str from_) X (by simp [ByteArray.size]; omega)).mono ?_
  rintro e w1 ⟨rfl, hb1⟩
  have HB1 := Lib.hid (HBX.out.trans (hb1.mono HBX.out.size))
  have HZ1 := Lib.hid (blk_below HZ.out hb1)
  have HC1 := Lib.hid (blk_below HCB.out hb1)
  have HL1 := Lib.hid (HLX.out.below hb1)
  have HA := Lib.hid (ad_start HL1.out (.int .u8 3) (sv from_))
  have hm1 : w.heap.size + 1 < w1.heap.size := lt_of_blk HZ1.out
  clear hb1
  go_wp2_with fail
  refine (adder_any w1.heap.size _).mono ?_
  rintro e w2 ⟨rfl, rfl⟩
  obtain ⟨Y, hY⟩ : ∃ Y, Y = (w1.alloc (.cells #[.int .u8 3, sv from_, .slice none 0 0] 41)).alloc (.cells #[.pointer (some ⟨w1.heap.size, 0, none⟩)] 92) := ⟨_, rfl⟩
  rw [World.size_alloc]
  rw [← hY] at HA ⊢
  clear hY
  have HCP := Lib.hid (show ∀ W, Below w1.heap.size w1 W → W.cell? ⟨w.heap.size, 2, none⟩ = some (.bool rq) ∧ W.cell? ⟨w.heap.size, 3, none⟩ = some (.bool ds) ∧ W.cell? ⟨w.heap.size, 5, none⟩ = some (.bool sz) from fun W hW => cp7 (blk_below HC1.out hW))
  have H256 := Lib.hid HB1.out.size
  obtain ⟨BEF, hBEF⟩ : ∃ P : World → Prop, P = AD w1 (w1.heap.size + 2) (w1.heap.size + 1) w1.heap.size (.int .u8 3) (sv from_) (.slice none 0 0) [] := ⟨_, rfl⟩
  obtain ⟨AFT, hAFT⟩ : ∃ P : World → Prop, P = fun W => ∃ u, AD w1 (w1.heap.size + 2) (w1.heap.size + 1) w1.heap.size (.int .u8 3) (sv from_) u (optP sz (wSZ, num)) W := ⟨_, rfl⟩
  have BD := Lib.hid (show ∀ W, BEF W → BEF W.drew from fun W h => by rw [hBEF] at h ⊢; exact h.drew)
  have AD' := Lib.hid (show ∀ W, AFT W → AFT W.drew from fun W h => by rw [hAFT] at h ⊢; obtain ⟨u, h⟩ := h; exact ⟨u, h.drew⟩)
  have BC := Lib.hid (show ∀ W, BEF W → W.cell? ⟨w.heap.size, 5, none⟩ = some (.bool sz) from fun W h => by rw [hBEF] at h; exact (HCP.out W h.bk.below).2.2)
  have AC := Lib.hid (show ∀ W, AFT W → W.cell? ⟨w.heap.size, 5, none⟩ = some (.bool sz) from fun W h => by rw [hAFT] at h; obtain ⟨u, h⟩ := h; exact (HCP.out W h.bk.below).2.2)
  have BS := Lib.hid (show ∀ W, BEF W → Calls Tryz.prog 59 #[.int .i64 size] W fun e w' => e = .returned (sv num) ∧ BEF w' from fun W h => by
    rw [hBEF] at h ⊢
    exact (HNUM.out W h.bk.lw).mono fun _ _ ⟨e1, e2⟩ => ⟨e1, h.step e2⟩)
  have BW := Lib.hid (show ∀ W, BEF W → Calls Tryz.prog 98 #[.bool sz, .string { data := #[83, 73, 90, 69] }, sv num, .pointer (some ⟨w1.heap.size + 1, 0, none⟩)] W fun e W' => e = .returned (.tuple #[]) ∧ AFT W' from fun W h => by
    rw [hBEF] at h
    rw [hAFT]
    exact adder1_any HL1.out h sz wSZ num (by simp) (by have := HNL.out; omega))
  have hb0 : BEF Y := by rw [hBEF]; exact HA.out
  have HAF := Lib.hid hAFT
  have d0 := BC.out _ hb0
  clear hBEF hAFT
  go_wp2_with fail
  go_region_held3 (fun W => (BEF W ∨ AFT W) ∧ W.cell? ⟨w.heap.size, 5, none⟩ = some (.bool sz))
    (first
      | exact ⟨.inl (by assumption), BC.out _ (by assumption)⟩
      | exact ⟨.inr (by assumption), AC.out _ (by assumption)⟩
      | exact ⟨.inl (BD.out _ (by assumption)), BC.out _ (BD.out _ (by assumption))⟩
      | exact ⟨.inr (AD'.out _ (by assumption)), AC.out _ (AD'.out _ (by assumption))⟩)
    (first
      | (go_at_call 59; with_reducible refine (BS.out _ (by first | assumption | exact BD.out _ (by assumption))).mono ?_; rintro e1 w8 ⟨rfl, hR⟩)
      | (go_at_call 98; with_reducible refine (BW.out _ (by first | assumption | exact BD.out _ (by assumption))).mono ?_; rintro e1 wz ⟨rfl, hRz⟩))
  all_goals
    obtain ⟨u3, hA3⟩ : ∃ u, AD w1 (w1.heap.size + 2) (w1.heap.size + 1) w1.heap.size (.int .u8 3) (sv from_) u (optP sz (wSZ, num)) wz := by rw [HAF.out] at hRz; exact hRz
    have HA3 := Lib.hid hA3
    obtain ⟨x0, x1, x2⟩ := HCP.out _ hA3.bk.below
    clear hRz hb0 d0 hA3
    have HW1 := Lib.hid (adder1_any HL1.out HA3.out t1 wRT [] (by have := optP_len sz (wSZ, num); omega) (by simp))
    have e1 := HX1.out
    cases rq
    all_goals
      simp only [Bool.false_and, Bool.true_and] at e1
      subst e1
      go_wp2_with fail
      refine (HW1.out).mono ?_
      rintro e w4 ⟨rfl, u4, hA4⟩
      have HA4 := Lib.hid hA4
      obtain ⟨x0, x1, x2⟩ := HCP.out _ hA4.bk.below
      clear hA4
      have HW2 := Lib.hid (adder1_any HL1.out HA4.out t2 wEN env (by have := optP_len sz (wSZ, num); simp only [List.length_append]; have hx := optP_len (false) (wRT, []); first | (have := optP_len req (wRT, []); omega) | omega) (by omega))
      have e2 := HX2.out
      cases ds
      all_goals
        simp only [Bool.false_and, Bool.true_and] at e2
        subst e2
        go_wp2_with fail
        refine (HW2.out).mono ?_
        rintro e w5 ⟨rfl, u5, hA5⟩
        rw [List.append_assoc, HPE.out] at hA5
        have HB5 := Lib.hid (show Below w.heap.size w w5 from HB1.out.trans (hA5.bk.below.mono H256.out))
        have HZ5 := Lib.hid (blk_below (w := w1) HZ1.out hA5.bk.below)
        obtain ⟨A, cap, hu⟩ := hA5.own.form
        subst hu
        have HA5 := Lib.hid hA5
        obtain ⟨z0, z1, z2, f0, f1, f2⟩ := z3 HZ5.out
        clear hA5 HW1 HW2
        by_cases hneg : size < 0
        · have hF := Lib.hid (HK.out.trans (if_pos hneg))
          go_wp2_with fail
          exact ma_none (p := 10) (u := 11) Tryz.results22 (Nat.le_succ _) hF.out HB5.out HZ5.out rfl rfl
        · have hF := Lib.hid (HK.out.trans (if_neg hneg))
          have hneg' : 0 ≤ size := by omega
          clear hneg
          cases ev with
          | false =>
            go_wp2_with fail
            refine (isEnvidK_any env _ (by omega)).mono ?_
            rintro e w6 ⟨rfl, hb6⟩
            rw [← HEV.out]
            have HB6 := Lib.hid (HB5.out.trans (hb6.mono HB5.out.size))
            have HZ6 := Lib.hid (blk_below HZ5.out hb6)
            clear z0 z1 z2 f0 f1 f2 hb6
            obtain ⟨z0, z1, z2, f0, f1, f2⟩ := z3 HZ6.out
            go_wp2_with fail
            exact ma_none (p := 10) (u := 11) Tryz.results22 (Nat.le_succ _) hF.out HB6.out HZ6.out rfl rfl
          | true =>
            go_wp2_with fail
            refine (isEnvidK_any env _ (by omega)).mono ?_
            rintro e w6 ⟨rfl, hb6⟩
            rw [← HEV.out]
            have HA6 := Lib.hid (HA5.out.step hb6)
            have HB6 := Lib.hid (HB5.out.trans (hb6.mono HB5.out.size))
            have HZ6 := Lib.hid (blk_below HZ5.out hb6)
            clear z0 z1 z2 f0 f1 f2 hb6
            obtain ⟨y0, y1, y2⟩ := HA6.out.m3
            have HMY := Lib.hid (mayK_any ⟨3, from_, _⟩ _ w6 HA6.out.own.pr (by show 3 < 256; omega) (by show from_.length ≤ 1000000; omega) (by have := HPS.out.1; dsimp only; omega) (fun p hp => by have := HPS.out.2 p hp; omega) HA6.out.bk.ml)
            go_wp2_with fail
            refine (HMY.out).mono ?_
            rintro e w7 ⟨rfl, hb7⟩
            rw [← HMM.out]
            have HA7 := Lib.hid (HA6.out.step hb7)
            have HB7 := Lib.hid (HB6.out.trans (hb7.mono HB6.out.size))
            have HZ7 := Lib.hid (blk_below HZ6.out hb7)
            clear y0 y1 y2 hb7
            obtain ⟨y0, y1, y2⟩ := HA7.out.m3
            obtain ⟨z0, z1, z2, f0, f1, f2⟩ := z3 HZ7.out
            cases mm with
            | false =>
              go_wp2_with fail
              exact ma_none (p := 10) (u := 11) Tryz.results22 (Nat.le_succ _) hF.out HB7.out HZ7.out rfl rfl
            | true =>
              go_wp2_with fail
              exact ma_made (B := w1.heap.size + 2) (c := ⟨3, from_, _⟩) (p := 10) (q := 11) Tryz.results22 (Nat.le_succ _) (by omega) hF.out HB7.out HZ7.out HA7.out.own rfl rfl
end Go.Proofs.YtbmjmiioobgbfaaGreatDoor
