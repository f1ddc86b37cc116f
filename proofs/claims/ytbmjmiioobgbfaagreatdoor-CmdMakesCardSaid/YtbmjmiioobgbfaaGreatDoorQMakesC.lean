/-
  The walk of CmdMakes.
-/
import Derived.Deep.RegionHeld3
import Derived.Deep.CutRange
import Derived.Test.YtbmjmiioobgbfaaGreatDoorQB
import Derived.Test.YtbmjmiioobgbfaaGreatDoorKMailM
import Derived.Test.YtbmjmiioobgbfaaGreatDoorKLaw3
namespace Go.Proofs.YtbmjmiioobgbfaaGreatDoor
open Go Go.RowKit Go.Shelf
set_option maxRecDepth 100000
set_option linter.unusedSimpArgs false
set_option linter.unusedVariables false

theorem mq_open {w w' : World} {r : Cm × Nat} {e : Ending} (h : MqPost w r e w') : ∃ A cap, e = .returned (.tuple #[.agg #[.int .u8 (r.1.verb : Int), sv r.1.arg, .slice A r.1.ps.length cap], .int .i64 (r.2 : Int)]) ∧ Below w.heap.size w w' ∧ PR w' (.slice A r.1.ps.length cap) r.1.ps := by
  obtain ⟨u, he, hb, hp⟩ := h
  obtain ⟨A, c, rfl⟩ := hp.form
  exact ⟨A, c, he, hb, hp⟩
theorem rc_open {w w' : World} {c : Cm} {e : Ending} (h : RcPost w c e w') : ∃ A cap, e = .returned (.agg #[.int .u8 (c.verb : Int), sv c.arg, .slice A c.ps.length cap]) ∧ Below w.heap.size w w' ∧ PR w' (.slice A c.ps.length cap) c.ps := by
  obtain ⟨u, he, hb, hp⟩ := h
  obtain ⟨A, c, rfl⟩ := hp.form
  exact ⟨A, c, he, hb, hp⟩

/-- Blocks that lie there, and rows of parameters. -/
structure KB (w : World) (L : List (Nat × Obj)) (R : List (Value × List PM)) (W : World) : Prop where
  bl : Below w.heap.size w W
  lw : LW W
  blk : ∀ p ∈ L, W.heap[p.1]? = some p.2
  row : ∀ p ∈ R, PR W p.1 p.2
theorem KB.start {w : World} (h : LW w) : KB w [] [] w := ⟨Below.refl _ _, h, (fun _ h => by cases h), fun _ h => by cases h⟩
theorem KB.step {w W W' : World} {L : List (Nat × Obj)} {R : List (Value × List PM)} (h : KB w L R W) (hb : Below W.heap.size W W') : KB w L R W' :=
  ⟨h.bl.trans (hb.mono h.bl.size), h.lw.below hb, fun p hp => blk_below (h.blk p hp) hb, fun p hp => (h.row p hp).step hb⟩
theorem KB.drew {w W : World} {L : List (Nat × Obj)} {R : List (Value × List PM)} (h : KB w L R W) : KB w L R W.drew := h.step (Below.refl _ _).drew
theorem KB.alloc {w W : World} {L : List (Nat × Obj)} {R : List (Value × List PM)} (h : KB w L R W) (o : Array Value) (t : TypeId) : KB w ((W.heap.size, .cells o t) :: L) R (W.alloc (.cells o t)) := by
  have h' := h.step (below_alloc W (.cells o t))
  refine ⟨h'.bl, h'.lw, fun p hp => ?_, h'.row⟩
  rcases List.mem_cons.1 hp with rfl | hp
  · exact heap_alloc_new _ _
  · exact h'.blk p hp
theorem KB.add {w W : World} {L : List (Nat × Obj)} {R : List (Value × List PM)} {v : Value} {ps : List PM} (h : KB w L R W) (hp : PR W v ps) : KB w L ((v, ps) :: R) W :=
  ⟨h.bl, h.lw, h.blk, fun p hm => by
    rcases List.mem_cons.1 hm with rfl | hm
    · exact hp
    · exact h.row p hm⟩

theorem kb {w W : World} {L : List (Nat × Obj)} {R : List (Value × List PM)} {f : Nat} {args : Array Value} {v : Value} (hc : Calls Tryz.prog f args W fun e w' => e = .returned v ∧ Below W.heap.size W w') (h : KB w L R W) :
    Calls Tryz.prog f args W fun e w' => e = .returned v ∧ KB w L R w' := hc.mono fun _ _ ⟨h1, h2⟩ => ⟨h1, h.step h2⟩
theorem cells3 {W : World} {g : Nat} {x y z : Value} {t : TypeId} (h : W.heap[g]? = some (.cells #[x, y, z] t (0, 0))) : W.cell? ⟨g, 0, none⟩ = some x ∧ W.cell? ⟨g, 1, none⟩ = some y ∧ W.cell? ⟨g, 2, none⟩ = some z :=
  ⟨by rw [cellAt h]; rfl, by rw [cellAt h]; rfl, by rw [cellAt h]; rfl⟩
theorem cells7 {W : World} {g : Nat} {c : Cp} (h : W.heap[g]? = some (.cells (cpL c) 53 (0, 0))) : W.cell? ⟨g, 0, none⟩ = some (.bool c.st) ∧ W.cell? ⟨g, 1, none⟩ = some (.bool c.pi) ∧ W.cell? ⟨g, 2, none⟩ = some (.bool c.rq) ∧ W.cell? ⟨g, 3, none⟩ = some (.bool c.ds) ∧ W.cell? ⟨g, 4, none⟩ = some (.bool c.eb) ∧ W.cell? ⟨g, 5, none⟩ = some (.bool c.sz) ∧ W.cell? ⟨g, 6, none⟩ = some (.int .i64 c.mo) :=
  ⟨by rw [cellAt h]; rfl, by rw [cellAt h]; rfl, by rw [cellAt h]; rfl, by rw [cellAt h]; rfl, by rw [cellAt h]; rfl, by rw [cellAt h]; rfl, by rw [cellAt h]; rfl⟩

theorem mailK_few (c : Cp) (f : List UInt8) (size : Int) (req : Bool) (env : List UInt8) (h0 : -9223372036854775808 ≤ size) (h1 : size ≤ 9223372036854775807) (he : env.length ≤ 5000) : (mailK c f size req env).1.ps.length ≤ 3 := by
  have h := (mailPs_small c size req env h0 h1 (by omega)).1
  unfold mailK
  split
  · exact Nat.zero_le _
  · split
    · exact h
    · exact Nat.zero_le _
theorem rcptK_few (c : Cp) (f : List UInt8) (nev : Bool) : (rcptK c f nev).1.ps.length ≤ 1 := by
  unfold rcptK
  split
  · exact optP_len _ _
  · exact Nat.zero_le _
theorem PR.drew {W : World} {v : Value} {ps : List PM} (h : PR W v ps) : PR W.drew v ps := h.step (Below.refl _ _).drew

set_option maxHeartbeats 32000000 in
theorem cmdMakes_run (p : List UInt8) (c : Cp) (size : Int) (req : Bool) (env : List UInt8) (nev : Bool) (w : World) (hp : p.length ≤ 140737488351232) (h0 : -9223372036854775808 ≤ size) (h1 : size ≤ 9223372036854775807) (he : env.length ≤ 140737488351232) (hL : LW w) :
    Calls Tryz.prog 6 #[sv p, .agg (cpL c), .int .i64 size, .bool req, sv env, .bool nev] w fun e w' => e = .returned (.bool true) ∧ Below w.heap.size w w' := by
  have HK0 := Lib.hid ((KB.start hL).alloc (cpL c) 53)
  obtain ⟨X, hX⟩ : ∃ X, X = w.alloc (.cells (cpL c) 53) := ⟨_, rfl⟩
  rw [← hX] at HK0
  have HX := Lib.hid hX
  clear hL hX
  by_cases h5 : 5000 < p.length + env.length
  · have i5 : (5000 : Int) < (p.length : Int) + (env.length : Int) := by omega
    clear h5
    go_enter Tryz.func6, Tryz.ntmps6
    go_wp2_with fail
    rw [← HX.out]
    refine (awake_any _ HK0.out.lw).mono ?_
    rintro e w1 ⟨rfl, hb1⟩
    have HK1 := Lib.hid (HK0.out.step hb1)
    clear hb1
    go_wp2
    go_ret
    exact ⟨rfl, HK1.out.bl⟩
  · have i5 : ¬ (5000 : Int) < (p.length : Int) + (env.length : Int) := by omega
    have hp' : p.length ≤ 5000 := by omega
    have he' : env.length ≤ 5000 := by omega
    clear h5
    have hsm := mailK_few c p size req env h0 h1 he'
    have hsr := rcptK_few c p nev
    have HM1 := Lib.hid (fun (W : World) (h : LW W) => mailK_any c p size req env W (by omega) (by omega) h0 h1 h)
    have HM2 := Lib.hid (fun (W : World) => rmailK_any c p size req env W (by omega) (by omega) h0 h1)
    have HM3 := Lib.hid (fun (W : World) (h : LW W) => rcptK_any c p nev W (by omega) h)
    have HM4 := Lib.hid (fun (W : World) => rrcptK_any c p nev W (by omega))
    obtain ⟨⟨⟨v1, a1, s1⟩, e1⟩, hm1⟩ : ∃ r, r = mailK c p size req env := ⟨_, rfl⟩
    obtain ⟨⟨⟨v2, a2, s2⟩, e2⟩, hm2⟩ : ∃ r, r = rcptK c p nev := ⟨_, rfl⟩
    rw [← hm1] at hsm HM1 HM2
    rw [← hm2] at hsr HM3 HM4
    dsimp only at hsm hsr
    clear hm1 hm2
    have hcb := HK0.out.blk _ (List.mem_cons_self ..)
    dsimp only at hcb
    obtain ⟨c0, c1, c2, c3, c4, c5, c6⟩ := cells7 hcb
    go_enter Tryz.func6, Tryz.ntmps6
    rw [HX.out] at c0 c1 c2 c3 c4 c5 c6
    go_wp2_with fail
    rw [← HX.out]
    clear c0 c1 c2 c3 c4 c5 c6 hcb
    refine (HM1.out _ HK0.out.lw).mono ?_
    rintro e w1 hpost
    obtain ⟨A1, cap1, rfl, hb1, hp1⟩ := ma_open hpost
    dsimp only at hp1
    have HK1a := Lib.hid ((HK0.out.step hb1).add hp1)
    have HK1 := Lib.hid (HK1a.out.alloc #[.int .u8 (v1 : Int), sv a1, .slice A1 s1.length cap1] 41)
    have hcb := (HK1a.out.blk (w.heap.size, .cells (cpL c) 53) (by simp))
    dsimp only at hcb
    obtain ⟨c0, c1, c2, c3, c4, c5, c6⟩ := cells7 hcb
    obtain ⟨Y1, hY1⟩ : ∃ Y, Y = w1.alloc (.cells #[.int .u8 (v1 : Int), sv a1, .slice A1 s1.length cap1] 41) := ⟨_, rfl⟩
    have lw1 : w.heap.size < w1.heap.size := lt_of_blk hcb
    have HY1 := Lib.hid hY1
    rw [← hY1] at HK1
    clear hpost hb1 hp1 hcb hY1
    go_wp2_with fail
    change Calls _ _ _ (w1.alloc (.cells #[.int .u8 (v1 : Int), sv a1, .slice A1 s1.length cap1] 41)) _
    rw [← HY1.out]
    clear c0 c1 c2 c3 c4 c5 c6 lw1
    refine (HM2.out _).mono ?_
    rintro e w2 hpost
    obtain ⟨A2, cap2, rfl, hb2, hp2⟩ := mq_open hpost
    dsimp only at hp2
    have HK2a := Lib.hid ((HK1.out.step hb2).add hp2)
    have HK2 := Lib.hid (HK2a.out.alloc #[.int .u8 (v1 : Int), sv a1, .slice A2 s1.length cap2] 61)
    have hcb := (HK2a.out.blk (w.heap.size, .cells (cpL c) 53) (by simp))
    dsimp only at hcb
    obtain ⟨c0, c1, c2, c3, c4, c5, c6⟩ := cells7 hcb
    obtain ⟨Y2, hY2⟩ : ∃ Y, Y = w2.alloc (.cells #[.int .u8 (v1 : Int), sv a1, .slice A2 s1.length cap2] 61) := ⟨_, rfl⟩
    have lw2 : w.heap.size < w2.heap.size := lt_of_blk hcb
    have HY2 := Lib.hid hY2
    rw [← hY2] at HK2
    clear hpost hb2 hp2 hcb hY2
    go_wp2_with fail
    change Calls _ _ _ (w2.alloc (.cells #[.int .u8 (v1 : Int), sv a1, .slice A2 s1.length cap2] 61)) _
    rw [← HY2.out]
    clear c0 c1 c2 c3 c4 c5 c6 lw2
    refine (HM3.out _ HK2.out.lw).mono ?_
    rintro e w3 hpost
    obtain ⟨A3, cap3, rfl, hb3, hp3⟩ := ma_open hpost
    dsimp only at hp3
    have HK3a := Lib.hid ((HK2.out.step hb3).add hp3)
    have HK3 := Lib.hid (HK3a.out.alloc #[.int .u8 (v2 : Int), sv a2, .slice A3 s2.length cap3] 41)
    have hcb := (HK3a.out.blk (w.heap.size, .cells (cpL c) 53) (by simp))
    dsimp only at hcb
    obtain ⟨c0, c1, c2, c3, c4, c5, c6⟩ := cells7 hcb
    obtain ⟨Y3, hY3⟩ : ∃ Y, Y = w3.alloc (.cells #[.int .u8 (v2 : Int), sv a2, .slice A3 s2.length cap3] 41) := ⟨_, rfl⟩
    have lw3 : w.heap.size < w3.heap.size := lt_of_blk hcb
    have HY3 := Lib.hid hY3
    rw [← hY3] at HK3
    clear hpost hb3 hp3 hcb hY3
    go_wp2_with fail
    change Calls _ _ _ (w3.alloc (.cells #[.int .u8 (v2 : Int), sv a2, .slice A3 s2.length cap3] 41)) _
    rw [← HY3.out]
    clear c0 c1 c2 c3 c4 c5 c6 lw3
    refine (HM4.out _).mono ?_
    rintro e w4 hpost
    obtain ⟨A4, cap4, rfl, hb4, hp4⟩ := mq_open hpost
    dsimp only at hp4
    have HK4a := Lib.hid ((HK3.out.step hb4).add hp4)
    have HK4 := Lib.hid (HK4a.out.alloc #[.int .u8 (v2 : Int), sv a2, .slice A4 s2.length cap4] 61)
    have hcb := (HK4a.out.blk (w.heap.size, .cells (cpL c) 53) (by simp))
    dsimp only at hcb
    obtain ⟨c0, c1, c2, c3, c4, c5, c6⟩ := cells7 hcb
    obtain ⟨Y4, hY4⟩ : ∃ Y, Y = w4.alloc (.cells #[.int .u8 (v2 : Int), sv a2, .slice A4 s2.length cap4] 61) := ⟨_, rfl⟩
    have lw4 : w.heap.size < w4.heap.size := lt_of_blk hcb
    have HY4 := Lib.hid hY4
    rw [← hY4] at HK4
    clear hpost hb4 hp4 hcb hY4
    go_wp2_with fail
    clear c0 c1 c2 c3 c4 c5 c6 lw4
    change Code.wp _ _ _ _ (w4.alloc (.cells #[.int .u8 (v2 : Int), sv a2, .slice A4 s2.length cap4] 61))
    rw [← HY4.out]
    obtain ⟨P, hP⟩ : ∃ P : World → Prop, P = KB w [(w4.heap.size, .cells #[.int .u8 (v2 : Int), sv a2, .slice A4 s2.length cap4] 61), (w3.heap.size, .cells #[.int .u8 (v2 : Int), sv a2, .slice A3 s2.length cap3] 41), (w2.heap.size, .cells #[.int .u8 (v1 : Int), sv a1, .slice A2 s1.length cap2] 61), (w1.heap.size, .cells #[.int .u8 (v1 : Int), sv a1, .slice A1 s1.length cap1] 41), (w.heap.size, .cells (cpL c) 53)]
      [(.slice A4 s2.length cap4, s2), (.slice A3 s2.length cap3, s2), (.slice A2 s1.length cap2, s1), (.slice A1 s1.length cap1, s1)] := ⟨_, rfl⟩
    have HP0 := Lib.hid (show P Y4 by rw [hP]; exact HK4.out)
    have HPD := Lib.hid (show ∀ W, P W → P W.drew by rw [hP]; exact fun W h => h.drew)
    have HPS := Lib.hid (show ∀ W W', P W → Below W.heap.size W W' → P W' by rw [hP]; exact fun W W' h hb => h.step hb)
    have HPB := Lib.hid (show ∀ W, P W → Below w.heap.size w W by rw [hP]; exact fun W h => h.bl)
    have HPR := Lib.hid (show ∀ W, P W → PR W (.slice A1 s1.length cap1) s1 ∧ PR W (.slice A2 s1.length cap2) s1 ∧ PR W (.slice A3 s2.length cap3) s2 ∧ PR W (.slice A4 s2.length cap4) s2 by
      rw [hP]; exact fun W h => ⟨h.row (.slice A1 s1.length cap1, s1) (by simp), h.row (.slice A2 s1.length cap2, s1) (by simp), h.row (.slice A3 s2.length cap3, s2) (by simp), h.row (.slice A4 s2.length cap4, s2) (by simp)⟩)
    have HPL := Lib.hid (show ∀ W, P W → LW W by rw [hP]; exact fun W h => h.lw)
    have HALL := Lib.hid (show ∀ W, P W → P W ∧ W.cell? ⟨w1.heap.size, 0, none⟩ = some (.int .u8 (v1 : Int)) ∧ W.cell? ⟨w1.heap.size, 1, none⟩ = some (sv a1) ∧ W.cell? ⟨w1.heap.size, 2, none⟩ = some (.slice A1 s1.length cap1) ∧
      W.cell? ⟨w2.heap.size, 0, none⟩ = some (.int .u8 (v1 : Int)) ∧ W.cell? ⟨w2.heap.size, 1, none⟩ = some (sv a1) ∧ W.cell? ⟨w2.heap.size, 2, none⟩ = some (.slice A2 s1.length cap2) ∧
      W.cell? ⟨w3.heap.size, 0, none⟩ = some (.int .u8 (v2 : Int)) ∧ W.cell? ⟨w3.heap.size, 1, none⟩ = some (sv a2) ∧ W.cell? ⟨w3.heap.size, 2, none⟩ = some (.slice A3 s2.length cap3) ∧
      W.cell? ⟨w4.heap.size, 0, none⟩ = some (.int .u8 (v2 : Int)) ∧ W.cell? ⟨w4.heap.size, 1, none⟩ = some (sv a2) ∧ W.cell? ⟨w4.heap.size, 2, none⟩ = some (.slice A4 s2.length cap4) by
      intro W h
      have h' := h
      rw [hP] at h'
      obtain ⟨x1, x2, x3⟩ := cells3 (h'.blk (w1.heap.size, .cells #[.int .u8 (v1 : Int), sv a1, .slice A1 s1.length cap1] 41) (by simp))
      obtain ⟨y1, y2, y3⟩ := cells3 (h'.blk (w2.heap.size, .cells #[.int .u8 (v1 : Int), sv a1, .slice A2 s1.length cap2] 61) (by simp))
      obtain ⟨z1, z2, z3⟩ := cells3 (h'.blk (w3.heap.size, .cells #[.int .u8 (v2 : Int), sv a2, .slice A3 s2.length cap3] 41) (by simp))
      obtain ⟨t1, t2, t3⟩ := cells3 (h'.blk (w4.heap.size, .cells #[.int .u8 (v2 : Int), sv a2, .slice A4 s2.length cap4] 61) (by simp))
      exact ⟨h, x1, x2, x3, y1, y2, y3, z1, z2, z3, t1, t2, t3⟩)
    clear hP HK4 HK4a HK3 HK3a HK2 HK2a HK1 HK1a HK0 HX HY1 HY2 HY3 HY4 HM1 HM2 HM3 HM4
    have D1 := Lib.hid (fun W (h : P W) => (told_any ⟨v1, a1, s1⟩ (.slice A1 s1.length cap1) W (HPR.out W h).1 (by show s1.length ≤ 100000; omega)).mono (R' := fun e w' => ∃ A cap, e = .returned (.agg #[.int .u8 (v1 : Int), sv a1, .slice A s1.length cap]) ∧ P w' ∧ PR w' (.slice A s1.length cap) s1) fun _ w' hq => by
      obtain ⟨A, cap, q1, q2, q3⟩ := rc_open hq
      exact ⟨A, cap, q1, HPS.out W w' h q2, q3⟩)
    have D3 := Lib.hid (fun W (h : P W) => (told_any ⟨v2, a2, s2⟩ (.slice A3 s2.length cap3) W (HPR.out W h).2.2.1 (by show s2.length ≤ 100000; omega)).mono (R' := fun e w' => ∃ A cap, e = .returned (.agg #[.int .u8 (v2 : Int), sv a2, .slice A s2.length cap]) ∧ P w' ∧ PR w' (.slice A s2.length cap) s2) fun _ w' hq => by
      obtain ⟨A, cap, q1, q2, q3⟩ := rc_open hq
      exact ⟨A, cap, q1, HPS.out W w' h q2, q3⟩)
    have D2 := Lib.hid (fun W A cap (h : P W) (hr : PR W (.slice A s1.length cap) s1) => (rsameK_any ⟨v1, a1, s1⟩ ⟨v1, a1, s1⟩ (.slice A s1.length cap) (.slice A2 s1.length cap2) W hr (HPR.out W h).2.1 (by show s1.length ≤ 1000000; omega) (by show s1.length ≤ 1000000; omega)).mono (R' := fun e w' => e = .returned (.bool true) ∧ P w') fun _ w' ⟨q1, q2⟩ => ⟨by rw [q1, (sameK_iff _ _).2 rfl], HPS.out W w' h q2⟩)
    have D4 := Lib.hid (fun W A cap (h : P W) (hr : PR W (.slice A s2.length cap) s2) => (rsameK_any ⟨v2, a2, s2⟩ ⟨v2, a2, s2⟩ (.slice A s2.length cap) (.slice A4 s2.length cap4) W hr (HPR.out W h).2.2.2 (by show s2.length ≤ 1000000; omega) (by show s2.length ≤ 1000000; omega)).mono (R' := fun e w' => e = .returned (.bool true) ∧ P w') fun _ w' ⟨q1, q2⟩ => ⟨by rw [q1, (sameK_iff _ _).2 rfl], HPS.out W w' h q2⟩)
    have D5 := Lib.hid (fun W (h : P W) => (awake_any W (HPL.out W h)).mono (R' := fun e w' => e = .returned (.bool true) ∧ P w') fun _ w' ⟨q1, q2⟩ => ⟨q1, HPS.out W w' h q2⟩)
    obtain ⟨hp0, x1, x2, x3, y1, y2, y3, z1, z2, z3, t1, t2, t3⟩ := HALL.out _ HP0.out
    go_region_held3 (fun W => P W ∧ W.cell? ⟨w1.heap.size, 0, none⟩ = some (.int .u8 (v1 : Int)) ∧ W.cell? ⟨w1.heap.size, 1, none⟩ = some (sv a1) ∧ W.cell? ⟨w1.heap.size, 2, none⟩ = some (.slice A1 s1.length cap1) ∧
      W.cell? ⟨w2.heap.size, 0, none⟩ = some (.int .u8 (v1 : Int)) ∧ W.cell? ⟨w2.heap.size, 1, none⟩ = some (sv a1) ∧ W.cell? ⟨w2.heap.size, 2, none⟩ = some (.slice A2 s1.length cap2) ∧
      W.cell? ⟨w3.heap.size, 0, none⟩ = some (.int .u8 (v2 : Int)) ∧ W.cell? ⟨w3.heap.size, 1, none⟩ = some (sv a2) ∧ W.cell? ⟨w3.heap.size, 2, none⟩ = some (.slice A3 s2.length cap3) ∧
      W.cell? ⟨w4.heap.size, 0, none⟩ = some (.int .u8 (v2 : Int)) ∧ W.cell? ⟨w4.heap.size, 1, none⟩ = some (sv a2) ∧ W.cell? ⟨w4.heap.size, 2, none⟩ = some (.slice A4 s2.length cap4))
      (first | exact HALL.out _ (by assumption) | exact HALL.out _ (HPD.out _ (by assumption)))
      (first
        | (go_at_call 28; with_reducible refine (D1.out _ (by first | assumption | exact HPD.out _ (by assumption))).mono ?_; rintro e1 w8 ⟨A5, cap5, rfl, hR, hP5⟩)
        | (go_at_call 28; with_reducible refine (D3.out _ (by first | assumption | exact HPD.out _ (by assumption))).mono ?_; rintro e1 w8 ⟨A5, cap5, rfl, hR, hP5⟩)
        | (go_at_call 32; with_reducible refine (D2.out _ _ _ (by first | assumption | exact HPD.out _ (by assumption)) (by first | assumption | exact PR.drew (by assumption))).mono ?_; rintro e1 w8 ⟨rfl, hR⟩)
        | (go_at_call 32; with_reducible refine (D4.out _ _ _ (by first | assumption | exact HPD.out _ (by assumption)) (by first | assumption | exact PR.drew (by assumption))).mono ?_; rintro e1 w8 ⟨rfl, hR⟩)
        | (go_at_call 15; with_reducible refine (D5.out _ (by first | assumption | exact HPD.out _ (by assumption))).mono ?_; rintro e1 w8 ⟨rfl, hR⟩))
    all_goals (try go_wp2)
    all_goals go_ret
    all_goals exact ⟨rfl, HPB.out _ (by assumption)⟩

theorem cmdMakes_walk (p : List UInt8) (c : Cp) (size : Int) (req : Bool) (env : List UInt8) (nev : Bool) {w : World} (hp : p.length ≤ 140737488351232) (hz : (Lit.int .i64 size).wf = true) (he : env.length ≤ 140737488351232) (hL : LW w) :
    Calls Tryz.prog 6 #[sv p, .agg (cpL c), .int .i64 size, .bool req, sv env, .bool nev] w fun e w' => e = .returned (.bool true) ∧ Below w.heap.size w w' := by
  have hb : -9223372036854775808 ≤ size ∧ size ≤ 9223372036854775807 := by
    simp only [Lit.wf, IntKind.min, IntKind.max, IntKind.signed, IntKind.bits, Bool.and_eq_true, decide_eq_true_eq, if_true] at hz
    omega
  exact cmdMakes_run p c size req env nev w hp hb.1 hb.2 he hL
end Go.Proofs.YtbmjmiioobgbfaaGreatDoor
