/-
  The reference's Same, value.
-/
import Derived.Test.YtnaoandleelbkaaGreatDoorJQm
import Derived.Test.YtnaoandleelbkaaGreatDoorERAll
namespace Go.Proofs.YtnaoandleelbkaaGreatDoor
set_option linter.unusedSimpArgs false
set_option linter.unusedVariables false
open Go Go.RowKit
set_option maxRecDepth 100000

theorem rvalue_any {w : World} (l : List Tv) (A : Option Addr) (cp i : Nat) (hR : TR w (.slice A l.length cp) l) (hl : l.length ≤ 1000000) (hi : i ≤ 100) :
    Calls Tryz.prog 79 #[.slice A l.length cp, .int .i64 (i : Int)] w fun e w' => e = .returned (sv (l.getD i pm0).2) ∧ w' = w := by
  have HR := Lib.hid hR
  clear hR
  by_cases hlt : i < l.length
  · obtain ⟨g, off, rfl, hgl, c0, c1⟩ := HR.out.at hlt
    have hlt' : (i : Int) < (l.length : Int) := by omega
    obtain ⟨x, hx⟩ : ∃ x, x = l.getD i pm0 := ⟨_, rfl⟩
    rw [← hx] at c0 c1 ⊢
    clear hx
    go_enter Tryz.func79, Tryz.ntmps79
    go_wp2_with fail
    go_ret
    exact ⟨rfl, rfl⟩
  · have hlt' : ¬ (i : Int) < (l.length : Int) := by omega
    have HE := Lib.hid (show l.getD i pm0 = pm0 by rw [List.getD_eq_getElem?_getD, List.getElem?_eq_none (by omega)]; rfl)
    go_enter Tryz.func79, Tryz.ntmps79
    go_wp2_with fail
    go_ret
    try rw [HE.out]
    exact ⟨rfl, rfl⟩
set_option maxHeartbeats 16000000 in
theorem rsame14_any {w : World} (c d : Ct) (A B : Option Addr) (cp dp : Nat) (hx : SX w (.slice A c.names.length cp) c.names) (hy : SX w (.slice B d.names.length dp) d.names) (hs : c.names.length ≤ 1000000) (ht : d.names.length ≤ 1000000) :
    Calls Tryz.prog 23 #[certV c (.slice A c.names.length cp), certV d (.slice B d.names.length dp)] w fun e w' => e = .returned (.bool (sameB c d)) ∧ Below w.heap.size w w' := by
  have hb2 : Below w.heap.size w ((w.alloc (cellsQ c (.slice A c.names.length cp))).alloc (cellsQ d (.slice B d.names.length dp))) := (below_alloc _ _).trans ((below_alloc _ _).mono (by simp))
  have hc : CQB ((w.alloc (cellsQ c (.slice A c.names.length cp))).alloc (cellsQ d (.slice B d.names.length dp))) w.heap.size c (.slice A c.names.length cp) := (CQB.new w c _).step (below_alloc _ _)
  have hd : CQB ((w.alloc (cellsQ c (.slice A c.names.length cp))).alloc (cellsQ d (.slice B d.names.length dp))) (w.heap.size + 1) d (.slice B d.names.length dp) := by have := CQB.new (w.alloc (cellsQ c (.slice A c.names.length cp))) d (.slice B d.names.length dp); rwa [World.size_alloc] at this
  obtain ⟨r, hr⟩ : ∃ r, r = sameB c d := ⟨_, rfl⟩
  have HM := Lib.hid ((show (r = true) ↔ (sameB c d = true) by rw [hr]).trans sameB_iff)
  rw [← hr]
  have HX := Lib.hid hx
  have HY := Lib.hid hy
  have HB := Lib.hid hb2
  have HC := Lib.hid hc
  have HD := Lib.hid hd
  obtain ⟨c0, c1, c2, c3, c4, c5⟩ := c
  obtain ⟨d0, d1, d2, d3, d4, d5⟩ := d
  simp only at HB HC HD HM HX HY hs ht
  unfold certV
  simp only
  clear hx hy hb2 hc hd hr
  by_cases hn : c0 = d0
  case neg =>
    have HR := Lib.hid (may_not HM.out (fun h => hn (congrArg Ct.key h)))
    have e1 : (c0 == d0) = false := by simpa using hn
    have e2 : (c0 != d0) = true := by simpa using hn
    go_enter Tryz.func23, Tryz.ntmps23
    go_wp2_with fail
    go_ret
    rw [HR.out]
    exact ⟨rfl, HB.out⟩
  subst hn
  by_cases hn : c1 = d1
  case neg =>
    have HR := Lib.hid (may_not HM.out (fun h => hn (congrArg Ct.sig h)))
    have e1 : (c1 == d1) = false := by simpa using hn
    have e2 : (c1 != d1) = true := by simpa using hn
    go_enter Tryz.func23, Tryz.ntmps23
    go_wp2_with fail
    go_ret
    rw [HR.out]
    exact ⟨rfl, HB.out⟩
  subst hn
  by_cases hn : c3 = d3
  case neg =>
    have HR := Lib.hid (may_not HM.out (fun h => hn (congrArg Ct.fr h)))
    have e1 : (c3 == d3) = false := by simpa using hn
    have e2 : (c3 != d3) = true := by simpa using hn
    go_enter Tryz.func23, Tryz.ntmps23
    go_wp2_with fail
    go_ret
    rw [HR.out]
    exact ⟨rfl, HB.out⟩
  subst hn
  by_cases hn : c4 = d4
  case neg =>
    have HR := Lib.hid (may_not HM.out (fun h => hn (congrArg Ct.un h)))
    have e1 : (c4 == d4) = false := by simpa using hn
    have e2 : (c4 != d4) = true := by simpa using hn
    go_enter Tryz.func23, Tryz.ntmps23
    go_wp2_with fail
    go_ret
    rw [HR.out]
    exact ⟨rfl, HB.out⟩
  subst hn
  by_cases hn : c5 = d5
  case neg =>
    have HR := Lib.hid (may_not HM.out (fun h => hn (congrArg Ct.ca h)))
    have e1 : (c5 == d5) = false := by simpa using hn
    have e2 : (c5 != d5) = true := by simpa using hn
    go_enter Tryz.func23, Tryz.ntmps23
    go_wp2_with fail
    go_ret
    rw [HR.out]
    exact ⟨rfl, HB.out⟩
  subst hn
  by_cases hn : c2.length = d2.length
  case neg =>
    have HR := Lib.hid (may_not HM.out (fun h => hn (congrArg (fun x : Ct => x.names.length) h)))
    have e0 : ¬ (c2.length : Int) = (d2.length : Int) := by omega
    have e1 : ((c2.length : Int) == (d2.length : Int)) = false := by rw [beq_eq_false_iff_ne]; exact e0
    have e2 : ((c2.length : Int) != (d2.length : Int)) = true := by rw [bne_iff_ne]; exact e0
    go_enter Tryz.func23, Tryz.ntmps23
    go_wp2_with fail
    go_ret
    rw [HR.out]
    exact ⟨rfl, HB.out⟩
  have e1 : ((c2.length : Int) != (d2.length : Int)) = false := by rw [hn]; simp
  have HLN := Lib.hid hn
  clear hn
  go_enter Tryz.func23, Tryz.ntmps23
  go_wp2_with fail
  go_loopw [5] (fun i wr => ∃ k : Nat, k ≤ c2.length ∧ i = .int .i64 (k : Int) ∧ (∀ j, j < k → c2.getD j [] = d2.getD j []) ∧ CQB wr w.heap.size ⟨c0, c1, c2, c3, c4, c5⟩ (.slice A c2.length cp) ∧ CQB wr (w.heap.size + 1) ⟨c0, c1, d2, c3, c4, c5⟩ (.slice B d2.length dp) ∧ Below w.heap.size w wr) (fun i _ => c2.length - (intOf i).toNat)
  case atStart => exact ⟨0, Nat.zero_le _, rfl, (fun j hj => by omega), HC.out, HD.out, HB.out⟩
  case round =>
    clear HC HD HB
    obtain ⟨k, hk, rfl, ha, hc, hd, hb⟩ := hrel
    have HA := Lib.hid ha
    have HCr := Lib.hid hc
    have HDr := Lib.hid hd
    have HBr := Lib.hid hb
    have p2 := hc.c2
    have q2 := hd.c2
    try simp only at p2
    try simp only at q2
    clear ha hc hd hb
    by_cases hlt : k < c2.length
    · have hlt2 : k < d2.length := by have := HLN.out; omega
      obtain ⟨g, o, rfl, _, x1⟩ := (HX.out.step HBr.out).at hlt
      obtain ⟨g2, o2, rfl, _, x2⟩ := (HY.out.step HBr.out).at hlt2
      have hlt' : (k : Int) < (c2.length : Int) := by omega
      have hlt2' : (k : Int) < (d2.length : Int) := by omega
      have HI1 := Lib.hid (mem_getD hlt)
      obtain ⟨x, hxe⟩ : ∃ x, x = c2.getD k [] := ⟨_, rfl⟩
      obtain ⟨y, hye⟩ : ∃ y, y = d2.getD k [] := ⟨_, rfl⟩
      rw [← hxe] at x1
      rw [← hye] at x2
      have HXE := Lib.hid hxe
      have HYE := Lib.hid hye
      clear hxe hye
      by_cases hxy : x = y
      · have HN := Lib.hid (show ∀ j, j < k + 1 → c2.getD j [] = d2.getD j [] by
          intro j hj
          by_cases e : j = k
          · subst e; rw [← HXE.out, ← HYE.out]; exact hxy
          · exact HA.out j (by omega))
        subst hxy
        go_wp2_with fail
        go_quiet (fail)
        go_wp2_with fail
        go_roundw
        case rel => exact ⟨k + 1, by omega, by go_num, HN.out, HCr.out.step (below_drewN (Below.refl _ _) _), HDr.out.step (below_drewN (Below.refl _ _) _), below_drewN HBr.out _⟩
        case measure => simp [intOf]; omega
      · have HF := Lib.hid (may_not HM.out (fun h => hxy (by rw [HXE.out, HYE.out]; exact congrArg (fun z : Ct => z.names.getD k []) h)))
        have e1 : (x == y) = false := by simpa using hxy
        have e2 : (x != y) = true := by simpa using hxy
        have HXY := Lib.hid hxy
        clear hxy
        go_wp2_with fail
        go_quiet (fail)
        go_wp2_with fail
        go_ret
        rw [HF.out]
        exact ⟨rfl, below_drewN HBr.out _⟩
    · obtain rfl : k = c2.length := by omega
      have HE := Lib.hid (show r = true from HM.out.2 (by
        have : c2 = d2 := by
          refine List.ext_getElem HLN.out fun j h1 h2 => ?_
          have := HA.out j h1
          rwa [List.getD_eq_getElem?_getD, List.getD_eq_getElem?_getD, List.getElem?_eq_getElem h1, List.getElem?_eq_getElem h2] at this
        rw [this]))
      have hnl : ¬ (c2.length : Int) < (c2.length : Int) := by omega
      go_wp2_with fail
      go_ret
      rw [HE.out]
      exact ⟨rfl, HBr.out⟩
end Go.Proofs.YtnaoandleelbkaaGreatDoor
