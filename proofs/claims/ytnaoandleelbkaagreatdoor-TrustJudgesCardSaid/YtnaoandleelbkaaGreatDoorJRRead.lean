/-
  The reference's Read.
-/
import Derived.Test.YtnaoandleelbkaaGreatDoorJRDec
import Derived.Test.YtnaoandleelbkaaGreatDoorJTm
namespace Go.Proofs.YtnaoandleelbkaaGreatDoor
set_option linter.unusedSimpArgs false
set_option linter.unusedVariables false
open Go Go.RowKit
set_option maxRecDepth 100000

theorem tw_apartQ {base : Nat} {W W' : World} {v u : Value} {xs : List (List UInt8)} {ps : List Cn} (h : TW base W u xs) (h' : CQ base W v ps) (hg : W.grownBy W' v.ownBlock) : TW base W' u xs := by
  refine h.old hg fun g e e1 => ?_
  rcases h.2 with ⟨rfl, h0⟩ | ⟨g1, cap, cur, rfl, _, hgg, _⟩
  · simp [Value.ownBlock] at e
  · simp only [Value.ownBlock, Option.some.injEq] at e
    subst e
    rcases h'.2 with ⟨rfl, _⟩ | ⟨g', cap', cur', rfl, _, hgg', _⟩
    · simp [Value.ownBlock] at e1
    · simp only [Value.ownBlock, Option.some.injEq] at e1
      subst e1
      rw [hgg] at hgg'
      simp only [Option.some.injEq, Obj.cells.injEq] at hgg'
      exact absurd hgg'.2.1 (by decide)
theorem rrd_step {w wr w1 : World} {v : Value} {ps : List Cn} (hco : CQ w.heap.size wr v ps) (hno : NO w.heap.size wr ps) (hg : Below w.heap.size w wr) (hb1 : Below wr.heap.size wr w1) {c : Ct} {A1 : Option Addr} {cp1 : Nat} (htw : TW wr.heap.size w1 (.slice A1 c.names.length cp1) c.names) (hl : ps.length ≤ 4) :
    ∃ g cap w2, (Builtin.append_ #[58, 58] 58 #[v, .slice (some ⟨w1.heap.size + 1, 0, none⟩) 1 1]).run Tryz.prog ((w1.alloc (cellsQ c (.slice A1 c.names.length cp1))).alloc (cellsQ c (.slice A1 c.names.length cp1))) = .ok (.slice (some ⟨g, 0, none⟩) (ps.length + 1) cap) w2 ∧
      CQ w.heap.size w2 (.slice (some ⟨g, 0, none⟩) (ps.length + 1) cap) (ps ++ [(c, (A1, cp1))]) ∧ NO w.heap.size w2 (ps ++ [(c, (A1, cp1))]) ∧ Below w.heap.size w w2 := by
  obtain ⟨W, hW⟩ : ∃ W, W = w1.alloc (cellsQ c (.slice A1 c.names.length cp1)) := ⟨_, rfl⟩
  have hz : W.heap.size = w1.heap.size + 1 := by rw [hW, World.size_alloc]
  have hb2 : Below w1.heap.size w1 W := by rw [hW]; exact below_alloc _ _
  have hbW : Below wr.heap.size wr W := hb1.trans (hb2.mono hb1.size)
  have hgW := hg.trans (hbW.mono hg.size)
  have hcoW := hco.below hbW
  obtain ⟨g, cap, w2, h1, h2, h3, h4⟩ := cq_append hcoW hgW.size (by omega) (c, (A1, cp1))
  have h3' : W.grownBy w2 v.ownBlock := ⟨h3.os, h3.tape, h3.output, Nat.le_trans (by simp) h3.size, fun k hk hne => (h3.block k (by simp; omega) hne).trans (Below.heap_alloc _ _ _ hk)⟩
  have hbb : Below w.heap.size w w2 := Below.grown hgW h3' hgW.size fun j hj => (hcoW.lt hj).1
  rw [← hW, ← hz]
  refine ⟨g, cap, w2, h1, h2, fun x hx => ?_, hbb⟩
  rcases List.mem_append.1 hx with hx | hx
  · exact tw_apartQ ((hno x hx).below hbW) hcoW h3'
  · rw [List.mem_singleton.1 hx]
    exact tw_apartQ ((htw.below hb2).lower hg.size) hcoW h3'
/-- What the reference's Read tells. -/
def RReadPost (w : World) (chain : List (List UInt8)) (e : Ending) (w' : World) : Prop := ∃ v ps, e = .returned v ∧ ps.map (·.1) = chainT chain ∧ CQ w.heap.size w' v ps ∧ NO w.heap.size w' ps ∧ Below w.heap.size w w'
set_option maxHeartbeats 8000000 in
theorem rread_any {w : World} (chain : List (List UInt8)) (A : Option Addr) (cp : Nat) (hx : SX w (.slice A chain.length cp) chain) (hl : ∀ s ∈ chain, s.length ≤ 1000000000) (hlen : chain.length ≤ 1000000000) :
    Calls Tryz.prog 41 #[.slice A chain.length cp] w (RReadPost w chain) := by
  obtain ⟨ch, hch⟩ : ∃ ch, ch = chain.take 4 := ⟨_, rfl⟩
  have hcl : ch.length = min chain.length 4 := by rw [hch, List.length_take]; omega
  have hat : ∀ k, k < ch.length → ch.getD k [] = chain.getD k [] := fun k hk => by
    rw [hch, List.getD_eq_getElem?_getD, List.getElem?_take_of_lt (by omega), ← List.getD_eq_getElem?_getD]
  have HT := Lib.hid (show chainT chain = readL ch by rw [hch]; rfl)
  have HX := Lib.hid hx
  have HL := Lib.hid hl
  have HAT := Lib.hid hat
  clear hx hl hat hch
  go_enter Tryz.func41, Tryz.ntmps41
  go_wp2_with fail
  go_loopw [3, 4] (fun v i wr => ∃ k ps, k ≤ ch.length ∧ i = .int .i64 (k : Int) ∧ readL ch = ps.map (·.1) ++ readL (ch.drop k) ∧ ps.length = k ∧ CQ w.heap.size wr v ps ∧ NO w.heap.size wr ps ∧ Below w.heap.size w wr) (fun _ i _ => ch.length - (intOf i).toNat)
  case atStart => exact ⟨0, [], Nat.zero_le _, rfl, rfl, rfl, CQ.nil _ _, (fun x hx => (by cases hx)), Below.refl _ _⟩
  case round =>
    obtain ⟨k, ps, hk, rfl, hrd, hpl, hco, hno, hgb⟩ := hrel
    obtain ⟨A0, c0, rfl, hpc⟩ := hco.form
    have HPL := Lib.hid hpl
    have HRD := Lib.hid hrd
    have HCO := Lib.hid hco
    have HNO := Lib.hid hno
    have HBr := Lib.hid hgb
    clear hrd hco hno hgb hpl hpc
    by_cases hlt : k < ch.length
    · have hlc : k < chain.length := by omega
      obtain ⟨g, off, hA, _, q0⟩ := (HX.out.step HBr.out).at hlc
      subst hA
      have hlt' : (k : Int) < (chain.length : Int) := by omega
      have hlt4 : (k : Int) < 4 := by omega
      have hrl := readL_drop hlt
      rw [HAT.out k hlt] at hrl
      have hsl := HL.out _ (mem_getD hlc)
      obtain ⟨s, hs⟩ : ∃ s, s = chain.getD k [] := ⟨_, rfl⟩
      rw [← hs] at q0 hrl hsl
      have HDC := Lib.hid (@rdecode_any wr s hsl)
      clear hs hsl
      cases hd : decO s with
      | none =>
        rw [hd] at hrl
        have hne := decE_none2 hd
        have HE := Lib.hid (show readL ch = ps.map (·.1) by rw [HRD.out, hrl]; simp)
        have HD := Lib.hid hd
        obtain ⟨z, hz⟩ : ∃ z, z = decE s := ⟨_, rfl⟩
        rw [← hz] at hne
        have HZ := Lib.hid hz
        have hne' : ¬ (z : Int) = 0 := by omega
        have hne2 : ((z : Int) != 0) = true := by rw [bne_iff_ne]; exact hne'
        clear hrl hd hz hne
        go_wp2_with (go_at_call 30; (with_reducible refine HDC.out.mono ?_); rintro e w1 ⟨hb1, hm⟩; rw [HD.out] at hm; subst hm; rw [← HZ.out]; have HB1 := Lib.hid hb1; clear hb1; unfold certV)
        go_ret
        exact ⟨_, ps, rfl, by rw [HT.out, HE.out], HCO.out.below (HB1.out.trans ((below_alloc _ _).mono HB1.out.size)), HNO.out.below (HB1.out.trans ((below_alloc _ _).mono HB1.out.size)), HBr.out.trans ((HB1.out.trans ((below_alloc _ _).mono HB1.out.size)).mono HBr.out.size)⟩
      | some c =>
        rw [hd] at hrl
        have HD := Lib.hid hd
        have HE := Lib.hid (show ∀ x : Cn, x.1 = c → readL ch = (ps ++ [x]).map (·.1) ++ readL (ch.drop (k + 1)) by
          intro x hx
          rw [HRD.out, hrl, List.map_append, List.append_assoc]; simp [hx])
        clear hrl hd
        go_wp2_with (first
          | (go_at_call 30; (with_reducible refine HDC.out.mono ?_); rintro e w1 ⟨hb1, hm⟩; rw [HD.out] at hm; obtain ⟨A1, cp1, rfl, htw⟩ := hm; obtain ⟨g2, cap2, w2, hrun, r1, r2, r3⟩ := rrd_step HCO.out HNO.out HBr.out hb1 htw (by have := HPL.out; omega); have HRUN := Lib.hid hrun; have R1 := Lib.hid r1; have R2 := Lib.hid r2; have R3 := Lib.hid r3; clear hrun r1 r2 r3 htw hb1; unfold certV)
          | (at_builtin; refine stepApp rfl _ _ 58 rfl rfl rfl HRUN.out ?_))
        go_roundw
        case rel => exact ⟨k + 1, ps ++ [(c, (A1, cp1))], by omega, by go_num, HE.out _ rfl, by rw [List.length_append, HPL.out]; rfl, R1.out, R2.out, R3.out⟩
        case measure => simp [intOf]; omega
    · obtain rfl : k = ch.length := by omega
      have HE := Lib.hid (show readL ch = ps.map (·.1) by rw [HRD.out, List.drop_length]; simp [readL])
      by_cases h4 : ch.length < chain.length
      · have h4' : (ch.length : Int) < (chain.length : Int) := by omega
        have h5' : ¬ (ch.length : Int) < 4 := by omega
        have h5d : decide ((ch.length : Int) < 4) = false := by rw [decide_eq_false_iff_not]; exact h5'
        go_wp2_with fail
        go_ret
        exact ⟨_, ps, rfl, by rw [HT.out, HE.out], HCO.out, HNO.out, HBr.out⟩
      · have h4' : ¬ (ch.length : Int) < (chain.length : Int) := by omega
        have h4d : decide ((ch.length : Int) < (chain.length : Int)) = false := by rw [decide_eq_false_iff_not]; exact h4'
        go_wp2_with fail
        go_ret
        exact ⟨_, ps, rfl, by rw [HT.out, HE.out], HCO.out, HNO.out, HBr.out⟩
end Go.Proofs.YtnaoandleelbkaaGreatDoor
