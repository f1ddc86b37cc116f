/-
  The reference's disk: Write.
-/
import Derived.Test.YtechpecnanodfaaDRef1
namespace Go.Proofs.Ytechpecnanodfaa
open Go Go.RowKit Go.Maps
set_option maxRecDepth 100000
set_option linter.unusedSimpArgs false
set_option linter.unusedVariables false

set_option maxHeartbeats 2000000 in
theorem write_rd {w : World} {q g1 g2 g3 : Nat} {S : DS} (h : RD w q g1 g2 g3 S) (hops : S.ops < 4611686018427387904) (a : Int) (s : List UInt8) (hsl : s.length ≤ 140737488355328) :
    Calls Try.prog 39 #[dp q, .int .i64 a, sv s] w fun e w' => e = .returned (.int .i64 (S.wrE a s)) ∧ RD w' q g1 g2 g3 (S.wr a s) ∧ Kp [q, g2, g3] w w' := by
  have HH := Lib.hid h
  obtain ⟨c1, c2, c3, left, fails, hq, h1, h2, h3, hr⟩ := h.box
  have k1 : w.cell? ⟨q, 1, none⟩ = some (.slice (some ⟨g2, 0, none⟩) S.was.length c2) := cellAt hq 1
  have k2 : w.cell? ⟨q, 2, none⟩ = some (.slice (some ⟨g3, 0, none⟩) S.was.length c3) := cellAt hq 2
  have k6 : w.cell? ⟨q, 6, none⟩ = some (.bool S.off) := cellAt hq 6
  have HOK := Lib.hid h.ok
  have HQ := Lib.hid hq
  have H1 := Lib.hid h1
  have H2 := Lib.hid h2
  have H3 := Lib.hid h3
  have HR := Lib.hid hr
  have HRE := Lib.hid (show S.wrE a s = if S.off then 42 else if S.has a && decide (s.length = 128) then 0 else 1 from rfl)
  have HWR := Lib.hid (show S.wr a s = if S.wrE a s = 0 then (S.put a.toNat s).did else S from rfl)
  have HHA := Lib.hid (DS.has_iff (S := S) (a := a))
  have hlen : (str s).size = s.length := by show s.toArray.size = _; simp
  obtain ⟨hn1, hn2, hn3, _, _, hn4⟩ := h.ne
  have HNE := Lib.hid (show g2 ≠ q ∧ g3 ≠ q ∧ g1 ≠ q ∧ g1 ≠ g2 ∧ g1 ≠ g3 ∧ g2 ≠ g3 from ⟨fun e => hn2 e.symm, fun e => hn3 e.symm, fun e => hn1 e.symm, h.ne.2.2.2.1, h.ne.2.2.2.2.1, hn4⟩)
  generalize hn : S.was.length = n at k1 k2 HHA HQ
  have HN := Lib.hid hn
  have hn2' : n ≤ 1024 := by have := h.ok.n2; omega
  clear h hq h1 h2 h3 hr hn hn1 hn2 hn3 hn4
  go_enter Try.func39, Try.ntmps39
  cases hoff : S.off with
  | true =>
    rw [hoff] at k6
    have e1 : S.wrE a s = 42 := by rw [HRE.out, hoff]; rfl
    have HE1 := Lib.hid e1
    clear hoff e1
    go_wp2_with fail
    go_ret
    exact ⟨by rw [HE1.out]; rfl, by rw [HWR.out, HE1.out]; exact HH.out, Kp.refl _ _⟩
  | false =>
    rw [hoff] at k6 HQ
    by_cases ha0 : a < 0
    · have hh : S.has a = false := by
        cases hx : S.has a with
        | false => rfl
        | true => have := HHA.out.1 hx; omega
      have HE1 := Lib.hid (show S.wrE a s = 1 by rw [HRE.out, hoff, hh]; rfl)
      clear hoff hh
      go_wp2_with fail
      go_ret
      exact ⟨by rw [HE1.out]; rfl, by rw [HWR.out, HE1.out]; exact HH.out, Kp.refl _ _⟩
    · by_cases ha1 : (n : Int) ≤ a
      · have hh : S.has a = false := by
          cases hx : S.has a with
          | false => rfl
          | true => have := HHA.out.1 hx; omega
        have HE1 := Lib.hid (show S.wrE a s = 1 by rw [HRE.out, hoff, hh]; rfl)
        clear hoff hh
        go_wp2_with fail
        go_ret
        exact ⟨by rw [HE1.out]; rfl, by rw [HWR.out, HE1.out]; exact HH.out, Kp.refl _ _⟩
      · by_cases hs : s.length = 128
        · have hh : S.has a = true := HHA.out.2 ⟨by omega, by omega⟩
          obtain ⟨i, rfl⟩ : ∃ i : Nat, a = (i : Int) := ⟨a.toNat, by omega⟩
          have HE1 := Lib.hid (show S.wrE (i : Int) s = 0 by rw [HRE.out, hoff, hh, decide_eq_true hs]; rfl)
          have hilN : i < S.now.length := by rw [HOK.out.hn, HN.out]; omega
          have hilW : i < S.wet.length := by rw [HOK.out.hw, HN.out]; omega
          obtain ⟨hc2, hf2⟩ := H2.out.cell (j := i) (by rw [txs_length]; exact hilN)
          obtain ⟨x2, hx2⟩ : ∃ x, x = (txs S.now).getD i undef := ⟨_, rfl⟩
          rw [← hx2] at hc2
          have hK2 : Kp [g2] w (w.setCell ⟨g2, i, none⟩ (.string (str s))) := (Kp.refl _ _).setCell (by simp) _
          have h3' := H3.out.of_block (hK2.block g3 H3.out.lt (by simp; exact fun e => HNE.out.2.2.2.2.2 e.symm))
          obtain ⟨hc3, hf3⟩ := h3'.cell (j := i) (by rw [bls_length]; exact hilW)
          have k2b : (w.setCell ⟨g2, i, none⟩ (.string (str s))).cell? ⟨q, 2, none⟩ = some (.slice (some ⟨g3, 0, none⟩) n c3) := (World.cell?_of_block (w := w) (hK2.block q (lt_of_blk HQ.out) (by simp; exact fun e => HNE.out.1 e.symm))).trans k2
          have hc3o := H3.out.cell (j := i) (by rw [bls_length]; exact hilW)
          obtain ⟨x3, hx3⟩ : ∃ x, x = (bls S.wet).getD i undef := ⟨_, rfl⟩
          rw [← hx3] at hc3 hc3o
          obtain ⟨hc3o1, hc3o2⟩ := hc3o
          have hk13 : Kp [g2, g3] w ((w.setCell ⟨g2, i, none⟩ (.string (str s))).setCell ⟨g3, i, none⟩ (.bool true)) := ((Kp.refl _ _).setCell (by simp) _).setCell (by simp) _
          have HK13 := Lib.hid hk13
          have HQ2 := Lib.hid ((hk13.block q (lt_of_blk HQ.out) (by simp; exact ⟨fun e => HNE.out.1 e.symm, fun e => HNE.out.2.1 e.symm⟩)).trans HQ.out)
          have HX1 := Lib.hid (H1.out.of_block (hk13.block g1 H1.out.lt (by simp; exact ⟨HNE.out.2.2.2.1, HNE.out.2.2.2.2.1⟩)))
          have HX3 := Lib.hid (h3'.set (j := i) (by rw [bls_length]; exact hilW) (.bool true))
          have HX2 := Lib.hid ((H2.out.set (j := i) (by rw [txs_length]; exact hilN) (.string (str s))).of_block (w' := (w.setCell ⟨g2, i, none⟩ (.string (str s))).setCell ⟨g3, i, none⟩ (.bool true)) (((Kp.refl [g3] _).setCell (by simp) _).block g2 (by have := H2.out.lt; simpa [World.setCell] using this) (by simp; exact HNE.out.2.2.2.2.2)))
          have HLT := Lib.hid (show fails = true → 0 < left ∧ left ≤ 9223372036854775807 from fun hf => by
            obtain ⟨q1, q2⟩ := HR.out.on hoff
            rw [hf] at q1
            have h0 : 0 < S.left := by simpa using q1.symm
            exact ⟨by rw [q2 h0]; exact h0, HR.out.b.2⟩)
          have HRT := Lib.hid (HR.out.did hoff (T := (S.put i s).did) rfl rfl)
          have HOT := Lib.hid (HOK.out.put (i := i) (by rw [HN.out]; omega) hs).did
          rw [hs] at hlen
          have hin : (i : Int) < (n : Int) := by omega
          have hi0 : (0 : Int) ≤ (i : Int) := by omega
          have hni : ¬ (n : Int) ≤ (i : Int) := ha1
          have hn0 : ¬ (i : Int) < 0 := ha0
          clear hoff hh hilN hilW hx2 hx3 hK2 h3' hk13 HRE HHA ha0 ha1 hs
          go_wp2_with (go_at_call 49; refine (did_r HQ2.out hops HLT.out).mono ?_; rintro e w2 ⟨rfl, hq2, hkk⟩)
          go_ret
          refine ⟨by rw [HE1.out]; rfl, ?_, (show Kp [q, g2, g3] w _ from HK13.out.mono (by simp)).trans hkk (fun k hk _ => by simp at hk; simp [hk])⟩
          rw [HWR.out, if_pos HE1.out]
          show RD w2 q g1 g2 g3 (S.put i s).did
          have hw2 : ∀ b, b < ((w.setCell ⟨g2, i, none⟩ (.string (str s))).setCell ⟨g3, i, none⟩ (.bool true)).heap.size → b ≠ q → w2.heap[b]? = ((w.setCell ⟨g2, i, none⟩ (.string (str s))).setCell ⟨g3, i, none⟩ (.bool true)).heap[b]? := fun b hb hne => hkk.block b hb (by simp; exact hne)
          have hx2 : XR ((w.setCell ⟨g2, i, none⟩ (.string (str s))).setCell ⟨g3, i, none⟩ (.bool true)) 9 g2 c2 (txs (S.now.set i s)) := by rw [← txs_set]; exact HX2.out
          have hx3 : XR ((w.setCell ⟨g2, i, none⟩ (.string (str s))).setCell ⟨g3, i, none⟩ (.bool true)) 4 g3 c3 (bls (S.wet.set i true)) := by rw [← bls_set]; exact HX3.out
          refine ⟨HOT.out, ⟨c1, c2, c3, _, fails, ?_, HX1.out.of_block (hw2 g1 HX1.out.lt HNE.out.2.2.1), hx2.of_block (hw2 g2 hx2.lt HNE.out.1), hx3.of_block (hw2 g3 hx3.lt HNE.out.2.1), HRT.out.1⟩, HH.out.ne⟩
          have e := HRT.out.2
          show w2.heap[q]? = some (.cells (rCells S.was.length g1 c1 g2 c2 g3 c3 (S.ops + 1) _ fails (S.put i s).did.off) 78 (0, 0))
          rw [← e, hq2, ← HN.out]
        · have hs2 : ((str s).size : Int) ≠ 128 := by rw [hlen]; omega
          have HE1 := Lib.hid (show S.wrE a s = 1 by rw [HRE.out, hoff, decide_eq_false hs]; simp)
          have hn0 : ¬ a < 0 := ha0
          clear hoff
          go_wp2_with fail
          go_ret
          exact ⟨by rw [HE1.out]; rfl, by rw [HWR.out, HE1.out]; exact HH.out, Kp.refl _ _⟩
end Go.Proofs.Ytechpecnanodfaa
