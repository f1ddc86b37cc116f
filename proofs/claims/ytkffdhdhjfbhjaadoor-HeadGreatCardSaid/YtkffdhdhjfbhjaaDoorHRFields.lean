/-
  The contract of the reference's Fields.
-/
import Derived.Deep.RegionLaw
import Derived.Test.YtkffdhdhjfbhjaaDoorHRTrim
namespace Go.Proofs.YtkffdhdhjfbhjaaDoor
set_option linter.unusedSimpArgs false
set_option linter.unusedVariables false
open Go Go.RowKit Go.Shelf
set_option maxRecDepth 100000

theorem flatp_set : ∀ (ps : List FP) (k : Nat) (y : List UInt8), k < ps.length → (flatP ps).set (k * 2 + 1) (sv y) = flatP (ps.set k ((ps.getD k pm0).1, y))
  | r :: rs, 0, y, _ => rfl
  | r :: rs, k + 1, y, h => by
    have := flatp_set rs k y (by simpa using h)
    rw [show (k + 1) * 2 + 1 = (k * 2 + 1) + 1 + 1 by omega]
    simp only [flatP, List.set_cons_succ, List.getD_cons_succ]
    rw [this]

theorem PO.cells {e : TypeId} {base : Nat} {W : World} {A : Option Addr} {n c k : Nat} {ps : List FP} (h : PO e base W (.slice A n c) ps) (hk : k < ps.length) : ∃ g, A = some ⟨g, 0, none⟩ ∧ base ≤ g ∧ W.cell? ⟨g, k * 2, none⟩ = some (sv (ps.getD k pm0).1) ∧ W.cell? ⟨g, k * 2 + 1, none⟩ = some (sv (ps.getD k pm0).2) ∧ W.frozen? ⟨g, k * 2 + 1, none⟩ = false := by
  rcases h.2 with ⟨e, h0⟩ | ⟨g, cap, cur, e, hb, hg, h1, h2, h3, h4⟩
  · omega
  · obtain ⟨rfl, _⟩ : A = some ⟨g, 0, none⟩ ∧ n = ps.length ∧ c = cap := by simpa using e
    have hc : ∀ j, j < ps.length * 2 → cur[j]? = (flatP ps)[j]? := fun j hj => by
      have h5 : (cur.toList.take (ps.length * 2))[j]? = (flatP ps)[j]? := congrArg (fun l => l[j]?) h4
      rw [List.getElem?_take, if_pos hj] at h5
      simpa using h5
    obtain ⟨f1, f2⟩ := flatp_at ps k hk
    refine ⟨g, rfl, hb, ?_, ?_, freeAt hg _⟩
    · rw [cellAt hg, hc _ (by omega)]; exact f1
    · rw [cellAt hg, hc _ (by omega)]; exact f2

theorem PO.setv {e : TypeId} {base : Nat} {W : World} {g n c k : Nat} {ps : List FP} (h : PO e base W (.slice (some ⟨g, 0, none⟩) n c) ps) (hk : k < ps.length) (y : List UInt8) : PO e base (W.setCell ⟨g, k * 2 + 1, none⟩ (sv y)) (.slice (some ⟨g, 0, none⟩) n c) (ps.set k ((ps.getD k pm0).1, y)) := by
  unfold PO at h ⊢
  rw [List.length_set]
  refine ⟨by rw [← flatp_set ps k y hk, List.length_set]; exact h.1, ?_⟩
  rcases h.2 with ⟨e, h0⟩ | ⟨g', cap, cur, e, hb, hg, h1, h2, h3, h4⟩
  · omega
  · obtain ⟨rfl, rfl, rfl⟩ : g = g' ∧ n = ps.length ∧ c = cap := by simpa using e
    refine .inr ⟨g, c, cur.setIfInBounds (k * 2 + 1) (sv y), rfl, hb, heap_setCell_same _ _ _ _ _ _ hg, h1, h2, by simpa using h3, ?_⟩
    rw [← flatp_set ps k y hk, ← h4]
    simp [List.take_set]

/-- Between two lines. -/
theorem refRun_dd {out : List FP} {l : List UInt8} (ls : List (List UInt8)) (h1 : out ≠ []) (h2 : goesB l = true) : refRun out (l :: ls) = refRun (addLast out l) ls := by
  have : (!out.isEmpty && goesB l) = true := by simp [h1, h2]
  rw [refRun, if_pos this]
theorem refRun_stop {out : List FP} {l : List UInt8} (ls : List (List UInt8)) (h : out = [] ∨ goesB l = false) (hc : colL l = 0) : refRun out (l :: ls) = out := by
  have : ¬ (!out.isEmpty && goesB l) = true := by rcases h with h | h <;> simp [h]
  rw [refRun, if_neg this, if_pos hc]
theorem refRun_new {out : List FP} {l : List UInt8} (ls : List (List UInt8)) (h : out = [] ∨ goesB l = false) (hc : colL l ≠ 0) : refRun out (l :: ls) = refRun (out ++ [(l.take (colL l), l.drop (colL l + 1))]) ls := by
  have : ¬ (!out.isEmpty && goesB l) = true := by rcases h with h | h <;> simp [h]
  rw [refRun, if_neg this, if_neg hc]
theorem colL_lt (l : List UInt8) (h : colL l ≠ 0) : colL l + 1 ≤ l.length := by
  unfold colL at h ⊢
  dsimp only at h ⊢
  split at h
  · rename_i e
    rw [if_pos e]
    have := (List.getElem?_eq_some_iff.1 e).1
    omega
  · exact absurd rfl h

/-- The first k trimmed, the others as they were. -/
def mixR (out : List FP) (k : Nat) : List FP := (out.take k).map tv ++ out.drop k
theorem mixR_len (out : List FP) (k : Nat) : (mixR out k).length = out.length := by unfold mixR; simp; omega
theorem mixR_at {out : List FP} {k : Nat} (h : k < out.length) : (mixR out k).getD k pm0 = out.getD k pm0 := by
  unfold mixR
  rw [List.getD_eq_getElem?_getD, List.getElem?_append_right (by simp; omega), List.getD_eq_getElem?_getD]
  simp [Nat.min_eq_left (Nat.le_of_lt h)]
theorem mixR_next {out : List FP} {k : Nat} (h : k < out.length) : (mixR out k).set k ((out.getD k pm0).1, trimL (out.getD k pm0).2) = mixR out (k + 1) := by
  have hl : ((out.take k).map tv).length = k := by simp; omega
  have hg : out.getD k pm0 = out[k] := by rw [List.getD_eq_getElem?_getD, List.getElem?_eq_getElem h]; rfl
  unfold mixR
  rw [List.set_append_right _ _ (by omega), hl, Nat.sub_self, List.drop_eq_getElem_cons h, List.set_cons_zero, List.take_succ_eq_append_getElem h, List.map_append, List.append_assoc, hg]
  rfl
theorem mixR_all (out : List FP) : mixR out out.length = out.map tv := by
  unfold mixR
  rw [List.take_of_length_le (Nat.le_refl _), List.drop_of_length_le (Nat.le_refl _), List.append_nil]

/-- What the rows hold is no longer than what has come. -/
def Fits (out : List FP) (n : Nat) : Prop := ∀ f ∈ out, f.1.length ≤ n ∧ f.2.length ≤ n

set_option maxHeartbeats 8000000 in
theorem rfields_any (s : List UInt8) (w : World) (hs : s.length ≤ 50000) :
    Calls Tryd.prog 20 #[sv s] w fun e w' => ∃ v, e = .returned v ∧ Below w.heap.size w w' ∧ PO 45 w.heap.size w' v (fieldsL s) := by
  have HC := Lib.hid (rcut_any s w hs)
  have HFL := Lib.hid (refRun_fields s)
  obtain ⟨hj, hcl, _⟩ := cut_len s
  have hfl := flat_len (cutL s)
  obtain ⟨xs, hxs⟩ : ∃ xs, xs = cutL s := ⟨_, rfl⟩
  rw [← hxs] at HC HFL hj hcl hfl
  have hff : xs.flatten.length ≤ 50000 := by omega
  clear hxs hj hfl
  go_enter Tryd.func20, Tryd.ntmps20
  go_wp2_with (go_at_call 41; refine HC.out.mono ?_; rintro e w1 ⟨v, rfl, hb1, hsl⟩; obtain ⟨A, c, rfl⟩ := hsl.form)
  have HB1 := Lib.hid hb1
  have HSL := Lib.hid hsl
  clear hb1 hsl
  go_loopw [3, 6, 7, 8] (fun v i _ _ wr => ∃ (k : Nat) (out : List FP), k ≤ xs.length ∧ i = .int .i64 k ∧ PO 45 w1.heap.size wr v out ∧ Below w1.heap.size w1 wr ∧ refRun [] xs = refRun out (xs.drop k) ∧ Fits out (xs.take k).flatten.length ∧ out.length ≤ k) (fun _ i _ _ _ => xs.length - (intOf i).toNat)
  case atStart => exact ⟨0, [], Nat.zero_le _, rfl, PO.nil _ _ _, Below.refl _ _, rfl, (fun f hf => by cases hf), Nat.le_refl _⟩
  case round =>
    obtain ⟨k, out, hk, rfl, hpo, hbl, hrun, hfit, hol⟩ := hrel
    have HPO := Lib.hid hpo
    have HBL := Lib.hid hbl
    have HRUN := Lib.hid hrun
    have HFIT := Lib.hid hfit
    obtain ⟨B, d, rfl⟩ := HPO.out.form
    clear hpo hbl hrun hfit
    by_cases hlt : k < xs.length
    · obtain ⟨g, rfl, c0'⟩ := (HSL.out.below HBL.out).cell0 k hlt
      obtain ⟨l, hl⟩ : ∃ l, l = xs[k] := ⟨_, rfl⟩
      rw [← hl] at c0'
      have hdrop : xs.drop k = l :: xs.drop (k + 1) := by rw [hl]; exact List.drop_eq_getElem_cons hlt
      have htk : (xs.take (k + 1)).flatten.length = (xs.take k).flatten.length + l.length := by
        rw [List.take_succ_eq_append_getElem hlt, List.flatten_append, List.length_append, hl]
        simp
      have htl : (xs.take (k + 1)).flatten.length ≤ 50000 := by
        have : xs.flatten.length = (xs.take (k + 1)).flatten.length + (xs.drop (k + 1)).flatten.length := by
          rw [← List.length_append, ← List.flatten_append, List.take_append_drop]
        omega
      rw [hdrop] at HRUN
      have HCO := Lib.hid (fun w => colon_any l w (by omega))
      have hk1 : (0 : Int) ≤ (k : Int) := by omega
      have hk2 : (k : Int) < (xs.length : Int) := by omega
      clear hl hdrop
      cases hou : out.isEmpty with
      | true =>
        obtain rfl : out = [] := by simpa using hou
        have HNG := Lib.hid (show ([] : List FP) = [] ∨ goesB l = false from .inl rfl)
        clear hou
        have HCW := Lib.hid (HCO.out wr)
        obtain ⟨cl, hcl'⟩ : ∃ cl, cl = colL l := ⟨_, rfl⟩
        rw [← hcl'] at HCW
        by_cases hz : cl = 0
        · have HRX := Lib.hid (show refRun [] xs = [] by rw [HRUN.out]; exact refRun_stop _ HNG.out (by rw [← hcl']; exact hz))
          clear hcl'
          subst hz
          go_wp2_with fail
          refine HCW.out.mono ?_
          rintro e w4 ⟨rfl, hb4⟩
          have HPO := Lib.hid (HPO.out.below hb4)
          have HBL := Lib.hid (HBL.out.trans (hb4.mono HBL.out.size))
          clear hb4
          go_wp2_with fail
          have HMX := Lib.hid (show PO 45 w1.heap.size w4 (.slice B ([] : List FP).length d) (mixR ([] : List FP) 0) from HPO.out)
          have HFE := Lib.hid (show ([] : List FP).map tv = fieldsL s by rw [← HFL.out, HRX.out])
          have HFI := Lib.hid HFIT.out
          go_loopw [9] (fun i wz => ∃ k : Nat, k ≤ ([] : List FP).length ∧ i = .int .i64 k ∧ PO 45 w1.heap.size wz (.slice B ([] : List FP).length d) (mixR ([] : List FP) k) ∧ Below w1.heap.size w1 wz) (fun i _ => ([] : List FP).length - (intOf i).toNat)
          case atStart => exact ⟨0, Nat.zero_le _, rfl, HMX.out, HBL.out⟩
          case round =>
            obtain ⟨k, hk, rfl, hpo, hbl⟩ := hrel
            have HQ := Lib.hid hpo
            have HR := Lib.hid hbl
            clear hpo hbl
            by_cases hlt : k < ([] : List FP).length
            · exact absurd hlt (by simp)
            · obtain rfl : k = ([] : List FP).length := by omega
              have HZ := Lib.hid (show PO 45 w1.heap.size wr (.slice B ([] : List FP).length d) (fieldsL s) by rw [← HFE.out, ← mixR_all]; exact HQ.out)
              clear hlt
              go_wp2_with fail
              go_ret
              exact ⟨_, rfl, HB1.out.trans (HR.out.mono HB1.out.size), HZ.out.lower HB1.out.size⟩
        · have hcz : colL l ≠ 0 := by rw [← hcl']; exact hz
          have hll := colL_lt l hcz
          rw [← hcl'] at hll
          have hcl3 : cl ≤ l.length := by omega
          have hcw : IntKind.i64.wrap ((cl : Int) + 1) = (cl : Int) + 1 := IntWalk.i64_in _ (by omega)
          have hcw0 : (0 : Int) ≤ (cl : Int) + 1 := by omega
          have hcw1 : (cl : Int) + 1 ≤ (l.length : Int) := by omega
          have hcw2 : ((cl : Int) + 1).toNat = cl + 1 := by omega
          have HNX := Lib.hid (show refRun [] xs = refRun ([] ++ [(l.take cl, l.drop (cl + 1))]) (xs.drop (k + 1)) by rw [HRUN.out, refRun_new _ HNG.out hcz, ← hcl'])
          have HFX := Lib.hid (show Fits ([] ++ [(l.take cl, l.drop (cl + 1))]) (xs.take (k + 1)).flatten.length from fun f hf => by
            rcases List.mem_append.1 hf with h | h
            · have := HFIT.out f h; omega
            · obtain rfl : f = (l.take cl, l.drop (cl + 1)) := by simpa using h
              simp only [List.length_take, List.length_drop]; omega)
          have hzb : ((cl : Int) == 0) = false := by rw [beq_eq_false_iff_ne]; omega
          have e1 : (str l).extract 0 cl = str (l.take cl) := by rw [str_extract, List.drop_zero]
          have e2 : (str l).extract (cl + 1) l.length = str (l.drop (cl + 1)) := by rw [str_extract, List.take_of_length_le (Nat.le_refl _)]
          have HAP := Lib.hid (show ∀ W, Below wr.heap.size wr W → ∃ g cap w2, (Builtin.append_ #[39, 39] 39 #[.slice B ([] : List FP).length d, .slice (some ⟨W.heap.size, 0, none⟩) 1 1]).run Tryd.prog (W.alloc (.cells #[sv (l.take cl), sv (l.drop (cl + 1))] 45)) = .ok (.slice (some ⟨g, 0, none⟩) (([] : List FP).length + 1) cap) w2 ∧
              PO 45 w1.heap.size w2 (.slice (some ⟨g, 0, none⟩) (([] : List FP).length + 1) cap) ([] ++ [(l.take cl, l.drop (cl + 1))]) ∧ Below w1.heap.size w1 w2 from fun W hW => by
            have hp := HPO.out.below hW
            have hb := HBL.out.trans (hW.mono HBL.out.size)
            obtain ⟨g, cap, w2, a1, a2, a3, _⟩ := po_append (t := 39) Tryd.underlying39 info_rfield (by decide) hp hb.size (by omega) (l.take cl) (l.drop (cl + 1))
            exact ⟨g, cap, w2, a1, a2, (hb.alloc hb.size _).grown a3 (by rw [World.size_alloc]; have := hb.size; omega) (fun j e => (hp.lt e).1)⟩)
          have E1 := Lib.hid e1
          have E2 := Lib.hid e2
          clear hcl' hcz e1 e2
          go_wp2_with fail
          refine HCW.out.mono ?_
          rintro e w4 ⟨rfl, hb4⟩
          obtain ⟨g4, cap4, w5, hr4, hp4, hb5⟩ := HAP.out w4.drew hb4.drew
          have HRN := Lib.hid hr4
          have HP4 := Lib.hid hp4
          have HB5 := Lib.hid hb5
          clear hb4 hr4 hp4 hb5
          go_wp2_with fail
          go_region_law (first
            | (rw [E1.out, E2.out]; refine step_app rfl (.tmp 57) (.tmp 66) 39 rfl rfl rfl HRN.out ?_)
            | (refine step_app rfl (.tmp 57) (.tmp 66) 39 rfl rfl rfl HRN.out ?_))
          all_goals
            go_wp2_with fail
            go_roundw
            case rel => exact ⟨k + 1, [] ++ [(l.take cl, l.drop (cl + 1))], by omega, by go_num, by simpa using HP4.out, HB5.out, HNX.out, HFX.out, by first | (simp; done) | (simp; omega)⟩
            case measure => simp [intOf]; omega
      | false =>
        have hon : out ≠ [] := by simpa using hou
        have holp : 0 < out.length := List.length_pos_iff.2 hon
        clear hou
        by_cases hl0 : l = []
        · subst hl0
          have HNG := Lib.hid (show out = [] ∨ goesB [] = false from .inr rfl)
          have HCW := Lib.hid (HCO.out wr)
          rw [colL_nil] at HCW
          have HRX := Lib.hid (show refRun [] xs = out by rw [HRUN.out]; exact refRun_stop _ HNG.out colL_nil)
          go_wp2_with fail
          refine HCW.out.mono ?_
          rintro e w4 ⟨rfl, hb4⟩
          have HPO := Lib.hid (HPO.out.below hb4)
          have HBL := Lib.hid (HBL.out.trans (hb4.mono HBL.out.size))
          clear hb4
          go_wp2_with fail
          have HMX := Lib.hid (show PO 45 w1.heap.size w4 (.slice B out.length d) (mixR out 0) from HPO.out)
          have HFE := Lib.hid (show out.map tv = fieldsL s by rw [← HFL.out, HRX.out])
          have HFI := Lib.hid HFIT.out
          go_loopw [9] (fun i wz => ∃ k : Nat, k ≤ out.length ∧ i = .int .i64 k ∧ PO 45 w1.heap.size wz (.slice B out.length d) (mixR out k) ∧ Below w1.heap.size w1 wz) (fun i _ => out.length - (intOf i).toNat)
          case atStart => exact ⟨0, Nat.zero_le _, rfl, HMX.out, HBL.out⟩
          case round =>
            obtain ⟨k, hk, rfl, hpo, hbl⟩ := hrel
            have HQ := Lib.hid hpo
            have HR := Lib.hid hbl
            clear hpo hbl
            by_cases hlt : k < out.length
            · obtain ⟨g, rfl, hbg, c0, c1, f1⟩ := PO.cells HQ.out (by rw [mixR_len]; exact hlt)
              rw [mixR_at hlt] at c0 c1
              obtain ⟨p, hp⟩ : ∃ p, p = out.getD k pm0 := ⟨_, rfl⟩
              have hpl : p.2.length ≤ 1000000 := by
                have : p ∈ out := by rw [hp, List.getD_eq_getElem?_getD, List.getElem?_eq_getElem hlt]; exact List.getElem_mem hlt
                have := (HFI.out p this).2
                omega
              rw [← hp] at c0 c1
              have HP := Lib.hid hp
              have HTR := Lib.hid (rtrim_any p.2 wr hpl)
              have HST := Lib.hid (show ∀ W, Below wr.heap.size wr W → PO 45 w1.heap.size (W.setCell ⟨g, k * 2 + 1, none⟩ (sv (trimL p.2))) (.slice (some ⟨g, 0, none⟩) out.length d) (mixR out (k + 1)) ∧ Below w1.heap.size w1 (W.setCell ⟨g, k * 2 + 1, none⟩ (sv (trimL p.2))) from fun W hW => by
                have h1 := (HQ.out.below hW).setv (k := k) (by rw [mixR_len]; exact hlt) (trimL p.2)
                rw [mixR_at hlt, ← HP.out] at h1
                rw [HP.out, mixR_next hlt, ← HP.out] at h1
                exact ⟨h1, (HR.out.trans (hW.mono HR.out.size)).setCell (p := ⟨g, k * 2 + 1, none⟩) hbg _⟩)
              have hgl : g < wr.heap.size := block_lt_of_cell c0
              have KK := Lib.hid (show ∀ W, Below wr.heap.size wr W → W.cell? ⟨g, k * 2 + 1, none⟩ = some (sv p.2) ∧ W.frozen? ⟨g, k * 2 + 1, none⟩ = false from fun W hW => ⟨(hW.cell (p := ⟨g, k * 2 + 1, none⟩) hgl).trans c1, (hW.frozen (p := ⟨g, k * 2 + 1, none⟩) hgl).trans f1⟩)
              have hk1 : (0 : Int) ≤ (k : Int) := by omega
              have hk2 : (k : Int) < (out.length : Int) := by omega
              clear hp
              go_wp2_with (go_at_call 44; refine HTR.out.mono ?_; rintro e w5 ⟨rfl, hb5⟩; obtain ⟨z1, z2⟩ := KK.out _ hb5; obtain ⟨z3, z4⟩ := HST.out _ hb5; have Z3 := Lib.hid z3; have Z4 := Lib.hid z4; clear hb5 z3 z4)
              go_roundw
              case rel => exact ⟨k + 1, by omega, by go_num, Z3.out, Z4.out⟩
              case measure => simp [intOf]; omega
            · obtain rfl : k = out.length := by omega
              have HZ := Lib.hid (show PO 45 w1.heap.size wr (.slice B out.length d) (fieldsL s) by rw [← HFE.out, ← mixR_all]; exact HQ.out)
              clear hlt
              go_wp2_with fail
              go_ret
              exact ⟨_, rfl, HB1.out.trans (HR.out.mono HB1.out.size), HZ.out.lower HB1.out.size⟩
        · have hlp : 0 < l.length := List.length_pos_iff.2 hl0
          obtain ⟨x, hx⟩ : ∃ x, x = l.getD 0 0 := ⟨_, rfl⟩
          have h0 : (((str l)[0]'(by simpa [ByteArray.size] using hlp)).toNat) = x.toNat := by rw [str_getD l 0 hlp, hx]
          have hgo : goesB l = onB x := by
            cases l with
            | nil => exact absurd rfl hl0
            | cons b r => rw [hx]; rfl
          have HBK := Lib.hid (blank_any x x.toNat rfl wr)
          have HGO := Lib.hid hgo
          clear hx hl0 hgo
          cases hb : onB x with
          | false =>
            rw [hb] at HBK HGO
            have HNG := Lib.hid (show out = [] ∨ goesB l = false from .inr HGO.out)
            clear hb
            go_wp2_with fail
            refine HBK.out.mono ?_
            rintro e w4 ⟨rfl, rfl⟩
            have HCW := Lib.hid (HCO.out wr)
            obtain ⟨cl, hcl'⟩ : ∃ cl, cl = colL l := ⟨_, rfl⟩
            rw [← hcl'] at HCW
            by_cases hz : cl = 0
            · have HRX := Lib.hid (show refRun [] xs = out by rw [HRUN.out]; exact refRun_stop _ HNG.out (by rw [← hcl']; exact hz))
              clear hcl'
              subst hz
              go_wp2_with fail
              refine HCW.out.mono ?_
              rintro e w4 ⟨rfl, hb4⟩
              have HPO := Lib.hid (HPO.out.below hb4)
              have HBL := Lib.hid (HBL.out.trans (hb4.mono HBL.out.size))
              clear hb4
              go_wp2_with fail
              have HMX := Lib.hid (show PO 45 w1.heap.size w4 (.slice B out.length d) (mixR out 0) from HPO.out)
              have HFE := Lib.hid (show out.map tv = fieldsL s by rw [← HFL.out, HRX.out])
              have HFI := Lib.hid HFIT.out
              go_loopw [9] (fun i wz => ∃ k : Nat, k ≤ out.length ∧ i = .int .i64 k ∧ PO 45 w1.heap.size wz (.slice B out.length d) (mixR out k) ∧ Below w1.heap.size w1 wz) (fun i _ => out.length - (intOf i).toNat)
              case atStart => exact ⟨0, Nat.zero_le _, rfl, HMX.out, HBL.out⟩
              case round =>
                obtain ⟨k, hk, rfl, hpo, hbl⟩ := hrel
                have HQ := Lib.hid hpo
                have HR := Lib.hid hbl
                clear hpo hbl
                by_cases hlt : k < out.length
                · obtain ⟨g, rfl, hbg, c0, c1, f1⟩ := PO.cells HQ.out (by rw [mixR_len]; exact hlt)
                  rw [mixR_at hlt] at c0 c1
                  obtain ⟨p, hp⟩ : ∃ p, p = out.getD k pm0 := ⟨_, rfl⟩
                  have hpl : p.2.length ≤ 1000000 := by
                    have : p ∈ out := by rw [hp, List.getD_eq_getElem?_getD, List.getElem?_eq_getElem hlt]; exact List.getElem_mem hlt
                    have := (HFI.out p this).2
                    omega
                  rw [← hp] at c0 c1
                  have HP := Lib.hid hp
                  have HTR := Lib.hid (rtrim_any p.2 wr hpl)
                  have HST := Lib.hid (show ∀ W, Below wr.heap.size wr W → PO 45 w1.heap.size (W.setCell ⟨g, k * 2 + 1, none⟩ (sv (trimL p.2))) (.slice (some ⟨g, 0, none⟩) out.length d) (mixR out (k + 1)) ∧ Below w1.heap.size w1 (W.setCell ⟨g, k * 2 + 1, none⟩ (sv (trimL p.2))) from fun W hW => by
                    have h1 := (HQ.out.below hW).setv (k := k) (by rw [mixR_len]; exact hlt) (trimL p.2)
                    rw [mixR_at hlt, ← HP.out] at h1
                    rw [HP.out, mixR_next hlt, ← HP.out] at h1
                    exact ⟨h1, (HR.out.trans (hW.mono HR.out.size)).setCell (p := ⟨g, k * 2 + 1, none⟩) hbg _⟩)
                  have hgl : g < wr.heap.size := block_lt_of_cell c0
                  have KK := Lib.hid (show ∀ W, Below wr.heap.size wr W → W.cell? ⟨g, k * 2 + 1, none⟩ = some (sv p.2) ∧ W.frozen? ⟨g, k * 2 + 1, none⟩ = false from fun W hW => ⟨(hW.cell (p := ⟨g, k * 2 + 1, none⟩) hgl).trans c1, (hW.frozen (p := ⟨g, k * 2 + 1, none⟩) hgl).trans f1⟩)
                  have hk1 : (0 : Int) ≤ (k : Int) := by omega
                  have hk2 : (k : Int) < (out.length : Int) := by omega
                  clear hp
                  go_wp2_with (go_at_call 44; refine HTR.out.mono ?_; rintro e w5 ⟨rfl, hb5⟩; obtain ⟨z1, z2⟩ := KK.out _ hb5; obtain ⟨z3, z4⟩ := HST.out _ hb5; have Z3 := Lib.hid z3; have Z4 := Lib.hid z4; clear hb5 z3 z4)
                  go_roundw
                  case rel => exact ⟨k + 1, by omega, by go_num, Z3.out, Z4.out⟩
                  case measure => simp [intOf]; omega
                · obtain rfl : k = out.length := by omega
                  have HZ := Lib.hid (show PO 45 w1.heap.size wr (.slice B out.length d) (fieldsL s) by rw [← HFE.out, ← mixR_all]; exact HQ.out)
                  clear hlt
                  go_wp2_with fail
                  go_ret
                  exact ⟨_, rfl, HB1.out.trans (HR.out.mono HB1.out.size), HZ.out.lower HB1.out.size⟩
            · have hcz : colL l ≠ 0 := by rw [← hcl']; exact hz
              have hll := colL_lt l hcz
              rw [← hcl'] at hll
              have hcl3 : cl ≤ l.length := by omega
              have hcw : IntKind.i64.wrap ((cl : Int) + 1) = (cl : Int) + 1 := IntWalk.i64_in _ (by omega)
              have hcw0 : (0 : Int) ≤ (cl : Int) + 1 := by omega
              have hcw1 : (cl : Int) + 1 ≤ (l.length : Int) := by omega
              have hcw2 : ((cl : Int) + 1).toNat = cl + 1 := by omega
              have HNX := Lib.hid (show refRun [] xs = refRun (out ++ [(l.take cl, l.drop (cl + 1))]) (xs.drop (k + 1)) by rw [HRUN.out, refRun_new _ HNG.out hcz, ← hcl'])
              have HFX := Lib.hid (show Fits (out ++ [(l.take cl, l.drop (cl + 1))]) (xs.take (k + 1)).flatten.length from fun f hf => by
                rcases List.mem_append.1 hf with h | h
                · have := HFIT.out f h; omega
                · obtain rfl : f = (l.take cl, l.drop (cl + 1)) := by simpa using h
                  simp only [List.length_take, List.length_drop]; omega)
              have hzb : ((cl : Int) == 0) = false := by rw [beq_eq_false_iff_ne]; omega
              have e1 : (str l).extract 0 cl = str (l.take cl) := by rw [str_extract, List.drop_zero]
              have e2 : (str l).extract (cl + 1) l.length = str (l.drop (cl + 1)) := by rw [str_extract, List.take_of_length_le (Nat.le_refl _)]
              have HAP := Lib.hid (show ∀ W, Below wr.heap.size wr W → ∃ g cap w2, (Builtin.append_ #[39, 39] 39 #[.slice B out.length d, .slice (some ⟨W.heap.size, 0, none⟩) 1 1]).run Tryd.prog (W.alloc (.cells #[sv (l.take cl), sv (l.drop (cl + 1))] 45)) = .ok (.slice (some ⟨g, 0, none⟩) (out.length + 1) cap) w2 ∧
                  PO 45 w1.heap.size w2 (.slice (some ⟨g, 0, none⟩) (out.length + 1) cap) (out ++ [(l.take cl, l.drop (cl + 1))]) ∧ Below w1.heap.size w1 w2 from fun W hW => by
                have hp := HPO.out.below hW
                have hb := HBL.out.trans (hW.mono HBL.out.size)
                obtain ⟨g, cap, w2, a1, a2, a3, _⟩ := po_append (t := 39) Tryd.underlying39 info_rfield (by decide) hp hb.size (by omega) (l.take cl) (l.drop (cl + 1))
                exact ⟨g, cap, w2, a1, a2, (hb.alloc hb.size _).grown a3 (by rw [World.size_alloc]; have := hb.size; omega) (fun j e => (hp.lt e).1)⟩)
              have E1 := Lib.hid e1
              have E2 := Lib.hid e2
              clear hcl' hcz e1 e2
              go_wp2_with fail
              refine HCW.out.mono ?_
              rintro e w4 ⟨rfl, hb4⟩
              obtain ⟨g4, cap4, w5, hr4, hp4, hb5⟩ := HAP.out w4.drew hb4.drew
              have HRN := Lib.hid hr4
              have HP4 := Lib.hid hp4
              have HB5 := Lib.hid hb5
              clear hb4 hr4 hp4 hb5
              go_wp2_with fail
              go_region_law (first
                | (rw [E1.out, E2.out]; refine step_app rfl (.tmp 57) (.tmp 66) 39 rfl rfl rfl HRN.out ?_)
                | (refine step_app rfl (.tmp 57) (.tmp 66) 39 rfl rfl rfl HRN.out ?_))
              all_goals
                go_wp2_with fail
                go_roundw
                case rel => exact ⟨k + 1, out ++ [(l.take cl, l.drop (cl + 1))], by omega, by go_num, by simpa using HP4.out, HB5.out, HNX.out, HFX.out, by first | (simp; done) | (simp; omega)⟩
                case measure => simp [intOf]; omega
          | true =>
            rw [hb] at HBK HGO
            have HDD := Lib.hid (show refRun [] xs = refRun (addLast out l) (xs.drop (k + 1)) by rw [HRUN.out]; exact refRun_dd _ hon HGO.out)
            clear hb
            obtain ⟨q, p, hqp⟩ : ∃ q p, out = q ++ [p] := by
              rcases List.eq_nil_or_concat out with h | ⟨q, p, h⟩
              · exact absurd h hon
              · exact ⟨q, p, by rw [h, List.concat_eq_append]⟩
            subst hqp
            obtain ⟨n, v⟩ := p
            rw [addLast_snoc] at HDD
            have hql : (q ++ [(n, v)]).length = q.length + 1 := by simp
            have hxl : v.length ≤ 50000 := by have := (HFIT.out (n, v) (by simp)).2; dsimp only at this; omega
            obtain ⟨g, rfl, hbg, c0, c1, f1⟩ := PO.cells (k := q.length) HPO.out (by omega)
            have hgd : (q ++ [(n, v)]).getD q.length pm0 = (n, v) := by simp
            rw [hgd] at c0 c1
            have HST := Lib.hid ((HPO.out).setv (k := q.length) (by omega) (v ++ l))
            rw [hgd] at HST
            have hset : (q ++ [(n, v)]).set q.length (n, v ++ l) = q ++ [(n, v ++ l)] := by simp
            rw [hset] at HST
            have HB9 := Lib.hid (HBL.out.setCell (p := ⟨g, q.length * 2 + 1, none⟩) hbg (sv (v ++ l)))
            have HFX := Lib.hid (show Fits (q ++ [(n, v ++ l)]) (xs.take (k + 1)).flatten.length from fun f hf => by
              rcases List.mem_append.1 hf with h | h
              · have := HFIT.out f (by simp [h]); omega
              · obtain rfl : f = (n, v ++ l) := by simpa using h
                have := HFIT.out (n, v) (by simp)
                dsimp only at this ⊢
                rw [List.length_append]; omega)
            have eadd : str v ++ str l = str (v ++ l) := by apply ByteArray.ext; simp
            have hadd : ¬ 9223372036854775807 < v.length + l.length := by omega
            have EADD := Lib.hid eadd
            clear eadd
            go_wp2_with fail
            refine HBK.out.mono ?_
            rintro e w4 ⟨rfl, rfl⟩
            go_wp2_with fail
            rw [EADD.out]
            go_roundw
            case rel => exact ⟨k + 1, q ++ [(n, v ++ l)], by omega, by go_num, by simpa using HST.out, HB9.out, HDD.out, HFX.out, by simp at hol ⊢; omega⟩
            case measure => simp [intOf]; omega
    · obtain rfl : k = xs.length := by omega
      have HRX := Lib.hid (show refRun [] xs = out by rw [HRUN.out, List.drop_of_length_le (Nat.le_refl _)]; cases out <;> rfl)
      have htl : (xs.take xs.length).flatten.length ≤ 50000 := by rw [List.take_of_length_le (Nat.le_refl _)]; exact hff
      have htk : 0 = 0 := rfl
      go_wp2_with fail
      have HMX := Lib.hid (show PO 45 w1.heap.size wr (.slice B out.length d) (mixR out 0) from HPO.out)
      have HFE := Lib.hid (show out.map tv = fieldsL s by rw [← HFL.out, HRX.out])
      have HFI := Lib.hid HFIT.out
      go_loopw [9] (fun i wz => ∃ k : Nat, k ≤ out.length ∧ i = .int .i64 k ∧ PO 45 w1.heap.size wz (.slice B out.length d) (mixR out k) ∧ Below w1.heap.size w1 wz) (fun i _ => out.length - (intOf i).toNat)
      case atStart => exact ⟨0, Nat.zero_le _, rfl, HMX.out, HBL.out⟩
      case round =>
        obtain ⟨k, hk, rfl, hpo, hbl⟩ := hrel
        have HQ := Lib.hid hpo
        have HR := Lib.hid hbl
        clear hpo hbl
        by_cases hlt : k < out.length
        · obtain ⟨g, rfl, hbg, c0, c1, f1⟩ := PO.cells HQ.out (by rw [mixR_len]; exact hlt)
          rw [mixR_at hlt] at c0 c1
          obtain ⟨p, hp⟩ : ∃ p, p = out.getD k pm0 := ⟨_, rfl⟩
          have hpl : p.2.length ≤ 1000000 := by
            have : p ∈ out := by rw [hp, List.getD_eq_getElem?_getD, List.getElem?_eq_getElem hlt]; exact List.getElem_mem hlt
            have := (HFI.out p this).2
            omega
          rw [← hp] at c0 c1
          have HP := Lib.hid hp
          have HTR := Lib.hid (rtrim_any p.2 wr hpl)
          have HST := Lib.hid (show ∀ W, Below wr.heap.size wr W → PO 45 w1.heap.size (W.setCell ⟨g, k * 2 + 1, none⟩ (sv (trimL p.2))) (.slice (some ⟨g, 0, none⟩) out.length d) (mixR out (k + 1)) ∧ Below w1.heap.size w1 (W.setCell ⟨g, k * 2 + 1, none⟩ (sv (trimL p.2))) from fun W hW => by
            have h1 := (HQ.out.below hW).setv (k := k) (by rw [mixR_len]; exact hlt) (trimL p.2)
            rw [mixR_at hlt, ← HP.out] at h1
            rw [HP.out, mixR_next hlt, ← HP.out] at h1
            exact ⟨h1, (HR.out.trans (hW.mono HR.out.size)).setCell (p := ⟨g, k * 2 + 1, none⟩) hbg _⟩)
          have hgl : g < wr.heap.size := block_lt_of_cell c0
          have KK := Lib.hid (show ∀ W, Below wr.heap.size wr W → W.cell? ⟨g, k * 2 + 1, none⟩ = some (sv p.2) ∧ W.frozen? ⟨g, k * 2 + 1, none⟩ = false from fun W hW => ⟨(hW.cell (p := ⟨g, k * 2 + 1, none⟩) hgl).trans c1, (hW.frozen (p := ⟨g, k * 2 + 1, none⟩) hgl).trans f1⟩)
          have hk1 : (0 : Int) ≤ (k : Int) := by omega
          have hk2 : (k : Int) < (out.length : Int) := by omega
          clear hp
          go_wp2_with (go_at_call 44; refine HTR.out.mono ?_; rintro e w5 ⟨rfl, hb5⟩; obtain ⟨z1, z2⟩ := KK.out _ hb5; obtain ⟨z3, z4⟩ := HST.out _ hb5; have Z3 := Lib.hid z3; have Z4 := Lib.hid z4; clear hb5 z3 z4)
          go_roundw
          case rel => exact ⟨k + 1, by omega, by go_num, Z3.out, Z4.out⟩
          case measure => simp [intOf]; omega
        · obtain rfl : k = out.length := by omega
          have HZ := Lib.hid (show PO 45 w1.heap.size wr (.slice B out.length d) (fieldsL s) by rw [← HFE.out, ← mixR_all]; exact HQ.out)
          clear hlt
          go_wp2_with fail
          go_ret
          exact ⟨_, rfl, HB1.out.trans (HR.out.mono HB1.out.size), HZ.out.lower HB1.out.size⟩
end Go.Proofs.YtkffdhdhjfbhjaaDoor
