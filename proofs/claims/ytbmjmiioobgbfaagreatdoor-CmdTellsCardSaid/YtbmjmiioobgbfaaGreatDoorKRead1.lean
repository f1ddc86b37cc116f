/-
  Contracts of package cmd's cutHead, cutPath, paramOf; results that lie in cells.
-/
import Derived.Deep.RegionWith
import Derived.Deep.RegionHeld3
import Derived.Deep.QuietTactic
import Derived.BigQuiet
import Derived.Laws.Rows
import Derived.Test.YtbmjmiioobgbfaaGreatDoorKMay
namespace Go.Proofs.YtbmjmiioobgbfaaGreatDoor
open Go Go.RowKit Go.Shelf
set_option maxRecDepth 100000
set_option linter.unusedSimpArgs false
set_option linter.unusedVariables false

theorem results_row_tmp {P : Program} {fn : Func} {p u : Tmp} {ty : TypeId} (h : fn.results = #[.cell p ty, .tmp u]) (tmps : Array Value) (w : World) (g : Nat) (t : TypeId) (cs : Array Value) (fr : Nat × Nat) (d : TypeDesc)
    (hp : tmps.getD p undef = .pointer (some ⟨g, 0, none⟩)) (hg : w.heap[g]? = some (.cells cs t fr))
    (hu : P.underlying ty = some d) (hd : (match d with | .struct _ | .array _ _ => true | _ => false) = true) (hi : (P.info? ty).map (·.size) = some cs.size) :
    (results fn tmps).run P w = .ok (.tuple #[.agg cs, tmps.getD u undef]) w := by
  have hp' : tmps[p]?.getD undef = .pointer (some ⟨g, 0, none⟩) := by simpa using hp
  simp [results, h, hp', asAddr, run_loadVar_row w g t ty cs fr d hg hu hd hi]
theorem results_row_cell {P : Program} {fn : Func} {p q : Tmp} {ty ty2 : TypeId} (h : fn.results = #[.cell p ty, .cell q ty2]) (tmps : Array Value) (w : World) (g g2 : Nat) (t : TypeId) (cs : Array Value) (fr : Nat × Nat) (d : TypeDesc) (v : Value)
    (hp : tmps.getD p undef = .pointer (some ⟨g, 0, none⟩)) (hg : w.heap[g]? = some (.cells cs t fr))
    (hu : P.underlying ty = some d) (hd : (match d with | .struct _ | .array _ _ => true | _ => false) = true) (hi : (P.info? ty).map (·.size) = some cs.size)
    (hq : tmps.getD q undef = .pointer (some ⟨g2, 0, none⟩)) (hv : (loadVar ty2 ⟨g2, 0, none⟩).run P w = .ok v w) :
    (results fn tmps).run P w = .ok (.tuple #[.agg cs, v]) w := by
  have hp' : tmps[p]?.getD undef = .pointer (some ⟨g, 0, none⟩) := by simpa using hp
  have hq' : tmps[q]?.getD undef = .pointer (some ⟨g2, 0, none⟩) := by simpa using hq
  simp [results, h, hp', hq', asAddr, run_loadVar_row w g t ty cs fr d hg hu hd hi, hv]

/-! ### cutHead -/
theorem hd_upto (v : Nat) (hv : v < 7) : (hdL v).length ≤ 10 := by
  match v, hv with
  | 0, _ => decide
  | 1, _ => decide
  | 2, _ => decide
  | 3, _ => decide
  | 4, _ => decide
  | 5, _ => decide
  | 6, _ => decide
theorem hdAt_short {s : List UInt8} {v : Nat} (h : s.length < (hdL v).length) : hdAt s v = false := by
  unfold hdAt
  rw [beq_eq_false_iff_ne]
  intro e
  have := congrArg List.length e
  rw [List.length_map, List.length_take] at this
  omega
theorem str_to (s : List UInt8) (n : Nat) : (str s).extract 0 n = str (s.take n) := by rw [str_extract]; rfl
theorem str_from (s : List UInt8) (n : Nat) : (str s).extract n s.length = str (s.drop n) := by rw [str_extract, List.take_length]

theorem BK.heads {w W : World} (h : BK w W) {k : Nat} (hk : k < 7) : W.cell? ⟨0, k, none⟩ = some (sv (hdL k)) := h.lw.cell k hk

set_option maxHeartbeats 4000000 in
theorem cutHead_any (s : List UInt8) (w : World) (hs : s.length ≤ 1000000) (hL : LW w) : Calls Tryz.prog 86 #[sv s] w fun e w' => e = .returned (.tuple #[.int .u8 ((cutH s).1 : Int), sv (cutH s).2]) ∧ Below w.heap.size w w' := by
  have HL := Lib.hid (BK.start hL)
  clear hL
  go_enter Tryz.func86, Tryz.ntmps86
  go_wp2_with fail
  go_loopw [4, 5] (fun v _ wr => ∃ k : Nat, 1 ≤ k ∧ k ≤ 7 ∧ v = .int .u8 k ∧ (∀ u, 1 ≤ u → u < k → hdAt s u = false) ∧ BK w wr) (fun v _ _ => 7 - (intOf v).toNat)
  case atStart => exact ⟨1, by omega, by omega, rfl, fun u a b => absurd b (by omega), HL.out⟩
  case round =>
    obtain ⟨k, k1, k7, rfl, hn, hb⟩ := hrel
    have HN := Lib.hid hn
    clear hn
    by_cases hlt : k ≤ 6
    · have hc := hb.heads (show k < 7 by omega)
      have hlen := hd_upto k (by omega)
      obtain ⟨h, hh⟩ : ∃ h, h = hdL k := ⟨_, rfl⟩
      have HC := Lib.hid (fun W (h : BK w W) => h.heads (show k < 7 by omega))
      rw [← hh] at hc hlen HC
      have HH := Lib.hid hh
      clear hh
      by_cases hl : s.length < h.length
      · have HX := Lib.hid (show ∀ u, 1 ≤ u → u < k + 1 → hdAt s u = false from fun u a b => by
          by_cases e : u = k
          · rw [e]; exact hdAt_short (by rw [← HH.out]; exact hl)
          · exact HN.out u a (by omega))
        have HB := Lib.hid hb.below
        have HB2 := Lib.hid hb
        have hge : ((h.length : Int) ≤ (s.length : Int)) = False := eq_false (by omega)
        have hgd : decide ((h.length : Int) ≤ (s.length : Int)) = false := decide_eq_false (by omega)
        clear hb
        go_wp2_with fail
        go_quiet (fail)
        go_wp2_with fail
        all_goals go_roundw
        all_goals first
          | exact ⟨k + 1, by omega, by omega, by go_num, HX.out, by first | exact HB2.out | exact HB2.out.drew | exact HB2.out.drewN _⟩
          | (simp [intOf]; omega)
      · have hl' : h.length ≤ s.length := by omega
        have hX := str_to s h.length
        have hY := str_from s h.length
        obtain ⟨a, ha⟩ : ∃ a, a = s.take h.length := ⟨_, rfl⟩
        rw [← ha] at hX
        have hal : a.length ≤ 1000000 := by rw [ha, List.length_take]; omega
        obtain ⟨b, hbb⟩ : ∃ b, b = (gr a == h) := ⟨_, rfl⟩
        have HE := Lib.hid (show hdAt s k = b by unfold hdAt; rw [← HH.out, ← ha, hbb])
        have he : (gr a == h) = b := hbb.symm
        have hk0 : (0 : Int) ≤ (k : Int) := by omega
        have hk7 : (k : Int) < 7 := by omega
        obtain ⟨ga, hga⟩ : ∃ ga, ga = gr a := ⟨_, rfl⟩
        have HG := Lib.hid (show ∀ W, BK w W → Calls Tryz.prog 128 #[sv a] W fun e w' => e = .returned (sv ga) ∧ BK w w' from fun W h => by
          rw [hga]
          exact (great_any a W hal).mono fun e w' ⟨h1, h2⟩ => ⟨h1, h.step h2⟩)
        rw [← hga] at he
        have h0X := hb
        have hge : ((h.length : Int) ≤ (s.length : Int)) = True := eq_true (by omega)
        have hgd : decide ((h.length : Int) ≤ (s.length : Int)) = true := decide_eq_true (by omega)
        clear ha hbb hga hl
        cases b with
        | false =>
          have HX := Lib.hid (show ∀ u, 1 ≤ u → u < k + 1 → hdAt s u = false from fun u a b => by
            by_cases e : u = k
            · rw [e]; exact HE.out
            · exact HN.out u a (by omega))
          go_wp2_with fail
          go_region_held3 (fun W => BK w W ∧ W.cell? ⟨0, k, none⟩ = some (sv h)) (first | exact ⟨by assumption, HC.out _ (by assumption)⟩ | exact ⟨BK.drew (by assumption), HC.out _ (BK.drew (by assumption))⟩)
            (first
              | (go_at_call 128; with_reducible refine (HG.out _ (by first | assumption | exact BK.drew (by assumption))).mono ?_; rintro e1 w8 ⟨rfl, hR⟩))
          all_goals (try go_wp2_with fail)
          all_goals go_roundw
          all_goals first
            | exact ⟨k + 1, by omega, by omega, by go_num, HX.out, by first | exact hR | exact hR.drew⟩
            | (simp [intOf]; omega)
        | true =>
          have HX := Lib.hid (show cutH s = (k, s.drop h.length) by rw [HH.out]; exact cutH_of ⟨k1, hlt⟩ HE.out)
          go_wp2_with fail
          go_region_held3 (fun W => BK w W ∧ W.cell? ⟨0, k, none⟩ = some (sv h)) (first | exact ⟨by assumption, HC.out _ (by assumption)⟩ | exact ⟨BK.drew (by assumption), HC.out _ (BK.drew (by assumption))⟩)
            (first
              | (go_at_call 128; with_reducible refine (HG.out _ (by first | assumption | exact BK.drew (by assumption))).mono ?_; rintro e1 w8 ⟨rfl, hR⟩))
          all_goals (try go_wp2_with fail)
          all_goals go_quiet (fail)
          all_goals (try go_wp2_with fail)
          all_goals go_ret2
          all_goals
            rw [HX.out]
            exact ⟨rfl, by first | exact hR.below | exact hR.below.drew | exact below_drewN hR.below _⟩
    · obtain rfl : k = 7 := by omega
      have HX := Lib.hid (show cutH s = (0, s) from cutH_none fun v a b => HN.out v a (by omega))
      have HB := Lib.hid hb.below
      clear hb
      go_wp2
      go_ret2
      rw [HX.out]
      exact ⟨rfl, HB.out⟩
end Go.Proofs.YtbmjmiioobgbfaaGreatDoor
