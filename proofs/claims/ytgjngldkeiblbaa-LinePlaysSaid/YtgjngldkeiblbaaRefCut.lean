/-
  Contract of the verifier's own Cut: byte by byte, it comes to what 'run' tells of the text where no line is too long.
  The text has at most 50000 bytes.
-/
import Derived.Test.YtgjngldkeiblbaaParts
import Derived.Test.YtgjngldkeiblbaaEnded
namespace Go.Proofs.Ytgjngldkeiblbaa
open Go Go.RowKit Go.Shelf

/-- Between two bytes of Cut: k have come, the line that is not whole stands from fr on. -/
def CutI (w : World) (s : List UInt8) (k fr : Nat) (v : Value) (o : List (List UInt8)) (W : World) : Prop :=
  Below w.heap.size w W ∧ Ows W w.heap.size v o ∧ run (s.length + 1) [] (s.take k) = (o, (s.take k).drop fr, false) ∧ fr ≤ k

theorem take_one (s : List UInt8) {k : Nat} (h : k < s.length) {fr : Nat} (hfr : fr ≤ k) : (s.take (k + 1)).drop fr = (s.take k).drop fr ++ [s[k]] := by
  rw [List.take_succ_eq_append_getElem h, List.drop_append_of_le_length (by simp; omega)]

theorem run_snoc {m : Nat} {s : List UInt8} {k : Nat} (h : k < s.length) {o : List (List UInt8)} {l : List UInt8} (hr : run m [] (s.take k) = (o, l, false)) :
    run m [] (s.take (k + 1)) = (o ++ (run m l [s[k]]).1, (run m l [s[k]]).2) := by
  rw [List.take_succ_eq_append_getElem h, run_append, hr]
  simp

theorem cutI_on {w W : World} {s : List UInt8} {k fr : Nat} {v : Value} {o : List (List UInt8)} (h : CutI w s k fr v o W) (hk : k < s.length) (he : endedB ((s.take (k + 1)).drop fr) = false) : CutI w s (k + 1) fr v o W := by
  obtain ⟨h1, h2, h3, h4⟩ := h
  refine ⟨h1, h2, ?_, by omega⟩
  rw [take_one s hk h4] at he ⊢
  rw [run_snoc hk h3, run_one_on he (by simp; omega)]
  simp

theorem cutI_end {w W W' : World} {s : List UInt8} {k fr : Nat} {v v' : Value} {o : List (List UInt8)} (h : CutI w s k fr v o W) (hk : k < s.length) (he : endedB ((s.take (k + 1)).drop fr) = true)
    (hg : (W.grownBy W' v.ownBlock)) (ho : Ows W' w.heap.size v' (o ++ [((s.take k).drop fr).dropLast])) : CutI w s (k + 1) (k + 1) v' (o ++ [((s.take k).drop fr).dropLast]) W' := by
  obtain ⟨h1, h2, h3, h4⟩ := h
  refine ⟨h1.grown hg h1.size (fun j e => ?_), ho, ?_, by omega⟩
  · rcases h2.2 with ⟨rfl, _⟩ | ⟨g', cap, cur, rfl, hb', _⟩
    · simp [Value.ownBlock] at e
    · obtain rfl : g' = j := by simpa [Value.ownBlock] using e
      exact hb'
  · rw [take_one s hk h4] at he
    rw [run_snoc hk h3, run_one_end he]
    simp

theorem ended_long {s : List UInt8} {k fr : Nat} (hk : k < s.length) (hfr : fr ≤ k) (he : endedB ((s.take (k + 1)).drop fr) = true) : fr + 1 ≤ k ∧ ((s.take k).drop fr).dropLast = (s.take (k - 1)).drop fr := by
  have h2 : 2 ≤ ((s.take (k + 1)).drop fr).length := by
    unfold endedB at he
    exact (decide_eq_true_iff.1 he).1
  simp at h2
  refine ⟨by omega, ?_⟩
  have e : s.take k = s.take (k - 1) ++ [s[k - 1]'(by omega)] := by
    have := List.take_succ_eq_append_getElem (show k - 1 < s.length by omega)
    rwa [show k - 1 + 1 = k by omega] at this
  rw [e, List.drop_append_of_le_length (by simp; omega), List.dropLast_concat]

set_option maxRecDepth 100000 in
set_option maxHeartbeats 2000000 in
theorem refCut_run (s : List UInt8) (w : World) (hs : s.length ≤ 50000) {o : List (List UInt8)} {t : List UInt8} (hr : run (s.length + 1) [] s = (o, t, false)) :
    Calls Try.prog 23 #[.string (str s)] w fun e w' => ∃ A cap, e = .returned (.tuple #[.slice A o.length cap, sv t]) ∧ Below w.heap.size w w' ∧ Ows w' w.heap.size (.slice A o.length cap) o := by
  have HR := Lib.hid hr
  clear hr
  go_enter Try.func23, Try.ntmps23
  go_wp2
  have h0 : CutI w s 0 0 (.slice none 0 0) [] w := ⟨Below.refl _ _, World.ownsRow_nil _ _ _ _, by simp [run_nil], Nat.le_refl _⟩
  have H0 := Lib.hid h0
  clear h0
  go_loopw [4, 5, 6] (fun v from_ i wr => ∃ (k fr : Nat) (o : List (List UInt8)), k ≤ s.length ∧ i = .int .i64 k ∧ from_ = .int .i64 fr ∧ CutI w s k fr v o wr) (fun _ _ i _ => s.length - (intOf i).toNat)
  case atStart => exact ⟨0, 0, [], Nat.zero_le _, rfl, rfl, H0.out⟩
  case round =>
    obtain ⟨k, fr, o', hk, rfl, rfl, hI⟩ := hrel
    have hfr : fr ≤ k := hI.2.2.2
    by_cases hlt : k < s.length
    · obtain ⟨A0, c0, rfl⟩ := hI.2.1.form
      have hol : o'.length ≤ 200000 := by have := run_count (s.length + 1) (s.take k) []; rw [hI.2.2.1] at this; simp at this; omega
      cases he : endedB ((s.take (k + 1)).drop fr) with
      | false =>
        have HI := Lib.hid hI
        have HE := Lib.hid he
        have hsl := run_part wr s fr (k + 1) (k + 1) (by omega) (by omega) (by omega)
        clear hI he
        go_wp2_with fail
        refine (ended_is _ false wr HE.out (by simp; omega)).mono ?_
        rintro e w' ⟨rfl, rfl⟩
        go_wp2
        go_roundw
        case rel => exact ⟨k + 1, fr, o', by omega, by go_num, rfl, cutI_on HI.out hlt HE.out⟩
        case measure => simp [intOf]; omega
      | true =>
        obtain ⟨hfr1, hdl⟩ := ended_long hlt hfr he
        obtain ⟨k, rfl⟩ : ∃ j, k = j + 1 := ⟨k - 1, by omega⟩
        obtain ⟨g, cap, w2, hrun, ho2, hg2, _⟩ := append_one wr w.heap.size (.slice A0 o'.length c0) o' (((s.take (k + 1)).drop fr).dropLast) hI.2.1 hI.1.size hol
        have hNX := cutI_end hI hlt he hg2 ho2
        rw [hdl, Nat.add_sub_cancel] at hrun
        have HI := Lib.hid hI
        have HE := Lib.hid he
        have HNX := Lib.hid hNX
        have HRUN := Lib.hid hrun
        have hsl := run_part wr s fr (k + 1 + 1) (k + 1 + 1) (by omega) (by omega) (by omega)
        have hsl2 := run_part wr s fr k k (by omega) (by omega) (by omega)
        clear hI he hNX hrun ho2 hg2 hdl
        go_wp2_with fail
        refine (ended_is _ true wr HE.out (by simp; omega)).mono ?_
        rintro e w' ⟨rfl, rfl⟩
        go_wp2_with (at_builtin; refine wpList_append_run rfl (.tmp 19) (.tmp 25) 23 rfl rfl rfl HRUN.out ?_)
        go_roundw
        case rel => exact ⟨k + 1 + 1, k + 1 + 1, _, by omega, by go_num, by go_num, by simpa using HNX.out⟩
        case measure => simp [intOf]; omega
    · obtain rfl : k = s.length := by omega
      have HI := Lib.hid hI
      clear hI
      go_wp2
      go_quiet (fail)
      go_wp2
      go_ret2
      obtain ⟨h1, h2, h3, _⟩ := HI.out
      rw [List.take_of_length_le (Nat.le_refl _)] at h3
      obtain ⟨rfl, rfl⟩ : o' = o ∧ s.drop fr = t := by have := h3.symm.trans HR.out; simpa using this
      obtain ⟨A, c, rfl⟩ := h2.form
      refine ⟨A, c, ?_, h1.trans ((below_drewN wr nq _)), h2.below (below_drewN _ _ _)⟩
      rw [str_extract, List.take_of_length_le (Nat.le_refl _)]
      rfl
end Go.Proofs.Ytgjngldkeiblbaa
