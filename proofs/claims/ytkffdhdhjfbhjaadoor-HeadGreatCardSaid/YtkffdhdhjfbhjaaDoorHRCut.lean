/-
  The contract of the reference's Cut: byte by byte, it comes to what 'run' tells of the text where no line is too long. The text has at most 50000 bytes.
-/
import Derived.Test.YtkffdhdhjfbhjaaDoorHAwake2
namespace Go.Proofs.YtkffdhdhjfbhjaaDoor
set_option linter.unusedSimpArgs false
set_option linter.unusedVariables false
open Go Go.RowKit Go.Shelf
set_option maxRecDepth 100000

theorem byte_of {b c : UInt8} (h : (b.toNat : Int) = (c.toNat : Int)) : b = c := UInt8.toNat_inj.1 (by omega)
theorem Ows.below {w w' : World} {base : Nat} {v : Value} {outs : List (List UInt8)} (h : Ows w base v outs) (hb : Below w.heap.size w w') : Ows w' base v outs := h.kept (grownBy_of_below hb none) (fun r e => by cases e)
theorem run_count (m : Nat) : ∀ (s l : List UInt8), (run m l s).1.length ≤ s.length := by
  intro s
  induction s with
  | nil => intro l; simp [run_nil]
  | cons b s ih =>
    intro l
    by_cases h : b = 10 ∧ l.getLast? = some 13
    · rw [run_end _ h]; have := ih []; simp; omega
    · by_cases hm : m ≤ l.length + 1
      · rw [run_dies _ h hm]; simp
      · rw [run_on _ h (by omega)]; have := ih (l ++ [b]); simp; omega

theorem run_part (W : World) (s : List UInt8) (fr to : Nat) (x : Int) (h1 : fr ≤ to) (h2 : to ≤ s.length) (hx : x = (to : Int)) :
    (Instr.slice 9 (.string (str s)) (some (.int .i64 (fr : Int))) (some (.int .i64 x)) none).run Tryd.prog W = .ok (.string (str ((s.take to).drop fr))) W := by
  subst hx
  go_simp
  rw [str_extract]

/-- Does a text end by CR LF? -/
def endedB (x : List UInt8) : Bool := decide (2 ≤ x.length ∧ x[x.length - 2]? = some 13 ∧ x[x.length - 1]? = some 10)

theorem byte_eq {b c : UInt8} : ((b.toNat : Int) == (c.toNat : Int)) = decide (b = c) := by
  rw [Bool.eq_iff_iff, beq_iff_eq, decide_eq_true_iff]
  exact ⟨byte_of, fun e => by rw [e]⟩

set_option maxHeartbeats 1000000 in
theorem ended_any (x : List UInt8) (w : World) (hx : x.length ≤ 100000) :
    Calls Tryd.prog 59 #[.string (str x)] w fun e w' => e = .returned (.bool (endedB x)) ∧ w = w' := by
  by_cases h2 : 2 ≤ x.length
  · have h2' : (2 : Int) ≤ (x.length : Int) := by omega
    have hE : endedB x = (decide (x[x.length - 2]'(by omega) = 13) && decide (x[x.length - 1]'(by omega) = 10)) := by
      unfold endedB
      rw [List.getElem?_eq_getElem (show x.length - 2 < x.length by omega), List.getElem?_eq_getElem (show x.length - 1 < x.length by omega)]
      simp [h2]
    by_cases h13 : x[x.length - 2]'(by omega) = 13
    · have h1 : ((((str x)[x.length - 2]'(by simp [ByteArray.size]; omega)).toNat : Int) == 13) = true := by
        rw [show (str x)[x.length - 2]'(by simp [ByteArray.size]; omega) = x[x.length - 2]'(by omega) from rfl, h13]; rfl
      go_enter Tryd.func59, Tryd.ntmps59
      go_wp2
      go_ret
      refine ⟨?_, rfl⟩
      rw [hE, decide_eq_true h13, Bool.true_and]
      rw [← byte_eq]
      rfl
    · have h1 : ((((str x)[x.length - 2]'(by simp [ByteArray.size]; omega)).toNat : Int) == 13) = false := by
        rw [show (str x)[x.length - 2]'(by simp [ByteArray.size]; omega) = x[x.length - 2]'(by omega) from rfl]
        rw [show (13 : Int) = ((13 : UInt8).toNat : Int) from rfl, byte_eq, decide_eq_false h13]
      go_enter Tryd.func59, Tryd.ntmps59
      go_wp2
      go_ret
      refine ⟨?_, rfl⟩
      rw [hE, decide_eq_false h13, Bool.false_and]
      rfl
  · rw [show endedB x = false by unfold endedB; rw [decide_eq_false]; rintro ⟨h, _⟩; exact h2 h]
    have h2' : (x.length : Int) ≤ 1 := by omega
    go_enter Tryd.func59, Tryd.ntmps59
    go_wp2
    go_ret
    exact ⟨rfl, rfl⟩

theorem ended_is (x : List UInt8) (b : Bool) (w : World) (hb : endedB x = b) (hx : x.length ≤ 100000) :
    Calls Tryd.prog 59 #[.string (str x)] w fun e w' => e = .returned (.bool b) ∧ w = w' := by
  subst hb
  exact ended_any x w hx

theorem endedB_snoc (l : List UInt8) (b : UInt8) : endedB (l ++ [b]) = true ↔ b = 10 ∧ l.getLast? = some 13 := by
  unfold endedB
  rw [decide_eq_true_iff, List.getLast?_eq_getElem?]
  simp only [List.length_append, List.length_singleton]
  constructor
  · rintro ⟨h, h1, h2⟩
    rw [List.getElem?_append_left (by omega)] at h1
    rw [List.getElem?_append_right (by omega)] at h2
    refine ⟨by simpa using h2, ?_⟩
    rw [show l.length - 1 = l.length + 1 - 2 by omega]; exact h1
  · rintro ⟨rfl, h⟩
    have hl : 0 < l.length := by
      rcases Nat.eq_zero_or_pos l.length with h0 | h0
      · rw [List.eq_nil_of_length_eq_zero h0] at h; simp at h
      · exact h0
    refine ⟨by omega, ?_, ?_⟩
    · rw [List.getElem?_append_left (by omega), show l.length + 1 - 2 = l.length - 1 by omega]; exact h
    · rw [List.getElem?_append_right (by omega)]; simp

/-- One byte more, of a line that is whole by it. -/
theorem run_one_end {m : Nat} {l : List UInt8} {b : UInt8} (h : endedB (l ++ [b]) = true) : run m l [b] = ([l.dropLast], [], false) := by
  rw [run_end _ ((endedB_snoc l b).1 h)]; rfl
/-- One byte more, of a line that is not whole by it. -/
theorem run_one_on {m : Nat} {l : List UInt8} {b : UInt8} (h : endedB (l ++ [b]) = false) (hm : l.length + 1 < m) : run m l [b] = ([], l ++ [b], false) := by
  rw [run_on _ (fun e => by rw [(endedB_snoc l b).2 e] at h; cases h) hm]; rfl
theorem run_one_dies {m : Nat} {l : List UInt8} {b : UInt8} (h : endedB (l ++ [b]) = false) (hm : m ≤ l.length + 1) : run m l [b] = ([], [], true) :=
  run_dies _ (fun e => by rw [(endedB_snoc l b).2 e] at h; cases h) hm

/-- Between two bytes of Cut: k have come, the line that is not whole stands from fr on. -/
def CutI (w : World) (s : List UInt8) (k fr : Nat) (v : Value) (o : List (List UInt8)) (W : World) : Prop :=
  Below w.heap.size w W ∧ Ows W w.heap.size v o ∧ run (s.length + 1) [] (s.take k) = (o, (s.take k).drop fr, false) ∧ fr ≤ k

theorem take_one (s : List UInt8) {k : Nat} (h : k < s.length) {fr : Nat} (hfr : fr ≤ k) : (s.take (k + 1)).drop fr = (s.take k).drop fr ++ [s[k]] := by
  rw [List.take_succ_eq_append_getElem h, List.drop_append_of_le_length (by simp; omega)]

theorem run_snoc {m : Nat} {s : List UInt8} {k : Nat} (h : k < s.length) {o : List (List UInt8)} {l : List UInt8} (hr : run m [] (s.take k) = (o, l, false)) :
    run m [] (s.take (k + 1)) = (o ++ (run m l [s[k]]).1, (run m l [s[k]]).2) := by
  rw [List.take_succ_eq_append_getElem h, run_append, hr]
  simp

theorem cutI_on {w W : World} {s : List UInt8} {k fr : Nat} {v : Value} {o : List (List UInt8)} (h : CutI w s k fr v o W) (hk : k < s.length) (he : endedB ((s.take (k + 1)).drop fr) = false) : CutI w s (k + 1) fr v o W := by
  obtain ⟨h1, h2, h3, h4⟩ := h
  refine ⟨h1, h2, ?_, by omega⟩
  rw [take_one s hk h4] at he ⊢
  rw [run_snoc hk h3, run_one_on he (by simp; omega)]
  simp

theorem cutI_end {w W W' : World} {s : List UInt8} {k fr : Nat} {v v' : Value} {o : List (List UInt8)} (h : CutI w s k fr v o W) (hk : k < s.length) (he : endedB ((s.take (k + 1)).drop fr) = true)
    (hg : (W.grownBy W' v.ownBlock)) (ho : Ows W' w.heap.size v' (o ++ [((s.take k).drop fr).dropLast])) : CutI w s (k + 1) (k + 1) v' (o ++ [((s.take k).drop fr).dropLast]) W' := by
  obtain ⟨h1, h2, h3, h4⟩ := h
  refine ⟨h1.grown hg h1.size (fun j e => ?_), ho, ?_, by omega⟩
  · rcases h2.2 with ⟨rfl, _⟩ | ⟨g', cap, cur, rfl, hb', _⟩
    · simp [Value.ownBlock] at e
    · obtain rfl : g' = j := by simpa [Value.ownBlock] using e
      exact hb'
  · rw [take_one s hk h4] at he
    rw [run_snoc hk h3, run_one_end he]
    simp

theorem ended_long {s : List UInt8} {k fr : Nat} (hk : k < s.length) (hfr : fr ≤ k) (he : endedB ((s.take (k + 1)).drop fr) = true) : fr + 1 ≤ k ∧ ((s.take k).drop fr).dropLast = (s.take (k - 1)).drop fr := by
  have h2 : 2 ≤ ((s.take (k + 1)).drop fr).length := by
    unfold endedB at he
    exact (decide_eq_true_iff.1 he).1
  simp at h2
  refine ⟨by omega, ?_⟩
  have e : s.take k = s.take (k - 1) ++ [s[k - 1]'(by omega)] := by
    have := List.take_succ_eq_append_getElem (show k - 1 < s.length by omega)
    rwa [show k - 1 + 1 = k by omega] at this
  rw [e, List.drop_append_of_le_length (by simp; omega), List.dropLast_concat]

set_option maxRecDepth 100000 in
set_option maxHeartbeats 2000000 in
theorem refCut_run (s : List UInt8) (w : World) (hs : s.length ≤ 50000) {o : List (List UInt8)} {t : List UInt8} (hr : run (s.length + 1) [] s = (o, t, false)) :
    Calls Tryd.prog 41 #[.string (str s)] w fun e w' => ∃ A cap, e = .returned (.tuple #[.slice A o.length cap, sv t]) ∧ Below w.heap.size w w' ∧ Ows w' w.heap.size (.slice A o.length cap) o := by
  have HR := Lib.hid hr
  clear hr
  go_enter Tryd.func41, Tryd.ntmps41
  go_wp2
  have h0 : CutI w s 0 0 (.slice none 0 0) [] w := ⟨Below.refl _ _, World.ownsRow_nil _ _ _ _, by simp [run_nil], Nat.le_refl _⟩
  have H0 := Lib.hid h0
  clear h0
  go_loopw [4, 5, 6] (fun v from_ i wr => ∃ (k fr : Nat) (o : List (List UInt8)), k ≤ s.length ∧ i = .int .i64 k ∧ from_ = .int .i64 fr ∧ CutI w s k fr v o wr) (fun _ _ i _ => s.length - (intOf i).toNat)
  case atStart => exact ⟨0, 0, [], Nat.zero_le _, rfl, rfl, H0.out⟩
  case round =>
    obtain ⟨k, fr, o', hk, rfl, rfl, hI⟩ := hrel
    have hfr : fr ≤ k := hI.2.2.2
    by_cases hlt : k < s.length
    · obtain ⟨A0, c0, rfl⟩ := hI.2.1.form
      have hol : o'.length ≤ 200000 := by have := run_count (s.length + 1) (s.take k) []; rw [hI.2.2.1] at this; simp at this; omega
      cases he : endedB ((s.take (k + 1)).drop fr) with
      | false =>
        have HI := Lib.hid hI
        have HE := Lib.hid he
        have hsl := run_part wr s fr (k + 1) (k + 1) (by omega) (by omega) (by omega)
        clear hI he
        go_wp2_with fail
        refine (ended_is _ false wr HE.out (by simp; omega)).mono ?_
        rintro e w' ⟨rfl, rfl⟩
        go_wp2
        go_roundw
        case rel => exact ⟨k + 1, fr, o', by omega, by go_num, rfl, cutI_on HI.out hlt HE.out⟩
        case measure => simp [intOf]; omega
      | true =>
        obtain ⟨hfr1, hdl⟩ := ended_long hlt hfr he
        obtain ⟨k, rfl⟩ : ∃ j, k = j + 1 := ⟨k - 1, by omega⟩
        obtain ⟨g, cap, w2, hrun, ho2, hg2, _⟩ := append_one wr w.heap.size (.slice A0 o'.length c0) o' (((s.take (k + 1)).drop fr).dropLast) hI.2.1 hI.1.size (by omega)
        have hNX := cutI_end hI hlt he hg2 ho2
        rw [hdl, Nat.add_sub_cancel] at hrun
        have HI := Lib.hid hI
        have HE := Lib.hid he
        have HNX := Lib.hid hNX
        have HRUN := Lib.hid hrun
        have hsl := run_part wr s fr (k + 1 + 1) (k + 1 + 1) (by omega) (by omega) (by omega)
        have hsl2 := run_part wr s fr k k (by omega) (by omega) (by omega)
        clear hI he hNX hrun ho2 hg2 hdl
        go_wp2_with fail
        refine (ended_is _ true wr HE.out (by simp; omega)).mono ?_
        rintro e w' ⟨rfl, rfl⟩
        go_wp2_with (at_builtin; refine wpList_append_run rfl (.tmp 19) (.tmp 25) 24 rfl rfl rfl HRUN.out ?_)
        go_roundw
        case rel => exact ⟨k + 1 + 1, k + 1 + 1, _, by omega, by go_num, by go_num, by simpa using HNX.out⟩
        case measure => simp [intOf]; omega
    · obtain rfl : k = s.length := by omega
      have HI := Lib.hid hI
      clear hI
      go_wp2
      go_quiet (fail)
      go_wp2
      go_ret2
      obtain ⟨h1, h2, h3, _⟩ := HI.out
      rw [List.take_of_length_le (Nat.le_refl _)] at h3
      obtain ⟨rfl, rfl⟩ : o' = o ∧ s.drop fr = t := by have := h3.symm.trans HR.out; simpa using this
      obtain ⟨A, c, rfl⟩ := h2.form
      refine ⟨A, c, ?_, h1.trans ((below_drewN (Below.refl _ _) _).mono h1.size), h2.below (below_drewN (Below.refl _ _) _)⟩
      rw [str_extract, List.take_of_length_le (Nat.le_refl _)]
      rfl

theorem rcut_any (s : List UInt8) (w : World) (hs : s.length ≤ 50000) :
    Calls Tryd.prog 41 #[sv s] w fun e w' => ∃ v, e = .returned (.tuple #[v, sv (restL s)]) ∧ Below w.heap.size w w' ∧ Ows w' w.heap.size v (cutL s) :=
  (refCut_run s w hs (run_cut_eq s)).mono fun e w' ⟨A, c, h1, h2, h3⟩ => ⟨_, h1, h2, h3⟩
end Go.Proofs.YtkffdhdhjfbhjaaDoor
