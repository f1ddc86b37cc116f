/-
  Contracts of the verifier's own framer: New, Copy, Feed: byte by byte, what it is told comes to 'run'.
  A part has at most 50000 bytes.
-/
import Derived.Test.YtgjngldkeiblbaaRefCut
import Derived.StillTailTactics
import Derived.IntWalk
import Derived.Deep.RegionLaw
namespace Go.Proofs.Ytgjngldkeiblbaa
open Go Go.RowKit Go.Shelf

/-- Block b is a framer of the reference: lines of m bytes at most, l has come of a line, d: is it dead? -/
def Rf (w : World) (b m : Nat) (l : List UInt8) (d : Bool) : Prop := w.heap[b]? = some (.cells #[.int .i64 m, sv l, .bool d] 41 (0, 0))

theorem Rf.kept {w w' : World} {b m : Nat} {l : List UInt8} {d : Bool} {row : Option Nat} (h : Rf w b m l d) (hg : w.grownBy w' row) (hr : row ≠ some b) : Rf w' b m l d :=
  (hg.block b (lt_of_block h) (fun e => hr e.symm)).trans h

theorem refNew_yes (m : Nat) (w : World) (h2 : 2 ≤ m) (h5 : m ≤ 512) :
    Calls Try.prog 19 #[.int .i64 m] w fun e w' => e = .returned (.tuple #[.pointer (some ⟨w.heap.size, 0, none⟩), .int .i64 0]) ∧ w' = w.alloc (.cells #[.int .i64 m, sv [], .bool false] 41) := by
  go_enter Try.func19, Try.ntmps19
  go_wp2
  go_ret2
  exact ⟨rfl, rfl⟩

theorem refNew_low (m : Int) (w : World) (h2 : m < 2) :
    Calls Try.prog 19 #[.int .i64 m] w fun e w' => e = .returned (.tuple #[.pointer none, .int .i64 1]) ∧ w = w' := by
  go_enter Try.func19, Try.ntmps19
  go_wp2
  go_ret2
  exact ⟨rfl, rfl⟩

theorem refNew_high (m : Int) (w : World) (h2 : 512 < m) :
    Calls Try.prog 19 #[.int .i64 m] w fun e w' => e = .returned (.tuple #[.pointer none, .int .i64 1]) ∧ w = w' := by
  have h3 : 2 ≤ m := by omega
  go_enter Try.func19, Try.ntmps19
  go_wp2
  go_ret2
  exact ⟨rfl, rfl⟩

theorem refCopy_any (w : World) {b m : Nat} {l : List UInt8} {d : Bool} (h : Rf w b m l d) :
    Calls Try.prog 20 #[.pointer (some ⟨b, 0, none⟩)] w fun e w' => e = .returned (.pointer (some ⟨w.heap.size, 0, none⟩)) ∧ w.grownBy w' none ∧ Rf w' w.heap.size m l d := by
  have hb : w.heap[b]? = some (.cells #[.int .i64 m, sv l, .bool d] 41 (0, 0)) := h
  have h0 : w.cell? ⟨b, 0, none⟩ = some (.int .i64 m) := by rw [cellAt hb]; rfl
  have h1 : w.cell? ⟨b, 1, none⟩ = some (sv l) := by rw [cellAt hb]; rfl
  have h2 : w.cell? ⟨b, 2, none⟩ = some (.bool d) := by rw [cellAt hb]; rfl
  have hlt := lt_of_block hb
  have HB := Lib.hid hb
  clear hb h
  go_enter Try.func20, Try.ntmps20
  go_wp2
  go_ret
  exact ⟨rfl, World.grownBy_alloc _ _ _, heap_alloc_new w _⟩

theorem refFeed_dead (s : ByteArray) (w : World) {b m : Nat} {l : List UInt8} (h : Rf w b m l true) :
    Calls Try.prog 21 #[.pointer (some ⟨b, 0, none⟩), .string s] w fun e w' => e = .returned (.tuple #[.slice none 0 0, .int .i64 7]) ∧ w = w' := by
  have hb : w.heap[b]? = some (.cells #[.int .i64 m, sv l, .bool true] 41 (0, 0)) := h
  have h2 : w.cell? ⟨b, 2, none⟩ = some (.bool true) := by rw [cellAt hb]; rfl
  clear hb h
  go_enter Try.func21, Try.ntmps21
  go_wp2
  go_ret2
  exact ⟨rfl, rfl⟩

theorem Rf.cells {w : World} {b m : Nat} {l : List UInt8} {d : Bool} (h : Rf w b m l d) : w.cell? ⟨b, 0, none⟩ = some (.int .i64 m) ∧ w.cell? ⟨b, 1, none⟩ = some (sv l) ∧ w.cell? ⟨b, 2, none⟩ = some (.bool d) ∧ w.frozen? ⟨b, 1, none⟩ = false ∧ w.frozen? ⟨b, 2, none⟩ = false := by
  have hb : w.heap[b]? = some (.cells #[.int .i64 m, sv l, .bool d] 41 (0, 0)) := h
  refine ⟨?_, ?_, ?_, freeAt hb 1, freeAt hb 2⟩ <;> (rw [cellAt hb]; rfl)

theorem Rf.left {w : World} {b m : Nat} {l : List UInt8} {d : Bool} (h : Rf w b m l d) (l' : List UInt8) : Rf (w.setCell ⟨b, 1, none⟩ (sv l')) b m l' d := by
  have hb : w.heap[b]? = some (.cells #[.int .i64 m, sv l, .bool d] 41 (0, 0)) := h
  unfold Rf
  rw [heap_setCell_same _ _ _ _ _ _ hb]
  rfl
theorem Rf.die {w : World} {b m : Nat} {l : List UInt8} {d : Bool} (h : Rf w b m l d) (d' : Bool) : Rf (w.setCell ⟨b, 2, none⟩ (.bool d')) b m l d' := by
  have hb : w.heap[b]? = some (.cells #[.int .i64 m, sv l, .bool d] 41 (0, 0)) := h
  unfold Rf
  rw [heap_setCell_same _ _ _ _ _ _ hb]
  rfl

theorem Rf.drewN {w : World} {b m : Nat} {l : List UInt8} {d : Bool} (h : Rf w b m l d) (n : Nat) : Rf (w.drewN n) b m l d := h
theorem Rf.drew {w : World} {b m : Nat} {l : List UInt8} {d : Bool} (h : Rf w b m l d) : Rf w.drew b m l d := h

theorem run_snoc' {m : Nat} {s l : List UInt8} {k : Nat} (h : k < s.length) {o : List (List UInt8)} {l1 : List UInt8} (hr : run m l (s.take k) = (o, l1, false)) :
    run m l (s.take (k + 1)) = (o ++ (run m l1 [s[k]]).1, (run m l1 [s[k]]).2) := by
  rw [List.take_succ_eq_append_getElem h, run_append, hr]
  simp

/-- Between two steps of Feed: what has been told, what has come of a line. -/
def RI (w : World) (b m : Nat) (v : Value) (o1 : List (List UInt8)) (l1 : List UInt8) (d : Bool) (W : World) : Prop :=
  b < w.heap.size ∧ w.grownBy W (some b) ∧ Rf W b m l1 d ∧ Ows W w.heap.size v o1

theorem RI.left {w W : World} {b m : Nat} {v : Value} {o1 : List (List UInt8)} {l1 : List UInt8} {d : Bool} (h : RI w b m v o1 l1 d W) (l' : List UInt8) : RI w b m v o1 l' d (W.setCell ⟨b, 1, none⟩ (sv l')) :=
  ⟨h.1, grown_trans h.2.1 (grownBy_cell _ _ _ _), h.2.2.1.left l', h.2.2.2.kept (grownBy_cell _ _ _ _) (fun r e => by cases e; exact .inl h.1)⟩
theorem RI.die {w W : World} {b m : Nat} {v : Value} {o1 : List (List UInt8)} {l1 : List UInt8} {d : Bool} (h : RI w b m v o1 l1 d W) (d' : Bool) : RI w b m v o1 l1 d' (W.setCell ⟨b, 2, none⟩ (.bool d')) :=
  ⟨h.1, grown_trans h.2.1 (grownBy_cell _ _ _ _), h.2.2.1.die d', h.2.2.2.kept (grownBy_cell _ _ _ _) (fun r e => by cases e; exact .inl h.1)⟩
theorem RI.drewN {w W : World} {b m : Nat} {v : Value} {o1 : List (List UInt8)} {l1 : List UInt8} {d : Bool} (h : RI w b m v o1 l1 d W) (n : Nat) : RI w b m v o1 l1 d (W.drewN n) :=
  ⟨h.1, grown_trans h.2.1 ⟨rfl, rfl, rfl, Nat.le_refl _, fun _ _ _ => rfl⟩, h.2.2.1, h.2.2.2⟩
theorem RI.drew {w W : World} {b m : Nat} {v : Value} {o1 : List (List UInt8)} {l1 : List UInt8} {d : Bool} (h : RI w b m v o1 l1 d W) : RI w b m v o1 l1 d W.drew := h.drewN 1
theorem RI.app {w W W' : World} {b m : Nat} {v v' : Value} {o1 o2 : List (List UInt8)} {l1 : List UInt8} {d : Bool} (h : RI w b m v o1 l1 d W) (hg : W.grownBy W' v.ownBlock) (ho : Ows W' w.heap.size v' o2) : RI w b m v' o2 l1 d W' := by
  have own : ∀ j, v.ownBlock = some j → w.heap.size ≤ j := by
    intro j e
    rcases h.2.2.2.2 with ⟨rfl, _⟩ | ⟨g', cap, cur, rfl, hb', _⟩
    · simp [Value.ownBlock] at e
    · obtain rfl : g' = j := by simpa [Value.ownBlock] using e
      exact hb'
  have h1 := h.1
  have hg1 := h.2.1
  refine ⟨h1, ⟨hg.os.trans hg1.os, hg.tape.trans hg1.tape, hg.output.trans hg1.output, Nat.le_trans hg1.size hg.size, fun j hj hne => ?_⟩, h.2.2.1.kept hg (fun e => by have := own _ e; omega), ho⟩
  rw [hg.block j (Nat.lt_of_lt_of_le hj hg1.size) (fun e => by have := own j e.symm; omega), hg1.block j hj hne]

/-- An append in a region that draws its order, where its run is known. -/
theorem step_append {P : Program} {ops : Array Oper} {o : Oper} {a : Act} {w w' : World} {K : Act → World → Prop} {Q : Exit → Act → World → Prop} {E : Prop} {v v' xv : Value}
    (hg : o.guard = none) (s x : Operand) (t : TypeId) (hop : o.op = Op.call { callee := Callee.builtin Builtin.append, args := #[s, x], argTypes := #[t, t] }) (hs : a.eval s = v) (hx : a.eval x = xv)
    (hrun : (Builtin.append_ #[t, t] o.type #[v, xv]).run P w = .ok v' w') (hK : K (a.put o.dst v') w') :
    if Region.wanted o (yielded ops a.tmps) = true then Oper.wp P o a w K Q else E := by
  have hw : Region.wanted o (yielded ops a.tmps) = true := by simp [Region.wanted, hg]
  rw [if_pos hw]
  unfold Oper.wp
  simp [execOp, hop, resolve, invoke, builtin, hs, hx, hrun, Result.andThen]
  exact hK

theorem run_head (W : World) (t : List UInt8) (n : Nat) (x : Int) (h : n ≤ t.length) (hx : x = (n : Int)) :
    (Instr.slice 9 (.string (str t)) none (some (.int .i64 x)) none).run Try.prog W = .ok (.string (str (t.take n))) W := by
  subst hx
  go_simp
  rw [str_extract, List.drop_zero]

set_option maxRecDepth 100000 in
set_option maxHeartbeats 4000000 in
theorem refFeed_live (s l : List UInt8) (w : World) {b m : Nat} {l' : List UInt8} {d : Bool} {o : List (List UInt8)} (h : Rf w b m l false) (hl : l.length < m) (hm' : m ≤ 512) (hs : s.length ≤ 50000) (hr : run m l s = (o, l', d)) :
    Calls Try.prog 21 #[.pointer (some ⟨b, 0, none⟩), .string (str s)] w fun e w' => ∃ A cap, e = .returned (.tuple #[.slice A o.length cap, .int .i64 (eno d)]) ∧ w.grownBy w' (some b) ∧ Rf w' b m l' d ∧ Ows w' w.heap.size (.slice A o.length cap) o := by
  have HR := Lib.hid hr
  obtain ⟨_, _, h2, _, _⟩ := h.cells
  have H0 := Lib.hid (show RI w b m (.slice none 0 0) [] l false w from ⟨lt_of_block h, World.grownBy.refl _ _, h, World.ownsRow_nil _ _ _ _⟩)
  have HA := Lib.hid (show ∀ a b : List UInt8, str a ++ str b = str (a ++ b) from fun a b => by apply ByteArray.ext; simp)
  clear hr h
  go_enter Try.func21, Try.ntmps21
  go_wp2
  go_loopw [6, 7] (fun v i wr => ∃ (k : Nat) (o1 : List (List UInt8)) (l1 : List UInt8), k ≤ s.length ∧ i = .int .i64 k ∧ RI w b m v o1 l1 false wr ∧ run m l (s.take k) = (o1, l1, false) ∧ l1.length < m) (fun _ i _ => s.length - (intOf i).toNat)
  case atStart => exact ⟨0, [], l, Nat.zero_le _, rfl, H0.out, by simp [run_nil], hl⟩
  case round =>
    obtain ⟨k, o1, l1, hk, rfl, hI, hr1, hll⟩ := hrel
    obtain ⟨A0, cap0, rfl⟩ := hI.2.2.2.form
    have hol : o1.length ≤ 200000 := by have := run_count m (s.take k) l; rw [hr1] at this; simp at this; omega
    by_cases hlt : k < s.length
    · obtain ⟨c0, c1, c2, f1, f2⟩ := hI.2.2.1.cells
      obtain ⟨t, ht⟩ : ∃ t, t = l1 ++ [s[k]] := ⟨_, rfl⟩
      have hn : t.length = l1.length + 1 := by rw [ht]; simp
      have hr2 := run_snoc' hlt hr1
      have hsl := fun W => run_part W s k (k + 1) (k + 1) (by omega) (by omega) (by omega)
      have e1 : (s.take (k + 1)).drop k = [s[k]] := by rw [take_one s hlt (Nat.le_refl _), List.drop_of_length_le (by simp; omega)]; rfl
      simp only [e1] at hsl
      have ej : str l1 ++ str [s[k]] = str t := by rw [HA.out, ht]
      have HI := Lib.hid hI
      have HT := Lib.hid ht
      have HR2 := Lib.hid hr2
      have HR1 := Lib.hid hr1
      have HN := Lib.hid hn
      have htm : t.length ≤ 512 := by omega
      clear hI e1 ht hr2 hr1 hn
      have hno : ¬ 9223372036854775807 < l1.length + 1 := by omega
      have hwrap : IntKind.i64.wrap ((k : Int) + 1) = (k : Int) + 1 := IntWalk.i64_in _ (by omega)
      go_wp2
      go_still_tail 13, (by kernel_rfl)
      clear hwrap hno
      change wpList _ _ _ _ _ wr.drew
      go_wp2_with fail
      obtain ⟨W2, hW2⟩ : ∃ W2, W2 = (wr.setCell ⟨b, 1, none⟩ (sv t)).drew := ⟨_, rfl⟩
      have hJ : RI w b m (.slice A0 o1.length cap0) o1 t false W2 := by rw [hW2]; exact (HI.out.left t).drew
      rw [← hW2]
      clear hW2 c0 c1 c2 f1 f2 ej hsl
      obtain ⟨c0, c1, c2, f1, f2⟩ := hJ.2.2.1.cells
      have HJ := Lib.hid hJ
      clear hJ
      cases he : endedB t with
      | true =>
        have HE := Lib.hid he
        have h2n : 2 ≤ t.length := by unfold endedB at he; exact (decide_eq_true_iff.1 he).1
        obtain ⟨g, cap, w3, hrun, ho3, hg3, _⟩ := append_one W2.drew w.heap.size (.slice A0 o1.length cap0) o1 (t.take (t.length - 2)) HJ.out.drew.2.2.2 HJ.out.drew.2.1.size hol
        have HK := Lib.hid (HJ.out.drew.app hg3 ho3)
        have HRUN := Lib.hid hrun
        clear he hrun ho3 hg3
        refine (ended_is t true W2 HE.out (by omega)).mono ?_
        rintro e w' ⟨rfl, rfl⟩
        have hsl := fun W => run_head W t (t.length - 2) ((t.length : Int) - 2) (by omega) (by omega)
        have hwrap : IntKind.i64.wrap ((t.length : Int) - 2) = (t.length : Int) - 2 := IntWalk.i64_in _ (by omega)
        go_wp2
        go_region_law (refine step_append rfl (.tmp 36) (.tmp 48) 23 rfl rfl rfl HRUN.out ?_)
        all_goals (clear hwrap hsl c0 c1 c2 f1 f2 h2n)
        all_goals
          obtain ⟨c0, c1, c2, f1, f2⟩ := HK.out.2.2.1.cells
          have HK2 := Lib.hid (HK.out.left [])
          have hm0 : (0 : Int) < (m : Int) := by omega
          clear HK
          go_wp2
          go_quiet (fail)
          go_wp2
          go_roundw
          case rel =>
            refine ⟨k + 1, _, [], by omega, by go_num, HK2.out.drewN nq, ?_, by simp; omega⟩
            have e := HE.out
            rw [HT.out] at e
            rw [HR2.out, run_one_end e, HN.out, HT.out, List.take_append_of_le_length (by omega), List.dropLast_eq_take]
            rfl
          case measure => simp [intOf]; omega
      | false =>
        have HE := Lib.hid he
        clear he
        refine (ended_is t false W2 HE.out (by omega)).mono ?_
        rintro e w' ⟨rfl, rfl⟩
        by_cases hge : m ≤ t.length
        · have hge' : (m : Int) ≤ (t.length : Int) := by omega
          go_wp2
          go_quiet (fail)
          go_wp2
          go_ret2
          have hfin : run m l s = (o1, [], true) := by
            have e : s = s.take (k + 1) ++ s.drop (k + 1) := (List.take_append_drop (k + 1) s).symm
            have e2 := HE.out
            rw [HT.out] at e2
            rw [e, run_append, HR2.out, run_one_dies e2 (by have := HN.out; omega)]
            simp
          obtain ⟨rfl, rfl, rfl⟩ : o1 = o ∧ [] = l' ∧ true = d := by have := hfin.symm.trans HR.out; simpa using this
          have hd := ((HJ.out.drewN nq).left []).die true
          exact ⟨A0, cap0, rfl, hd.2.1, hd.2.2.1, hd.2.2.2⟩
        · have hge' : (t.length : Int) < (m : Int) := by omega
          go_wp2
          go_quiet (fail)
          go_wp2
          go_roundw
          case rel =>
            refine ⟨k + 1, o1, t, by omega, by go_num, HJ.out.drewN nq, ?_, by omega⟩
            have e := HE.out
            rw [HT.out] at e
            rw [HR2.out, run_one_on e (by have := HN.out; omega), HT.out]
            simp
          case measure => simp [intOf]; omega
    · obtain rfl : k = s.length := by omega
      have HI := Lib.hid hI
      have HR1 := Lib.hid hr1
      clear hI hr1
      go_wp2
      go_ret2
      have h1 := HR1.out
      rw [List.take_of_length_le (Nat.le_refl _)] at h1
      obtain ⟨rfl, rfl, rfl⟩ : o1 = o ∧ l1 = l' ∧ false = d := by have := h1.symm.trans HR.out; simpa using this
      have hd := HI.out
      exact ⟨A0, cap0, rfl, hd.2.1, hd.2.2.1, hd.2.2.2⟩
end Go.Proofs.Ytgjngldkeiblbaa
