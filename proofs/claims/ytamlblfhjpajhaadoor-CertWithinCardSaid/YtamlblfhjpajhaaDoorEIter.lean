/-
  The iterator over the things of a text: what it hands over, each behind those ahead.
-/
import Derived.RangeFuncFrom
import Derived.RangeFuncNested
import Derived.RangeFuncBound
import Derived.RangeFuncCalls
import Derived.RangeFuncLeaves
import Derived.Shelf.Abstract
import Derived.Shelf.RegionOpen
import Derived.OwnWalkIn
import Derived.TacticsInMore
import Derived.LoopNIn
import Derived.LoopIn
import Derived.Sort.QuietIn
import Derived.Test.YtamlblfhjpajhaaDoorESeq
import Derived.Test.YtamlblfhjpajhaaDoorELoop
namespace Go.Proofs.YtamlblfhjpajhaaDoor
set_option linter.unusedSimpArgs false
set_option linter.unusedVariables false
open Go Go.RowKit Go.Shelf
set_option maxRecDepth 100000
attribute [local go_sem] Oper.semAt_some

/-- A body that ends, or returns, and never panics. -/
def calmlyE (Q : Exit → Act → World → Prop) : Exit → Act → World → Prop
  | .normal, a, w => Q .normal a w
  | .ret, a, w => Q .ret a w
  | _, _, _ => False
theorem calmly_ret {Q : Exit → Act → World → Prop} {a : Act} {w : World} (h : Q .ret a w) : calmlyE Q .ret a w := h
theorem calmly_normal {Q : Exit → Act → World → Prop} {a : Act} {w : World} (h : Q .normal a w) : calmlyE Q .normal a w := h
theorem wpIn_calmlyE {F : Fence} {n : Nat} {P : Program} {c : Code} {Q : Exit → Act → World → Prop} {a : Act} {w : World} (h : c.wpIn F n P (calmlyE Q) a w) : c.wpIn F n P Q a w :=
  wpIn_mono h fun e _ _ hq => match e, hq with
    | .normal, h => h
    | .ret, h => h
    | .panic _, h => h.elim
    | .outgrown, h => h.elim
    | .exit _, h => h.elim
    | .goto _, h => h.elim

theorem things_any (w : World) (s : List UInt8) : Calls Tryd.prog 46 #[sv s] w fun e w' =>
    e = .returned (.func (.func 60) #[] #[.pointer (some ⟨w.heap.size, 0, none⟩)]) ∧ w' = w.alloc (.cells #[sv s] 9) := by
  go_enter Tryd.func46, Tryd.ntmps46
  go_wp2
  go_ret
  exact ⟨rfl, rfl⟩

/-- How long a text is. -/
def lenS : Value → Nat
  | .string b => b.size
  | _ => 0
/-- A thing and an error's number, as values. -/
def teV (x : Tv × Nat) : Array Value := #[itv x.1.1 x.1.2, .int .i64 (x.2 : Int)]

set_option maxHeartbeats 4000000 in
theorem things1_in (l Bs : Nat) (s0 : List UInt8) (hs : s0.length ≤ 9223372036854775807)
    (J Jx : List (Tv × Nat) → World → Prop) (W : World) (hJ : OwnFrom W.heap.size J)
    (hY : ∀ pre x W1, J pre W1 → (pre ++ [x]) <+: seqL s0 → YieldAt Fence.wide 1 Tryd.prog l (teV x) W1 fun e W' =>
      (e = .returned (.bool true) ∧ J (pre ++ [x]) W') ∨ (e = .returned (.bool false) ∧ Jx (pre ++ [x]) W'))
    (hB : W.cell? ⟨Bs, 0, none⟩ = some (sv s0)) (h0 : J [] W) :
    CallsIn Fence.wide 2 Tryd.prog 60 #[.func (.yield l) #[] #[], .pointer (some ⟨Bs, 0, none⟩)] W fun e W' => (∃ v, e = .returned v) ∧ ((∃ xs, xs = seqL s0 ∧ J xs W') ∨ (∃ pre, pre <+: seqL s0 ∧ Jx pre W')) := by
  have HJB := Lib.hid (show ∀ pre A B, J pre A → Below A.heap.size A B → J pre B from fun pre A B h hb => hJ _ _ _ none h ⟨hb.os, hb.tape, hb.output, hb.size, fun k hk _ => hb.block k hk⟩ (fun r e => by cases e))
  have HYY := Lib.hid hY
  have HJ0 := Lib.hid h0
  clear hJ hY h0
  refine callsIn_of_wp Tryd.func60 rfl trivial (wpIn_calmlyE ?_) rfl
  simp only [Tryd.ntmps60, List.size_toArray, List.length_cons, List.length_nil, Nat.reduceAdd, Nat.reduceSub, Array.replicate_succ, Array.replicate_zero, List.push_toArray, List.append_toArray, List.nil_append, List.cons_append]
  gi_wp2
  gi_loopw [3] (fun v wr => ∃ (pre : List (Tv × Nat)) (r : List UInt8), v = sv r ∧ r.length ≤ s0.length ∧ pre ++ seqL r = seqL s0 ∧ J pre wr) (fun v _ => lenS v)
  case atStart => exact ⟨[], s0, rfl, Nat.le_refl _, rfl, HJ0.out⟩
  case round =>
    clear HJ0 hB
    obtain ⟨pre, r, rfl, hr, hp, hj⟩ := hrel
    have HP := Lib.hid hp
    have HJ := Lib.hid hj
    clear hp hj
    by_cases h0 : r.length = 0
    · obtain rfl : r = [] := List.length_eq_zero_iff.1 h0
      have HE := Lib.hid (show pre = seqL s0 by have := HP.out; rw [seqL_nil, List.append_nil] at this; exact this)
      clear h0
      gi_wp2
      refine calmly_normal ?_
      refine bodyPost_end (results_none rfl _ _ _) rfl ?_
      exact ⟨⟨_, rfl⟩, .inl ⟨pre, HE.out, HJ.out⟩⟩
    · have hem : r.isEmpty = false := by cases r with
        | nil => exact absurd rfl h0
        | cons _ _ => rfl
      have hrn : r ≠ [] := fun e => h0 (by rw [e]; rfl)
      have HCU := Lib.hid (fun X => @cut_any X r (by omega))
      cases hc : cutP r with
      | er x =>
        rw [hc] at HCU
        have hx := cutP_er hc
        have hx0 : ¬ ((x : Int) = 0) := by omega
        have hx1 : ((x : Int) != 0) = true := by rw [bne_iff_ne]; exact hx0
        have HS := Lib.hid (show pre ++ [((0, []), x)] = seqL s0 by rw [← HP.out, seqL_er hrn hc])
        have HC := Lib.hid (fun X => show Calls Tryd.prog 58 #[sv r] X (fun e w' => e = .returned (.tuple #[.agg #[.int .u8 0, sv []], sv [], .int .i64 (x : Int)]) ∧ Below X.heap.size X w') from HCU.out X)
        clear HCU hc h0 hrn hx
        gi_wp2_with (refine ⟨trivial, ?_⟩; gi_at_call 58; refine (callsIn_wide.2 (HC.out _)).mono ?_; rintro e w2 ⟨rfl, hb2⟩)
        have HJ3 := Lib.hid (HJB.out _ _ _ HJ.out (hb2.trans ((below_alloc w2 (.cells #[.int .u8 0, .string (str [])] 58)).mono hb2.size)))
        obtain ⟨fn, tmps, assign, body, hy, hR⟩ := HYY.out pre ((0, []), x) _ HJ3.out (by rw [HS.out]; exact List.prefix_refl _)
        have hy' : (Instr.yield l #[.agg #[.int .u8 0, .string (str [])], .int .i64 (x : Int)]).run Tryd.prog (w2.alloc (.cells #[.int .u8 0, .string (str [])] 58)) = _ := hy
        clear hy
        rw [hy']
        gi_wp2
        refine hR.mono ?_
        rintro e W3 (⟨rfl, hJ4⟩ | ⟨rfl, hJ4⟩)
        · have HJ4 := Lib.hid hJ4
          clear hJ4 hy' hR
          gi_wp2
          refine calmly_ret ?_
          refine bodyPost_ret (results_none rfl _ _ _) rfl ?_
          exact ⟨⟨_, rfl⟩, .inl ⟨_, HS.out, HJ4.out⟩⟩
        · have HJ4 := Lib.hid hJ4
          clear hJ4 hy' hR
          gi_wp2
          refine calmly_ret ?_
          refine bodyPost_ret (results_none rfl _ _ _) rfl ?_
          exact ⟨⟨_, rfl⟩, .inr ⟨_, by rw [HS.out]; exact List.prefix_refl _, HJ4.out⟩⟩
      | ok p =>
        obtain ⟨⟨t, v⟩, q⟩ := p
        rw [hc] at HCU
        have hql := cutP_shorter hc
        have hql2 : q.length ≤ s0.length := by omega
        have HS := Lib.hid (show (pre ++ [((t, v), 0)]) ++ seqL q = seqL s0 by rw [← HP.out, seqL_ok hc, List.append_assoc]; rfl)
        have HC := Lib.hid (fun X => show Calls Tryd.prog 58 #[sv r] X (fun e w' => e = .returned (.tuple #[.agg #[.int .u8 (t.toNat : Int), sv v], sv q, .int .i64 0]) ∧ Below X.heap.size X w') from HCU.out X)
        have hzq := str_size q
        have hzr := str_size r
        have HM := Lib.hid (show lenS (sv q) < lenS (sv r) by unfold lenS; simp only [str_size]; omega)
        clear HCU hc h0 hrn hql
        gi_wp2_with (refine ⟨trivial, ?_⟩; gi_at_call 58; refine (callsIn_wide.2 (HC.out _)).mono ?_; rintro e w2 ⟨rfl, hb2⟩)
        have HJ3 := Lib.hid (HJB.out _ _ _ HJ.out (hb2.trans ((below_alloc w2 (.cells #[.int .u8 (t.toNat : Int), .string (str v)] 58)).mono hb2.size)))
        obtain ⟨fn, tmps, assign, body, hy, hR⟩ := HYY.out pre ((t, v), 0) _ HJ3.out ⟨_, HS.out⟩
        have hy' : (Instr.yield l #[.agg #[.int .u8 (t.toNat : Int), .string (str v)], .int .i64 0]).run Tryd.prog (w2.alloc (.cells #[.int .u8 (t.toNat : Int), .string (str v)] 58)) = _ := hy
        clear hy
        rw [hy']
        gi_wp2
        refine hR.mono ?_
        rintro e W3 (⟨rfl, hJ4⟩ | ⟨rfl, hJ4⟩)
        · have HJ4 := Lib.hid hJ4
          clear hJ4 hy' hR
          gi_wp2
          go_roundw
          case rel => exact ⟨_, q, rfl, hql2, HS.out, HJ4.out⟩
          case measure => exact HM.out
        · have HJ4 := Lib.hid hJ4
          clear hJ4 hy' hR
          gi_wp2
          refine calmly_ret ?_
          refine bodyPost_ret (results_none rfl _ _ _) rfl ?_
          exact ⟨⟨_, rfl⟩, .inr ⟨_, ⟨_, HS.out⟩, HJ4.out⟩⟩

/-- The iterator, as a loop's law wants it. -/
theorem things_hands (Bs : Nat) (s0 : List UInt8) (hs : s0.length ≤ 9223372036854775807) (w : World) (hBw : Bs < w.heap.size) (hB : w.cell? ⟨Bs, 0, none⟩ = some (sv s0)) :
    HandsO Fence.wide 2 Tryd.prog 60 #[.pointer (some ⟨Bs, 0, none⟩)] teV (fun _ _ => True) (fun pre x => (pre ++ [x]) <+: seqL s0) (fun xs => xs = seqL s0) (fun pre => pre <+: seqL s0) w := by
  intro l J Jx W hb hJ hJx hY h0
  refine things1_in l Bs s0 hs J Jx W hJ (fun pre x W1 hj hp => ?_) ((hb.cell (p := ⟨Bs, 0, none⟩) hBw).trans hB) h0
  refine (hY pre x W1 hj hp).mono ?_
  rintro e W2 ⟨_, h | h⟩
  · exact .inl h
  · exact .inr h
end Go.Proofs.YtamlblfhjpajhaaDoor
