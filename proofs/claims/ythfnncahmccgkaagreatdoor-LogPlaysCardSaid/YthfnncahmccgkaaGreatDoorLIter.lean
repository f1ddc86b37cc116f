/-
  The iterator over the records of a half ('recordsOf'): its contract, in the form of a loop over an iterator.
-/
import Derived.RangeFuncNested
import Derived.RangeFuncBound
import Derived.RangeFuncCalls
import Derived.RangeFuncLeaves
import Derived.Shelf.Abstract
import Derived.Shelf.RegionOpen
import Derived.OwnWalkIn
import Derived.TacticsInMore
import Derived.LoopNIn
import Derived.LoopIn
import Derived.Sort.QuietIn
import Derived.Test.YthfnncahmccgkaaGreatDoorLPure
import Derived.Test.YthfnncahmccgkaaGreatDoorFJnM
import Derived.Test.YthfnncahmccgkaaGreatDoorFApp
namespace Go.Proofs.YthfnncahmccgkaaGreatDoor
set_option linter.unusedSimpArgs false
set_option linter.unusedVariables false
open Go Go.RowKit Go.Shelf
set_option maxRecDepth 100000
attribute [local go_sem] Oper.semAt_some

/-- A body that ends, or returns, and never panics. -/
def calmly (Q : Exit → Act → World → Prop) : Exit → Act → World → Prop
  | .normal, a, w => Q .normal a w
  | .ret, a, w => Q .ret a w
  | _, _, _ => False
theorem calmly_ret {Q : Exit → Act → World → Prop} {a : Act} {w : World} (h : Q .ret a w) : calmly Q .ret a w := h
theorem wpIn_calmly {F : Fence} {n : Nat} {P : Program} {c : Code} {Q : Exit → Act → World → Prop} {a : Act} {w : World} (h : c.wpIn F n P (calmly Q) a w) : c.wpIn F n P Q a w :=
  wpIn_mono h fun e _ _ hq => match e, hq with
    | .normal, h => h
    | .ret, h => h
    | .panic _, h => h.elim
    | .outgrown, h => h.elim
    | .exit _, h => h.elim
    | .goto _, h => h.elim
theorem grown_below {w w' : World} (h : Below w.heap.size w w') (row : Option Nat) : w.grownBy w' row := ⟨h.os, h.tape, h.output, h.size, fun k hk _ => h.block k hk⟩

theorem joinN_le {l : List (List UInt8)} {a p : Int} (h : joinB l a p = true) : 1 ≤ joinN l a p ∧ joinN l a p ≤ l.length := by
  have hj := joinB_iff.1 h
  obtain ⟨_, _, h3⟩ := joinB_true hj
  rw [h3]
  have h1 := manyN_pos (fstLong l)
  refine ⟨by rw [hj.1]; exact h1, ?_⟩
  have h4 := hj.2.1 (fstN l - 1) (by rw [hj.1]; omega)
  obtain ⟨x, hx, _⟩ := partB_iff.1 h4
  have := (List.getElem?_eq_some_iff.1 hx).1
  rw [hj.1] at this ⊢
  omega
/-- What has come, and what is left from place p on. -/
def CameR (l : List (List UInt8)) (age : Nat) (pre : List (List UInt8)) (p : Nat) : Prop := ∃ f, l.length + 1 ≤ p + f ∧ pre ++ recsF l age f p = recs l age
theorem CameR.start (l : List (List UInt8)) (age : Nat) : CameR l age [] 0 := ⟨l.length + 1, by omega, rfl⟩
theorem CameR.no {l : List (List UInt8)} {age : Nat} {pre : List (List UInt8)} {p : Nat} (h : CameR l age pre p) (hp : p ≤ l.length) (hj : joinB (l.drop p) age p = false) : pre = recs l age := by
  obtain ⟨f, hf, he⟩ := h
  obtain ⟨g, rfl⟩ : ∃ g, f = g + 1 := ⟨f - 1, by omega⟩
  rw [recsF, if_neg (by rw [hj]; simp)] at he
  simpa using he
theorem CameR.yes {l : List (List UInt8)} {age : Nat} {pre : List (List UInt8)} {p : Nat} (h : CameR l age pre p) (hp : p ≤ l.length) (hj : joinB (l.drop p) age p = true) :
    pre.length < (recs l age).length ∧ (pre ++ [joinT (l.drop p) age p]) <+: recs l age ∧ CameR l age (pre ++ [joinT (l.drop p) age p]) (p + joinN (l.drop p) age p) := by
  obtain ⟨f, hf, he⟩ := h
  obtain ⟨g, rfl⟩ : ∃ g, f = g + 1 := ⟨f - 1, by omega⟩
  rw [recsF, if_pos hj] at he
  obtain ⟨h1, _⟩ := joinN_le hj
  refine ⟨by rw [← he]; simp, ⟨recsF l age g (p + joinN (l.drop p) age p), by rw [← he]; simp⟩, g, by omega, by rw [← he]; simp⟩

theorem slice_rowN {W : World} (A : Option Addr) (n c i : Nat) (hi : i ≤ n) :
    (Instr.slice 26 (.slice A n c) (some (.int .i64 i)) none none).run Tryz.prog W = .ok (.slice (fromA A i c) (n - i) (c - i)) W := by
  cases A with
  | some a => exact slice_row _ _ _ _ hi (by simp)
  | none =>
    obtain ⟨ti, hti, hs1⟩ := Option.map_eq_some_iff.1 (show (Tryz.prog.info? 9).map (·.size) = some 1 by kernel_rfl)
    have h1 : (i : Int) ≤ (n : Int) := by omega
    simp [Instr.slice, run_underlying Tryz.underlying26, Instr.sliceBounds, run_sliceBound, asIntOf, h1, hi, Int.toNat_natCast, Result.andThen, sizeOf, typeInfo, hti, hs1, fromA]

set_option maxHeartbeats 4000000 in
theorem records1_in (l b1 b2 : Nat) (A : Option Addr) (c : Nat) (L : List (List UInt8)) (age : Nat) (hL : L.length ≤ 1024) (hc : L.length ≤ c) (hx : ∀ x ∈ L, x.length ≤ 9223372036854775807)
    (PR : World → Prop) (Kp : World → World → Prop) (hPR : ∀ W, PR W → W.cell? ⟨b1, 0, none⟩ = some (.slice A L.length c) ∧ W.cell? ⟨b2, 0, none⟩ = some (.int .i64 (age : Int)) ∧ Tx W A L)
    (hPb : ∀ W W', PR W → Below W.heap.size W W' → PR W') (hPk : ∀ W W', PR W → Kp W W' → PR W') (J Jx : List (List UInt8) → World → Prop) (W : World) (hJ : AbidesFrom W.heap.size J)
    (hY : ∀ pre x W1, J pre W1 → pre.length < (recs L age).length → YieldAt Fence.wide 1 Tryz.prog l #[sv x] W1 fun e W' =>
      (e = .returned (.bool true) ∧ J (pre ++ [x]) W' ∧ Kp W1 W') ∨ (e = .returned (.bool false) ∧ Jx (pre ++ [x]) W'))
    (hW : PR W) (h0 : J [] W) :
    CallsIn Fence.wide 2 Tryz.prog 63 #[.func (.yield l) #[] #[], .pointer (some ⟨b1, 0, none⟩), .pointer (some ⟨b2, 0, none⟩)] W fun e W' => (∃ v, e = .returned v) ∧ ((∃ xs, xs = recs L age ∧ J xs W') ∨ (∃ pre, pre <+: recs L age ∧ Jx pre W')) := by
  have HJB := Lib.hid (fun pre (X Y : World) (h : J pre X) (hb : Below X.heap.size X Y) => hJ pre X Y none h (grown_below hb none) (fun r e => by cases e))
  have HYY := Lib.hid hY
  have H0 := Lib.hid h0
  have HW := Lib.hid hW
  have HPR := Lib.hid hPR
  have HPB := Lib.hid hPb
  have HPK := Lib.hid hPk
  have SLR := Lib.hid (fun W p (hp : p ≤ L.length) => @slice_rowN W A L.length c p hp)
  have JA := Lib.hid (fun W p (hp : p ≤ L.length) (hT : Tx W A L) => show Calls Tryz.prog 64 #[.slice (fromA A p c) (L.length - p) (c - p), .int .i64 (age : Int), .int .i64 (p : Int)] W (JoPost W (L.drop p) age p) from by
    have := @join_any W (L.drop p) (fromA A p c) (c - p) (age : Int) (p : Int) (hT.drop hc) (fun x hx' => hx x (List.mem_of_mem_drop hx')) (by rw [List.length_drop]; omega) (by omega) (by omega)
    rwa [List.length_drop] at this)
  clear hJ hY h0 hW hPR hPb hPk hx
  have hmx : Tryz.prog.follows .mixedOrders = true := by kernel_rfl
  refine callsIn_of_wp Tryz.func63 rfl trivial (wpIn_calmly ?_) rfl
  simp only [Tryz.ntmps63, List.size_toArray, List.length_cons, List.length_nil, Nat.reduceAdd, Nat.reduceSub, Array.replicate_succ, Array.replicate_zero, List.push_toArray, List.append_toArray, List.nil_append, List.cons_append]
  gi_wp2
  gi_loopw [4] (fun r wr => ∃ (pre : List (List UInt8)) (p : Nat), r = .int .i64 (p : Int) ∧ p ≤ L.length ∧ CameR L age pre p ∧ J pre wr ∧ PR wr) (fun r _ => L.length - (RowKit.intOf r).toNat)
  case atStart => exact ⟨[], 0, rfl, Nat.zero_le _, CameR.start L age, H0.out, HW.out⟩
  case round =>
    obtain ⟨pre, p, rfl, hp, hcome, hj, hpr⟩ := hrel
    have HC := Lib.hid hcome
    have HJ := Lib.hid hj
    have HP := Lib.hid hpr
    obtain ⟨c1, c2, htx⟩ := HPR.out wr hpr
    have SL := fun W => SLR.out W p hp
    have JP := fun X (hb : Below wr.heap.size wr X) => JA.out X p hp (htx.below hb)
    clear hcome hj hpr htx
    cases hjb : joinB (L.drop p) age p with
    | false =>
      have HE := Lib.hid (HC.out.no hp hjb)
      obtain ⟨_, e2, e3⟩ := joinB_false (l := L.drop p) (a := (age : Int)) (p := (p : Int)) (fun h => by rw [joinB_iff.2 h] at hjb; cases hjb)
      have JQ := fun X (hb : Below wr.heap.size wr X) => show Calls Tryz.prog 64 #[.slice (fromA A p c) (L.length - p) (c - p), .int .i64 (age : Int), .int .i64 (p : Int)] X (fun e w' => e = .returned (.tuple #[sv [], .int .i64 0, .bool false]) ∧ Below X.heap.size X w') from by
        have := JP X hb
        unfold JoPost at this
        rw [hjb, e2, e3] at this
        exact this
      clear JP hjb e2 e3
      gi_wp2_with fail
      gi_region_with_o (refine ⟨trivial, ?_⟩; gi_at_call 64; refine (callsIn_wide.2 (JQ _ (Below.refl _ _).drew)).mono ?_; rintro e w9 ⟨rfl, hb9⟩)
      all_goals
        simp only [List.getElem_toArray, List.getElem_cons_zero, List.getElem_cons_succ, Act.put, List.setIfInBounds_toArray, List.set_cons_zero, List.set_cons_succ]
        gi_wp2
        refine ⟨fun _ _ => trivial, ?_⟩
        gi_wp2
        refine calmly_ret ?_
        refine bodyPost_ret (results_none rfl _ _ _) rfl ?_
        exact ⟨⟨_, rfl⟩, .inl ⟨pre, HE.out, HJB.out _ _ _ HJ.out ⟨hb9.os, hb9.tape, hb9.output, hb9.size, hb9.block⟩⟩⟩
    | true =>
      obtain ⟨hlt, hpre, hnx⟩ := HC.out.yes hp hjb
      obtain ⟨hn1, hn2⟩ := joinN_le hjb
      rw [List.length_drop] at hn2
      have JQ := fun X (hb : Below wr.heap.size wr X) => show Calls Tryz.prog 64 #[.slice (fromA A p c) (L.length - p) (c - p), .int .i64 (age : Int), .int .i64 (p : Int)] X (fun e w' => e = .returned (.tuple #[sv (joinT (L.drop p) age p), .int .i64 (joinN (L.drop p) age p), .bool true]) ∧ Below X.heap.size X w') from by
        have := JP X hb
        unfold JoPost at this
        rw [hjb] at this
        exact this
      generalize joinT (L.drop p) age p = T at hpre hnx JQ
      generalize joinN (L.drop p) age p = n at hn1 hn2 hnx JQ
      have HN := Lib.hid hnx
      have HPRE := Lib.hid hpre
      have HLT := Lib.hid hlt
      have hw : IntKind.i64.wrap ((p : Int) + (n : Int)) = ((p + n : Nat) : Int) := by rw [IntWalk.i64_in _ (by omega)]; push_cast; rfl
      clear JP hjb hnx hpre hlt
      gi_wp2_with fail
      gi_region_with_o (refine ⟨trivial, ?_⟩; gi_at_call 64; refine (callsIn_wide.2 (JQ _ (Below.refl _ _).drew)).mono ?_; rintro e w9 ⟨rfl, hb9⟩)
      all_goals
        simp only [List.getElem_toArray, List.getElem_cons_zero, List.getElem_cons_succ, Act.put, List.setIfInBounds_toArray, List.set_cons_zero, List.set_cons_succ]
        obtain ⟨fn, tmps, assign, body, hy, hR⟩ := HYY.out pre T w9 (HJB.out _ _ _ HJ.out ⟨hb9.os, hb9.tape, hb9.output, hb9.size, hb9.block⟩) HLT.out
        gi_wp2
        refine hR.mono ?_
        rintro e W3 (⟨rfl, hJ3, hk3⟩ | ⟨rfl, hJ3⟩)
        · have HJ3 := Lib.hid hJ3
          have HP3 := Lib.hid (HPK.out _ _ (HPB.out _ _ HP.out ⟨hb9.os, hb9.tape, hb9.output, hb9.size, hb9.block⟩) hk3)
          clear hJ3 hk3
          gi_wp2
          go_roundw
          case rel => exact ⟨pre ++ [T], p + n, rfl, by omega, HN.out, HJ3.out, HP3.out⟩
          case measure => simp [RowKit.intOf]; omega
        · have HJ3 := Lib.hid hJ3
          clear hJ3
          gi_wp2
          refine calmly_ret ?_
          refine bodyPost_ret (results_none rfl _ _ _) rfl ?_
          exact ⟨⟨_, rfl⟩, .inr ⟨_, HPRE.out, HJ3.out⟩⟩

/-- The iterator, as a loop's law wants it. -/
theorem records_stops (b1 b2 : Nat) (A : Option Addr) (c : Nat) (L : List (List UInt8)) (age : Nat) (hL : L.length ≤ 1024) (hc : L.length ≤ c) (hx : ∀ x ∈ L, x.length ≤ 9223372036854775807)
    (PR : World → Prop) (Kp : World → World → Prop) (hPR : ∀ W, PR W → W.cell? ⟨b1, 0, none⟩ = some (.slice A L.length c) ∧ W.cell? ⟨b2, 0, none⟩ = some (.int .i64 (age : Int)) ∧ Tx W A L)
    (hPb : ∀ W W', PR W → Below W.heap.size W W' → PR W') (hPk : ∀ W W', PR W → Kp W W' → PR W') (w : World) (hw : PR w) :
    SeqStopsK Fence.wide 2 Tryz.prog 63 #[.pointer (some ⟨b1, 0, none⟩), .pointer (some ⟨b2, 0, none⟩)] (fun x : List UInt8 => #[sv x]) Kp (fun xs => xs = recs L age) (fun pre => pre <+: recs L age) (recs L age).length w :=
  fun l J Jx W hW hJ _ hY h0 => records1_in l b1 b2 A c L age hL hc hx PR Kp hPR hPb hPk J Jx W hJ hY (hPb w W hw hW) h0
theorem recordsOf_any (w : World) (A : Option Addr) (n c : Nat) (a : Int) : Calls Tryz.prog 39 #[.slice A n c, .int .i64 a] w fun e w' =>
    e = .returned (.func (.func 63) #[] #[.pointer (some ⟨w.heap.size, 0, none⟩), .pointer (some ⟨w.heap.size + 1, 0, none⟩)]) ∧ w' = (w.alloc (.cells #[.slice A n c] 26)).alloc (.cells #[.int .i64 a] 3) := by
  go_enter Tryz.func39, Tryz.ntmps39
  go_wp2
  go_ret
  exact ⟨by simp, rfl⟩
end Go.Proofs.YthfnncahmccgkaaGreatDoor
