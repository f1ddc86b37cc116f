/-
  Package line's Cut: the iterator over a text's lines ('cuts'), and what Cut tells: what 'run' tells of the text where no line is too long. The text has at most 2000000 bytes; the library's variable MaxLen holds some number.
-/
import Derived.RangeFuncNested
import Derived.RangeFuncBound
import Derived.RangeFuncCalls
import Derived.Shelf.Abstract
import Derived.Shelf.RegionOpen
import Derived.OwnWalkIn
import Derived.TacticsInMore
import Derived.LoopNIn
import Derived.LoopIn
import Derived.Maps.AppendAt
import Derived.BigRegion
import Derived.Test.YtkffdhdhjfbhjaaDoorLnIter
import Derived.Test.YtkffdhdhjfbhjaaDoorShelf
namespace Go.Proofs.YtkffdhdhjfbhjaaDoor
open Go Go.RowKit Go.Shelf
set_option maxRecDepth 100000
attribute [local go_sem] Oper.semAt_some
theorem clone_any (s : ByteArray) (w : World) (hlim : s.size ≤ 281474976710656) :
    Calls Tryd.prog 47 #[.string s] w fun e w' => e = .returned (.string s) ∧ Below w.heap.size w w' := by
  go_enter Tryd.func47, Tryd.ntmps47
  go_wp2_with (go_at_call 62; refine (Tryd.stringslite_Clone _ _ hlim).mono ?_; rintro e w' ⟨rfl, hb⟩)
  go_ret
  exact ⟨rfl, hb⟩

theorem cuts_any (s : ByteArray) (m : Nat) (w : World) :
    Calls Tryd.prog 46 #[.string s, .int .i64 m] w fun e w' => e = .returned (.func (.func 60) #[] #[.pointer (some ⟨w.heap.size, 0, none⟩), .pointer (some ⟨w.heap.size + 1, 0, none⟩)]) ∧ w' = (w.alloc (.cells #[.string s] 9)).alloc (.cells #[.int .i64 m] 3) := by
  go_enter Tryd.func46, Tryd.ntmps46
  go_wp2
  go_ret
  exact ⟨rfl, rfl⟩




/-- The library's variable holds some number. -/
def ML (w : World) : Prop := ∃ m : Int, w.cell? ⟨0, 0, none⟩ = some (.int .i64 m)

/-- The iterator's state: the text that is left. -/
def St (Bs m : Nat) (t : List UInt8) (w : World) : Prop :=
  w.heap[Bs]? = some (.cells #[.string (str t)] 9 (0, 0)) ∧ w.heap[Bs + 1]? = some (.cells #[.int .i64 m] 3 (0, 0)) ∧ ML w ∧ t.length ≤ 4000000

/-- One step of it: the line that it hands over, and the text behind. -/
def Nx (m : Nat) (t : List UInt8) (x : List UInt8 × List UInt8) (t' : List UInt8) : Prop :=
  ∃ i : Nat, Lib.index (t.take m) [13, 10] = i ∧ x = (t.take i, t') ∧ t' = t.drop (i + 2)

def Fin (m : Nat) (t : List UInt8) : Prop := Lib.index (t.take m) [13, 10] = -1

/-- How much is left: for the measure. -/
def leftOf (Bs : Nat) (w : World) : Nat := match w.cell? ⟨Bs, 0, none⟩ with
  | some (.string s) => s.size
  | _ => 0

theorem leftOf_eq {Bs m : Nat} {t : List UInt8} {w : World} (h : St Bs m t w) : leftOf Bs w = t.length := by
  unfold leftOf
  rw [cellAt h.1]
  simp [ByteArray.size]

theorem cut_miss {p : List UInt8} (h : Lib.index p [13, 10] = -1) : Lib.cut p [13, 10] = (p, [], false) := by
  unfold Lib.cut
  rw [h, if_neg (by omega)]
theorem cut_found {p : List UInt8} {i : Nat} (h : Lib.index p [13, 10] = i) : Lib.cut p [13, 10] = (p.take i, p.drop (i + 2), true) := by
  unfold Lib.cut
  rw [h, if_pos (by omega)]
  rfl

theorem cut_call (p : List UInt8) (mx : Int) (w : World) (n : Nat) (hp : p.length ≤ 4000000) (hm : w.cell? ⟨0, 0, none⟩ = some (.int .i64 mx)) (a b : List UInt8) (c : Bool) (h : Lib.cut p [13, 10] = (a, b, c)) :
    CallsIn Fence.wide n Tryd.prog 61 #[.string (str p), .string { data := #[13, 10] }] w fun e w' => e = .returned (.tuple #[.string (str a), .string (str b), .bool c]) ∧ ∃ n, w' = w.drewN n := by
  have := Tryd.strings_Cut (str p) { data := #[13, 10] } mx w (by simp [ByteArray.size]; omega) hm
  have e1 : (str p).data.toList = p := by simp
  have e2 : (⟨#[13, 10]⟩ : ByteArray).data.toList = [13, 10] := rfl
  rw [e1, e2, h] at this
  exact callsIn_wide.2 this

theorem grownBy_drewN (w : World) (n : Nat) (row : Option Nat) : w.grownBy (w.drewN n) row := ⟨rfl, rfl, rfl, Nat.le_refl _, fun _ _ _ => rfl⟩

theorem St.drewN {Bs m : Nat} {t : List UInt8} {w : World} (h : St Bs m t w) (n : Nat) : St Bs m t (w.drewN n) := h

theorem St.store {Bs m : Nat} {t t' : List UInt8} {w : World} (h : St Bs m t w) (h0 : 0 < Bs) (hl : t'.length ≤ t.length) : St Bs m t' (w.setCell ⟨Bs, 0, none⟩ (.string (str t'))) := by
  obtain ⟨h1, h2, ⟨mx, h3⟩, h4⟩ := h
  refine ⟨by rw [heap_setCell_same _ _ _ _ _ _ h1]; rfl, by rw [heap_setCell_other _ _ _ _ (by simp)]; exact h2, ⟨mx, ?_⟩, by omega⟩
  rw [World.cell?_setCell_other w _ _ _ (by intro e; simp at e <;> omega)]
  exact h3

set_option maxRecDepth 100000 in
set_option maxHeartbeats 1000000 in
theorem cuts1_in (l Bs m : Nat) (J : List UInt8 → World → Prop) (W : World) (t0 : List UInt8) (h0B : 0 < Bs)
    (hJ : ∀ s W1 W2, J s W1 → W1.grownBy W2 (some Bs) → J s W2)
    (hY : ∀ s x s' W1, Nx m s x s' → J s W1 → St Bs m s' W1 → YieldAt Fence.wide 1 Tryd.prog l #[.string (str x.1), .string (str x.2)] W1 fun e W2 => e = .returned (.bool true) ∧ J s' W2 ∧ St Bs m s' W2)
    (h0 : J t0 W) (hS : St Bs m t0 W) :
    CallsIn Fence.wide 2 Tryd.prog 60 #[.func (.yield l) #[] #[], .pointer (some ⟨Bs, 0, none⟩), .pointer (some ⟨Bs + 1, 0, none⟩)] W fun e W' => (∃ v, e = .returned v) ∧ ∃ s, Fin m s ∧ J s W' ∧ St Bs m s W' := by
  refine callsIn_of_wp Tryd.func60 rfl trivial ?_ rfl
  simp only [Tryd.ntmps60, List.size_toArray, List.length_cons, List.length_nil, Nat.reduceAdd, Nat.reduceSub, Array.replicate_succ, Array.replicate_zero, List.push_toArray, List.append_toArray, List.nil_append, List.cons_append]
  gi_wp2
  gi_loopw [4] (fun _ wr => ∃ t, J t wr ∧ St Bs m t wr) (fun _ wr => leftOf Bs wr)
  case atStart => exact ⟨t0, h0, hS⟩
  case round =>
    obtain ⟨t, hj, hst⟩ := hrel
    have hst' := hst
    obtain ⟨hB, hM, ⟨mx, hmx⟩, hlen⟩ := hst
    have c0 : wr.cell? ⟨Bs, 0, none⟩ = some (.string (str t)) := by rw [cellAt hB]; rfl
    have c1 : wr.cell? ⟨Bs + 1, 0, none⟩ = some (.int .i64 m) := by rw [cellAt hM]; rfl
    have f0 := freeAt hB 0
    have HB := Lib.hid hB
    have HM := Lib.hid hM
    have HJ := Lib.hid hj
    have HS := Lib.hid hst'
    clear hB hM hj hst'
    have e0 : (str t).extract 0 (min (t.length : Int) (m : Int)).toNat = str (t.take m) := by
      rw [str_extract, List.drop_zero]
      congr 1
      rcases Nat.le_total t.length m with h | h
      · rw [show (min (t.length : Int) (m : Int)).toNat = t.length by omega, List.take_of_length_le (Nat.le_refl _), List.take_of_length_le h]
      · rw [show (min (t.length : Int) (m : Int)).toNat = m by omega]
    have E0 := Lib.hid e0
    clear e0
    rcases Lib.index_spec (t.take m) [13, 10] with ⟨hix, _⟩ | ⟨i, hix, _⟩
    · have hcut := Lib.hid (cut_miss hix)
      have HX := Lib.hid hix
      clear hix
      gi_wp2_with (refine ⟨trivial, ?_⟩; gi_at_call 61; rw [E0.out]; refine (cut_call _ _ _ _ (by simp; omega) hmx _ _ _ hcut.out).mono ?_; rintro e w' ⟨rfl, n, rfl⟩)
      refine bodyPost_ret (results_none rfl _ _ _) rfl ?_
      exact ⟨⟨_, rfl⟩, t, HX.out, hJ _ _ _ HJ.out (grownBy_drewN _ _ _), HS.out.drewN n⟩
    · have hl2 : i + 2 ≤ (t.take m).length := (hit_of_index hix).2.2
      rw [List.length_take] at hl2
      have hc := cut_found hix
      rw [List.take_take, Nat.min_eq_left (by omega)] at hc
      obtain ⟨a, ha⟩ : ∃ a, a = t.take i := ⟨_, rfl⟩
      obtain ⟨r, hr⟩ : ∃ r, r = t.drop (i + 2) := ⟨_, rfl⟩
      have hal : a.length = i := by rw [ha, List.length_take]; omega
      have hnx : Nx m t (a, r) r := ⟨i, hix, by rw [ha], hr⟩
      rw [← ha] at hc
      have e1 : (str t).extract (a.length + 2) t.length = str r := by
        rw [str_extract, List.take_of_length_le (Nat.le_refl _), hal, hr]
      have hrl : r.length ≤ t.length := by rw [hr, List.length_drop]; omega
      have hb1 : a.length + 2 ≤ t.length := by omega
      have hcut := Lib.hid hc
      have HX := Lib.hid hix
      have E1 := Lib.hid e1
      have HA := Lib.hid hal
      have HR := Lib.hid hr
      clear hix hc e1 hal ha hr
      gi_wp2_with (refine ⟨trivial, ?_⟩; gi_at_call 61; rw [E0.out]; refine (cut_call _ _ _ _ (by simp; omega) hmx _ _ _ hcut.out).mono ?_; rintro e w' ⟨rfl, n, rfl⟩)
      rw [E1.out]
      have hs1 : St Bs m r ((wr.drewN n).setCell ⟨Bs, 0, none⟩ (.string (str r))) := (HS.out.drewN n).store h0B hrl
      have hj1 : J t ((wr.drewN n).setCell ⟨Bs, 0, none⟩ (.string (str r))) := hJ _ _ _ (hJ _ _ _ HJ.out (grownBy_drewN _ n _)) (grownBy_setCell' _ _ _)
      obtain ⟨fn, tmps, assign, body, hy, hR⟩ := hY t (a, r) r _ hnx hj1 hs1
      dsimp only at hy
      have hrlt : r.length < t.length := by have := HA.out; have := HR.out; rw [this, List.length_drop]; omega
      have HJ1 := Lib.hid hj1
      have HS1 := Lib.hid hs1
      clear hj1 hs1
      rw [hy]
      gi_wp2
      refine hR.mono ?_
      rintro e W3 ⟨rfl, hJ3, hS3⟩
      have HJ3 := Lib.hid hJ3
      have HS3 := Lib.hid hS3
      clear hJ3 hS3
      gi_wp2
      go_roundw
      case rel => exact ⟨r, HJ3.out, HS3.out⟩
      case measure => rw [leftOf_eq HS3.out, leftOf_eq HS.out]; exact hrlt

theorem cuts_steps (Bs m : Nat) (t0 : List UInt8) (w : World) (h0B : 0 < Bs) :
    StepsOver Fence.wide 2 Tryd.prog 60 #[.pointer (some ⟨Bs, 0, none⟩), .pointer (some ⟨Bs + 1, 0, none⟩)] (fun x : List UInt8 × List UInt8 => #[Value.string (str x.1), Value.string (str x.2)]) Bs (Nx m) (Fin m) (St Bs m) t0 w :=
  fun l J W _ hJ hY h0 hS => cuts1_in l Bs m J W t0 h0B hJ hY h0 hS

theorem St.out {Bs m B : Nat} (hB : Bs + 1 < B) {t : List UInt8} {W W' : World} {row : Option Nat} (h : St Bs m t W) (hg : W.grownBy W' row) (hr : ∀ r, row = some r → B ≤ r) : St Bs m t W' := by
  obtain ⟨h1, h2, ⟨mx, h3⟩, h4⟩ := h
  have ne : ∀ k, k < B → some k ≠ row := fun k hk e => by have := hr k e.symm; omega
  refine ⟨(hg.block _ (lt_of_block h1) (ne _ (by omega))).trans h1, (hg.block _ (lt_of_block h2) (ne _ (by omega))).trans h2, ⟨mx, ?_⟩, h4⟩
  exact hg.cell h3 (ne 0 (by omega))

/-- A body that ends, or returns, and never panics. -/
def calmly (Q : Exit → Act → World → Prop) : Exit → Act → World → Prop
  | .normal, a, w => Q .normal a w
  | .ret, a, w => Q .ret a w
  | _, _, _ => False

theorem wpIn_calmly {F : Fence} {n : Nat} {P : Program} {c : Code} {Q : Exit → Act → World → Prop} {a : Act} {w : World} (h : c.wpIn F n P (calmly Q) a w) : c.wpIn F n P Q a w :=
  wpIn_mono h fun e _ _ hq => match e, hq with
    | .normal, h => h
    | .ret, h => h
    | .panic _, h => h.elim
    | .outgrown, h => h.elim
    | .exit _, h => h.elim
    | .goto _, h => h.elim

theorem Tryd.info9 : (Tryd.prog.info? 9).map (fun i => (i.zero, i.size, i.bytes)) = some (some (.string ⟨#[]⟩), 1, 16) := by kernel_rfl


/-- The slice v is the call's own, and holds these texts. -/
def Ows (W : World) (base : Nat) (v : Value) (outs : List (List UInt8)) : Prop := W.ownsRow base 9 1 v outs.length (outs.map sv)

theorem Ows.kept {W W' : World} {base : Nat} {v : Value} {outs : List (List UInt8)} {row : Option Nat} (h : Ows W base v outs) (hg : W.grownBy W' row) (hr : ∀ r, row = some r → r < base ∨ ∃ o : Obj, W.heap[r]? = some o ∧ ∀ cs fr, o ≠ .cells cs 9 fr) : Ows W' base v outs := by
  refine World.ownsRow.kept h hg ?_
  rcases h.2 with ⟨rfl, _⟩ | ⟨g, cap, cur, rfl, hb, hgb, _⟩
  · exact .inl rfl
  · refine .inr fun e => ?_
    rcases hr g (by simpa [Value.ownBlock] using e.symm) with h1 | ⟨o, ho, hc⟩
    · omega
    · rw [hgb] at ho; exact hc _ _ (by simpa using ho.symm)

theorem Ows.lower {W : World} {base base' : Nat} {v : Value} {outs : List (List UInt8)} (h : Ows W base v outs) (hb : base' ≤ base) : Ows W base' v outs := by
  refine ⟨h.1, ?_⟩
  rcases h.2 with h | ⟨g, cap, cur, h1, h2, h3⟩
  · exact .inl h
  · exact .inr ⟨g, cap, cur, h1, by omega, h3⟩

theorem Ows.form {W : World} {base : Nat} {v : Value} {outs : List (List UInt8)} (h : Ows W base v outs) : ∃ A cap, v = .slice A outs.length cap := by
  rcases h.2 with ⟨rfl, h0⟩ | ⟨g, cap, _, rfl, _⟩
  · exact ⟨none, 0, by rw [h0]⟩
  · exact ⟨_, _, rfl⟩

/-- 'append(lines, x)'. -/
theorem append_one (W : World) (base : Nat) (v : Value) (outs : List (List UInt8)) (x : List UInt8) (hown : Ows W base v outs) (hbase : base ≤ W.heap.size) (hlen : outs.length ≤ 2000000) :
    ∃ g cap w2, (Builtin.append_ #[24, 24] 24 #[v, .slice (some ⟨W.heap.size, 0, none⟩) 1 1]).run Tryd.prog (W.alloc (.cells #[sv x] 9)) = .ok (.slice (some ⟨g, 0, none⟩) (outs.length + 1) cap) w2 ∧
      Ows w2 base (.slice (some ⟨g, 0, none⟩) (outs.length + 1) cap) (outs ++ [x]) ∧ W.grownBy w2 v.ownBlock ∧ base ≤ g := by
  obtain ⟨i0, hi, hz0, hz1, hz2⟩ := info_parts Tryd.info9
  obtain ⟨v', w2, hrun, hown2, hgrow, _⟩ := run_append_own (P := Tryd.prog) (W.alloc (.cells #[sv x] 9)) base 24 24 9 i0 (.string ⟨#[]⟩) 1 16 Tryd.underlying24 hi hz0 hz1 hz2 rfl (by decide) v outs.length (outs.map sv) (World.ownsRow.alloc hown _)
    ⟨W.heap.size, 0, none⟩ 1 1 [sv x] rfl (cell_one_new _ _ _) (by simp [Value.oneCell']) (by unfold maxLen; omega) (by omega) (by simp; omega)
  obtain ⟨g, cap, rfl⟩ := ownsRow_succ hown2
  refine ⟨g, cap, w2, hrun, ?_, ?_, ?_⟩
  · unfold Ows
    simpa using hown2
  · exact ⟨hgrow.os, hgrow.tape, hgrow.output, Nat.le_trans (by simp) hgrow.size, fun k hk hne => (hgrow.block k (by simp; omega) hne).trans (Below.heap_alloc _ _ _ hk)⟩
  · rcases hown2.2 with ⟨h, _⟩ | ⟨g', c', _, h, hb, _⟩
    · cases h
    · have : g = g' ∧ cap = c' := by simpa using h
      omega

/-- An append in a region that draws its order, where its run is known. -/
theorem stepIn_append {F : Fence} {n : Nat} {P : Program} {ops : Array Oper} {o : Oper} {a : Act} {w w' : World} {K : Act → World → Prop} {Q : Exit → Act → World → Prop} {E : Prop} {v v' xv : Value}
    (hg : o.guard = none) (s x : Operand) (t : TypeId) (hop : o.op = Op.call { callee := Callee.builtin Builtin.append, args := #[s, x], argTypes := #[t, t] }) (hs : a.eval s = v) (hx : a.eval x = xv)
    (hrun : (Builtin.append_ #[t, t] o.type #[v, xv]).run P w = .ok v' w') (hK : K (a.put o.dst v') w') :
    if Region.wanted o (yielded ops a.tmps) = true then Oper.wpIn F n P o a w K Q else E := by
  have hw : Region.wanted o (yielded ops a.tmps) = true := by simp [Region.wanted, hg]
  rw [if_pos hw]
  unfold Oper.wpIn
  refine ⟨?_, ?_⟩
  · simp [Oper.about, hop, resolve, Target.leads, Sem.run_pure]
  · rw [Oper.semAt_plain F _ _ (by rw [hop]; intro c hc'; cases hc')]
    simp [execOp, hop, resolve, invoke, builtin, hs, hx, hrun, Result.andThen]
    exact hK

/-- Between two rounds of Feed's loop: n0 blocks lay at its call. -/
def FeedI (w0 : World) (m : Nat) (T t : List UInt8) (W : World) : Prop :=
  ∃ v outs, Boxed W w0.heap.size 24 v ∧ Boxed W (w0.heap.size + 1) 9 (sv t) ∧ Ows W (w0.heap.size + 4) v outs ∧ run m [] T = (outs ++ (run m [] t).1, (run m [] t).2) ∧ outs.length + t.length ≤ T.length ∧ Below w0.heap.size w0 W

theorem FeedI.kept {w0 : World} {m : Nat} {T t : List UInt8} {W W' : World} {row : Option Nat} (h : FeedI w0 m T t W) (hg : W.grownBy W' row) (hr : mayTurn (w0.heap.size + 4) (w0.heap.size + 2) W row) : FeedI w0 m T t W' := by
  obtain ⟨v, outs, h1, h2, h3, h4, h5, h6⟩ := h
  have ne : ∀ k, k < w0.heap.size + 2 → some k ≠ row := fun k hk e => by rcases hr k e.symm with h | ⟨h, _⟩ <;> omega
  refine ⟨v, outs, h1.kept hg (ne _ (by omega)), h2.kept hg (ne _ (by omega)), h3.kept hg fun r e => ?_, h4, h5, h6.grown hg h6.size fun k e => ?_⟩
  · rcases hr r e with h | ⟨_, o, ho, hc⟩
    · exact .inl (by omega)
    · refine .inr ⟨o, ho, fun cs fr e => ?_⟩
      rw [e] at hc; cases hc
  · rcases hr k e with h | ⟨h, _⟩ <;> omega

theorem grownBy_of_below {W W' : World} (h : Below W.heap.size W W') (row : Option Nat) : W.grownBy W' row := ⟨h.os, h.tape, h.output, h.size, fun k hk _ => h.block k hk⟩

/-- What a round has done to the loop's word. -/
def Done (W W' : World) (B R base : Nat) (v : Value) (t' : List UInt8) (outs : List (List UInt8)) : Prop :=
  KeepsOthers W W' ∧ Boxed W' B 24 v ∧ Boxed W' R 9 (sv t') ∧ Ows W' base v outs ∧ W.heap.size ≤ W'.heap.size ∧ W'.os = W.os ∧ W'.tape = W.tape ∧ W'.output = W.output ∧ ∀ k, k < base → k ≠ B → k ≠ R → W'.heap[k]? = W.heap[k]?

/-- A round of a loop that collects lines, over boxes B (the lines) and R (what stands behind), rows of the call's own from base on: behind Clone's call. -/
theorem round_facts {W w1 : World} {B R base : Nat} {v0 : Value} {outs : List (List UInt8)} {t t' a : List UInt8} (hBR : B < base ∧ R < base ∧ B ≠ R) (k0 : Boxed W B 24 v0) (k1 : Boxed W R 9 (sv t)) (k2 : Ows W base v0 outs) (hbase : base ≤ W.heap.size) (hlen : outs.length ≤ 2000000) (hb : Below W.heap.size W w1) :
    ∃ g cap w2, (Builtin.append_ #[24, 24] 24 #[v0, .slice (some ⟨w1.heap.size, 0, none⟩) 1 1]).run Tryd.prog (w1.alloc (.cells #[sv a] 9)) = .ok (.slice (some ⟨g, 0, none⟩) (outs.length + 1) cap) w2 ∧
      w1.cell? ⟨B, 0, none⟩ = some v0 ∧ (∀ o, (w1.alloc o).cell? ⟨B, 0, none⟩ = some v0) ∧ w2.cell? ⟨B, 0, none⟩ = some v0 ∧ w2.frozen? ⟨B, 0, none⟩ = false ∧ w2.cell? ⟨R, 0, none⟩ = some (sv t) ∧ w2.frozen? ⟨R, 0, none⟩ = false ∧
      Done W ((w2.setCell ⟨B, 0, none⟩ (.slice (some ⟨g, 0, none⟩) (outs.length + 1) cap)).setCell ⟨R, 0, none⟩ (sv t')) B R base (.slice (some ⟨g, 0, none⟩) (outs.length + 1) cap) t' (outs ++ [a]) := by
  obtain ⟨hB, hR, hne⟩ := hBR
  have hg1 := grownBy_of_below hb none
  have j0 := k0.kept hg1 (by simp)
  have j1 := k1.kept hg1 (by simp)
  have j2 := k2.kept hg1 (fun r e => by cases e)
  obtain ⟨g, cap, w2, hrun, hown2, hgrow, hbg⟩ := append_one w1 base v0 outs a j2 (Nat.le_trans hbase hb.size) hlen
  have own : ∀ j, v0.ownBlock = some j → base ≤ j ∧ ∃ cs fr, w1.heap[j]? = some (.cells cs 9 fr) := by
    intro j e
    rcases j2.2 with ⟨rfl, _⟩ | ⟨g', cap, cur, rfl, hb', hgb, _⟩
    · simp [Value.ownBlock] at e
    · obtain rfl : g' = j := by simpa [Value.ownBlock] using e
      exact ⟨hb', _, _, hgb⟩
  have i0 := j0.kept hgrow (fun e => by have := (own _ e.symm).1; omega)
  have i1 := j1.kept hgrow (fun e => by have := (own _ e.symm).1; omega)
  refine ⟨g, cap, w2, hrun, j0.cell, fun o => (j0.alloc o).cell, i0.cell, i0.frozen, i1.cell, i1.frozen, ?_, ?_, ?_, ?_, ?_, ?_, ?_, ?_, ?_⟩
  · refine (((KeepsOthers.of_grownBy hg1 fun j o e _ => by cases e).trans (KeepsOthers.of_grownBy hgrow fun j o e ho => ?_)).trans (KeepsOthers.setCell _ _ _)).trans (KeepsOthers.setCell _ _ _)
    obtain ⟨_, cs, fr, hc⟩ := own j e
    rw [hc] at ho; cases ho; rfl
  · exact (i0.set _).kept (grownBy_setCell' _ _ _) (by simpa using hne)
  · exact (i1.kept (grownBy_setCell' _ _ _) (by simpa using hne.symm)).set _
  · exact (hown2.kept (grownBy_setCell' _ _ _) (fun r e => by cases e; exact .inl hB)).kept (grownBy_setCell' _ _ _) (fun r e => by cases e; exact .inl hR)
  · simp [World.setCell]; exact Nat.le_trans hb.size hgrow.size
  · exact hgrow.os.trans hb.os
  · exact hgrow.tape.trans hb.tape
  · exact hgrow.output.trans hb.output
  · intro k hk hkB hkR
    rw [heap_setCell_other _ _ _ _ (by exact hkR), heap_setCell_other _ _ _ _ (by exact hkB), hgrow.block k (by have := hb.size; omega) (fun e => by have := (own _ e.symm).1; omega), hb.block k (by omega)]

theorem round_close {w0 W W' : World} {M m i B : Nat} {T t r : List UInt8} {v : Value} {outs : List (List UInt8)} (h : Done W W' w0.heap.size (w0.heap.size + 1) (w0.heap.size + 4) v r (outs ++ [t.take i])) (h0 : 0 < w0.heap.size)
    (hrun : run M [] T = (outs ++ (run M [] t).1, (run M [] t).2)) (hc : run M [] t = (t.take i :: (run M [] (t.drop (i + 2))).1, (run M [] (t.drop (i + 2))).2)) (hl : outs.length + t.length ≤ T.length) (hr : r = t.drop (i + 2)) (hit : i + 2 ≤ t.length)
    (hb : Below w0.heap.size w0 W) (hs : St (w0.heap.size + 2) m r W) : KeepsFrom B W W' ∧ FeedI w0 M T r W' ∧ St (w0.heap.size + 2) m r W' := by
  obtain ⟨e1, e2, e3, e4, e5, e6, e7, e8, e9⟩ := h
  refine ⟨e1.from _, ⟨_, outs ++ [t.take i], e2, e3, e4, ?_, ?_, ?_⟩, ?_⟩
  · rw [hrun, hc, hr]; simp
  · rw [hr]; simp; omega
  · exact hb.trans ⟨e6, e7, e8, e5, fun k hk => e9 k (by omega) (by omega) (by omega)⟩
  · obtain ⟨h1, h2, ⟨mx, h3⟩, h4⟩ := hs
    refine ⟨(e9 _ (by omega) (by omega) (by omega)).trans h1, (e9 _ (by omega) (by omega) (by omega)).trans h2, ⟨mx, ?_⟩, h4⟩
    exact (World.cell?_of_block (e9 0 (by omega) (by omega) (by omega))).trans h3

theorem grownBy_cell (W : World) (b i : Nat) (v : Value) : W.grownBy (W.setCell ⟨b, i, none⟩ v) (some b) :=
  ⟨rfl, rfl, rfl, by simp [World.setCell], fun k _ hk => Below.heap_setCell _ _ _ k (fun e => hk (by rw [e]))⟩




/-- What Cut of a text leaves. -/
def CutPost (w : World) (s : List UInt8) (e : Ending) (w' : World) : Prop :=
  ∃ v, e = .returned (.tuple #[v, sv (run (s.length + 1) [] s).2.1]) ∧ Below w.heap.size w w' ∧ Ows w' w.heap.size v (run (s.length + 1) [] s).1

theorem cut_world {w W w1 : World} {D cap0 : Nat} {s t : List UInt8} {A0 : Option Addr} {outs : List (List UInt8)} (hb : Below w.heap.size w W) (hD : w.heap.size + 4 ≤ D) (hDW : W.heap[D]? = some (.deferred (some [])))
    (k0 : Boxed W w.heap.size 24 (.slice A0 outs.length cap0)) (k1 : Boxed W (w.heap.size + 1) 9 (sv t)) (k2 : Ows W (w.heap.size + 4) (.slice A0 outs.length cap0) outs) (hb1 : Below W.heap.size W w1) (hrun : run (s.length + 1) [] s = (outs, t, false)) :
    ((w1.setCell ⟨w.heap.size, 0, none⟩ (.slice A0 outs.length cap0)).setCell ⟨w.heap.size + 1, 0, none⟩ (sv t)).heap[D]? = some (.deferred (some [])) ∧
    (((w1.setCell ⟨w.heap.size, 0, none⟩ (.slice A0 outs.length cap0)).setCell ⟨w.heap.size + 1, 0, none⟩ (sv t)).putObj D (.deferred none)).cell? ⟨w.heap.size, 0, none⟩ = some (.slice A0 outs.length cap0) ∧
    (((w1.setCell ⟨w.heap.size, 0, none⟩ (.slice A0 outs.length cap0)).setCell ⟨w.heap.size + 1, 0, none⟩ (sv t)).putObj D (.deferred none)).cell? ⟨w.heap.size + 1, 0, none⟩ = some (sv t) ∧
    CutPost w s (.returned (.tuple #[.slice A0 outs.length cap0, sv t])) (((w1.setCell ⟨w.heap.size, 0, none⟩ (.slice A0 outs.length cap0)).setCell ⟨w.heap.size + 1, 0, none⟩ (sv t)).putObj D (.deferred none)) := by
  obtain ⟨X, hX⟩ : ∃ X, X = (w1.setCell ⟨w.heap.size, 0, none⟩ (.slice A0 outs.length cap0)).setCell ⟨w.heap.size + 1, 0, none⟩ (sv t) := ⟨_, rfl⟩
  have g1 := grownBy_of_below hb1 none
  have e0 := (k0.kept g1 (by simp)).set (.slice A0 outs.length cap0)
  have e1 := (k1.kept g1 (by simp)).kept (grownBy_cell w1 w.heap.size 0 (.slice A0 outs.length cap0)) (by simp)
  have x0 : Boxed X w.heap.size 24 (.slice A0 outs.length cap0) := by rw [hX]; exact e0.kept (grownBy_cell _ _ _ _) (by simp)
  have x1 : Boxed X (w.heap.size + 1) 9 (sv t) := by rw [hX]; exact e1.set _
  have hXs : X.heap.size = w1.heap.size := by rw [hX]; simp [World.setCell]
  have hXk : ∀ k, k < W.heap.size → k ≠ w.heap.size → k ≠ w.heap.size + 1 → X.heap[k]? = W.heap[k]? := fun k h0 h1 h2 => by
    rw [hX, heap_setCell_other _ _ _ _ (by exact h2), heap_setCell_other _ _ _ _ (by exact h1), hb1.block k h0]
  have h123 : X.os = W.os ∧ X.tape = W.tape ∧ X.output = W.output := by rw [hX]; exact ⟨hb1.os, hb1.tape, hb1.output⟩
  rw [← hX]
  have hXD : X.heap[D]? = some (.deferred (some [])) := (hXk D (lt_of_block hDW) (by omega) (by omega)).trans hDW
  refine ⟨hXD, ?_, ?_, _, by rw [hrun], ⟨h123.1.trans hb.os, h123.2.1.trans hb.tape, h123.2.2.trans hb.output, ?_, fun k hk => ?_⟩, ?_⟩
  · rw [World.cell?_of_block (w := X) (World.putObj_heap_other (by simp; omega))]; exact x0.cell
  · rw [World.cell?_of_block (w := X) (World.putObj_heap_other (by simp; omega))]; exact x1.cell
  · rw [World.putObj_size, hXs]; exact Nat.le_trans hb.size hb1.size
  · rw [World.putObj_heap_other (by omega), hXk k (by have := hb.size; omega) (by omega) (by omega), hb.block k hk]
  · rw [hrun]
    refine Ows.lower ?_ (Nat.le_add_right _ 4)
    refine ⟨k2.1, ?_⟩
    rcases k2.2 with h | ⟨g, cap, cur, e1, e2, e3, e4⟩
    · exact .inl h
    · refine .inr ⟨g, cap, cur, e1, e2, ?_, e4⟩
      rw [World.putObj_heap_other (fun e => by rw [e, hDW] at e3; cases e3), hXk g (lt_of_block e3) (by omega) (by omega), e3]

set_option maxRecDepth 100000 in
set_option maxHeartbeats 1000000 in
theorem cut_any (s : List UInt8) (w : World) (hs : s.length ≤ 2000000) (hML : ML w) (h0w : 0 < w.heap.size) :
    Calls Tryd.prog 31 #[.string (str s)] w (CutPost w s) := by
  have HM := Lib.hid hML
  have HG := Lib.hid h0w
  clear hML h0w
  refine (callsIn_wide (n := 3)).1 ?_
  refine callsIn_of_wp_marks Tryd.func31 rfl trivial (wpIn_calmly ?_) rfl
  simp only [Tryd.ntmps31, List.size_toArray, List.length_cons, List.length_nil, Nat.reduceAdd, Nat.reduceSub, Array.replicate_succ, Array.replicate_zero, List.push_toArray, List.append_toArray, List.nil_append, List.cons_append]
  have hmx : Tryd.prog.follows .mixedOrders = true := by kernel_rfl
  gi_wp2_with (refine ⟨trivial, ?_⟩; gi_at_call 46; refine (callsIn_wide.2 (cuts_any _ _ _)).mono ?_; rintro e w' ⟨rfl, rfl⟩)
  obtain ⟨Wl, hWl⟩ : ∃ Wl, Wl = (((w.alloc (.cells #[.slice none 0 0] 24)).alloc (.cells #[sv s] 9)).alloc (.cells #[sv s] 9)).alloc (.cells #[.int .i64 s.length] 3) := ⟨_, rfl⟩
  rw [← hWl]
  have hsz : Wl.heap.size = w.heap.size + 4 := by rw [hWl]; simp
  have hbel : Below w.heap.size w Wl := by rw [hWl]; exact ((((Below.refl _ w).alloc (Nat.le_refl _) _).alloc (by simp) _).alloc (by simp; omega) _).alloc (by simp; omega) _
  have b0 : Boxed Wl w.heap.size 24 (.slice none 0 0) := by rw [hWl]; exact (((Boxed.new w _ _).alloc _).alloc _).alloc _
  have b1 : Boxed Wl (w.heap.size + 1) 9 (sv s) := by rw [hWl]; have := Boxed.new (w.alloc (.cells #[.slice none 0 0] 24)) 9 (sv s); rw [World.size_alloc] at this; exact (this.alloc _).alloc _
  have b2 : Boxed Wl (w.heap.size + 2) 9 (sv s) := by rw [hWl]; have := Boxed.new ((w.alloc (.cells #[.slice none 0 0] 24)).alloc (.cells #[sv s] 9)) 9 (sv s); rw [World.size_alloc, World.size_alloc] at this; exact this.alloc _
  have b3 : Boxed Wl (w.heap.size + 3) 3 (.int .i64 s.length) := by rw [hWl]; have := Boxed.new (((w.alloc (.cells #[.slice none 0 0] 24)).alloc (.cells #[sv s] 9)).alloc (.cells #[sv s] 9)) 3 (.int .i64 s.length); rw [World.size_alloc, World.size_alloc, World.size_alloc] at this; exact this
  refine wpIn_rangeFunc_st (σ := List UInt8) (χ := List UInt8 × List UInt8) (w := Wl) rfl (by omega) (gf := 60) (lb := #[.pointer (some ⟨w.heap.size + 2, 0, none⟩), .pointer (some ⟨w.heap.size + 3, 0, none⟩)]) rfl trivial (enters_of Tryd.func60 (by kernel_rfl) rfl)
    (cuts_steps (w.heap.size + 2) s.length s Wl (by omega)) (by omega) (fun _ => rfl)
    (fun t W W' row h hg hr => h.out (B := w.heap.size + 4) (by omega) hg (fun r e => by have := (hr r e).1; omega))
    (FeedI w (s.length + 1) s) (fun t W W' row h hg hr => h.kept hg (by rw [hsz] at hr; exact hr)) ?_ ?_
    (fun x => { tmps := #[.string (str s), undef, .pointer (some ⟨w.heap.size, 0, none⟩), .pointer (some ⟨w.heap.size + 1, 0, none⟩), sv x.1, sv x.2, .string (str s), .string (str s), .string (str s), .int .i64 s.length, .func (.func 60) #[] #[.pointer (some ⟨w.heap.size + 2, 0, none⟩), .pointer (some ⟨w.heap.size + 3, 0, none⟩)], sv x.1, sv x.2, undef, undef, undef, undef, undef, undef, undef, undef, undef], defers := [] }) ?_ ?_ ?_
  · exact ⟨_, [], b0, b1, World.ownsRow_nil _ _ _ _, by simp, by simp, hbel⟩
  · obtain ⟨mx, hmx⟩ := HM.out
    exact ⟨b2, b3, ⟨mx, (hbel.cell (p := ⟨0, 0, none⟩) HG.out).trans hmx⟩, by omega⟩
  · intro l' x W K hK
    gi_wp2
    exact hK
  · rintro l' t ⟨a, r⟩ t' W hnx hI hS
    have hnx' := hnx
    obtain ⟨i, hix, hxe, hte⟩ := hnx'
    obtain ⟨rfl, rfl⟩ : a = t.take i ∧ r = t' := by simpa using hxe
    obtain ⟨v0, outs, k0, k1, k2, k3, k4, k5⟩ := hI
    have hS' := hS
    obtain ⟨hB2, hB3, hML2, hl2⟩ := hS
    have hWs : w.heap.size + 4 ≤ W.heap.size := by have := lt_of_block hB3; omega
    have hol : outs.length ≤ 2000000 := by omega
    have c0 := k0.cell
    have rf := fun w1 hb => round_facts (W := W) (w1 := w1) (B := w.heap.size) (R := w.heap.size + 1) (base := w.heap.size + 4) (t := t) (t' := r) (a := t.take i) ⟨by omega, by omega, by omega⟩ k0 k1 k2 hWs hol hb
    have hal : (str (t.take i)).size ≤ 281474976710656 := by simp [ByteArray.size]; omega
    have htk : t.take (s.length + 1) = t.take s.length := by rw [List.take_of_length_le (by omega), List.take_of_length_le (by omega)]
    have hix2 : Lib.index (t.take (s.length + 1)) [13, 10] = i := by rw [htk]; exact hix
    have hit : i + 2 ≤ t.length := by have := (hit_of_index hix).2.2; simp at this; omega
    have RF := Lib.hid rf
    have HAL := Lib.hid hal
    have HX2 := Lib.hid hix2
    have HIT := Lib.hid hit
    have HK := Lib.hid k3
    have HT := Lib.hid hte
    have HS := Lib.hid hS'
    have HB5 := Lib.hid k5
    clear rf hal hix hix2 htk hit k3 hte hS' k5 k0 k1 k2 hB2 hB3 hML2 hnx
    gi_wp2
    refine wpIn_region_any (by kernel_rfl) ?_
    change wpAnyIn _ _ _ _ _ _ _ _ _ (World.drew _)
    refine wpAnyIn_ready (rs := [0, 1]) (by kernel_rfl) (by simp) ?_
    refine AllReadyIn.cons rfl (fun K hK => ?_) (AllReadyIn.cons rfl (fun K hK => ?_) (AllReadyIn.nil))
    · go_simp
      refine hK _ _ ?_; clear hK K
      refine wpAnyIn_ready (rs := [1]) (by kernel_rfl) (by simp) ?_
      refine AllReadyIn.cons rfl (fun K hK => ?_) (AllReadyIn.nil)
      go_simp
      refine hK _ _ ?_; clear hK K
      refine wpAnyIn_ready (rs := [2]) (by kernel_rfl) (by simp) ?_
      refine AllReadyIn.cons rfl (fun K hK => ?_) (AllReadyIn.nil)
      go_simp
      refine ⟨trivial, ?_⟩
      refine (CallsIn.inRound l' (callsIn_wide.2 (clone_any _ _ HAL.out))).mono ?_
      rintro e w1 ⟨rfl, hb1⟩
      obtain ⟨g, cap, w2, hrun, d0, d0', d1, d2, d3, d4, d5⟩ := RF.out w1 ⟨hb1.os, hb1.tape, hb1.output, hb1.size, hb1.block⟩; clear hb1
      have D5 := Lib.hid d5; clear d5
      refine hK _ _ ?_; clear hK K
      refine wpAnyIn_ready (rs := [3]) (by kernel_rfl) (by simp) ?_
      refine AllReadyIn.cons rfl (fun K hK => ?_) (AllReadyIn.nil)
      go_simp
      refine hK _ _ ?_; clear hK K
      refine wpAnyIn_ready (rs := [4]) (by kernel_rfl) (by simp) ?_
      refine AllReadyIn.cons rfl (fun K hK => ?_) (AllReadyIn.nil)
      refine stepIn_append rfl (.tmp 13) (.tmp 16) 24 rfl rfl rfl hrun ?_
      refine hK _ _ ?_; clear hK K
      refine wpAnyIn_ready (rs := [5]) (by kernel_rfl) (by simp) ?_
      refine AllReadyIn.cons rfl (fun K hK => ?_) (AllReadyIn.nil)
      go_simp
      refine hK _ _ ?_; clear hK K
      refine wpAnyIn_done (by kernel_rfl) ?_ _
      gi_wp2
      exact round_close D5.out HG.out HK.out (run_cut HX2.out) k4 HT.out HIT.out HB5.out HS.out
    · go_simp
      refine hK _ _ ?_; clear hK K
      refine wpAnyIn_ready (rs := [0, 2]) (by kernel_rfl) (by simp) ?_
      refine AllReadyIn.cons rfl (fun K hK => ?_) (AllReadyIn.cons rfl (fun K hK => ?_) (AllReadyIn.nil))
      · go_simp
        refine hK _ _ ?_; clear hK K
        refine wpAnyIn_ready (rs := [2]) (by kernel_rfl) (by simp) ?_
        refine AllReadyIn.cons rfl (fun K hK => ?_) (AllReadyIn.nil)
        go_simp
        refine ⟨trivial, ?_⟩
        refine (CallsIn.inRound l' (callsIn_wide.2 (clone_any _ _ HAL.out))).mono ?_
        rintro e w1 ⟨rfl, hb1⟩
        obtain ⟨g, cap, w2, hrun, d0, d0', d1, d2, d3, d4, d5⟩ := RF.out w1 ⟨hb1.os, hb1.tape, hb1.output, hb1.size, hb1.block⟩; clear hb1
        have D5 := Lib.hid d5; clear d5
        refine hK _ _ ?_; clear hK K
        refine wpAnyIn_ready (rs := [3]) (by kernel_rfl) (by simp) ?_
        refine AllReadyIn.cons rfl (fun K hK => ?_) (AllReadyIn.nil)
        go_simp
        refine hK _ _ ?_; clear hK K
        refine wpAnyIn_ready (rs := [4]) (by kernel_rfl) (by simp) ?_
        refine AllReadyIn.cons rfl (fun K hK => ?_) (AllReadyIn.nil)
        refine stepIn_append rfl (.tmp 13) (.tmp 16) 24 rfl rfl rfl hrun ?_
        refine hK _ _ ?_; clear hK K
        refine wpAnyIn_ready (rs := [5]) (by kernel_rfl) (by simp) ?_
        refine AllReadyIn.cons rfl (fun K hK => ?_) (AllReadyIn.nil)
        go_simp
        refine hK _ _ ?_; clear hK K
        refine wpAnyIn_done (by kernel_rfl) ?_ _
        gi_wp2
        exact round_close D5.out HG.out HK.out (run_cut HX2.out) k4 HT.out HIT.out HB5.out HS.out
      · go_simp
        refine ⟨trivial, ?_⟩
        refine (CallsIn.inRound l' (callsIn_wide.2 (clone_any _ _ HAL.out))).mono ?_
        rintro e w1 ⟨rfl, hb1⟩
        obtain ⟨g, cap, w2, hrun, d0, d0', d1, d2, d3, d4, d5⟩ := RF.out w1 ⟨hb1.os, hb1.tape, hb1.output, hb1.size, hb1.block⟩; clear hb1
        have D5 := Lib.hid d5; clear d5
        refine hK _ _ ?_; clear hK K
        refine wpAnyIn_ready (rs := [0, 3]) (by kernel_rfl) (by simp) ?_
        refine AllReadyIn.cons rfl (fun K hK => ?_) (AllReadyIn.cons rfl (fun K hK => ?_) (AllReadyIn.nil))
        · go_simp
          refine hK _ _ ?_; clear hK K
          refine wpAnyIn_ready (rs := [3]) (by kernel_rfl) (by simp) ?_
          refine AllReadyIn.cons rfl (fun K hK => ?_) (AllReadyIn.nil)
          go_simp
          refine hK _ _ ?_; clear hK K
          refine wpAnyIn_ready (rs := [4]) (by kernel_rfl) (by simp) ?_
          refine AllReadyIn.cons rfl (fun K hK => ?_) (AllReadyIn.nil)
          refine stepIn_append rfl (.tmp 13) (.tmp 16) 24 rfl rfl rfl hrun ?_
          refine hK _ _ ?_; clear hK K
          refine wpAnyIn_ready (rs := [5]) (by kernel_rfl) (by simp) ?_
          refine AllReadyIn.cons rfl (fun K hK => ?_) (AllReadyIn.nil)
          go_simp
          refine hK _ _ ?_; clear hK K
          refine wpAnyIn_done (by kernel_rfl) ?_ _
          gi_wp2
          exact round_close D5.out HG.out HK.out (run_cut HX2.out) k4 HT.out HIT.out HB5.out HS.out
        · go_simp
          refine hK _ _ ?_; clear hK K
          refine wpAnyIn_ready (rs := [0]) (by kernel_rfl) (by simp) ?_
          refine AllReadyIn.cons rfl (fun K hK => ?_) (AllReadyIn.nil)
          go_simp
          refine hK _ _ ?_; clear hK K
          refine wpAnyIn_ready (rs := [4]) (by kernel_rfl) (by simp) ?_
          refine AllReadyIn.cons rfl (fun K hK => ?_) (AllReadyIn.nil)
          refine stepIn_append rfl (.tmp 13) (.tmp 16) 24 rfl rfl rfl hrun ?_
          refine hK _ _ ?_; clear hK K
          refine wpAnyIn_ready (rs := [5]) (by kernel_rfl) (by simp) ?_
          refine AllReadyIn.cons rfl (fun K hK => ?_) (AllReadyIn.nil)
          go_simp
          refine hK _ _ ?_; clear hK K
          refine wpAnyIn_done (by kernel_rfl) ?_ _
          gi_wp2
          exact round_close D5.out HG.out HK.out (run_cut HX2.out) k4 HT.out HIT.out HB5.out HS.out
  · rintro D t W hD hfin ⟨v0, outs, k0, k1, k2, k3, k4, k5⟩ hS hDh
    obtain ⟨A0, cap0, rfl⟩ := k2.form
    rw [hsz] at hD
    have c0 := k0.cell
    have f0 := k0.frozen
    have c1 := k1.cell
    have f1 := k1.frozen
    have hal : (str t).size ≤ 281474976710656 := by simp [ByteArray.size]; omega
    have kk : ∀ w1, Below W.heap.size W w1 → w1.cell? ⟨w.heap.size, 0, none⟩ = some (.slice A0 outs.length cap0) ∧ w1.frozen? ⟨w.heap.size, 0, none⟩ = false ∧ w1.cell? ⟨w.heap.size + 1, 0, none⟩ = some (sv t) ∧ w1.frozen? ⟨w.heap.size + 1, 0, none⟩ = false := fun w1 hb => by
      have g := grownBy_of_below hb none
      exact ⟨(k0.kept g (by simp)).cell, (k0.kept g (by simp)).frozen, (k1.kept g (by simp)).cell, (k1.kept g (by simp)).frozen⟩
    have HAL := Lib.hid hal
    have KK := Lib.hid kk
    have HF := Lib.hid hfin
    have HK := Lib.hid k3
    have K0 := Lib.hid k0
    have K1 := Lib.hid k1
    have K2 := Lib.hid k2
    have K5 := Lib.hid k5
    have HD := Lib.hid hDh
    clear hal kk hfin k0 k1 k2 k3 k5 hDh hS
    gi_wp2
    gi_region_with_o (refine ⟨trivial, ?_⟩; gi_at_call 47; refine (callsIn_wide.2 (clone_any _ _ HAL.out)).mono ?_; rintro e w1 ⟨rfl, hb1⟩; obtain ⟨d0, d1, d2, d3⟩ := KK.out w1 ⟨hb1.os, hb1.tape, hb1.output, hb1.size, hb1.block⟩; have HB1 := Lib.hid hb1; clear hb1)
    all_goals gi_wp2
    all_goals
      have hrun : run (s.length + 1) [] s = (outs, t, false) := by
        rw [HK.out, run_none (m := s.length + 1) (by have := HF.out; unfold Fin at this; rw [List.take_of_length_le (by omega)] at this ⊢; exact this) (by omega)]; simp
      have hb1 : Below W.heap.size W w1 := ⟨HB1.out.os, HB1.out.tape, HB1.out.output, HB1.out.size, HB1.out.block⟩
      obtain ⟨hXD, hcell, hcell1, hpost⟩ := cut_world K5.out (by omega) HD.out K0.out K1.out K2.out hb1 hrun
      refine ⟨by simp, .inl ⟨_, _, rfl, run_takeDeferred hXD, ?_⟩⟩
      exact ⟨.tuple #[.slice A0 outs.length cap0, sv t], by simp [results, Tryd.results31, go_sem, hcell, hcell1], hpost⟩
end Go.Proofs.YtkffdhdhjfbhjaaDoor
