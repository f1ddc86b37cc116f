/-
  Package stuff's iterator over a text's lines ('lines'), and undot: their contracts. The iterator's, in the form of a loop whose body may leave early, for whatever the body keeps ('Kp'), so that rows of texts that it doesn't turn ('Free') stay.
  The text has at most 2000000 bytes; it stands in box Bs; the library's variable MaxLen holds some number.
-/
import Derived.RangeFuncFrom
import Derived.Test.YtjbjbbbhcncfnaaSLoop
namespace Go.Proofs.Ytjbjbbbhcncfnaa
open Go Go.RowKit Go.Shelf
set_option maxRecDepth 100000
attribute [local go_sem] Oper.semAt_some

theorem ML.lt {w : World} (h : ML w) : 0 < w.heap.size := by
  obtain ⟨m, h⟩ := h
  rcases Nat.lt_or_ge 0 w.heap.size with hlt | hge
  · exact hlt
  · simp [World.cell?, Array.getElem?_eq_none hge] at h
theorem ML.below {n : Nat} {w w' : World} (h : ML w) (hb : Below n w w') (hn : 0 < n) : ML w' := by
  obtain ⟨m, h⟩ := h
  exact ⟨m, (hb.cell (p := ⟨0, 0, none⟩) hn).trans h⟩
theorem ML.step {w w' : World} (h : ML w) (hb : Below w.heap.size w w') : ML w' := h.below hb h.lt

/-- A row of texts that lies at A, in a block of base or later that nobody turns. -/
def RowAt (Free : World → Nat → Prop) (W : World) (A : Option Addr) (xs : List (List UInt8)) : Prop :=
  xs = [] ∨ ∃ g o cur fr, A = some ⟨g, o, none⟩ ∧ W.heap[g]? = some (.cells cur 9 fr) ∧ Free W g ∧ (∀ k, W.cell? ⟨g, k, none⟩ = cur[k]?) ∧ ∀ k, ∀ h : k < xs.length, cur[o + k]? = some (sv xs[k])

/-- Cut's contract, in these words: the row is a block of its own. -/
theorem cut_rows (s : List UInt8) (w : World) (hs : s.length ≤ 2000000) (hM : ML w) :
    Calls Try.prog 23 #[.string (str s)] w fun e w' => ∃ A c, e = .returned (.tuple #[.slice A (cutL s).length c, sv (restL s)]) ∧ Below w.heap.size w w' ∧
      RowAt (fun _ k => w.heap.size ≤ k) w' A (cutL s) := by
  refine (cut_any s w hs hM (by have := hM.lt; omega)).mono ?_
  rintro e w' ⟨v, rfl, hb, ho⟩
  rw [run_cut_eq] at ho ⊢
  rcases ho.2 with ⟨rfl, h0⟩ | ⟨g, cap, cur, rfl, hbg, hg, _, _, _, h4⟩
  · have h0' : cutL s = [] := List.eq_nil_of_length_eq_zero h0
    refine ⟨none, 0, by rw [h0']; rfl, hb, .inl h0'⟩
  · refine ⟨_, _, rfl, hb, .inr ⟨g, 0, cur, _, rfl, hg, hbg, fun k => cellAt hg k, fun k hk => ?_⟩⟩
    have h5 : (cur.toList.take (cutL s).length)[k]? = ((cutL s).map sv)[k]? := congrArg (fun l => l[k]?) (by simpa using h4)
    rw [List.getElem?_take, if_pos hk, List.getElem?_map, List.getElem?_eq_getElem hk] at h5
    simpa using h5

/-- What the body of a loop keeps. -/
structure Keeps (Kp : World → World → Prop) (Free : World → Nat → Prop) (n₀ : Nat) : Prop where
  keep : ∀ {A B : World} {k : Nat} {cs : Array Value} {fr : Nat × Nat}, Kp A B → A.heap[k]? = some (.cells cs 9 fr) → Free A k → B.heap[k]? = A.heap[k]? ∧ Free B k
  below : ∀ {A B : World}, Kp A B → Below n₀ A B

theorem RowAt.kept {Kp : World → World → Prop} {Free : World → Nat → Prop} {n₀ : Nat} (hK : Keeps Kp Free n₀) {A B : World} {p : Option Addr} {xs : List (List UInt8)} (h : RowAt Free A p xs) (hk : Kp A B) : RowAt Free B p xs := by
  rcases h with h | ⟨g, o, cur, fr, e, h1, h2, h3, h4⟩
  · exact .inl h
  · obtain ⟨k1, k2⟩ := hK.keep hk h1 h2
    refine .inr ⟨g, o, cur, fr, e, k1.trans h1, k2, fun k => ?_, h4⟩
    rw [← h3 k]
    exact World.cell?_of_block k1

/-- What the iterator hands over: a line, and whether it is ended. -/
abbrev It := { x : List UInt8 × Bool // x.1.length ≤ 2000000 }
def valsI (l : List It) : List (List UInt8 × Bool) := l.map (·.1)
theorem valsI_snoc (l : List It) (x : It) : valsI (l ++ [x]) = valsI l ++ [x.1] := by simp [valsI]

theorem items_len (s : List UInt8) : (itemsL s).length ≤ s.length := by
  obtain ⟨h1, h2, _⟩ := cut_len s
  have key : ∀ xs : List (List UInt8), 2 * xs.length ≤ (joinL xs).length := by
    intro xs
    induction xs with
    | nil => exact Nat.le_refl _
    | cons x xs ih => rw [joinL_cons]; simp only [List.length_append, List.length_cons]; omega
  have := key (cutL s)
  unfold itemsL
  split
  · simp; omega
  · rename_i hr
    have : 0 < (restL s).length := List.length_pos_iff.2 hr
    simp; omega

theorem lines_any (s : ByteArray) (w : World) :
    Calls Try.prog 17 #[.string s] w fun e w' => e = .returned (.func (.func 22) #[] #[.pointer (some ⟨w.heap.size, 0, none⟩)]) ∧ w' = w.alloc (.cells #[.string s] 9) := by
  go_enter Try.func17, Try.ntmps17
  go_wp2
  go_ret
  exact ⟨rfl, rfl⟩

set_option maxHeartbeats 2000000 in
theorem lines1_in (l Bs n₀ : Nat) (s0 : List UInt8) (hs : s0.length ≤ 2000000) (hn0 : 0 < n₀) (Kp : World → World → Prop) (Free : World → Nat → Prop) (hKp : Keeps Kp Free n₀)
    (J Jx : List It → World → Prop) (W : World) (hJ : AbidesFrom W.heap.size J) (hFr : ∀ W' k, Below W.heap.size W W' → W.heap.size ≤ k → Free W' k)
    (hY : ∀ pre x W1, J pre W1 → valsI (pre ++ [x]) <+: itemsL s0 → YieldAt Fence.wide 1 Try.prog l #[.string (str x.1.1), .bool x.1.2] W1 fun e W' =>
      (e = .returned (.bool true) ∧ J (pre ++ [x]) W' ∧ Kp W1 W') ∨ (e = .returned (.bool false) ∧ Jx (pre ++ [x]) W'))
    (hM : ML W) (hB : W.cell? ⟨Bs, 0, none⟩ = some (sv s0)) (h0 : J [] W) :
    CallsIn Fence.wide 2 Try.prog 22 #[.func (.yield l) #[] #[], .pointer (some ⟨Bs, 0, none⟩)] W fun e W' => (∃ v, e = .returned v) ∧ ((∃ xs, valsI xs = itemsL s0 ∧ J xs W') ∨ (∃ pre, valsI pre <+: itemsL s0 ∧ Jx pre W')) := by
  have hJ0 : ∀ W', Below W.heap.size W W' → J [] W' := fun W' hb => hJ _ _ _ none h0 ⟨hb.os, hb.tape, hb.output, hb.size, fun k hk _ => hb.block k hk⟩ (fun r e => by cases e)
  obtain ⟨L, hL⟩ : ∃ L, L = cutL s0 := ⟨_, rfl⟩
  obtain ⟨r, hr⟩ : ∃ r, r = restL s0 := ⟨_, rfl⟩
  have hit : itemsL s0 = L.map (·, true) ++ (if r = [] then [] else [(r, false)]) := by rw [hL, hr]; rfl
  have hll : ∀ x ∈ L, x.length ≤ 2000000 := fun x hx => by rw [hL] at hx; have := (cut_len s0).2.2 x hx; omega
  have hrl : r.length ≤ 2000000 := by have := (cut_len s0).1; rw [hr]; omega
  have hLl : L.length ≤ 2000000 := by have := (cut_len s0).2.1; rw [hL]; omega
  have hcut := cut_rows s0 W hs hM
  rw [← hL, ← hr] at hcut
  have HCUT := Lib.hid hcut
  have HYY := Lib.hid hY
  have HJ0 := Lib.hid hJ0
  have HFR := Lib.hid hFr
  have HIT := Lib.hid hit
  have HLL := Lib.hid hll
  have HM0 := Lib.hid hM
  clear hJ hJ0 hY h0 hFr hcut hit hll hL hr hM
  refine callsIn_of_wp Try.func22 rfl trivial ?_ rfl
  simp only [Try.ntmps22, List.size_toArray, List.length_cons, List.length_nil, Nat.reduceAdd, Nat.reduceSub, Array.replicate_succ, Array.replicate_zero, List.push_toArray, List.append_toArray, List.nil_append, List.cons_append]
  gi_wp2_with (refine ⟨trivial, ?_⟩; gi_at_call 23; refine (callsIn_wide.2 HCUT.out).mono ?_; rintro e w2 ⟨A, c, rfl, hb2, hrow⟩)
  have hML2 : ML w2 := HM0.out.step hb2
  have hrow2 : RowAt Free w2 A L := by
    rcases hrow with h | ⟨g, o, cur, fr, e, h1, h2, h3, h4⟩
    · exact .inl h
    · exact .inr ⟨g, o, cur, fr, e, h1, HFR.out _ _ hb2 h2, h3, h4⟩
  have HJ2 := Lib.hid (HJ0.out _ hb2)
  have HML2 := Lib.hid hML2
  have HROW := Lib.hid hrow2
  clear hML2 hrow2 hrow hb2 hB
  gi_loopw [14] (fun i wr => ∃ (k : Nat) (pre : List It), k ≤ L.length ∧ i = .int .i64 k ∧ valsI pre = (L.take k).map (·, true) ∧ J pre wr ∧ ML wr ∧ RowAt Free wr A L) (fun i _ => L.length - (intOf i).toNat)
  case atStart => exact ⟨0, [], Nat.zero_le _, rfl, rfl, HJ2.out, HML2.out, HROW.out⟩
  case round =>
    obtain ⟨k, pre, hk, rfl, hpre, hj, hml, hrow⟩ := hrel
    have HP := Lib.hid hpre
    have HJ := Lib.hid hj
    have HM := Lib.hid hml
    have HR := Lib.hid hrow
    have hplen : pre.length = k := by have := congrArg List.length hpre; simp [valsI] at this; omega
    clear hpre hj hml hrow
    by_cases hlt : k < L.length
    · rcases HR.out with h0 | ⟨g, o, cur, fr, rfl, h1, h2, h3, h4⟩
      · rw [h0] at hlt; simp at hlt
      · have e1 : wr.cell? ⟨g, o + k, none⟩ = some (sv L[k]) := (h3 _).trans (h4 k hlt)
        obtain ⟨x, hx⟩ : ∃ x, x = L[k] := ⟨_, rfl⟩
        rw [← hx] at e1
        have hxl : x.length ≤ 2000000 := by rw [hx]; exact HLL.out _ (List.getElem_mem hlt)
        have hnext : valsI (pre ++ [⟨(x, true), hxl⟩]) = (L.take (k + 1)).map (·, true) := by rw [valsI_snoc, HP.out, List.take_succ_eq_append_getElem hlt, List.map_append, ← hx]; rfl
        have hpref : valsI (pre ++ [⟨(x, true), hxl⟩]) <+: itemsL s0 := by
          rw [hnext, HIT.out]
          exact ((List.take_prefix _ _).map _).trans (List.prefix_append _ _)
        have HN := Lib.hid hnext
        have HPF := Lib.hid hpref
        have HX := Lib.hid hx
        have HLT := Lib.hid hlt
        clear h1 h2 h3 h4 hnext hpref hx
        gi_wp2
        obtain ⟨fn, tmps, assign, body, hy, hR⟩ := HYY.out pre ⟨(x, true), hxl⟩ wr HJ.out HPF.out
        dsimp only at hy
        rw [hy]
        gi_wp2
        refine hR.mono ?_
        rintro e W3 (⟨rfl, hJ3, hk3⟩ | ⟨rfl, hJ3⟩)
        · have HJ3 := Lib.hid hJ3
          have HM3 := Lib.hid (HM.out.below (hKp.below hk3) hn0)
          have HR3 := Lib.hid (HR.out.kept hKp hk3)
          clear hJ3 hk3
          gi_wp2
          go_roundw
          case rel => exact ⟨k + 1, _, by omega, by go_num, HN.out, HJ3.out, HM3.out, HR3.out⟩
          case measure => simp [intOf]; omega
        · have HJ3 := Lib.hid hJ3
          clear hJ3
          gi_wp2
          refine bodyPost_ret (results_none rfl _ _ _) rfl ?_
          exact ⟨⟨_, rfl⟩, .inr ⟨_, HPF.out, HJ3.out⟩⟩
    · obtain rfl : k = L.length := by omega
      have hall := HP.out
      rw [List.take_of_length_le (Nat.le_refl _)] at hall
      by_cases hr0 : r = []
      · subst hr0
        have HF := Lib.hid (show valsI pre = itemsL s0 by rw [hall, HIT.out, if_pos rfl, List.append_nil])
        clear hall
        gi_wp2
        go_end0
        exact ⟨⟨_, rfl⟩, .inl ⟨pre, HF.out, HJ.out⟩⟩
      · have hre : r.isEmpty = false := by simpa using hr0
        have HF := Lib.hid (show valsI (pre ++ [⟨(r, false), hrl⟩]) = itemsL s0 by rw [valsI_snoc, hall, HIT.out, if_neg hr0])
        clear hall hr0
        gi_wp2
        obtain ⟨fn, tmps, assign, body, hy, hR⟩ := HYY.out pre ⟨(r, false), hrl⟩ wr HJ.out (by rw [HF.out]; exact List.prefix_refl _)
        dsimp only at hy
        rw [hy]
        gi_wp2
        refine hR.mono ?_
        rintro e W3 (⟨rfl, hJ3, hk3⟩ | ⟨rfl, hJ3⟩)
        · have HJ3 := Lib.hid hJ3
          clear hJ3 hk3
          gi_wp2
          go_end0
          exact ⟨⟨_, rfl⟩, .inl ⟨_, HF.out, HJ3.out⟩⟩
        · have HJ3 := Lib.hid hJ3
          clear hJ3
          gi_wp2
          go_end0
          exact ⟨⟨_, rfl⟩, .inr ⟨_, by rw [HF.out]; exact List.prefix_refl _, HJ3.out⟩⟩

/-- The iterator, as a loop's law wants it: fresh blocks are nobody's. -/
theorem lines_stops (Bs n₀ : Nat) (s0 : List UInt8) (hs : s0.length ≤ 2000000) (hn0 : 0 < n₀) (Kp : World → World → Prop) (Free : World → Nat → Prop) (hKp : Keeps Kp Free n₀)
    (w : World) (hFr : ∀ W' k, Below w.heap.size w W' → w.heap.size ≤ k → Free W' k) (hM : ML w) (hBw : Bs < w.heap.size) (hB : w.cell? ⟨Bs, 0, none⟩ = some (sv s0)) :
    SeqStopsK Fence.wide 2 Try.prog 22 #[.pointer (some ⟨Bs, 0, none⟩)] (fun x : It => #[Value.string (str x.1.1), .bool x.1.2]) Kp (fun xs => valsI xs = itemsL s0) (fun pre => valsI pre <+: itemsL s0) (itemsL s0).length w :=
  fun l J Jx W hW hJ _ hY h0 => lines1_in l Bs n₀ s0 hs hn0 Kp Free hKp J Jx W hJ (fun W' k hb hk => hFr W' k (hW.trans (hb.mono hW.size)) (Nat.le_trans hW.size hk)) (fun pre x W1 hj hp => hY pre x W1 hj (by have := hp.length_le; simp [valsI] at this; omega)) (hM.step hW) ((hW.cell (p := ⟨Bs, 0, none⟩) hBw).trans hB) h0


/-- The same, where the body is told what comes next. -/
theorem lines_hands (Bs n₀ : Nat) (s0 : List UInt8) (hs : s0.length ≤ 2000000) (hn0 : 0 < n₀) (Kp : World → World → Prop) (Free : World → Nat → Prop) (hKp : Keeps Kp Free n₀)
    (w : World) (hFr : ∀ W' k, Below w.heap.size w W' → w.heap.size ≤ k → Free W' k) (hM : ML w) (hBw : Bs < w.heap.size) (hB : w.cell? ⟨Bs, 0, none⟩ = some (sv s0)) :
    Hands Fence.wide 2 Try.prog 22 #[.pointer (some ⟨Bs, 0, none⟩)] (fun x : It => #[Value.string (str x.1.1), .bool x.1.2]) Kp (fun pre x => valsI (pre ++ [x]) <+: itemsL s0) (fun xs => valsI xs = itemsL s0) (fun pre => valsI pre <+: itemsL s0) w :=
  fun l J Jx W hW hJ hY h0 => lines1_in l Bs n₀ s0 hs hn0 Kp Free hKp J Jx W hJ (fun W' k hb hk => hFr W' k (hW.trans (hb.mono hW.size)) (Nat.le_trans hW.size hk)) hY (hM.step hW) ((hW.cell (p := ⟨Bs, 0, none⟩) hBw).trans hB) h0
end Go.Proofs.Ytjbjbbbhcncfnaa
