/-
  The iterator over neighbours: what it hands over.
  The contract of Linked.
-/
import Derived.Test.YtnaoandleelbkaaGreatDoorJPm
import Derived.Test.YtnaoandleelbkaaGreatDoorEIm
namespace Go.Proofs.YtnaoandleelbkaaGreatDoor
set_option linter.unusedSimpArgs false
set_option linter.unusedVariables false
open Go Go.RowKit Go.Shelf
set_option maxRecDepth 100000
attribute [local go_sem] Oper.semAt_some

/-- The library's test whether a text is among others. -/
theorem contains_any {w : World} (xs : List (List UInt8)) (A : Option Addr) (c : Nat) (x : List UInt8) (hx : SX w (.slice A xs.length c) xs) (hl : xs.length ≤ 1000000000) :
    Calls Tryz.prog 87 #[.slice A xs.length c, sv x] w fun e w' => e = .returned (.bool (xs.contains x)) ∧ w' = w := by
  by_cases h0 : xs.length = 0
  · have e1 : xs = [] := List.length_eq_zero_iff.1 h0
    subst e1
    exact Tryz.slices_Contains_string_empty A c (str x) w
  · obtain ⟨A', c', e, h⟩ := hx
    simp only [Value.slice.injEq] at e
    obtain ⟨rfl, _, rfl⟩ := e
    obtain ⟨g, off, rfl, hg, hc⟩ := h (by omega)
    have conv : ∀ (zs : List (List UInt8)) (j : Nat), j < zs.length → (zs.map str).getD j ByteArray.empty = str (zs.getD j []) := by
      intro zs j hj
      rw [List.getD_eq_getElem?_getD, List.getD_eq_getElem?_getD, List.getElem?_map, List.getElem?_eq_getElem hj]; rfl
    refine (Tryz.slices_Contains_string g off xs.length c (xs.map str) (str x) w (by simp) (by omega) (fun j hj => ?_)).mono ?_
    · rw [List.length_map] at hj
      rw [conv xs j hj]; exact hc j hj
    · rintro e w' ⟨rfl, rfl⟩
      refine ⟨?_, rfl⟩
      rw [List.take_of_length_le (by simp)]
      congr 2
      rw [Bool.eq_iff_iff, Lib.containsS_iff]
      simp only [List.mem_map, List.contains_iff_mem]
      constructor
      · rintro ⟨y, hy, e⟩
        have : y = x := by
          have := congrArg (fun b : ByteArray => b.data.toList) e
          simpa [str] using this
        exact this ▸ hy
      · intro h; exact ⟨x, h, rfl⟩

theorem neighbours_any (w : World) (A : Option Addr) (n cp : Nat) : Calls Tryz.prog 82 #[.slice A n cp] w fun e w' =>
    e = .returned (.func (.func 138) #[] #[.pointer (some ⟨w.heap.size, 0, none⟩)]) ∧ w' = w.alloc (.cells #[.slice A n cp] 29) := by
  go_enter Tryz.func82, Tryz.ntmps82
  go_wp2
  go_ret
  exact ⟨rfl, rfl⟩

/-- A certificate of a row, as a value; a pair of neighbours. -/
def cvAt (l : List Ct) (nv : Nat → Value) (k : Nat) : Value := certV (ctAt l k) (nv k)
def nbV (l : List Ct) (nv : Nat → Value) (k : Nat) : Array Value := #[cvAt l nv k, cvAt l nv (k + 1)]
/-- What the iterator reads: the box with the row, and the row. -/
def NB (W : World) (B : Nat) (A : Option Addr) (cp : Nat) (l : List Ct) (nv : Nat → Value) : Prop :=
  W.cell? ⟨B, 0, none⟩ = some (.slice A l.length cp) ∧ (0 < l.length → ∃ g off, A = some ⟨g, off, none⟩ ∧ ∀ j, j < l.length → CC W g (off + j * 6) (ctAt l j) (nv j))
theorem NB.own (B : Nat) (A : Option Addr) (cp : Nat) (l : List Ct) (nv : Nat → Value) {β : Type} (n : Nat) : OwnFrom n (fun (_ : β) W => NB W B A cp l nv) := by
  rintro s W W' row ⟨h0, h1⟩ hg hr
  have hr' : ∀ r, row = some r → ∃ o : Obj, W.heap[r]? = some o ∧ o.isCells = false := fun r e => (hr r e).2
  refine ⟨cell_kept h0 hg hr', fun hp => ?_⟩
  obtain ⟨g, off, e, hc⟩ := h1 hp
  exact ⟨g, off, e, fun j hj => ⟨cell_kept (hc j hj).c0 hg hr', cell_kept (hc j hj).c1 hg hr', cell_kept (hc j hj).c2 hg hr', cell_kept (hc j hj).c3 hg hr', cell_kept (hc j hj).c4 hg hr', cell_kept (hc j hj).c5 hg hr'⟩⟩

set_option maxHeartbeats 8000000 in
theorem next1_in (lp B : Nat) (l : List Ct) (A : Option Addr) (cp : Nat) (nv : Nat → Value) (hl : l.length ≤ 1000000) (J Jx : List Nat → World → Prop) (W : World) (hJ : OwnFrom W.heap.size J)
    (hN : ∀ pre W1, J pre W1 → NB W1 B A cp l nv)
    (hY : ∀ pre x W1, J pre W1 → pre = List.range x → x + 1 < l.length → YieldAt Fence.wide 1 Tryz.prog lp (nbV l nv x) W1 fun e W' =>
      (e = .returned (.bool true) ∧ J (pre ++ [x]) W') ∨ (e = .returned (.bool false) ∧ Jx (pre ++ [x]) W'))
    (h0 : J [] W) :
    CallsIn Fence.wide 2 Tryz.prog 138 #[.func (.yield lp) #[] #[], .pointer (some ⟨B, 0, none⟩)] W fun e W' => (∃ v, e = .returned v) ∧ ((∃ xs, xs = List.range (l.length - 1) ∧ J xs W') ∨ (∃ pre, (∃ x, x + 1 < l.length ∧ pre = List.range (x + 1)) ∧ Jx pre W')) := by
  have HJB := Lib.hid (show ∀ pre A B, J pre A → Below A.heap.size A B → J pre B from fun pre A B h hb => hJ _ _ _ none h ⟨hb.os, hb.tape, hb.output, hb.size, fun k hk _ => hb.block k hk⟩ (fun r e => by cases e))
  have HYY := Lib.hid hY
  have HJ0 := Lib.hid h0
  have HN := Lib.hid hN
  have c0 := (hN _ _ h0).1
  clear hJ hY h0 hN
  refine callsIn_of_wp Tryz.func138 rfl trivial (wpIn_calmly ?_) rfl
  simp only [Tryz.ntmps138, List.size_toArray, List.length_cons, List.length_nil, Nat.reduceAdd, Nat.reduceSub, Array.replicate_succ, Array.replicate_zero, List.push_toArray, List.append_toArray, List.nil_append, List.cons_append]
  have hl' : (l.length : Int) ≤ 1000000 := by omega
  gi_wp2
  gi_loopw [7] (fun v wr => ∃ k : Nat, v = .int .i64 (k : Int) ∧ k ≤ l.length - 1 ∧ J (List.range k) wr) (fun v _ => l.length - (intOf v).toNat)
  case atStart => exact ⟨0, rfl, Nat.zero_le _, HJ0.out⟩
  case round =>
    clear HJ0 c0
    obtain ⟨k, rfl, hk, hj⟩ := hrel
    have HJ := Lib.hid hj
    obtain ⟨c0, hc⟩ := HN.out _ _ hj
    clear hj
    by_cases hlt : k + 1 < l.length
    · have hlt' : (k : Int) < (l.length : Int) - 1 := by omega
      obtain ⟨g, off, rfl, hcc⟩ := hc (by omega)
      obtain ⟨p0, p1, p2, p3, p4, p5⟩ := hcc k (by omega)
      obtain ⟨m, hm⟩ : ∃ m, m = k + 1 := ⟨_, rfl⟩
      have hwk : IntKind.i64.wrap ((k : Int) + 1) = (m : Int) := by rw [show (k : Int) + 1 = (m : Int) by omega]; simp [IntKind.wrap, IntKind.bits, IntKind.signed]; omega
      have hltm : m < l.length := by omega
      obtain ⟨q0, q1, q2, q3, q4, q5⟩ := hcc m (by omega)
      have HM := Lib.hid hm
      clear hm
      clear hc hcc
      gi_wp2
      have hlt0 : k < l.length := by omega
      have HS := Lib.hid (show J (List.range k ++ [k]) = J (List.range (k + 1)) by rw [List.range_succ])
      have HSx := Lib.hid (show Jx (List.range k ++ [k]) = Jx (List.range (k + 1)) by rw [List.range_succ])
      obtain ⟨fn, tmps, assign, body, hy, hR⟩ := HYY.out (List.range k) k wr.drew (HJB.out _ _ _ HJ.out (Below.refl _ _).drew) rfl hlt
      unfold nbV cvAt certV at hy
      rw [← HM.out] at hy
      have hy' : (Instr.yield lp #[.agg #[sv (ctAt l k).key, sv (ctAt l k).sig, nv k, .int .i64 (ctAt l k).fr, .int .i64 (ctAt l k).un, .bool (ctAt l k).ca], .agg #[sv (ctAt l m).key, sv (ctAt l m).sig, nv m, .int .i64 (ctAt l m).fr, .int .i64 (ctAt l m).un, .bool (ctAt l m).ca]]).run Tryz.prog wr.drew = _ := hy
      clear hy
      refine wpIn_region_any (by kernel_rfl) ?_
      try simp only [List.size_toArray, List.length_cons, List.length_nil, Nat.reduceAdd, Array.replicate_succ, Array.replicate_zero, List.push_toArray, List.nil_append, List.cons_append]
      refine wpAnyIn_take (i := 0) (v := ?vv1) rfl rfl (by kernel_rfl) (by kernel_rfl) (by kernel_rfl) (fun _ _ _ h => h) ⟨Or.inl ⟨by rfl, ?hy1⟩, fun _ => rfl⟩ ?rest1
      case hy1 => (intro w'; go_simp; try with_reducible rfl)
      try simp only [List.getElem_toArray, List.getElem_cons_zero, List.getElem_cons_succ, Act.put, List.setIfInBounds_toArray, List.set_cons_zero, List.set_cons_succ]
      refine wpAnyIn_take (i := 2) (v := ?vv2) rfl rfl (by kernel_rfl) (by kernel_rfl) (by kernel_rfl) (fun _ _ _ h => h) ⟨Or.inl ⟨by rfl, ?hy2⟩, fun _ => rfl⟩ ?rest2
      case hy2 => (intro w'; go_simp; try with_reducible rfl)
      try simp only [List.getElem_toArray, List.getElem_cons_zero, List.getElem_cons_succ, Act.put, List.setIfInBounds_toArray, List.set_cons_zero, List.set_cons_succ]
      refine wpAnyIn_take (i := 6) (v := ?vv3) rfl rfl (by kernel_rfl) (by kernel_rfl) (by kernel_rfl) (fun _ _ _ h => h) ⟨Or.inl ⟨by rfl, ?hy3⟩, fun _ => rfl⟩ ?rest3
      case hy3 => (intro w'; go_simp; try with_reducible rfl)
      try simp only [List.getElem_toArray, List.getElem_cons_zero, List.getElem_cons_succ, Act.put, List.setIfInBounds_toArray, List.set_cons_zero, List.set_cons_succ]
      refine wpAnyIn_take (i := 7) (v := ?vv4) rfl rfl (by kernel_rfl) (by kernel_rfl) (by kernel_rfl) (fun _ _ _ h => h) ⟨Or.inl ⟨by rfl, ?hy4⟩, fun _ => rfl⟩ ?rest4
      case hy4 => (intro w'; go_simp; try with_reducible rfl)
      try simp only [List.getElem_toArray, List.getElem_cons_zero, List.getElem_cons_succ, Act.put, List.setIfInBounds_toArray, List.set_cons_zero, List.set_cons_succ]
      refine wpAnyIn_ready (rs := [1, 5]) (by kernel_rfl) (by simp) ?_
      refine AllReadyIn.cons rfl (fun K hK => ?_) (AllReadyIn.cons rfl (fun K hK => ?_) AllReadyIn.nil)
      · skip
        go_simp
        refine hK _ _ ?_; clear hK K
        try simp only [List.getElem_toArray, List.getElem_cons_zero, List.getElem_cons_succ, Act.put, List.setIfInBounds_toArray, List.set_cons_zero, List.set_cons_succ]
        refine wpAnyIn_take (i := 3) (v := ?vv5) rfl rfl (by kernel_rfl) (by kernel_rfl) (by kernel_rfl) (fun _ _ _ h => h) ⟨Or.inl ⟨by rfl, ?hy5⟩, fun _ => rfl⟩ ?rest5
        case hy5 => (intro w'; go_simp; try with_reducible rfl)
        try simp only [List.getElem_toArray, List.getElem_cons_zero, List.getElem_cons_succ, Act.put, List.setIfInBounds_toArray, List.set_cons_zero, List.set_cons_succ]
        refine wpAnyIn_ready (rs := [4, 5]) (by kernel_rfl) (by simp) ?_
        refine AllReadyIn.cons rfl (fun K hK => ?_) (AllReadyIn.cons rfl (fun K hK => ?_) AllReadyIn.nil)
        · skip
          go_simp
          refine hK _ _ ?_; clear hK K
          try simp only [List.getElem_toArray, List.getElem_cons_zero, List.getElem_cons_succ, Act.put, List.setIfInBounds_toArray, List.set_cons_zero, List.set_cons_succ]
          refine wpAnyIn_ready (rs := [5]) (by kernel_rfl) (by simp) ?_
          refine AllReadyIn.cons rfl (fun K hK => ?_) AllReadyIn.nil
          · skip
            go_simp
            refine hK _ _ ?_; clear hK K
            try simp only [List.getElem_toArray, List.getElem_cons_zero, List.getElem_cons_succ, Act.put, List.setIfInBounds_toArray, List.set_cons_zero, List.set_cons_succ]
            refine wpAnyIn_take (i := 8) (v := ?vv6) rfl rfl (by kernel_rfl) (by kernel_rfl) (by kernel_rfl) (fun _ _ _ h => h) ⟨Or.inl ⟨by rfl, ?hy6⟩, fun _ => rfl⟩ ?rest6
            case hy6 => (intro w'; go_simp; try with_reducible rfl)
            try simp only [List.getElem_toArray, List.getElem_cons_zero, List.getElem_cons_succ, Act.put, List.setIfInBounds_toArray, List.set_cons_zero, List.set_cons_succ]
            refine wpAnyIn_ready (rs := [9]) (by kernel_rfl) (by simp) ?_
            refine AllReadyIn.cons rfl (fun K hK => ?_) AllReadyIn.nil
            · skip
              go_simp
              refine hK _ _ ?_; clear hK K
              try simp only [List.getElem_toArray, List.getElem_cons_zero, List.getElem_cons_succ, Act.put, List.setIfInBounds_toArray, List.set_cons_zero, List.set_cons_succ]
              refine wpAnyIn_ready (rs := [10]) (by kernel_rfl) (by simp) ?_
              refine AllReadyIn.cons rfl (fun K hK => ?_) AllReadyIn.nil
              go_simp
              refine hR.mono ?_
              rintro e W3 (⟨rfl, hJ4⟩ | ⟨rfl, hJ4⟩)
              · have HJ4 := Lib.hid hJ4
                clear hJ4 hR hy'
                refine hK _ _ ?_; clear hK K
                try simp only [List.getElem_toArray, List.getElem_cons_zero, List.getElem_cons_succ, Act.put, List.setIfInBounds_toArray, List.set_cons_zero, List.set_cons_succ]
                refine wpAnyIn_ready (rs := [11]) (by kernel_rfl) (by simp) ?_
                refine AllReadyIn.cons rfl (fun K hK => ?_) AllReadyIn.nil
                go_simp
                refine hK _ _ ?_; clear hK K
                try simp only [List.getElem_toArray, List.getElem_cons_zero, List.getElem_cons_succ, Act.put, List.setIfInBounds_toArray, List.set_cons_zero, List.set_cons_succ]
                refine wpAnyIn_done (by kernel_rfl) ?_ _
                gi_wp2
                go_roundw
                case rel => exact ⟨m, rfl, by omega, by rw [HM.out, ← HS.out]; exact HJ4.out⟩
                case measure => have := HM.out; simp [intOf]; omega
              · have HJ4 := Lib.hid hJ4
                clear hJ4 hR hy'
                refine hK _ _ ?_; clear hK K
                try simp only [List.getElem_toArray, List.getElem_cons_zero, List.getElem_cons_succ, Act.put, List.setIfInBounds_toArray, List.set_cons_zero, List.set_cons_succ]
                refine wpAnyIn_ready (rs := [11]) (by kernel_rfl) (by simp) ?_
                refine AllReadyIn.cons rfl (fun K hK => ?_) AllReadyIn.nil
                go_simp
                refine hK _ _ ?_; clear hK K
                try simp only [List.getElem_toArray, List.getElem_cons_zero, List.getElem_cons_succ, Act.put, List.setIfInBounds_toArray, List.set_cons_zero, List.set_cons_succ]
                refine wpAnyIn_done (by kernel_rfl) ?_ _
                gi_wp2
                refine calmly_ret ?_
                refine bodyPost_ret (results_none rfl _ _ _) rfl ?_
                exact ⟨⟨_, rfl⟩, .inr ⟨_, ⟨k, hlt, rfl⟩, by rw [← HSx.out]; exact HJ4.out⟩⟩
        · skip
          go_simp
          refine hK _ _ ?_; clear hK K
          try simp only [List.getElem_toArray, List.getElem_cons_zero, List.getElem_cons_succ, Act.put, List.setIfInBounds_toArray, List.set_cons_zero, List.set_cons_succ]
          refine wpAnyIn_take (i := 8) (v := ?vv7) rfl rfl (by kernel_rfl) (by kernel_rfl) (by kernel_rfl) (fun _ _ _ h => h) ⟨Or.inl ⟨by rfl, ?hy7⟩, fun _ => rfl⟩ ?rest7
          case hy7 => (intro w'; go_simp; try with_reducible rfl)
          try simp only [List.getElem_toArray, List.getElem_cons_zero, List.getElem_cons_succ, Act.put, List.setIfInBounds_toArray, List.set_cons_zero, List.set_cons_succ]
          refine wpAnyIn_ready (rs := [4, 9]) (by kernel_rfl) (by simp) ?_
          refine AllReadyIn.cons rfl (fun K hK => ?_) (AllReadyIn.cons rfl (fun K hK => ?_) AllReadyIn.nil)
          · skip
            go_simp
            refine hK _ _ ?_; clear hK K
            try simp only [List.getElem_toArray, List.getElem_cons_zero, List.getElem_cons_succ, Act.put, List.setIfInBounds_toArray, List.set_cons_zero, List.set_cons_succ]
            refine wpAnyIn_ready (rs := [9]) (by kernel_rfl) (by simp) ?_
            refine AllReadyIn.cons rfl (fun K hK => ?_) AllReadyIn.nil
            · skip
              go_simp
              refine hK _ _ ?_; clear hK K
              try simp only [List.getElem_toArray, List.getElem_cons_zero, List.getElem_cons_succ, Act.put, List.setIfInBounds_toArray, List.set_cons_zero, List.set_cons_succ]
              refine wpAnyIn_ready (rs := [10]) (by kernel_rfl) (by simp) ?_
              refine AllReadyIn.cons rfl (fun K hK => ?_) AllReadyIn.nil
              go_simp
              refine hR.mono ?_
              rintro e W3 (⟨rfl, hJ4⟩ | ⟨rfl, hJ4⟩)
              · have HJ4 := Lib.hid hJ4
                clear hJ4 hR hy'
                refine hK _ _ ?_; clear hK K
                try simp only [List.getElem_toArray, List.getElem_cons_zero, List.getElem_cons_succ, Act.put, List.setIfInBounds_toArray, List.set_cons_zero, List.set_cons_succ]
                refine wpAnyIn_ready (rs := [11]) (by kernel_rfl) (by simp) ?_
                refine AllReadyIn.cons rfl (fun K hK => ?_) AllReadyIn.nil
                go_simp
                refine hK _ _ ?_; clear hK K
                try simp only [List.getElem_toArray, List.getElem_cons_zero, List.getElem_cons_succ, Act.put, List.setIfInBounds_toArray, List.set_cons_zero, List.set_cons_succ]
                refine wpAnyIn_done (by kernel_rfl) ?_ _
                gi_wp2
                go_roundw
                case rel => exact ⟨m, rfl, by omega, by rw [HM.out, ← HS.out]; exact HJ4.out⟩
                case measure => have := HM.out; simp [intOf]; omega
              · have HJ4 := Lib.hid hJ4
                clear hJ4 hR hy'
                refine hK _ _ ?_; clear hK K
                try simp only [List.getElem_toArray, List.getElem_cons_zero, List.getElem_cons_succ, Act.put, List.setIfInBounds_toArray, List.set_cons_zero, List.set_cons_succ]
                refine wpAnyIn_ready (rs := [11]) (by kernel_rfl) (by simp) ?_
                refine AllReadyIn.cons rfl (fun K hK => ?_) AllReadyIn.nil
                go_simp
                refine hK _ _ ?_; clear hK K
                try simp only [List.getElem_toArray, List.getElem_cons_zero, List.getElem_cons_succ, Act.put, List.setIfInBounds_toArray, List.set_cons_zero, List.set_cons_succ]
                refine wpAnyIn_done (by kernel_rfl) ?_ _
                gi_wp2
                refine calmly_ret ?_
                refine bodyPost_ret (results_none rfl _ _ _) rfl ?_
                exact ⟨⟨_, rfl⟩, .inr ⟨_, ⟨k, hlt, rfl⟩, by rw [← HSx.out]; exact HJ4.out⟩⟩
          · skip
            go_simp
            refine hK _ _ ?_; clear hK K
            try simp only [List.getElem_toArray, List.getElem_cons_zero, List.getElem_cons_succ, Act.put, List.setIfInBounds_toArray, List.set_cons_zero, List.set_cons_succ]
            refine wpAnyIn_ready (rs := [4]) (by kernel_rfl) (by simp) ?_
            refine AllReadyIn.cons rfl (fun K hK => ?_) AllReadyIn.nil
            · skip
              go_simp
              refine hK _ _ ?_; clear hK K
              try simp only [List.getElem_toArray, List.getElem_cons_zero, List.getElem_cons_succ, Act.put, List.setIfInBounds_toArray, List.set_cons_zero, List.set_cons_succ]
              refine wpAnyIn_ready (rs := [10]) (by kernel_rfl) (by simp) ?_
              refine AllReadyIn.cons rfl (fun K hK => ?_) AllReadyIn.nil
              go_simp
              refine hR.mono ?_
              rintro e W3 (⟨rfl, hJ4⟩ | ⟨rfl, hJ4⟩)
              · have HJ4 := Lib.hid hJ4
                clear hJ4 hR hy'
                refine hK _ _ ?_; clear hK K
                try simp only [List.getElem_toArray, List.getElem_cons_zero, List.getElem_cons_succ, Act.put, List.setIfInBounds_toArray, List.set_cons_zero, List.set_cons_succ]
                refine wpAnyIn_ready (rs := [11]) (by kernel_rfl) (by simp) ?_
                refine AllReadyIn.cons rfl (fun K hK => ?_) AllReadyIn.nil
                go_simp
                refine hK _ _ ?_; clear hK K
                try simp only [List.getElem_toArray, List.getElem_cons_zero, List.getElem_cons_succ, Act.put, List.setIfInBounds_toArray, List.set_cons_zero, List.set_cons_succ]
                refine wpAnyIn_done (by kernel_rfl) ?_ _
                gi_wp2
                go_roundw
                case rel => exact ⟨m, rfl, by omega, by rw [HM.out, ← HS.out]; exact HJ4.out⟩
                case measure => have := HM.out; simp [intOf]; omega
              · have HJ4 := Lib.hid hJ4
                clear hJ4 hR hy'
                refine hK _ _ ?_; clear hK K
                try simp only [List.getElem_toArray, List.getElem_cons_zero, List.getElem_cons_succ, Act.put, List.setIfInBounds_toArray, List.set_cons_zero, List.set_cons_succ]
                refine wpAnyIn_ready (rs := [11]) (by kernel_rfl) (by simp) ?_
                refine AllReadyIn.cons rfl (fun K hK => ?_) AllReadyIn.nil
                go_simp
                refine hK _ _ ?_; clear hK K
                try simp only [List.getElem_toArray, List.getElem_cons_zero, List.getElem_cons_succ, Act.put, List.setIfInBounds_toArray, List.set_cons_zero, List.set_cons_succ]
                refine wpAnyIn_done (by kernel_rfl) ?_ _
                gi_wp2
                refine calmly_ret ?_
                refine bodyPost_ret (results_none rfl _ _ _) rfl ?_
                exact ⟨⟨_, rfl⟩, .inr ⟨_, ⟨k, hlt, rfl⟩, by rw [← HSx.out]; exact HJ4.out⟩⟩
      · skip
        go_simp
        refine hK _ _ ?_; clear hK K
        try simp only [List.getElem_toArray, List.getElem_cons_zero, List.getElem_cons_succ, Act.put, List.setIfInBounds_toArray, List.set_cons_zero, List.set_cons_succ]
        refine wpAnyIn_take (i := 8) (v := ?vv8) rfl rfl (by kernel_rfl) (by kernel_rfl) (by kernel_rfl) (fun _ _ _ h => h) ⟨Or.inl ⟨by rfl, ?hy8⟩, fun _ => rfl⟩ ?rest8
        case hy8 => (intro w'; go_simp; try with_reducible rfl)
        try simp only [List.getElem_toArray, List.getElem_cons_zero, List.getElem_cons_succ, Act.put, List.setIfInBounds_toArray, List.set_cons_zero, List.set_cons_succ]
        refine wpAnyIn_ready (rs := [1, 9]) (by kernel_rfl) (by simp) ?_
        refine AllReadyIn.cons rfl (fun K hK => ?_) (AllReadyIn.cons rfl (fun K hK => ?_) AllReadyIn.nil)
        · skip
          go_simp
          refine hK _ _ ?_; clear hK K
          try simp only [List.getElem_toArray, List.getElem_cons_zero, List.getElem_cons_succ, Act.put, List.setIfInBounds_toArray, List.set_cons_zero, List.set_cons_succ]
          refine wpAnyIn_take (i := 3) (v := ?vv9) rfl rfl (by kernel_rfl) (by kernel_rfl) (by kernel_rfl) (fun _ _ _ h => h) ⟨Or.inl ⟨by rfl, ?hy9⟩, fun _ => rfl⟩ ?rest9
          case hy9 => (intro w'; go_simp; try with_reducible rfl)
          try simp only [List.getElem_toArray, List.getElem_cons_zero, List.getElem_cons_succ, Act.put, List.setIfInBounds_toArray, List.set_cons_zero, List.set_cons_succ]
          refine wpAnyIn_ready (rs := [4, 9]) (by kernel_rfl) (by simp) ?_
          refine AllReadyIn.cons rfl (fun K hK => ?_) (AllReadyIn.cons rfl (fun K hK => ?_) AllReadyIn.nil)
          · skip
            go_simp
            refine hK _ _ ?_; clear hK K
            try simp only [List.getElem_toArray, List.getElem_cons_zero, List.getElem_cons_succ, Act.put, List.setIfInBounds_toArray, List.set_cons_zero, List.set_cons_succ]
            refine wpAnyIn_ready (rs := [9]) (by kernel_rfl) (by simp) ?_
            refine AllReadyIn.cons rfl (fun K hK => ?_) AllReadyIn.nil
            · skip
              go_simp
              refine hK _ _ ?_; clear hK K
              try simp only [List.getElem_toArray, List.getElem_cons_zero, List.getElem_cons_succ, Act.put, List.setIfInBounds_toArray, List.set_cons_zero, List.set_cons_succ]
              refine wpAnyIn_ready (rs := [10]) (by kernel_rfl) (by simp) ?_
              refine AllReadyIn.cons rfl (fun K hK => ?_) AllReadyIn.nil
              go_simp
              refine hR.mono ?_
              rintro e W3 (⟨rfl, hJ4⟩ | ⟨rfl, hJ4⟩)
              · have HJ4 := Lib.hid hJ4
                clear hJ4 hR hy'
                refine hK _ _ ?_; clear hK K
                try simp only [List.getElem_toArray, List.getElem_cons_zero, List.getElem_cons_succ, Act.put, List.setIfInBounds_toArray, List.set_cons_zero, List.set_cons_succ]
                refine wpAnyIn_ready (rs := [11]) (by kernel_rfl) (by simp) ?_
                refine AllReadyIn.cons rfl (fun K hK => ?_) AllReadyIn.nil
                go_simp
                refine hK _ _ ?_; clear hK K
                try simp only [List.getElem_toArray, List.getElem_cons_zero, List.getElem_cons_succ, Act.put, List.setIfInBounds_toArray, List.set_cons_zero, List.set_cons_succ]
                refine wpAnyIn_done (by kernel_rfl) ?_ _
                gi_wp2
                go_roundw
                case rel => exact ⟨m, rfl, by omega, by rw [HM.out, ← HS.out]; exact HJ4.out⟩
                case measure => have := HM.out; simp [intOf]; omega
              · have HJ4 := Lib.hid hJ4
                clear hJ4 hR hy'
                refine hK _ _ ?_; clear hK K
                try simp only [List.getElem_toArray, List.getElem_cons_zero, List.getElem_cons_succ, Act.put, List.setIfInBounds_toArray, List.set_cons_zero, List.set_cons_succ]
                refine wpAnyIn_ready (rs := [11]) (by kernel_rfl) (by simp) ?_
                refine AllReadyIn.cons rfl (fun K hK => ?_) AllReadyIn.nil
                go_simp
                refine hK _ _ ?_; clear hK K
                try simp only [List.getElem_toArray, List.getElem_cons_zero, List.getElem_cons_succ, Act.put, List.setIfInBounds_toArray, List.set_cons_zero, List.set_cons_succ]
                refine wpAnyIn_done (by kernel_rfl) ?_ _
                gi_wp2
                refine calmly_ret ?_
                refine bodyPost_ret (results_none rfl _ _ _) rfl ?_
                exact ⟨⟨_, rfl⟩, .inr ⟨_, ⟨k, hlt, rfl⟩, by rw [← HSx.out]; exact HJ4.out⟩⟩
          · skip
            go_simp
            refine hK _ _ ?_; clear hK K
            try simp only [List.getElem_toArray, List.getElem_cons_zero, List.getElem_cons_succ, Act.put, List.setIfInBounds_toArray, List.set_cons_zero, List.set_cons_succ]
            refine wpAnyIn_ready (rs := [4]) (by kernel_rfl) (by simp) ?_
            refine AllReadyIn.cons rfl (fun K hK => ?_) AllReadyIn.nil
            · skip
              go_simp
              refine hK _ _ ?_; clear hK K
              try simp only [List.getElem_toArray, List.getElem_cons_zero, List.getElem_cons_succ, Act.put, List.setIfInBounds_toArray, List.set_cons_zero, List.set_cons_succ]
              refine wpAnyIn_ready (rs := [10]) (by kernel_rfl) (by simp) ?_
              refine AllReadyIn.cons rfl (fun K hK => ?_) AllReadyIn.nil
              go_simp
              refine hR.mono ?_
              rintro e W3 (⟨rfl, hJ4⟩ | ⟨rfl, hJ4⟩)
              · have HJ4 := Lib.hid hJ4
                clear hJ4 hR hy'
                refine hK _ _ ?_; clear hK K
                try simp only [List.getElem_toArray, List.getElem_cons_zero, List.getElem_cons_succ, Act.put, List.setIfInBounds_toArray, List.set_cons_zero, List.set_cons_succ]
                refine wpAnyIn_ready (rs := [11]) (by kernel_rfl) (by simp) ?_
                refine AllReadyIn.cons rfl (fun K hK => ?_) AllReadyIn.nil
                go_simp
                refine hK _ _ ?_; clear hK K
                try simp only [List.getElem_toArray, List.getElem_cons_zero, List.getElem_cons_succ, Act.put, List.setIfInBounds_toArray, List.set_cons_zero, List.set_cons_succ]
                refine wpAnyIn_done (by kernel_rfl) ?_ _
                gi_wp2
                go_roundw
                case rel => exact ⟨m, rfl, by omega, by rw [HM.out, ← HS.out]; exact HJ4.out⟩
                case measure => have := HM.out; simp [intOf]; omega
              · have HJ4 := Lib.hid hJ4
                clear hJ4 hR hy'
                refine hK _ _ ?_; clear hK K
                try simp only [List.getElem_toArray, List.getElem_cons_zero, List.getElem_cons_succ, Act.put, List.setIfInBounds_toArray, List.set_cons_zero, List.set_cons_succ]
                refine wpAnyIn_ready (rs := [11]) (by kernel_rfl) (by simp) ?_
                refine AllReadyIn.cons rfl (fun K hK => ?_) AllReadyIn.nil
                go_simp
                refine hK _ _ ?_; clear hK K
                try simp only [List.getElem_toArray, List.getElem_cons_zero, List.getElem_cons_succ, Act.put, List.setIfInBounds_toArray, List.set_cons_zero, List.set_cons_succ]
                refine wpAnyIn_done (by kernel_rfl) ?_ _
                gi_wp2
                refine calmly_ret ?_
                refine bodyPost_ret (results_none rfl _ _ _) rfl ?_
                exact ⟨⟨_, rfl⟩, .inr ⟨_, ⟨k, hlt, rfl⟩, by rw [← HSx.out]; exact HJ4.out⟩⟩
        · skip
          go_simp
          refine hK _ _ ?_; clear hK K
          try simp only [List.getElem_toArray, List.getElem_cons_zero, List.getElem_cons_succ, Act.put, List.setIfInBounds_toArray, List.set_cons_zero, List.set_cons_succ]
          refine wpAnyIn_ready (rs := [1]) (by kernel_rfl) (by simp) ?_
          refine AllReadyIn.cons rfl (fun K hK => ?_) AllReadyIn.nil
          · skip
            go_simp
            refine hK _ _ ?_; clear hK K
            try simp only [List.getElem_toArray, List.getElem_cons_zero, List.getElem_cons_succ, Act.put, List.setIfInBounds_toArray, List.set_cons_zero, List.set_cons_succ]
            refine wpAnyIn_take (i := 3) (v := ?vv10) rfl rfl (by kernel_rfl) (by kernel_rfl) (by kernel_rfl) (fun _ _ _ h => h) ⟨Or.inl ⟨by rfl, ?hy10⟩, fun _ => rfl⟩ ?rest10
            case hy10 => (intro w'; go_simp; try with_reducible rfl)
            try simp only [List.getElem_toArray, List.getElem_cons_zero, List.getElem_cons_succ, Act.put, List.setIfInBounds_toArray, List.set_cons_zero, List.set_cons_succ]
            refine wpAnyIn_ready (rs := [4]) (by kernel_rfl) (by simp) ?_
            refine AllReadyIn.cons rfl (fun K hK => ?_) AllReadyIn.nil
            · skip
              go_simp
              refine hK _ _ ?_; clear hK K
              try simp only [List.getElem_toArray, List.getElem_cons_zero, List.getElem_cons_succ, Act.put, List.setIfInBounds_toArray, List.set_cons_zero, List.set_cons_succ]
              refine wpAnyIn_ready (rs := [10]) (by kernel_rfl) (by simp) ?_
              refine AllReadyIn.cons rfl (fun K hK => ?_) AllReadyIn.nil
              go_simp
              refine hR.mono ?_
              rintro e W3 (⟨rfl, hJ4⟩ | ⟨rfl, hJ4⟩)
              · have HJ4 := Lib.hid hJ4
                clear hJ4 hR hy'
                refine hK _ _ ?_; clear hK K
                try simp only [List.getElem_toArray, List.getElem_cons_zero, List.getElem_cons_succ, Act.put, List.setIfInBounds_toArray, List.set_cons_zero, List.set_cons_succ]
                refine wpAnyIn_ready (rs := [11]) (by kernel_rfl) (by simp) ?_
                refine AllReadyIn.cons rfl (fun K hK => ?_) AllReadyIn.nil
                go_simp
                refine hK _ _ ?_; clear hK K
                try simp only [List.getElem_toArray, List.getElem_cons_zero, List.getElem_cons_succ, Act.put, List.setIfInBounds_toArray, List.set_cons_zero, List.set_cons_succ]
                refine wpAnyIn_done (by kernel_rfl) ?_ _
                gi_wp2
                go_roundw
                case rel => exact ⟨m, rfl, by omega, by rw [HM.out, ← HS.out]; exact HJ4.out⟩
                case measure => have := HM.out; simp [intOf]; omega
              · have HJ4 := Lib.hid hJ4
                clear hJ4 hR hy'
                refine hK _ _ ?_; clear hK K
                try simp only [List.getElem_toArray, List.getElem_cons_zero, List.getElem_cons_succ, Act.put, List.setIfInBounds_toArray, List.set_cons_zero, List.set_cons_succ]
                refine wpAnyIn_ready (rs := [11]) (by kernel_rfl) (by simp) ?_
                refine AllReadyIn.cons rfl (fun K hK => ?_) AllReadyIn.nil
                go_simp
                refine hK _ _ ?_; clear hK K
                try simp only [List.getElem_toArray, List.getElem_cons_zero, List.getElem_cons_succ, Act.put, List.setIfInBounds_toArray, List.set_cons_zero, List.set_cons_succ]
                refine wpAnyIn_done (by kernel_rfl) ?_ _
                gi_wp2
                refine calmly_ret ?_
                refine bodyPost_ret (results_none rfl _ _ _) rfl ?_
                exact ⟨⟨_, rfl⟩, .inr ⟨_, ⟨k, hlt, rfl⟩, by rw [← HSx.out]; exact HJ4.out⟩⟩
    · have hlt' : ¬ (k : Int) < (l.length : Int) - 1 := by omega
      have HE := Lib.hid (show k = l.length - 1 by omega)
      clear hc
      gi_wp2
      refine calmly_normal ?_
      refine bodyPost_end (results_none rfl _ _ _) rfl ?_
      exact ⟨⟨_, rfl⟩, .inl (by rw [← HE.out]; exact HJ.out)⟩
/-- The iterator, as a loop's law wants it: for whatever keeps what it reads. -/
theorem next_hands {Kp : World → World → Prop} (B : Nat) (l : List Ct) (A : Option Addr) (cp : Nat) (nv : Nat → Value) (hl : l.length ≤ 1000000) (w : World) (hN : NB w B A cp l nv) (hB : B < w.heap.size) (hA : 0 < l.length → ∀ g off, A = some ⟨g, off, none⟩ → g < w.heap.size)
    (hKp : ∀ W1 W2, Kp W1 W2 → NB W1 B A cp l nv → NB W2 B A cp l nv) :
    HandsO Fence.wide 2 Tryz.prog 138 #[.pointer (some ⟨B, 0, none⟩)] (nbV l nv) Kp (fun pre x => pre = List.range x ∧ x + 1 < l.length) (fun xs => xs = List.range (l.length - 1)) (fun pre => ∃ x, x + 1 < l.length ∧ pre = List.range (x + 1)) w := by
  intro lp J Jx W hb hJ hJx hY h0
  have hN0 : NB W B A cp l nv := by
    refine ⟨(hb.cell (p := ⟨B, 0, none⟩) hB).trans hN.1, fun hp => ?_⟩
    obtain ⟨g, off, e, hc⟩ := hN.2 hp
    exact ⟨g, off, e, fun j hj => (hc j hj).below hb (hA hp g off e)⟩
  refine (next1_in lp B l A cp nv hl (fun pre W => J pre W ∧ NB W B A cp l nv) Jx W (OwnFrom.and hJ (NB.own B A cp l nv _)) (fun pre W1 h => h.2) (fun pre x W1 h hp hx => ?_) ⟨h0, hN0⟩).mono ?_
  · refine (hY pre x W1 h.1 ⟨hp, hx⟩).mono ?_
    rintro e W2 ⟨⟨hk, _⟩, h' | h'⟩
    · exact .inl ⟨h'.1, h'.2, hKp _ _ hk h.2⟩
    · exact .inr h'
  · rintro e W2 ⟨h1, h2⟩
    refine ⟨h1, ?_⟩
    rcases h2 with ⟨xs, hx, hj, _⟩ | h2
    · exact .inl ⟨xs, hx, hj⟩
    · exact .inr h2
end Go.Proofs.YtnaoandleelbkaaGreatDoor

namespace Go.Proofs.YtnaoandleelbkaaGreatDoor
set_option linter.unusedSimpArgs false
set_option linter.unusedVariables false
open Go Go.RowKit Go.Shelf
set_option maxRecDepth 100000
attribute [local go_sem] Oper.semAt_some

/-- All blocks below n are as they were, but b. -/
def KB (n b : Nat) (W W' : World) : Prop := ∀ g, g < n → g ≠ b → W'.heap[g]? = W.heap[g]?
theorem KB.trans {n b : Nat} {A B C : World} (h : KB n b A B) (k : KB n b B C) : KB n b A C := fun g h1 h2 => (k g h1 h2).trans (h g h1 h2)
theorem KB.put {n b : Nat} {W : World} {g : Nat} (o : Obj) (hg : n ≤ g) : KB n b W (W.putObj g o) := fun i h1 h2 => World.putObj_heap_other (by omega)
theorem KB.below {n b : Nat} {W W' : World} (h : Below W.heap.size W W') (hn : n ≤ W.heap.size) : KB n b W W' := fun g h1 _ => h.block g (by omega)
theorem KB.set {n b : Nat} (W : World) (v : Value) : KB n b W (W.setCell ⟨b, 0, none⟩ v) := fun g h1 h2 => heap_setCell_other _ _ _ _ h2
theorem cell_of_blk {W W' : World} {p : Addr} (h : W'.heap[p.block]? = W.heap[p.block]?) : W'.cell? p = W.cell? p := by
  unfold World.cell?; rw [h]
theorem NB.kb {n b B : Nat} {A : Option Addr} {cp : Nat} {l : List Ct} {nv : Nat → Value} {W W' : World} (h : NB W B A cp l nv) (k : KB n b W W') (hB : B < n) (hb : B ≠ b) (hA : 0 < l.length → ∀ g off, A = some ⟨g, off, none⟩ → g < n ∧ g ≠ b) : NB W' B A cp l nv := by
  refine ⟨(cell_of_blk (p := ⟨B, 0, none⟩) (k B hB hb)).trans h.1, fun hp => ?_⟩
  obtain ⟨g, off, e, hc⟩ := h.2 hp
  obtain ⟨h1, h2⟩ := hA hp g off e
  have hk : ∀ o, W'.cell? ⟨g, o, none⟩ = W.cell? ⟨g, o, none⟩ := fun o => cell_of_blk (p := ⟨g, o, none⟩) (k g h1 h2)
  exact ⟨g, off, e, fun j hj => ⟨(hk _).trans (hc j hj).c0, (hk _).trans (hc j hj).c1, (hk _).trans (hc j hj).c2, (hk _).trans (hc j hj).c3, (hk _).trans (hc j hj).c4, (hk _).trans (hc j hj).c5⟩⟩
theorem CR.nb {W : World} {B : Nat} {A : Option Addr} {cp : Nat} {l : List Ct} {nv : Nat → Value} (h : CR W A l nv) (hB : W.cell? ⟨B, 0, none⟩ = some (.slice A l.length cp)) : NB W B A cp l nv :=
  ⟨hB, fun hp => by
    obtain ⟨g, off, e, _, hc⟩ := h hp
    exact ⟨g, off, e, fun j hj => (hc j hj).1⟩⟩
theorem CR.form {W : World} {A : Option Addr} {l : List Ct} {nv : Nat → Value} (h : CR W A l nv) {k : Nat} (hk : k < l.length) : ∃ a c, nv k = .slice a (ctAt l k).names.length c := (h.sx hk).form

/-- Between two rounds. -/
def LkI (w : World) (l : List Ct) (pre : List Nat) (W : World) : Prop :=
  Boxed W w.heap.size 4 (.bool false) ∧ Below w.heap.size w W ∧ w.heap.size + 2 ≤ W.heap.size ∧ ∀ k, k < pre.length → linkB (ctAt l k) (ctAt l (k + 1)) = true
/-- A round has left. -/
def LkX (w : World) (l : List Ct) (c : Code) (pre : List Nat) (W : World) : Prop :=
  (c = .ret ∧ linkedB l = false) ∧ Boxed W w.heap.size 4 (.bool false) ∧ Below w.heap.size w W
theorem lkI_from {w : World} {l : List Ct} {B : Nat} (hB : w.heap.size + 2 ≤ B) : OwnFrom B (LkI w l) := by
  rintro pre W W' row ⟨h1, h2, h3, h4⟩ hg hr
  exact ⟨h1.kept hg (fun e => by have := (hr _ e.symm).1; omega), h2.grown hg h2.size fun k e => by have := (hr k e).1; omega, Nat.le_trans h3 hg.size, h4⟩
theorem lkX_from {w : World} {l : List Ct} {B : Nat} (hB : w.heap.size + 2 ≤ B) (c : Code) : OwnFrom B (LkX w l c) := by
  rintro pre W W' row ⟨h1, h2, h3⟩ hg hr
  exact ⟨h1, h2.kept hg (fun e => by have := (hr _ e.symm).1; omega), h3.grown hg h3.size fun k e => by have := (hr k e).1; omega⟩
theorem cb_own {k : Nat} {c : Ct} {nv : Value} {B : Nat} : OwnFrom B (fun (_ : Unit) W => CB W k c nv) := by
  rintro s W W' row h hg hr
  refine (hg.block k h.lt fun e => ?_).trans h
  obtain ⟨_, o, ho, hc⟩ := hr k e.symm
  rw [show W.heap[k]? = _ from h] at ho
  cases ho; cases hc

set_option maxHeartbeats 8000000 in
theorem linked_any {w : World} (l : List Ct) (A : Option Addr) (cp : Nat) (nv : Nat → Value) (hr : CR w A l nv) (hs : shortR l) (hw : GA w) :
    Calls Tryz.prog 36 #[.slice A l.length cp] w fun e w' => e = .returned (.bool (linkedB l)) ∧ Below w.heap.size w w' := by
  have HIL := Lib.hid (fun (x : Nat) (hx : x + 1 < l.length) W A1 A2 m1 m2 c1 c2 (h : Below w.heap.size w W) => @isLink_any W (ctAt l x) (ctAt l (x + 1)) A1 A2 m1 m2 c1 c2 (by have := (hs.at hx).1; omega) (hw.below h))
  refine (callsIn_wide (n := 6)).1 ?_
  refine callsIn_of_wp_marks Tryz.func36 rfl trivial (wpIn_calmly ?_) rfl
  simp only [Tryz.ntmps36, List.size_toArray, List.length_cons, List.length_nil, Nat.reduceAdd, Nat.reduceSub, Array.replicate_succ, Array.replicate_zero, List.push_toArray, List.append_toArray, List.nil_append, List.cons_append]
  gi_wp2_with (refine ⟨trivial, ?_⟩; gi_at_call 82; refine (callsIn_wide.2 (neighbours_any _ _ _ _)).mono ?_; rintro e w' ⟨rfl, rfl⟩)
  obtain ⟨Wl, hWl⟩ : ∃ Wl, Wl = (w.alloc (.cells #[.bool false] 4)).alloc (.cells #[.slice A l.length cp] 29) := ⟨_, rfl⟩
  rw [← hWl]
  have hsz : Wl.heap.size = w.heap.size + 2 := by rw [hWl]; simp
  have hbel : Below w.heap.size w Wl := by rw [hWl]; exact ((Below.refl _ w).alloc (Nat.le_refl _) _).alloc (by simp) _
  have b0 : Boxed Wl w.heap.size 4 (.bool false) := by rw [hWl]; exact (Boxed.new w _ _).alloc _
  have b1 : Boxed Wl (w.heap.size + 1) 29 (.slice A l.length cp) := by rw [hWl]; have := Boxed.new (w.alloc (.cells #[.bool false] 4)) 29 (.slice A l.length cp); rw [World.size_alloc] at this; exact this
  have hI0 : LkI w l [] Wl := ⟨b0, hbel, by omega, fun k hk => by simp at hk⟩
  have hAg : 0 < l.length → ∀ g off, A = some ⟨g, off, none⟩ → g < w.heap.size := fun hp g off e => by
    obtain ⟨g', off', e', hl, _⟩ := hr hp
    rw [e] at e'; cases e'; exact hl
  have hNBl : NB Wl (w.heap.size + 1) A cp l nv := (hr.step hbel).nb b1.cell
  have HSZ := Lib.hid hsz
  have HF := Lib.hid (fun k (hk : k < l.length) => hr.form hk)
  have HTH := next_hands (Kp := KB (w.heap.size + 2) w.heap.size) (w.heap.size + 1) l A cp nv hs.1 Wl hNBl (by omega) (fun hp g off e => by have := hAg hp g off e; omega)
    (fun W1 W2 hk hn => hn.kb hk (by omega) (by omega) (fun hp g off e => by have := hAg hp g off e; omega))
  clear hWl hbel b0 b1 hNBl hr hs hw
  refine wpIn_rangeFunc_hd (α := Nat) (w := Wl) rfl (by omega) (gf := 138) (lb := #[.pointer (some ⟨w.heap.size + 1, 0, none⟩)]) rfl trivial (enters_of Tryz.func138 (by kernel_rfl) rfl)
    (handsO_wide HTH) KB.trans (fun W o o' h hc => KB.put o' (by omega)) (fun _ => rfl) (LkI w l) (LkX w l) (lkI_from (by omega)) (lkX_from (by omega)) hI0
    (fun x a' W' => ∃ k1 k2 v7 v8, a' = { tmps := #[.slice A l.length cp, undef, .pointer (some ⟨w.heap.size, 0, none⟩), .pointer (some ⟨k1, 0, none⟩), .pointer (some ⟨k2, 0, none⟩), .slice A l.length cp, .func (.func 138) #[] #[.pointer (some ⟨w.heap.size + 1, 0, none⟩)], v7, v8, undef, undef, undef, undef], defers := [] } ∧ CB W' k1 (ctAt l x) (nv x) ∧ CB W' k2 (ctAt l (x + 1)) (nv (x + 1)))
    (fun x a' s' A B row ⟨k1, k2, v7, v8, e, h1, h2⟩ hg hr => ⟨k1, k2, v7, v8, e, cb_own () A B row h1 hg hr, cb_own () A B row h2 hg hr⟩)
    ?assign ?body ?done ?stop
  case assign =>
    intro l' pre x W' K hi hnx hK
    obtain ⟨a1, c1, e1⟩ := HF.out x (by omega)
    obtain ⟨a2, c2, e2⟩ := HF.out (x + 1) (by omega)
    have hii : LkI w l pre ((W'.alloc (cellsC (ctAt l x) (nv x))).alloc (cellsC (ctAt l (x + 1)) (nv (x + 1)))) := (lkI_from (w := w) (Nat.le_refl _)).alloc _ ((lkI_from (w := w) (Nat.le_refl _)).alloc _ hi)
    have hbb : Below W'.heap.size W' ((W'.alloc (cellsC (ctAt l x) (nv x))).alloc (cellsC (ctAt l (x + 1)) (nv (x + 1)))) := (below_alloc _ _).trans ((below_alloc _ _).mono (by simp))
    have hk1 : CB ((W'.alloc (cellsC (ctAt l x) (nv x))).alloc (cellsC (ctAt l (x + 1)) (nv (x + 1)))) W'.heap.size (ctAt l x) (nv x) := (CB.new _ _ _).step (below_alloc _ _)
    have hk2 : CB ((W'.alloc (cellsC (ctAt l x) (nv x))).alloc (cellsC (ctAt l (x + 1)) (nv (x + 1)))) (W'.heap.size + 1) (ctAt l (x + 1)) (nv (x + 1)) := by rw [← World.size_alloc W' (cellsC (ctAt l x) (nv x))]; exact CB.new _ _ _
    have hsW := hi.2.2.1
    have HFIN := Lib.hid (fun v7 v8 => hK { tmps := #[.slice A l.length cp, undef, .pointer (some ⟨w.heap.size, 0, none⟩), .pointer (some ⟨W'.heap.size, 0, none⟩), .pointer (some ⟨W'.heap.size + 1, 0, none⟩), .slice A l.length cp, .func (.func 138) #[] #[.pointer (some ⟨w.heap.size + 1, 0, none⟩)], v7, v8, undef, undef, undef, undef], defers := [] } _ (keepsFrom_below hbb) (KB.below hbb (by omega)) hii ⟨_, _, v7, v8, rfl, hk1, hk2⟩)
    clear hii hbb hk1 hk2 hi hK
    simp only [nbV, cvAt, certV]
    rw [e1, e2] at HFIN ⊢
    gi_wp2
    exact HFIN.out _ _
  case body =>
    rintro l' pre x a' W' ⟨h1, hb, hsW, hlk⟩ ⟨hpx, hx⟩ ⟨k1, k2, v7, v8, rfl, hk1, hk2⟩
    obtain ⟨a1, c1, e1⟩ := HF.out x (by omega)
    obtain ⟨a2, c2, e2⟩ := HF.out (x + 1) (by omega)
    rw [e1] at hk1
    rw [e2] at hk2
    have p0 := hk1.c0
    have p1 := hk1.c1
    have p2 := hk1.c2
    have p3 := hk1.c3
    have p4 := hk1.c4
    have p5 := hk1.c5
    have q0 := hk2.c0
    have q1 := hk2.c1
    have q2 := hk2.c2
    have q3 := hk2.c3
    have q4 := hk2.c4
    have q5 := hk2.c5
    have HC := Lib.hid (HIL.out x hx W' a1 a2 (ctAt l x).names.length (ctAt l (x + 1)).names.length c1 c2 hb)
    have HB := Lib.hid hb
    have H1 := Lib.hid h1
    have HLK := Lib.hid hlk
    have HPX := Lib.hid hpx
    unfold certV at HC
    clear HIL hb h1 hlk hpx hk1 hk2 e1 e2 hI0 HTH HF
    cases hlb : linkB (ctAt l x) (ctAt l (x + 1)) with
    | true =>
      rw [hlb] at HC
      have HLB := Lib.hid hlb
      clear hlb
      gi_wp2_with (refine ⟨trivial, ?_⟩; gi_at_call 83; refine (CallsIn.inRound l' (callsIn_wide.2 HC.out)).mono ?_; rintro e w1 ⟨rfl, hb1⟩; have HB1 := Lib.hid hb1; clear hb1)
      refine ⟨keepsFrom_below HB1.out, KB.below HB1.out hsW, (H1.out.kept (grownBelow HB1.out none) (by simp)), HB.out.trans (HB1.out.mono HB.out.size), Nat.le_trans hsW HB1.out.size, fun k hk => ?_⟩
      rw [HPX.out, List.length_append, List.length_range] at hk
      by_cases hkx : k = x
      · subst hkx; exact HLB.out
      · exact HLK.out k (by rw [HPX.out, List.length_range]; simp at hk; omega)
    | false =>
      rw [hlb] at HC
      have HLB := Lib.hid hlb
      clear hlb
      gi_wp2_with (refine ⟨trivial, ?_⟩; gi_at_call 83; refine (CallsIn.inRound l' (callsIn_wide.2 HC.out)).mono ?_; rintro e w1 ⟨rfl, hb1⟩; have HB1 := Lib.hid hb1; have hbx : Boxed w1 w.heap.size 4 (.bool false) := (H1.out.kept (grownBelow hb1 none) (by simp)); have cx := hbx.cell; have fx := hbx.frozen; clear hb1)
      refine ⟨?_, ?_, ⟨rfl, ?_⟩, hbx.set _, (HB.out.trans (HB1.out.mono HB.out.size)).setCell (p := ⟨w.heap.size, 0, none⟩) (Nat.le_refl _) _⟩
      · exact (keepsFrom_below HB1.out).trans ((KeepsOthers.setCell _ _ _).from _)
      · exact (KB.below HB1.out hsW).trans (KB.set _ _)
      · cases hll : linkedB l with
        | false => rfl
        | true =>
          have := (linked_iff l).1 hll x hx
          rw [HLB.out] at this; cases this
  case done =>
    rintro D xs W hD rfl ⟨h1, hb, hsW, hlk⟩ hK
    rw [HSZ.out] at hD
    have HE := Lib.hid (show linkedB l = true from (linked_iff l).2 fun k hk => hlk k (by rw [List.length_range]; omega))
    have c1 := h1.cell
    have f1 := h1.frozen
    have HK2 := Lib.hid (show (W.setCell ⟨w.heap.size, 0, none⟩ (.bool true)).heap[D]? = some (.deferred (some [])) from (heap_setCell_other _ _ _ _ (show D ≠ w.heap.size by omega)).trans hK)
    have Q1 := Lib.hid (h1.set (.bool true))
    have HB := Lib.hid (hb.setCell (p := ⟨w.heap.size, 0, none⟩) (Nat.le_refl _) (.bool true))
    clear h1 hb hlk hK hI0 HTH
    gi_wp2
    refine calmly_ret ?_
    refine ⟨by simp, .inl ⟨_, _, rfl, run_takeDeferred HK2.out, ?_⟩⟩
    have cc := (Q1.out.kept (grownBy_putObj' _ D (.deferred none)) (by simp; omega)).cell
    exact ⟨.bool true, by simp [results, Tryz.results36, go_sem, cc], by rw [HE.out]; exact ⟨rfl, below_put w _ D _ (by omega) HB.out⟩⟩
  case stop =>
    rintro D c pre W hD hp ⟨⟨rfl, hll⟩, h1, hb⟩ hK
    rw [HSZ.out] at hD
    have cc := (h1.kept (grownBy_putObj' W D (.deferred none)) (by simp; omega)).cell
    have HLL := Lib.hid hll
    have hbel' := hb.trans (belowK_b (w := w) (Nat.le_refl _) W D _ (.deferred none) (by omega) hK rfl rfl)
    gi_wp2
    refine ⟨by simp, .inl ⟨_, _, rfl, run_takeDeferred hK, ?_⟩⟩
    exact ⟨.bool false, by simp [results, Tryz.results36, go_sem, cc], by rw [HLL.out]; exact ⟨rfl, hbel'⟩⟩
end Go.Proofs.YtnaoandleelbkaaGreatDoor
