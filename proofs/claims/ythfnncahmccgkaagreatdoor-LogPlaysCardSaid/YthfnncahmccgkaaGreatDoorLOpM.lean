/-
  Begin, Add, Room, Over.
  Logs and disks side by side.
-/
import Derived.Test.YthfnncahmccgkaaGreatDoorLWrite
import Derived.Test.YthfnncahmccgkaaGreatDoorLScM
import Derived.Test.YthfnncahmccgkaaGreatDoorDWkM
namespace Go.Proofs.YthfnncahmccgkaaGreatDoor
open Go Go.RowKit Go.Maps
set_option maxRecDepth 100000
set_option linter.unusedSimpArgs false
set_option linter.unusedVariables false

def begL (S : DS) (half age : Int) (s : List UInt8) : LS := lwrL S (newL half age) s
theorem begL_ok {S : DS} {half age : Int} {s : List UInt8} (h : begE S half age s = 0) : (begL S half age s).Ok S.was.length ∧ (begL S half age s).off = false := by
  unfold begE at h
  split at h
  · rename_i hm
    refine ⟨lwrL_ok (newL_ok hm _), ?_⟩
    unfold begL lwrL
    split
    · rfl
    · split
      · rfl
      · rename_i h1 h2
        rw [lwrE, if_neg h1, if_neg h2] at h
        cases h
  · cases h
/-- What Begin tells. -/
def BgPost (w : World) (p bl bd : Nat) (S : DS) (half age : Int) (s : List UInt8) (e : Ending) (w' : World) : Prop :=
  ∃ v, e = .returned (.tuple #[v, .int .i64 (begE S half age s)]) ∧ PD w' p bl bd (begS S half age s) ∧ Kp [p, bl, bd] w w' ∧
    ((begE S half age s = 0 ∧ ∃ q, v = dp q ∧ w.heap.size ≤ q ∧ LG w' q p (begL S half age s)) ∨ (begE S half age s ≠ 0 ∧ v = .pointer none))
theorem BgPost.bad {w : World} {p bl bd : Nat} {S : DS} {half age : Int} {s : List UInt8} (hP : PD w p bl bd S) (h : mayH half age = false) : BgPost w p bl bd S half age s (.returned (.tuple #[.pointer none, .int .i64 1])) w := by
  have h' : ¬ (mayH half age = true) := by rw [h]; simp
  have e1 : begE S half age s = 1 := by rw [begE, if_neg h']
  have e2 : begS S half age s = S := by rw [begS, if_neg h']
  exact ⟨.pointer none, by rw [e1], by rw [e2]; exact hP, Kp.refl _ _, .inr ⟨by rw [e1]; decide, rfl⟩⟩
set_option maxHeartbeats 4000000 in
theorem begin_bad {w : World} {p bl bd : Nat} {S : DS} (hP : PD w p bl bd S) (half age : Int) (s : List UInt8) (h : mayH half age = false) : Calls Tryz.prog 7 #[dp p, .int .i64 half, .int .i64 age, sv s] w (BgPost w p bl bd S half age s) := by
  have HE := Lib.hid (BgPost.bad (s := s) hP h)
  have IH := fun W => @isHalf_any W half
  clear hP
  cases hh : isH half with
  | false =>
    rw [hh] at IH
    go_enter Tryz.func7, Tryz.ntmps7
    go_wp2_with (go_at_call 34; refine (IH _).mono ?_; rintro e w1 ⟨rfl, rfl⟩)
    go_ret2
    exact HE.out
  | true =>
    rw [hh] at IH
    simp only [isH, decide_eq_true_eq] at hh
    simp only [mayH, decide_eq_false_iff_not] at h
    by_cases h1 : age < 1
    · go_enter Tryz.func7, Tryz.ntmps7
      go_wp2_with (go_at_call 34; refine (IH _).mono ?_; rintro e w1 ⟨rfl, rfl⟩)
      go_ret2
      exact HE.out
    · have h2 : 4294967295 < age := by omega
      clear h hh
      go_enter Tryz.func7, Tryz.ntmps7
      go_wp2_with (go_at_call 34; refine (IH _).mono ?_; rintro e w1 ⟨rfl, rfl⟩)
      go_ret2
      exact HE.out
set_option maxHeartbeats 4000000 in
theorem begin_log {w : World} {p bl bd : Nat} {S : DS} (hP : PD w p bl bd S) (hops : S.ops < 4611686018427380000) (half age : Int) (s : List UInt8) (hs : s.length ≤ 140737488351232) :
    Calls Tryz.prog 7 #[dp p, .int .i64 half, .int .i64 age, sv s] w (BgPost w p bl bd S half age s) := by
  cases h : mayH half age with
  | false => exact begin_bad hP half age s h
  | true =>
    have hB0 := below_alloc w (.cells (lgCells p (newL half age)) 74)
    have hlg : LG (w.alloc (.cells (lgCells p (newL half age)) 74)) w.heap.size p (newL half age) := heap_alloc_new w _
    have WR := write_log hlg (hP.below hB0) (newL_ok h _) hops s hs
    have hE := Lib.hid (show begE S half age s = lwrE S (newL half age) s by rw [begE, if_pos h])
    have hS := Lib.hid (show begS S half age s = lwrS S (newL half age) s by rw [begS, if_pos h])
    have hL := Lib.hid (show begL S half age s = lwrL S (newL half age) s from rfl)
    have hcl : lgCells p (newL half age) = #[dp p, .int .i64 half, .int .i64 age, .int .i64 0, .bool false] := by
      simp only [mayH, decide_eq_true_eq] at h
      simp only [lgCells, newL]
      rw [show ((half.toNat : Nat) : Int) = half by omega, show ((age.toNat : Nat) : Int) = age by omega]
      rfl
    rw [hcl] at WR hB0
    have HB0 := Lib.hid hB0
    have IH := fun W => @isHalf_any W half
    simp only [mayH, decide_eq_true_eq] at h
    rw [show isH half = true by simp [isH]; omega] at IH
    have h1 : ¬ age < 1 := by omega
    have h2 : ¬ 4294967295 < age := by omega
    have HKF := Lib.hid (fun w' (hk : Kp [w.heap.size, p, bl, bd] (w.alloc (.cells #[dp p, .int .i64 half, .int .i64 age, .int .i64 0, .bool false] 74)) w') => show Kp [p, bl, bd] w w' from (Kp.of_below hB0 [p, bl, bd]).trans hk (fun k hk' hlt => by
      simp only [List.mem_cons, List.not_mem_nil, or_false] at hk' ⊢
      rcases hk' with rfl | h3 | h3 | h3
      · omega
      · exact .inl h3
      · exact .inr (.inl h3)
      · exact .inr (.inr h3)))
    clear hB0 hlg hP hcl
    generalize lwrE S (newL half age) s = E at WR hE
    generalize lwrS S (newL half age) s = S' at WR hS
    generalize lwrL S (newL half age) s = L' at WR hL
    by_cases hE0 : E = 0
    · have he0 : ((E : Int) != 0) = false := by rw [hE0]; rfl
      have HE0 := Lib.hid hE0
      clear hE0
      go_enter Tryz.func7, Tryz.ntmps7
      go_wp2_with (first
        | (go_at_call 34; refine (IH _).mono ?_; rintro e w1 ⟨rfl, rfl⟩)
        | (go_at_call 35; refine WR.mono ?_; rintro e w2 ⟨rfl, hlg2, hP2, hk2⟩))
      go_ret2
      exact ⟨_, by rw [hE.out, HE0.out]; rfl, by rw [hS.out]; exact hP2, HKF.out _ hk2, .inl ⟨by rw [hE.out]; exact HE0.out, _, rfl, Nat.le_refl _, by rw [hL.out]; exact hlg2⟩⟩
    · have he0 : ((E : Int) != 0) = true := by rw [bne_iff_ne]; exact hE0
      have HE0 := Lib.hid hE0
      clear hE0
      go_enter Tryz.func7, Tryz.ntmps7
      go_wp2_with (first
        | (go_at_call 34; refine (IH _).mono ?_; rintro e w1 ⟨rfl, rfl⟩)
        | (go_at_call 35; refine WR.mono ?_; rintro e w2 ⟨rfl, hlg2, hP2, hk2⟩))
      go_ret2
      exact ⟨_, by rw [hE.out]; rfl, by rw [hS.out]; exact hP2, HKF.out _ hk2, .inr ⟨by rw [hE.out]; exact HE0.out, rfl⟩⟩

set_option maxHeartbeats 2000000 in
theorem add_log {w : World} {q p bl bd : Nat} {S : DS} {l : LS} (hq : LG w q p l) (hP : PD w p bl bd S) (ho : l.Ok S.was.length) (hops : S.ops < 4611686018427380000) (s : List UInt8) (hs : s.length ≤ 140737488351232) :
    Calls Tryz.prog 11 #[dp q, sv s] w fun e w' => e = .returned (.int .i64 (addE S l s)) ∧ LG w' q p (addL S l s) ∧ PD w' p bl bd (addS S l s) ∧ Kp [q, p, bl, bd] w w' := by
  have NO := none_any hq
  have WR := write_log hq hP ho hops s hs
  have c4 := hq.cells.2.2.2.2
  cases hoff : l.off with
  | true =>
    rw [hoff] at c4
    have HR := Lib.hid (show addE S l s = 7 ∧ addL S l s = l ∧ addS S l s = S from ⟨by rw [addE, if_pos hoff], by rw [addL, if_pos hoff], by rw [addS, if_pos hoff]⟩)
    have HQ := Lib.hid hq
    have HP := Lib.hid hP
    clear hq hP WR ho hoff
    go_enter Tryz.func11, Tryz.ntmps11
    go_wp2_with (go_at_call 42; refine NO.mono ?_; rintro e w1 ⟨rfl, rfl⟩)
    go_ret
    exact ⟨by rw [HR.out.1]; rfl, by rw [HR.out.2.1]; exact HQ.out, by rw [HR.out.2.2]; exact HP.out, Kp.refl _ _⟩
  | false =>
    rw [hoff] at c4
    have hn : ¬ (l.off = true) := by rw [hoff]; simp
    have HR := Lib.hid (show addE S l s = lwrE S l s ∧ addL S l s = lwrL S l s ∧ addS S l s = lwrS S l s from ⟨by rw [addE, if_neg hn], by rw [addL, if_neg hn], by rw [addS, if_neg hn]⟩)
    clear hq hP ho hoff hn
    go_enter Tryz.func11, Tryz.ntmps11
    go_wp2_with (first
      | (go_at_call 42; refine NO.mono ?_; rintro e w1 ⟨rfl, rfl⟩)
      | (go_at_call 35; refine WR.mono ?_; rintro e w2 ⟨rfl, hlg2, hP2, hk2⟩))
    go_ret
    exact ⟨by rw [HR.out.1]; rfl, by rw [HR.out.2.1]; exact hlg2, by rw [HR.out.2.2]; exact hP2, hk2⟩

theorem room_log {w : World} {q p bl bd : Nat} {S : DS} {l : LS} (hq : LG w q p l) (hP : PD w p bl bd S) (ho : l.Ok S.was.length) :
    Calls Tryz.prog 12 #[dp q] w fun e w' => e = .returned (.int .i64 ((S.was.length / 2 - l.used : Nat) : Int)) ∧ Below w.heap.size w w' := by
  have NO := none_any hq
  have LA := left_any hq hP ho
  generalize S.was.length / 2 - l.used = r at LA
  clear hq hP ho
  go_enter Tryz.func12, Tryz.ntmps12
  go_wp2_with (first
    | (go_at_call 42; refine NO.mono ?_; rintro e w1 ⟨rfl, rfl⟩)
    | (go_at_call 43; refine LA.mono ?_; rintro e w1 ⟨AL, cl, rfl, hir, hnw, hb1⟩; clear hir hnw))
  go_ret
  exact ⟨rfl, hb1⟩

theorem lg_size : (Tryz.prog.info? 74).map (·.size) = some 5 := by kernel_rfl
set_option maxHeartbeats 2000000 in
theorem over_log {w : World} {q p : Nat} {l : LS} (hq : LG w q p l) (p2 : Nat) :
    Calls Tryz.prog 13 #[dp q, dp p2] w fun e w' => e = .returned (dp w.heap.size) ∧ LG w' w.heap.size p2 l ∧ Below w.heap.size w w' := by
  have NO := none_any hq
  obtain ⟨c0, c1, c2, c3, c4⟩ := hq.cells
  have HQ := Lib.hid hq
  have HN : Hid (LG (w.alloc (.cells (lgCells p2 l) 74)) w.heap.size p2 l) := Lib.hid (heap_alloc_new w _)
  have HB := Lib.hid (below_alloc w (.cells (lgCells p2 l) 74))
  clear hq
  go_enter Tryz.func13, Tryz.ntmps13
  go_wp2_with (go_at_call 42; refine NO.mono ?_; rintro e w1 ⟨rfl, rfl⟩)
  go_ret
  exact ⟨rfl, HN.out, HB.out⟩
end Go.Proofs.YthfnncahmccgkaaGreatDoor

namespace Go.Proofs.YthfnncahmccgkaaGreatDoor
open Go Go.RowKit Go.Maps
set_option maxRecDepth 100000
set_option linter.unusedSimpArgs false
set_option linter.unusedVariables false

/-! ### Nothing -/
theorem add_nil {w : World} (s : List UInt8) : Calls Tryz.prog 11 #[.pointer none, sv s] w fun e w' => e = .returned (.int .i64 2) ∧ w = w' := by
  have NO : ∀ w : World, Calls Tryz.prog 42 #[.pointer none] w fun e w' => e = .returned (.bool true) ∧ w = w' := by
    intro w
    go_enter Tryz.func42, Tryz.ntmps42
    go_wp2
    go_ret
    exact ⟨rfl, rfl⟩
  go_enter Tryz.func11, Tryz.ntmps11
  go_wp2_with (go_at_call 42; refine (NO _).mono ?_; rintro e w1 ⟨rfl, rfl⟩)
  go_ret
  exact ⟨rfl, rfl⟩
theorem room_nil {w : World} : Calls Tryz.prog 12 #[.pointer none] w fun e w' => e = .returned (.int .i64 0) ∧ w = w' := by
  have NO : ∀ w : World, Calls Tryz.prog 42 #[.pointer none] w fun e w' => e = .returned (.bool true) ∧ w = w' := by
    intro w
    go_enter Tryz.func42, Tryz.ntmps42
    go_wp2
    go_ret
    exact ⟨rfl, rfl⟩
  go_enter Tryz.func12, Tryz.ntmps12
  go_wp2_with (go_at_call 42; refine (NO _).mono ?_; rintro e w1 ⟨rfl, rfl⟩)
  go_ret
  exact ⟨rfl, rfl⟩
theorem over_nil_log {w : World} : Calls Tryz.prog 13 #[.pointer none, .pointer none] w fun e w' => e = .returned (.pointer none) ∧ w = w' := by
  have NO : ∀ w : World, Calls Tryz.prog 42 #[.pointer none] w fun e w' => e = .returned (.bool true) ∧ w = w' := by
    intro w
    go_enter Tryz.func42, Tryz.ntmps42
    go_wp2
    go_ret
    exact ⟨rfl, rfl⟩
  go_enter Tryz.func13, Tryz.ntmps13
  go_wp2_with (go_at_call 42; refine (NO _).mono ?_; rintro e w1 ⟨rfl, rfl⟩)
  go_ret
  exact ⟨rfl, rfl⟩
theorem begin_nil {w : World} (half age : Int) (s : List UInt8) : Calls Tryz.prog 7 #[.pointer none, .int .i64 half, .int .i64 age, sv s] w fun e w' => e = .returned (.tuple #[.pointer none, .int .i64 2]) ∧ w = w' := by
  go_enter Tryz.func7, Tryz.ntmps7
  go_wp2_with fail
  go_ret2
  exact ⟨rfl, rfl⟩
theorem top_nil {w : World} : Calls Tryz.prog 9 #[.pointer none] w fun e w' => e = .returned (.tuple #[.int .i64 0, .int .i64 2]) ∧ w = w' := by
  go_enter Tryz.func9, Tryz.ntmps9
  go_wp2_with fail
  go_ret2
  exact ⟨rfl, rfl⟩
theorem scan_nil {w : World} (half : Int) : Calls Tryz.prog 8 #[.pointer none, .int .i64 half] w fun e w' => e = .returned (.tuple #[.int .i64 0, .slice none 0 0, .int .i64 2]) ∧ Below w.heap.size w w' := by
  have HB := Lib.hid (fun v => show Below w.heap.size w (w.alloc (.cells #[v] 26)) from below_alloc w _)
  go_enter Tryz.func8, Tryz.ntmps8
  go_wp2_with fail
  refine bodyPost_ret (v := .tuple #[.int .i64 0, .slice none 0 0, .int .i64 2]) (by simp [results, Tryz.results8, go_sem]) rfl ?_
  exact ⟨rfl, HB.out _⟩

/-! ### Side by side -/
def lgOb (q p : Nat) (l : LS) : Ob := ⟨[q], fun w => LG w q p l⟩
theorem lgOb_stays (q p : Nat) (l : LS) : (lgOb q p l).Stays := fun W W' h hP => ((h q (by simp [lgOb])).2).trans hP
theorem set_two {α : Type} {os : List α} {i j : Nat} {o' u' : α} (t : Nat) (hi : i < os.length) (hj : j < os.length) : ((os.set i o').set j u')[t]? = if j = t then some u' else if i = t then some o' else os[t]? := by
  rw [List.getElem?_set, List.getElem?_set]
  simp only [List.length_set]
  by_cases h1 : j = t
  · rw [if_pos h1, if_pos h1, if_pos (by omega)]
  · rw [if_neg h1, if_neg h1]
    by_cases h2 : i = t
    · rw [if_pos h2, if_pos h2, if_pos (by omega)]
    · rw [if_neg h2, if_neg h2]
theorem Obs.turn2 {w0 w w' : World} {os : List Ob} (h : Obs w0 w os) (i j : Nat) (hij : i ≠ j) {o u : Ob} (hi : os[i]? = some o) (hj : os[j]? = some u) (o' u' : Ob) (ho : o'.fp = o.fp) (hu : u'.fp = u.fp) (hP : o'.P w') (hQ : u'.P w') (hst : o'.Stays) (hsu : u'.Stays)
    (hk : Kp (o.fp ++ u.fp) w w') : Obs w0 w' ((os.set i o').set j u') := by
  have hil : i < os.length := (List.getElem?_eq_some_iff.1 hi).1
  have hjl : j < os.length := (List.getElem?_eq_some_iff.1 hj).1
  have h1 := h.this i o hi
  have h2 := h.this j u hj
  have key : ∀ (t : Nat) (x : Ob), ((os.set i o').set j u')[t]? = some x → ∃ y, os[t]? = some y ∧ x.fp = y.fp ∧ x.P w' ∧ x.Stays := by
    intro t x hx
    rw [set_two t hil hjl] at hx
    split at hx
    · rename_i e
      cases hx
      exact ⟨u, by rw [← e]; exact hj, hu, hQ, hsu⟩
    · split at hx
      · rename_i e
        cases hx
        exact ⟨o, by rw [← e]; exact hi, ho, hP, hst⟩
      · rename_i e1 e2
        obtain ⟨g1, g2, g3⟩ := h.this t x hx
        refine ⟨x, hx, rfl, g3 w w' (fun b hb => ⟨(g2 b hb).2, hk.block b (g2 b hb).2 (fun hm => ?_)⟩) g1, g3⟩
        rcases List.mem_append.1 hm with hm | hm
        · exact h.apart t i x o hx hi (fun e => e2 e.symm) b hb hm
        · exact h.apart t j x u hx hj (fun e => e1 e.symm) b hb hm
  refine ⟨h.bel.trans (hk.to_below (fun k hk' => ?_) h.bel.size), fun t x hx => ?_, fun t t' x x' hx hx' hne b hb => ?_⟩
  · rcases List.mem_append.1 hk' with hm | hm
    · exact (h1.2.1 k hm).1
    · exact (h2.2.1 k hm).1
  · obtain ⟨y, hy, hfp, g1, g2⟩ := key t x hx
    obtain ⟨_, k2, _⟩ := h.this t y hy
    refine ⟨g1, fun b hb => ?_, g2⟩
    rw [hfp] at hb
    exact ⟨(k2 b hb).1, Nat.lt_of_lt_of_le (k2 b hb).2 hk.size⟩
  · obtain ⟨y, hy, hfp, _⟩ := key t x hx
    obtain ⟨y', hy', hfp', _⟩ := key t' x' hx'
    rw [hfp] at hb
    rw [hfp']
    exact h.apart t t' y y' hy hy' hne b hb
/-- A thing more, all of whose blocks are new. -/
theorem Obs.push {w0 w' : World} {os : List Ob} {m : Nat} (h : Obs w0 w' os) (hm : w0.heap.size ≤ m) (hlt : ∀ (j : Nat) (o : Ob), os[j]? = some o → ∀ b ∈ o.fp, b < m) (o' : Ob) (hP : o'.P w') (hst : o'.Stays) (hfp : ∀ b ∈ o'.fp, m ≤ b ∧ b < w'.heap.size) : Obs w0 w' (os ++ [o']) := by
  have hget : ∀ (j : Nat) (u : Ob), (os ++ [o'])[j]? = some u → os[j]? = some u ∨ (j = os.length ∧ u = o') := fun j u hj => by
    rcases Nat.lt_or_ge j os.length with h1 | h1
    · rw [List.getElem?_append_left h1] at hj; exact .inl hj
    · rw [List.getElem?_append_right h1] at hj
      cases hq : j - os.length with
      | zero => rw [hq] at hj; simp at hj; exact .inr ⟨by omega, hj.symm⟩
      | succ k => rw [hq] at hj; simp at hj
  refine ⟨h.bel, fun j u hj => ?_, fun i j u v hi hj hne b hbu hbv => ?_⟩
  · rcases hget j u hj with h1 | ⟨_, rfl⟩
    · exact h.this j u h1
    · exact ⟨hP, fun b hb' => ⟨Nat.le_trans hm (hfp b hb').1, (hfp b hb').2⟩, hst⟩
  · rcases hget i u hi with h1 | ⟨e1, rfl⟩ <;> rcases hget j v hj with h2 | ⟨e2, rfl⟩
    · exact h.apart i j u v h1 h2 hne b hbu hbv
    · have := hlt i u h1 b hbu
      have := (hfp b hbv).1
      omega
    · have := hlt j v h2 b hbv
      have := (hfp b hbu).1
      omega
    · omega
/-- Some of these things, in another row. -/
theorem Obs.sub {w0 w : World} {os os' : List Ob} (h : Obs w0 w os) (f : Nat → Nat) (hf : ∀ i j, i < os'.length → j < os'.length → f i = f j → i = j) (hs : ∀ (j : Nat) (o : Ob), os'[j]? = some o → os[f j]? = some o) : Obs w0 w os' :=
  ⟨h.bel, fun j o hj => h.this (f j) o (hs j o hj), fun i j o u hi hj hne => h.apart (f i) (f j) o u (hs i o hi) (hs j u hj) (fun e => hne (hf i j (List.getElem?_eq_some_iff.1 hi).1 (List.getElem?_eq_some_iff.1 hj).1 e))⟩

section
variable {w0 w : World} {os : List Ob} {p bl bd : Nat} {S : DS} (h : Obs w0 w os) (i : Nat) (hi : os[i]? = some (pdOb p bl bd S))
include h hi
theorem begin_o (hops : S.ops < 4611686018427380000) (half age : Int) (s : List UInt8) (hs : s.length ≤ 140737488351232) :
    Calls Tryz.prog 7 #[dp p, .int .i64 half, .int .i64 age, sv s] w fun e w' => ∃ v, e = .returned (.tuple #[v, .int .i64 (begE S half age s)]) ∧
      ((begE S half age s = 0 ∧ ∃ q, v = dp q ∧ Obs w0 w' (os.set i (pdOb p bl bd (begS S half age s)) ++ [lgOb q p (begL S half age s)])) ∨ (begE S half age s ≠ 0 ∧ v = .pointer none ∧ Obs w0 w' (os.set i (pdOb p bl bd (begS S half age s))))) := by
  refine (begin_log (h.get hi) hops half age s hs).mono ?_
  rintro e w' ⟨v, rfl, hP, hk, hc⟩
  have hO := h.turnD i hi hP hk
  refine ⟨v, rfl, ?_⟩
  rcases hc with ⟨h0, q, rfl, hq, hlg⟩ | ⟨h0, rfl⟩
  · refine .inl ⟨h0, q, rfl, hO.push (m := w.heap.size) h.size (fun j o hj b hb => ?_) (lgOb q p (begL S half age s)) hlg (lgOb_stays _ _ _) (fun b hb => ?_)⟩
    · have hil : i < os.length := (List.getElem?_eq_some_iff.1 hi).1
      rw [List.getElem?_set] at hj
      split at hj
      · cases hj
        exact (h.this i _ hi).2.1 b hb |>.2
      · exact (h.this j o hj).2.1 b hb |>.2
    · simp [lgOb] at hb
      subst hb
      exact ⟨hq, lt_of_blk hlg⟩
  · exact .inr ⟨h0, rfl, hO⟩
theorem add_o (j : Nat) (hij : i ≠ j) {q : Nat} {l : LS} (hj : os[j]? = some (lgOb q p l)) (ho : l.Ok S.was.length) (hops : S.ops < 4611686018427380000) (s : List UInt8) (hs : s.length ≤ 140737488351232) :
    Calls Tryz.prog 11 #[dp q, sv s] w fun e w' => e = .returned (.int .i64 (addE S l s)) ∧ Obs w0 w' ((os.set i (pdOb p bl bd (addS S l s))).set j (lgOb q p (addL S l s))) :=
  (add_log (h.get hj) (h.get hi) ho hops s hs).mono fun e w' hh => ⟨hh.1, h.turn2 i j hij hi hj _ _ rfl rfl hh.2.2.1 hh.2.1 (pdOb_stays _ _ _ _) (lgOb_stays _ _ _) (hh.2.2.2.mono (fun x hx => by
    simp only [pdOb, lgOb, List.mem_cons, List.not_mem_nil, or_false, List.mem_append] at hx ⊢
    rcases hx with h1 | h1 | h1 | h1
    · exact .inr h1
    · exact .inl (.inl h1)
    · exact .inl (.inr (.inl h1))
    · exact .inl (.inr (.inr h1))))⟩
theorem room_o (j : Nat) {q : Nat} {l : LS} (hj : os[j]? = some (lgOb q p l)) (ho : l.Ok S.was.length) :
    Calls Tryz.prog 12 #[dp q] w fun e w' => e = .returned (.int .i64 ((S.was.length / 2 - l.used : Nat) : Int)) ∧ Obs w0 w' os :=
  (room_log (h.get hj) (h.get hi) ho).mono fun e w' hh => ⟨hh.1, h.step hh.2⟩
theorem scan_o (half : Int) : Calls Tryz.prog 8 #[dp p, .int .i64 half] w (ScPost w S half) := scan_log (h.get hi) half
theorem top_o : Calls Tryz.prog 9 #[dp p] w fun e w' => e = .returned (.tuple #[.int .i64 (topV S : Nat), .int .i64 (topE S)]) ∧ Obs w0 w' os :=
  (top_log (h.get hi)).mono fun e w' hh => ⟨hh.1, h.step hh.2⟩
end
theorem over_o {w0 w : World} {os : List Ob} (h : Obs w0 w os) (j : Nat) {q p : Nat} {l : LS} (hj : os[j]? = some (lgOb q p l)) (p2 : Nat) :
    Calls Tryz.prog 13 #[dp q, dp p2] w fun e w' => ∃ q2, e = .returned (dp q2) ∧ Obs w0 w' (os ++ [lgOb q2 p2 l]) :=
  (over_log (h.get hj) p2).mono fun e w' hh => ⟨_, hh.1, h.add _ hh.2.1 (lgOb_stays _ _ _) hh.2.2 (fun b hb => by simp [lgOb] at hb; subst hb; exact ⟨Nat.le_refl _, lt_of_blk hh.2.1⟩)⟩
end Go.Proofs.YthfnncahmccgkaaGreatDoor
