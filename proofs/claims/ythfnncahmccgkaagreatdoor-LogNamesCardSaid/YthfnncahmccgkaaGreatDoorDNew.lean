/-
  New, Write and Read of the program's disk.
-/
import Derived.Test.YthfnncahmccgkaaGreatDoorDStep
namespace Go.Proofs.YthfnncahmccgkaaGreatDoor
open Go Go.RowKit Go.Maps
set_option maxRecDepth 100000
set_option linter.unusedSimpArgs false
set_option linter.unusedVariables false

theorem dirF_new (n : Nat) : dirF (DS.new n) = fun _ => none := by
  funext k
  unfold dirF
  rw [if_neg]
  rintro ⟨_, _, h⟩
  simp only [DS.new] at h
  rw [List.getD_eq_getElem?_getD, List.getElem?_replicate] at h
  split at h <;> cases h
theorem LasF_new (n : Nat) : LasF (DS.new n) (fun _ => none) := by
  intro k
  refine ⟨fun hk => ?_, fun _ => rfl⟩
  simp only [DS.new, List.length_replicate] at hk ⊢
  rw [List.getD_eq_getElem?_getD, List.getElem?_replicate, if_pos (by omega)]
  rfl

set_option maxHeartbeats 1000000 in
/-- New, at a number of sectors that may be. -/
theorem new_any {w : World} {n : Nat} (h1 : 1 ≤ n) (h2 : n ≤ 1024) : Calls Tryz.prog 14 #[.int .i64 (n : Int)] w fun e w' => ∃ p bl bd, e = .returned (.tuple #[dp p, .int .i64 0]) ∧ PD w' p bl bd (DS.new n) ∧ Below w.heap.size w w' ∧ w.heap.size ≤ p ∧ w.heap.size ≤ bl ∧ w.heap.size ≤ bd := by
  have hmm := @run_makeMap Tryz.prog
  go_enter Tryz.func14, Tryz.ntmps14
  go_wp2
  go_ret2
  refine ⟨w.heap.size + 1 + 1, w.heap.size, w.heap.size + 1, rfl, ?_, (((Below.refl _ _).alloc (Nat.le_refl _) _).alloc (by simp) _).alloc (by simp only [World.size_alloc]; omega) _, by show w.heap.size ≤ w.heap.size + 1 + 1; omega, Nat.le_refl _, by show w.heap.size ≤ w.heap.size + 1; omega⟩
  have hz1 : (w.alloc (.map #[] 0)).heap.size = w.heap.size + 1 := by simp
  have hz2 : ((w.alloc (.map #[] 0)).alloc (.map #[] 0)).heap.size = w.heap.size + 1 + 1 := by simp
  refine ⟨DS.Ok.new h1 h2, ?_, ⟨_, ?_, LasF_new n⟩, ?_, by omega⟩
  · have := heap_alloc_new ((w.alloc (.map #[] 0)).alloc (.map #[] 0)) (.cells #[.int .i64 (n : Int), .map (some w.heap.size), .map (some (w.heap.size + 1)), .int .i64 0, .int .i64 0, .bool false] 87)
    rw [hz2] at this
    simpa [dCells, DS.new] using this
  · refine (MP.made w).of_block ?_
    rw [Below.heap_alloc _ _ _ (by rw [hz2]; omega), Below.heap_alloc _ _ _ (by rw [hz1]; omega)]
  · rw [dirF_new]
    have := MP.made (w.alloc (.map #[] 0))
    rw [hz1] at this
    exact this.of_block (Below.heap_alloc _ _ _ (by rw [hz2]; omega))
/-- New, at another number. -/
theorem new_none {w : World} {n : Int} (h : n < 1 ∨ 1024 < n) : Calls Tryz.prog 14 #[.int .i64 n] w fun e w' => e = .returned (.tuple #[.pointer none, .int .i64 1]) ∧ Below w.heap.size w w' := by
  go_enter Tryz.func14, Tryz.ntmps14
  by_cases h1 : n < 1
  · go_wp2
    go_ret2
    exact ⟨rfl, Below.refl _ _⟩
  · have h2 : 1024 < n := by omega
    go_wp2
    go_ret2
    exact ⟨rfl, Below.refl _ _⟩

theorem dirF_put {S : DS} (h : S.Ok) {i : Nat} (hi : i < S.was.length) (s : List UInt8) : dirF (S.put i s) = upd (dirF S) i (some s) := by
  funext k
  unfold dirF upd
  simp only [DS.put, getD_set]
  have h3 := h.hn
  have h4 := h.hw
  by_cases hk : k = i
  · subst hk
    simp [hi, h3, h4]
  · rw [if_neg hk]
    by_cases hk0 : 0 ≤ k
    · have hne : ¬ i = k.toNat := by omega
      simp [hne]
    · simp [hk0]

theorem SB.fill_new (w : World) {s : List UInt8} (hs : s.length = 128) (ty : TypeId) :
    (Builtin.copy_ #[44, 9] ty #[.slice (some ⟨w.heap.size, 0, none⟩) 128 128, sv s]).run Tryz.prog (w.alloc (.cells (cellsOf zrL).toArray 92)) = .ok (goInt 128) (w.alloc (.cells (cellsOf s).toArray 92)) := by
  rw [SB.fill (SB.new w zrL_length) hs, World.setRow_alloc_new]
set_option maxHeartbeats 2000000 in
theorem write_any {w : World} {p bl bd : Nat} {S : DS} (h : PD w p bl bd S) (hops : S.ops < 4611686018427387904) (a : Int) (s : List UInt8) (hsl : s.length ≤ 140737488355328) :
    Calls Tryz.prog 57 #[dp p, .int .i64 a, sv s] w fun e w' => e = .returned (.int .i64 (S.wrE a s)) ∧ PD w' p bl bd (S.wr a s) ∧ Kp [p, bl, bd] w w' := by
  obtain ⟨c0, c1, c2, c3, c4, c5⟩ := h.cells
  have HAS := fun W hW => has_any (w := W) (p := p) (bl := bl) (bd := bd) (S := S) hW a
  have HH := Lib.hid h
  have hz := hz66
  have hlen : (str s).size = s.length := by show s.toArray.size = _; simp
  clear h
  go_enter Tryz.func57, Tryz.ntmps57
  cases hoff : S.off with
  | true =>
    rw [hoff] at c5
    go_wp2_with fail
    go_ret
    exact ⟨by simp [DS.wrE, hoff], by simp only [DS.wr, DS.wrE, hoff]; exact HH.out, Kp.refl _ _⟩
  | false =>
    rw [hoff] at c5
    cases hha : S.has a with
    | false =>
      rw [hha] at HAS
      go_wp2_with (go_at_call 77; refine (HAS _ HH.out).mono ?_; rintro e w1 ⟨rfl, hb1⟩)
      go_ret
      exact ⟨by simp [DS.wrE, hoff, hha], by simp only [DS.wr, DS.wrE, hoff, hha]; exact HH.out.below hb1, Kp.of_below hb1 _⟩
    | true =>
      rw [hha] at HAS
      by_cases hs : s.length = 128
      · rw [hs] at hlen
        have hcp := fun W : World => SB.fill_new W hs 3
        go_wp2_with (first
          | (go_at_call 77; refine (HAS _ HH.out).mono ?_; rintro e w1 ⟨rfl, hb1⟩))
        clear hcp
        have hP1 := HH.out.below hb1
        have hP2 := hP1.below ((Below.refl _ w1).alloc (Nat.le_refl _) (.cells (cellsOf s).toArray 92))
        have hS2 := SB.new w1 hs
        obtain ⟨d0, d1, d2, d3, d4, d5⟩ := hP2.cells
        have HX : Kp [p, bl, bd] w (w1.alloc (.cells (cellsOf s).toArray 92)) := (Kp.of_below hb1 _).alloc _
        generalize hw2 : w1.alloc (.cells (cellsOf s).toArray 92) = w2 at hP2 hS2 d0 d1 d2 d3 d4 d5 HX ⊢
        have HP2 := Lib.hid hP2
        have HS2 := Lib.hid hS2
        have HXK := Lib.hid HX
        have ld := hS2.loadAt
        have ld' := hS2.load
        generalize w1.heap.size = g at hS2 HS2 ld ld' ⊢
        clear hw2 hP1 hP2 hS2 HX hb1 HAS c0 c1 c2 c3 c4 c5 hz
        go_still_tail 6, (by kernel_rfl)
        refine wpStill_load_run w2.drew rfl _ _ rfl (.pointer (some ⟨g, 0, none⟩)) rfl HS2.out.drew.loadAt ?_
        refine wpStill_nil ?_
        change wpList _ _ _ _ _ w2.drew
        obtain ⟨hh1, hh2⟩ := DS.has_iff.1 hha
        have hP2 := HP2.out
        have hok := hP2.ok
        obtain ⟨w3, hup, hm3, ht3⟩ := MP.store (w := w2.drew) (F := dirF S) (hP2.dir.of_block rfl) hh1 (by have := hok.n2; omega) hs
        refine wpList_update_run _ rfl _ _ _ _ rfl _ _ _ rfl rfl rfl hup ?_
        have ha : ((a.toNat : Nat) : Int) = a := by omega
        have hP3 : PD w3 p bl bd (S.put a.toNat s) := by
          have hk3 : Kp [bd] w2 w3 := (Kp.refl _ _).drew.map ht3 (.inl (by simp))
          obtain ⟨F, hF, hl⟩ := hP2.las
          refine ⟨hok.put (by omega) hs, (hk3.block p hP2.lt.1 (by simp; exact hP2.ne_d)).trans hP2.blk, ⟨F, hF.kp hk3 (by simp; exact hP2.ne), hl⟩, ?_, hP2.ne⟩
          rw [dirF_put hok (by omega), ha]
          exact hm3
        have HP3 := Lib.hid hP3
        have HK3 := Lib.hid (show Kp [p, bl, bd] w w3 from HXK.out.drew.map ht3 (.inl (by simp)))
        clear hP3 hup hm3 ht3 hP2 ld ld' d0 d1 d2 d3 d4 d5
        go_wp2_with (go_at_call 60; refine (done_any HP3.out hops).mono ?_; rintro e w4 ⟨rfl, hP4, hk4⟩)
        go_ret
        have he : S.wrE a s = 0 := by simp [DS.wrE, hoff, hha, hs]
        refine ⟨by rw [he]; rfl, ?_, HK3.out.trans hk4 (fun k hk _ => by simp at hk; simp [hk])⟩
        unfold DS.wr
        rw [if_pos he]
        exact hP4
      · have hs2 : ((str s).size : Int) ≠ 128 := by rw [hlen]; omega
        go_wp2_with (go_at_call 77; refine (HAS _ HH.out).mono ?_; rintro e w1 ⟨rfl, hb1⟩)
        go_ret
        exact ⟨by simp [DS.wrE, hoff, hha, hs], by simp only [DS.wr, DS.wrE, hoff, hha]; simp [hs]; exact HH.out.below hb1, Kp.of_below hb1 _⟩
end Go.Proofs.YthfnncahmccgkaaGreatDoor
