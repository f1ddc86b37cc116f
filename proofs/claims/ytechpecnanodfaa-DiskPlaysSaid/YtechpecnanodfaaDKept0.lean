/-
  For DiskKept: things that are kept by a write elsewhere; a row of steps that a call appends; what is behind a step.
-/
import Derived.Test.YtechpecnanodfaaDKeptF
namespace Go.Proofs.Ytechpecnanodfaa
open Go Go.RowKit Go.Maps
set_option maxRecDepth 100000
set_option linter.unusedSimpArgs false
set_option linter.unusedVariables false

/-- Written elsewhere. -/
theorem Obs.out {w0 w w' : World} {os : List Ob} (h : Obs w0 w os) {T : List Nat} (hk : Kp T w w') (hT : ∀ b ∈ T, w0.heap.size ≤ b ∧ ∀ (j : Nat) (o : Ob), os[j]? = some o → b ∉ o.fp) : Obs w0 w' os :=
  ⟨h.bel.trans (hk.to_below (fun b hb => (hT b hb).1) h.bel.size), fun j o hj => by
    obtain ⟨h1, h2, h3⟩ := h.this j o hj
    exact ⟨h3 w w' (fun b hb => ⟨(h2 b hb).2, hk.block b (h2 b hb).2 (fun e => (hT b e).2 j o hj hb)⟩) h1, fun b hb => ⟨(h2 b hb).1, Nat.lt_of_lt_of_le (h2 b hb).2 hk.size⟩, h3⟩, h.apart⟩
/-- A thing that lies beside them already. -/
theorem Obs.join {w0 w : World} {os : List Ob} (h : Obs w0 w os) (o' : Ob) (hP : o'.P w) (hst : o'.Stays) (hfp : ∀ b ∈ o'.fp, w0.heap.size ≤ b ∧ b < w.heap.size ∧ ∀ (j : Nat) (o : Ob), os[j]? = some o → b ∉ o.fp) : Obs w0 w (os ++ [o']) := by
  have hget : ∀ (j : Nat) (u : Ob), (os ++ [o'])[j]? = some u → os[j]? = some u ∨ (j = os.length ∧ u = o') := fun j u hj => by
    rcases Nat.lt_or_ge j os.length with h1 | h1
    · rw [List.getElem?_append_left h1] at hj; exact .inl hj
    · rw [List.getElem?_append_right h1] at hj
      cases hq : j - os.length with
      | zero => rw [hq] at hj; simp at hj; exact .inr ⟨by omega, hj.symm⟩
      | succ k => rw [hq] at hj; simp at hj
  refine ⟨h.bel, fun j u hj => ?_, fun i j u v hi hj hne b hbu hbv => ?_⟩
  · rcases hget j u hj with h1 | ⟨_, rfl⟩
    · exact h.this j u h1
    · exact ⟨hP, fun b hb => ⟨(hfp b hb).1, (hfp b hb).2.1⟩, hst⟩
  · rcases hget i u hi with h1 | ⟨e1, rfl⟩ <;> rcases hget j v hj with h2 | ⟨e2, rfl⟩
    · exact h.apart i j u v h1 h2 hne b hbu hbv
    · exact (hfp b hbv).2.2 i u h1 hbu
    · exact (hfp b hbu).2.2 j v h2 hbv
    · omega
/-- The last thing is let go. -/
theorem Obs.drop {w0 w : World} {os : List Ob} {o : Ob} (h : Obs w0 w (os ++ [o])) : Obs w0 w os := by
  have hl : ∀ (j : Nat) (u : Ob), os[j]? = some u → (os ++ [o])[j]? = some u := fun j u hj => by
    rw [List.getElem?_append_left (List.getElem?_eq_some_iff.1 hj).1]; exact hj
  exact ⟨h.bel, fun j u hj => h.this j u (hl j u hj), fun i j u v hi hj => h.apart i j u v (hl i u hi) (hl j v hj)⟩

def flatS (l : List SD) : List Value := l.flatMap fun s => (stC s).toList
theorem flatS_len : ∀ l : List SD, (flatS l).length = l.length * 5
  | [] => rfl
  | s :: l => by
    have := flatS_len l
    simp only [flatS, List.flatMap_cons, List.length_append, List.length_cons] at this ⊢
    rw [this]; simp [stC]; omega
theorem flatS_app (l m : List SD) : flatS (l ++ m) = flatS l ++ flatS m := by simp [flatS, List.flatMap_append]
theorem flatS_get : ∀ (l : List SD) (k i : Nat), k < l.length → i < 5 → (flatS l)[k * 5 + i]? = (stC (l.getD k sd0))[i]?
  | [], k, i, hk, _ => by simp at hk
  | s :: l, 0, i, _, hi => by
    simp only [flatS, List.flatMap_cons, Nat.zero_mul, Nat.zero_add]
    rw [List.getElem?_append_left (by simp [stC]; omega)]
    simp
  | s :: l, k + 1, i, hk, hi => by
    have ih := flatS_get l k i (by simpa using hk) hi
    simp only [flatS, List.flatMap_cons] at ih ⊢
    rw [List.getElem?_append_right (by simp [stC]; omega)]
    have e : (k + 1) * 5 + i - (stC s).toList.length = k * 5 + i := by simp [stC]; omega
    rw [e, ih]
    rfl
theorem flatS_one (l : List SD) : ∀ v ∈ flatS l, v.oneCell' = true := by
  intro v hv
  simp only [flatS, List.mem_flatMap] at hv
  obtain ⟨s, _, hs⟩ := hv
  simp [stC] at hs
  rcases hs with rfl | rfl | rfl | rfl | rfl <;> rfl
theorem StAt.news {w : World} {A : Option Addr} {l : List SD} (h : StAt w A l) (hp : 0 < l.length) : ∃ ad, A = some ad ∧ ∀ j u, (flatS l)[j]? = some u → w.cell? (ad.add j) = some u := by
  obtain ⟨b, o, rfl, _⟩ := h 0 hp
  refine ⟨_, rfl, fun j u hu => ?_⟩
  have hj : j < l.length * 5 := by rw [← flatS_len]; exact (List.getElem?_eq_some_iff.1 hu).1
  have hq : j = j / 5 * 5 + j % 5 := by omega
  obtain ⟨b', o', e, _, hc, _⟩ := h (j / 5) (by omega)
  cases e
  rw [hq, flatS_get l _ _ (by omega) (by omega)] at hu
  have e1 : (⟨b, o, none⟩ : Addr).add j = ⟨b, o + j / 5 * 5 + j % 5, none⟩ := by
    rw [Addr.add_mid]; congr 1; omega
  rw [e1]
  generalize l.getD (j / 5) sd0 = s at hc hu
  have h5 : j % 5 < 5 := by omega
  generalize j % 5 = i at hu h5 ⊢
  match i, h5 with
  | 0, _ => rw [← hu]; exact hc.c0
  | 1, _ => rw [← hu]; exact hc.c1
  | 2, _ => rw [← hu]; exact hc.c2
  | 3, _ => rw [← hu]; exact hc.c3
  | 4, _ => rw [← hu]; exact hc.c4
theorem XR.steps {w : World} {g cap : Nat} {l : List SD} (h : XR w 48 g cap (flatS l)) {k : Nat} (hk : k < l.length) : StCells w g (k * 5) (l.getD k sd0) := by
  have key : ∀ i, i < 5 → w.cell? ⟨g, k * 5 + i, none⟩ = (stC (l.getD k sd0))[i]? := fun i hi => by
    have h1 := (h.cell (j := k * 5 + i) (by rw [flatS_len]; omega)).1
    rw [h1, ← flatS_get l k i hk hi, List.getD_eq_getElem?_getD, List.getElem?_eq_getElem (by rw [flatS_len]; omega)]
    rfl
  exact ⟨key 0 (by omega), key 1 (by omega), key 2 (by omega), key 3 (by omega), key 4 (by omega)⟩

theorem info48 : (Try.prog.info? 48).map (fun i => (i.zero, i.size, i.bytes)) = some (some (.agg #[.int .u8 0, .int .i64 0, .int .u8 0, .int .i64 0, .slice none 0 0]), 5, 56) := by kernel_rfl
/-- 'append(append([]Step{}, l...), a, b, c)': the two appends. -/
theorem run_steps1 (w : World) {A : Option Addr} {c : Nat} {l : List SD} (h : StAt (w.alloc (.cells #[] 48)) A l) (hl : l.length ≤ 300) :
    ∃ A1 c1 w1, (Builtin.append_ #[40, 40] 40 #[.slice (some ⟨w.heap.size, 0, none⟩) 0 0, .slice A l.length c]).run Try.prog (w.alloc (.cells #[] 48)) = .ok (.slice A1 l.length c1) w1 ∧
      w1.ownsRow w.heap.size 48 5 (.slice A1 l.length c1) l.length (flatS l) ∧ Below w.heap.size w w1 := by
  obtain ⟨i, hi, hz0, hz1, hz2⟩ := info_parts info48
  have hown : (w.alloc (.cells #[] 48)).ownsRow w.heap.size 48 5 (.slice (some ⟨w.heap.size, 0, none⟩) 0 0) 0 [] := ⟨by simp, .inr ⟨w.heap.size, 0, #[], rfl, Nat.le_refl _, heap_alloc_new w _, Nat.le_refl _, by decide, rfl, by simp⟩⟩
  rcases Nat.eq_zero_or_pos l.length with h0 | hp
  · obtain rfl : l = [] := List.length_eq_zero_iff.1 h0
    refine ⟨some ⟨w.heap.size, 0, none⟩, 0, w.alloc (.cells #[] 48), ?_, hown, (Below.refl _ w).alloc (Nat.le_refl _) _⟩
    cases A <;> simp [Builtin.append_, run_underlying Try.underlying40, sizeOf, typeInfo, hi, Builtin.lenOf, Builtin.firstCells, storeCells, loadCells, loadCellsFrom]
  · obtain ⟨ad, rfl, hc⟩ := h.news hp
    obtain ⟨g, cap, w', hr, h2, h3, h4, h5⟩ := run_append_lies (P := Try.prog) (w.alloc (.cells #[] 48)) 40 40 w.heap.size 48 i _ 5 56 Try.underlying40 hi hz0 hz1 hz2 rfl (by decide) _ 0 [] hown ad l.length c (flatS l) (flatS_len l) hc (flatS_one l) hp (by unfold maxLen; omega) (by omega) (by simp) _ rfl
    rw [Nat.zero_add] at hr h2
    rw [List.nil_append] at h2
    refine ⟨_, _, w', hr, h2, ?_⟩
    refine ((Below.refl _ w).alloc (Nat.le_refl _) _).grown h3 (by simp) (fun k e => ?_)
    simp [Value.ownBlock] at e
    omega
theorem run_steps2 {w : World} {B n c1 : Nat} {A1 : Option Addr} {l m : List SD} (hown : w.ownsRow B 48 5 (.slice A1 n c1) n (flatS l)) (hn : n = l.length) (hB : B ≤ w.heap.size) (hl : n ≤ 300) (hm : m.length = 3) :
    ∃ g cap w', (Builtin.append_ #[40, 40] 40 #[.slice A1 n c1, .slice (some ⟨w.heap.size, 0, none⟩) 3 3]).run Try.prog (w.alloc (.cells (flatS m).toArray 48)) = .ok (.slice (some ⟨g, 0, none⟩) (n + 3) cap) w' ∧
      XR w' 48 g (cap * 5) (flatS (l ++ m)) ∧ (∃ T, Kp T w w' ∧ ∀ b ∈ T, B ≤ b) ∧ B ≤ g := by
  obtain ⟨i, hi, hz0, hz1, hz2⟩ := info_parts info48
  have hown' := hown.alloc (.cells (flatS m).toArray 48)
  have hnews : ∀ j u, (flatS m)[j]? = some u → (w.alloc (.cells (flatS m).toArray 48)).cell? ((⟨w.heap.size, 0, none⟩ : Addr).add j) = some u := by
    intro j u hu
    rw [show (⟨w.heap.size, 0, none⟩ : Addr).add j = ⟨w.heap.size, j, none⟩ from by unfold Addr.add; split <;> simp_all, cellAt (heap_alloc_new w _)]
    simpa using hu
  obtain ⟨g, cap, w', hr, h2, h3, h4, h5⟩ := run_append_lies (P := Try.prog) (w.alloc (.cells (flatS m).toArray 48)) 40 40 B 48 i _ 5 56 Try.underlying40 hi hz0 hz1 hz2 rfl (by decide) _ n (flatS l) hown' ⟨w.heap.size, 0, none⟩ 3 3 (flatS m) (by rw [flatS_len, hm]) hnews (flatS_one m) (by decide) (by unfold maxLen; omega) (by omega) (by simp; omega) _ rfl
  refine ⟨g, cap, w', hr, ?_, ?_, ?_⟩
  · rw [flatS_app]
    rcases h2.2 with ⟨e1, _⟩ | ⟨g', cap', cur, e1, hb, hg, q1, q2, q3, q4⟩
    · cases e1
    · simp only [Value.slice.injEq, Option.some.injEq, Addr.mk.injEq, true_and, and_true] at e1
      obtain ⟨rfl, rfl⟩ := e1
      have hfl : (flatS l ++ flatS m).length = (n + 3) * 5 := by rw [List.length_append, flatS_len, flatS_len, hm, hn]; omega
      exact ⟨cur, hg, by omega, by rw [hfl]; omega, by rw [hfl]; exact q4⟩
  · refine ⟨(match (Value.slice A1 n c1).ownBlock with | some b => [b] | none => []), ((Kp.refl _ w).alloc _).grown h3 (fun k e hk => by rw [e]; simp), fun b hb => ?_⟩
    rcases hown.2 with ⟨e, _⟩ | ⟨g', cap', cur, e, hgb, _⟩
    · rw [e] at hb; simp [Value.ownBlock] at hb
    · rw [e] at hb; simp [Value.ownBlock] at hb; omega
  · rcases h2.2 with ⟨e1, _⟩ | ⟨g', cap', cur, e1, hb, hg, q1, q2, q3, q4⟩
    · cases e1
    · simp only [Value.slice.injEq, Option.some.injEq, Addr.mk.injEq, true_and, and_true] at e1
      obtain ⟨rfl, rfl⟩ := e1
      exact hb
/-- A step's box. -/
def bxOb (g : Nat) (s : SD) : Ob := ⟨[g], fun w => w.heap[g]? = some (.cells (stC s) 48 (0, 0))⟩
theorem bxOb_stays (g : Nat) (s : SD) : (bxOb g s).Stays := fun W W' h hP => (h g (by simp [bxOb])).2.trans hP
end Go.Proofs.Ytechpecnanodfaa
