/-
  The laws' kept.
  For DiskKept: things that are kept by a write elsewhere; a row of steps that a call appends; what is behind a step.
  For DiskKept, plainly: what is behind a Boot; the last three steps.
  The reference's disk: as it lies; did, Fail, Read.
  The reference's disk: Fail, Read, Write.
  The reference's disk: Write.
  The reference's disk: Sync.
  The reference's disk: Dirty.
  The reference's disk: Boot.
  The reference's New.
  The reference's New of what is no number of sectors; the reference's disk as a thing: its methods.
-/
import Derived.Test.YthfnncahmccgkaaGreatDoorDWkM
import Derived.StillTailTactics
namespace Go.Proofs.YthfnncahmccgkaaGreatDoor
open Go Go.RowKit Go.Maps
set_option maxRecDepth 100000
set_option linter.unusedSimpArgs false
set_option linter.unusedVariables false

def txsD (xs : List (List UInt8)) : List Value := xs.map sv
theorem txsD_getD {xs : List (List UInt8)} {j : Nat} (h : j < xs.length) : (txsD xs).getD j undef = sv (xs.getD j []) := by
  simp [txsD, List.getD_eq_getElem?_getD, List.getElem?_map, List.getElem?_eq_getElem h]
theorem txsD_length (xs : List (List UInt8)) : (txsD xs).length = xs.length := by simp [txsD]
theorem txsD_set (xs : List (List UInt8)) (j : Nat) (s : List UInt8) : (txsD xs).set j (sv s) = txsD (xs.set j s) := by simp [txsD, List.map_set]
def bls (B : List Bool) : List Value := B.map Value.bool
theorem bls_getD {B : List Bool} {j : Nat} (h : j < B.length) : (bls B).getD j undef = .bool (B.getD j false) := by
  simp [bls, List.getD_eq_getElem?_getD, List.getElem?_map, List.getElem?_eq_getElem h]
theorem bls_length (B : List Bool) : (bls B).length = B.length := by simp [bls]
theorem bls_set (B : List Bool) (j : Nat) (b : Bool) : (bls B).set j (.bool b) = bls (B.set j b) := by simp [bls, List.map_set]

/-- What kept is to find. -/
structure KeptOK (S : DS) (was now : List (List UInt8)) (D : List Int) : Prop where
  on : S.off = false
  lw : was.length = S.was.length
  ln : now.length = S.was.length
  ok : S.Ok
  l1 : ∀ i : Nat, i < was.length → (was.getD i []).length = 128
  l2 : ∀ i : Nat, i < was.length → (now.getD i []).length = 128
  dr : ∀ k : Nat, k < D.length → ∃ i : Nat, D.getD k 0 = (i : Int) ∧ i < was.length
  at_ : ∀ i : Nat, i < was.length → ∀ j : Nat, j < 128 → (S.now.getD i []).getD j 0 = (was.getD i []).getD j 0 ∨ ((i : Int) ∈ D ∧ (S.now.getD i []).getD j 0 = (now.getD i []).getD j 0)

theorem make_bools (n : Nat) (hn : n ≤ 1024) (W : World) : (Instr.makeSlice 93 (.int .i64 (n : Int)) (.int .i64 (n : Int))).run Tryz.prog W = .ok (.slice (some ⟨W.heap.size, 0, none⟩) n n) (W.alloc (.cells (bls (List.replicate n false)).toArray 4)) := by
  obtain ⟨i, hi, hz0, hz1, hz2⟩ := info_parts (show (Tryz.prog.info? 4).map (fun i => (i.zero, i.size, i.bytes)) = some (some (.bool false), 1, 1) by kernel_rfl)
  rw [run_make W _ 4 i _ Tryz.underlying93 hi hz0 .i64 .i64 n n (by omega) (by omega) (by rw [hz2]; omega) (by omega)]
  congr 3
  apply Array.ext
  · simp [madeCells, hz1, bls]
  · intro j h1 h2
    have hc : (Value.bool false).cells = #[Value.bool false] := rfl
    have hm : ∀ x : Nat, x % 1 = 0 := fun x => by omega
    simp [madeCells, hc, hm, bls]
theorem XR.new (w : World) (e : TypeId) (xs : List Value) (hl : xs.length ≤ 1000000) : XR (w.alloc (.cells xs.toArray e)) e w.heap.size xs.length xs := by
  have := XR.lit (cs := xs.toArray) (heap_alloc_new w (.cells xs.toArray e)) (by simpa using hl)
  simpa using this

def wetL (n : Nat) (D : List Int) (k : Nat) : List Bool := (D.take k).foldl (fun B x => B.set x.toNat true) (List.replicate n false)
theorem wetL_length (n : Nat) (D : List Int) (k : Nat) : (wetL n D k).length = n := by
  unfold wetL
  generalize D.take k = L
  have : ∀ (L : List Int) (B : List Bool), (L.foldl (fun B x => B.set x.toNat true) B).length = B.length := by
    intro L
    induction L with
    | nil => intro B; rfl
    | cons a L ih => intro B; rw [List.foldl_cons, ih, List.length_set]
  rw [this, List.length_replicate]
theorem wetL_step (n : Nat) (D : List Int) {k : Nat} (h : k < D.length) : wetL n D (k + 1) = (wetL n D k).set (D.getD k 0).toNat true := by
  unfold wetL
  rw [List.take_add_one, List.getElem?_eq_getElem h, List.foldl_append]
  simp [List.getD_eq_getElem?_getD, List.getElem?_eq_getElem h]
theorem wetL_all (n : Nat) (D : List Int) (i : Nat) (hi : i < n) (hm : (i : Int) ∈ D) : (wetL n D D.length).getD i false = true := by
  have key : ∀ (L : List Int) (B : List Bool), i < B.length → ((i : Int) ∈ L ∨ B.getD i false = true) → (L.foldl (fun B x => B.set x.toNat true) B).getD i false = true := by
    intro L
    induction L with
    | nil => intro B hb h; rcases h with h | h; cases h; exact h
    | cons a L ih =>
      intro B hb h
      rw [List.foldl_cons]
      refine ih _ (by simpa using hb) ?_
      rcases h with h | h
      · rcases List.mem_cons.1 h with h | h
        · right; rw [← h, getD_set]; simp [hb]
        · exact .inl h
      · right; rw [getD_set]; split; rfl; exact h
  unfold wetL
  rw [List.take_of_length_le (Nat.le_refl _)]
  exact key D _ (by simpa using hi) (.inl hm)

end Go.Proofs.YthfnncahmccgkaaGreatDoor

namespace Go.Proofs.YthfnncahmccgkaaGreatDoor
open Go Go.RowKit Go.Maps
set_option maxRecDepth 100000
set_option linter.unusedSimpArgs false
set_option linter.unusedVariables false

/-- Written elsewhere. -/
theorem Obs.out {w0 w w' : World} {os : List Ob} (h : Obs w0 w os) {T : List Nat} (hk : Kp T w w') (hT : ∀ b ∈ T, w0.heap.size ≤ b ∧ ∀ (j : Nat) (o : Ob), os[j]? = some o → b ∉ o.fp) : Obs w0 w' os :=
  ⟨h.bel.trans (hk.to_below (fun b hb => (hT b hb).1) h.bel.size), fun j o hj => by
    obtain ⟨h1, h2, h3⟩ := h.this j o hj
    exact ⟨h3 w w' (fun b hb => ⟨(h2 b hb).2, hk.block b (h2 b hb).2 (fun e => (hT b e).2 j o hj hb)⟩) h1, fun b hb => ⟨(h2 b hb).1, Nat.lt_of_lt_of_le (h2 b hb).2 hk.size⟩, h3⟩, h.apart⟩
/-- A thing that lies beside them already. -/
theorem Obs.join {w0 w : World} {os : List Ob} (h : Obs w0 w os) (o' : Ob) (hP : o'.P w) (hst : o'.Stays) (hfp : ∀ b ∈ o'.fp, w0.heap.size ≤ b ∧ b < w.heap.size ∧ ∀ (j : Nat) (o : Ob), os[j]? = some o → b ∉ o.fp) : Obs w0 w (os ++ [o']) := by
  have hget : ∀ (j : Nat) (u : Ob), (os ++ [o'])[j]? = some u → os[j]? = some u ∨ (j = os.length ∧ u = o') := fun j u hj => by
    rcases Nat.lt_or_ge j os.length with h1 | h1
    · rw [List.getElem?_append_left h1] at hj; exact .inl hj
    · rw [List.getElem?_append_right h1] at hj
      cases hq : j - os.length with
      | zero => rw [hq] at hj; simp at hj; exact .inr ⟨by omega, hj.symm⟩
      | succ k => rw [hq] at hj; simp at hj
  refine ⟨h.bel, fun j u hj => ?_, fun i j u v hi hj hne b hbu hbv => ?_⟩
  · rcases hget j u hj with h1 | ⟨_, rfl⟩
    · exact h.this j u h1
    · exact ⟨hP, fun b hb => ⟨(hfp b hb).1, (hfp b hb).2.1⟩, hst⟩
  · rcases hget i u hi with h1 | ⟨e1, rfl⟩ <;> rcases hget j v hj with h2 | ⟨e2, rfl⟩
    · exact h.apart i j u v h1 h2 hne b hbu hbv
    · exact (hfp b hbv).2.2 i u h1 hbu
    · exact (hfp b hbu).2.2 j v h2 hbv
    · omega
/-- The last thing is let go. -/
theorem Obs.drop {w0 w : World} {os : List Ob} {o : Ob} (h : Obs w0 w (os ++ [o])) : Obs w0 w os := by
  have hl : ∀ (j : Nat) (u : Ob), os[j]? = some u → (os ++ [o])[j]? = some u := fun j u hj => by
    rw [List.getElem?_append_left (List.getElem?_eq_some_iff.1 hj).1]; exact hj
  exact ⟨h.bel, fun j u hj => h.this j u (hl j u hj), fun i j u v hi hj => h.apart i j u v (hl i u hi) (hl j v hj)⟩

def flatS (l : List SD) : List Value := l.flatMap fun s => (stC s).toList
theorem flatS_len : ∀ l : List SD, (flatS l).length = l.length * 5
  | [] => rfl
  | s :: l => by
    have := flatS_len l
    simp only [flatS, List.flatMap_cons, List.length_append, List.length_cons] at this ⊢
    rw [this]; simp [stC]; omega
theorem flatS_app (l m : List SD) : flatS (l ++ m) = flatS l ++ flatS m := by simp [flatS, List.flatMap_append]
theorem flatS_get : ∀ (l : List SD) (k i : Nat), k < l.length → i < 5 → (flatS l)[k * 5 + i]? = (stC (l.getD k sd0))[i]?
  | [], k, i, hk, _ => by simp at hk
  | s :: l, 0, i, _, hi => by
    simp only [flatS, List.flatMap_cons, Nat.zero_mul, Nat.zero_add]
    rw [List.getElem?_append_left (by simp [stC]; omega)]
    simp
  | s :: l, k + 1, i, hk, hi => by
    have ih := flatS_get l k i (by simpa using hk) hi
    simp only [flatS, List.flatMap_cons] at ih ⊢
    rw [List.getElem?_append_right (by simp [stC]; omega)]
    have e : (k + 1) * 5 + i - (stC s).toList.length = k * 5 + i := by simp [stC]; omega
    rw [e, ih]
    rfl
theorem flatS_one (l : List SD) : ∀ v ∈ flatS l, v.oneCell' = true := by
  intro v hv
  simp only [flatS, List.mem_flatMap] at hv
  obtain ⟨s, _, hs⟩ := hv
  simp [stC] at hs
  rcases hs with rfl | rfl | rfl | rfl | rfl <;> rfl
theorem StAt.news {w : World} {A : Option Addr} {l : List SD} (h : StAt w A l) (hp : 0 < l.length) : ∃ ad, A = some ad ∧ ∀ j u, (flatS l)[j]? = some u → w.cell? (ad.add j) = some u := by
  obtain ⟨b, o, rfl, _⟩ := h 0 hp
  refine ⟨_, rfl, fun j u hu => ?_⟩
  have hj : j < l.length * 5 := by rw [← flatS_len]; exact (List.getElem?_eq_some_iff.1 hu).1
  have hq : j = j / 5 * 5 + j % 5 := by omega
  obtain ⟨b', o', e, _, hc, _⟩ := h (j / 5) (by omega)
  cases e
  rw [hq, flatS_get l _ _ (by omega) (by omega)] at hu
  have e1 : (⟨b, o, none⟩ : Addr).add j = ⟨b, o + j / 5 * 5 + j % 5, none⟩ := by
    rw [Addr.add_mid]; congr 1; omega
  rw [e1]
  generalize l.getD (j / 5) sd0 = s at hc hu
  have h5 : j % 5 < 5 := by omega
  generalize j % 5 = i at hu h5 ⊢
  match i, h5 with
  | 0, _ => rw [← hu]; exact hc.c0
  | 1, _ => rw [← hu]; exact hc.c1
  | 2, _ => rw [← hu]; exact hc.c2
  | 3, _ => rw [← hu]; exact hc.c3
  | 4, _ => rw [← hu]; exact hc.c4
end Go.Proofs.YthfnncahmccgkaaGreatDoor

namespace Go.Proofs.YthfnncahmccgkaaGreatDoor
open Go Go.RowKit Go.Maps
set_option maxRecDepth 100000
set_option linter.unusedSimpArgs false
set_option linter.unusedVariables false

theorem boot_off {S : DS} (ho : S.off = true) (L : List Int) : (S.boot L).off = false := by unfold DS.boot; rw [if_pos ho]
theorem boot_clean {S : DS} (h : S.Ok) (ho : S.off = true) (L : List Int) : (S.boot L).now = (S.boot L).was ∧ (S.boot L).wet = List.replicate (S.boot L).was.length false := by
  have hc := DS.sts_clean h (keptN L)
  have hl := DS.sts_len (kf := keptN L) (dirtyL S.wet) 0 S
  unfold DS.boot
  rw [if_pos ho]
  exact ⟨hc.2, by rw [hc.1]; show _ = List.replicate (S.sts (keptN L) (dirtyL S.wet) 0).was.length false; rw [hl]⟩
theorem dL_rep (n : Nat) : dirtyL (List.replicate n false) = [] := by
  unfold dirtyL
  rw [List.filter_eq_nil_iff]
  intro i hi
  rw [List.getD_eq_getElem?_getD, List.getElem?_replicate]
  split <;> simp
theorem spl_getD (m : Nat) {a b : List UInt8} (ha : a.length = 128) (hb : b.length = 128) (j : Nat) (hj : j < 128) : (spl m a b).getD j 0 = a.getD j 0 ∨ (spl m a b).getD j 0 = b.getD j 0 := by
  unfold spl
  rw [List.getD_eq_getElem?_getD, List.getD_eq_getElem?_getD, List.getD_eq_getElem?_getD]
  by_cases h : j < m
  · left
    rw [List.getElem?_append_left (by rw [List.length_take]; omega), List.getElem?_take_of_lt h]
  · right
    have hl : (a.take m).length = m := by rw [List.length_take]; omega
    rw [List.getElem?_append_right (by omega), List.getElem?_drop, hl, show m + (j - m) = j by omega]
theorem kept_ok {S : DS} (h : S.Ok) (ho : S.off = true) (L : List Int) : KeptOK (S.boot L) S.was S.now (dL S.wet) := by
  have hl := (boot_len S L).1
  have hnow := (boot_clean h ho L).1
  have hb : ∀ i, (S.boot L).was.getD i [] = (S.sts (keptN L) (dirtyL S.wet) 0).was.getD i [] := fun i => by unfold DS.boot; rw [if_pos ho]
  refine ⟨boot_off ho L, hl.symm, by rw [hl, h.hn], h.boot L, fun i hi => h.was_len hi, fun i hi => h.now_len hi, fun k hk => ?_, fun i hi j hj => ?_⟩
  · refine ⟨(dirtyL S.wet).getD k 0, getD_dL _ _, ?_⟩
    rw [dL_length] at hk
    refine h.dirty _ ?_
    rw [List.getD_eq_getElem?_getD, List.getElem?_eq_getElem hk]
    exact List.getElem_mem hk
  · rw [hnow, hb]
    have key := DS.sts_at (kf := keptN L) (dirtyL S.wet) 0 S (nodup_dirtyL _) h h.dirty i
    by_cases hm : i ∈ dirtyL S.wet
    · obtain ⟨k, hk⟩ := List.getElem?_of_mem hm
      rw [(key.2 k hk).1]
      rcases spl_getD (keptN L (0 + k)) (h.now_len hi) (h.was_len hi) j hj with e | e
      · exact .inr ⟨by unfold dL; exact List.mem_map.2 ⟨i, hm, rfl⟩, e⟩
      · exact .inl e
    · rw [(key.1 hm).1]
      exact .inl rfl

def e1D : SD := ⟨2, 1, 0, 0, [], none, 0⟩
def e2D : SD := ⟨0, 0, 99, 0, [], none, 0⟩
def e3D (K : List Int) (kA : Option Addr) (kc : Nat) : SD := ⟨3, 0, 0, 0, K, kA, kc⟩
/-- What lies in the row; and what is done. -/
def rowS (l : List SD) : List SD := l ++ [e1D, ⟨1, 0, 0, 0, [], none, 0⟩, ⟨3, 0, 0, 0, [], none, 0⟩]
def effS (l : List SD) (K : List Int) (kA : Option Addr) (kc : Nat) : List SD := l ++ [e1D, e2D, e3D K kA kc]
/-- The last steps. -/
structure KE (ln k : Nat) (S : DS) : Prop where
  a : k = ln + 1 → S.off = true ∨ S.left = 1
  b : k = ln + 2 → S.off = true
  c : k = ln + 3 → S.off = false ∧ dirtyL S.wet = []
theorem eff_low {l : List SD} {K : List Int} {kA : Option Addr} {kc k : Nat} (h : k < l.length) : (effS l K kA kc).getD k sd0 = l.getD k sd0 ∧ (rowS l).getD k sd0 = l.getD k sd0 := by
  unfold effS rowS
  simp only [List.getD_eq_getElem?_getD]
  rw [List.getElem?_append_left h, List.getElem?_append_left h]
  exact ⟨rfl, rfl⟩
theorem eff_high {l : List SD} {K : List Int} {kA : Option Addr} {kc : Nat} (i : Nat) : (effS l K kA kc).getD (l.length + i) sd0 = [e1D, e2D, e3D K kA kc].getD i sd0 ∧ (rowS l).getD (l.length + i) sd0 = ([e1D, ⟨1, 0, 0, 0, [], none, 0⟩, ⟨3, 0, 0, 0, [], none, 0⟩] : List SD).getD i sd0 := by
  unfold effS rowS
  simp only [List.getD_eq_getElem?_getD]
  rw [List.getElem?_append_right (by omega), List.getElem?_append_right (by omega), Nat.add_sub_cancel_left]
  exact ⟨rfl, rfl⟩
theorem KE.step {l : List SD} {K : List Int} {kA : Option Addr} {kc k : Nat} {S : DS} (h : KE l.length k S) (hS : S.Ok) (hk : k < l.length + 3) : KE l.length (k + 1) (S.step ((effS l K kA kc).getD k sd0)) := by
  rcases Nat.lt_or_ge k l.length with h0 | h0
  · exact ⟨fun e => by omega, fun e => by omega, fun e => by omega⟩
  obtain ⟨i, rfl⟩ : ∃ i, k = l.length + i := ⟨k - l.length, by omega⟩
  have hi : i < 3 := by omega
  rw [(eff_high i).1]
  match i, hi with
  | 0, _ => exact ⟨fun _ => .inr rfl, fun e => by omega, fun e => by omega⟩
  | 1, _ =>
    refine ⟨fun e => by omega, fun _ => ?_, fun e => by omega⟩
    show (S.wr 0 (stB 0 99)).off = true
    rcases h.a rfl with ho | hl
    · rcases wr_cases S 0 (stB 0 99) with ⟨_, h2, _⟩ | ⟨_, h2⟩
      · rw [ho] at h2; cases h2
      · rw [h2]; exact ho
    · cases ho : S.off with
      | true =>
        rcases wr_cases S 0 (stB 0 99) with ⟨_, h2, _⟩ | ⟨_, h2⟩
        · rw [ho] at h2; cases h2
        · rw [h2]; exact ho
      | false =>
        have hh : S.has 0 = true := DS.has_iff.2 ⟨by omega, by have := hS.n1; omega⟩
        have he : S.wrE 0 (stB 0 99) = 0 := by simp [DS.wrE, ho, hh, stB_zero, fullL_length]
        unfold DS.wr
        rw [if_pos he]
        simp [DS.did, DS.put, hl]
  | 2, _ =>
    refine ⟨fun e => by omega, fun e => by omega, fun _ => ?_⟩
    have ho := h.b rfl
    show (S.boot K).off = false ∧ dirtyL (S.boot K).wet = []
    exact ⟨boot_off ho K, by rw [(boot_clean hS ho K).2, dL_rep]⟩
theorem step_ok {S : DS} (h : S.Ok) {s : SD} (ha : (-9223372036854775808 : Int) ≤ s.a ∧ s.a ≤ 9223372036854775807) : (S.step s).Ok := by
  rcases step_cases S s with ⟨_, e⟩ | ⟨_, e⟩ | ⟨_, e⟩ | ⟨_, e⟩ | ⟨_, _, _, _, e⟩
  · rw [e]; exact h.wr _ _
  · rw [e]; exact h.sync
  · rw [e]; exact h.fail ha
  · rw [e]; exact h.boot _
  · rw [e]; exact h
end Go.Proofs.YthfnncahmccgkaaGreatDoor

namespace Go.Proofs.YthfnncahmccgkaaGreatDoor
open Go Go.RowKit Go.Maps
set_option maxRecDepth 100000
set_option linter.unusedSimpArgs false
set_option linter.unusedVariables false

def rCells (n g1 c1 g2 c2 g3 c3 N : Nat) (left : Int) (fails off : Bool) : Array Value := #[.slice (some ⟨g1, 0, none⟩) n c1, .slice (some ⟨g2, 0, none⟩) n c2, .slice (some ⟨g3, 0, none⟩) n c3, .int .i64 (N : Int), .int .i64 left, .bool fails, .bool off]
/-- What is left, and whether it is counted. -/
structure RL (S : DS) (left : Int) (fails : Bool) : Prop where
  b : (-9223372036854775808 : Int) ≤ left ∧ left ≤ 9223372036854775807
  on : S.off = false → fails = decide (0 < S.left) ∧ (0 < S.left → left = S.left)
/-- The reference's disk lies at block q, its rows at g1, g2, g3. -/
structure RD (w : World) (q g1 g2 g3 : Nat) (S : DS) : Prop where
  ok : S.Ok
  box : ∃ c1 c2 c3 left fails, w.heap[q]? = some (.cells (rCells S.was.length g1 c1 g2 c2 g3 c3 S.ops left fails S.off) 95 (0, 0)) ∧ XR w 9 g1 c1 (txsD S.was) ∧ XR w 9 g2 c2 (txsD S.now) ∧ XR w 4 g3 c3 (bls S.wet) ∧ RL S left fails
  ne : q ≠ g1 ∧ q ≠ g2 ∧ q ≠ g3 ∧ g1 ≠ g2 ∧ g1 ≠ g3 ∧ g2 ≠ g3
theorem RD.lts {w : World} {q g1 g2 g3 : Nat} {S : DS} (h : RD w q g1 g2 g3 S) : ∀ b ∈ [q, g1, g2, g3], b < w.heap.size := fun b hb => by
  obtain ⟨c1, c2, c3, left, fails, hq, h1, h2, h3, _⟩ := h.box
  simp at hb
  rcases hb with rfl | rfl | rfl | rfl
  · exact lt_of_blk hq
  · exact h1.lt
  · exact h2.lt
  · exact h3.lt
theorem RD.of_blocks {w w' : World} {q g1 g2 g3 : Nat} {S : DS} (h : RD w q g1 g2 g3 S) (hb : ∀ b ∈ [q, g1, g2, g3], w'.heap[b]? = w.heap[b]?) : RD w' q g1 g2 g3 S := by
  obtain ⟨c1, c2, c3, left, fails, hq, h1, h2, h3, hr⟩ := h.box
  exact ⟨h.ok, ⟨c1, c2, c3, left, fails, (hb q (by simp)).trans hq, h1.of_block (hb g1 (by simp)), h2.of_block (hb g2 (by simp)), h3.of_block (hb g3 (by simp)), hr⟩, h.ne⟩
/-- .. as a thing. -/
def rdOb (q g1 g2 g3 : Nat) (S : DS) : Ob := ⟨[q, g1, g2, g3], fun w => RD w q g1 g2 g3 S⟩
theorem rdOb_stays (q g1 g2 g3 : Nat) (S : DS) : (rdOb q g1 g2 g3 S).Stays := fun W W' h hP => RD.of_blocks (w := W) hP (fun b hb => (h b hb).2)
theorem RL.did {S T : DS} {left : Int} {fails : Bool} (h : RL S left fails) (ho : S.off = false) (h2 : T.left = if 0 < S.left then S.left - 1 else S.left) (h3 : T.off = if 0 < S.left then decide (S.left = 1) else S.off) :
    RL T (if fails then left - 1 else left) fails ∧ (if fails then left - 1 == 0 else false) = T.off := by
  obtain ⟨e1, e2⟩ := h.on ho
  have hb := h.b
  by_cases hl : 0 < S.left
  · have e3 := e2 hl
    rw [if_pos hl] at h2 h3
    have hf : fails = true := by rw [e1]; simpa using hl
    subst hf
    simp only [if_true]
    refine ⟨⟨by omega, fun hT => ⟨?_, fun _ => by omega⟩⟩, ?_⟩
    · rw [h3] at hT
      have : S.left ≠ 1 := by simpa using hT
      symm; simp; omega
    · rw [h3, e3]
      by_cases e : S.left = 1
      · rw [e]; rfl
      · rw [decide_eq_false e, beq_eq_false_iff_ne]; omega
  · rw [if_neg hl] at h2 h3
    have hf : fails = false := by rw [e1]; simpa using hl
    subst hf
    simp only [Bool.false_eq_true, if_false]
    exact ⟨⟨hb, fun _ => ⟨by rw [h2]; simpa using (by omega : S.left ≤ 0), fun h => by omega⟩⟩, by rw [h3, ho]⟩

section
variable {w : World} {q n g1 c1 g2 c2 g3 c3 N : Nat} {left : Int} {fails off : Bool} (hg : w.heap[q]? = some (.cells (rCells n g1 c1 g2 c2 g3 c3 N left fails off) 95 (0, 0)))
include hg
set_option maxHeartbeats 1000000 in
theorem did_r (hN : N < 4611686018427387904) (hl : fails = true → 0 < left ∧ left ≤ 9223372036854775807) :
    Calls Tryz.prog 72 #[dp q] w fun e w' => e = .returned (.tuple #[]) ∧ w'.heap[q]? = some (.cells (rCells n g1 c1 g2 c2 g3 c3 (N + 1) (if fails then left - 1 else left) fails (if fails then left - 1 == 0 else off)) 95 (0, 0)) ∧ Kp [q] w w' := by
  have k3 : w.cell? ⟨q, 3, none⟩ = some (.int .i64 (N : Int)) := cellAt hg 3
  have k4 : w.cell? ⟨q, 4, none⟩ = some (.int .i64 left) := cellAt hg 4
  have k5 : w.cell? ⟨q, 5, none⟩ = some (.bool fails) := cellAt hg 5
  have k6 : w.cell? ⟨q, 6, none⟩ = some (.bool off) := cellAt hg 6
  have f3 := freeAt hg 3
  have f4 := freeAt hg 4
  have f6 := freeAt hg 6
  have hw : IntKind.i64.wrap ((N : Int) + 1) = (N : Int) + 1 := IntWalk.i64_in _ (by omega)
  have HG := Lib.hid hg
  clear hg
  go_enter Tryz.func72, Tryz.ntmps72
  cases fails with
  | false =>
    clear hl
    go_wp2_with fail
    go_end0
    exact ⟨rfl, by rw [blk_set HG.out]; simp [rCells], (Kp.refl _ _).setCell (by simp) _⟩
  | true =>
    have hl' := hl rfl
    have hw2 : IntKind.i64.wrap (left - 1) = left - 1 := IntWalk.i64_in _ (by omega)
    clear hl hl'
    go_wp2_with fail
    go_end0
    exact ⟨rfl, by rw [blk_set (blk_set (blk_set HG.out 3 _) 4 _) 6 _]; simp [rCells], (((Kp.refl _ _).setCell (by simp) _).setCell (by simp) _).setCell (by simp) _⟩
set_option maxHeartbeats 1000000 in
theorem fail_r {a : Int} :
    Calls Tryz.prog 53 #[dp q, .int .i64 a] w fun e w' => e = .returned (.tuple #[]) ∧ w'.heap[q]? = some (.cells (rCells n g1 c1 g2 c2 g3 c3 N a (decide (0 < a)) off) 95 (0, 0)) ∧ Kp [q] w w' := by
  have k4 : w.cell? ⟨q, 4, none⟩ = some (.int .i64 left) := cellAt hg 4
  have k5 : w.cell? ⟨q, 5, none⟩ = some (.bool fails) := cellAt hg 5
  have f4 := freeAt hg 4
  have f5 := freeAt hg 5
  have HG := Lib.hid hg
  clear hg
  go_enter Tryz.func53, Tryz.ntmps53
  go_wp2_with fail
  go_end0
  exact ⟨rfl, by rw [blk_set (blk_set HG.out 5 _) 4 _]; simp [rCells], ((Kp.refl _ _).setCell (by simp) _).setCell (by simp) _⟩
end
end Go.Proofs.YthfnncahmccgkaaGreatDoor

namespace Go.Proofs.YthfnncahmccgkaaGreatDoor
open Go Go.RowKit Go.Maps
set_option maxRecDepth 100000
set_option linter.unusedSimpArgs false
set_option linter.unusedVariables false

theorem fail_rd {w : World} {q g1 g2 g3 : Nat} {S : DS} (h : RD w q g1 g2 g3 S) {a : Int} (ha : (-9223372036854775808 : Int) ≤ a ∧ a ≤ 9223372036854775807) :
    Calls Tryz.prog 53 #[dp q, .int .i64 a] w fun e w' => e = .returned (.tuple #[]) ∧ RD w' q g1 g2 g3 (S.fail a) ∧ Kp [q] w w' := by
  obtain ⟨c1, c2, c3, left, fails, hq, h1, h2, h3, hr⟩ := h.box
  obtain ⟨n1, n2, n3, _⟩ := h.ne
  refine (fail_r hq (a := a)).mono fun e w' ⟨he, hq', hk⟩ => ⟨he, ⟨h.ok.fail ha, ⟨c1, c2, c3, a, _, hq', h1.of_block (hk.block _ h1.lt (by simp; omega)), h2.of_block (hk.block _ h2.lt (by simp; omega)), h3.of_block (hk.block _ h3.lt (by simp; omega)), ⟨ha, fun _ => ⟨rfl, fun _ => rfl⟩⟩⟩, h.ne⟩, hk⟩

set_option maxHeartbeats 2000000 in
theorem read_rd {w : World} {q g1 g2 g3 : Nat} {S : DS} (h : RD w q g1 g2 g3 S) (a : Int) :
    Calls Tryz.prog 96 #[dp q, .int .i64 a] w fun e w' => e = .returned (.tuple #[sv (S.rdV a), .int .i64 (S.rdE a)]) ∧ Below w.heap.size w w' := by
  obtain ⟨c1, c2, c3, left, fails, hq, h1, h2, h3, hr⟩ := h.box
  have k1 : w.cell? ⟨q, 1, none⟩ = some (.slice (some ⟨g2, 0, none⟩) S.was.length c2) := cellAt hq 1
  have k6 : w.cell? ⟨q, 6, none⟩ = some (.bool S.off) := cellAt hq 6
  have HOK := Lib.hid h.ok
  have H2 := Lib.hid h2
  have HRV := Lib.hid (show S.rdV a = if S.rdE a = 0 then S.now.getD a.toNat [] else [] from rfl)
  have HRE := Lib.hid (show S.rdE a = if S.off then 42 else if S.has a then 0 else 1 from rfl)
  have HHA := Lib.hid (DS.has_iff (S := S) (a := a))
  generalize hn : S.was.length = n at k1 HHA
  have HN := Lib.hid hn
  have hn2 : n ≤ 1024 := by have := h.ok.n2; omega
  clear h hq h1 h2 h3 hr hn
  generalize S.rdE a = re at HRV HRE ⊢
  generalize S.rdV a = rv at HRV ⊢
  go_enter Tryz.func96, Tryz.ntmps96
  cases hoff : S.off with
  | true =>
    rw [hoff] at k6
    have e1 : re = 42 := by rw [HRE.out, hoff]; rfl
    have e2 : rv = [] := by rw [HRV.out, e1]; rfl
    subst e1 e2
    clear hoff
    go_wp2_with fail
    go_ret2
    exact ⟨rfl, Below.refl _ _⟩
  | false =>
    rw [hoff] at k6
    by_cases ha0 : a < 0
    · have hh : S.has a = false := by
        cases hx : S.has a with
        | false => rfl
        | true => have := HHA.out.1 hx; omega
      have e1 : re = 1 := by rw [HRE.out, hoff, hh]; rfl
      have e2 : rv = [] := by rw [HRV.out, e1]; rfl
      subst e1 e2
      clear hoff hh
      go_wp2_with fail
      go_ret2
      exact ⟨rfl, Below.refl _ _⟩
    · by_cases ha1 : (n : Int) ≤ a
      · have hh : S.has a = false := by
          cases hx : S.has a with
          | false => rfl
          | true => have := HHA.out.1 hx; omega
        have e1 : re = 1 := by rw [HRE.out, hoff, hh]; rfl
        have e2 : rv = [] := by rw [HRV.out, e1]; rfl
        subst e1 e2
        clear hoff hh
        go_wp2_with fail
        go_ret2
        exact ⟨rfl, Below.refl _ _⟩
      · have hh : S.has a = true := HHA.out.2 ⟨by omega, by omega⟩
        obtain ⟨i, rfl⟩ : ∃ i : Nat, a = (i : Int) := ⟨a.toNat, by omega⟩
        have hil : i < S.now.length := by rw [HOK.out.hn, HN.out]; omega
        have hc := (H2.out.cell (j := i) (by rw [txsD_length]; exact hil)).1
        rw [txsD_getD hil] at hc
        have e1 : re = 0 := by rw [HRE.out, hoff, hh]; rfl
        have e2 : rv = S.now.getD i [] := by rw [HRV.out, e1]; rfl
        have hin : (i : Int) < (n : Int) := by omega
        have hi0 : (0 : Int) ≤ (i : Int) := by omega
        have hni : ¬ (n : Int) ≤ (i : Int) := ha1
        have hn0 : ¬ (i : Int) < 0 := ha0
        subst e1
        rw [← e2] at hc
        clear hoff hh e2 hil HRV HRE HHA ha0 ha1
        go_wp2_with fail
        go_ret2
        exact ⟨rfl, Below.refl _ _⟩
end Go.Proofs.YthfnncahmccgkaaGreatDoor

namespace Go.Proofs.YthfnncahmccgkaaGreatDoor
open Go Go.RowKit Go.Maps
set_option maxRecDepth 100000
set_option linter.unusedSimpArgs false
set_option linter.unusedVariables false

set_option maxHeartbeats 2000000 in
theorem write_rd {w : World} {q g1 g2 g3 : Nat} {S : DS} (h : RD w q g1 g2 g3 S) (hops : S.ops < 4611686018427387904) (a : Int) (s : List UInt8) (hsl : s.length ≤ 140737488355328) :
    Calls Tryz.prog 95 #[dp q, .int .i64 a, sv s] w fun e w' => e = .returned (.int .i64 (S.wrE a s)) ∧ RD w' q g1 g2 g3 (S.wr a s) ∧ Kp [q, g2, g3] w w' := by
  have HH := Lib.hid h
  obtain ⟨c1, c2, c3, left, fails, hq, h1, h2, h3, hr⟩ := h.box
  have k1 : w.cell? ⟨q, 1, none⟩ = some (.slice (some ⟨g2, 0, none⟩) S.was.length c2) := cellAt hq 1
  have k2 : w.cell? ⟨q, 2, none⟩ = some (.slice (some ⟨g3, 0, none⟩) S.was.length c3) := cellAt hq 2
  have k6 : w.cell? ⟨q, 6, none⟩ = some (.bool S.off) := cellAt hq 6
  have HOK := Lib.hid h.ok
  have HQ := Lib.hid hq
  have H1 := Lib.hid h1
  have H2 := Lib.hid h2
  have H3 := Lib.hid h3
  have HR := Lib.hid hr
  have HRE := Lib.hid (show S.wrE a s = if S.off then 42 else if S.has a && decide (s.length = 128) then 0 else 1 from rfl)
  have HWR := Lib.hid (show S.wr a s = if S.wrE a s = 0 then (S.put a.toNat s).did else S from rfl)
  have HHA := Lib.hid (DS.has_iff (S := S) (a := a))
  have hlen : (str s).size = s.length := by show s.toArray.size = _; simp
  obtain ⟨hn1, hn2, hn3, _, _, hn4⟩ := h.ne
  have HNE := Lib.hid (show g2 ≠ q ∧ g3 ≠ q ∧ g1 ≠ q ∧ g1 ≠ g2 ∧ g1 ≠ g3 ∧ g2 ≠ g3 from ⟨fun e => hn2 e.symm, fun e => hn3 e.symm, fun e => hn1 e.symm, h.ne.2.2.2.1, h.ne.2.2.2.2.1, hn4⟩)
  generalize hn : S.was.length = n at k1 k2 HHA HQ
  have HN := Lib.hid hn
  have hn2' : n ≤ 1024 := by have := h.ok.n2; omega
  clear h hq h1 h2 h3 hr hn hn1 hn2 hn3 hn4
  go_enter Tryz.func95, Tryz.ntmps95
  cases hoff : S.off with
  | true =>
    rw [hoff] at k6
    have e1 : S.wrE a s = 42 := by rw [HRE.out, hoff]; rfl
    have HE1 := Lib.hid e1
    clear hoff e1
    go_wp2_with fail
    go_ret
    exact ⟨by rw [HE1.out]; rfl, by rw [HWR.out, HE1.out]; exact HH.out, Kp.refl _ _⟩
  | false =>
    rw [hoff] at k6 HQ
    by_cases ha0 : a < 0
    · have hh : S.has a = false := by
        cases hx : S.has a with
        | false => rfl
        | true => have := HHA.out.1 hx; omega
      have HE1 := Lib.hid (show S.wrE a s = 1 by rw [HRE.out, hoff, hh]; rfl)
      clear hoff hh
      go_wp2_with fail
      go_ret
      exact ⟨by rw [HE1.out]; rfl, by rw [HWR.out, HE1.out]; exact HH.out, Kp.refl _ _⟩
    · by_cases ha1 : (n : Int) ≤ a
      · have hh : S.has a = false := by
          cases hx : S.has a with
          | false => rfl
          | true => have := HHA.out.1 hx; omega
        have HE1 := Lib.hid (show S.wrE a s = 1 by rw [HRE.out, hoff, hh]; rfl)
        clear hoff hh
        go_wp2_with fail
        go_ret
        exact ⟨by rw [HE1.out]; rfl, by rw [HWR.out, HE1.out]; exact HH.out, Kp.refl _ _⟩
      · by_cases hs : s.length = 128
        · have hh : S.has a = true := HHA.out.2 ⟨by omega, by omega⟩
          obtain ⟨i, rfl⟩ : ∃ i : Nat, a = (i : Int) := ⟨a.toNat, by omega⟩
          have HE1 := Lib.hid (show S.wrE (i : Int) s = 0 by rw [HRE.out, hoff, hh, decide_eq_true hs]; rfl)
          have hilN : i < S.now.length := by rw [HOK.out.hn, HN.out]; omega
          have hilW : i < S.wet.length := by rw [HOK.out.hw, HN.out]; omega
          obtain ⟨hc2, hf2⟩ := H2.out.cell (j := i) (by rw [txsD_length]; exact hilN)
          obtain ⟨x2, hx2⟩ : ∃ x, x = (txsD S.now).getD i undef := ⟨_, rfl⟩
          rw [← hx2] at hc2
          have hK2 : Kp [g2] w (w.setCell ⟨g2, i, none⟩ (.string (str s))) := (Kp.refl _ _).setCell (by simp) _
          have h3' := H3.out.of_block (hK2.block g3 H3.out.lt (by simp; exact fun e => HNE.out.2.2.2.2.2 e.symm))
          obtain ⟨hc3, hf3⟩ := h3'.cell (j := i) (by rw [bls_length]; exact hilW)
          have k2b : (w.setCell ⟨g2, i, none⟩ (.string (str s))).cell? ⟨q, 2, none⟩ = some (.slice (some ⟨g3, 0, none⟩) n c3) := (World.cell?_of_block (w := w) (hK2.block q (lt_of_blk HQ.out) (by simp; exact fun e => HNE.out.1 e.symm))).trans k2
          have hc3o := H3.out.cell (j := i) (by rw [bls_length]; exact hilW)
          obtain ⟨x3, hx3⟩ : ∃ x, x = (bls S.wet).getD i undef := ⟨_, rfl⟩
          rw [← hx3] at hc3 hc3o
          obtain ⟨hc3o1, hc3o2⟩ := hc3o
          have hk13 : Kp [g2, g3] w ((w.setCell ⟨g2, i, none⟩ (.string (str s))).setCell ⟨g3, i, none⟩ (.bool true)) := ((Kp.refl _ _).setCell (by simp) _).setCell (by simp) _
          have HK13 := Lib.hid hk13
          have HQ2 := Lib.hid ((hk13.block q (lt_of_blk HQ.out) (by simp; exact ⟨fun e => HNE.out.1 e.symm, fun e => HNE.out.2.1 e.symm⟩)).trans HQ.out)
          have HX1 := Lib.hid (H1.out.of_block (hk13.block g1 H1.out.lt (by simp; exact ⟨HNE.out.2.2.2.1, HNE.out.2.2.2.2.1⟩)))
          have HX3 := Lib.hid (h3'.set (j := i) (by rw [bls_length]; exact hilW) (.bool true))
          have HX2 := Lib.hid ((H2.out.set (j := i) (by rw [txsD_length]; exact hilN) (.string (str s))).of_block (w' := (w.setCell ⟨g2, i, none⟩ (.string (str s))).setCell ⟨g3, i, none⟩ (.bool true)) (((Kp.refl [g3] _).setCell (by simp) _).block g2 (by have := H2.out.lt; simpa [World.setCell] using this) (by simp; exact HNE.out.2.2.2.2.2)))
          have HLT := Lib.hid (show fails = true → 0 < left ∧ left ≤ 9223372036854775807 from fun hf => by
            obtain ⟨q1, q2⟩ := HR.out.on hoff
            rw [hf] at q1
            have h0 : 0 < S.left := by simpa using q1.symm
            exact ⟨by rw [q2 h0]; exact h0, HR.out.b.2⟩)
          have HRT := Lib.hid (HR.out.did hoff (T := (S.put i s).did) rfl rfl)
          have HOT := Lib.hid (HOK.out.put (i := i) (by rw [HN.out]; omega) hs).did
          rw [hs] at hlen
          have hin : (i : Int) < (n : Int) := by omega
          have hi0 : (0 : Int) ≤ (i : Int) := by omega
          have hni : ¬ (n : Int) ≤ (i : Int) := ha1
          have hn0 : ¬ (i : Int) < 0 := ha0
          clear hoff hh hilN hilW hx2 hx3 hK2 h3' hk13 HRE HHA ha0 ha1 hs
          go_wp2_with (go_at_call 72; refine (did_r HQ2.out hops HLT.out).mono ?_; rintro e w2 ⟨rfl, hq2, hkk⟩)
          go_ret
          refine ⟨by rw [HE1.out]; rfl, ?_, (show Kp [q, g2, g3] w _ from HK13.out.mono (by simp)).trans hkk (fun k hk _ => by simp at hk; simp [hk])⟩
          rw [HWR.out, if_pos HE1.out]
          show RD w2 q g1 g2 g3 (S.put i s).did
          have hw2 : ∀ b, b < ((w.setCell ⟨g2, i, none⟩ (.string (str s))).setCell ⟨g3, i, none⟩ (.bool true)).heap.size → b ≠ q → w2.heap[b]? = ((w.setCell ⟨g2, i, none⟩ (.string (str s))).setCell ⟨g3, i, none⟩ (.bool true)).heap[b]? := fun b hb hne => hkk.block b hb (by simp; exact hne)
          have hx2 : XR ((w.setCell ⟨g2, i, none⟩ (.string (str s))).setCell ⟨g3, i, none⟩ (.bool true)) 9 g2 c2 (txsD (S.now.set i s)) := by rw [← txsD_set]; exact HX2.out
          have hx3 : XR ((w.setCell ⟨g2, i, none⟩ (.string (str s))).setCell ⟨g3, i, none⟩ (.bool true)) 4 g3 c3 (bls (S.wet.set i true)) := by rw [← bls_set]; exact HX3.out
          refine ⟨HOT.out, ⟨c1, c2, c3, _, fails, ?_, HX1.out.of_block (hw2 g1 HX1.out.lt HNE.out.2.2.1), hx2.of_block (hw2 g2 hx2.lt HNE.out.1), hx3.of_block (hw2 g3 hx3.lt HNE.out.2.1), HRT.out.1⟩, HH.out.ne⟩
          have e := HRT.out.2
          show w2.heap[q]? = some (.cells (rCells S.was.length g1 c1 g2 c2 g3 c3 (S.ops + 1) _ fails (S.put i s).did.off) 95 (0, 0))
          rw [← e, hq2, ← HN.out]
        · have hs2 : ((str s).size : Int) ≠ 128 := by rw [hlen]; omega
          have HE1 := Lib.hid (show S.wrE a s = 1 by rw [HRE.out, hoff, decide_eq_false hs]; simp)
          have hn0 : ¬ a < 0 := ha0
          clear hoff
          go_wp2_with fail
          go_ret
          exact ⟨by rw [HE1.out]; rfl, by rw [HWR.out, HE1.out]; exact HH.out, Kp.refl _ _⟩
end Go.Proofs.YthfnncahmccgkaaGreatDoor

namespace Go.Proofs.YthfnncahmccgkaaGreatDoor
open Go Go.RowKit Go.Maps
set_option maxRecDepth 100000
set_option linter.unusedSimpArgs false
set_option linter.unusedVariables false

theorem info9r : (Tryz.prog.info? 9).map (fun i => (i.zero, i.size, i.bytes)) = some (some (.string ⟨#[]⟩), 1, 16) := by kernel_rfl
theorem info4r : (Tryz.prog.info? 4).map (fun i => (i.zero, i.size, i.bytes)) = some (some (.bool false), 1, 1) := by kernel_rfl
theorem txsD_cell (xs : List (List UInt8)) : ∀ v ∈ txsD xs, v.oneCell' = true := by
  intro v hv
  simp only [txsD, List.mem_map] at hv
  obtain ⟨s, _, rfl⟩ := hv
  rfl
theorem bls_cell (xs : List Bool) : ∀ v ∈ bls xs, v.oneCell' = true := by
  intro v hv
  simp only [bls, List.mem_map] at hv
  obtain ⟨s, _, rfl⟩ := hv
  rfl
theorem XR.news {w : World} {e : TypeId} {g cap : Nat} {xs : List Value} (hx : XR w e g cap xs) (o : Obj) : ∃ ad, some (⟨g, 0, none⟩ : Addr) = some ad ∧ ∀ j u, xs[j]? = some u → (w.alloc o).cell? (ad.add j) = some u := by
  refine ⟨_, rfl, fun j u hu => ?_⟩
  have hj : j < xs.length := (List.getElem?_eq_some_iff.1 hu).1
  have hx' := hx.of_block (w' := w.alloc o) (Lib.alloc_old w _ g hx.lt)
  rw [Addr.add_mid, Nat.zero_add, (hx'.cell hj).1, ← hu, List.getD_eq_getElem?_getD, List.getElem?_eq_getElem hj]; rfl
theorem fresh_t (w : World) {g cap n c : Nat} {xs : List (List UInt8)} (hx : XR w 9 g cap (txsD xs)) (hn : n = xs.length) (hp : 0 < n) (hn2 : n ≤ 100000) :
    ∃ g' cap' w', (Builtin.append_ #[26, 26] 26 #[.slice (some ⟨w.heap.size, 0, none⟩) 0 0, .slice (some ⟨g, 0, none⟩) n c]).run Tryz.prog (w.alloc (.cells #[] 9)) = .ok (.slice (some ⟨g', 0, none⟩) n cap') w' ∧ XR w' 9 g' cap' (txsD xs) ∧ Below w.heap.size w w' ∧ w.heap.size ≤ g' :=
  run_fresh (z := .string ⟨#[]⟩) (by_ := 16) Tryz.underlying26 info9r rfl (by omega) w (by rw [txsD_length]; exact hn) hp (by omega) (hx.news _) (txsD_cell xs)
theorem fresh_b (w : World) {g cap n c : Nat} {xs : List Bool} (hx : XR w 4 g cap (bls xs)) (hn : n = xs.length) (hp : 0 < n) (hn2 : n ≤ 100000) :
    ∃ g' cap' w', (Builtin.append_ #[93, 93] 93 #[.slice (some ⟨w.heap.size, 0, none⟩) 0 0, .slice (some ⟨g, 0, none⟩) n c]).run Tryz.prog (w.alloc (.cells #[] 4)) = .ok (.slice (some ⟨g', 0, none⟩) n cap') w' ∧ XR w' 4 g' cap' (bls xs) ∧ Below w.heap.size w w' ∧ w.heap.size ≤ g' :=
  run_fresh (z := .bool false) (by_ := 1) Tryz.underlying93 info4r rfl (by omega) w (by rw [bls_length]; exact hn) hp (by omega) (hx.news _) (bls_cell xs)

/-- The reference's disk has turned: its blocks are the old ones, or new ones. -/
def RT (w w' : World) (q g1 g2 g3 : Nat) (T : DS) : Prop := ∃ h1 h2 h3, RD w' q h1 h2 h3 T ∧ Kp [q, g1, g2, g3] w w' ∧ ∀ b ∈ [q, h1, h2, h3], b ∈ [q, g1, g2, g3] ∨ w.heap.size ≤ b
theorem RT.same {w w' : World} {q g1 g2 g3 : Nat} {T : DS} (h : RD w' q g1 g2 g3 T) (hk : Kp [q, g1, g2, g3] w w') : RT w w' q g1 g2 g3 T := ⟨g1, g2, g3, h, hk, fun b hb => .inl hb⟩

set_option maxHeartbeats 4000000 in
theorem sync_rd {w : World} {q g1 g2 g3 : Nat} {S : DS} (h : RD w q g1 g2 g3 S) (hops : S.ops < 4611686018427387904) :
    Calls Tryz.prog 52 #[dp q] w fun e w' => e = .returned (.int .i64 S.offE) ∧ RT w w' q g1 g2 g3 S.sync := by
  have HH := Lib.hid h
  obtain ⟨c1, c2, c3, left, fails, hq, h1, h2, h3, hr⟩ := h.box
  have k1 : w.cell? ⟨q, 1, none⟩ = some (.slice (some ⟨g2, 0, none⟩) S.was.length c2) := cellAt hq 1
  have k6 : w.cell? ⟨q, 6, none⟩ = some (.bool S.off) := cellAt hq 6
  have HOK := Lib.hid h.ok
  have HQ := Lib.hid hq
  have H2 := Lib.hid h2
  have HR := Lib.hid hr
  have HRE := Lib.hid (show S.offE = if S.off then 42 else 0 from rfl)
  have HWR := Lib.hid (show S.sync = if S.off then S else (S.sts (fun _ => 128) (dirtyL S.wet) 0).did from rfl)
  generalize hn : S.was.length = n at k1 HQ
  have HN := Lib.hid hn
  have hn2 : n ≤ 1024 := by have := h.ok.n2; omega
  have hn1 : 1 ≤ n := by have := h.ok.n1; omega
  have HNN := Lib.hid (show n = S.now.length by rw [h.ok.hn]; exact hn.symm)
  have HLT0 := Lib.hid h2.lt
  clear h hq h1 h2 h3 hr hn
  go_enter Tryz.func52, Tryz.ntmps52
  cases hoff : S.off with
  | true =>
    rw [hoff] at k6
    have HE1 := Lib.hid (show S.offE = 42 by rw [HRE.out, hoff]; rfl)
    have HW1 := Lib.hid (show S.sync = S by rw [HWR.out, if_pos hoff])
    clear hoff
    go_wp2_with fail
    go_ret
    exact ⟨by rw [HE1.out]; rfl, by rw [HW1.out]; exact .same HH.out (Kp.refl _ _)⟩
  | false =>
    rw [hoff] at k6 HQ
    have HE1 := Lib.hid (show S.offE = 0 by rw [HRE.out, hoff]; rfl)
    have HSE := Lib.hid (DS.sync_eq HOK.out hoff)
    have HOT := Lib.hid HOK.out.sync
    have HLT := Lib.hid (show fails = true → 0 < left ∧ left ≤ 9223372036854775807 from fun hf => by
      obtain ⟨q1, q2⟩ := HR.out.on hoff
      rw [hf] at q1
      have h0 : 0 < S.left := by simpa using q1.symm
      exact ⟨by rw [q2 h0]; exact h0, HR.out.b.2⟩)
    have HRT := Lib.hid (HR.out.did hoff (T := ({ S with was := S.now, now := S.now, wet := List.replicate S.was.length false } : DS).did) rfl rfl)
    have k1b : (w.alloc (.cells #[] 9)).cell? ⟨q, 1, none⟩ = some (.slice (some ⟨g2, 0, none⟩) n c2) := (World.cell?_of_block (w := w) (Lib.alloc_old w _ q (lt_of_blk HQ.out))).trans k1
    clear hoff HRE HWR
    go_wp2_with (at_builtin; obtain ⟨G1, C1, wa, hra, hxa, hba, hga⟩ := fresh_t (n := n) (c := c2) w H2.out HNN.out (by omega) (by omega); refine wpList_builtin2_run _ rfl .append Builtin.append_ _ _ _ _ rfl (fun _ _ _ => rfl) _ _ rfl rfl hra ?_; have HXA := Lib.hid hxa; have HBA := Lib.hid hba; have HGA := Lib.hid hga; have hqa := (hba.block q (lt_of_blk HQ.out)).trans HQ.out; have j0 : wa.cell? ⟨q, 0, none⟩ = some (.slice (some ⟨g1, 0, none⟩) n c1) := cellAt hqa 0; have l0 := freeAt hqa 0; have j1 : wa.cell? ⟨q, 1, none⟩ = some (.slice (some ⟨g2, 0, none⟩) n c2) := cellAt hqa 1; have HQA := Lib.hid hqa; clear hra hxa hba hga hqa)
    rw [make_bools n hn2]
    simp only [Result.andThen]
    rw [Oper.upon_value]
    have hk1 : Kp [q] wa (wa.setCell ⟨q, 0, none⟩ (.slice (some ⟨G1, 0, none⟩) n C1)) := (Kp.refl _ _).setCell (by simp) _
    have hq1 := blk_set HQA.out 0 (.slice (some ⟨G1, 0, none⟩) n C1)
    generalize wa.setCell ⟨q, 0, none⟩ (.slice (some ⟨G1, 0, none⟩) n C1) = W1 at hk1 hq1 ⊢
    have hx := XR.new W1 4 (bls (List.replicate n false)) (by rw [bls_length, List.length_replicate]; omega)
    have hlen : (bls (List.replicate n false)).length = n := by rw [bls_length, List.length_replicate]
    rw [hlen] at hx
    have hk2 : Kp [q] wa (W1.alloc (.cells (bls (List.replicate n false)).toArray 4)) := hk1.alloc _
    have hq2 : (W1.alloc (.cells (bls (List.replicate n false)).toArray 4)).heap[q]? = some (.cells (rCells n G1 C1 g2 c2 g3 c3 S.ops left fails false) 95 (0, 0)) := (Lib.alloc_old W1 _ q (lt_of_blk hq1)).trans (by rw [hq1]; simp [rCells])
    have HG3 := Lib.hid hk1.size
    generalize W1.alloc (.cells (bls (List.replicate n false)).toArray 4) = w2 at hx hk2 hq2 ⊢
    generalize W1.heap.size = G3 at hx HG3 ⊢
    have j2 : w2.cell? ⟨q, 2, none⟩ = some (.slice (some ⟨g3, 0, none⟩) n c3) := cellAt hq2 2
    have l2 := freeAt hq2 2
    have hk3 : Kp [q] w2 (w2.setCell ⟨q, 2, none⟩ (.slice (some ⟨G3, 0, none⟩) n n)) := (Kp.refl _ _).setCell (by simp) _
    have hq3 : (w2.setCell ⟨q, 2, none⟩ (.slice (some ⟨G3, 0, none⟩) n n)).heap[q]? = some (.cells (rCells n G1 C1 g2 c2 G3 n S.ops left fails false) 95 (0, 0)) := by rw [blk_set hq2 2]; simp [rCells]
    have HK2 := Lib.hid hk2
    have HK3 := Lib.hid hk3
    have HQ3 := Lib.hid hq3
    have HX := Lib.hid hx
    clear hk1 hq1 hlen hx hk2 hq2 hk3 hq3 j0 l0 j1 k1b k1
    go_wp2_with (go_at_call 72; refine (did_r HQ3.out hops HLT.out).mono ?_; rintro e w4 ⟨rfl, hq4, hk4⟩)
    go_ret
    obtain ⟨n1, n2, n3, n4, n5, n6⟩ := HH.out.ne
    have hqw := lt_of_blk HQ.out
    have hK24 : Kp [q] w2 w4 := HK3.out.trans hk4 (fun k hk _ => hk)
    have hKa4 : Kp [q] wa w4 := HK2.out.trans hK24 (fun k hk _ => hk)
    have hKw4 : Kp [q] w w4 := (Kp.of_below HBA.out [q]).trans hKa4 (fun k hk _ => hk)
    have hG1 := HXA.out.lt
    have hGA := HGA.out
    have hwa := HBA.out.size
    have hG3 := HG3.out
    have h2lt := HLT0.out
    refine ⟨by rw [HE1.out]; rfl, G1, g2, G3, ⟨HOT.out, ?_, by omega, by omega, by omega, by omega, by omega, by omega⟩, hKw4.mono (by simp), fun b hb => ?_⟩
    · rw [HSE.out]
      refine ⟨C1, c2, n, _, fails, ?_, HXA.out.of_block (hKa4.block G1 hG1 (by simp; omega)), H2.out.of_block (hKw4.block g2 h2lt (by simp; omega)), ?_, HRT.out.1⟩
      · show w4.heap[q]? = some (.cells (rCells S.now.length G1 C1 g2 c2 G3 n (S.ops + 1) _ fails (({ S with was := S.now, now := S.now, wet := List.replicate S.was.length false } : DS).did).off) 95 (0, 0))
        have e := HRT.out.2
        rw [← e, hq4, ← HNN.out]
      · show XR w4 4 G3 n (bls (List.replicate S.was.length false))
        rw [HN.out]
        exact HX.out.of_block (hK24.block G3 HX.out.lt (by simp; omega))
    · simp at hb
      rcases hb with rfl | rfl | rfl | rfl
      · simp
      · right; omega
      · simp
      · right; omega
end Go.Proofs.YthfnncahmccgkaaGreatDoor

namespace Go.Proofs.YthfnncahmccgkaaGreatDoor
open Go Go.RowKit Go.Maps
set_option maxRecDepth 100000
set_option linter.unusedSimpArgs false
set_option linter.unusedVariables false

theorem info3r : (Tryz.prog.info? 3).map (fun i => (i.zero, i.size, i.bytes)) = some (some (.int .i64 0), 1, 8) := by kernel_rfl
theorem app_int {W : World} {B n : Nat} {v : Value} {L : List Int} (hown : W.ownsRow B 3 1 v n (L.map encZ)) (x : Int) (hB : B ≤ W.heap.size) (hn : n ≤ 1100) :
    ∃ g cap w', (Builtin.append_ #[46, 46] 46 #[v, .slice (some ⟨W.heap.size, 0, none⟩) 1 1]).run Tryz.prog (W.alloc (.cells #[.int .i64 x] 3)) = .ok (.slice (some ⟨g, 0, none⟩) (n + 1) cap) w' ∧
      w'.ownsRow B 3 1 (.slice (some ⟨g, 0, none⟩) (n + 1) cap) (n + 1) ((L ++ [x]).map encZ) ∧ ∃ T, Kp T W w' ∧ ∀ b ∈ T, B ≤ b := by
  obtain ⟨i, hi, hz0, hz1, hz2⟩ := info_parts info3r
  obtain ⟨g, cap, w', hr, h2, h3, h4, h5⟩ := run_append_lies (P := Tryz.prog) (W.alloc (.cells #[.int .i64 x] 3)) 46 46 B 3 i _ 1 8 Tryz.underlying46 hi hz0 hz1 hz2 rfl (by decide) _ n (L.map encZ) (hown.alloc _) ⟨W.heap.size, 0, none⟩ 1 1 [.int .i64 x] (by rfl) (World.news_of_block (cs := #[.int .i64 x]) (heap_alloc_new W _)) (by simp [Value.oneCell']) (by decide) (by unfold maxLen; omega) (by omega) (by simp; omega) _ rfl
  refine ⟨g, cap, w', hr, by simpa [encZ] using h2, (match v.ownBlock with | some b => [b] | none => []), ?_, ?_⟩
  · refine ((Kp.refl _ W).alloc _).grown h3 (fun k e hk => ?_)
    rw [e]; simp
  · intro b hb
    rcases hown.2 with ⟨e, _⟩ | ⟨g', cap', cur, e, hgb, _⟩
    · rw [e] at hb; simp [Value.ownBlock] at hb
    · rw [e] at hb; simp [Value.ownBlock] at hb; omega
def dLk (wet : List Bool) (k : Nat) : List Int := ((List.range k).filter (fun i => wet.getD i false)).map (fun i : Nat => (i : Int))
theorem dLk_all (wet : List Bool) : dLk wet wet.length = dL wet := rfl
theorem dLk_yes {wet : List Bool} {k : Nat} (h : wet.getD k false = true) : dLk wet (k + 1) = dLk wet k ++ [(k : Int)] := by
  unfold dLk
  rw [List.range_succ, List.filter_append, List.map_append]
  simp only [List.filter_cons, h, if_true, List.filter_nil, List.map_cons, List.map_nil]
theorem dLk_no {wet : List Bool} {k : Nat} (h : wet.getD k false = false) : dLk wet (k + 1) = dLk wet k := by
  unfold dLk
  rw [List.range_succ, List.filter_append, List.map_append]
  simp only [List.filter_cons, h, Bool.false_eq_true, if_false, List.filter_nil, List.map_nil, List.append_nil]
theorem dLk_le (wet : List Bool) (k : Nat) : (dLk wet k).length ≤ k := by
  unfold dLk
  rw [List.length_map]
  exact Nat.le_trans (List.length_filter_le _ _) (by simp)

set_option maxHeartbeats 4000000 in
theorem dirty_rd {w : World} {q g1 g2 g3 : Nat} {S : DS} (h : RD w q g1 g2 g3 S) :
    Calls Tryz.prog 73 #[dp q] w fun e w' => ∃ A c, e = .returned (.slice A (dL S.wet).length c) ∧ IR w' A (dL S.wet) ∧ (∀ a, A = some a → w.heap.size ≤ a.block) ∧ Below w.heap.size w w' := by
  obtain ⟨c1, c2, c3, left, fails, hq, h1, h2, h3, hr⟩ := h.box
  have HQ := Lib.hid (show ∀ W, Below w.heap.size w W → W.cell? ⟨q, 2, none⟩ = some (.slice (some ⟨g3, 0, none⟩) S.was.length c3) from fun W hW => cellAt ((hW.block q (lt_of_blk hq)).trans hq) 2)
  have HX := Lib.hid (show ∀ W, Below w.heap.size w W → XR W 4 g3 c3 (bls S.wet) from fun W hW => h3.of_block (hW.block g3 h3.lt))
  have hwl := h.ok.hw
  have hn2 := h.ok.n2
  generalize hn : S.was.length = n at HQ hn2 hwl
  have HWL := Lib.hid hwl
  generalize S.wet = wet at HX HWL ⊢
  have HFIN := Lib.hid (show dLk wet n = dL wet by rw [← dLk_all, HWL.out])
  clear h hq h1 h2 h3 hr hn hwl
  go_enter Tryz.func73, Tryz.ntmps73
  go_wp2_with fail
  go_loopw [3, 4] (fun ov kx W => ∃ k : Nat, kx = .int .i64 (k : Int) ∧ k ≤ n ∧ W.ownsRow w.heap.size 3 1 ov (dLk wet k).length ((dLk wet k).map encZ) ∧ Below w.heap.size w W) (fun _ kx _ => n - (RowKit.intOf kx).toNat)
  case atStart => exact ⟨0, rfl, by omega, World.ownsRow_nil _ _ _ _, Below.refl _ _⟩
  case round =>
    obtain ⟨k, rfl, hkn, hown, hB⟩ := hrel
    have HOW := Lib.hid hown
    have HB := Lib.hid hB
    have k2 := HQ.out _ hB
    by_cases hk : k < n
    · have hki : (k : Int) < (n : Int) := by omega
      have hk0 : (0 : Int) ≤ (k : Int) := by omega
      have hkw : IntKind.i64.wrap ((k : Int) + 1) = (k : Int) + 1 := IntWalk.i64_in _ (by omega)
      have hc := ((HX.out _ hB).cell (j := k) (by rw [bls_length, HWL.out]; exact hk)).1
      rw [bls_getD (by rw [HWL.out]; exact hk)] at hc
      clear hown hB
      cases hb : wet.getD k false with
      | true =>
        rw [hb] at hc
        have HD := Lib.hid (dLk_yes hb)
        have HL := Lib.hid (dLk_le wet k)
        clear hb
        go_wp2_with (at_builtin; obtain ⟨g, cap, w7, hr7, hown7, T7, hk7, hT7⟩ := app_int HOW.out (k : Int) HB.out.size (by have := HL.out; omega); refine wpList_builtin2_run _ rfl .append Builtin.append_ _ _ _ _ rfl (fun _ _ _ => rfl) _ _ rfl rfl hr7 ?_)
        go_roundw
        case rel => exact ⟨k + 1, by go_num, by omega, by rw [HD.out, List.length_append]; exact hown7, HB.out.trans (hk7.to_below hT7 HB.out.size)⟩
        case measure => simp [RowKit.intOf]; omega
      | false =>
        rw [hb] at hc
        have HD := Lib.hid (dLk_no hb)
        clear hb
        go_wp2_with fail
        go_roundw
        case rel => exact ⟨k + 1, by go_num, by omega, by rw [HD.out]; exact HOW.out, HB.out⟩
        case measure => simp [RowKit.intOf]; omega
    · have hki : ¬ (k : Int) < (n : Int) := by omega
      obtain rfl : n = k := by omega
      clear hown hB
      go_wp2_with fail
      go_ret
      have hr := HOW.out
      rw [HFIN.out] at hr
      obtain ⟨A, c, rfl, hI, hA⟩ := row_form hr
      exact ⟨A, ⟨c, rfl⟩, hI, hA, HB.out⟩
end Go.Proofs.YthfnncahmccgkaaGreatDoor

namespace Go.Proofs.YthfnncahmccgkaaGreatDoor
open Go Go.RowKit Go.Maps
set_option maxRecDepth 100000
set_option linter.unusedSimpArgs false
set_option linter.unusedVariables false

/-- What is left of a Boot's loop, and that what was written last of what is left is as it was. -/
structure Rm (S : DS) (kf : Nat → Nat) (k : Nat) (T : DS) : Prop where
  r : Rem S kf k T
  nw : ∀ j ∈ (dirtyL S.wet).drop k, T.now.getD j [] = S.now.getD j []
theorem Rm.start {S : DS} (h : S.Ok) (kf : Nat → Nat) : Rm S kf 0 S := ⟨Rem.start h kf, fun _ _ => rfl⟩
theorem Rm.step {S T : DS} {kf : Nat → Nat} {k : Nat} (h : Rm S kf k T) (hS : S.Ok) (hk : k < (dirtyL S.wet).length) : Rm S kf (k + 1) (T.st ((dirtyL S.wet).getD k 0) (kf k)) := by
  refine ⟨h.r.step hS hk, fun j hj => ?_⟩
  have hd := drop_cons_getD hk
  have hn : ((dirtyL S.wet).drop k).Nodup := (nodup_dirtyL S.wet).sublist (List.drop_sublist _ _)
  rw [hd, List.nodup_cons] at hn
  have hne : (dirtyL S.wet).getD k 0 ≠ j := fun e => hn.1 (e ▸ hj)
  have hm : j ∈ (dirtyL S.wet).drop k := by rw [hd]; exact List.mem_cons_of_mem _ hj
  rw [← h.nw j hm]
  show (T.now.set ((dirtyL S.wet).getD k 0) _).getD j [] = _
  rw [getD_set, if_neg (fun e => hne e.1)]

theorem cuty (sa : List UInt8) {sb : List UInt8} (hb : (str sb).size = 128) (y : Nat) : (str sa).extract 0 y ++ (str sb).extract y 128 = str (spl y sa sb) := by
  have hl : sb.length = 128 := by have : sb.toArray.size = 128 := hb; simpa using this
  apply ByteArray.ext
  apply Array.ext'
  simp [str, spl, List.extract_eq_take_drop]
  rw [List.take_of_length_le (by rw [List.length_drop]; omega)]
theorem cut0 (sa : List UInt8) {sb : List UInt8} (hb : (str sb).size = 128) : (str sb).extract 0 128 = str (spl 0 sa sb) := by
  rw [← cuty sa hb 0]
  apply ByteArray.ext
  apply Array.ext'
  simp
theorem cut128 {sa sb : List UInt8} (ha : (str sa).size = 128) (hb : (str sb).size = 128) : (str sa).extract 0 128 = str (spl 128 sa sb) := by
  rw [← cuty sa hb 128]
  apply ByteArray.ext
  apply Array.ext'
  simp

set_option maxHeartbeats 4000000 in
theorem boot_rd {w : World} {q g1 g2 g3 : Nat} {S : DS} (h : RD w q g1 g2 g3 S) {Ak : Option Addr} {ck : Nat} {L : List Int} (hL : IR w Ak L) (hLA : ∀ a, Ak = some a → L ≠ [] → a.block ∉ [q, g1, g2, g3]) (hLl : L.length ≤ 100000) :
    Calls Tryz.prog 54 #[dp q, .slice Ak L.length ck] w fun e w' => e = .returned (.int .i64 S.bootE) ∧ RT w w' q g1 g2 g3 (S.boot L) := by
  have HH := Lib.hid h
  obtain ⟨c1, c2, c3, left, fails, hq, h1, h2, h3, hr⟩ := h.box
  have k6 : w.cell? ⟨q, 6, none⟩ = some (.bool S.off) := cellAt hq 6
  have HOK := Lib.hid h.ok
  have HQ := Lib.hid hq
  have H1 := Lib.hid h1
  have H2 := Lib.hid h2
  have HR := Lib.hid hr
  have HRE := Lib.hid (show S.bootE = if S.off then 0 else 7 from rfl)
  have HWR := Lib.hid (show S.boot L = if S.off then { S.sts (keptN L) (dirtyL S.wet) 0 with left := 0, off := false } else S from rfl)
  have HL := Lib.hid hL
  have HLA := Lib.hid hLA
  have hn2 := h.ok.n2
  have hn1 := h.ok.n1
  generalize hn : S.was.length = n at HQ hn1 hn2
  have HN := Lib.hid hn
  have HNN := Lib.hid (show n = S.now.length by rw [h.ok.hn]; exact hn.symm)
  have CDI := Lib.hid (dirty_rd h)
  have hmax : (dL S.wet).length ≤ 1024 := by rw [dL_length]; exact dirtyL_le h.ok
  generalize hm : (dL S.wet).length = m at hmax CDI
  have HM := Lib.hid hm
  have HMD := Lib.hid (show (dirtyL S.wet).length = m by rw [← dL_length]; exact hm)
  generalize hll : L.length = ll at hLl ⊢
  have HLL := Lib.hid hll
  clear h hq h1 h2 h3 hr hn hL hLA hm hll
  go_enter Tryz.func54, Tryz.ntmps54
  cases hoff : S.off with
  | false =>
    rw [hoff] at k6
    have HE1 := Lib.hid (show S.bootE = 7 by rw [HRE.out, hoff]; rfl)
    have HW1 := Lib.hid (show S.boot L = S by rw [HWR.out, hoff]; rfl)
    clear hoff
    go_wp2_with fail
    go_ret
    exact ⟨by rw [HE1.out]; rfl, by rw [HW1.out]; exact .same HH.out (Kp.refl _ _)⟩
  | true =>
    rw [hoff] at k6
    have HE1 := Lib.hid (show S.bootE = 0 by rw [HRE.out, hoff]; rfl)
    have HOF := Lib.hid hoff
    clear hoff
    go_wp2_with (go_at_call 73; refine CDI.out.mono ?_; rintro e w1 ⟨A, c, rfl, hI, hA, hb⟩; have HI := Lib.hid hI; have HA := Lib.hid hA; have HB := Lib.hid hb; clear hI hA hb)
    go_loopw [6] (fun kx W => ∃ (k : Nat) (T : DS), kx = .int .i64 (k : Int) ∧ k ≤ m ∧ Rm S (keptN L) k T ∧ XR W 9 g1 c1 (txsD T.was) ∧ Kp [g1] w1 W) (fun kx _ => m - (RowKit.intOf kx).toNat)
    case atStart => exact ⟨0, S, rfl, by omega, Rm.start HOK.out _, H1.out.of_block (HB.out.block g1 H1.out.lt), Kp.refl _ _⟩
    case round =>
      obtain ⟨k, T, rfl, hkm, hR, hX, hK⟩ := hrel
      have HRM := Lib.hid hR
      have HX := Lib.hid hX
      have HK := Lib.hid hK
      by_cases hk : k < m
      · have hki : (k : Int) < (m : Int) := by omega
        have hk0 : (0 : Int) ≤ (k : Int) := by omega
        have hkw : IntKind.i64.wrap ((k : Int) + 1) = (k : Int) + 1 := IntWalk.i64_in _ (by omega)
        have hqw := lt_of_blk HQ.out
        have hsz1 := HB.out.size
        obtain ⟨n1, n2, n3, n4, n5, n6⟩ := HH.out.ne
        have hqr : wr.heap[q]? = some (.cells (rCells n g1 c1 g2 c2 g3 c3 S.ops left fails S.off) 95 (0, 0)) := (hK.block q (by omega) (by simp; omega)).trans ((HB.out.block q hqw).trans HQ.out)
        have k0 : wr.cell? ⟨q, 0, none⟩ = some (.slice (some ⟨g1, 0, none⟩) n c1) := cellAt hqr 0
        have k1 : wr.cell? ⟨q, 1, none⟩ = some (.slice (some ⟨g2, 0, none⟩) n c2) := cellAt hqr 1
        have h2r : XR wr 9 g2 c2 (txsD S.now) := H2.out.of_block ((hK.block g2 (by have := H2.out.lt; omega) (by simp; omega)).trans (HB.out.block g2 H2.out.lt))
        have hkd : k < (dirtyL S.wet).length := by rw [HMD.out]; exact hk
        obtain ⟨b, o, hAe, hb, hc⟩ := (HI.out.kp hK (fun a ha _ => by simp; have := HA.out a ha; have := H1.out.lt; omega) : IR wr A (dL S.wet)) k (by rw [HM.out]; exact hk)
        rw [getD_dL] at hc
        obtain ⟨q1, q2⟩ := hR.r.lt HOK.out hkd
        have hST := hR.step HOK.out hkd
        have hnw := hR.nw ((dirtyL S.wet).getD k 0) (by rw [drop_cons_getD hkd]; simp)
        have hkq := hR.r.ok
        have hst2 : (T.st ((dirtyL S.wet).getD k 0) (keptN L k)).was = T.was.set ((dirtyL S.wet).getD k 0) (spl (keptN L k) (S.now.getD ((dirtyL S.wet).getD k 0) []) (T.was.getD ((dirtyL S.wet).getD k 0) [])) := by
          rw [← hnw]; rfl
        have hdn : (dirtyL S.wet).getD k 0 < n := by rw [← HN.out, ← hR.r.len]; exact q1
        generalize (dirtyL S.wet).getD k 0 = d at hc q1 q2 hST hst2 hdn
        have hcn := (h2r.cell (j := d) (by rw [txsD_length, ← HNN.out]; exact hdn)).1
        obtain ⟨hcw, hfw⟩ := hX.cell (j := d) (by rw [txsD_length]; exact q1)
        rw [txsD_getD (by rw [← HNN.out]; exact hdn)] at hcn
        rw [txsD_getD q1] at hcw
        have hla : (S.now.getD d []).length = 128 := HOK.out.now_len (by rw [HN.out]; exact hdn)
        have hlb : (T.was.getD d []).length = 128 := hkq.was_len q1
        have HST := Lib.hid hST
        have HST2 := Lib.hid hst2
        have HDW := Lib.hid q1
        generalize S.now.getD d [] = sa at hcn hla HST2
        generalize T.was.getD d [] = sb at hcw hlb HST2
        have hsa : (str sa).size = 128 := by show sa.toArray.size = 128; simpa using hla
        have hsb : (str sb).size = 128 := by show sb.toArray.size = 128; simpa using hlb
        have hdi : (d : Int) < (n : Int) := by omega
        have hd0 : (0 : Int) ≤ (d : Int) := by omega
        have HAE := Lib.hid hAe
        rw [hAe]
        have HLr := Lib.hid (show IR wr Ak L from (HL.out.below HB.out).kp hK (fun a ha hn => by have := HLA.out a ha hn; simp at this ⊢; exact this.2.1))
        clear hqr h2r hkd hST hst2 hkq hdn hnw q1 q2 hla hlb hR hX hK hb hAe n1 n2 n3 n4 n5 n6
        by_cases hkl : k < ll
        · obtain ⟨bk, ok, hAk, hbk, hck⟩ := HLr.out k (by rw [HLL.out]; exact hkl)
          have hkli : (k : Int) < (ll : Int) := by omega
          have HKX := Lib.hid (show keptN L k = (min (max (L.getD k 0) 0) 128).toNat by unfold keptN; rw [if_pos (by rw [HLL.out]; exact hkl)])
          generalize L.getD k 0 = x at hck HKX
          rw [hAk]
          clear hAk hbk hkl
          by_cases hx0 : 0 < x
          · by_cases hx1 : 128 < x
            · have HKN := Lib.hid (show keptN L k = 128 by rw [HKX.out]; omega)
              clear HKX
              go_wp2_with fail
              go_still_tail 34, (by kernel_rfl)
              change wpList _ _ _ _ _ wr.drew
              have hcw2 : wr.drew.cell? ⟨g1, d, none⟩ = some (sv sb) := hcw
              have hfw2 : wr.drew.frozen? ⟨g1, d, none⟩ = false := hfw
              go_wp2_with fail
              go_roundw
              case rel =>
                refine ⟨k + 1, _, by go_num, by omega, HST.out, ?_, (HK.out.setCell (by simp) _).drew⟩
                rw [HST2.out, HKN.out, cut128 hsa hsb, ← txsD_set]
                exact XR.of_block (w := wr.setCell ⟨g1, d, none⟩ (sv (spl 128 sa sb))) (HX.out.set (j := d) (by rw [txsD_length]; exact HDW.out) _) rfl
              case measure => simp [RowKit.intOf]; omega
            · obtain ⟨y, rfl⟩ : ∃ y : Nat, x = (y : Int) := ⟨x.toNat, by omega⟩
              have HKN := Lib.hid (show keptN L k = y by rw [HKX.out]; omega)
              have hyi : (y : Int) ≤ 128 := by omega
              have hy0 : (0 : Int) ≤ (y : Int) := by omega
              have hy128 : y ≤ 128 := by omega
              clear HKX
              go_wp2_with fail
              go_still_tail 34, (by kernel_rfl)
              change wpList _ _ _ _ _ wr.drew
              have hcw2 : wr.drew.cell? ⟨g1, d, none⟩ = some (sv sb) := hcw
              have hfw2 : wr.drew.frozen? ⟨g1, d, none⟩ = false := hfw
              go_wp2_with fail
              go_roundw
              case rel =>
                refine ⟨k + 1, _, by go_num, by omega, HST.out, ?_, (HK.out.setCell (by simp) _).drew⟩
                rw [HST2.out, HKN.out, cuty sa hsb y, ← txsD_set]
                exact XR.of_block (w := wr.setCell ⟨g1, d, none⟩ (sv (spl y sa sb))) (HX.out.set (j := d) (by rw [txsD_length]; exact HDW.out) _) rfl
              case measure => simp [RowKit.intOf]; omega
          · have HKN := Lib.hid (show keptN L k = 0 by rw [HKX.out]; omega)
            clear HKX
            go_wp2_with fail
            go_still_tail 34, (by kernel_rfl)
            change wpList _ _ _ _ _ wr.drew
            have hcw2 : wr.drew.cell? ⟨g1, d, none⟩ = some (sv sb) := hcw
            have hfw2 : wr.drew.frozen? ⟨g1, d, none⟩ = false := hfw
            go_wp2_with fail
            go_roundw
            case rel =>
              refine ⟨k + 1, _, by go_num, by omega, HST.out, ?_, (HK.out.setCell (by simp) _).drew⟩
              rw [HST2.out, HKN.out, cut0 sa hsb, ← txsD_set]
              exact XR.of_block (w := wr.setCell ⟨g1, d, none⟩ (sv (spl 0 sa sb))) (HX.out.set (j := d) (by rw [txsD_length]; exact HDW.out) _) rfl
            case measure => simp [RowKit.intOf]; omega
        · have hkli : ¬ (k : Int) < (ll : Int) := by omega
          have HKN := Lib.hid (show keptN L k = 0 by unfold keptN; rw [if_neg (by rw [HLL.out]; exact hkl)])
          go_wp2_with fail
          go_still_tail 34, (by kernel_rfl)
          change wpList _ _ _ _ _ wr.drew
          have hcw2 : wr.drew.cell? ⟨g1, d, none⟩ = some (sv sb) := hcw
          have hfw2 : wr.drew.frozen? ⟨g1, d, none⟩ = false := hfw
          go_wp2_with fail
          go_roundw
          case rel =>
            refine ⟨k + 1, _, by go_num, by omega, HST.out, ?_, (HK.out.setCell (by simp) _).drew⟩
            rw [HST2.out, HKN.out, cut0 sa hsb, ← txsD_set]
            exact XR.of_block (w := wr.setCell ⟨g1, d, none⟩ (sv (spl 0 sa sb))) (HX.out.set (j := d) (by rw [txsD_length]; exact HDW.out) _) rfl
          case measure => simp [RowKit.intOf]; omega
      · have hki : ¬ (k : Int) < (m : Int) := by omega
        have HTD := Lib.hid (hR.r.done (by rw [HMD.out]; omega))
        have HTL := Lib.hid (show n = T.was.length by rw [hR.r.len, HN.out])
        have HTO := Lib.hid hR.r.off.2
        have hqw := lt_of_blk HQ.out
        have hsz1 := HB.out.size
        obtain ⟨n1, n2, n3, n4, n5, n6⟩ := HH.out.ne
        have hqr : wr.heap[q]? = some (.cells (rCells n g1 c1 g2 c2 g3 c3 S.ops left fails S.off) 95 (0, 0)) := (hK.block q (by omega) (by simp; omega)).trans ((HB.out.block q hqw).trans HQ.out)
        have HQR := Lib.hid hqr
        have k0b : (wr.alloc (.cells #[] 9)).cell? ⟨q, 0, none⟩ = some (.slice (some ⟨g1, 0, none⟩) n c1) := (World.cell?_of_block (w := wr) (Lib.alloc_old wr _ q (lt_of_blk hqr))).trans (cellAt hqr 0)
        have HNE := Lib.hid HH.out.ne
        clear hR hX hK hqr n1 n2 n3 n4 n5 n6 hqw hsz1
        go_wp2_with (at_builtin; obtain ⟨G2, C2, wa, hra, hxa, hba, hga⟩ := fresh_t (n := n) (c := c1) wr HX.out HTL.out (by omega) (by omega); refine wpList_builtin2_run _ rfl .append Builtin.append_ _ _ _ _ rfl (fun _ _ _ => rfl) _ _ rfl rfl hra ?_; have HXA := Lib.hid hxa; have HBA := Lib.hid hba; have HGA := Lib.hid hga; have hqa := (hba.block q (lt_of_blk HQR.out)).trans HQR.out; have j1 : wa.cell? ⟨q, 1, none⟩ = some (.slice (some ⟨g2, 0, none⟩) n c2) := cellAt hqa 1; have l1 := freeAt hqa 1; have HQA := Lib.hid hqa; clear hra hxa hba hga hqa)
        rw [make_bools n hn2]
        simp only [Result.andThen]
        rw [Oper.upon_value]
        have hk1 : Kp [q] wa (wa.setCell ⟨q, 1, none⟩ (.slice (some ⟨G2, 0, none⟩) n C2)) := (Kp.refl _ _).setCell (by simp) _
        have hq1 := blk_set HQA.out 1 (.slice (some ⟨G2, 0, none⟩) n C2)
        generalize wa.setCell ⟨q, 1, none⟩ (.slice (some ⟨G2, 0, none⟩) n C2) = W1 at hk1 hq1 ⊢
        have hx := XR.new W1 4 (bls (List.replicate n false)) (by rw [bls_length, List.length_replicate]; omega)
        have hlen : (bls (List.replicate n false)).length = n := by rw [bls_length, List.length_replicate]
        rw [hlen] at hx
        have hk2 : Kp [q] wa (W1.alloc (.cells (bls (List.replicate n false)).toArray 4)) := hk1.alloc _
        have hq2 : (W1.alloc (.cells (bls (List.replicate n false)).toArray 4)).heap[q]? = some (.cells (rCells n g1 c1 G2 C2 g3 c3 S.ops left fails S.off) 95 (0, 0)) := (Lib.alloc_old W1 _ q (lt_of_blk hq1)).trans (by rw [hq1]; simp [rCells])
        have HG3 := Lib.hid hk1.size
        generalize W1.alloc (.cells (bls (List.replicate n false)).toArray 4) = w2 at hx hk2 hq2 ⊢
        generalize W1.heap.size = G3 at hx HG3 ⊢
        have j2 : w2.cell? ⟨q, 2, none⟩ = some (.slice (some ⟨g3, 0, none⟩) n c3) := cellAt hq2 2
        have l2 := freeAt hq2 2
        have j5 : w2.cell? ⟨q, 5, none⟩ = some (.bool fails) := cellAt hq2 5
        have l5 := freeAt hq2 5
        have j6 : w2.cell? ⟨q, 6, none⟩ = some (.bool S.off) := cellAt hq2 6
        have l6 := freeAt hq2 6
        have hk3 : Kp [q] w2 (((w2.setCell ⟨q, 2, none⟩ (.slice (some ⟨G3, 0, none⟩) n n)).setCell ⟨q, 6, none⟩ (.bool false)).setCell ⟨q, 5, none⟩ (.bool false)) := (((Kp.refl _ _).setCell (by simp) _).setCell (by simp) _).setCell (by simp) _
        have hq3 : (((w2.setCell ⟨q, 2, none⟩ (.slice (some ⟨G3, 0, none⟩) n n)).setCell ⟨q, 6, none⟩ (.bool false)).setCell ⟨q, 5, none⟩ (.bool false)).heap[q]? = some (.cells (rCells n g1 c1 G2 C2 G3 n S.ops left false false) 95 (0, 0)) := by rw [blk_set (blk_set (blk_set hq2 2 _) 6 _) 5]; simp [rCells]
        have HK2 := Lib.hid hk2
        have HK3 := Lib.hid hk3
        have HQ3 := Lib.hid hq3
        have HXB := Lib.hid hx
        clear hk1 hq1 hlen hx hk2 hq2 hk3 hq3 j1 l1 k0b
        go_wp2_with fail
        go_ret
        obtain ⟨n1, n2, n3, n4, n5, n6⟩ := HNE.out
        have hqw := lt_of_blk HQ.out
        have h1w := H1.out.lt
        have hwb := HB.out.size
        have hrs := HK.out.size
        have hsa := HBA.out.size
        have hga := HGA.out
        have hG2 := HXA.out.lt
        have hG3 := HG3.out
        have hKa : Kp [q] wa (((w2.setCell ⟨q, 2, none⟩ (.slice (some ⟨G3, 0, none⟩) n n)).setCell ⟨q, 6, none⟩ (.bool false)).setCell ⟨q, 5, none⟩ (.bool false)) := HK2.out.trans HK3.out (fun k hk _ => hk)
        have hKr : Kp [q] wr (((w2.setCell ⟨q, 2, none⟩ (.slice (some ⟨G3, 0, none⟩) n n)).setCell ⟨q, 6, none⟩ (.bool false)).setCell ⟨q, 5, none⟩ (.bool false)) := (Kp.of_below HBA.out [q]).trans hKa (fun k hk _ => hk)
        have hKw : Kp [q, g1, g2, g3] w (((w2.setCell ⟨q, 2, none⟩ (.slice (some ⟨G3, 0, none⟩) n n)).setCell ⟨q, 6, none⟩ (.bool false)).setCell ⟨q, 5, none⟩ (.bool false)) := ((Kp.of_below HB.out [q, g1, g2, g3]).trans HK.out (fun k hk _ => by simp at hk; simp [hk])).trans hKr (fun k hk _ => by simp at hk; simp [hk])
        have hTC := DS.sts_clean HOK.out (keptN L)
        rw [← HTD.out] at hTC
        have hSB : S.boot L = { T with left := 0, off := false } := by rw [HWR.out, if_pos HOF.out, HTD.out]
        have hBO := HOK.out.boot L
        refine ⟨by rw [HE1.out]; rfl, g1, G2, G3, ⟨hBO, ?_, by omega, by omega, by omega, by omega, by omega, by omega⟩, hKw, fun b hb => ?_⟩
        · rw [hSB]
          refine ⟨c1, C2, n, left, false, ?_, HX.out.of_block (hKr.block g1 HX.out.lt (by simp; omega)), ?_, ?_, ⟨HR.out.b, fun _ => ⟨by simp, fun h => absurd h (by simp)⟩⟩⟩
          · show _ = some (Obj.cells (rCells T.was.length g1 c1 G2 C2 G3 n T.ops left false false) 95 (0, 0))
            rw [← HTL.out, HTO.out]
            exact HQ3.out
          · show XR _ 9 G2 C2 (txsD T.now)
            rw [hTC.2]
            exact HXA.out.of_block (hKa.block G2 hG2 (by simp; omega))
          · show XR _ 4 G3 n (bls T.wet)
            rw [hTC.1, HN.out]
            exact HXB.out.of_block (HK3.out.block G3 HXB.out.lt (by simp; omega))
        · simp at hb
          rcases hb with rfl | rfl | rfl | rfl
          · simp
          · simp
          · right; omega
          · right; omega
end Go.Proofs.YthfnncahmccgkaaGreatDoor

namespace Go.Proofs.YthfnncahmccgkaaGreatDoor
open Go Go.RowKit Go.Maps
set_option maxRecDepth 100000
set_option linter.unusedSimpArgs false
set_option linter.unusedVariables false

theorem make_zeros (W : World) : (Instr.makeSlice 44 (.int .i64 128) (.int .i64 128)).run Tryz.prog W = .ok (.slice (some ⟨W.heap.size, 0, none⟩) 128 128) (W.alloc (.cells (List.replicate 128 (Value.int .u8 0)).toArray 5)) := by
  obtain ⟨i, hi, hz0, hz1, hz2⟩ := info_parts (show (Tryz.prog.info? 5).map (fun i => (i.zero, i.size, i.bytes)) = some (some (.int .u8 0), 1, 1) by kernel_rfl)
  have := run_make W _ 5 i _ Tryz.underlying44 hi hz0 .i64 .i64 128 128 (by omega) (by omega) (by rw [hz2]; omega) (by omega)
  have e : madeCells (Value.int .u8 0).cells (Int.toNat 128 * i.size) = (List.replicate 128 (Value.int .u8 0)).toArray := by
    apply Array.ext
    · simp [madeCells, hz1]
    · intro j h1 h2
      have hc : (Value.int IntKind.u8 0).cells = #[Value.int IntKind.u8 0] := rfl
      have hm : ∀ x : Nat, x % 1 = 0 := fun x => by omega
      simp only [List.getElem_toArray, List.getElem_replicate]
      simp [madeCells, hc, hm]
  exact this.trans (by show Result.ok _ (W.alloc (.cells (madeCells (Value.int .u8 0).cells (Int.toNat 128 * i.size)) _)) = _; rw [e]; rfl)
theorem conv_zeros {w : World} {g n : Nat} (hg : w.heap[g]? = some (.cells (List.replicate n (Value.int .u8 0)).toArray 5 (0, 0))) : (convert 44 9 (.slice (some ⟨g, 0, none⟩) n n)).run Tryz.prog w = .ok (sv (List.replicate n 0)) w := by
  have := run_convert_bytes_back (P := Tryz.prog) w 44 9 5 ⟨g, 0, none⟩ n (List.replicate n 0) Tryz.underlying44 Tryz.underlying5 Tryz.underlying9 (fun j hj => by
    rw [show (⟨g, 0, none⟩ : Addr).add j = ⟨g, j, none⟩ from by unfold Addr.add; split <;> simp_all, cellAt hg]
    have hj' : j < n := by simpa using hj
    simp [hj'])
  rwa [List.length_replicate] at this
theorem conv_zero {w : World} {g : Nat} (hg : w.heap[g]? = some (.cells (List.replicate 128 (Value.int .u8 0)).toArray 5 (0, 0))) : (convert 44 9 (.slice (some ⟨g, 0, none⟩) 128 128)).run Tryz.prog w = .ok (sv zrL) w := conv_zeros hg

theorem wp_builtin2_run {P : Program} {o : Oper} {a : Act} {w : World} {K : Act → World → Prop} {Q : Exit → Act → World → Prop} (b : Builtin) (f : Array TypeId → TypeId → Array Value → Sem Value) (d s : Operand) (t t' : TypeId)
    (ho : o.op = .call { callee := .builtin b, args := #[d, s], argTypes := #[t, t'] }) (hb : ∀ ty args cs, builtin b #[t, t'] ty cs args = (do pure (.value (← f #[t, t'] ty args)))) (v u : Value) (hd : a.eval d = v) (hs : a.eval s = u) {v' : Value} {w' : World}
    (hr : (f #[t, t'] o.type #[v, u]).run P w = .ok v' w') (h : K (a.put o.dst v') w') : o.wp P a w K Q := by
  unfold Oper.wp execOp
  simp only [ho, resolve, invoke, hb, Sem.run_bind, Sem.run_pure, Result.andThen_ok, List.map_toArray, List.map_cons, List.map_nil, hd, hs, hr]
  exact h
theorem app_str {W : World} {B n : Nat} {v : Value} {xs : List (List UInt8)} (hown : W.ownsRow B 9 1 v n (txsD xs)) (s : List UInt8) (hB : B ≤ W.heap.size) (hn : n ≤ 1100) :
    ∃ g cap w', (Builtin.append_ #[26, 26] 26 #[v, .slice (some ⟨W.heap.size, 0, none⟩) 1 1]).run Tryz.prog (W.alloc (.cells #[sv s] 9)) = .ok (.slice (some ⟨g, 0, none⟩) (n + 1) cap) w' ∧
      w'.ownsRow B 9 1 (.slice (some ⟨g, 0, none⟩) (n + 1) cap) (n + 1) (txsD (xs ++ [s])) ∧ ∃ T, Kp T W w' ∧ ∀ b ∈ T, B ≤ b := by
  obtain ⟨i, hi, hz0, hz1, hz2⟩ := info_parts info9r
  obtain ⟨g, cap, w', hr, h2, h3, h4, h5⟩ := run_append_lies (P := Tryz.prog) (W.alloc (.cells #[sv s] 9)) 26 26 B 9 i _ 1 16 Tryz.underlying26 hi hz0 hz1 hz2 rfl (by decide) _ n (txsD xs) (hown.alloc _) ⟨W.heap.size, 0, none⟩ 1 1 [sv s] (by rfl) (World.news_of_block (cs := #[sv s]) (heap_alloc_new W _)) (by simp [Value.oneCell']) (by decide) (by unfold maxLen; omega) (by omega) (by simp; omega) _ rfl
  refine ⟨g, cap, w', hr, by simpa [txsD] using h2, (match v.ownBlock with | some b => [b] | none => []), ?_, ?_⟩
  · refine ((Kp.refl _ W).alloc _).grown h3 (fun k e hk => ?_)
    rw [e]; simp
  · intro b hb
    rcases hown.2 with ⟨e, _⟩ | ⟨g', cap', cur, e, hgb, _⟩
    · rw [e] at hb; simp [Value.ownBlock] at hb
    · rw [e] at hb; simp [Value.ownBlock] at hb; omega

set_option maxHeartbeats 4000000 in
theorem new_rd {w : World} {n : Nat} (h1 : 1 ≤ n) (h2 : n ≤ 1024) :
    Calls Tryz.prog 23 #[.int .i64 (n : Int)] w fun e w' => ∃ q g1 g2 g3, e = .returned (.tuple #[dp q, .int .i64 0]) ∧ RD w' q g1 g2 g3 (DS.new n) ∧ Below w.heap.size w w' ∧ ∀ b ∈ [q, g1, g2, g3], w.heap.size ≤ b := by
  have hn1 : ¬ (n : Int) < 1 := by omega
  have hn2 : ¬ (1024 : Int) < (n : Int) := by omega
  have HMK := Lib.hid (make_bools n h2)
  have HMY := Lib.hid make_zeros
  go_enter Tryz.func23, Tryz.ntmps23
  go_wp2_with fail
  rw [HMK.out]
  simp only [Result.andThen]
  rw [Oper.upon_value]
  have hx := XR.new w 4 (bls (List.replicate n false)) (by rw [bls_length, List.length_replicate]; omega)
  have hlen : (bls (List.replicate n false)).length = n := by rw [bls_length, List.length_replicate]
  rw [hlen] at hx
  have hb0 : Below w.heap.size w (w.alloc (.cells (bls (List.replicate n false)).toArray 4)) := (Below.refl _ _).alloc (Nat.le_refl _) _
  generalize w.alloc (.cells (bls (List.replicate n false)).toArray 4) = w1 at hx hb0 ⊢
  obtain ⟨G3, hG3⟩ : ∃ g, g = w.heap.size := ⟨_, rfl⟩
  rw [← hG3] at hx ⊢
  have HX := Lib.hid hx
  have HB0 := Lib.hid hb0
  have HG3 := Lib.hid (show w.heap.size ≤ G3 by omega)
  clear hx hb0 hlen HMK hG3
  go_wp2_with fail
  have hq := heap_alloc_new w1 (.cells #[.slice none 0 0, .slice none 0 0, .slice (some ⟨G3, 0, none⟩) n n, .int .i64 0, .int .i64 0, .bool false, .bool false] 95)
  have hb1 := HB0.out.alloc HB0.out.size (.cells #[.slice none 0 0, .slice none 0 0, .slice (some ⟨G3, 0, none⟩) n n, .int .i64 0, .int .i64 0, .bool false, .bool false] 95)
  have hx1 := HX.out.of_block (w' := w1.alloc (.cells #[.slice none 0 0, .slice none 0 0, .slice (some ⟨G3, 0, none⟩) n n, .int .i64 0, .int .i64 0, .bool false, .bool false] 95)) (Lib.alloc_old w1 _ G3 HX.out.lt)
  generalize w1.alloc (.cells #[.slice none 0 0, .slice none 0 0, .slice (some ⟨G3, 0, none⟩) n n, .int .i64 0, .int .i64 0, .bool false, .bool false] 95) = w2 at hq hb1 hx1 ⊢
  obtain ⟨q, hqe⟩ : ∃ g, g = w1.heap.size := ⟨_, rfl⟩
  rw [← hqe] at hq ⊢
  have HQ0 := Lib.hid hq
  have HB1 := Lib.hid hb1
  have HX1 := Lib.hid hx1
  have HQL := Lib.hid (show G3 < q by have := HX.out.lt; omega)
  clear hq hb1 hx1 hqe
  go_loopw [5] (fun kx W => ∃ (k : Nat) (ov : Value), kx = .int .i64 (k : Int) ∧ k ≤ n ∧ W.heap[q]? = some (.cells #[ov, .slice none 0 0, .slice (some ⟨G3, 0, none⟩) n n, .int .i64 0, .int .i64 0, .bool false, .bool false] 95 (0, 0)) ∧ W.ownsRow w2.heap.size 9 1 ov k (txsD (List.replicate k zrL)) ∧ XR W 4 G3 n (bls (List.replicate n false)) ∧ Below w.heap.size w W ∧ w2.heap.size ≤ W.heap.size) (fun kx _ => n - (RowKit.intOf kx).toNat)
  case atStart => exact ⟨0, _, rfl, by omega, HQ0.out, World.ownsRow_nil _ _ _ _, HX1.out, HB1.out, Nat.le_refl _⟩
  case round =>
    obtain ⟨k, ov, rfl, hkn, hq, hown, hx, hB, hsz⟩ := hrel
    have HQ := Lib.hid hq
    have HOW := Lib.hid hown
    have HX := Lib.hid hx
    have HB := Lib.hid hB
    have HSZ := Lib.hid hsz
    by_cases hk : k < n
    · have hki : (k : Int) < (n : Int) := by omega
      have hkw : IntKind.i64.wrap ((k : Int) + 1) = (k : Int) + 1 := IntWalk.i64_in _ (by omega)
      have k0 : wr.cell? ⟨q, 0, none⟩ = some ov := cellAt hq 0
      clear hq hown hx hB
      go_wp2_with fail
      refine wp_region_held_drew (S := fun W => True) (by kernel_rfl) trivial (fun hHeld => ?_)
      refine wpAnyH_take (i := 0) (v := ?vv0_1) rfl (by kernel_rfl) (by kernel_rfl) (by kernel_rfl) (fun _ _ _ h => h) (Or.inl ⟨by rfl, ?hy0_1⟩) (by assumption) ?rest0_1
      case hy0_1 => (intro w' hSw; (try dsimp only at hSw); go_simp; try with_reducible rfl)
      try simp only [List.getElem_toArray, List.getElem_cons_zero, List.getElem_cons_succ, Act.put, List.setIfInBounds_toArray, List.set_cons_zero, List.set_cons_succ]
      refine wpAnyH_take (i := 1) (v := ?vv1_1) rfl (by kernel_rfl) (by kernel_rfl) (by kernel_rfl) (fun _ _ _ h => h) (Or.inl ⟨by rfl, ?hy1_1⟩) (by assumption) ?rest1_1
      case hy1_1 => (intro w' hSw; (try dsimp only at hSw); go_simp; try with_reducible rfl)
      try simp only [List.getElem_toArray, List.getElem_cons_zero, List.getElem_cons_succ, Act.put, List.setIfInBounds_toArray, List.set_cons_zero, List.set_cons_succ]
      refine wpAnyH_take (i := 2) (v := ?vv2_1) rfl (by kernel_rfl) (by kernel_rfl) (by kernel_rfl) (fun _ _ _ h => h) (Or.inl ⟨by rfl, ?hy2_1⟩) (by assumption) ?rest2_1
      case hy2_1 => (intro w' hSw; (try dsimp only at hSw); go_simp; try with_reducible rfl)
      try simp only [List.getElem_toArray, List.getElem_cons_zero, List.getElem_cons_succ, Act.put, List.setIfInBounds_toArray, List.set_cons_zero, List.set_cons_succ]
      refine wpAnyH_take (i := 3) (v := ?vv3_1) rfl (by kernel_rfl) (by kernel_rfl) (by kernel_rfl) (fun _ _ _ h => h) (Or.inl ⟨by rfl, ?hy3_1⟩) (by assumption) ?rest3_1
      case hy3_1 => (intro w' hSw; (try dsimp only at hSw); go_simp; try with_reducible rfl)
      try simp only [List.getElem_toArray, List.getElem_cons_zero, List.getElem_cons_succ, Act.put, List.setIfInBounds_toArray, List.set_cons_zero, List.set_cons_succ]
      refine wpAnyH_ready (rs := [4, 5]) (by kernel_rfl) (by simp) ?_
      refine AllReadyH.cons rfl (fun K hK => ?_) (AllReadyH.cons rfl (fun K hK => ?_) AllReadyH.nil)
      · have k0c : wr.drew.cell? ⟨q, 0, none⟩ = some ov := cellAt (HQ.out) 0
        go_simp
        clear k0c
        refine hK.out _ _ trivial (fun hHeld => ?_)
        clear hK K
        try simp only [List.getElem_toArray, List.getElem_cons_zero, List.getElem_cons_succ, Act.put, List.setIfInBounds_toArray, List.set_cons_zero, List.set_cons_succ]
        refine wpAnyH_ready (rs := [5]) (by kernel_rfl) (by simp) ?_
        refine AllReadyH.cons rfl (fun K hK => ?_) AllReadyH.nil
        go_simp
        rw [HMY.out]
        simp only [Result.andThen]
        rw [Oper.upon_value]
        refine hK.out _ _ trivial (fun hHeld => ?_)
        clear hK K
        try simp only [List.getElem_toArray, List.getElem_cons_zero, List.getElem_cons_succ, Act.put, List.setIfInBounds_toArray, List.set_cons_zero, List.set_cons_succ]
        have hgb := heap_alloc_new wr.drew (.cells (List.replicate 128 (Value.int .u8 0)).toArray 5)
        have hB1 := HB.out.drew.alloc HB.out.size (.cells (List.replicate 128 (Value.int .u8 0)).toArray 5)
        have HO1 := Lib.hid ((HOW.out.drew).alloc (.cells (List.replicate 128 (Value.int .u8 0)).toArray 5))
        have HX1 := Lib.hid (HX.out.of_block (w' := wr.drew.alloc (.cells (List.replicate 128 (Value.int .u8 0)).toArray 5)) (Lib.alloc_old wr _ G3 HX.out.lt))
        have HSZ2 := Lib.hid (show w2.heap.size ≤ (wr.drew.alloc (.cells (List.replicate 128 (Value.int .u8 0)).toArray 5)).heap.size from Nat.le_trans HSZ.out (((Kp.refl [] wr).drew.alloc (.cells (List.replicate 128 (Value.int .u8 0)).toArray 5)).size))
        have hzq := (Lib.alloc_old wr.drew (.cells (List.replicate 128 (Value.int .u8 0)).toArray 5) q (lt_of_blk HQ.out)).trans HQ.out
        generalize wr.drew.alloc (.cells (List.replicate 128 (Value.int .u8 0)).toArray 5) = wz at hgb hB1 HO1 HX1 HSZ2 hzq ⊢
        generalize wr.drew.heap.size = gz at hgb ⊢
        refine wpAnyH_ready (rs := [6]) (by kernel_rfl) (by simp) ?_
        refine AllReadyH.cons rfl (fun K hK => ?_) AllReadyH.nil
        have hcv := conv_zero hgb
        go_simp
        clear hcv
        refine hK.out _ _ trivial (fun hHeld => ?_)
        clear hK K
        try simp only [List.getElem_toArray, List.getElem_cons_zero, List.getElem_cons_succ, Act.put, List.setIfInBounds_toArray, List.set_cons_zero, List.set_cons_succ]
        refine wpAnyH_ready (rs := [7]) (by kernel_rfl) (by simp) ?_
        refine AllReadyH.cons rfl (fun K hK => ?_) AllReadyH.nil
        go_simp
        refine hK.out _ _ trivial (fun hHeld => ?_)
        clear hK K
        try simp only [List.getElem_toArray, List.getElem_cons_zero, List.getElem_cons_succ, Act.put, List.setIfInBounds_toArray, List.set_cons_zero, List.set_cons_succ]
        refine wpAnyH_ready (rs := [8]) (by kernel_rfl) (by simp) ?_
        refine AllReadyH.cons rfl (fun K hK => ?_) AllReadyH.nil
        obtain ⟨g, cap, w7, hr7, hown7, T7, hk7, hT7⟩ := app_str HO1.out zrL HSZ2.out (by omega)
        rw [if_pos (by rfl)]
        refine wp_builtin2_run .append Builtin.append_ _ _ _ _ rfl (fun _ _ _ => rfl) _ _ rfl rfl hr7 ?_
        refine hK.out _ _ trivial (fun hHeld => ?_)
        clear hK K
        try simp only [List.getElem_toArray, List.getElem_cons_zero, List.getElem_cons_succ, Act.put, List.setIfInBounds_toArray, List.set_cons_zero, List.set_cons_succ]
        have hlq := lt_of_blk HQ0.out
        have hnq : q ∉ T7 := fun e => by have := hT7 _ e; omega
        have hng : G3 ∉ T7 := fun e => by have := hT7 _ e; have := HQL.out; omega
        have hq7 := (hk7.block q (lt_of_blk hzq) hnq).trans hzq
        refine wpAnyH_take (i := 9) (v := ?vv9_2) rfl (by kernel_rfl) (by kernel_rfl) (by kernel_rfl) (fun _ _ _ h => h) (Or.inl ⟨by rfl, ?hy9_2⟩) (by assumption) ?rest9_2
        case hy9_2 => (intro w' hSw; (try dsimp only at hSw); go_simp; try with_reducible rfl)
        try simp only [List.getElem_toArray, List.getElem_cons_zero, List.getElem_cons_succ, Act.put, List.setIfInBounds_toArray, List.set_cons_zero, List.set_cons_succ]
        refine wpAnyH_take (i := 10) (v := ?vv10_2) rfl (by kernel_rfl) (by kernel_rfl) (by kernel_rfl) (fun _ _ _ h => h) (Or.inl ⟨by rfl, ?hy10_2⟩) (by assumption) ?rest10_2
        case hy10_2 => (intro w' hSw; (try dsimp only at hSw); go_simp; try with_reducible rfl)
        try simp only [List.getElem_toArray, List.getElem_cons_zero, List.getElem_cons_succ, Act.put, List.setIfInBounds_toArray, List.set_cons_zero, List.set_cons_succ]
        refine wpAnyH_ready (rs := [11]) (by kernel_rfl) (by simp) ?_
        refine AllReadyH.cons rfl (fun K hK => ?_) AllReadyH.nil
        have k0s : w7.cell? ⟨q, 0, none⟩ = some ov := cellAt hq7 0
        have f0s := freeAt hq7 0
        go_simp
        clear k0s f0s
        refine hK.out _ _ trivial (fun hHeld => ?_)
        clear hK K
        try simp only [List.getElem_toArray, List.getElem_cons_zero, List.getElem_cons_succ, Act.put, List.setIfInBounds_toArray, List.set_cons_zero, List.set_cons_succ]
        refine wpAnyH_done (by kernel_rfl) ?_ _
        clear hr7
        go_wp2_with fail
        go_roundw
        case rel => exact ⟨k + 1, .slice (some ⟨g, 0, none⟩) (k + 1) cap, by go_num, by omega, (blk_set hq7 0 _).trans (by simp), by rw [List.replicate_succ']; exact ownsRow_kp hown7 ((Kp.refl [q] w7).setCell (by simp) _) (fun x hx => by have h := (XR.of_owns hown7).2.2; simp [Value.ownBlock] at hx; simp; omega), (HX1.out.of_block (hk7.block G3 HX1.out.lt hng)).of_block (((Kp.refl [q] w7).setCell (by simp) _).block G3 (by have := HX1.out.lt; have := hk7.size; omega) (by simp; have := HQL.out; omega)), (hB1.trans (hk7.to_below (fun b hb => by have := hT7 b hb; have := HB1.out.size; omega) hB1.size)).setCell (by have := HG3.out; have := HQL.out; show w.heap.size ≤ q; omega) _, Nat.le_trans HSZ2.out (Nat.le_trans hk7.size ((Kp.refl [q] w7).setCell (by simp) _).size)⟩
        case measure => simp [RowKit.intOf]; omega
      · go_simp
        rw [HMY.out]
        simp only [Result.andThen]
        rw [Oper.upon_value]
        refine hK.out _ _ trivial (fun hHeld => ?_)
        clear hK K
        try simp only [List.getElem_toArray, List.getElem_cons_zero, List.getElem_cons_succ, Act.put, List.setIfInBounds_toArray, List.set_cons_zero, List.set_cons_succ]
        have hgb := heap_alloc_new wr.drew (.cells (List.replicate 128 (Value.int .u8 0)).toArray 5)
        have hB1 := HB.out.drew.alloc HB.out.size (.cells (List.replicate 128 (Value.int .u8 0)).toArray 5)
        have HO1 := Lib.hid ((HOW.out.drew).alloc (.cells (List.replicate 128 (Value.int .u8 0)).toArray 5))
        have HX1 := Lib.hid (HX.out.of_block (w' := wr.drew.alloc (.cells (List.replicate 128 (Value.int .u8 0)).toArray 5)) (Lib.alloc_old wr _ G3 HX.out.lt))
        have HSZ2 := Lib.hid (show w2.heap.size ≤ (wr.drew.alloc (.cells (List.replicate 128 (Value.int .u8 0)).toArray 5)).heap.size from Nat.le_trans HSZ.out (((Kp.refl [] wr).drew.alloc (.cells (List.replicate 128 (Value.int .u8 0)).toArray 5)).size))
        have hzq := (Lib.alloc_old wr.drew (.cells (List.replicate 128 (Value.int .u8 0)).toArray 5) q (lt_of_blk HQ.out)).trans HQ.out
        generalize wr.drew.alloc (.cells (List.replicate 128 (Value.int .u8 0)).toArray 5) = wz at hgb hB1 HO1 HX1 HSZ2 hzq ⊢
        generalize wr.drew.heap.size = gz at hgb ⊢
        refine wpAnyH_ready (rs := [4, 6]) (by kernel_rfl) (by simp) ?_
        refine AllReadyH.cons rfl (fun K hK => ?_) (AllReadyH.cons rfl (fun K hK => ?_) AllReadyH.nil)
        · have k0c : wz.cell? ⟨q, 0, none⟩ = some ov := cellAt hzq 0
          go_simp
          clear k0c
          refine hK.out _ _ trivial (fun hHeld => ?_)
          clear hK K
          try simp only [List.getElem_toArray, List.getElem_cons_zero, List.getElem_cons_succ, Act.put, List.setIfInBounds_toArray, List.set_cons_zero, List.set_cons_succ]
          refine wpAnyH_ready (rs := [6]) (by kernel_rfl) (by simp) ?_
          refine AllReadyH.cons rfl (fun K hK => ?_) AllReadyH.nil
          have hcv := conv_zero hgb
          go_simp
          clear hcv
          refine hK.out _ _ trivial (fun hHeld => ?_)
          clear hK K
          try simp only [List.getElem_toArray, List.getElem_cons_zero, List.getElem_cons_succ, Act.put, List.setIfInBounds_toArray, List.set_cons_zero, List.set_cons_succ]
          refine wpAnyH_ready (rs := [7]) (by kernel_rfl) (by simp) ?_
          refine AllReadyH.cons rfl (fun K hK => ?_) AllReadyH.nil
          go_simp
          refine hK.out _ _ trivial (fun hHeld => ?_)
          clear hK K
          try simp only [List.getElem_toArray, List.getElem_cons_zero, List.getElem_cons_succ, Act.put, List.setIfInBounds_toArray, List.set_cons_zero, List.set_cons_succ]
          refine wpAnyH_ready (rs := [8]) (by kernel_rfl) (by simp) ?_
          refine AllReadyH.cons rfl (fun K hK => ?_) AllReadyH.nil
          obtain ⟨g, cap, w7, hr7, hown7, T7, hk7, hT7⟩ := app_str HO1.out zrL HSZ2.out (by omega)
          rw [if_pos (by rfl)]
          refine wp_builtin2_run .append Builtin.append_ _ _ _ _ rfl (fun _ _ _ => rfl) _ _ rfl rfl hr7 ?_
          refine hK.out _ _ trivial (fun hHeld => ?_)
          clear hK K
          try simp only [List.getElem_toArray, List.getElem_cons_zero, List.getElem_cons_succ, Act.put, List.setIfInBounds_toArray, List.set_cons_zero, List.set_cons_succ]
          have hlq := lt_of_blk HQ0.out
          have hnq : q ∉ T7 := fun e => by have := hT7 _ e; omega
          have hng : G3 ∉ T7 := fun e => by have := hT7 _ e; have := HQL.out; omega
          have hq7 := (hk7.block q (lt_of_blk hzq) hnq).trans hzq
          refine wpAnyH_take (i := 9) (v := ?vv9_3) rfl (by kernel_rfl) (by kernel_rfl) (by kernel_rfl) (fun _ _ _ h => h) (Or.inl ⟨by rfl, ?hy9_3⟩) (by assumption) ?rest9_3
          case hy9_3 => (intro w' hSw; (try dsimp only at hSw); go_simp; try with_reducible rfl)
          try simp only [List.getElem_toArray, List.getElem_cons_zero, List.getElem_cons_succ, Act.put, List.setIfInBounds_toArray, List.set_cons_zero, List.set_cons_succ]
          refine wpAnyH_take (i := 10) (v := ?vv10_3) rfl (by kernel_rfl) (by kernel_rfl) (by kernel_rfl) (fun _ _ _ h => h) (Or.inl ⟨by rfl, ?hy10_3⟩) (by assumption) ?rest10_3
          case hy10_3 => (intro w' hSw; (try dsimp only at hSw); go_simp; try with_reducible rfl)
          try simp only [List.getElem_toArray, List.getElem_cons_zero, List.getElem_cons_succ, Act.put, List.setIfInBounds_toArray, List.set_cons_zero, List.set_cons_succ]
          refine wpAnyH_ready (rs := [11]) (by kernel_rfl) (by simp) ?_
          refine AllReadyH.cons rfl (fun K hK => ?_) AllReadyH.nil
          have k0s : w7.cell? ⟨q, 0, none⟩ = some ov := cellAt hq7 0
          have f0s := freeAt hq7 0
          go_simp
          clear k0s f0s
          refine hK.out _ _ trivial (fun hHeld => ?_)
          clear hK K
          try simp only [List.getElem_toArray, List.getElem_cons_zero, List.getElem_cons_succ, Act.put, List.setIfInBounds_toArray, List.set_cons_zero, List.set_cons_succ]
          refine wpAnyH_done (by kernel_rfl) ?_ _
          clear hr7
          go_wp2_with fail
          go_roundw
          case rel => exact ⟨k + 1, .slice (some ⟨g, 0, none⟩) (k + 1) cap, by go_num, by omega, (blk_set hq7 0 _).trans (by simp), by rw [List.replicate_succ']; exact ownsRow_kp hown7 ((Kp.refl [q] w7).setCell (by simp) _) (fun x hx => by have h := (XR.of_owns hown7).2.2; simp [Value.ownBlock] at hx; simp; omega), (HX1.out.of_block (hk7.block G3 HX1.out.lt hng)).of_block (((Kp.refl [q] w7).setCell (by simp) _).block G3 (by have := HX1.out.lt; have := hk7.size; omega) (by simp; have := HQL.out; omega)), (hB1.trans (hk7.to_below (fun b hb => by have := hT7 b hb; have := HB1.out.size; omega) hB1.size)).setCell (by have := HG3.out; have := HQL.out; show w.heap.size ≤ q; omega) _, Nat.le_trans HSZ2.out (Nat.le_trans hk7.size ((Kp.refl [q] w7).setCell (by simp) _).size)⟩
          case measure => simp [RowKit.intOf]; omega
        · have hcv := conv_zero hgb
          go_simp
          clear hcv
          refine hK.out _ _ trivial (fun hHeld => ?_)
          clear hK K
          try simp only [List.getElem_toArray, List.getElem_cons_zero, List.getElem_cons_succ, Act.put, List.setIfInBounds_toArray, List.set_cons_zero, List.set_cons_succ]
          refine wpAnyH_ready (rs := [4, 7]) (by kernel_rfl) (by simp) ?_
          refine AllReadyH.cons rfl (fun K hK => ?_) (AllReadyH.cons rfl (fun K hK => ?_) AllReadyH.nil)
          · have k0c : wz.cell? ⟨q, 0, none⟩ = some ov := cellAt hzq 0
            go_simp
            clear k0c
            refine hK.out _ _ trivial (fun hHeld => ?_)
            clear hK K
            try simp only [List.getElem_toArray, List.getElem_cons_zero, List.getElem_cons_succ, Act.put, List.setIfInBounds_toArray, List.set_cons_zero, List.set_cons_succ]
            refine wpAnyH_ready (rs := [7]) (by kernel_rfl) (by simp) ?_
            refine AllReadyH.cons rfl (fun K hK => ?_) AllReadyH.nil
            go_simp
            refine hK.out _ _ trivial (fun hHeld => ?_)
            clear hK K
            try simp only [List.getElem_toArray, List.getElem_cons_zero, List.getElem_cons_succ, Act.put, List.setIfInBounds_toArray, List.set_cons_zero, List.set_cons_succ]
            refine wpAnyH_ready (rs := [8]) (by kernel_rfl) (by simp) ?_
            refine AllReadyH.cons rfl (fun K hK => ?_) AllReadyH.nil
            obtain ⟨g, cap, w7, hr7, hown7, T7, hk7, hT7⟩ := app_str HO1.out zrL HSZ2.out (by omega)
            rw [if_pos (by rfl)]
            refine wp_builtin2_run .append Builtin.append_ _ _ _ _ rfl (fun _ _ _ => rfl) _ _ rfl rfl hr7 ?_
            refine hK.out _ _ trivial (fun hHeld => ?_)
            clear hK K
            try simp only [List.getElem_toArray, List.getElem_cons_zero, List.getElem_cons_succ, Act.put, List.setIfInBounds_toArray, List.set_cons_zero, List.set_cons_succ]
            have hlq := lt_of_blk HQ0.out
            have hnq : q ∉ T7 := fun e => by have := hT7 _ e; omega
            have hng : G3 ∉ T7 := fun e => by have := hT7 _ e; have := HQL.out; omega
            have hq7 := (hk7.block q (lt_of_blk hzq) hnq).trans hzq
            refine wpAnyH_take (i := 9) (v := ?vv9_4) rfl (by kernel_rfl) (by kernel_rfl) (by kernel_rfl) (fun _ _ _ h => h) (Or.inl ⟨by rfl, ?hy9_4⟩) (by assumption) ?rest9_4
            case hy9_4 => (intro w' hSw; (try dsimp only at hSw); go_simp; try with_reducible rfl)
            try simp only [List.getElem_toArray, List.getElem_cons_zero, List.getElem_cons_succ, Act.put, List.setIfInBounds_toArray, List.set_cons_zero, List.set_cons_succ]
            refine wpAnyH_take (i := 10) (v := ?vv10_4) rfl (by kernel_rfl) (by kernel_rfl) (by kernel_rfl) (fun _ _ _ h => h) (Or.inl ⟨by rfl, ?hy10_4⟩) (by assumption) ?rest10_4
            case hy10_4 => (intro w' hSw; (try dsimp only at hSw); go_simp; try with_reducible rfl)
            try simp only [List.getElem_toArray, List.getElem_cons_zero, List.getElem_cons_succ, Act.put, List.setIfInBounds_toArray, List.set_cons_zero, List.set_cons_succ]
            refine wpAnyH_ready (rs := [11]) (by kernel_rfl) (by simp) ?_
            refine AllReadyH.cons rfl (fun K hK => ?_) AllReadyH.nil
            have k0s : w7.cell? ⟨q, 0, none⟩ = some ov := cellAt hq7 0
            have f0s := freeAt hq7 0
            go_simp
            clear k0s f0s
            refine hK.out _ _ trivial (fun hHeld => ?_)
            clear hK K
            try simp only [List.getElem_toArray, List.getElem_cons_zero, List.getElem_cons_succ, Act.put, List.setIfInBounds_toArray, List.set_cons_zero, List.set_cons_succ]
            refine wpAnyH_done (by kernel_rfl) ?_ _
            clear hr7
            go_wp2_with fail
            go_roundw
            case rel => exact ⟨k + 1, .slice (some ⟨g, 0, none⟩) (k + 1) cap, by go_num, by omega, (blk_set hq7 0 _).trans (by simp), by rw [List.replicate_succ']; exact ownsRow_kp hown7 ((Kp.refl [q] w7).setCell (by simp) _) (fun x hx => by have h := (XR.of_owns hown7).2.2; simp [Value.ownBlock] at hx; simp; omega), (HX1.out.of_block (hk7.block G3 HX1.out.lt hng)).of_block (((Kp.refl [q] w7).setCell (by simp) _).block G3 (by have := HX1.out.lt; have := hk7.size; omega) (by simp; have := HQL.out; omega)), (hB1.trans (hk7.to_below (fun b hb => by have := hT7 b hb; have := HB1.out.size; omega) hB1.size)).setCell (by have := HG3.out; have := HQL.out; show w.heap.size ≤ q; omega) _, Nat.le_trans HSZ2.out (Nat.le_trans hk7.size ((Kp.refl [q] w7).setCell (by simp) _).size)⟩
            case measure => simp [RowKit.intOf]; omega
          · go_simp
            refine hK.out _ _ trivial (fun hHeld => ?_)
            clear hK K
            try simp only [List.getElem_toArray, List.getElem_cons_zero, List.getElem_cons_succ, Act.put, List.setIfInBounds_toArray, List.set_cons_zero, List.set_cons_succ]
            refine wpAnyH_ready (rs := [4]) (by kernel_rfl) (by simp) ?_
            refine AllReadyH.cons rfl (fun K hK => ?_) AllReadyH.nil
            have k0c : (wz.alloc (.cells #[sv zrL] 9)).cell? ⟨q, 0, none⟩ = some ov := cellAt ((Lib.alloc_old _ _ q (lt_of_blk hzq)).trans hzq) 0
            go_simp
            clear k0c
            refine hK.out _ _ trivial (fun hHeld => ?_)
            clear hK K
            try simp only [List.getElem_toArray, List.getElem_cons_zero, List.getElem_cons_succ, Act.put, List.setIfInBounds_toArray, List.set_cons_zero, List.set_cons_succ]
            refine wpAnyH_ready (rs := [8]) (by kernel_rfl) (by simp) ?_
            refine AllReadyH.cons rfl (fun K hK => ?_) AllReadyH.nil
            obtain ⟨g, cap, w7, hr7, hown7, T7, hk7, hT7⟩ := app_str HO1.out zrL HSZ2.out (by omega)
            rw [if_pos (by rfl)]
            refine wp_builtin2_run .append Builtin.append_ _ _ _ _ rfl (fun _ _ _ => rfl) _ _ rfl rfl hr7 ?_
            refine hK.out _ _ trivial (fun hHeld => ?_)
            clear hK K
            try simp only [List.getElem_toArray, List.getElem_cons_zero, List.getElem_cons_succ, Act.put, List.setIfInBounds_toArray, List.set_cons_zero, List.set_cons_succ]
            have hlq := lt_of_blk HQ0.out
            have hnq : q ∉ T7 := fun e => by have := hT7 _ e; omega
            have hng : G3 ∉ T7 := fun e => by have := hT7 _ e; have := HQL.out; omega
            have hq7 := (hk7.block q (lt_of_blk hzq) hnq).trans hzq
            refine wpAnyH_take (i := 9) (v := ?vv9_5) rfl (by kernel_rfl) (by kernel_rfl) (by kernel_rfl) (fun _ _ _ h => h) (Or.inl ⟨by rfl, ?hy9_5⟩) (by assumption) ?rest9_5
            case hy9_5 => (intro w' hSw; (try dsimp only at hSw); go_simp; try with_reducible rfl)
            try simp only [List.getElem_toArray, List.getElem_cons_zero, List.getElem_cons_succ, Act.put, List.setIfInBounds_toArray, List.set_cons_zero, List.set_cons_succ]
            refine wpAnyH_take (i := 10) (v := ?vv10_5) rfl (by kernel_rfl) (by kernel_rfl) (by kernel_rfl) (fun _ _ _ h => h) (Or.inl ⟨by rfl, ?hy10_5⟩) (by assumption) ?rest10_5
            case hy10_5 => (intro w' hSw; (try dsimp only at hSw); go_simp; try with_reducible rfl)
            try simp only [List.getElem_toArray, List.getElem_cons_zero, List.getElem_cons_succ, Act.put, List.setIfInBounds_toArray, List.set_cons_zero, List.set_cons_succ]
            refine wpAnyH_ready (rs := [11]) (by kernel_rfl) (by simp) ?_
            refine AllReadyH.cons rfl (fun K hK => ?_) AllReadyH.nil
            have k0s : w7.cell? ⟨q, 0, none⟩ = some ov := cellAt hq7 0
            have f0s := freeAt hq7 0
            go_simp
            clear k0s f0s
            refine hK.out _ _ trivial (fun hHeld => ?_)
            clear hK K
            try simp only [List.getElem_toArray, List.getElem_cons_zero, List.getElem_cons_succ, Act.put, List.setIfInBounds_toArray, List.set_cons_zero, List.set_cons_succ]
            refine wpAnyH_done (by kernel_rfl) ?_ _
            clear hr7
            go_wp2_with fail
            go_roundw
            case rel => exact ⟨k + 1, .slice (some ⟨g, 0, none⟩) (k + 1) cap, by go_num, by omega, (blk_set hq7 0 _).trans (by simp), by rw [List.replicate_succ']; exact ownsRow_kp hown7 ((Kp.refl [q] w7).setCell (by simp) _) (fun x hx => by have h := (XR.of_owns hown7).2.2; simp [Value.ownBlock] at hx; simp; omega), (HX1.out.of_block (hk7.block G3 HX1.out.lt hng)).of_block (((Kp.refl [q] w7).setCell (by simp) _).block G3 (by have := HX1.out.lt; have := hk7.size; omega) (by simp; have := HQL.out; omega)), (hB1.trans (hk7.to_below (fun b hb => by have := hT7 b hb; have := HB1.out.size; omega) hB1.size)).setCell (by have := HG3.out; have := HQL.out; show w.heap.size ≤ q; omega) _, Nat.le_trans HSZ2.out (Nat.le_trans hk7.size ((Kp.refl [q] w7).setCell (by simp) _).size)⟩
            case measure => simp [RowKit.intOf]; omega
    · have hki : ¬ (k : Int) < (n : Int) := by omega
      obtain rfl : n = k := by omega
      obtain ⟨g1, c1, rfl⟩ : ∃ g c, ov = .slice (some ⟨g, 0, none⟩) n c := by
        rcases hown.2 with ⟨_, h0⟩ | ⟨g, cap, cur, e, _⟩
        · omega
        · exact ⟨g, cap, e⟩
      obtain ⟨hx1, _, hg1⟩ := XR.of_owns hown
      have HXW := Lib.hid hx1
      have HG1 := Lib.hid hg1
      have k0b : (wr.alloc (.cells #[] 9)).cell? ⟨q, 0, none⟩ = some (.slice (some ⟨g1, 0, none⟩) n c1) := (World.cell?_of_block (w := wr) (Lib.alloc_old wr _ q (lt_of_blk hq))).trans (cellAt hq 0)
      clear hq hown hx hB hsz hx1 hg1 HOW
      go_wp2_with (at_builtin; obtain ⟨G2, C2, wa, hra, hxa, hba, hga⟩ := fresh_t (n := n) (c := c1) wr HXW.out (by simp) (by omega) (by omega); refine wpList_builtin2_run _ rfl .append Builtin.append_ _ _ _ _ rfl (fun _ _ _ => rfl) _ _ rfl rfl hra ?_; have HXA := Lib.hid hxa; have HBA := Lib.hid hba; have HGA := Lib.hid hga; have hqa := (hba.block q (lt_of_blk HQ.out)).trans HQ.out; have j1 : wa.cell? ⟨q, 1, none⟩ = some (.slice none 0 0) := cellAt hqa 1; have l1 := freeAt hqa 1; have HQA := Lib.hid hqa; clear hra hxa hba hga hqa)
      go_ret2
      have hkf : Kp [q] wa (wa.setCell ⟨q, 1, none⟩ (.slice (some ⟨G2, 0, none⟩) n C2)) := (Kp.refl _ _).setCell (by simp) _
      have hlq := lt_of_blk HQ0.out
      have hql := HQL.out
      have hg1 := HG1.out
      have hg1l := HXW.out.lt
      have hG2 := HGA.out
      have hG2l := HXA.out.lt
      have hg3 := HG3.out
      have hsz := HSZ.out
      have hba := HBA.out.size
      have hB1 := HB1.out.size
      have hwl : (DS.new n).was.length = n := by simp [DS.new]
      have hkr : Kp [q] wr (wa.setCell ⟨q, 1, none⟩ (.slice (some ⟨G2, 0, none⟩) n C2)) := (Kp.of_below HBA.out [q]).trans hkf (fun k hk _ => hk)
      refine ⟨q, rfl, g1, G2, G3, ⟨DS.Ok.new h1 h2, ⟨c1, C2, n, 0, false, ?_, HXW.out.of_block (hkr.block g1 hg1l (by simp; omega)), HXA.out.of_block (hkf.block G2 hG2l (by simp; omega)), HX.out.of_block (hkr.block G3 HX.out.lt (by simp; omega)), ⟨by omega, fun _ => ⟨rfl, fun h => absurd h (by simp [DS.new])⟩⟩⟩, by omega, by omega, by omega, by omega, by omega, by omega⟩, HB.out.trans (hkr.to_below (fun b hb => by simp at hb; omega) HB.out.size), by omega, by omega, by omega, by omega⟩
      · rw [hwl, blk_set HQA.out 1]
        simp [rCells, DS.new]
end Go.Proofs.YthfnncahmccgkaaGreatDoor


namespace Go.Proofs.YthfnncahmccgkaaGreatDoor
open Go Go.RowKit Go.Maps
set_option maxRecDepth 100000
set_option linter.unusedSimpArgs false
set_option linter.unusedVariables false

set_option maxHeartbeats 1000000 in
theorem new_none_rd {w : World} {a : Int} (h : a < 1 ∨ 1024 < a) :
    Calls Tryz.prog 23 #[.int .i64 a] w fun e w' => e = .returned (.tuple #[.pointer none, .int .i64 1]) ∧ Below w.heap.size w w' := by
  by_cases h1 : a < 1
  · clear h
    go_enter Tryz.func23, Tryz.ntmps23
    go_wp2_with fail
    go_ret2
    exact ⟨rfl, Below.refl _ _⟩
  · have h2 : 1024 < a := by omega
    clear h
    go_enter Tryz.func23, Tryz.ntmps23
    go_wp2_with fail
    go_ret2
    exact ⟨rfl, Below.refl _ _⟩

section
variable {w0 w : World} {os : List Ob} {q g1 g2 g3 : Nat} {S : DS} (h : Obs w0 w os) (i : Nat) (hi : os[i]? = some (rdOb q g1 g2 g3 S))
include h hi
theorem Obs.turnR {w' : World} {T : DS} (hR : RT w w' q g1 g2 g3 T) : ∃ h1 h2 h3, Obs w0 w' (os.set i (rdOb q h1 h2 h3 T)) := by
  obtain ⟨h1, h2, h3, hD, hk, hb⟩ := hR
  exact ⟨h1, h2, h3, h.turn i hi (rdOb q h1 h2 h3 T) hD (rdOb_stays _ _ _ _ _) hk (fun b hb' => ⟨hb b hb', hD.lts b hb'⟩)⟩
theorem readR_o (a : Int) : Calls Tryz.prog 96 #[dp q, .int .i64 a] w fun e w' => e = .returned (.tuple #[sv (S.rdV a), .int .i64 (S.rdE a)]) ∧ Obs w0 w' os :=
  (read_rd (h.get hi) a).mono fun e w' hh => ⟨hh.1, h.step hh.2⟩
theorem failR_o {a : Int} (ha : (-9223372036854775808 : Int) ≤ a ∧ a ≤ 9223372036854775807) : Calls Tryz.prog 53 #[dp q, .int .i64 a] w fun e w' => e = .returned (.tuple #[]) ∧ ∃ h1 h2 h3, Obs w0 w' (os.set i (rdOb q h1 h2 h3 (S.fail a))) :=
  (fail_rd (h.get hi) ha).mono fun e w' hh => ⟨hh.1, h.turnR i hi (.same hh.2.1 (hh.2.2.mono (by simp)))⟩
theorem writeR_o (hops : S.ops < 4611686018427387904) (a : Int) (s : List UInt8) (hsl : s.length ≤ 140737488355328) : Calls Tryz.prog 95 #[dp q, .int .i64 a, sv s] w fun e w' => e = .returned (.int .i64 (S.wrE a s)) ∧ ∃ h1 h2 h3, Obs w0 w' (os.set i (rdOb q h1 h2 h3 (S.wr a s))) :=
  (write_rd (h.get hi) hops a s hsl).mono fun e w' hh => ⟨hh.1, h.turnR i hi (.same hh.2.1 (hh.2.2.mono (by simp)))⟩
theorem syncR_o (hops : S.ops < 4611686018427387904) : Calls Tryz.prog 52 #[dp q] w fun e w' => e = .returned (.int .i64 S.offE) ∧ ∃ h1 h2 h3, Obs w0 w' (os.set i (rdOb q h1 h2 h3 S.sync)) :=
  (sync_rd (h.get hi) hops).mono fun e w' hh => ⟨hh.1, h.turnR i hi hh.2⟩
theorem bootR_o {Ak : Option Addr} {ck : Nat} {L : List Int} (hL : IR w Ak L) (hLA : ∀ a, Ak = some a → L ≠ [] → a.block ∉ [q, g1, g2, g3]) (hLl : L.length ≤ 100000) :
    Calls Tryz.prog 54 #[dp q, .slice Ak L.length ck] w fun e w' => e = .returned (.int .i64 S.bootE) ∧ ∃ h1 h2 h3, Obs w0 w' (os.set i (rdOb q h1 h2 h3 (S.boot L))) :=
  (boot_rd (h.get hi) hL hLA hLl).mono fun e w' hh => ⟨hh.1, h.turnR i hi hh.2⟩
theorem dirtyR_o : Calls Tryz.prog 73 #[dp q] w fun e w' => ∃ A c, e = .returned (.slice A (dL S.wet).length c) ∧ IR w' A (dL S.wet) ∧ (∀ a, A = some a → w.heap.size ≤ a.block) ∧ Below w.heap.size w w' := dirty_rd (h.get hi)
end
theorem newR_o {w0 w : World} {os : List Ob} (h : Obs w0 w os) {n : Nat} (h1 : 1 ≤ n) (h2 : n ≤ 1024) :
    Calls Tryz.prog 23 #[.int .i64 (n : Int)] w fun e w' => ∃ q g1 g2 g3, e = .returned (.tuple #[dp q, .int .i64 0]) ∧ Obs w0 w' (os ++ [rdOb q g1 g2 g3 (DS.new n)]) :=
  (new_rd h1 h2).mono fun e w' hh => by
    obtain ⟨q, g1, g2, g3, he, hD, hb, hg⟩ := hh
    exact ⟨q, g1, g2, g3, he, h.add _ hD (rdOb_stays _ _ _ _ _) hb (fun b hb' => ⟨hg b hb', hD.lts b hb'⟩)⟩
end Go.Proofs.YthfnncahmccgkaaGreatDoor
