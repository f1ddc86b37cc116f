/-
  Steps as they lie; long, text, many.
-/
import Derived.Test.YthfnncahmccgkaaGreatDoorLLaw
namespace Go.Proofs.YthfnncahmccgkaaGreatDoor
open Go Go.RowKit Go.Maps
set_option maxRecDepth 100000
set_option linter.unusedSimpArgs false
set_option linter.unusedVariables false

/-- A step. -/
structure S2 where
  wh : UInt8
  half : Int
  age : Int
  s : List UInt8
  many : Int
  keep : List Int
  kA : Option Addr
  kc : Nat
def s2C (t : S2) : Array Value := #[.int .u8 (t.wh.toNat : Int), .int .i64 t.half, .int .i64 t.age, sv t.s, .int .i64 t.many, .slice t.kA t.keep.length t.kc]
def S2.val (t : S2) : Value := .agg (s2C t)
def s20 : S2 := ⟨0, 0, 0, [], 0, [], none, 0⟩
/-- A step's numbers, and where its Keep lies. -/
structure S2.Ok (w : World) (t : S2) : Prop where
  half : (-9223372036854775808 : Int) ≤ t.half ∧ t.half ≤ 9223372036854775807
  age : (-9223372036854775808 : Int) ≤ t.age ∧ t.age ≤ 9223372036854775807
  many : (-9223372036854775808 : Int) ≤ t.many ∧ t.many ≤ 9223372036854775807
  sl : t.s.length ≤ 9223372036854775807
  ir : IR w t.kA t.keep
  len : t.keep.length ≤ 9223372036854775807
/-- The cells of a step, at a place. -/
def S2Cells (w : World) (b o : Nat) (t : S2) : Prop := ∀ j, j < 6 → w.cell? ⟨b, o + j, none⟩ = (s2C t)[j]?
/-- A row of steps. -/
def S2At (w : World) (A : Option Addr) (l : List S2) : Prop :=
  ∀ j, j < l.length → ∃ b o, A = some ⟨b, o, none⟩ ∧ b < w.heap.size ∧ S2Cells w b (o + j * 6) (l.getD j s20) ∧ (l.getD j s20).Ok w
theorem S2Cells.of_block {w w' : World} {b o : Nat} {t : S2} (h : S2Cells w b o t) (hb : w'.heap[b]? = w.heap[b]?) : S2Cells w' b o t := fun j hj => (World.cell?_of_block (w := w) hb).trans (h j hj)
theorem S2.Ok.below {w w' : World} {t : S2} (h : t.Ok w) (hb : Below w.heap.size w w') : t.Ok w' := ⟨h.half, h.age, h.many, h.sl, h.ir.below hb, h.len⟩
theorem S2At.below {w w' : World} {A : Option Addr} {l : List S2} (h : S2At w A l) (hb : Below w.heap.size w w') : S2At w' A l := fun j hj => by
  obtain ⟨b, o, h1, h2, h3, h4⟩ := h j hj
  exact ⟨b, o, h1, Nat.lt_of_lt_of_le h2 hb.size, h3.of_block (hb.block b h2), h4.below hb⟩

def tot2 (l : List S2) (k : Nat) : Nat := ((l.take k).map (fun t => 30 + min 3000 t.keep.length + min 3000 t.s.length)).sum
theorem tot2_step {l : List S2} {k : Nat} (h : k < l.length) : tot2 l (k + 1) = tot2 l k + (30 + min 3000 (l.getD k s20).keep.length + min 3000 (l.getD k s20).s.length) := by
  unfold tot2
  rw [List.take_add_one, List.getElem?_eq_getElem h, List.map_append, List.sum_append]
  simp [List.getD_eq_getElem?_getD, List.getElem?_eq_getElem h]
theorem tot2_ge (l : List S2) : ∀ k, k ≤ l.length → 30 * k ≤ tot2 l k ∧ ∀ j, j < k → 30 + min 3000 (l.getD j s20).keep.length + min 3000 (l.getD j s20).s.length ≤ tot2 l k
  | 0, _ => ⟨by omega, fun j hj => by omega⟩
  | k + 1, hk => by
    obtain ⟨h1, h2⟩ := tot2_ge l k (by omega)
    rw [tot2_step (by omega)]
    refine ⟨by omega, fun j hj => ?_⟩
    by_cases e : j = k
    · subst e; omega
    · have := h2 j (by omega); omega
/-- Not long. -/
def Short2 (l : List S2) : Prop := l.length ≤ 100 ∧ ∀ t ∈ l, t.keep.length ≤ 3000 ∧ t.s.length ≤ 3000
theorem tot2_short {l : List S2} (h : tot2 l l.length < 3000) : Short2 l := by
  obtain ⟨h1, h2⟩ := tot2_ge l l.length (Nat.le_refl _)
  refine ⟨by omega, fun t ht => ?_⟩
  obtain ⟨j, hj, rfl⟩ := List.getElem_of_mem ht
  have := h2 j hj
  rw [List.getD_eq_getElem?_getD, List.getElem?_eq_getElem hj] at this
  simp only [Option.getD_some] at this
  omega
theorem Short2.at {l : List S2} (h : Short2 l) {k : Nat} (hk : k < l.length) : (l.getD k s20).keep.length ≤ 3000 ∧ (l.getD k s20).s.length ≤ 3000 :=
  h.2 _ (by rw [List.getD_eq_getElem?_getD, List.getElem?_eq_getElem hk]; exact List.getElem_mem hk)
def Long2Post (l : List S2) (w : World) (e : Ending) (w' : World) : Prop := ∃ b, e = .returned (.bool b) ∧ (b = false → Short2 l) ∧ Below w.heap.size w w'
set_option maxHeartbeats 8000000 in
theorem long12_any {w : World} {A : Option Addr} {c : Nat} {l : List S2} (h : S2At w A l) (hl : l.length ≤ 9223372036854775807) :
    Calls Tryz.prog 22 #[.slice A l.length c] w (Long2Post l w) := by
  have HS := Lib.hid h
  have HT : Hid (∀ t, t = tot2 l l.length → t < 3000 → Short2 l) := fun t ht h => tot2_short (by rw [← ht]; exact h)
  generalize hn : l.length = n at hl HT ⊢
  have HN := Lib.hid hn
  clear h hn
  go_enter Tryz.func22, Tryz.ntmps22
  go_wp2_with fail
  go_loopw [3, 4] (fun tv kv wr => ∃ (k t : Nat), tv = .int .i64 (t : Int) ∧ kv = .int .i64 (k : Int) ∧ k ≤ n ∧ t = tot2 l k ∧ t < 9030 ∧ Below w.heap.size w wr) (fun _ kv _ => n - (RowKit.intOf kv).toNat)
  case atStart => exact ⟨0, 0, rfl, rfl, by omega, rfl, by omega, Below.refl _ _⟩
  case round =>
    obtain ⟨k, t, rfl, rfl, hkn, ht, ht2, hB⟩ := hrel
    have HB := Lib.hid hB
    have HTT := Lib.hid ht
    by_cases hk : k < n
    · have hki : (k : Int) < (n : Int) := by omega
      by_cases htl : t < 3000
      · have hti : (t : Int) < 3000 := by omega
        obtain ⟨b, o, rfl, hb, hc, hok⟩ := HS.out k (by rw [HN.out]; exact hk)
        have hcb := hc.of_block (hB.block b hb)
        have HST := Lib.hid (tot2_step (l := l) (k := k) (by rw [HN.out]; exact hk))
        have hkl := hok.len
        have hsl := hok.sl
        have c5 : wr.drew.cell? ⟨b, o + k * 6 + 5, none⟩ = some (.slice (l.getD k s20).kA (l.getD k s20).keep.length (l.getD k s20).kc) := hcb 5 (by omega)
        have c3 : wr.drew.cell? ⟨b, o + k * 6 + 3, none⟩ = some (sv (l.getD k s20).s) := hcb 3 (by omega)
        generalize (l.getD k s20).keep.length = m at c5 HST hkl
        generalize (l.getD k s20).kA = kA at c5
        generalize (l.getD k s20).kc = kc at c5
        obtain ⟨sS, hsS⟩ : ∃ sS, sS = (l.getD k s20).s := ⟨_, rfl⟩
        rw [← hsS] at c3 hsl HST
        have hsz : (str sS).size = sS.length := by show sS.toArray.size = _; simp
        have hk0 : (0 : Int) ≤ (k : Int) := by omega
        have hwr : IntKind.i64.wrap ((k : Int) + 1) = (k : Int) + 1 := IntWalk.i64_in _ (by omega)
        have hw1 : IntKind.i64.wrap ((t : Int) + 30) = (t : Int) + 30 := IntWalk.i64_in _ (by omega)
        have hw2 : IntKind.i64.wrap ((t : Int) + 30 + min 3000 (m : Int)) = (t : Int) + 30 + min 3000 (m : Int) := IntWalk.i64_in _ (by omega)
        have hw3 : IntKind.i64.wrap ((t : Int) + 30 + min 3000 (m : Int) + min 3000 (sS.length : Int)) = ((t + (30 + min 3000 m + min 3000 sS.length) : Nat) : Int) := by rw [IntWalk.i64_in _ (by omega)]; omega
        obtain ⟨t2, ht2e⟩ : ∃ t2, t2 = t + (30 + min 3000 m + min 3000 sS.length) := ⟨_, rfl⟩
        rw [← ht2e] at hw3
        have HT2 := Lib.hid ht2e
        clear hB ht hc hok ht2e hcb hsS
        go_wp2_with fail
        refine wp_region_held_drew (S := fun W => W.cell? ⟨b, o + k * 6 + 5, none⟩ = some (.slice kA m kc) ∧ W.cell? ⟨b, o + k * 6 + 3, none⟩ = some (sv sS)) (by kernel_rfl) ⟨c5, c3⟩ (fun hHeld => ?_)
        refine wpAnyH_take (i := 0) (v := ?vv0_1) rfl (by kernel_rfl) (by kernel_rfl) (by kernel_rfl) (fun _ _ _ h => h) (Or.inl ⟨by rfl, ?hy0_1⟩) (by assumption) ?rest0_1
        case hy0_1 => (intro w' hSw; (try dsimp only at hSw); go_simp; try with_reducible rfl)
        try simp only [List.getElem_toArray, List.getElem_cons_zero, List.getElem_cons_succ, Act.put, List.setIfInBounds_toArray, List.set_cons_zero, List.set_cons_succ]
        refine wpAnyH_take (i := 1) (v := ?vv1_1) rfl (by kernel_rfl) (by kernel_rfl) (by kernel_rfl) (fun _ _ _ h => h) (Or.inl ⟨by rfl, ?hy1_1⟩) (by assumption) ?rest1_1
        case hy1_1 => (intro w' hSw; (try dsimp only at hSw); go_simp; try with_reducible rfl)
        try simp only [List.getElem_toArray, List.getElem_cons_zero, List.getElem_cons_succ, Act.put, List.setIfInBounds_toArray, List.set_cons_zero, List.set_cons_succ]
        refine wpAnyH_take (i := 2) (v := ?vv2_1) rfl (by kernel_rfl) (by kernel_rfl) (by kernel_rfl) (fun _ _ _ h => h) (Or.inl ⟨by rfl, ?hy2_1⟩) (by assumption) ?rest2_1
        case hy2_1 => (intro w' hSw; (try dsimp only at hSw); go_simp; try with_reducible rfl)
        try simp only [List.getElem_toArray, List.getElem_cons_zero, List.getElem_cons_succ, Act.put, List.setIfInBounds_toArray, List.set_cons_zero, List.set_cons_succ]
        refine wpAnyH_take (i := 3) (v := ?vv3_1) rfl (by kernel_rfl) (by kernel_rfl) (by kernel_rfl) (fun _ _ _ h => h) (Or.inl ⟨by rfl, ?hy3_1⟩) (by assumption) ?rest3_1
        case hy3_1 => (intro w' hSw; (try dsimp only at hSw); go_simp; try with_reducible rfl)
        try simp only [List.getElem_toArray, List.getElem_cons_zero, List.getElem_cons_succ, Act.put, List.setIfInBounds_toArray, List.set_cons_zero, List.set_cons_succ]
        refine wpAnyH_take (i := 4) (v := ?vv4_1) rfl (by kernel_rfl) (by kernel_rfl) (by kernel_rfl) (fun _ _ _ h => h) (Or.inl ⟨by rfl, ?hy4_1⟩) (by assumption) ?rest4_1
        case hy4_1 => (intro w' hSw; (try dsimp only at hSw); go_simp; try with_reducible rfl)
        try simp only [List.getElem_toArray, List.getElem_cons_zero, List.getElem_cons_succ, Act.put, List.setIfInBounds_toArray, List.set_cons_zero, List.set_cons_succ]
        refine wpAnyH_take (i := 5) (v := ?vv5_1) rfl (by kernel_rfl) (by kernel_rfl) (by kernel_rfl) (fun _ _ _ h => h) (Or.inl ⟨by rfl, ?hy5_1⟩) (by assumption) ?rest5_1
        case hy5_1 => (intro w' hSw; (try dsimp only at hSw); go_simp; try with_reducible rfl)
        try simp only [List.getElem_toArray, List.getElem_cons_zero, List.getElem_cons_succ, Act.put, List.setIfInBounds_toArray, List.set_cons_zero, List.set_cons_succ]
        refine wpAnyH_take (i := 6) (v := .slice kA m kc) rfl (by kernel_rfl) (by kernel_rfl) (by kernel_rfl) (fun _ _ _ h => h) (Or.inl ⟨by rfl, fun w' hSw => exec_load1 w' rfl rfl hSw.1 Tryz.underlying46 rfl⟩) (by assumption) ?_
        try simp only [List.getElem_toArray, List.getElem_cons_zero, List.getElem_cons_succ, Act.put, List.setIfInBounds_toArray, List.set_cons_zero, List.set_cons_succ]
        refine wpAnyH_take (i := 7) (v := ?vv7_1) rfl (by kernel_rfl) (by kernel_rfl) (by kernel_rfl) (fun _ _ _ h => h) (Or.inl ⟨by rfl, ?hy7_1⟩) (by assumption) ?rest7_1
        case hy7_1 => (intro w' hSw; (try dsimp only at hSw); go_simp; try with_reducible rfl)
        try simp only [List.getElem_toArray, List.getElem_cons_zero, List.getElem_cons_succ, Act.put, List.setIfInBounds_toArray, List.set_cons_zero, List.set_cons_succ]
        refine wpAnyH_take (i := 8) (v := ?vv8_1) rfl (by kernel_rfl) (by kernel_rfl) (by kernel_rfl) (fun _ _ _ h => h) (Or.inl ⟨by rfl, ?hy8_1⟩) (by assumption) ?rest8_1
        case hy8_1 => (intro w' hSw; (try dsimp only at hSw); go_simp; try with_reducible rfl)
        try simp only [List.getElem_toArray, List.getElem_cons_zero, List.getElem_cons_succ, Act.put, List.setIfInBounds_toArray, List.set_cons_zero, List.set_cons_succ]
        refine wpAnyH_take (i := 9) (v := ?vv9_1) rfl (by kernel_rfl) (by kernel_rfl) (by kernel_rfl) (fun _ _ _ h => h) (Or.inl ⟨by rfl, ?hy9_1⟩) (by assumption) ?rest9_1
        case hy9_1 => (intro w' hSw; (try dsimp only at hSw); go_simp; try with_reducible rfl)
        try simp only [List.getElem_toArray, List.getElem_cons_zero, List.getElem_cons_succ, Act.put, List.setIfInBounds_toArray, List.set_cons_zero, List.set_cons_succ]
        refine wpAnyH_take (i := 10) (v := ?vv10_1) rfl (by kernel_rfl) (by kernel_rfl) (by kernel_rfl) (fun _ _ _ h => h) (Or.inl ⟨by rfl, ?hy10_1⟩) (by assumption) ?rest10_1
        case hy10_1 => (intro w' hSw; (try dsimp only at hSw); go_simp; try with_reducible rfl)
        try simp only [List.getElem_toArray, List.getElem_cons_zero, List.getElem_cons_succ, Act.put, List.setIfInBounds_toArray, List.set_cons_zero, List.set_cons_succ]
        refine wpAnyH_take (i := 11) (v := ?vv11_1) rfl (by kernel_rfl) (by kernel_rfl) (by kernel_rfl) (fun _ _ _ h => h) (Or.inl ⟨by rfl, ?hy11_1⟩) (by assumption) ?rest11_1
        case hy11_1 => (intro w' hSw; (try dsimp only at hSw); go_simp; try with_reducible rfl)
        try simp only [List.getElem_toArray, List.getElem_cons_zero, List.getElem_cons_succ, Act.put, List.setIfInBounds_toArray, List.set_cons_zero, List.set_cons_succ]
        refine wpAnyH_take (i := 12) (v := ?vv12_1) rfl (by kernel_rfl) (by kernel_rfl) (by kernel_rfl) (fun _ _ _ h => h) (Or.inl ⟨by rfl, ?hy12_1⟩) (by assumption) ?rest12_1
        case hy12_1 => (intro w' hSw; (try dsimp only at hSw); go_simp; try with_reducible rfl)
        try simp only [List.getElem_toArray, List.getElem_cons_zero, List.getElem_cons_succ, Act.put, List.setIfInBounds_toArray, List.set_cons_zero, List.set_cons_succ]
        refine wpAnyH_take (i := 13) (v := ?vv13_1) rfl (by kernel_rfl) (by kernel_rfl) (by kernel_rfl) (fun _ _ _ h => h) (Or.inl ⟨by rfl, ?hy13_1⟩) (by assumption) ?rest13_1
        case hy13_1 => (intro w' hSw; (try dsimp only at hSw); go_simp; try with_reducible rfl)
        try simp only [List.getElem_toArray, List.getElem_cons_zero, List.getElem_cons_succ, Act.put, List.setIfInBounds_toArray, List.set_cons_zero, List.set_cons_succ]
        refine wpAnyH_take (i := 14) (v := sv sS) rfl (by kernel_rfl) (by kernel_rfl) (by kernel_rfl) (fun _ _ _ h => h) (Or.inl ⟨by rfl, fun w' hSw => exec_load1 w' rfl rfl hSw.2 Tryz.underlying9 rfl⟩) (by assumption) ?_
        try simp only [List.getElem_toArray, List.getElem_cons_zero, List.getElem_cons_succ, Act.put, List.setIfInBounds_toArray, List.set_cons_zero, List.set_cons_succ]
        refine wpAnyH_take (i := 15) (v := ?vv15_1) rfl (by kernel_rfl) (by kernel_rfl) (by kernel_rfl) (fun _ _ _ h => h) (Or.inl ⟨by rfl, ?hy15_1⟩) (by assumption) ?rest15_1
        case hy15_1 => (intro w' hSw; (try dsimp only at hSw); go_simp; try with_reducible rfl)
        try simp only [List.getElem_toArray, List.getElem_cons_zero, List.getElem_cons_succ, Act.put, List.setIfInBounds_toArray, List.set_cons_zero, List.set_cons_succ]
        refine wpAnyH_take (i := 16) (v := ?vv16_1) rfl (by kernel_rfl) (by kernel_rfl) (by kernel_rfl) (fun _ _ _ h => h) (Or.inl ⟨by rfl, ?hy16_1⟩) (by assumption) ?rest16_1
        case hy16_1 => (intro w' hSw; (try dsimp only at hSw); go_simp; try with_reducible rfl)
        try simp only [List.getElem_toArray, List.getElem_cons_zero, List.getElem_cons_succ, Act.put, List.setIfInBounds_toArray, List.set_cons_zero, List.set_cons_succ]
        refine wpAnyH_take (i := 17) (v := ?vv17_1) rfl (by kernel_rfl) (by kernel_rfl) (by kernel_rfl) (fun _ _ _ h => h) (Or.inl ⟨by rfl, ?hy17_1⟩) (by assumption) ?rest17_1
        case hy17_1 => (intro w' hSw; (try dsimp only at hSw); go_simp; try with_reducible rfl)
        try simp only [List.getElem_toArray, List.getElem_cons_zero, List.getElem_cons_succ, Act.put, List.setIfInBounds_toArray, List.set_cons_zero, List.set_cons_succ]
        refine wpAnyH_take (i := 18) (v := ?vv18_1) rfl (by kernel_rfl) (by kernel_rfl) (by kernel_rfl) (fun _ _ _ h => h) (Or.inl ⟨by rfl, ?hy18_1⟩) (by assumption) ?rest18_1
        case hy18_1 => (intro w' hSw; (try dsimp only at hSw); go_simp; try with_reducible rfl)
        try simp only [List.getElem_toArray, List.getElem_cons_zero, List.getElem_cons_succ, Act.put, List.setIfInBounds_toArray, List.set_cons_zero, List.set_cons_succ]
        refine wpAnyH_done (by kernel_rfl) ?_ _
        go_wp2_with fail
        go_roundw
        case rel => exact ⟨k + 1, t2, rfl, by go_num, by omega, by rw [HST.out, HT2.out, HTT.out], by rw [HT2.out]; omega, HB.out.drew⟩
        case measure => simp [RowKit.intOf]; omega
      · have hti : ¬ (t : Int) < 3000 := by omega
        clear hB ht
        go_wp2_with fail
        go_ret
        exact ⟨true, rfl, by simp, HB.out⟩
    · have hki : ¬ (k : Int) < (n : Int) := by omega
      have hkk : k = n := by omega
      have HR := Lib.hid (fun h : t < 3000 => HT.out t (by rw [HTT.out, hkk]) h)
      clear hB ht hkk
      go_wp2_with fail
      go_ret
      refine ⟨decide (3000 ≤ (t : Int)), rfl, fun h => HR.out (by simp at h; omega), HB.out⟩

/-! ### Texts that are not many -/
def totM (l : List (List UInt8)) (k : Nat) : Nat := ((l.take k).map (fun t => 10 + min 9000 t.length)).sum
theorem totM_step {l : List (List UInt8)} {k : Nat} (h : k < l.length) : totM l (k + 1) = totM l k + (10 + min 9000 (l.getD k []).length) := by
  unfold totM
  rw [List.take_add_one, List.getElem?_eq_getElem h, List.map_append, List.sum_append]
  simp [List.getD_eq_getElem?_getD, List.getElem?_eq_getElem h]
theorem totM_ge (l : List (List UInt8)) : ∀ k, k ≤ l.length → ∀ j, j < k → 10 + min 9000 (l.getD j []).length ≤ totM l k
  | 0, _ => fun j hj => by omega
  | k + 1, hk => fun j hj => by
    have h2 := totM_ge l k (by omega)
    rw [totM_step (by omega)]
    by_cases e : j = k
    · subst e; omega
    · have := h2 j (by omega); omega
theorem totM_few {l : List (List UInt8)} (h : totM l l.length < 9000) : ∀ k, (l.getD k []).length ≤ 9000 := by
  intro k
  by_cases hk : k < l.length
  · have := totM_ge l l.length (Nat.le_refl _) k hk
    omega
  · rw [List.getD_eq_getElem?_getD, List.getElem?_eq_none (by omega)]; simp
def ManyPost (l : List (List UInt8)) (w : World) (e : Ending) (w' : World) : Prop := ∃ b, e = .returned (.bool b) ∧ (b = false → ∀ k, (l.getD k []).length ≤ 9000) ∧ Below w.heap.size w w'
set_option maxHeartbeats 4000000 in
theorem many12_any {w : World} {A : Option Addr} {c : Nat} {l : List (List UInt8)} (h : Tx w A l) (hl : l.length ≤ 1000) (hx : ∀ x ∈ l, x.length ≤ 9223372036854775807) :
    Calls Tryz.prog 27 #[.slice A l.length c] w (ManyPost l w) := by
  have HS := Lib.hid h
  have HX := Lib.hid (fun k (hk : k < l.length) => hx (l.getD k []) (by rw [List.getD_eq_getElem?_getD, List.getElem?_eq_getElem hk]; exact List.getElem_mem hk))
  have HT : Hid (∀ t, t = totM l l.length → t < 9000 → ∀ k, (l.getD k []).length ≤ 9000) := fun t ht h => totM_few (by rw [← ht]; exact h)
  generalize hn : l.length = n at hl HT HX ⊢
  have HN := Lib.hid hn
  clear h hn hx
  go_enter Tryz.func27, Tryz.ntmps27
  go_wp2_with fail
  go_loopw [3, 4] (fun tv kv wr => ∃ (k t : Nat), tv = .int .i64 (t : Int) ∧ kv = .int .i64 (k : Int) ∧ k ≤ n ∧ t = totM l k ∧ t < 18030 ∧ Below w.heap.size w wr) (fun _ kv _ => n - (RowKit.intOf kv).toNat)
  case atStart => exact ⟨0, 0, rfl, rfl, by omega, rfl, by omega, Below.refl _ _⟩
  case round =>
    obtain ⟨k, t, rfl, rfl, hkn, ht, ht2, hB⟩ := hrel
    have HB := Lib.hid hB
    have HTT := Lib.hid ht
    by_cases hk : k < n
    · have hki : (k : Int) < (n : Int) := by omega
      by_cases htl : t < 9000
      · have hti : (t : Int) < 9000 := by omega
        obtain ⟨b, o, rfl, c1⟩ := (HS.out.below hB).cell (k := k) (by rw [HN.out]; exact hk)
        have HST := Lib.hid (totM_step (l := l) (k := k) (by rw [HN.out]; exact hk))
        have hsl := HX.out k hk
        obtain ⟨sS, hsS⟩ : ∃ sS, sS = l.getD k [] := ⟨_, rfl⟩
        rw [← hsS] at c1 HST hsl
        have hsz : (str sS).size = sS.length := by show sS.toArray.size = _; simp
        have hk0 : (0 : Int) ≤ (k : Int) := by omega
        have hwr : IntKind.i64.wrap ((k : Int) + 1) = (k : Int) + 1 := IntWalk.i64_in _ (by omega)
        have hw1 : IntKind.i64.wrap ((t : Int) + 10) = (t : Int) + 10 := IntWalk.i64_in _ (by omega)
        have hw2 : IntKind.i64.wrap ((t : Int) + 10 + min 9000 (sS.length : Int)) = ((t + (10 + min 9000 sS.length) : Nat) : Int) := by rw [IntWalk.i64_in _ (by omega)]; omega
        obtain ⟨t2, ht2e⟩ : ∃ t2, t2 = t + (10 + min 9000 sS.length) := ⟨_, rfl⟩
        rw [← ht2e] at hw2
        have HT2 := Lib.hid ht2e
        clear hB ht ht2e hsS
        go_wp2_with fail
        go_roundw
        case rel => exact ⟨k + 1, t2, rfl, by go_num, by omega, by rw [HST.out, HT2.out, HTT.out], by rw [HT2.out]; omega, HB.out⟩
        case measure => simp [RowKit.intOf]; omega
      · have hti : ¬ (t : Int) < 9000 := by omega
        clear hB ht
        go_wp2_with fail
        go_ret
        exact ⟨true, rfl, by simp, HB.out⟩
    · have hki : ¬ (k : Int) < (n : Int) := by omega
      have hkk : k = n := by omega
      have HR := Lib.hid (fun h : t < 9000 => HT.out t (by rw [HTT.out, hkk]) h)
      clear hB ht hkk
      go_wp2_with fail
      go_ret
      refine ⟨decide (9000 ≤ (t : Int)), rfl, fun h => HR.out (by simp at h; omega), HB.out⟩

/-! ### What a step writes -/
def txtR (s : List UInt8) (many : Int) : Nat → Nat → List UInt8 → List UInt8
  | 0, _, out => out
  | f + 1, i, out => if (i : Int) < many ∧ out.length < 1500 then txtR s many f (i + 1) (out ++ s) else out
def S2.txt (t : S2) : List UInt8 := txtR t.s t.many 40 0 []
theorem txtR_len (s : List UInt8) (many : Int) : ∀ f i out, out.length ≤ 1500 + s.length → (txtR s many f i out).length ≤ 1500 + s.length
  | 0, _, _, h => h
  | f + 1, i, out, h => by
    rw [txtR]
    split
    · rename_i hc
      exact txtR_len s many f (i + 1) _ (by rw [List.length_append]; omega)
    · exact h
theorem S2.txt_len (t : S2) : t.txt.length ≤ 1500 + t.s.length := txtR_len _ _ _ _ _ (by simp)
set_option maxHeartbeats 4000000 in
theorem text_any {w : World} (t : S2) (hm : (-9223372036854775808 : Int) ≤ t.many ∧ t.many ≤ 9223372036854775807) (hs : t.s.length ≤ 100000) :
    Calls Tryz.prog 49 #[t.val] w fun e w' => e = .returned (sv t.txt) ∧ Below w.heap.size w w' := by
  have hg : (w.alloc (.cells (s2C t) 61)).heap[w.heap.size]? = some (.cells (s2C t) 61 (0, 0)) := heap_alloc_new w _
  have hb1 := below_alloc w (.cells (s2C t) 61)
  have c3 : (w.alloc (.cells (s2C t) 61)).cell? ⟨w.heap.size, 3, none⟩ = some (sv t.s) := cellAt hg 3
  have c4 : (w.alloc (.cells (s2C t) 61)).cell? ⟨w.heap.size, 4, none⟩ = some (.int .i64 t.many) := cellAt hg 4
  have HTX := Lib.hid (show t.txt = txtR t.s t.many 40 0 [] from rfl)
  have hv : t.val = .agg (s2C t) := rfl
  rw [hv]
  obtain ⟨X, hXe⟩ : ∃ X, X = t.txt := ⟨_, rfl⟩
  rw [← hXe] at HTX ⊢
  clear hXe hv
  go_enter Tryz.func49, Tryz.ntmps49
  go_upto_region 1 with fail
  obtain ⟨g, hge⟩ : ∃ g, g = w.heap.size := ⟨_, rfl⟩
  rw [← hge] at c3 c4 ⊢
  generalize w.alloc (.cells (s2C t) 61) = w1 at c3 c4 hb1 ⊢
  obtain ⟨s, hse⟩ : ∃ s, s = t.s := ⟨_, rfl⟩
  obtain ⟨m, hme⟩ : ∃ m, m = t.many := ⟨_, rfl⟩
  rw [← hse] at c3 hs HTX
  rw [← hme] at c4 hm HTX
  have HB1 := Lib.hid hb1
  clear hg hge hse hme hb1
  go_wp2_with fail
  go_loopw [3, 4] (fun ov iv wr => ∃ (i f : Nat) (out : List UInt8), ov = sv out ∧ iv = .int .i64 (i : Int) ∧ i + f = 40 ∧ txtR s m f i out = X ∧ out.length ≤ 1500 + s.length ∧ wr = w1) (fun _ iv _ => 40 - (RowKit.intOf iv).toNat)
  case atStart => exact ⟨0, 40, [], rfl, rfl, rfl, HTX.out.symm, by simp, rfl⟩
  case round =>
    obtain ⟨i, f, out, rfl, rfl, hif, htx, hol, rfl⟩ := hrel
    have hsz : (str out).size = out.length := by show out.toArray.size = _; simp
    have hHT := Lib.hid htx
    clear htx
    by_cases h1 : (i : Int) < m
    · by_cases h2 : i < 40
      · have h2' : (i : Int) < 40 := by omega
        by_cases h3 : out.length < 1500
        · have h3' : (out.length : Int) < 1500 := by omega
          obtain ⟨f', rfl⟩ : ∃ f', f = f' + 1 := ⟨f - 1, by omega⟩
          have HN := Lib.hid (show txtR s m f' (i + 1) (out ++ s) = X by
            have := hHT.out
            rw [txtR, if_pos ⟨h1, h3⟩] at this
            exact this)
          have hcat : str out ++ str s = str (out ++ s) := str_append _ _
          have hno : ¬ 9223372036854775807 < out.length + s.length := by omega
          have hno2 : ¬ (9223372036854775807 : Int) < (out.length : Int) + (s.length : Int) := by omega
          have hsz2 : (str s).size = s.length := by show s.toArray.size = _; simp
          have HLN := Lib.hid (show (out ++ s).length ≤ 1500 + s.length by rw [List.length_append]; omega)
          obtain ⟨o2, ho2⟩ : ∃ o2, o2 = out ++ s := ⟨_, rfl⟩
          rw [← ho2] at hcat HN HLN
          clear ho2
          go_wp2_with fail
          go_roundw
          case rel => exact ⟨i + 1, f', o2, rfl, by go_num, by omega, HN.out, HLN.out, by trivial⟩
          case measure => simp [RowKit.intOf]; omega
        · have h3' : ¬ (out.length : Int) < 1500 := by omega
          have HX := Lib.hid (show out = X by
            have := hHT.out
            cases f with
            | zero => exact this
            | succ f => rw [txtR, if_neg (fun h => h3 h.2)] at this; exact this)
          go_wp2_with fail
          go_ret
          exact ⟨by rw [← HX.out]; rfl, HB1.out⟩
      · have h2' : ¬ (i : Int) < 40 := by omega
        have HX := Lib.hid (show out = X by
          have := hHT.out
          rw [show f = 0 by omega] at this
          exact this)
        go_wp2_with fail
        go_ret
        exact ⟨by rw [← HX.out]; rfl, HB1.out⟩
    · have HX := Lib.hid (show out = X by
        have := hHT.out
        cases f with
        | zero => exact this
        | succ f => rw [txtR, if_neg (fun h => h1 h.1)] at this; exact this)
      go_wp2_with fail
      go_ret
      exact ⟨by rw [← HX.out]; rfl, HB1.out⟩
end Go.Proofs.YthfnncahmccgkaaGreatDoor

