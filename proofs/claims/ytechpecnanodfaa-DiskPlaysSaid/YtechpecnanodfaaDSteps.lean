/-
  Steps as they lie; long.
-/
import Derived.Test.YtechpecnanodfaaDLong
namespace Go.Proofs.Ytechpecnanodfaa
open Go Go.RowKit Go.Maps
set_option maxRecDepth 100000
set_option linter.unusedSimpArgs false
set_option linter.unusedVariables false

/-- A step. -/
structure SD where
  wh : UInt8
  a : Int
  y : UInt8
  odd : Int
  keep : List Int
  kA : Option Addr
  kc : Nat
def SD.val (s : SD) : Value := stepV s.wh s.a s.y s.odd (.slice s.kA s.keep.length s.kc)
def sd0 : SD := ⟨0, 0, 0, 0, [], none, 0⟩
/-- A step's numbers, and where its Keep lies. -/
structure SD.Ok (w : World) (s : SD) : Prop where
  a : (-9223372036854775808 : Int) ≤ s.a ∧ s.a ≤ 9223372036854775807
  odd : (-9223372036854775808 : Int) ≤ s.odd ∧ s.odd ≤ 9223372036854775807
  ir : IR w s.kA s.keep
  len : s.keep.length ≤ 9223372036854775807
/-- The cells of a step, at a place. -/
structure StCells (w : World) (b o : Nat) (s : SD) : Prop where
  c0 : w.cell? ⟨b, o, none⟩ = some (.int .u8 (s.wh.toNat : Int))
  c1 : w.cell? ⟨b, o + 1, none⟩ = some (.int .i64 s.a)
  c2 : w.cell? ⟨b, o + 2, none⟩ = some (.int .u8 (s.y.toNat : Int))
  c3 : w.cell? ⟨b, o + 3, none⟩ = some (.int .i64 s.odd)
  c4 : w.cell? ⟨b, o + 4, none⟩ = some (.slice s.kA s.keep.length s.kc)
/-- A row of steps. -/
def StAt (w : World) (A : Option Addr) (l : List SD) : Prop :=
  ∀ j, j < l.length → ∃ b o, A = some ⟨b, o, none⟩ ∧ b < w.heap.size ∧ StCells w b (o + j * 5) (l.getD j sd0) ∧ (l.getD j sd0).Ok w
theorem StCells.of_block {w w' : World} {b o : Nat} {s : SD} (h : StCells w b o s) (hb : w'.heap[b]? = w.heap[b]?) : StCells w' b o s :=
  ⟨(World.cell?_of_block (w := w) hb).trans h.c0, (World.cell?_of_block (w := w) hb).trans h.c1, (World.cell?_of_block (w := w) hb).trans h.c2, (World.cell?_of_block (w := w) hb).trans h.c3, (World.cell?_of_block (w := w) hb).trans h.c4⟩
theorem SD.Ok.kp {w w' : World} {s : SD} (h : s.Ok w) {T : List Nat} (hk : Kp T w w') (hs : ∀ x, s.kA = some x → s.keep ≠ [] → x.block ∉ T) : s.Ok w' :=
  ⟨h.a, h.odd, h.ir.kp hk hs, h.len⟩
/-- Where the Keep of a step lies that is so of w. -/
theorem SD.Ok.lo {w : World} {s : SD} (h : s.Ok w) : ∀ x, s.kA = some x → s.keep ≠ [] → x.block < w.heap.size := fun x hx hn => by
  obtain ⟨b, o, hA, hb, _⟩ := h.ir 0 (by cases hk : s.keep with | nil => exact absurd hk hn | cons _ _ => simp)
  rw [hx] at hA; cases hA; exact hb
/-- Blocks below m are kept. -/
theorem StAt.low {w w' : World} {A : Option Addr} {l : List SD} (h : StAt w A l) {m : Nat} (hA : ∀ a, A = some a → a.block < m) (hK : ∀ s ∈ l, ∀ x, s.kA = some x → s.keep ≠ [] → x.block < m) {T : List Nat} (hk : Kp T w w') (hT : ∀ k ∈ T, m ≤ k) : StAt w' A l := fun j hj => by
  obtain ⟨b, o, h1, h2, h3, h4⟩ := h j hj
  have hb : b ∉ T := fun e => by have := hT b e; have := hA _ h1; simp only at this; omega
  refine ⟨b, o, h1, Nat.lt_of_lt_of_le h2 hk.size, h3.of_block (hk.block b h2 hb), h4.kp hk (fun x hx hnn e => ?_)⟩
  have hm : l.getD j sd0 ∈ l := by rw [List.getD_eq_getElem?_getD, List.getElem?_eq_getElem hj]; exact List.getElem_mem hj
  have := hK _ hm x hx hnn
  have := hT _ e
  omega
theorem StAt.below {w w' : World} {A : Option Addr} {l : List SD} (h : StAt w A l) (hb : Below w.heap.size w w') : StAt w' A l := fun j hj => by
  obtain ⟨b, o, h1, h2, h3, h4⟩ := h j hj
  exact ⟨b, o, h1, Nat.lt_of_lt_of_le h2 hb.size, h3.of_block (hb.block b h2), h4.kp (Kp.of_below hb []) (by simp)⟩

def totN (l : List SD) (k : Nat) : Nat := ((l.take k).map (fun s => 10 + min 3000 s.keep.length)).sum
theorem totN_step {l : List SD} {k : Nat} (h : k < l.length) : totN l (k + 1) = totN l k + (10 + min 3000 (l.getD k sd0).keep.length) := by
  unfold totN
  rw [List.take_add_one, List.getElem?_eq_getElem h, List.map_append, List.sum_append]
  simp [List.getD_eq_getElem?_getD, List.getElem?_eq_getElem h]
theorem totN_ge (l : List SD) : ∀ k, k ≤ l.length → 10 * k ≤ totN l k ∧ ∀ j, j < k → 10 + min 3000 (l.getD j sd0).keep.length ≤ totN l k
  | 0, _ => ⟨by omega, fun j hj => by omega⟩
  | k + 1, hk => by
    obtain ⟨h1, h2⟩ := totN_ge l k (by omega)
    rw [totN_step (by omega)]
    refine ⟨by omega, fun j hj => ?_⟩
    by_cases e : j = k
    · subst e; omega
    · have := h2 j (by omega); omega
/-- Not long. -/
def Short (l : List SD) : Prop := l.length ≤ 300 ∧ ∀ s ∈ l, s.keep.length ≤ 3000
theorem totN_short {l : List SD} (h : totN l l.length < 3000) : Short l := by
  obtain ⟨h1, h2⟩ := totN_ge l l.length (Nat.le_refl _)
  refine ⟨by omega, fun s hs => ?_⟩
  obtain ⟨j, hj, rfl⟩ := List.getElem_of_mem hs
  have := h2 j hj
  rw [List.getD_eq_getElem?_getD, List.getElem?_eq_getElem hj] at this
  simp only [Option.getD_some] at this
  omega

def LongPost (l : List SD) (w : World) (e : Ending) (w' : World) : Prop := ∃ b, e = .returned (.bool b) ∧ (b = false → Short l) ∧ Below w.heap.size w w'
set_option maxHeartbeats 2000000 in
theorem long_any {w : World} {A : Option Addr} {c : Nat} {l : List SD} (h : StAt w A l) (hl : l.length ≤ 9223372036854775807) :
    Calls Try.prog 23 #[.slice A l.length c] w (LongPost l w) := by
  have HS := Lib.hid h
  have HT : Hid (∀ t, t = totN l l.length → t < 3000 → Short l) := fun t ht h => totN_short (by rw [← ht]; exact h)
  generalize hn : l.length = n at hl HT ⊢
  have HN := Lib.hid hn
  clear h hn
  go_enter Try.func23, Try.ntmps23
  go_wp2_with fail
  go_loopw [3, 4] (fun tv kv wr => ∃ (k t : Nat), tv = .int .i64 (t : Int) ∧ kv = .int .i64 (k : Int) ∧ k ≤ n ∧ t = totN l k ∧ t < 6010 ∧ Below w.heap.size w wr) (fun _ kv _ => n - (RowKit.intOf kv).toNat)
  case atStart => exact ⟨0, 0, rfl, rfl, by omega, rfl, by omega, Below.refl _ _⟩
  case round =>
    obtain ⟨k, t, rfl, rfl, hkn, ht, ht2, hB⟩ := hrel
    have HB := Lib.hid hB
    have HTT := Lib.hid ht
    by_cases hk : k < n
    · have hki : (k : Int) < (n : Int) := by omega
      by_cases htl : t < 3000
      · have hti : (t : Int) < 3000 := by omega
        obtain ⟨b, o, rfl, hb, hc, hok⟩ := HS.out k (by rw [HN.out]; exact hk)
        have c4 := (hc.of_block (hB.block b hb)).c4
        have HST := Lib.hid (totN_step (l := l) (k := k) (by rw [HN.out]; exact hk))
        have hkl := hok.len
        generalize (l.getD k sd0).keep.length = m at c4 HST hkl
        generalize (l.getD k sd0).kA = kA at c4
        generalize (l.getD k sd0).kc = kc at c4
        have hk0 : (0 : Int) ≤ (k : Int) := by omega
        have hwr : IntKind.i64.wrap ((k : Int) + 1) = (k : Int) + 1 := IntWalk.i64_in _ (by omega)
        have hw1 : IntKind.i64.wrap ((t : Int) + 10) = (t : Int) + 10 := IntWalk.i64_in _ (by omega)
        have hw2 : IntKind.i64.wrap ((t : Int) + 10 + min 3000 (m : Int)) = ((t + (10 + min 3000 m) : Nat) : Int) := by rw [IntWalk.i64_in _ (by omega)]; omega
        obtain ⟨t2, ht2e⟩ : ∃ t2, t2 = t + (10 + min 3000 m) := ⟨_, rfl⟩
        rw [← ht2e] at hw2
        have HT2 := Lib.hid ht2e
        have hoff : ∀ x : Nat, x = o + k * 5 → wr.cell? ⟨b, x + 4, none⟩ = some (.slice kA m kc) := fun x hx => by rw [hx]; exact c4
        clear hB ht hc hok ht2e
        go_wp2_with fail
        go_roundw
        case rel => exact ⟨k + 1, t2, rfl, by go_num, by omega, by rw [HST.out, HT2.out, HTT.out], by rw [HT2.out]; omega, HB.out⟩
        case measure => simp [RowKit.intOf]; omega
      · have hti : ¬ (t : Int) < 3000 := by omega
        clear hB ht
        go_wp2_with fail
        go_ret
        exact ⟨true, rfl, by simp, HB.out⟩
    · have hki : ¬ (k : Int) < (n : Int) := by omega
      have hkk : k = n := by omega
      have HR := Lib.hid (fun h : t < 3000 => HT.out t (by rw [HTT.out, hkk]) h)
      clear hB ht hkk
      go_wp2_with fail
      go_ret
      refine ⟨decide (3000 ≤ (t : Int)), rfl, fun h => HR.out (by simp at h; omega), HB.out⟩
end Go.Proofs.Ytechpecnanodfaa
