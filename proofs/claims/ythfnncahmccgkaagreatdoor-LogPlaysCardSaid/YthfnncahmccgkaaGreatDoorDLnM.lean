/-
  What the laws use: bytes, full, is, ints.
  What the laws use: full, is, ints, long; steps as they lie.
  Steps as they lie; long.
-/
import Derived.Laws.MakeOwn
import Derived.Test.YthfnncahmccgkaaGreatDoorDRdM
namespace Go.Proofs.YthfnncahmccgkaaGreatDoor
open Go Go.RowKit Go.Maps
set_option maxRecDepth 100000
set_option linter.unusedSimpArgs false
set_option linter.unusedVariables false

def oddN (odd : Int) : Nat := if -100 < odd ∧ odd < 100 then (128 + odd).toNat else 128
theorem oddN_le (odd : Int) : oddN odd ≤ 228 := by unfold oddN; split <;> omega
def stB (odd : Int) (y : UInt8) : List UInt8 := List.replicate (oddN odd) y
theorem stB_le (odd : Int) (y : UInt8) : (stB odd y).length ≤ 228 := by unfold stB; rw [List.length_replicate]; exact oddN_le odd
def fullL (y : UInt8) : List UInt8 := List.replicate 128 y
theorem fullL_length (y : UInt8) : (fullL y).length = 128 := by simp [fullL]
theorem stB_zero (y : UInt8) : stB 0 y = fullL y := rfl
def stepV (wh : UInt8) (at_ : Int) (y : UInt8) (odd : Int) (kv : Value) : Value := .agg #[.int .u8 (wh.toNat : Int), .int .i64 at_, .int .u8 (y.toNat : Int), .int .i64 odd, kv]

/-- Block g: k bytes y, and the others 0. -/
def fillC (n k : Nat) (y : UInt8) : Array Value := (List.replicate k (b8 y) ++ List.replicate (n - k) (Value.int .u8 0)).toArray
theorem fillC_start (n : Nat) (y : UInt8) : Array.replicate n (Value.int .u8 0) = fillC n 0 y := by
  apply Array.ext'
  simp [fillC]
theorem fillC_size (n k : Nat) (y : UInt8) (h : k ≤ n) : (fillC n k y).size = n := by simp [fillC]; omega
theorem fillC_step {n k : Nat} (y : UInt8) (h : k < n) : (fillC n k y).setIfInBounds k (b8 y) = fillC n (k + 1) y := by
  apply Array.ext'
  simp only [fillC, Array.toList_setIfInBounds]
  refine List.ext_getElem? fun j => ?_
  rw [List.getElem?_set]
  by_cases e : k = j
  · subst e
    rw [if_pos rfl, if_pos (by simp; omega), List.getElem?_append_left (by simp), List.getElem?_replicate, if_pos (by omega)]
  · rw [if_neg e]
    by_cases hj : j < k
    · rw [List.getElem?_append_left (by simpa using hj), List.getElem?_append_left (by simp; omega), List.getElem?_replicate, List.getElem?_replicate, if_pos hj, if_pos (by omega)]
    · rw [List.getElem?_append_right (by simp; omega), List.getElem?_append_right (by simp; omega), List.getElem?_replicate, List.getElem?_replicate]
      simp only [List.length_replicate]
      by_cases hn : j < n
      · rw [if_pos (by omega), if_pos (by omega)]
      · rw [if_neg (by omega), if_neg (by omega)]

end Go.Proofs.YthfnncahmccgkaaGreatDoor

namespace Go.Proofs.YthfnncahmccgkaaGreatDoor
open Go Go.RowKit Go.Maps
set_option maxRecDepth 100000
set_option linter.unusedSimpArgs false
set_option linter.unusedVariables false

def isD (S : DS) (a : Int) (s : List UInt8) : Bool := decide (S.rdE a = 0) && decide (S.rdV a = s)
theorem ints_eq {L M : List Int} (hl : L.length = M.length) (h : ∀ j, j < L.length → L.getD j 0 = M.getD j 0) : L = M := by
  refine List.ext_getElem hl fun j h1 h2 => ?_
  have := h j h1
  rwa [List.getD_eq_getElem?_getD, List.getD_eq_getElem?_getD, List.getElem?_eq_getElem h1, List.getElem?_eq_getElem h2] at this
end Go.Proofs.YthfnncahmccgkaaGreatDoor

namespace Go.Proofs.YthfnncahmccgkaaGreatDoor
open Go Go.RowKit Go.Maps
set_option maxRecDepth 100000
set_option linter.unusedSimpArgs false
set_option linter.unusedVariables false

/-- A step. -/
structure SD where
  wh : UInt8
  a : Int
  y : UInt8
  odd : Int
  keep : List Int
  kA : Option Addr
  kc : Nat
def SD.val (s : SD) : Value := stepV s.wh s.a s.y s.odd (.slice s.kA s.keep.length s.kc)
def sd0 : SD := ⟨0, 0, 0, 0, [], none, 0⟩
/-- A step's numbers, and where its Keep lies. -/
structure SD.Ok (w : World) (s : SD) : Prop where
  a : (-9223372036854775808 : Int) ≤ s.a ∧ s.a ≤ 9223372036854775807
  odd : (-9223372036854775808 : Int) ≤ s.odd ∧ s.odd ≤ 9223372036854775807
  ir : IR w s.kA s.keep
  len : s.keep.length ≤ 9223372036854775807
/-- The cells of a step, at a place. -/
structure StCells (w : World) (b o : Nat) (s : SD) : Prop where
  c0 : w.cell? ⟨b, o, none⟩ = some (.int .u8 (s.wh.toNat : Int))
  c1 : w.cell? ⟨b, o + 1, none⟩ = some (.int .i64 s.a)
  c2 : w.cell? ⟨b, o + 2, none⟩ = some (.int .u8 (s.y.toNat : Int))
  c3 : w.cell? ⟨b, o + 3, none⟩ = some (.int .i64 s.odd)
  c4 : w.cell? ⟨b, o + 4, none⟩ = some (.slice s.kA s.keep.length s.kc)
/-- A row of steps. -/
def StAt (w : World) (A : Option Addr) (l : List SD) : Prop :=
  ∀ j, j < l.length → ∃ b o, A = some ⟨b, o, none⟩ ∧ b < w.heap.size ∧ StCells w b (o + j * 5) (l.getD j sd0) ∧ (l.getD j sd0).Ok w
theorem StCells.of_block {w w' : World} {b o : Nat} {s : SD} (h : StCells w b o s) (hb : w'.heap[b]? = w.heap[b]?) : StCells w' b o s :=
  ⟨(World.cell?_of_block (w := w) hb).trans h.c0, (World.cell?_of_block (w := w) hb).trans h.c1, (World.cell?_of_block (w := w) hb).trans h.c2, (World.cell?_of_block (w := w) hb).trans h.c3, (World.cell?_of_block (w := w) hb).trans h.c4⟩
theorem SD.Ok.kp {w w' : World} {s : SD} (h : s.Ok w) {T : List Nat} (hk : Kp T w w') (hs : ∀ x, s.kA = some x → s.keep ≠ [] → x.block ∉ T) : s.Ok w' :=
  ⟨h.a, h.odd, h.ir.kp hk hs, h.len⟩
/-- Where the Keep of a step lies that is so of w. -/
theorem SD.Ok.lo {w : World} {s : SD} (h : s.Ok w) : ∀ x, s.kA = some x → s.keep ≠ [] → x.block < w.heap.size := fun x hx hn => by
  obtain ⟨b, o, hA, hb, _⟩ := h.ir 0 (by cases hk : s.keep with | nil => exact absurd hk hn | cons _ _ => simp)
  rw [hx] at hA; cases hA; exact hb
/-- Blocks below m are kept. -/
theorem StAt.low {w w' : World} {A : Option Addr} {l : List SD} (h : StAt w A l) {m : Nat} (hA : ∀ a, A = some a → a.block < m) (hK : ∀ s ∈ l, ∀ x, s.kA = some x → s.keep ≠ [] → x.block < m) {T : List Nat} (hk : Kp T w w') (hT : ∀ k ∈ T, m ≤ k) : StAt w' A l := fun j hj => by
  obtain ⟨b, o, h1, h2, h3, h4⟩ := h j hj
  have hb : b ∉ T := fun e => by have := hT b e; have := hA _ h1; simp only at this; omega
  refine ⟨b, o, h1, Nat.lt_of_lt_of_le h2 hk.size, h3.of_block (hk.block b h2 hb), h4.kp hk (fun x hx hnn e => ?_)⟩
  have hm : l.getD j sd0 ∈ l := by rw [List.getD_eq_getElem?_getD, List.getElem?_eq_getElem hj]; exact List.getElem_mem hj
  have := hK _ hm x hx hnn
  have := hT _ e
  omega
theorem StAt.below {w w' : World} {A : Option Addr} {l : List SD} (h : StAt w A l) (hb : Below w.heap.size w w') : StAt w' A l := fun j hj => by
  obtain ⟨b, o, h1, h2, h3, h4⟩ := h j hj
  exact ⟨b, o, h1, Nat.lt_of_lt_of_le h2 hb.size, h3.of_block (hb.block b h2), h4.kp (Kp.of_below hb []) (by simp)⟩

def totN (l : List SD) (k : Nat) : Nat := ((l.take k).map (fun s => 10 + min 3000 s.keep.length)).sum
theorem totN_step {l : List SD} {k : Nat} (h : k < l.length) : totN l (k + 1) = totN l k + (10 + min 3000 (l.getD k sd0).keep.length) := by
  unfold totN
  rw [List.take_add_one, List.getElem?_eq_getElem h, List.map_append, List.sum_append]
  simp [List.getD_eq_getElem?_getD, List.getElem?_eq_getElem h]
theorem totN_ge (l : List SD) : ∀ k, k ≤ l.length → 10 * k ≤ totN l k ∧ ∀ j, j < k → 10 + min 3000 (l.getD j sd0).keep.length ≤ totN l k
  | 0, _ => ⟨by omega, fun j hj => by omega⟩
  | k + 1, hk => by
    obtain ⟨h1, h2⟩ := totN_ge l k (by omega)
    rw [totN_step (by omega)]
    refine ⟨by omega, fun j hj => ?_⟩
    by_cases e : j = k
    · subst e; omega
    · have := h2 j (by omega); omega
/-- Not long. -/
def Short (l : List SD) : Prop := l.length ≤ 300 ∧ ∀ s ∈ l, s.keep.length ≤ 3000
theorem totN_short {l : List SD} (h : totN l l.length < 3000) : Short l := by
  obtain ⟨h1, h2⟩ := totN_ge l l.length (Nat.le_refl _)
  refine ⟨by omega, fun s hs => ?_⟩
  obtain ⟨j, hj, rfl⟩ := List.getElem_of_mem hs
  have := h2 j hj
  rw [List.getD_eq_getElem?_getD, List.getElem?_eq_getElem hj] at this
  simp only [Option.getD_some] at this
  omega

def LongPost (l : List SD) (w : World) (e : Ending) (w' : World) : Prop := ∃ b, e = .returned (.bool b) ∧ (b = false → Short l) ∧ Below w.heap.size w w'
end Go.Proofs.YthfnncahmccgkaaGreatDoor
