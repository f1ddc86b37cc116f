/-
  Package frame's number and put, over a slice of an array.
-/
import Derived.Deep.QuietTactic
import Derived.BigQuiet
import Derived.WalkMore
import Derived.ScopeJumps
import Derived.Laws.BitsLemmas
import Derived.Laws.Shifts
import Derived.Test.YthfnncahmccgkaaGreatDoorFPure
import Derived.Test.YthfnncahmccgkaaGreatDoorDW
namespace Go.Proofs.YthfnncahmccgkaaGreatDoor
set_option linter.unusedSimpArgs false
set_option linter.unusedVariables false
open Go Go.RowKit
set_option maxRecDepth 100000

theorem below_alloc (w : World) (o : Obj) : Below w.heap.size w (w.alloc o) := (Below.refl _ _).alloc (Nat.le_refl _) _
theorem below_drewN {n : Nat} {w w' : World} (h : Below n w w') (k : Nat) : Below n w (w'.drewN k) := ⟨h.os, h.tape, h.output, h.size, h.block⟩
theorem str_append (a b : List UInt8) : str a ++ str b = str (a ++ b) := by
  apply ByteArray.ext
  simp [str, ByteArray.data_append]

theorem wrap64_small {z : Int} (h0 : 0 ≤ z) (h1 : z < 9223372036854775808) : wrap64 z = z := by unfold wrap64; omega
theorem wraps_i64_32 (n : Int) (h0 : 0 ≤ n) (h1 : n < 2 ^ 32) : IntKind.i64.wrap n = n := by rw [IntKind.wrap_i64]; omega
theorem or_step {a x k : Nat} (hk : k < 4) (ha : a < 256 ^ k) (hx : x < 256) : bits .or .i64 (a : Int) (wrap64 ((x : Int) * 2 ^ (8 * k))) = ((a + 256 ^ k * x : Nat) : Int) := by
  have hb : (256 : Nat) ^ k ≤ 256 ^ 3 := Nat.pow_le_pow_right (by omega) (by omega)
  have h1 : 256 ^ k * x ≤ 256 ^ 3 * 255 := Nat.mul_le_mul hb (by omega)
  have e0 : (2 : Nat) ^ (8 * k) = 256 ^ k := by rw [show (256 : Nat) = 2 ^ 8 from rfl, ← Nat.pow_mul]
  have e1 : wrap64 ((x : Int) * 2 ^ (8 * k)) = ((256 ^ k * x : Nat) : Int) := by
    have e2 : (x : Int) * 2 ^ (8 * k) = ((256 ^ k * x : Nat) : Int) := by
      rw [← e0]; push_cast; rw [Int.mul_comm]
    rw [e2, wrap64_small (by omega) (by omega)]
  have h2 : a < 2 ^ 32 := by omega
  have h3 : 256 ^ k * x < 2 ^ 32 := by omega
  rw [e1, (bits_nat .i64 32 (by decide) wraps_i64_32 a (256 ^ k * x) h2 h3).2]
  have h4 : a < 2 ^ (8 * k) := by rw [e0]; exact ha
  have := Nat.two_pow_add_eq_or_of_lt h4 x
  rw [e0] at this
  rw [Nat.or_comm, ← this, Nat.add_comm]
theorem take_next {l : List UInt8} {k : Nat} (h : k < l.length) : l.take (k + 1) = l.take k ++ [l.getD k 0] := by
  rw [List.take_succ_eq_append_getElem h, List.getD_eq_getElem?_getD, List.getElem?_eq_getElem h]
  rfl

set_option maxHeartbeats 2000000 in
theorem number_any {w : World} (l : List UInt8) (hl : l.length ≤ 4) (b o c : Nat) (hc : ∀ j, j < l.length → w.cell? ⟨b, o + j, none⟩ = some (bv (l.getD j 0))) :
    Calls Tryz.prog 88 #[.slice (some ⟨b, o, none⟩) l.length c] w fun e w' => e = .returned (.int .i64 (numL l)) ∧ w = w' := by
  have HC := Lib.hid hc
  clear hc
  go_enter Tryz.func88, Tryz.ntmps88
  go_wp2_with fail
  go_loop [3, 8] (fun n i => ∃ k : Nat, k ≤ l.length ∧ i = .int .i64 k ∧ n = .int .i64 (numL (l.take k))) (fun _ i => l.length - (intOf i).toNat)
  case atStart => exact ⟨0, Nat.zero_le _, rfl, rfl⟩
  case round =>
    obtain ⟨k, hk, rfl, rfl⟩ := hrel
    by_cases hlt : k < l.length
    · have c1 := HC.out k hlt
      have hs : numL (l.take (k + 1)) = numL (l.take k) + 256 ^ k * (l.getD k 0).toNat := by
        rw [take_next hlt, numL_snoc]
        simp [hk]
      obtain ⟨x, hx⟩ : ∃ x, x = l.getD k 0 := ⟨_, rfl⟩
      rw [← hx] at c1 hs
      have ha : numL (l.take k) < 256 ^ k := by have := numL_lt (l.take k); simpa [List.length_take, Nat.min_eq_left hk] using this
      unfold bv at c1
      have hlt' : (k : Int) < (l.length : Int) := by omega
      have hx256 := x.toNat_lt
      have hor := or_step (k := k) (by omega) ha hx256
      obtain ⟨A, hA⟩ : ∃ A, A = numL (l.take k) := ⟨_, rfl⟩
      rw [← hA] at hs hor ⊢
      rw [← hs] at hor
      have HOR := Lib.hid hor
      clear hx hs ha hA hor
      go_wp2_with fail
      go_round
      case rel => exact ⟨k + 1, by omega, by go_num, by rw [← HOR.out]⟩
      case measure => simp [intOf]; omega
    · obtain rfl : k = l.length := by omega
      go_wp2_with fail
      go_ret
      exact ⟨rfl, rfl⟩

/-! ### Arrays of bytes -/
def cellsOfF (l : List UInt8) : List Value := l.map bv
theorem cellsOf_lengthF (l : List UInt8) : (cellsOfF l).length = l.length := by simp [cellsOfF]
theorem cellsOf_oneF (l : List UInt8) : ∀ v ∈ cellsOfF l, v.oneCell' = true := by
  intro v hv
  simp only [cellsOfF, List.mem_map] at hv
  obtain ⟨b, _, rfl⟩ := hv
  rfl
theorem cells_allF (l : List UInt8) : (cellsOfF l).toArray.all (·.oneCell') = true := by
  rw [Array.all_eq_true']
  intro v hv
  exact cellsOf_oneF l v (by simpa using hv)
/-- Block g is an array of these bytes. -/
def AB (w : World) (g : Nat) (T : TypeId) (l : List UInt8) : Prop := w.heap[g]? = some (.cells (cellsOfF l).toArray T (0, 0))
theorem AB.lt {w : World} {g : Nat} {T : TypeId} {l : List UInt8} (h : AB w g T l) : g < w.heap.size := lt_of_blk h
theorem AB.cell {w : World} {g : Nat} {T : TypeId} {l : List UInt8} (h : AB w g T l) {j : Nat} (hj : j < l.length) : w.cell? ⟨g, j, none⟩ = some (bv (l.getD j 0)) := by
  rw [cellAt h]
  simp [cellsOfF, List.getD_eq_getElem?_getD, hj]
theorem AB.free {w : World} {g : Nat} {T : TypeId} {l : List UInt8} (h : AB w g T l) (j : Nat) : w.frozen? ⟨g, j, none⟩ = false := freeAt h j
theorem AB.drew {w : World} {g : Nat} {T : TypeId} {l : List UInt8} (h : AB w g T l) : AB w.drew g T l := h
theorem AB.alloc {w : World} {g : Nat} {T : TypeId} {l : List UInt8} (h : AB w g T l) (o : Obj) : AB (w.alloc o) g T l := (Lib.alloc_old w o g h.lt).trans h
theorem AB.new (w : World) (T : TypeId) (l : List UInt8) : AB (w.alloc (.cells (cellsOfF l).toArray T)) w.heap.size T l := heap_alloc_new w _
theorem AB.below {w w' : World} {g n : Nat} {T : TypeId} {l : List UInt8} (h : AB w g T l) (hb : Below n w w') (hn : g < n) : AB w' g T l := (hb.block g hn).trans h
theorem AB.kp {S : List Nat} {w w' : World} {g : Nat} {T : TypeId} {l : List UInt8} (h : AB w g T l) (hk : Kp S w w') (hg : g ∉ S) : AB w' g T l := (hk.block g h.lt hg).trans h
theorem AB.setRow {w : World} {g : Nat} {T : TypeId} {l : List UInt8} (h : AB w g T l) (m : List UInt8) : AB (w.setRow g (cellsOfF m).toArray) g T m := setRow_heap w g _ _ _ _ h
theorem AB.setOther {w : World} {g k : Nat} {T : TypeId} {l : List UInt8} (h : AB w g T l) (hne : g ≠ k) (cs : Array Value) : AB (w.setRow k cs) g T l := (setRow_other w k g cs hne).trans h
theorem AB.set {w : World} {g : Nat} {T : TypeId} {l : List UInt8} (h : AB w g T l) (j : Nat) (x : UInt8) : AB (w.setCell ⟨g, j, none⟩ (bv x)) g T (l.set j x) := by
  unfold AB at h ⊢
  simp [World.setCell, Array.getElem?_modify, h, cellsOfF, List.map_set]

/-- A text's middle is replaced. -/
def midL (m : List UInt8) (o : Nat) (x : List UInt8) : List UInt8 := m.take o ++ (x ++ m.drop (o + x.length))
theorem midL_length {m : List UInt8} {o : Nat} {x : List UInt8} (h : o + x.length ≤ m.length) : (midL m o x).length = m.length := by simp [midL]; omega
theorem midL_step {m : List UInt8} {o : Nat} {x : List UInt8} (y : UInt8) (h : o + x.length < m.length) : (midL m o x).set (o + x.length) y = midL m o (x ++ [y]) := by
  have h1 : (m.take o).length = o := by simp; omega
  unfold midL
  rw [List.set_append_right _ _ (by omega), h1, show o + x.length - o = x.length from by omega, List.set_append_right _ _ (by omega), Nat.sub_self]
  have h2 : m.drop (o + x.length) = m[o + x.length] :: m.drop (o + x.length + 1) := List.drop_eq_getElem_cons h
  rw [h2, List.set_cons_zero]
  simp [Nat.add_assoc]

theorem shr_step (n k : Nat) (hk : k < 4) : ((n : Int) / 2 ^ (8 * k) % 256 : Int) = ((UInt8.ofNat (n / 256 ^ k)).toNat : Int) := by
  have e0 : (2 : Nat) ^ (8 * k) = 256 ^ k := by rw [show (256 : Nat) = 2 ^ 8 from rfl, ← Nat.pow_mul]
  have e1 : (n : Int) / 2 ^ (8 * k) = ((n / 256 ^ k : Nat) : Int) := by rw [← e0]; push_cast; rfl
  rw [e1, show (UInt8.ofNat (n / 256 ^ k)).toNat = (n / 256 ^ k) % 256 from by simp]
  omega

set_option maxHeartbeats 2000000 in
theorem put_any {w : World} (n k : Nat) (hn : n < 4294967296) (hk : k ≤ 4) {b o c : Nat} {T : TypeId} {m : List UInt8} (hb : AB w b T m) (ho : o + k ≤ m.length) :
    Calls Tryz.prog 98 #[.slice (some ⟨b, o, none⟩) k c, .int .i64 n] w fun e w' => e = .returned (.tuple #[]) ∧ AB w' b T (midL m o (bytesL n k)) ∧ Kp [b] w w' := by
  have H0 := Lib.hid (show AB w b T (midL m o (bytesL n 0)) from by simpa [midL, bytesL] using hb)
  clear hb
  go_enter Tryz.func98, Tryz.ntmps98
  go_wp2_with fail
  go_loopw [7] (fun i wr => ∃ j : Nat, j ≤ k ∧ i = .int .i64 j ∧ AB wr b T (midL m o (bytesL n j)) ∧ Kp [b] w wr) (fun i _ => k - (intOf i).toNat)
  case atStart => exact ⟨0, Nat.zero_le _, rfl, H0.out, Kp.refl _ _⟩
  case round =>
    obtain ⟨j, hj, rfl, hB, hK⟩ := hrel
    by_cases hlt : j < k
    · have hlt' : (j : Int) < (k : Int) := by omega
      have hlen := midL_length (m := m) (o := o) (x := bytesL n j) (by rw [bytesL_length]; omega)
      have c1 := hB.cell (j := o + j) (by rw [hlen]; omega)
      have f1 := hB.free (o + j)
      have hsh := shr_step n j (by omega)
      have hst := hB.set (o + j) (UInt8.ofNat (n / 256 ^ j))
      have hms := midL_step (m := m) (o := o) (x := bytesL n j) (UInt8.ofNat (n / 256 ^ j)) (by rw [bytesL_length]; omega)
      rw [bytesL_length] at hms
      rw [hms, ← bytesL_snoc] at hst
      have hK2 := hK.setCell (p := ⟨b, o + j, none⟩) (by simp) (bv (UInt8.ofNat (n / 256 ^ j)))
      unfold bv at hst hK2
      have HST := Lib.hid hst
      have HK2 := Lib.hid hK2
      have HSH := Lib.hid hsh
      clear hst hK2 hsh hms hlen hB hK
      go_wp2_with fail
      go_roundw
      case rel =>
        refine ⟨j + 1, by omega, by go_num, ?_, ?_⟩
        · rw [HSH.out]; exact HST.out
        · rw [HSH.out]; exact HK2.out
      case measure => simp [intOf]; omega
    · obtain rfl : j = k := by omega
      go_wp2_with fail
      go_end0
      exact ⟨rfl, hB, hK⟩
end Go.Proofs.YthfnncahmccgkaaGreatDoor
