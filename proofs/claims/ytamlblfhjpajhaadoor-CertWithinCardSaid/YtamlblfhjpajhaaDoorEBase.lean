/-
  Rows of bytes that a call writes; texts put together; the contracts of octets, isTag, Clone, byte1, many.
-/
import Derived.Deep.QuietTactic
import Derived.BigQuiet
import Derived.WalkMore
import Derived.ScopeJumps
import Derived.Laws.BitsLemmas
import Derived.Laws.Shifts
import Derived.Laws.IdiomStrings
import Derived.Test.YtamlblfhjpajhaaDoorEPure
import Derived.Test.YtamlblfhjpajhaaDoorEInt
import Derived.Test.YtamlblfhjpajhaaDoorShelf
namespace Go.Proofs.YtamlblfhjpajhaaDoor
set_option linter.unusedSimpArgs false
set_option linter.unusedVariables false
open Go Go.RowKit
set_option maxRecDepth 100000

theorem below_alloc (w : World) (o : Obj) : Below w.heap.size w (w.alloc o) := (Below.refl _ _).alloc (Nat.le_refl _) _
theorem below_drewNE {n : Nat} {w w' : World} (h : Below n w w') (k : Nat) : Below n w (w'.drewN k) := ⟨h.os, h.tape, h.output, h.size, h.block⟩
theorem str_appendE (a b : List UInt8) : str a ++ str b = str (a ++ b) := by
  apply ByteArray.ext
  simp [str, ByteArray.data_append]

def cellsOf (l : List UInt8) : List Value := l.map bv
theorem cellsOf_length (l : List UInt8) : (cellsOf l).length = l.length := by simp [cellsOf]
/-- Block g is a row of these bytes. -/
def AB (w : World) (g : Nat) (T : TypeId) (l : List UInt8) : Prop := w.heap[g]? = some (.cells (cellsOf l).toArray T (0, 0))
theorem AB.lt {w : World} {g : Nat} {T : TypeId} {l : List UInt8} (h : AB w g T l) : g < w.heap.size := lt_of_blk h
theorem AB.cell {w : World} {g : Nat} {T : TypeId} {l : List UInt8} (h : AB w g T l) {j : Nat} (hj : j < l.length) : w.cell? ⟨g, j, none⟩ = some (bv (l.getD j 0)) := by
  rw [cellAt h]
  simp [cellsOf, List.getD_eq_getElem?_getD, hj]
theorem AB.free {w : World} {g : Nat} {T : TypeId} {l : List UInt8} (h : AB w g T l) (j : Nat) : w.frozen? ⟨g, j, none⟩ = false := freeAt h j
theorem AB.new (w : World) (T : TypeId) (l : List UInt8) : AB (w.alloc (.cells (cellsOf l).toArray T)) w.heap.size T l := heap_alloc_new w _
theorem AB.below {w w' : World} {g n : Nat} {T : TypeId} {l : List UInt8} (h : AB w g T l) (hb : Below n w w') (hn : g < n) : AB w' g T l := (hb.block g hn).trans h
theorem AB.set {w : World} {g : Nat} {T : TypeId} {l : List UInt8} (h : AB w g T l) (j : Nat) (x : UInt8) : AB (w.setCell ⟨g, j, none⟩ (bv x)) g T (l.set j x) := by
  unfold AB at h ⊢
  simp [World.setCell, Array.getElem?_modify, h, cellsOf, List.map_set]
theorem AB.text {w : World} {g : Nat} {l : List UInt8} (h : AB w g 5 l) {n c : Nat} (hn : n = l.length) : (convert 71 9 (.slice (some ⟨g, 0, none⟩) n c)).run Tryd.prog w = .ok (sv l) w := by
  subst hn
  exact run_convert_bytes_back (P := Tryd.prog) w 71 9 5 ⟨g, 0, none⟩ c l Tryd.underlying71 Tryd.underlying5 Tryd.underlying9 (fun j hj => by
    rw [show (⟨g, 0, none⟩ : Addr).add j = ⟨g, j, none⟩ from by unfold Addr.add; split <;> simp_all, h.cell hj, getD_str _ _ hj]; rfl)
theorem bv_of {z : Int} {b : UInt8} (h : z = (b.toNat : Int)) : (Value.int .u8 z) = bv b := by rw [h]; rfl

/-- octets, over a row that was just made. -/
theorem octets_any {w : World} (l : List UInt8) {g n c : Nat} (h : AB w g 5 l) (hn : n = l.length) :
    Calls Tryd.prog 42 #[.slice (some ⟨g, 0, none⟩) n c] w fun e w' => e = .returned (sv l) ∧ w = w' := by
  have hcv := h.text (c := c) hn
  clear h hn
  go_enter Tryd.func42, Tryd.ntmps42
  go_wp2_with fail
  go_ret
  exact ⟨rfl, rfl⟩
/-- octets of one byte. -/
theorem octets1 (W : World) (z : Int) (a : UInt8) (hz : z = (a.toNat : Int)) (c : Nat) : Calls Tryd.prog 42 #[.slice (some ⟨W.heap.size, 0, none⟩) 1 c] (W.alloc (.cells #[.int .u8 z] 5)) fun e w' => e = .returned (sv [a]) ∧ W.alloc (.cells #[.int .u8 z] 5) = w' := by
  rw [bv_of hz]
  exact octets_any [a] (AB.new W _ [a]) rfl
theorem octets2 (W : World) (y z : Int) (a b : UInt8) (hy : y = (a.toNat : Int)) (hz : z = (b.toNat : Int)) (c : Nat) : Calls Tryd.prog 42 #[.slice (some ⟨W.heap.size, 0, none⟩) 2 c] (W.alloc (.cells #[.int .u8 y, .int .u8 z] 5)) fun e w' => e = .returned (sv [a, b]) ∧ W.alloc (.cells #[.int .u8 y, .int .u8 z] 5) = w' := by
  rw [bv_of hy, bv_of hz]
  exact octets_any [a, b] (AB.new W _ [a, b]) rfl
theorem octets3 (W : World) (x y z : Int) (a b d : UInt8) (hx : x = (a.toNat : Int)) (hy : y = (b.toNat : Int)) (hz : z = (d.toNat : Int)) (c : Nat) : Calls Tryd.prog 42 #[.slice (some ⟨W.heap.size, 0, none⟩) 3 c] (W.alloc (.cells #[.int .u8 x, .int .u8 y, .int .u8 z] 5)) fun e w' => e = .returned (sv [a, b, d]) ∧ W.alloc (.cells #[.int .u8 x, .int .u8 y, .int .u8 z] 5) = w' := by
  rw [bv_of hx, bv_of hy, bv_of hz]
  exact octets_any [a, b, d] (AB.new W _ [a, b, d]) rfl

theorem isTag_any {w : World} (t : UInt8) : Calls Tryd.prog 48 #[.int .u8 (t.toNat : Int)] w fun e w' => e = .returned (.bool (tagB t)) ∧ w = w' := by
  have h0 := t.toNat_lt
  have h1 := u8_and31 (t.toNat : Int) (by omega) (by omega)
  have h2 : (((t.toNat : Int) % 32) != 31) = tagB t := by
    unfold tagB
    rw [Bool.eq_iff_iff, bne_iff_ne, bne_iff_ne]; omega
  clear h0
  go_enter Tryd.func48, Tryd.ntmps48
  go_wp2_with fail
  go_ret
  exact ⟨by rw [← h2]; rfl, rfl⟩

theorem clone_anyE {w : World} (s : List UInt8) (h : s.length ≤ 281474976710656) : Calls Tryd.prog 59 #[sv s] w fun e w' => e = .returned (sv s) ∧ Below w.heap.size w w' := by
  go_enter Tryd.func59, Tryd.ntmps59
  go_wp2_with (go_at_call 79; refine (Tryd.stringslite_Clone (str s) _ (by show s.toArray.size ≤ _; simp; omega)).mono ?_; rintro e w1 ⟨rfl, hb⟩)
  go_ret
  exact ⟨rfl, hb⟩

end Go.Proofs.YtamlblfhjpajhaaDoor
