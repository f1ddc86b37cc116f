/-
  Contracts of the reference's rot and Words; CodeSum of more than 400 bytes.
-/
import Derived.Test.YtdniojbplakeoaaDoorGrown
import Derived.Test.YtdniojbplakeoaaDoorSum
namespace Go.Proofs.YtdniojbplakeoaaDoor
open Go Go.RowKit
set_option maxRecDepth 100000

theorem rrot_any (x : W32) (n : Nat) (w : World) (hn : 0 < n) (hn2 : n < 32) : Calls Tryd.prog 43 #[wv x, .int .u64 n] w fun e w' => e = .returned (wv (rotP x n)) ∧ w = w' := by
  obtain ⟨m, hm⟩ : ∃ m, m = 32 - n := ⟨_, rfl⟩
  have hs : IntKind.u64.wrap (32 - (n : Int)) = (m : Int) := by rw [wraps_u64 _ (by omega) (by omega)]; omega
  have hx0 := n32_lo x
  have hx1 := n32_hi x
  have e1 := shl32 x m
  have e2 := shr32 x n
  have e3 := bits_or32 (x >>> n) (x <<< m)
  have HV := Lib.hid (show rotP x n = (x >>> n) ||| (x <<< m) by rw [hm]; rfl)
  have hm1 : m < 32 := by omega
  clear hm
  go_enter Tryd.func43, Tryd.ntmps43
  go_wp2
  go_ret
  rw [HV.out]
  exact ⟨rfl, rfl⟩

/-- The two rows of words, as values. -/
def h0L : List Value := firstZ.map (Value.int .u32)
def k0L : List Value := roundZ.map (Value.int .u32)

theorem rwords_any (w : World) : Calls Tryd.prog 28 #[] w fun e w' => ∃ g h, e = .returned (.tuple #[.slice (some ⟨g, 0, none⟩) 8 8, .slice (some ⟨h, 0, none⟩) 64 64]) ∧ w.heap.size ≤ g ∧ g < h ∧
    w'.heap[g]? = some (.cells h0L.toArray 40 (0, 0)) ∧ w'.heap[h]? = some (.cells k0L.toArray 40 (0, 0)) ∧ Below w.heap.size w w' := by
  go_enter Tryd.func28, Tryd.ntmps28
  go_wp2
  go_ret2
  have hb := (Below.refl w.heap.size w).alloc (Nat.le_refl _) (.cells h0L.toArray 40)
  have hb2 := hb.alloc hb.size (.cells k0L.toArray 40)
  refine ⟨w.heap.size, w.heap.size + 1, rfl, Nat.le_refl _, Nat.lt_succ_self _, ?_, ?_, hb2⟩
  · exact (Below.heap_alloc (w.alloc (.cells h0L.toArray 40)) (.cells k0L.toArray 40) w.heap.size (by simp)).trans (heap_alloc_new w _)
  · have := heap_alloc_new (w.alloc (.cells h0L.toArray 40)) (.cells k0L.toArray 40)
    rw [show (w.alloc (.cells h0L.toArray 40)).heap.size = w.heap.size + 1 by simp] at this
    exact this

theorem codeSum_long (s : List UInt8) (w : World) (hs : s.length ≤ 140737488351232) (hl : 400 < s.length) (hw : LW w) :
    Calls Tryd.prog 6 #[.string (str s)] w fun e w' => e = .returned (.bool true) ∧ Below w.heap.size w w' := by
  have B0 := BL.start hw
  clear hw
  have hli : (400 : Int) < (s.length : Int) := by omega
  go_enter Tryd.func6, Tryd.ntmps6
  go_wp2_with fail
  refine (bl_works B0).mono ?_
  rintro e w1 ⟨rfl, B1⟩
  go_wp2
  go_ret
  exact ⟨rfl, B1.below⟩
end Go.Proofs.YtdniojbplakeoaaDoor
