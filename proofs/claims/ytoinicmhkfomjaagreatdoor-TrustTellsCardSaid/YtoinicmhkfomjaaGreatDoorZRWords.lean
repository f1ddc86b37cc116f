/-
  Contracts of the reference's rot and Words; CodeSum of more than 400 bytes.
-/
import Derived.Test.YtoinicmhkfomjaaGreatDoorZBm
import Derived.Test.YtoinicmhkfomjaaGreatDoorZSm
namespace Go.Proofs.YtoinicmhkfomjaaGreatDoor
open Go Go.RowKit
set_option maxRecDepth 100000

theorem rrot_any (x : W32) (n : Nat) (w : World) (hn : 0 < n) (hn2 : n < 32) : Calls Tryz.prog 106 #[wv x, .int .u64 n] w fun e w' => e = .returned (wv (rotP x n)) ∧ w = w' := by
  obtain ⟨m, hm⟩ : ∃ m, m = 32 - n := ⟨_, rfl⟩
  have hs : IntKind.u64.wrap (32 - (n : Int)) = (m : Int) := by rw [wraps_u64 _ (by omega) (by omega)]; omega
  have hx0 := n32_lo x
  have hx1 := n32_hi x
  have e1 := shl32 x m
  have e2 := shr32 x n
  have e3 := bits_or32 (x >>> n) (x <<< m)
  have HV := Lib.hid (show rotP x n = (x >>> n) ||| (x <<< m) by rw [hm]; rfl)
  have hm1 : m < 32 := by omega
  clear hm
  go_enter Tryz.func106, Tryz.ntmps106
  go_wp2
  go_ret
  rw [HV.out]
  exact ⟨rfl, rfl⟩

/-- The two rows of words, as values. -/
def h0L : List Value := firstZ.map (Value.int .u32)
def k0L : List Value := roundZ.map (Value.int .u32)

theorem rwords_any (w : World) : Calls Tryz.prog 104 #[] w fun e w' => ∃ g h, e = .returned (.tuple #[.slice (some ⟨g, 0, none⟩) 8 8, .slice (some ⟨h, 0, none⟩) 64 64]) ∧ w.heap.size ≤ g ∧ g < h ∧
    w'.heap[g]? = some (.cells h0L.toArray 104 (0, 0)) ∧ w'.heap[h]? = some (.cells k0L.toArray 104 (0, 0)) ∧ Below w.heap.size w w' := by
  go_enter Tryz.func104, Tryz.ntmps104
  go_wp2
  go_ret2
  have hb := (Below.refl w.heap.size w).alloc (Nat.le_refl _) (.cells h0L.toArray 104)
  have hb2 := hb.alloc hb.size (.cells k0L.toArray 104)
  refine ⟨w.heap.size, w.heap.size + 1, rfl, Nat.le_refl _, Nat.lt_succ_self _, ?_, ?_, hb2⟩
  · exact (Below.heap_alloc (w.alloc (.cells h0L.toArray 104)) (.cells k0L.toArray 104) w.heap.size (by simp)).trans (heap_alloc_new w _)
  · have := heap_alloc_new (w.alloc (.cells h0L.toArray 104)) (.cells k0L.toArray 104)
    rw [show (w.alloc (.cells h0L.toArray 104)).heap.size = w.heap.size + 1 by simp] at this
    exact this
end Go.Proofs.YtoinicmhkfomjaaGreatDoor
