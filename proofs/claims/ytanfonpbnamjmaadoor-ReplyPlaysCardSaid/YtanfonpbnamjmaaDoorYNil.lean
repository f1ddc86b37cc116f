/-
  Nobody's reader; the lines that Show puts together.
-/
import Derived.Lib.ItoaLen
import Derived.Test.YtanfonpbnamjmaaDoorYAwake
namespace Go.Proofs.YtanfonpbnamjmaaDoor
open Go Go.RowKit Go.Shelf
set_option maxRecDepth 100000

theorem nil_reset (w : World) : Calls Tryd.prog 26 #[.pointer none] w fun e w' => e = .returned (.tuple #[]) ∧ w = w' := by
  go_enter Tryd.func26, Tryd.ntmps26
  go_wp2
  go_end0
  exact ⟨rfl, rfl⟩
theorem nil_line (s : List UInt8) (w : World) : Calls Tryd.prog 20 #[.pointer none, sv s] w fun e w' => e = .returned (.tuple #[.bool false, .int .i64 2]) ∧ w = w' := by
  go_enter Tryd.func20, Tryd.ntmps20
  go_wp2
  go_ret2
  exact ⟨rfl, rfl⟩
theorem nil_dead (w : World) : Calls Tryd.prog 22 #[.pointer none] w fun e w' => e = .returned (.bool false) ∧ w = w' := by
  go_enter Tryd.func22, Tryd.ntmps22
  go_wp2
  go_ret
  exact ⟨rfl, rfl⟩
theorem nil_copy (w : World) : Calls Tryd.prog 18 #[.pointer none] w fun e w' => e = .returned (.pointer none) ∧ w = w' := by
  go_enter Tryd.func18, Tryd.ntmps18
  go_wp2
  go_ret
  exact ⟨rfl, rfl⟩
theorem nil_take (w : World) : Calls Tryd.prog 23 #[.pointer none] w fun e w' => e = .returned (.tuple #[repV 0 [] (.slice none 0 0), .bool false]) ∧ Below w.heap.size w w' := by
  go_enter Tryd.func23, Tryd.ntmps23
  go_wp2
  refine bodyPost_ret (results_cell_tmp (p := 2) (q := 3) (fr := (0, 0)) Tryd.results23 _ _ w.heap.size 42 _ _ rfl (heap_alloc_new w _) Tryd.underlying42 rfl (by kernel_rfl)) rfl ?_
  exact ⟨rfl, below_alloc _ _⟩

/-! ### Show -/
/-- A line of a reply. -/
def shL (code : Nat) (more : Bool) (t : List UInt8) : List UInt8 := Lib.itoa code ++ (if more then 45 :: t else if t = [] then [] else 32 :: t)
theorem str_append (a b : List UInt8) : str a ++ str b = str (a ++ b) := by
  apply ByteArray.ext
  simp [str, ByteArray.data_append]

theorem shL_len (code : Nat) (more : Bool) (t : List UInt8) (hc : code ≤ 1000000) (ht : t.length ≤ 100000) : (shL code more t).length ≤ 1000000 := by
  have := Lib.itoa_length_le (code : Int) (by omega) (by omega)
  unfold shL
  rw [List.length_append]
  split
  · simp; omega
  · split
    · simp; omega
    · simp; omega
def okSh (code : Nat) (xs : List (List UInt8)) (k : Nat) : Bool := okForm (shL code (decide (k + 1 < xs.length)) (xs.getD k []))
/-- How many lines Show tells. -/
def showN (code : Nat) (xs : List (List UInt8)) : Nat := if 32 < xs.length then 0 else if (List.range xs.length).all (okSh code xs) then xs.length else 0

end Go.Proofs.YtanfonpbnamjmaaDoor
