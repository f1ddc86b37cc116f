/-
  The walk of CmdNames: what its literals lay.
-/
import Derived.Test.YtbmjmiioobgbfaaGreatDoorKNames0
namespace Go.Proofs.YtbmjmiioobgbfaaGreatDoor
open Go Go.RowKit Go.Shelf
set_option maxRecDepth 100000
set_option linter.unusedSimpArgs false
set_option linter.unusedVariables false

abbrev row0 : RowN := ([], cm0)
def nmU (n : Nat) : Nat → Value
  | 6 => .slice (some ⟨n, 0, none⟩) 2 2
  | 7 => .slice (some ⟨n + 1, 0, none⟩) 1 1
  | _ => .slice none 0 0
/-- The rows lie in block g. -/
structure RowsAt (g n : Nat) (W : World) : Prop where
  lt : g < W.heap.size
  at_ : ∀ k, k < 8 → W.cell? ⟨g, k * 4, none⟩ = some (sv (nmRows.getD k row0).1) ∧ W.cell? ⟨g, k * 4 + 1, none⟩ = some (.int .u8 ((nmRows.getD k row0).2.verb : Int)) ∧ W.cell? ⟨g, k * 4 + 2, none⟩ = some (sv (nmRows.getD k row0).2.arg) ∧ W.cell? ⟨g, k * 4 + 3, none⟩ = some (nmU n k)
  row : ∀ k, k < 8 → PR W (nmU n k) (nmRows.getD k row0).2.ps
theorem RowsAt.step {g n : Nat} {W W' : World} (h : RowsAt g n W) (hb : Below W.heap.size W W') : RowsAt g n W' :=
  ⟨Nat.lt_of_lt_of_le h.lt hb.size, (fun k hk => by
    obtain ⟨a, b, c, d⟩ := h.at_ k hk
    exact ⟨(hb.cell (p := ⟨g, k * 4, none⟩) h.lt).trans a, (hb.cell (p := ⟨g, k * 4 + 1, none⟩) h.lt).trans b, (hb.cell (p := ⟨g, k * 4 + 2, none⟩) h.lt).trans c, (hb.cell (p := ⟨g, k * 4 + 3, none⟩) h.lt).trans d⟩), fun k hk => (h.row k hk).step hb⟩
theorem pr_block {W : World} {g : Nat} {ps : List PM} {cs : Array Value} {T : TypeId} (h : W.heap[g]? = some (.cells cs T (0, 0))) (hc : ∀ j, j < ps.length → cs[j * 2]? = some (sv (ps.getD j pm0).1) ∧ cs[j * 2 + 1]? = some (sv (ps.getD j pm0).2)) (n : Nat) (hn : n = ps.length) : PR W (.slice (some ⟨g, 0, none⟩) n n) ps := by
  subst hn
  refine ⟨_, _, rfl, fun _ => ⟨g, 0, rfl, lt_of_blk h, fun j hj => ?_⟩⟩
  obtain ⟨a, b⟩ := hc j hj
  refine ⟨?_, ?_⟩
  · rw [Nat.zero_add, cellAt h]; exact a
  · rw [Nat.zero_add, cellAt h]; exact b
theorem rows_start (w : World) (T1 T2 T3 : TypeId) : RowsAt (w.heap.size + 2) w.heap.size (((w.alloc (.cells #[sv [83, 73, 90, 69], sv [53], sv [88], sv []] T1)).alloc (.cells #[sv [65, 49], sv [126, 33]] T2)).alloc (.cells #[sv [69, 72, 76, 79, 32, 97],
    .int .u8 1,
    sv [97],
    .slice none 0 0,
    sv [115, 84, 97, 82, 116, 84, 76, 83],
    .int .u8 2,
    sv [],
    .slice none 0 0,
    sv [100, 97, 116, 97],
    .int .u8 5,
    sv [],
    .slice none 0 0,
    sv [81, 117, 105, 116],
    .int .u8 6,
    sv [],
    .slice none 0 0,
    sv [109, 97, 105, 108, 32, 102, 114, 111, 109, 58, 60, 62],
    .int .u8 3,
    sv [],
    .slice none 0 0,
    sv [82, 67, 80, 84, 32, 84, 79, 58, 60, 65, 64, 66, 46, 99, 62],
    .int .u8 4,
    sv [65, 64, 66, 46, 99],
    .slice none 0 0,
    sv [77, 65, 73, 76, 32, 70, 82, 79, 77, 58, 60, 34, 97, 62, 32, 98, 34, 64, 99, 62, 32, 115, 105, 122, 101, 61, 53, 32, 88],
    .int .u8 3,
    sv [34, 97, 62, 32, 98, 34, 64, 99],
    .slice (some ⟨w.heap.size, 0, none⟩) 2 2,
    sv [82, 67, 80, 84, 32, 84, 79, 58, 60, 34, 64, 62, 34, 64, 99, 62, 32, 97, 49, 61, 126, 33],
    .int .u8 4,
    sv [34, 64, 62, 34, 64, 99],
    .slice (some ⟨w.heap.size + 1, 0, none⟩) 1 1] T3)) := by
  obtain ⟨o1, e1⟩ : ∃ o, o = (.cells #[sv [83, 73, 90, 69], sv [53], sv [88], sv []] T1 : Obj) := ⟨_, rfl⟩
  obtain ⟨o2, e2⟩ : ∃ o, o = (.cells #[sv [65, 49], sv [126, 33]] T2 : Obj) := ⟨_, rfl⟩
  obtain ⟨o3, e3⟩ : ∃ o, o = (.cells #[sv [69, 72, 76, 79, 32, 97],
    .int .u8 1,
    sv [97],
    .slice none 0 0,
    sv [115, 84, 97, 82, 116, 84, 76, 83],
    .int .u8 2,
    sv [],
    .slice none 0 0,
    sv [100, 97, 116, 97],
    .int .u8 5,
    sv [],
    .slice none 0 0,
    sv [81, 117, 105, 116],
    .int .u8 6,
    sv [],
    .slice none 0 0,
    sv [109, 97, 105, 108, 32, 102, 114, 111, 109, 58, 60, 62],
    .int .u8 3,
    sv [],
    .slice none 0 0,
    sv [82, 67, 80, 84, 32, 84, 79, 58, 60, 65, 64, 66, 46, 99, 62],
    .int .u8 4,
    sv [65, 64, 66, 46, 99],
    .slice none 0 0,
    sv [77, 65, 73, 76, 32, 70, 82, 79, 77, 58, 60, 34, 97, 62, 32, 98, 34, 64, 99, 62, 32, 115, 105, 122, 101, 61, 53, 32, 88],
    .int .u8 3,
    sv [34, 97, 62, 32, 98, 34, 64, 99],
    .slice (some ⟨w.heap.size, 0, none⟩) 2 2,
    sv [82, 67, 80, 84, 32, 84, 79, 58, 60, 34, 64, 62, 34, 64, 99, 62, 32, 97, 49, 61, 126, 33],
    .int .u8 4,
    sv [34, 64, 62, 34, 64, 99],
    .slice (some ⟨w.heap.size + 1, 0, none⟩) 1 1] T3 : Obj) := ⟨_, rfl⟩
  rw [← e1, ← e2, ← e3]
  have h3 : (((w.alloc o1).alloc o2).alloc o3).heap[w.heap.size + 2]? = some o3 := by
    have := heap_alloc_new ((w.alloc o1).alloc o2) o3
    rw [World.size_alloc, World.size_alloc] at this
    exact this
  have h2 : (((w.alloc o1).alloc o2).alloc o3).heap[w.heap.size + 1]? = some o2 := by
    have := heap_alloc_new (w.alloc o1) o2
    rw [World.size_alloc] at this
    exact (Lib.alloc_old _ _ _ (by simp only [World.size_alloc]; omega)).trans this
  have h1 : (((w.alloc o1).alloc o2).alloc o3).heap[w.heap.size]? = some o1 :=
    (Lib.alloc_old _ _ _ (by simp only [World.size_alloc]; omega)).trans ((Lib.alloc_old _ _ _ (by simp only [World.size_alloc]; omega)).trans (heap_alloc_new w o1))
  replace h1 := h1.trans (congrArg some e1)
  replace h2 := h2.trans (congrArg some e2)
  replace h3 := h3.trans (congrArg some e3)
  refine ⟨lt_of_blk h3, fun k hk => ?_, fun k hk => ?_⟩
  · rw [cellAt h3, cellAt h3, cellAt h3, cellAt h3]
    match k, hk with
    | 0, _ => exact ⟨rfl, rfl, rfl, rfl⟩
    | 1, _ => exact ⟨rfl, rfl, rfl, rfl⟩
    | 2, _ => exact ⟨rfl, rfl, rfl, rfl⟩
    | 3, _ => exact ⟨rfl, rfl, rfl, rfl⟩
    | 4, _ => exact ⟨rfl, rfl, rfl, rfl⟩
    | 5, _ => exact ⟨rfl, rfl, rfl, rfl⟩
    | 6, _ => exact ⟨rfl, rfl, rfl, rfl⟩
    | 7, _ => exact ⟨rfl, rfl, rfl, rfl⟩
  · match k, hk with
    | 0, _ => exact PR.nil _ _ _
    | 1, _ => exact PR.nil _ _ _
    | 2, _ => exact PR.nil _ _ _
    | 3, _ => exact PR.nil _ _ _
    | 4, _ => exact PR.nil _ _ _
    | 5, _ => exact PR.nil _ _ _
    | 6, _ => exact pr_block h1 (fun j hj => by
        match j, hj with
        | 0, _ => exact ⟨rfl, rfl⟩
        | 1, _ => exact ⟨rfl, rfl⟩) 2 rfl
    | 7, _ => exact pr_block h2 (fun j hj => by
        match j, hj with
        | 0, _ => exact ⟨rfl, rfl⟩) 1 rfl

/-- The bad lines lie in block g. -/
structure BadAt (g : Nat) (W : World) : Prop where
  lt : g < W.heap.size
  at_ : ∀ k, k < 30 → W.cell? ⟨g, k, none⟩ = some (sv (nmBad.getD k []))
theorem BadAt.step {g : Nat} {W W' : World} (h : BadAt g W) (hb : Below W.heap.size W W') : BadAt g W' :=
  ⟨Nat.lt_of_lt_of_le h.lt hb.size, fun k hk => (hb.cell (p := ⟨g, k, none⟩) h.lt).trans (h.at_ k hk)⟩
theorem bad_start (w : World) (T : TypeId) : BadAt w.heap.size (w.alloc (.cells #[sv [],
    sv [69, 72, 76, 79],
    sv [69, 72, 76, 79, 32],
    sv [69, 72, 76, 79, 32, 65],
    sv [69, 72, 76, 79, 32, 97, 32],
    sv [69, 72, 76, 79, 32, 32, 97],
    sv [72, 69, 76, 79, 32, 97],
    sv [83, 84, 65, 82, 84, 84, 76, 83, 32, 120],
    sv [32, 68, 65, 84, 65],
    sv [68, 65, 84, 65, 13],
    sv [81, 85, 73, 84, 88],
    sv [77, 65, 73, 76, 32, 70, 82, 79, 77, 58],
    sv [77, 65, 73, 76, 32, 70, 82, 79, 77, 58, 97, 64, 98],
    sv [77, 65, 73, 76, 32, 70, 82, 79, 77, 58, 60, 97, 64, 98],
    sv [77, 65, 73, 76, 32, 70, 82, 79, 77, 58, 60, 97, 62],
    sv [77, 65, 73, 76, 32, 32, 70, 82, 79, 77, 58, 60, 97, 64, 98, 62],
    sv [77, 65, 73, 76, 32, 70, 82, 79, 77, 58, 60, 97, 64, 98, 62, 88],
    sv [77, 65, 73, 76, 32, 70, 82, 79, 77, 58, 60, 97, 64, 98, 62, 32],
    sv [77, 65, 73, 76, 32, 70, 82, 79, 77, 58, 60, 97, 64, 98, 62, 32, 32, 88],
    sv [77, 65, 73, 76, 32, 70, 82, 79, 77, 58, 60, 97, 64, 98, 62, 32, 88, 32],
    sv [77, 65, 73, 76, 32, 70, 82, 79, 77, 58, 60, 97, 64, 98, 62, 32, 88, 61],
    sv [77, 65, 73, 76, 32, 70, 82, 79, 77, 58, 60, 97, 64, 98, 62, 32, 61, 88],
    sv [77, 65, 73, 76, 32, 70, 82, 79, 77, 58, 60, 97, 64, 98, 62, 32, 88, 61, 97, 61, 98],
    sv [77, 65, 73, 76, 32, 70, 82, 79, 77, 58, 60, 97, 64, 98, 62, 32, 49, 88],
    sv [77, 65, 73, 76, 32, 70, 82, 79, 77, 58, 60, 97, 64, 98, 62, 32, 88, 45, 89],
    sv [77, 65, 73, 76, 32, 70, 82, 79, 77, 58, 60, 97, 64, 98, 62, 32, 88, 61, 127],
    sv [77, 65, 73, 76, 32, 70, 82, 79, 77, 58, 60, 97, 64, 98, 62, 32, 88, 32, 120],
    sv [77, 65, 73, 76, 32, 70, 82, 79, 77, 58, 60, 97, 64, 98, 62, 32, 65, 32, 66, 32, 67, 32, 68, 32, 69, 32, 70, 32, 71, 32, 72, 32, 73],
    .string (str [82, 67, 80, 84, 32, 84, 79, 58, 60, 97, 64, 98, 62, 32] ++ str (List.replicate 33 65)),
    sv [78, 79, 79, 80]] T)) := by
  have h3 := heap_alloc_new w (.cells #[sv [],
    sv [69, 72, 76, 79],
    sv [69, 72, 76, 79, 32],
    sv [69, 72, 76, 79, 32, 65],
    sv [69, 72, 76, 79, 32, 97, 32],
    sv [69, 72, 76, 79, 32, 32, 97],
    sv [72, 69, 76, 79, 32, 97],
    sv [83, 84, 65, 82, 84, 84, 76, 83, 32, 120],
    sv [32, 68, 65, 84, 65],
    sv [68, 65, 84, 65, 13],
    sv [81, 85, 73, 84, 88],
    sv [77, 65, 73, 76, 32, 70, 82, 79, 77, 58],
    sv [77, 65, 73, 76, 32, 70, 82, 79, 77, 58, 97, 64, 98],
    sv [77, 65, 73, 76, 32, 70, 82, 79, 77, 58, 60, 97, 64, 98],
    sv [77, 65, 73, 76, 32, 70, 82, 79, 77, 58, 60, 97, 62],
    sv [77, 65, 73, 76, 32, 32, 70, 82, 79, 77, 58, 60, 97, 64, 98, 62],
    sv [77, 65, 73, 76, 32, 70, 82, 79, 77, 58, 60, 97, 64, 98, 62, 88],
    sv [77, 65, 73, 76, 32, 70, 82, 79, 77, 58, 60, 97, 64, 98, 62, 32],
    sv [77, 65, 73, 76, 32, 70, 82, 79, 77, 58, 60, 97, 64, 98, 62, 32, 32, 88],
    sv [77, 65, 73, 76, 32, 70, 82, 79, 77, 58, 60, 97, 64, 98, 62, 32, 88, 32],
    sv [77, 65, 73, 76, 32, 70, 82, 79, 77, 58, 60, 97, 64, 98, 62, 32, 88, 61],
    sv [77, 65, 73, 76, 32, 70, 82, 79, 77, 58, 60, 97, 64, 98, 62, 32, 61, 88],
    sv [77, 65, 73, 76, 32, 70, 82, 79, 77, 58, 60, 97, 64, 98, 62, 32, 88, 61, 97, 61, 98],
    sv [77, 65, 73, 76, 32, 70, 82, 79, 77, 58, 60, 97, 64, 98, 62, 32, 49, 88],
    sv [77, 65, 73, 76, 32, 70, 82, 79, 77, 58, 60, 97, 64, 98, 62, 32, 88, 45, 89],
    sv [77, 65, 73, 76, 32, 70, 82, 79, 77, 58, 60, 97, 64, 98, 62, 32, 88, 61, 127],
    sv [77, 65, 73, 76, 32, 70, 82, 79, 77, 58, 60, 97, 64, 98, 62, 32, 88, 32, 120],
    sv [77, 65, 73, 76, 32, 70, 82, 79, 77, 58, 60, 97, 64, 98, 62, 32, 65, 32, 66, 32, 67, 32, 68, 32, 69, 32, 70, 32, 71, 32, 72, 32, 73],
    .string (str [82, 67, 80, 84, 32, 84, 79, 58, 60, 97, 64, 98, 62, 32] ++ str (List.replicate 33 65)),
    sv [78, 79, 79, 80]] T)
  refine ⟨lt_of_blk h3, fun k hk => ?_⟩
  rw [cellAt h3]
  match k, hk with
  | 0, _ => rfl
  | 1, _ => rfl
  | 2, _ => rfl
  | 3, _ => rfl
  | 4, _ => rfl
  | 5, _ => rfl
  | 6, _ => rfl
  | 7, _ => rfl
  | 8, _ => rfl
  | 9, _ => rfl
  | 10, _ => rfl
  | 11, _ => rfl
  | 12, _ => rfl
  | 13, _ => rfl
  | 14, _ => rfl
  | 15, _ => rfl
  | 16, _ => rfl
  | 17, _ => rfl
  | 18, _ => rfl
  | 19, _ => rfl
  | 20, _ => rfl
  | 21, _ => rfl
  | 22, _ => rfl
  | 23, _ => rfl
  | 24, _ => rfl
  | 25, _ => rfl
  | 26, _ => rfl
  | 27, _ => rfl
  | 28, _ => (show some (Value.string (str _ ++ str _)) = _; rw [str_append]; rfl)
  | 29, _ => rfl
  | k + 30, h => exact absurd h (by omega)

def cmU (n : Nat) : Nat → Value
  | 3 => .slice (some ⟨n, 0, none⟩) 1 1
  | 5 => .slice (some ⟨n + 1, 0, none⟩) 1 1
  | 8 => .slice (some ⟨n + 2, 0, none⟩) 1 1
  | 9 => .slice (some ⟨n + 3, 0, none⟩) 1 1
  | 10 => .slice (some ⟨n + 4, 0, none⟩) 2 2
  | 11 => .slice (some ⟨n + 5, 0, none⟩) 1 1
  | _ => .slice none 0 0
/-- The commands that may not be lie in block g. -/
structure CmsAt (g n : Nat) (W : World) : Prop where
  lt : g < W.heap.size
  at_ : ∀ k, k < 12 → W.cell? ⟨g, k * 3, none⟩ = some (.int .u8 ((nmCms.getD k cm0).verb : Int)) ∧ W.cell? ⟨g, k * 3 + 1, none⟩ = some (sv (nmCms.getD k cm0).arg) ∧ W.cell? ⟨g, k * 3 + 2, none⟩ = some (cmU n k)
  row : ∀ k, k < 12 → PR W (cmU n k) (nmCms.getD k cm0).ps
theorem CmsAt.step {g n : Nat} {W W' : World} (h : CmsAt g n W) (hb : Below W.heap.size W W') : CmsAt g n W' :=
  ⟨Nat.lt_of_lt_of_le h.lt hb.size, (fun k hk => by
    obtain ⟨a, b, c⟩ := h.at_ k hk
    exact ⟨(hb.cell (p := ⟨g, k * 3, none⟩) h.lt).trans a, (hb.cell (p := ⟨g, k * 3 + 1, none⟩) h.lt).trans b, (hb.cell (p := ⟨g, k * 3 + 2, none⟩) h.lt).trans c⟩), fun k hk => (h.row k hk).step hb⟩
theorem cms_start (w : World) (T0 T1 T2 T3 T4 T5 T : TypeId) : CmsAt (w.heap.size + 6) w.heap.size (((((((w.alloc (.cells #[sv [88], sv []] T0)).alloc (.cells #[sv [88], sv []] T1)).alloc (.cells #[sv [120], sv []] T2)).alloc (.cells #[sv [], sv []] T3)).alloc (.cells #[sv [88], sv [], sv [88], sv [49]] T4)).alloc (.cells #[sv [88], sv [32]] T5)).alloc (.cells #[.int .u8 0,
    sv [],
    .slice none 0 0,
    .int .u8 7,
    sv [],
    .slice none 0 0,
    .int .u8 1,
    sv [],
    .slice none 0 0,
    .int .u8 1,
    sv [97],
    .slice (some ⟨w.heap.size, 0, none⟩) 1 1,
    .int .u8 5,
    sv [97],
    .slice none 0 0,
    .int .u8 6,
    sv [],
    .slice (some ⟨w.heap.size + 1, 0, none⟩) 1 1,
    .int .u8 4,
    sv [],
    .slice none 0 0,
    .int .u8 3,
    sv [97],
    .slice none 0 0,
    .int .u8 3,
    sv [],
    .slice (some ⟨w.heap.size + 2, 0, none⟩) 1 1,
    .int .u8 3,
    sv [],
    .slice (some ⟨w.heap.size + 3, 0, none⟩) 1 1,
    .int .u8 3,
    sv [],
    .slice (some ⟨w.heap.size + 4, 0, none⟩) 2 2,
    .int .u8 3,
    sv [],
    .slice (some ⟨w.heap.size + 5, 0, none⟩) 1 1] T)) := by
  obtain ⟨o0, e0⟩ : ∃ o, o = (.cells #[sv [88], sv []] T0 : Obj) := ⟨_, rfl⟩
  obtain ⟨o1, e1⟩ : ∃ o, o = (.cells #[sv [88], sv []] T1 : Obj) := ⟨_, rfl⟩
  obtain ⟨o2, e2⟩ : ∃ o, o = (.cells #[sv [120], sv []] T2 : Obj) := ⟨_, rfl⟩
  obtain ⟨o3, e3⟩ : ∃ o, o = (.cells #[sv [], sv []] T3 : Obj) := ⟨_, rfl⟩
  obtain ⟨o4, e4⟩ : ∃ o, o = (.cells #[sv [88], sv [], sv [88], sv [49]] T4 : Obj) := ⟨_, rfl⟩
  obtain ⟨o5, e5⟩ : ∃ o, o = (.cells #[sv [88], sv [32]] T5 : Obj) := ⟨_, rfl⟩
  obtain ⟨o6, e6⟩ : ∃ o, o = (.cells #[.int .u8 0,
    sv [],
    .slice none 0 0,
    .int .u8 7,
    sv [],
    .slice none 0 0,
    .int .u8 1,
    sv [],
    .slice none 0 0,
    .int .u8 1,
    sv [97],
    .slice (some ⟨w.heap.size, 0, none⟩) 1 1,
    .int .u8 5,
    sv [97],
    .slice none 0 0,
    .int .u8 6,
    sv [],
    .slice (some ⟨w.heap.size + 1, 0, none⟩) 1 1,
    .int .u8 4,
    sv [],
    .slice none 0 0,
    .int .u8 3,
    sv [97],
    .slice none 0 0,
    .int .u8 3,
    sv [],
    .slice (some ⟨w.heap.size + 2, 0, none⟩) 1 1,
    .int .u8 3,
    sv [],
    .slice (some ⟨w.heap.size + 3, 0, none⟩) 1 1,
    .int .u8 3,
    sv [],
    .slice (some ⟨w.heap.size + 4, 0, none⟩) 2 2,
    .int .u8 3,
    sv [],
    .slice (some ⟨w.heap.size + 5, 0, none⟩) 1 1] T : Obj) := ⟨_, rfl⟩
  rw [← e0, ← e1, ← e2, ← e3, ← e4, ← e5, ← e6]
  have h0 : (((((((w.alloc o0).alloc o1).alloc o2).alloc o3).alloc o4).alloc o5).alloc o6).heap[w.heap.size]? = some o0 := by
    have h := heap_alloc_new w o0
    have h := (Lib.alloc_old (w.alloc o0) o1 _ (by simp only [World.size_alloc]; omega)).trans h
    have h := (Lib.alloc_old ((w.alloc o0).alloc o1) o2 _ (by simp only [World.size_alloc]; omega)).trans h
    have h := (Lib.alloc_old (((w.alloc o0).alloc o1).alloc o2) o3 _ (by simp only [World.size_alloc]; omega)).trans h
    have h := (Lib.alloc_old ((((w.alloc o0).alloc o1).alloc o2).alloc o3) o4 _ (by simp only [World.size_alloc]; omega)).trans h
    have h := (Lib.alloc_old (((((w.alloc o0).alloc o1).alloc o2).alloc o3).alloc o4) o5 _ (by simp only [World.size_alloc]; omega)).trans h
    have h := (Lib.alloc_old ((((((w.alloc o0).alloc o1).alloc o2).alloc o3).alloc o4).alloc o5) o6 _ (by simp only [World.size_alloc]; omega)).trans h
    exact h
  have h1 : (((((((w.alloc o0).alloc o1).alloc o2).alloc o3).alloc o4).alloc o5).alloc o6).heap[w.heap.size + 1]? = some o1 := by
    have h := heap_alloc_new (w.alloc o0) o1
    simp only [World.size_alloc] at h
    have h := (Lib.alloc_old ((w.alloc o0).alloc o1) o2 _ (by simp only [World.size_alloc]; omega)).trans h
    have h := (Lib.alloc_old (((w.alloc o0).alloc o1).alloc o2) o3 _ (by simp only [World.size_alloc]; omega)).trans h
    have h := (Lib.alloc_old ((((w.alloc o0).alloc o1).alloc o2).alloc o3) o4 _ (by simp only [World.size_alloc]; omega)).trans h
    have h := (Lib.alloc_old (((((w.alloc o0).alloc o1).alloc o2).alloc o3).alloc o4) o5 _ (by simp only [World.size_alloc]; omega)).trans h
    have h := (Lib.alloc_old ((((((w.alloc o0).alloc o1).alloc o2).alloc o3).alloc o4).alloc o5) o6 _ (by simp only [World.size_alloc]; omega)).trans h
    exact h
  have h2 : (((((((w.alloc o0).alloc o1).alloc o2).alloc o3).alloc o4).alloc o5).alloc o6).heap[w.heap.size + 2]? = some o2 := by
    have h := heap_alloc_new ((w.alloc o0).alloc o1) o2
    simp only [World.size_alloc] at h
    have h := (Lib.alloc_old (((w.alloc o0).alloc o1).alloc o2) o3 _ (by simp only [World.size_alloc]; omega)).trans h
    have h := (Lib.alloc_old ((((w.alloc o0).alloc o1).alloc o2).alloc o3) o4 _ (by simp only [World.size_alloc]; omega)).trans h
    have h := (Lib.alloc_old (((((w.alloc o0).alloc o1).alloc o2).alloc o3).alloc o4) o5 _ (by simp only [World.size_alloc]; omega)).trans h
    have h := (Lib.alloc_old ((((((w.alloc o0).alloc o1).alloc o2).alloc o3).alloc o4).alloc o5) o6 _ (by simp only [World.size_alloc]; omega)).trans h
    exact h
  have h3 : (((((((w.alloc o0).alloc o1).alloc o2).alloc o3).alloc o4).alloc o5).alloc o6).heap[w.heap.size + 3]? = some o3 := by
    have h := heap_alloc_new (((w.alloc o0).alloc o1).alloc o2) o3
    simp only [World.size_alloc] at h
    have h := (Lib.alloc_old ((((w.alloc o0).alloc o1).alloc o2).alloc o3) o4 _ (by simp only [World.size_alloc]; omega)).trans h
    have h := (Lib.alloc_old (((((w.alloc o0).alloc o1).alloc o2).alloc o3).alloc o4) o5 _ (by simp only [World.size_alloc]; omega)).trans h
    have h := (Lib.alloc_old ((((((w.alloc o0).alloc o1).alloc o2).alloc o3).alloc o4).alloc o5) o6 _ (by simp only [World.size_alloc]; omega)).trans h
    exact h
  have h4 : (((((((w.alloc o0).alloc o1).alloc o2).alloc o3).alloc o4).alloc o5).alloc o6).heap[w.heap.size + 4]? = some o4 := by
    have h := heap_alloc_new ((((w.alloc o0).alloc o1).alloc o2).alloc o3) o4
    simp only [World.size_alloc] at h
    have h := (Lib.alloc_old (((((w.alloc o0).alloc o1).alloc o2).alloc o3).alloc o4) o5 _ (by simp only [World.size_alloc]; omega)).trans h
    have h := (Lib.alloc_old ((((((w.alloc o0).alloc o1).alloc o2).alloc o3).alloc o4).alloc o5) o6 _ (by simp only [World.size_alloc]; omega)).trans h
    exact h
  have h5 : (((((((w.alloc o0).alloc o1).alloc o2).alloc o3).alloc o4).alloc o5).alloc o6).heap[w.heap.size + 5]? = some o5 := by
    have h := heap_alloc_new (((((w.alloc o0).alloc o1).alloc o2).alloc o3).alloc o4) o5
    simp only [World.size_alloc] at h
    have h := (Lib.alloc_old ((((((w.alloc o0).alloc o1).alloc o2).alloc o3).alloc o4).alloc o5) o6 _ (by simp only [World.size_alloc]; omega)).trans h
    exact h
  have h6 : (((((((w.alloc o0).alloc o1).alloc o2).alloc o3).alloc o4).alloc o5).alloc o6).heap[w.heap.size + 6]? = some o6 := by
    have h := heap_alloc_new ((((((w.alloc o0).alloc o1).alloc o2).alloc o3).alloc o4).alloc o5) o6
    simp only [World.size_alloc] at h
    exact h
  replace h0 := h0.trans (congrArg some e0)
  replace h1 := h1.trans (congrArg some e1)
  replace h2 := h2.trans (congrArg some e2)
  replace h3 := h3.trans (congrArg some e3)
  replace h4 := h4.trans (congrArg some e4)
  replace h5 := h5.trans (congrArg some e5)
  replace h6 := h6.trans (congrArg some e6)
  refine ⟨lt_of_blk h6, fun k hk => ?_, fun k hk => ?_⟩
  · rw [cellAt h6, cellAt h6, cellAt h6]
    match k, hk with
    | 0, _ => exact ⟨rfl, rfl, rfl⟩
    | 1, _ => exact ⟨rfl, rfl, rfl⟩
    | 2, _ => exact ⟨rfl, rfl, rfl⟩
    | 3, _ => exact ⟨rfl, rfl, rfl⟩
    | 4, _ => exact ⟨rfl, rfl, rfl⟩
    | 5, _ => exact ⟨rfl, rfl, rfl⟩
    | 6, _ => exact ⟨rfl, rfl, rfl⟩
    | 7, _ => exact ⟨rfl, rfl, rfl⟩
    | 8, _ => exact ⟨rfl, rfl, rfl⟩
    | 9, _ => exact ⟨rfl, rfl, rfl⟩
    | 10, _ => exact ⟨rfl, rfl, rfl⟩
    | 11, _ => exact ⟨rfl, rfl, rfl⟩
  · match k, hk with
    | 0, _ => exact PR.nil _ _ _
    | 1, _ => exact PR.nil _ _ _
    | 2, _ => exact PR.nil _ _ _
    | 3, _ => exact pr_block h0 (fun j hj => by
        match j, hj with
        | 0, _ => exact ⟨rfl, rfl⟩) 1 rfl
    | 4, _ => exact PR.nil _ _ _
    | 5, _ => exact pr_block h1 (fun j hj => by
        match j, hj with
        | 0, _ => exact ⟨rfl, rfl⟩) 1 rfl
    | 6, _ => exact PR.nil _ _ _
    | 7, _ => exact PR.nil _ _ _
    | 8, _ => exact pr_block h2 (fun j hj => by
        match j, hj with
        | 0, _ => exact ⟨rfl, rfl⟩) 1 rfl
    | 9, _ => exact pr_block h3 (fun j hj => by
        match j, hj with
        | 0, _ => exact ⟨rfl, rfl⟩) 1 rfl
    | 10, _ => exact pr_block h4 (fun j hj => by
        match j, hj with
        | 0, _ => exact ⟨rfl, rfl⟩
        | 1, _ => exact ⟨rfl, rfl⟩) 2 rfl
    | 11, _ => exact pr_block h5 (fun j hj => by
        match j, hj with
        | 0, _ => exact ⟨rfl, rfl⟩) 1 rfl
end Go.Proofs.YtbmjmiioobgbfaaGreatDoor
