/-
  The contract of head.Show.
-/
import Derived.Test.YtkffdhdhjfbhjaaDoorHName
namespace Go.Proofs.YtkffdhdhjfbhjaaDoor
set_option linter.unusedSimpArgs false
set_option linter.unusedVariables false
open Go Go.RowKit Go.Shelf
set_option maxRecDepth 100000

/-- A field, as a value. -/
abbrev fv (f : FP) : Value := .agg #[sv f.1, sv f.2]

set_option maxHeartbeats 2000000 in
theorem show_any (f : FP) (w : World) (hn : f.1.length ≤ 1000000) (hv : f.2.length ≤ 1000000) :
    Calls Tryd.prog 13 #[fv f] w fun e w' => e = .returned (.tuple #[sv (showL f).1, .int .i64 (showL f).2]) ∧ Below w.heap.size w w' := by
  obtain ⟨n, v⟩ := f
  dsimp only at hn hv ⊢
  have HB := Lib.hid (Below.refl w.heap.size w)
  have hbox : (w.alloc (.cells #[sv n, sv v] 29)).heap[w.heap.size]? = some (.cells #[sv n, sv v] 29 (0, 0)) := heap_alloc_new w _
  have hbel : Below w.heap.size w (w.alloc (.cells #[sv n, sv v] 29)) := (Below.refl _ _).alloc (Nat.le_refl _) _
  obtain ⟨a, ha⟩ : ∃ a, a = nameB n := ⟨_, rfl⟩
  obtain ⟨b, hb⟩ : ∃ b, b = valB v := ⟨_, rfl⟩
  have HS := Lib.hid (show showL (n, v) = if a && b then (n ++ 58 :: 32 :: v, 0) else ([], 4) by rw [ha, hb]; rfl)
  have HN := Lib.hid (fun w => isName_any n w hn)
  have HV := Lib.hid (fun w => isValue_any v w hv)
  rw [← ha] at HN
  rw [← hb] at HV
  obtain ⟨W, hW⟩ : ∃ W, W = w.alloc (.cells #[sv n, sv v] 29) := ⟨_, rfl⟩
  rw [← hW] at hbox hbel
  have d0 : W.cell? ⟨w.heap.size, 0, none⟩ = some (sv n) := by rw [cellAt hbox]; rfl
  have d1 : W.cell? ⟨w.heap.size, 1, none⟩ = some (sv v) := by rw [cellAt hbox]; rfl
  have HBX := Lib.hid hbox
  have HBL := Lib.hid hbel
  have HW := Lib.hid hW
  clear ha hb hbox hbel
  cases a with
  | false =>
    go_enter Tryd.func13, Tryd.ntmps13
    go_wp2_with fail
    rw [← HW.out]
    go_wp2_with fail
    refine (HN.out _).mono ?_
    rintro e w2 ⟨rfl, hb2⟩
    have HB2 := Lib.hid hb2
    clear hb2
    go_wp2_with fail
    go_ret2
    rw [HS.out]
    exact ⟨rfl, HBL.out.trans (HB2.out.mono HBL.out.size)⟩
  | true =>
    go_enter Tryd.func13, Tryd.ntmps13
    go_wp2_with fail
    rw [← HW.out]
    go_wp2_with fail
    refine (HN.out _).mono ?_
    rintro e w2 ⟨rfl, hb2⟩
    have c0 : w2.cell? ⟨w.heap.size, 0, none⟩ = some (sv n) := (hb2.cell (p := ⟨w.heap.size, 0, none⟩) (lt_of_blk HBX.out)).trans d0
    have c1 : w2.cell? ⟨w.heap.size, 1, none⟩ = some (sv v) := (hb2.cell (p := ⟨w.heap.size, 1, none⟩) (lt_of_blk HBX.out)).trans d1
    have HB2 := Lib.hid (HBL.out.trans (hb2.mono HBL.out.size))
    have HL2 := Lib.hid (Nat.lt_of_lt_of_le (lt_of_blk HBX.out) hb2.size)
    clear hb2
    go_wp2_with fail
    refine (HV.out _).mono ?_
    rintro e w3 ⟨rfl, hb3⟩
    have c0' : w3.cell? ⟨w.heap.size, 0, none⟩ = some (sv n) := (hb3.cell (p := ⟨w.heap.size, 0, none⟩) HL2.out).trans c0
    have c1' : w3.cell? ⟨w.heap.size, 1, none⟩ = some (sv v) := (hb3.cell (p := ⟨w.heap.size, 1, none⟩) HL2.out).trans c1
    have HB3 := Lib.hid (HB2.out.trans (hb3.mono HB2.out.size))
    clear hb3
    cases b with
    | false =>
      go_wp2_with fail
      go_ret2
      rw [HS.out]
      exact ⟨rfl, HB3.out⟩
    | true =>
      go_wp2_with fail
      go_ret2
      rw [HS.out]
      refine ⟨?_, HB3.out⟩
      have e : ((str n ++ { data := #[58] } ++ { data := #[32] } : ByteArray) ++ str v) = str (n ++ 58 :: 32 :: v) := by apply ByteArray.ext; simp
      simp only [Bool.and_self, if_true]
      rw [e]; rfl
end Go.Proofs.YtkffdhdhjfbhjaaDoor
