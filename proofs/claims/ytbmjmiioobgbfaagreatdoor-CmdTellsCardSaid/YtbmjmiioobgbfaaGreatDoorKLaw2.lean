/-
  The laws' helper long.
-/
import Derived.BigRegion
import Derived.Test.YtbmjmiioobgbfaaGreatDoorKW
namespace Go.Proofs.YtbmjmiioobgbfaaGreatDoor
open Go Go.RowKit Go.Shelf
set_option maxRecDepth 100000
set_option linter.unusedSimpArgs false
set_option linter.unusedVariables false

/-- What long's count says of the first k parameters. -/
def LG (c : Cm) (k : Nat) (n : Int) : Prop := 0 ≤ n ∧ n ≤ 20000 ∧ (n < 5000 → c.arg.length < 5000 ∧ 5 * (k : Int) ≤ n ∧ ∀ j, j < k → (c.ps.getD j pm0).1.length < 5000 ∧ (c.ps.getD j pm0).2.length < 5000)

/-- What long leaves. -/
def LoPost (w : World) (c : Cm) (e : Ending) (w' : World) : Prop := ∃ b, e = .returned (.bool b) ∧ Below w.heap.size w w' ∧ (b = false → SM c)
theorem LG.next {c : Cm} {k : Nat} {n : Int} {nm vl : List UInt8} (h : LG c k n) (hn : n < 5000) (hp : (nm, vl) = c.ps.getD k pm0) : LG c (k + 1) (n + 5 + min 5000 (nm.length : Int) + min 5000 (vl.length : Int)) := by
  obtain ⟨h0, h1, h2⟩ := h
  obtain ⟨i1, i2, i3⟩ := h2 hn
  refine ⟨by omega, by omega, fun h5 => ⟨i1, by omega, fun j hj => ?_⟩⟩
  by_cases e : j = k
  · rw [e, ← hp]; dsimp only; omega
  · exact i3 j (by omega)

set_option maxHeartbeats 4000000 in
theorem long_any (c : Cm) (u : Value) (w : World) (hu : PR w u c.ps) (hv : c.verb < 256) (ha : c.arg.length ≤ 9223372036854775807) (hl : c.ps.length ≤ 9223372036854775807) (hx : ∀ p ∈ c.ps, p.1.length ≤ 9223372036854775807 ∧ p.2.length ≤ 9223372036854775807) :
    Calls Tryz.prog 26 #[cmV c u] w (LoPost w c) := by
  obtain ⟨A, cap, rfl⟩ := hu.form
  have HU := Lib.hid hu
  have HX := Lib.hid hx
  have HFIN := Lib.hid (show ∀ n, LG c c.ps.length n → n < 5000 → SM c from fun n h hn => by
    obtain ⟨h0, h1, h2⟩ := h
    obtain ⟨i1, i2, i3⟩ := h2 hn
    refine ⟨hv, by omega, by omega, fun p hp => ?_⟩
    obtain ⟨j, hj, rfl⟩ := List.getElem_of_mem hp
    have := i3 j hj
    rw [pm_getD hj] at this
    omega)
  have HLG := Lib.hid (show ∀ k n, LG c k n = (0 ≤ n ∧ n ≤ 20000 ∧ (n < 5000 → c.arg.length < 5000 ∧ 5 * (k : Int) ≤ n ∧ ∀ j, j < k → (c.ps.getD j pm0).1.length < 5000 ∧ (c.ps.getD j pm0).2.length < 5000)) from fun _ _ => rfl)
  obtain ⟨v, a, ps⟩ := c
  dsimp only at HU HX HFIN HLG ha hl ⊢
  have HB0 := Lib.hid (below_alloc w (.cells #[.int .u8 (v : Int), sv a, .slice A ps.length cap] 41))
  have HQ := Lib.hid (heap_alloc_new w (.cells #[.int .u8 (v : Int), sv a, .slice A ps.length cap] 41))
  clear hu hx hv
  go_enter Tryz.func26, Tryz.ntmps26
  go_wp2_with fail
  go_loopw [3, 4] (fun s i wr => ∃ (k : Nat) (n : Int), k ≤ ps.length ∧ i = .int .i64 k ∧ s = .int .i64 n ∧ LG ⟨v, a, ps⟩ k n ∧ Below w.heap.size w wr ∧ wr.heap[w.heap.size]? = some (.cells #[.int .u8 (v : Int), sv a, .slice A ps.length cap] 41 (0, 0))) (fun _ i _ => ps.length - (intOf i).toNat)
  case atStart =>
    exact ⟨0, _, Nat.zero_le _, rfl, rfl, by rw [HLG.out]; exact ⟨by omega, by omega, fun h => ⟨by omega, by omega, fun j hj => absurd hj (by omega)⟩⟩, HB0.out, HQ.out⟩
  case round =>
    obtain ⟨k, n, hk, rfl, rfl, hg, hb, hz⟩ := hrel
    have HG := Lib.hid hg
    have HB := Lib.hid hb
    have HZ := Lib.hid hz
    have hg0 : 0 ≤ n ∧ n ≤ 20000 := by rw [HLG.out] at hg; exact ⟨hg.1, hg.2.1⟩
    obtain ⟨hn0, hn1⟩ := hg0
    have c2 : wr.cell? ⟨w.heap.size, 2, none⟩ = some (.slice A ps.length cap) := by rw [cellAt hz]; rfl
    clear hg hb hz
    by_cases hlt : k < ps.length
    · by_cases hn5 : n < 5000
      · obtain ⟨g, off, rfl, hgl, q0, q1⟩ := PR.at (HU.out.step HB.out) hlt
        obtain ⟨p, hp⟩ : ∃ p, p = ps.getD k pm0 := ⟨_, rfl⟩
        have hpl := HX.out p (by rw [hp]; exact pm_mem hlt)
        rw [← hp] at q0 q1
        have HP := Lib.hid hp
        obtain ⟨nm, vl⟩ := p
        dsimp only at q0 q1 hpl
        obtain ⟨hp1, hp2⟩ := hpl
        have hk1 : (0 : Int) ≤ (k : Int) := by omega
        have hk2 : (k : Int) < (ps.length : Int) := by omega
        clear hp
        go_wp2_with fail
        go_region
        all_goals
          go_wp2_with fail
          refine ⟨⟨k + 1, _, by omega, by go_num, rfl, HG.out.next hn5 HP.out, HB.out.drew, HZ.out⟩, ?_⟩
          simp [intOf]; omega
      · go_wp2_with fail
        go_ret
        exact ⟨true, rfl, HB.out, fun h => by cases h⟩
    · obtain rfl : k = ps.length := by omega
      go_wp2_with fail
      go_ret
      exact ⟨_, rfl, HB.out, fun h => HFIN.out n HG.out (by simpa using h)⟩
end Go.Proofs.YtbmjmiioobgbfaaGreatDoor
