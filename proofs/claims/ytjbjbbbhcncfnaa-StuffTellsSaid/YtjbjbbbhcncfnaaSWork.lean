/-
  The contracts of package stuff in the words that the laws' walks carry from call to call ('BL': what lay is as it lay, the library's variable too); and works: the examples are as they are told.
-/
import Derived.Test.YtjbjbbbhcncfnaaSUn
namespace Go.Proofs.Ytjbjbbbhcncfnaa
open Go Go.RowKit Go.Shelf
set_option maxRecDepth 100000

/-- A world behind w0. -/
def BL (w0 w : World) : Prop := Below w0.heap.size w0 w ∧ ML w
theorem BL.start {w : World} (h : ML w) : BL w w := ⟨Below.refl _ _, h⟩
theorem BL.step {w0 w w' : World} (h : BL w0 w) (hb : Below w.heap.size w w') : BL w0 w' := ⟨h.1.trans (hb.mono h.1.size), h.2.step hb⟩
theorem BL.drew {w0 w : World} (h : BL w0 w) : BL w0 w.drew := ⟨h.1.drew, h.2⟩
theorem BL.alloc {w0 w : World} (h : BL w0 w) (o : Obj) : BL w0 (w.alloc o) := h.step ((Below.refl _ _).alloc (Nat.le_refl _) _)

theorem stuffB {w0 w : World} (h : BL w0 w) (s : List UInt8) (hs : s.length ≤ 2000000) {x : List UInt8} {e : Int} (hx : stuffL s = x) (he : stuffE s = e) :
    Calls Try.prog 9 #[.string (str s)] w fun r w' => r = .returned (.tuple #[.string (str x), .int .i64 e]) ∧ BL w0 w' := by
  subst hx he
  exact (stuff_any s w hs h.2).mono fun r w' ⟨h1, h2⟩ => ⟨h1, h.step h2⟩
theorem unstuffB {w0 w : World} (h : BL w0 w) (s : List UInt8) (hs : s.length ≤ 2000000) {x y : List UInt8} {e : Int} (hx : unsT s = x) (hy : unsR s = y) (he : unsE s = e) :
    Calls Try.prog 10 #[.string (str s)] w fun r w' => r = .returned (.tuple #[.string (str x), .string (str y), .int .i64 e]) ∧ BL w0 w' := by
  subst hx hy he
  exact (unstuff_any s w hs h.2).mono fun r w' ⟨h1, h2⟩ => ⟨h1, h.step h2⟩
theorem dotsB {w0 w : World} (h : BL w0 w) (s : List UInt8) (hs : s.length ≤ 2000000) {n : Nat} (hx : dotsL s = n) :
    Calls Try.prog 11 #[.string (str s)] w fun r w' => r = .returned (.int .i64 (n : Int)) ∧ BL w0 w' := by
  subst hx
  exact (dots_any s w hs h.2).mono fun r w' ⟨h1, h2⟩ => ⟨h1, h.step h2⟩
theorem wholeB {w0 w : World} (h : BL w0 w) (s : List UInt8) (hs : s.length ≤ 2000000) {b : Bool} (hx : wholeL s = b) :
    Calls Try.prog 12 #[.string (str s)] w fun r w' => r = .returned (.bool b) ∧ BL w0 w' := by
  subst hx
  exact (whole_any s w hs h.2).mono fun r w' ⟨h1, h2⟩ => ⟨h1, h.step h2⟩

theorem x1 : stuffL [] = [46, 13, 10] ∧ stuffE [] = 0 := by decide +kernel
theorem x2 : stuffL [46, 97, 13, 10, 98, 13, 10] = [46, 46, 97, 13, 10, 98, 13, 10, 46, 13, 10] ∧ stuffE [46, 97, 13, 10, 98, 13, 10] = 0 := by decide +kernel
theorem x3 : unsT [46, 46, 97, 13, 10, 98, 13, 10, 46, 13, 10, 120] = [46, 97, 13, 10, 98, 13, 10] ∧ unsR [46, 46, 97, 13, 10, 98, 13, 10, 46, 13, 10, 120] = [120] ∧ unsE [46, 46, 97, 13, 10, 98, 13, 10, 46, 13, 10, 120] = 0 := by decide +kernel
theorem x4 : unsT [46, 97, 13, 10, 46, 13, 10] = [] ∧ unsR [46, 97, 13, 10, 46, 13, 10] = [] ∧ unsE [46, 97, 13, 10, 46, 13, 10] = 4 := by decide +kernel
theorem x5 : unsT [97, 13, 10] = [] ∧ unsR [97, 13, 10] = [] ∧ unsE [97, 13, 10] = 8 := by decide +kernel

theorem worksB {w0 w : World} (h : BL w0 w) :
    Calls Try.prog 8 #[] w fun r w' => r = .returned (.bool true) ∧ BL w0 w' := by
  go_enter Try.func8, Try.ntmps8
  go_wp2_with fail
  refine (stuffB h [] (by decide) x1.1 x1.2).mono ?_
  rintro e w1 ⟨rfl, h1⟩
  go_wp2_with fail
  refine (stuffB h1 [46, 97, 13, 10, 98, 13, 10] (by decide) x2.1 x2.2).mono ?_
  rintro e w2 ⟨rfl, h2⟩
  go_wp2_with fail
  refine (unstuffB h2 [46, 46, 97, 13, 10, 98, 13, 10, 46, 13, 10, 120] (by decide) x3.1 x3.2.1 x3.2.2).mono ?_
  rintro e w3 ⟨rfl, h3⟩
  go_wp2_with fail
  refine (unstuffB h3 [46, 97, 13, 10, 46, 13, 10] (by decide) x4.1 x4.2.1 x4.2.2).mono ?_
  rintro e w4 ⟨rfl, h4⟩
  go_wp2_with fail
  refine (unstuffB h4 [97, 13, 10] (by decide) x5.1 x5.2.1 x5.2.2).mono ?_
  rintro e w5 ⟨rfl, h5⟩
  go_wp2
  go_ret
  exact ⟨rfl, h5⟩
end Go.Proofs.Ytjbjbbbhcncfnaa
