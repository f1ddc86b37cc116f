/-
  undot's contract: a text without the dot that it begins by, and whether it does.
-/
import Derived.WalkMore
import Derived.ScopeJumps
import Derived.Test.YtjbjbbbhcncfnaaSIter
namespace Go.Proofs.Ytjbjbbbhcncfnaa
open Go Go.RowKit Go.Shelf
set_option maxRecDepth 100000

theorem jump_ret {l : Nat} {J : Act → World → Prop} {Q : Exit → Act → World → Prop} {a : Act} {w : World} : Exit.jump l J Q .ret a w = Q .ret a w := rfl

/-- At a jump to the label at the end. -/
def AtPlain (l : List UInt8) (w : World) (a : Act) (w' : World) : Prop := w = w' ∧ dotB l = false ∧ ∃ u4 u5 u6 u7 u8 u9 u10 u11 u12 u13 : Value, a = { tmps := #[.string (str l), undef, .string ⟨#[]⟩, .bool false, u4, u5, u6, u7, u8, u9, u10, u11, u12, u13], defers := [] }

theorem undot_any (l : List UInt8) (w : World) (hl : l.length ≤ 4000000) :
    Calls Try.prog 18 #[.string (str l)] w fun e w' => e = .returned (.tuple #[.string (str (undL l)), .bool (dotB l)]) ∧ w = w' := by
  go_enter Try.func18, Try.ntmps18
  go_wp2_with fail
  refine wp_scope_jumps 0 (AtPlain l w) (fun _ _ => 0) rfl ?_ ?_
  rotate_left
  · rintro a w' ⟨rfl, hn, u4, u5, u6, u7, u8, u9, u10, u11, u12, u13, rfl⟩
    have HN := Lib.hid hn
    have hu : undL l = l := by unfold undL; rw [hn]; rfl
    have HU := Lib.hid hu
    clear hn hu
    go_wp2
    rw [jump_ret]
    go_ret2
    rw [HN.out, HU.out]
    exact ⟨rfl, rfl⟩
  · cases l with
    | nil =>
      go_wp2
      go_step3
      refine And.intro rfl ?_
      exact ⟨rfl, rfl, by (repeat apply Exists.intro); rfl⟩
    | cons x t =>
      have e1 : (str (x :: t)).extract 0 1 = str [x] := by rw [str_extract]; rfl
      have e2 : (str (x :: t)).extract 1 (t.length + 1) = str t := by rw [str_extract, List.take_of_length_le (by simp)]; rfl
      by_cases hx : x = 46
      · subst hx
        have hu : undL (46 :: t) = t := rfl
        have hd : dotB (46 :: t) = true := rfl
        have HU := Lib.hid hu
        have HD := Lib.hid hd
        clear hu hd
        go_wp2
        rw [jump_ret]
        go_ret2
        rw [HD.out, HU.out]
        exact ⟨rfl, rfl⟩
      · have hd : dotB (x :: t) = false := by unfold dotB; simpa using hx
        have hb : (x == 46) = false := by simpa using hx
        have HD := Lib.hid hd
        clear hd hx
        go_wp2
        go_step3
        refine And.intro rfl ?_
        exact ⟨rfl, HD.out, by (repeat apply Exists.intro); rfl⟩
end Go.Proofs.Ytjbjbbbhcncfnaa
