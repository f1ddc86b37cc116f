/-
  Contracts of package cmd's shown and the closure by which it puts a line together; of Show.
-/
import Derived.Deep.RegionHeld3
import Derived.Test.YtbmjmiioobgbfaaGreatDoorBuild
import Derived.Test.YtbmjmiioobgbfaaGreatDoorKRead1
namespace Go.Proofs.YtbmjmiioobgbfaaGreatDoor
open Go Go.RowKit Go.Shelf
set_option maxRecDepth 100000
set_option linter.unusedSimpArgs false
set_option linter.unusedVariables false

/-- The builder in block b holds these bytes. -/
abbrev BU (B b : Nat) (l : List UInt8) (w : World) : Prop := Lib.IsBuilderF 116 5 B b (Lib.byteCells l) w
theorem at_below {B b : Nat} {p : Value} {bs : List Value} {w w' : World} (h : Lib.BuilderAtF 116 5 B b p bs w) (hb : Below w.heap.size w w') : Lib.BuilderAtF 116 5 B b p bs w' := by
  obtain ⟨hB, v, hbk, hown, hne⟩ := h
  refine ⟨hB, v, blk_below hbk hb, ⟨hown.1, ?_⟩, hne⟩
  rcases hown.2 with hn | ⟨g, cap, cur, fz, hv, hbg, hg, rest⟩
  · exact .inl hn
  · exact .inr ⟨g, cap, cur, fz, hv, hbg, blk_below hg hb, rest⟩
theorem BU.below {B b : Nat} {l : List UInt8} {w w' : World} (h : BU B b l w) (hb : Below w.heap.size w w') : BU B b l w' :=
  h.elim (fun x => .inl (at_below x hb)) (fun x => .inr (at_below x hb))
theorem bytes_app (a b : List UInt8) : Lib.byteCells a ++ Lib.byteCells b = Lib.byteCells (a ++ b) := (Lib.byteCells_append a b).symm
theorem write_any (B b : Nat) (l s : List UInt8) (w : World) (h : BU B b l w) (hlen : l.length + s.length ≤ 1000000) (hBw : B ≤ w.heap.size) :
    Calls Tryz.prog 91 #[.pointer (some ⟨b, 0, none⟩), sv s] w fun e w' => e = .returned (.tuple #[.int .i64 s.length, .nilIface]) ∧ BU B b (l ++ s) w' ∧ Below B w w' ∧ Lib.OthersKept 5 (some b) w w' := by
  refine (write_str B b _ s w h (by rw [Lib.byteCells_length]; exact hlen) hBw).mono ?_
  rintro e w' ⟨rfl, h1, h2, h3⟩
  rw [bytes_app] at h1
  exact ⟨rfl, h1, h2, h3⟩

/-- What is added of texts. -/
def addT (is : Bool) (xs : List (List UInt8)) : List UInt8 := if is then xs.flatten else []
theorem flat_take {xs : List (List UInt8)} {k : Nat} (hk : k < xs.length) : (xs.take (k + 1)).flatten = (xs.take k).flatten ++ xs.getD k [] := by
  rw [List.take_succ_eq_append_getElem hk, List.flatten_append, List.getD_eq_getElem?_getD, List.getElem?_eq_getElem hk]
  simp
theorem flat_le (xs : List (List UInt8)) (k : Nat) : (xs.take k).flatten.length ≤ xs.flatten.length := by
  conv => rhs; rw [← List.take_append_drop k xs, List.flatten_append, List.length_append]
  omega
theorem flat_mem {xs : List (List UInt8)} {k : Nat} (hk : k < xs.length) : (xs.take k).flatten.length + (xs.getD k []).length ≤ xs.flatten.length := by
  have := flat_le xs (k + 1)
  rw [flat_take hk, List.length_append] at this
  exact this

set_option maxHeartbeats 2000000 in
theorem addB_any {B b g c : Nat} {l : List UInt8} (is : Bool) (xs : List (List UInt8)) (n : Nat) (W : World) (hn : n = xs.length) (h : BU B b l W) (hBW : B ≤ W.heap.size) (hg : W.heap[g]? = some (.cells (xs.map sv).toArray 9 (0, 0))) (hgb : g ≠ b) (hl : l.length + xs.flatten.length ≤ 1000000) (hxl : xs.length ≤ 1000) :
    Calls Tryz.prog 90 #[.bool is, .slice (some ⟨g, 0, none⟩) n c, .pointer (some ⟨b, 0, none⟩)] W fun e W' => e = .returned (.tuple #[]) ∧ BU B b (l ++ addT is xs) W' ∧ Below B W W' ∧ Lib.OthersKept 5 (some b) W W' := by
  subst hn
  have H0 := Lib.hid h
  have HG := Lib.hid hg
  clear h hg
  cases is with
  | false =>
    go_enter Tryz.func90, Tryz.ntmps90
    go_wp2_with fail
    go_loopw [6, 9] (fun _ i wr => wr = W ∧ ∃ k : Nat, k ≤ xs.length ∧ i = .int .i64 k) (fun _ i _ => xs.length - (intOf i).toNat)
    case atStart => exact ⟨rfl, 0, Nat.zero_le _, rfl⟩
    case round =>
      obtain ⟨rfl, k, hk, rfl⟩ := hrel
      by_cases hlt : k < xs.length
      · have hc := lit_cell HG.out hlt
        obtain ⟨x, hx⟩ : ∃ x, x = xs.getD k [] := ⟨_, rfl⟩
        rw [← hx] at hc
        clear hx
        go_wp2
        go_roundw
        case rel => exact ⟨trivial, k + 1, by omega, by go_num⟩
        case measure => simp [intOf]; omega
      · obtain rfl : k = xs.length := by omega
        go_wp2
        go_end0
        exact ⟨rfl, by unfold addT; simpa using H0.out, Below.refl _ _, Lib.OthersKept.refl _ _ _⟩
  | true =>
    go_enter Tryz.func90, Tryz.ntmps90
    go_wp2_with fail
    go_loopw [6, 9] (fun _ i wr => ∃ k : Nat, k ≤ xs.length ∧ i = .int .i64 k ∧ BU B b (l ++ (xs.take k).flatten) wr ∧ Below B W wr ∧ Lib.OthersKept 5 (some b) W wr) (fun _ i _ => xs.length - (intOf i).toNat)
    case atStart => exact ⟨0, Nat.zero_le _, rfl, by simpa using H0.out, Below.refl _ _, Lib.OthersKept.refl _ _ _⟩
    case round =>
      obtain ⟨k, hk, rfl, h1, h2, h3⟩ := hrel
      by_cases hlt : k < xs.length
      · have hgr : wr.heap[g]? = some (.cells (xs.map sv).toArray 9 (0, 0)) := h3 g _ HG.out (fun e => hgb (Option.some.inj e)) (fun cs fz e => by cases e)
        have hc := lit_cell hgr hlt
        obtain ⟨x, hx⟩ : ∃ x, x = xs.getD k [] := ⟨_, rfl⟩
        have hfl := flat_mem hlt
        have hft := flat_take hlt
        rw [← hx] at hc hfl hft
        have HW := Lib.hid (write_any B b _ x wr h1 (by rw [List.length_append]; omega) (Nat.le_trans hBW h2.size))
        have H2 := Lib.hid h2
        have H3 := Lib.hid h3
        have HFT := Lib.hid hft
        clear h1 h2 h3 hx hfl hft hgr
        go_wp2_with fail
        refine (HW.out).mono ?_
        rintro e w1 ⟨rfl, k1, k2, k3⟩
        have K1 := Lib.hid (show BU B b (l ++ (xs.take (k + 1)).flatten) w1 by rw [HFT.out, ← List.append_assoc]; exact k1)
        have K2 := Lib.hid (H2.out.trans k2)
        have K3 := Lib.hid (H3.out.trans k3)
        clear k1 k2 k3
        go_wp2
        go_roundw
        case rel => exact ⟨k + 1, by omega, by go_num, K1.out, K2.out, K3.out⟩
        case measure => simp [intOf]; omega
      · obtain rfl : k = xs.length := by omega
        rw [List.take_length] at h1
        have K1 := Lib.hid h1
        have K2 := Lib.hid h2
        have K3 := Lib.hid h3
        clear h1 h2 h3
        go_wp2
        go_end0
        exact ⟨rfl, by unfold addT; simpa using K1.out, K2.out, K3.out⟩

/-- What shown holds: the command in block n0, the builder behind it. -/
structure SH (w : World) (cs : Array Value) (l : List UInt8) (W : World) : Prop where
  bk : BK w W
  cc : W.heap[w.heap.size]? = some (.cells cs 41 (0, 0))
  bu : BU (w.heap.size + 1) (w.heap.size + 1) l W
  sz : w.heap.size + 1 < W.heap.size
theorem SH.step {w W W' : World} {cs : Array Value} {l : List UInt8} (h : SH w cs l W) (hb : Below W.heap.size W W') : SH w cs l W' := ⟨h.bk.step hb, blk_below h.cc hb, h.bu.below hb, Nat.lt_of_lt_of_le h.sz hb.size⟩
theorem SH.drew {w W : World} {cs : Array Value} {l : List UInt8} (h : SH w cs l W) : SH w cs l W.drew := h.step (Below.refl _ _).drew
theorem SH.alloc {w W : World} {cs : Array Value} {l : List UInt8} (h : SH w cs l W) (o : Obj) : SH w cs l (W.alloc o) := h.step (below_alloc _ _)
/-- A step of add. -/
theorem SH.add {w W : World} {cs : Array Value} {l : List UInt8} {g c n : Nat} {C : Array Value} (hL : LW w) (h : SH w cs l W) (is : Bool) (xs : List (List UInt8)) (hC : C = (xs.map sv).toArray) (hn : n = xs.length) (hg : W.heap[g]? = some (.cells C 9 (0, 0))) (hl : l.length + xs.flatten.length ≤ 1000000) (hxl : xs.length ≤ 1000) :
    Calls Tryz.prog 90 #[.bool is, .slice (some ⟨g, 0, none⟩) n c, .pointer (some ⟨w.heap.size + 1, 0, none⟩)] W fun e W' => e = .returned (.tuple #[]) ∧ SH w cs (l ++ addT is xs) W' ∧ Lib.OthersKept 5 (some (w.heap.size + 1)) W W' := by
  subst hC
  have hgb : g ≠ w.heap.size + 1 := by
    rintro rfl
    rcases h.bu with x | x <;>
    · obtain ⟨_, v, hb, _⟩ := x
      rw [hg] at hb
      simp at hb
  refine (addB_any (B := w.heap.size + 1) (b := w.heap.size + 1) is xs n W hn h.bu (by have := h.sz; omega) hg hgb hl hxl).mono ?_
  rintro e W' ⟨rfl, k1, k2, k3⟩
  have hb : Below w.heap.size w W' := h.bk.below.trans (k2.mono (by omega))
  exact ⟨rfl, ⟨⟨hb, hL.below hb⟩, (k2.block _ (by omega)).trans h.cc, k1, Nat.lt_of_lt_of_le h.sz k2.size⟩, k3⟩
theorem sh_start {w : World} (hL : LW w) (cs : Array Value) : SH w cs [] ((w.alloc (.cells cs 41)).alloc (.cells #[.pointer none, .slice none 0 0] 116)) := by
  have h2 := heap_alloc_new (w.alloc (.cells cs 41)) (.cells #[.pointer none, .slice none 0 0] 116)
  rw [World.size_alloc] at h2
  refine ⟨((BK.start hL).alloc _).alloc _, (Lib.alloc_old _ _ _ (by simp)).trans (heap_alloc_new w _), .inl ?_, by simp⟩
  exact Lib.BuilderAtF.of ⟨Nat.le_refl _, .slice none 0 0, h2, World.ownsRow_nil _ _ _ _, by simp [Value.ownBlock]⟩
theorem SH.c3 {w W : World} {a b c : Value} {l : List UInt8} (h : SH w #[a, b, c] l W) : W.cell? ⟨w.heap.size, 0, none⟩ = some a ∧ W.cell? ⟨w.heap.size, 1, none⟩ = some b ∧ W.cell? ⟨w.heap.size, 2, none⟩ = some c :=
  ⟨by rw [cellAt h.cc]; rfl, by rw [cellAt h.cc]; rfl, by rw [cellAt h.cc]; rfl⟩
end Go.Proofs.YtbmjmiioobgbfaaGreatDoor
