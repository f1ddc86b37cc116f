/-
  slices.Sort and slices.Compact on a row of texts of the call's own.
-/
import Derived.Sort.OwnSorted
import Derived.Sort.Grow
import Derived.Lib.OwnBridge
import Derived.Lib.RowBridge
import Derived.Test.YtbmjmiioobgbfaaGreatDoorAPure3
import Derived.Test.YtbmjmiioobgbfaaGreatDoorNW
import Derived.Test.YtbmjmiioobgbfaaGreatDoorShelf2
namespace Go.Proofs.YtbmjmiioobgbfaaGreatDoor
open Go Go.RowKit Go.Sort
set_option maxRecDepth 100000

theorem enc_sv : (encStr : List UInt8 → Value) = sv := by funext l; rfl

theorem sort_gt {w0 w : World} {v : Value} {xs : List (List UInt8)} (h : GT w0 v xs w) (hl : xs.length ≤ 1000000) :
    Calls Tryz.prog 40 #[v] w fun e w' => e = .returned (.tuple #[]) ∧ GT w0 v (sortS xs) w' := by
  obtain ⟨hb, hn, hr⟩ := h
  rcases hr with ⟨rfl, h0⟩ | ⟨g, cap, cur, rfl, hbase, hg, h1, h2, h3, h4⟩
  · have hx : xs = [] := List.eq_nil_of_length_eq_zero (by simpa using h0)
    subst hx
    refine (Tryz.slices_Sort_string_none none 0 w).mono ?_
    rintro e w' ⟨rfl, rfl⟩
    rw [show sortS [] = [] from List.eq_nil_of_length_eq_zero (by rw [sort_len]; rfl)]
    exact ⟨rfl, hb, World.ownsRow_nil _ _ _ _⟩
  · rw [List.length_map] at h1 h4 ⊢
    rw [Nat.mul_one, ← enc_sv] at h4
    refine (Tryz.slices_Sort_string g 0 cap xs w (holds_of_block hg h4) (lt_of_blk hg) (by omega)).mono ?_
    rintro e w' ⟨rfl, n, os, rfl⟩
    have hs := ownsRow_sorted (n := n) (os := os) (ts := sortS xs) (ss := xs) (sort_len xs) hbase hg h1 h2 h3
    refine ⟨rfl, hb.grown (grownBy_sorted _) hb.size (fun j hj => by cases hj; exact hbase), ?_⟩
    rw [List.length_map, sort_len, ← enc_sv]
    exact hs

/-- What Compact leaves. -/
def CompPost (w0 : World) (xs : List (List UInt8)) (e : Ending) (w' : World) : Prop := ∃ u, e = .returned u ∧ GT w0 u xs w'

theorem compact_gt {w0 w : World} {v : Value} {xs : List (List UInt8)} (h : GT w0 v xs w) (hl : xs.length ≤ 1000000) :
    Calls Tryz.prog 41 #[v] w (CompPost w0 (Lib.compact xs)) := by
  obtain ⟨hb, hn, hr⟩ := h
  have hle := compact_len_le xs
  rcases hr with ⟨rfl, h0⟩ | ⟨g, cap, cur, rfl, hbase, hg, h1, h2, h3, h4⟩
  · have hx : xs = [] := List.eq_nil_of_length_eq_zero (by simpa using h0)
    subst hx
    refine (Tryz.slices_Compact_string_empty none 0 w).mono ?_
    rintro e w' ⟨rfl, rfl⟩
    exact ⟨_, rfl, hb, World.ownsRow_nil _ _ _ _⟩
  · have hown : w.ownsRow w0.heap.size 9 1 (.slice (some ⟨g, 0, none⟩) xs.length cap) xs.length (xs.map encStr) := by
      rw [enc_sv]
      refine ⟨by simp, .inr ⟨g, cap, cur, rfl, hbase, hg, by simpa using h1, h2, h3, by simpa using h4⟩⟩
    rw [List.length_map] at h1 h4 ⊢
    rw [Nat.mul_one, ← enc_sv] at h4
    refine (Tryz.slices_Compact_string g 0 cap xs w (holds_of_block hg h4) (by omega) h1).mono ?_
    rintro e w' ⟨rfl, q, rfl⟩
    refine ⟨_, rfl, Lib.below_putRow hb hbase, ?_⟩
    have hc := Lib.ownsRow_putRow (q := q) (k := (Lib.compact xs).length) (ys := Lib.compact xs ++ List.replicate (xs.length - (Lib.compact xs).length) []) hown (by simp; omega) hle
    rw [List.take_left] at hc
    rw [List.length_map, ← enc_sv]
    exact hc
end Go.Proofs.YtbmjmiioobgbfaaGreatDoor
