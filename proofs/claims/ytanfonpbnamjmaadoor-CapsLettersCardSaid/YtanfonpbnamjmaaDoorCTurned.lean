/-
  The contract of the laws' own function 'turned': the same letters, but for great and small ones.
-/
import Derived.Test.YtanfonpbnamjmaaDoorCLong
namespace Go.Proofs.YtanfonpbnamjmaaDoor
open Go Go.RowKit Go.Shelf
set_option maxRecDepth 100000

theorem great_set {l : List UInt8} {j : Nat} {x : UInt8} (hj : j < l.length) (h : upB x = upB (l.getD j 0)) : greatL (l.set j x) = greatL l := by
  unfold greatL
  apply List.ext_getElem (by simp)
  intro i h1 h2
  rw [List.getElem_map, List.getElem_map, List.getElem_set]
  split
  · rename_i hi
    subst hi
    rw [h, getD_str l j hj]
  · rfl
theorem say_great {xs ys : List (List UInt8)} (h : xs.map greatL = ys.map greatL) : sayC xs = sayC ys := by
  have e : ∀ (zs : List (List UInt8)) (c : Cp), zs.foldl lineC c = (zs.map greatL).foldl (fun c t => setC c (partsR t).1 (partsR t).2) c := by
    intro zs c
    rw [List.foldl_map]
    rfl
  unfold sayC
  rw [e, e, h]

/-- A text of the same letters. -/
def Alike (s t : List UInt8) : Prop := t.length = s.length ∧ greatL t = greatL s
def TurnPost (w : World) (s : List UInt8) (e : Ending) (w' : World) : Prop := ∃ t, e = .returned (sv t) ∧ Alike s t ∧ Below w.heap.size w w'

set_option maxHeartbeats 4000000 in
theorem turned_any (s : List UInt8) (q : Int) (w : World) (hs : s.length ≤ 1000000) (h0 : 0 ≤ q) (h1 : q < 18446744073709551616) : Calls Tryd.prog 35 #[sv s, .int .u64 q] w (TurnPost w s) := by
  obtain ⟨g, cap, W, hrun, hrb⟩ := rb_bytes w w (Below.refl _ _) s hs
  have H0 := Lib.hid hrb
  clear hrb
  go_enter Tryd.func35, Tryd.ntmps35
  go_wp2_with fail
  clear hrun
  go_loopw [6] (fun i wr => ∃ (j : Nat) (l : List UInt8), j ≤ s.length ∧ i = .int .i64 j ∧ l.length = s.length ∧ greatL l = greatL s ∧ RB w g cap l wr) (fun i _ => s.length - (intOf i).toNat)
  case atStart => exact ⟨0, s, Nat.zero_le _, rfl, rfl, rfl, H0.out⟩
  case round =>
    obtain ⟨j, l, hj, rfl, hl, hg, hb⟩ := hrel
    by_cases hlt : j < s.length
    · have hc := hb.cell j (by omega)
      obtain ⟨c, hcd⟩ : ∃ c, c = (l.getD j 0).toNat := ⟨_, rfl⟩
      have hc1 : wr.cell? ⟨g, j, none⟩ = some (.int .u8 (c : Int)) := by rw [hc, hcd]; rfl
      have hf := hb.free j (by have := hb.ok; omega)
      have HLG := Lib.hid hg
      have HL := Lib.hid hl
      have HB := Lib.hid hb
      have HCD := Lib.hid hcd
      have h256 : c < 256 := by rw [hcd]; exact (l.getD j 0).toNat_lt
      have HSW := Lib.hid (fun (x : UInt8) (z : Int) (hz : z = (x.toNat : Int)) (hx : upB x = upB (l.getD j 0)) => (show ∃ l', l'.length = s.length ∧ greatL l' = greatL s ∧ RB w g cap l' (wr.setCell ⟨g, j, none⟩ (.int .u8 z)) from
        ⟨l.set j x, by rw [List.length_set]; exact hl, by rw [great_set (by omega) hx]; exact hg, hb.set (by omega) x hz⟩))
      clear hb hc hg hl hcd
      rcases (show (97 ≤ c ∧ c ≤ 122) ∨ (65 ≤ c ∧ c ≤ 90) ∨ (c < 65) ∨ (90 < c ∧ c < 97) ∨ 122 < c by omega) with ⟨u1, u2⟩ | ⟨u1, u2⟩ | u1 | ⟨u1, u2⟩ | u1
      · have HZ := Lib.hid (show (c : Int) - 32 = ((swapB (l.getD j 0)).toNat : Int) by
          unfold swapB
          rw [← HCD.out, if_pos ⟨u1, u2⟩, UInt8.toNat_ofNat_of_lt' (by show c - 32 < 256; omega)]
          omega)
        go_wp2_with fail
        all_goals
          refine ⟨?_, by simp [intOf]; omega⟩
          first
            | exact ⟨j + 1, l, by omega, by go_num, HL.out, HLG.out, HB.out⟩
            | (obtain ⟨l', y1, y2, y3⟩ := HSW.out (swapB (l.getD j 0)) _ HZ.out (upB_swap _); exact ⟨j + 1, l', by omega, by go_num, y1, y2, y3⟩)
      · have HZ := Lib.hid (show (c : Int) + 32 = ((swapB (l.getD j 0)).toNat : Int) by
          unfold swapB
          rw [← HCD.out, if_neg (by omega), if_pos ⟨u1, u2⟩, UInt8.toNat_ofNat_of_lt' (by show c + 32 < 256; omega)]
          omega)
        go_wp2_with fail
        all_goals
          refine ⟨?_, by simp [intOf]; omega⟩
          first
            | exact ⟨j + 1, l, by omega, by go_num, HL.out, HLG.out, HB.out⟩
            | (obtain ⟨l', y1, y2, y3⟩ := HSW.out (swapB (l.getD j 0)) _ HZ.out (upB_swap _); exact ⟨j + 1, l', by omega, by go_num, y1, y2, y3⟩)
      · go_wp2_with fail
        all_goals exact ⟨⟨j + 1, l, by omega, by go_num, HL.out, HLG.out, HB.out⟩, by simp [intOf]; omega⟩
      · go_wp2_with fail
        all_goals exact ⟨⟨j + 1, l, by omega, by go_num, HL.out, HLG.out, HB.out⟩, by simp [intOf]; omega⟩
      · go_wp2_with fail
        all_goals exact ⟨⟨j + 1, l, by omega, by go_num, HL.out, HLG.out, HB.out⟩, by simp [intOf]; omega⟩
    · obtain rfl : j = s.length := by omega
      rw [← hl] at hlt
      have ht := hb.text (n := s.length) hl.symm
      have HL := Lib.hid hb.below
      have HA := Lib.hid (show Alike s l from ⟨hl, hg⟩)
      clear hb hl hg hlt
      go_wp2_with fail
      go_ret
      exact ⟨l, rfl, HA.out, HL.out⟩
end Go.Proofs.YtanfonpbnamjmaaDoor
