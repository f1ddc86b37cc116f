/-
  The walk of CodeLong.
-/
import Derived.Test.YtdniojbplakeoaaDoorLongc
import Derived.Test.YtdniojbplakeoaaDoorTop
namespace Go.Proofs.YtdniojbplakeoaaDoor
open Go Go.RowKit
set_option maxRecDepth 100000

/-- A literal of two texts. -/
theorem two_cells (w : World) (s t : List UInt8) : ∀ k, ∀ h : k < [s, t].length, (w.alloc (.cells #[sv s, sv t] 9)).cell? ⟨w.heap.size, k, none⟩ = some (sv [s, t][k]) := by
  intro k h
  rw [cellAt (heap_alloc_new w _)]
  match k, h with
  | 0, _ => rfl
  | 1, _ => rfl

theorem long_two (s t : List UInt8) (w : World) (hs : s.length ≤ 140737488351232) (ht : t.length ≤ 140737488351232) :
    Calls Tryd.prog 19 #[.slice (some ⟨w.heap.size, 0, none⟩) 2 2] (w.alloc (.cells #[.string (str s), .string (str t)] 9)) fun e w' => e = .returned (.bool (decide (9000 ≤ minSum [s, t]))) ∧ w.alloc (.cells #[.string (str s), .string (str t)] 9) = w' :=
  long_any [s, t] w.heap.size 2 _ (by simp) (by simp) (two_cells w s t) (by
    intro x hx
    rcases List.mem_cons.1 hx with rfl | hx
    · exact hs
    · rw [List.mem_singleton.1 hx]; exact ht)

theorem codeLong_long (s t : List UInt8) (w : World) (hs : s.length ≤ 140737488351232) (ht : t.length ≤ 140737488351232) (hl : 9000 ≤ minSum [s, t]) (hw : LW w) :
    Calls Tryd.prog 8 #[.string (str s), .string (str t)] w fun e w' => e = .returned (.bool true) ∧ Below w.heap.size w w' := by
  have HL := Lib.hid hw
  have HLL := Lib.hid (fun W : World => long_two s t W hs ht)
  rw [decide_eq_true hl] at HLL
  clear hw hl
  go_enter Tryd.func8, Tryd.ntmps8
  go_wp2_with fail
  refine (works_any w HL.out).mono ?_
  rintro e w1 ⟨rfl, hb⟩
  have HB := Lib.hid hb
  have HL1 := Lib.hid ((HL.out.below hb).below (below_alloc _ (.cells #[.string (str s), .string (str t)] 9)))
  clear hb
  go_wp2_with fail
  refine (HLL.out w1).mono ?_
  rintro e w2 ⟨rfl, hw2⟩
  rw [← hw2]
  have HB2 := Lib.hid (HB.out.alloc HB.out.size (.cells #[.string (str s), .string (str t)] 9))
  clear hw2
  go_wp2_with fail
  refine (works_any _ HL1.out).mono ?_
  rintro e w3 ⟨rfl, hb⟩
  have HB3 := Lib.hid (HB2.out.trans (hb.mono HB2.out.size))
  clear hb
  go_wp2
  go_ret
  exact ⟨rfl, HB3.out⟩

theorem sumP_length (s : List UInt8) : (sumP s).length = 32 := by
  have h : ∀ l : List W32, (l.flatMap wordB).length = 4 * l.length := by
    intro l
    induction l with
    | nil => rfl
    | cons x l ih => rw [List.flatMap_cons, List.length_append, ih, wordB_length, List.length_cons]; omega
  unfold sumP
  rw [h]; rfl

set_option maxHeartbeats 1000000 in
theorem codeLong_short (s t : List UInt8) (w : World) (hl : minSum [s, t] < 9000) (hw : LW w) :
    Calls Tryd.prog 8 #[.string (str s), .string (str t)] w fun e w' => e = .returned (.bool true) ∧ Below w.heap.size w w' := by
  have hsum : min s.length 9000 + (min t.length 9000 + 0) < 9000 := hl
  have hs : s.length < 9000 := by omega
  have ht : t.length < 9000 := by omega
  have HL := Lib.hid hw
  have HLL := Lib.hid (fun W : World => long_two s t W (by omega) (by omega))
  rw [decide_eq_false (by omega)] at HLL
  have H1 := Lib.hid (fun W : World => hex_any s W (by omega))
  have H2 := Lib.hid (fun W : World => base_any s W (by omega))
  have H3 := Lib.hid (fun W : World => hex_of (hexL_append s t) (by rw [List.length_append]; omega) W)
  have H4 := Lib.hid (fun W : World => hex_any t W (by omega))
  have H5 := Lib.hid (fun (W : World) (h : LW W) => sum_any s W (by omega) h)
  obtain ⟨u, hu⟩ : ∃ u, u = s.take (s.length - s.length % 3) := ⟨_, rfl⟩
  have hul : u.length % 3 = 0 := by rw [hu, List.length_take]; omega
  have hul2 : u.length < 9000 := by rw [hu, List.length_take]; omega
  have H6 := Lib.hid (fun W : World => base_of (b64_append u t hul) (by rw [List.length_append]; omega) W)
  have H7 := Lib.hid (fun W : World => base_any u W (by omega))
  have H8 := Lib.hid (fun W : World => base_any t W (by omega))
  have e1 := str_take s (s.length - s.length % 3)
  rw [← hu] at e1
  have E1 := Lib.hid e1
  have l1 : ((hexL s).length : Int) = 2 * (s.length : Int) := by have := hex_length s; omega
  have l2 : ((b64L s).length : Int) = ((s.length : Int) + 2) / 3 * 4 := by have := b64_length s; omega
  have l3 : ((sumP s).length : Int) = 32 := by have := sumP_length s; omega
  have b1 : (hexL s).length ≤ 20000 := by have := hex_length s; omega
  have b2 : (hexL t).length ≤ 20000 := by have := hex_length t; omega
  have b3 : (b64L u).length ≤ 20000 := by have := b64_length u; omega
  have b4 : (b64L t).length ≤ 20000 := by have := b64_length t; omega
  clear hw hl hsum hu hul e1
  generalize hexL s = x1 at *
  generalize hexL t = x2 at *
  generalize b64L s = x3 at *
  generalize sumP s = x4 at *
  generalize b64L u = x5 at *
  generalize b64L t = x6 at *
  have eA := str_append x1 x2
  have eB := str_append x5 x6
  have eC := str_append u t
  have eD := str_append s t
  go_enter Tryd.func8, Tryd.ntmps8
  go_wp2_with fail
  refine (works_any w HL.out).mono ?_
  rintro e w1 ⟨rfl, hb⟩
  have HB := Lib.hid hb
  have HL1 := Lib.hid ((HL.out.below hb).below (below_alloc _ (.cells #[.string (str s), .string (str t)] 9)))
  clear hb
  go_wp2_with fail
  refine (HLL.out w1).mono ?_
  rintro e w2 ⟨rfl, hw2⟩
  have HL2 := Lib.hid (show LW w2 by rw [← hw2]; exact HL1.out)
  have HB2 := Lib.hid (show Below w.heap.size w w2 by rw [← hw2]; exact HB.out.alloc HB.out.size (.cells #[.string (str s), .string (str t)] 9))
  clear hw2
  go_wp2_with fail
  refine (H1.out w2).mono ?_
  rintro e w3 ⟨rfl, hb⟩
  have HB3 := Lib.hid (HB2.out.trans (hb.mono HB2.out.size))
  have HL3 := Lib.hid (HL2.out.below hb)
  clear hb
  go_wp2_with fail
  refine (H2.out w3).mono ?_
  rintro e w4 ⟨rfl, hb⟩
  have HB4 := Lib.hid (HB3.out.trans (hb.mono HB3.out.size))
  have HL4 := Lib.hid (HL3.out.below hb)
  clear hb
  go_wp2_with fail
  try rw [str_append]
  refine (H3.out w4).mono ?_
  rintro e w5 ⟨rfl, hb⟩
  have HB5 := Lib.hid (HB4.out.trans (hb.mono HB4.out.size))
  have HL5 := Lib.hid (HL4.out.below hb)
  clear hb
  go_wp2_with fail
  refine (H1.out w5).mono ?_
  rintro e w6 ⟨rfl, hb⟩
  have HB6 := Lib.hid (HB5.out.trans (hb.mono HB5.out.size))
  have HL6 := Lib.hid (HL5.out.below hb)
  clear hb
  go_wp2_with fail
  refine (H4.out w6).mono ?_
  rintro e w7 ⟨rfl, hb⟩
  have HB7 := Lib.hid (HB6.out.trans (hb.mono HB6.out.size))
  have HL7 := Lib.hid (HL6.out.below hb)
  clear hb
  go_wp2_with fail
  refine (H5.out w7 HL7.out).mono ?_
  rintro e w8 ⟨rfl, hb⟩
  have HB8 := Lib.hid (HB7.out.trans (hb.mono HB7.out.size))
  clear hb
  have e1 := E1.out
  go_wp2_with fail
  refine (H6.out w8).mono ?_
  rintro e w9 ⟨rfl, hb⟩
  have HB9 := Lib.hid (HB8.out.trans (hb.mono HB8.out.size))
  clear hb
  go_wp2_with fail
  refine (H7.out w9).mono ?_
  rintro e w10 ⟨rfl, hb⟩
  have HB10 := Lib.hid (HB9.out.trans (hb.mono HB9.out.size))
  clear hb
  go_wp2_with fail
  refine (H8.out w10).mono ?_
  rintro e w11 ⟨rfl, hb⟩
  have HB11 := Lib.hid (HB10.out.trans (hb.mono HB10.out.size))
  clear hb
  go_wp2
  go_ret
  exact ⟨rfl, HB11.out⟩
end Go.Proofs.YtdniojbplakeoaaDoor
