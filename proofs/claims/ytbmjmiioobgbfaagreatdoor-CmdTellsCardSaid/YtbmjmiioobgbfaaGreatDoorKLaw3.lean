/-
  The laws' helper awake.
-/
import Derived.Test.YtbmjmiioobgbfaaGreatDoorKMailM
import Derived.Test.YtbmjmiioobgbfaaGreatDoorKLaw1
namespace Go.Proofs.YtbmjmiioobgbfaaGreatDoor
open Go Go.RowKit Go.Shelf
set_option maxRecDepth 100000
set_option linter.unusedSimpArgs false
set_option linter.unusedVariables false

theorem itoa_100 : Lib.itoa 100 = [49, 48, 48] := by
  unfold Lib.itoa
  rw [if_neg (by decide)]
  simp [Lib.decDigits]
theorem itoa_0 : Lib.itoa 0 = [48] := by
  unfold Lib.itoa
  rw [if_neg (by decide)]
  simp [Lib.decDigits]

abbrev cpAll : Cp := ⟨true, true, true, true, true, true, 9999⟩
abbrev cpNone : Cp := ⟨false, false, false, false, false, false, 0⟩
abbrev tAB : List UInt8 := [97, 64, 98, 46, 99]
abbrev tMX : List UInt8 := [109, 120, 46, 101, 120, 97, 109, 112, 108, 101]
abbrev ps1 : List PM := [(wSZ, [49, 48, 48]), (wRT, []), (wEN, [120])]
theorem aw_parse : parseK [101, 104, 108, 111, 32, 109, 120, 46, 101, 120, 97, 109, 112, 108, 101] = (⟨1, tMX, []⟩, 0) := by decide +kernel
theorem aw_may1 : mayK ⟨3, tAB, ps1⟩ = true := by decide +kernel
theorem aw_mail1 : mailK cpAll tAB 100 true [120] = (⟨3, tAB, ps1⟩, 0) := by
  have e : mailC cpAll tAB 100 true [120] = ⟨3, tAB, ps1⟩ := by unfold mailC mailPs; rw [itoa_100]; rfl
  unfold mailK
  rw [e, aw_may1]
  rfl
theorem aw_mail2 : mailK cpNone tAB 100 true [120] = (⟨3, tAB, []⟩, 0) := by
  have e : mailC cpNone tAB 100 true [120] = ⟨3, tAB, []⟩ := by unfold mailC mailPs; rw [itoa_100]; rfl
  unfold mailK
  rw [e, show mayK ⟨3, tAB, []⟩ = true by decide +kernel]
  rfl
theorem aw_mail3 : mailK cpNone [] 0 false [] = (⟨3, [], []⟩, 0) := by
  have e : mailC cpNone [] 0 false [] = ⟨3, [], []⟩ := by unfold mailC mailPs; rw [itoa_0]; rfl
  unfold mailK
  rw [e, show mayK ⟨3, [], []⟩ = true by decide +kernel]
  rfl
theorem aw_rcpt : rcptK ⟨false, false, false, true, false, false, 0⟩ [100, 64, 101, 46, 102] true = (⟨4, [100, 64, 101, 46, 102], [(wNO, wNV)]⟩, 0) := by decide +kernel
theorem aw_show1 : showK ⟨3, tAB, ps1⟩ = ([77, 65, 73, 76, 32, 70, 82, 79, 77, 58, 60, 97, 64, 98, 46, 99, 62, 32, 83, 73, 90, 69, 61, 49, 48, 48, 32, 82, 69, 81, 85, 73, 82, 69, 84, 76, 83, 32, 69, 78, 86, 73, 68, 61, 120], 0) := by decide +kernel
theorem aw_show2 : showK ⟨3, tAB, []⟩ = ([77, 65, 73, 76, 32, 70, 82, 79, 77, 58, 60, 97, 64, 98, 46, 99, 62], 0) := by decide +kernel
theorem aw_show3 : showK ⟨3, [], []⟩ = ([77, 65, 73, 76, 32, 70, 82, 79, 77, 58, 60, 62], 0) := by decide +kernel
theorem aw_show4 : showK ⟨4, [100, 64, 101, 46, 102], [(wNO, wNV)]⟩ = ([82, 67, 80, 84, 32, 84, 79, 58, 60, 100, 64, 101, 46, 102, 62, 32, 78, 79, 84, 73, 70, 89, 61, 78, 69, 86, 69, 82], 0) := by decide +kernel
theorem aw_wrong1 : (parseK [77, 65, 73, 76, 32, 70, 82, 79, 77, 58, 32, 60, 97, 64, 98, 46, 99, 62]).2 = 4 := by decide +kernel
theorem aw_wrong2 : (parseK [68, 65, 84, 65, 32]).2 = 4 := by decide +kernel
theorem aw_wrong3 : (parseK [82, 67, 80, 84, 32, 84, 79, 58, 60, 62]).2 = 4 := by decide +kernel

/-- What a call that makes a command leaves, its row opened. -/
theorem ma_open {w w' : World} {r : Cm × Nat} {e : Ending} (h : MaPost w r e w') : ∃ A cap, e = .returned (.tuple #[.agg #[.int .u8 (r.1.verb : Int), sv r.1.arg, .slice A r.1.ps.length cap], .int .i64 (r.2 : Int)]) ∧ Below w.heap.size w w' ∧ PR w' (.slice A r.1.ps.length cap) r.1.ps := by
  obtain ⟨u, he, hb, hp⟩ := h
  obtain ⟨A, cap, rfl⟩ := hp.form
  exact ⟨A, cap, he, hb, hp.pr⟩
theorem pa_open {w w' : World} {s : List UInt8} {r : Cm × Nat} {e : Ending} (hr : parseK s = r) (h : PaPost w s e w') : ∃ A cap, e = .returned (.tuple #[.agg #[.int .u8 (r.1.verb : Int), sv r.1.arg, .slice A r.1.ps.length cap], .int .i64 (r.2 : Int)]) ∧ Below w.heap.size w w' ∧ PR w' (.slice A r.1.ps.length cap) r.1.ps := by
  subst hr
  obtain ⟨u, he, hb, hp⟩ := h
  obtain ⟨A, cap, rfl⟩ := hp.form
  exact ⟨A, cap, he, hb, hp.pr⟩

/-- A command that is made and at once shown. -/
theorem aw_shown {w : World} {A : Option Addr} {cap : Nat} {c : Cm} {t : List UInt8} (hL : LW w) (hp : PR w (.slice A c.ps.length cap) c.ps) (hs : SM c) (h : showK c = (t, 0)) :
    Calls Tryz.prog 51 #[.agg #[.int .u8 (c.verb : Int), sv c.arg, .slice A c.ps.length cap], .int .i64 0] w fun e w' => e = .returned (sv t) ∧ Below w.heap.size w w' := by
  have := lshown_any c _ 0 w hp hs hL
  rw [h] at this
  exact this
theorem sm_1 : SM ⟨3, tAB, ps1⟩ := ⟨by decide, by decide, by decide, by decide⟩
theorem sm_2 : SM ⟨3, tAB, []⟩ := ⟨by decide, by decide, by decide, by decide⟩
theorem sm_3 : SM ⟨3, [], []⟩ := ⟨by decide, by decide, by decide, by decide⟩
theorem sm_4 : SM ⟨4, [100, 64, 101, 46, 102], [(wNO, wNV)]⟩ := ⟨by decide, by decide, by decide, by decide⟩

set_option maxHeartbeats 8000000 in
theorem awake_any (w : World) (hL : LW w) : Calls Tryz.prog 15 #[] w fun e w' => e = .returned (.bool true) ∧ Below w.heap.size w w' := by
  have HL := Lib.hid hL
  clear hL
  go_enter Tryz.func15, Tryz.ntmps15
  go_wp2_with fail
  refine (parseK_any _ w HL.out).mono ?_
  rintro e w1 h1
  obtain ⟨A1, k1, rfl, hb1, hp1⟩ := pa_open aw_parse h1
  have HB1 := Lib.hid hb1
  dsimp only at hp1
  clear h1 hb1 hp1
  go_wp2_with fail
  refine (all_any _).mono ?_
  rintro e w2 ⟨rfl, hb2⟩
  have HB2 := Lib.hid (HB1.out.trans (((below_alloc w1 _).trans (hb2.mono (below_alloc w1 _).size)).mono HB1.out.size))
  have HZ2 := Lib.hid (blk_below (heap_alloc_new w1 _) hb2)
  clear hb2
  go_wp2_with fail
  refine (mailK_any cpAll tAB 100 true [120] w2 (by decide) (by decide) (by omega) (by omega) (HL.out.below HB2.out)).mono ?_
  rintro e w3 h3
  rw [aw_mail1] at h3
  obtain ⟨A3, k3, rfl, hb3, hp3⟩ := ma_open h3
  have HB3 := Lib.hid (HB2.out.trans (hb3.mono HB2.out.size))
  have HZ3 := Lib.hid (blk_below HZ2.out hb3)
  have HP3 := Lib.hid hp3
  clear h3 hb3 hp3 HZ2
  go_wp2_with fail
  refine (aw_shown (c := ⟨3, tAB, ps1⟩) (HL.out.below HB3.out) HP3.out sm_1 aw_show1).mono ?_
  rintro e w4 ⟨rfl, hb4⟩
  have HB4 := Lib.hid (HB3.out.trans (hb4.mono HB3.out.size))
  have HZ4 := Lib.hid (blk_below HZ3.out hb4)
  clear hb4 HZ3 HB2 HP3
  go_wp2_with fail
  refine (mailK_any cpNone tAB 100 true [120] w4 (by decide) (by decide) (by omega) (by omega) (HL.out.below HB4.out)).mono ?_
  rintro e w5 h5
  rw [aw_mail2] at h5
  obtain ⟨A5, k5, rfl, hb5, hp5⟩ := ma_open h5
  have HB5 := Lib.hid (HB4.out.trans (hb5.mono HB4.out.size))
  have HZ5 := Lib.hid (blk_below HZ4.out hb5)
  have HP5 := Lib.hid hp5
  clear h5 hb5 hp5 HZ4
  go_wp2_with fail
  refine (aw_shown (c := ⟨3, tAB, []⟩) (HL.out.below HB5.out) HP5.out sm_2 aw_show2).mono ?_
  rintro e w6 ⟨rfl, hb6⟩
  have HB6 := Lib.hid (HB5.out.trans (hb6.mono HB5.out.size))
  have HZ6 := Lib.hid (blk_below HZ5.out hb6)
  clear hb6 HZ5 HB4 HP5
  go_wp2_with fail
  refine (mailK_any cpNone [] 0 false [] w6 (by decide) (by decide) (by omega) (by omega) (HL.out.below HB6.out)).mono ?_
  rintro e w7 h7
  rw [aw_mail3] at h7
  obtain ⟨A7, k7, rfl, hb7, hp7⟩ := ma_open h7
  have HB7 := Lib.hid (HB6.out.trans (hb7.mono HB6.out.size))
  have HZ7 := Lib.hid (blk_below HZ6.out hb7)
  have HP7 := Lib.hid hp7
  clear h7 hb7 hp7 HZ6
  go_wp2_with fail
  refine (aw_shown (c := ⟨3, [], []⟩) (HL.out.below HB7.out) HP7.out sm_3 aw_show3).mono ?_
  rintro e w8 ⟨rfl, hb8⟩
  have HB8 := Lib.hid (HB7.out.trans (hb8.mono HB7.out.size))
  have HZ8 := Lib.hid (blk_below HZ7.out hb8)
  clear hb8 HZ7 HB6 HP7
  go_wp2_with fail
  refine (rcptK_any ⟨false, false, false, true, false, false, 0⟩ [100, 64, 101, 46, 102] true w8 (by decide) (HL.out.below HB8.out)).mono ?_
  rintro e w9 h9
  rw [aw_rcpt] at h9
  obtain ⟨A9, k9, rfl, hb9, hp9⟩ := ma_open h9
  have HB9 := Lib.hid (HB8.out.trans (hb9.mono HB8.out.size))
  have HZ9 := Lib.hid (blk_below HZ8.out hb9)
  have HP9 := Lib.hid hp9
  clear h9 hb9 hp9 HZ8
  go_wp2_with fail
  refine (aw_shown (c := ⟨4, [100, 64, 101, 46, 102], [(wNO, wNV)]⟩) (HL.out.below HB9.out) HP9.out sm_4 aw_show4).mono ?_
  rintro e w10 ⟨rfl, hb10⟩
  have HB10 := Lib.hid (HB9.out.trans (hb10.mono HB9.out.size))
  have HZ10 := Lib.hid (blk_below HZ9.out hb10)
  clear hb10 HZ9 HB8 HP9
  have z0 : w10.cell? ⟨w1.heap.size, 0, none⟩ = some (.int .u8 1) := by rw [cellAt HZ10.out]; rfl
  have z1 : w10.cell? ⟨w1.heap.size, 1, none⟩ = some (sv tMX) := by rw [cellAt HZ10.out]; rfl
  have z2 : w10.cell? ⟨w1.heap.size, 2, none⟩ = some (.slice A1 0 k1) := by rw [cellAt HZ10.out]; rfl
  go_wp2_with fail
  refine (wrong_any _ w10 (HL.out.below HB10.out)).mono ?_
  rintro e w11 ⟨rfl, hb11⟩
  rw [aw_wrong1]
  have HB11 := Lib.hid (HB10.out.trans (hb11.mono HB10.out.size))
  clear hb11 z0 z1 z2
  go_wp2_with fail
  refine (wrong_any _ w11 (HL.out.below HB11.out)).mono ?_
  rintro e w12 ⟨rfl, hb12⟩
  rw [aw_wrong2]
  have HB12 := Lib.hid (HB11.out.trans (hb12.mono HB11.out.size))
  clear hb12
  go_wp2_with fail
  refine (wrong_any _ w12 (HL.out.below HB12.out)).mono ?_
  rintro e w13 ⟨rfl, hb13⟩
  rw [aw_wrong3]
  have HB13 := Lib.hid (HB12.out.trans (hb13.mono HB12.out.size))
  clear hb13
  go_wp2
  go_ret
  exact ⟨rfl, HB13.out⟩
end Go.Proofs.YtbmjmiioobgbfaaGreatDoor
