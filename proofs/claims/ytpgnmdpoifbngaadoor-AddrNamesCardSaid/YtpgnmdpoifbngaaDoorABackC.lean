/-
  The walk of AddrBack.
-/
import Derived.Test.YtpgnmdpoifbngaaDoorASameC
namespace Go.Proofs.YtpgnmdpoifbngaaDoor
open Go Go.RowKit
set_option maxRecDepth 100000

theorem bl_show {w0 w : World} {x y r : List UInt8} (e : showL x y = r) (hx : x.length ≤ 100000) (hy : y.length ≤ 100000) (h : BL w0 w) : Calls Tryd.prog 14 #[.string (str x), .string (str y)] w fun e w' => e = .returned (.string (str r)) ∧ BL w0 w' := by
  have := bl (show_any x y w hx hy h.ml) h
  rwa [e] at this
theorem show_cases (s t : List UInt8) : showL s t = [] ∨ (∃ x, showL s t = x ∧ x = s ++ 64 :: t ∧ parseL x = some (s, t) ∧ x.isEmpty = false) := by
  by_cases h : showL s t = []
  · exact .inl h
  · obtain ⟨h1, h2⟩ := show_ne h
    refine .inr ⟨s ++ 64 :: t, h2, rfl, h1, ?_⟩
    cases s <;> rfl

theorem addrBack_long (s t : List UInt8) (w : World) (hs : s.length ≤ 140737488351232) (ht : t.length ≤ 140737488351232) (h : longL [s, t] = true) (hM : ML w) :
    Calls Tryd.prog 5 #[.string (str s), .string (str t)] w fun e w' => e = .returned (.bool true) ∧ Below w.heap.size w w' := by
  have B0 := BL.start hM
  have HA := Lib.hid (show ∀ x ∈ [s, t], x.length ≤ 140737488351232 by simp; exact ⟨hs, ht⟩)
  have HL := Lib.hid h
  clear hM h
  go_enter Tryd.func5, Tryd.ntmps5
  go_wp2_with fail
  refine (works_bl _ B0).mono ?_
  rintro e w1 ⟨rfl, B1⟩
  go_wp2_with fail
  refine (bl_long [s, t] _ rfl _ _ rfl HL.out (by simp) HA.out B1).mono ?_
  rintro e w2 ⟨rfl, B2⟩
  go_wp2_with fail
  refine (works_bl _ B2).mono ?_
  rintro e w3 ⟨rfl, B3⟩
  have HB := Lib.hid B3.below
  go_wp2
  go_ret
  exact ⟨rfl, HB.out⟩

set_option maxHeartbeats 4000000 in
theorem addrBack_e0n (s t : List UInt8) (w : World) (hs : s.length ≤ 9000) (ht : t.length ≤ 9000) (h : longL [s, t] = false) (h0 : s = []) (hp : parseL s = none) (hx : showL s t = []) (hu : unpathL t = none) (B0 : BL w w) :
    Calls Tryd.prog 5 #[.string (str s), .string (str t)] w fun e w' => e = .returned (.bool true) ∧ Below w.heap.size w w' := by
  have HA := Lib.hid (show ∀ x ∈ [s, t], x.length ≤ 140737488351232 by simp; omega)
  have HL := Lib.hid h
  have hs1 : s.length ≤ 1000000 := by omega
  have ht1 : t.length ≤ 1000000 := by omega
  have HP := Lib.hid hp
  have HX := Lib.hid hx
  have HU := Lib.hid hu
  have HM := Lib.hid (show amayL s = false by unfold amayL; rw [hp]; rfl)
  have HE := Lib.hid (show endL s = true by unfold endL; rw [h0]; rfl)
  have HPA := Lib.hid (show pathL s = 60 :: (s ++ [62]) by unfold pathL; rw [HE.out]; rfl)
  have HUP := Lib.hid (unpath_path HE.out)
  have hpl : (60 :: (s ++ [62])).length ≤ 1000000 := by simp; omega
  have hp0 : (60 :: (s ++ [62])).isEmpty = false := rfl
  obtain ⟨p, hp'⟩ : ∃ p, p = 60 :: (s ++ [62]) := ⟨_, rfl⟩
  rw [← hp'] at HPA HUP hpl hp0
  clear hp'
  clear h hp hx hu
  subst h0
  go_enter Tryd.func5, Tryd.ntmps5
  go_wp2_with fail
  refine (works_bl _ B0).mono ?_
  rintro e w1 ⟨rfl, B1⟩
  go_wp2_with fail
  refine (bl_long [[], t] _ rfl _ _ rfl HL.out (by simp) HA.out B1).mono ?_
  rintro e w2 ⟨rfl, B2⟩
  go_wp2_with fail
  refine (bl_parse HP.out hs1 B2).mono ?_
  rintro e w3 ⟨rfl, B3⟩
  unfold parseV
  go_wp2_with fail
  refine (bl_amay HM.out hs1 B3).mono ?_
  rintro e w4 ⟨rfl, B4⟩
  go_wp2_with fail
  refine (bl_show HX.out (by omega) (by omega) B4).mono ?_
  rintro e w5 ⟨rfl, B5⟩
  go_wp2_with fail
  refine (bl_path HPA.out hs1 B5).mono ?_
  rintro e w6 ⟨rfl, B6⟩
  go_wp2_with fail
  refine (bl_unpath HUP.out hpl B6).mono ?_
  rintro e w7 ⟨rfl, B7⟩
  unfold unpathV
  go_wp2_with fail
  refine (bl_unpath HU.out ht1 B7).mono ?_
  rintro e w8 ⟨rfl, B8⟩
  unfold unpathV
  have HB := Lib.hid B8.below
  go_wp2_with fail
  go_ret
  exact ⟨rfl, HB.out⟩

set_option maxHeartbeats 4000000 in
theorem addrBack_e0e (s t : List UInt8) (w : World) (hs : s.length ≤ 9000) (ht : t.length ≤ 9000) (h : longL [s, t] = false) (h0 : s = []) (hp : parseL s = none) (hx : showL s t = []) (hu : unpathL t = some []) (B0 : BL w w) :
    Calls Tryd.prog 5 #[.string (str s), .string (str t)] w fun e w' => e = .returned (.bool true) ∧ Below w.heap.size w w' := by
  have HA := Lib.hid (show ∀ x ∈ [s, t], x.length ≤ 140737488351232 by simp; omega)
  have HL := Lib.hid h
  have hs1 : s.length ≤ 1000000 := by omega
  have ht1 : t.length ≤ 1000000 := by omega
  have HP := Lib.hid hp
  have HX := Lib.hid hx
  have HU := Lib.hid hu
  have HM := Lib.hid (show amayL s = false by unfold amayL; rw [hp]; rfl)
  have HE := Lib.hid (show endL s = true by unfold endL; rw [h0]; rfl)
  have HPA := Lib.hid (show pathL s = 60 :: (s ++ [62]) by unfold pathL; rw [HE.out]; rfl)
  have HUP := Lib.hid (unpath_path HE.out)
  have hpl : (60 :: (s ++ [62])).length ≤ 1000000 := by simp; omega
  have hp0 : (60 :: (s ++ [62])).isEmpty = false := rfl
  obtain ⟨p, hp'⟩ : ∃ p, p = 60 :: (s ++ [62]) := ⟨_, rfl⟩
  rw [← hp'] at HPA HUP hpl hp0
  clear hp'
  have HT := Lib.hid (show pathL [] = t by
    obtain ⟨h1, h2⟩ := unpath_some hu
    unfold pathL; rw [h1, h2]; rfl)
  clear h hp hx hu
  subst h0
  go_enter Tryd.func5, Tryd.ntmps5
  go_wp2_with fail
  refine (works_bl _ B0).mono ?_
  rintro e w1 ⟨rfl, B1⟩
  go_wp2_with fail
  refine (bl_long [[], t] _ rfl _ _ rfl HL.out (by simp) HA.out B1).mono ?_
  rintro e w2 ⟨rfl, B2⟩
  go_wp2_with fail
  refine (bl_parse HP.out hs1 B2).mono ?_
  rintro e w3 ⟨rfl, B3⟩
  unfold parseV
  go_wp2_with fail
  refine (bl_amay HM.out hs1 B3).mono ?_
  rintro e w4 ⟨rfl, B4⟩
  go_wp2_with fail
  refine (bl_show HX.out (by omega) (by omega) B4).mono ?_
  rintro e w5 ⟨rfl, B5⟩
  go_wp2_with fail
  refine (bl_path HPA.out hs1 B5).mono ?_
  rintro e w6 ⟨rfl, B6⟩
  go_wp2_with fail
  refine (bl_unpath HUP.out hpl B6).mono ?_
  rintro e w7 ⟨rfl, B7⟩
  unfold unpathV
  go_wp2_with fail
  refine (bl_unpath HU.out ht1 B7).mono ?_
  rintro e w8 ⟨rfl, B8⟩
  unfold unpathV
  go_wp2_with fail
  refine (bl_path HT.out (by simp) B8).mono ?_
  rintro e w9 ⟨rfl, B9⟩
  have HB := Lib.hid B9.below
  go_wp2_with fail
  go_ret
  exact ⟨rfl, HB.out⟩

set_option maxHeartbeats 4000000 in
theorem addrBack_e0q (s t : List UInt8) (w : World) {q : List UInt8} (hs : s.length ≤ 9000) (ht : t.length ≤ 9000) (h : longL [s, t] = false) (h0 : s = []) (hp : parseL s = none) (hx : showL s t = []) (hu : unpathL t = some q) (hq0 : q.isEmpty = false) (B0 : BL w w) :
    Calls Tryd.prog 5 #[.string (str s), .string (str t)] w fun e w' => e = .returned (.bool true) ∧ Below w.heap.size w w' := by
  have HA := Lib.hid (show ∀ x ∈ [s, t], x.length ≤ 140737488351232 by simp; omega)
  have HL := Lib.hid h
  have hs1 : s.length ≤ 1000000 := by omega
  have ht1 : t.length ≤ 1000000 := by omega
  have HP := Lib.hid hp
  have HX := Lib.hid hx
  have HU := Lib.hid hu
  have HM := Lib.hid (show amayL s = false by unfold amayL; rw [hp]; rfl)
  have HE := Lib.hid (show endL s = true by unfold endL; rw [h0]; rfl)
  have HPA := Lib.hid (show pathL s = 60 :: (s ++ [62]) by unfold pathL; rw [HE.out]; rfl)
  have HUP := Lib.hid (unpath_path HE.out)
  have hpl : (60 :: (s ++ [62])).length ≤ 1000000 := by simp; omega
  have hp0 : (60 :: (s ++ [62])).isEmpty = false := rfl
  obtain ⟨p, hp'⟩ : ∃ p, p = 60 :: (s ++ [62]) := ⟨_, rfl⟩
  rw [← hp'] at HPA HUP hpl hp0
  clear hp'
  have HT := Lib.hid (show pathL q = t by
    obtain ⟨h1, h2⟩ := unpath_some hu
    unfold pathL; rw [h1, h2]; rfl)
  have HQ := Lib.hid (show amayL q = true by
    obtain ⟨h1, _⟩ := unpath_some hu
    unfold endL at h1; rw [hq0] at h1; simpa using h1)
  have hql : q.length ≤ 1000000 := by
    obtain ⟨_, h2⟩ := unpath_some hu
    have := congrArg List.length h2
    simp at this; omega
  clear h hp hx hu
  subst h0
  go_enter Tryd.func5, Tryd.ntmps5
  go_wp2_with fail
  refine (works_bl _ B0).mono ?_
  rintro e w1 ⟨rfl, B1⟩
  go_wp2_with fail
  refine (bl_long [[], t] _ rfl _ _ rfl HL.out (by simp) HA.out B1).mono ?_
  rintro e w2 ⟨rfl, B2⟩
  go_wp2_with fail
  refine (bl_parse HP.out hs1 B2).mono ?_
  rintro e w3 ⟨rfl, B3⟩
  unfold parseV
  go_wp2_with fail
  refine (bl_amay HM.out hs1 B3).mono ?_
  rintro e w4 ⟨rfl, B4⟩
  go_wp2_with fail
  refine (bl_show HX.out (by omega) (by omega) B4).mono ?_
  rintro e w5 ⟨rfl, B5⟩
  go_wp2_with fail
  refine (bl_path HPA.out hs1 B5).mono ?_
  rintro e w6 ⟨rfl, B6⟩
  go_wp2_with fail
  refine (bl_unpath HUP.out hpl B6).mono ?_
  rintro e w7 ⟨rfl, B7⟩
  unfold unpathV
  go_wp2_with fail
  refine (bl_unpath HU.out ht1 B7).mono ?_
  rintro e w8 ⟨rfl, B8⟩
  unfold unpathV
  go_wp2_with fail
  refine (bl_path HT.out hql B8).mono ?_
  rintro e w9 ⟨rfl, B9⟩
  go_wp2_with fail
  refine (bl_amay HQ.out hql B9).mono ?_
  rintro e w10 ⟨rfl, B10⟩
  have HB := Lib.hid B10.below
  go_wp2_with fail
  go_ret
  exact ⟨rfl, HB.out⟩

set_option maxHeartbeats 4000000 in
theorem addrBack_n0n (s t : List UInt8) (w : World) (hs : s.length ≤ 9000) (ht : t.length ≤ 9000) (h : longL [s, t] = false) (h0 : s.isEmpty = false) (hp : parseL s = none) (hx : showL s t = []) (hu : unpathL t = none) (B0 : BL w w) :
    Calls Tryd.prog 5 #[.string (str s), .string (str t)] w fun e w' => e = .returned (.bool true) ∧ Below w.heap.size w w' := by
  have HA := Lib.hid (show ∀ x ∈ [s, t], x.length ≤ 140737488351232 by simp; omega)
  have HL := Lib.hid h
  have hs1 : s.length ≤ 1000000 := by omega
  have ht1 : t.length ≤ 1000000 := by omega
  have HP := Lib.hid hp
  have HX := Lib.hid hx
  have HU := Lib.hid hu
  have HM := Lib.hid (show amayL s = false by unfold amayL; rw [hp]; rfl)
  have HE := Lib.hid (show endL s = false by unfold endL; rw [HM.out, h0]; rfl)
  have HPA := Lib.hid (show pathL s = [] by unfold pathL; rw [HE.out]; rfl)
  clear h hp hx hu
  go_enter Tryd.func5, Tryd.ntmps5
  go_wp2_with fail
  refine (works_bl _ B0).mono ?_
  rintro e w1 ⟨rfl, B1⟩
  go_wp2_with fail
  refine (bl_long [s, t] _ rfl _ _ rfl HL.out (by simp) HA.out B1).mono ?_
  rintro e w2 ⟨rfl, B2⟩
  go_wp2_with fail
  refine (bl_parse HP.out hs1 B2).mono ?_
  rintro e w3 ⟨rfl, B3⟩
  unfold parseV
  go_wp2_with fail
  refine (bl_amay HM.out hs1 B3).mono ?_
  rintro e w4 ⟨rfl, B4⟩
  go_wp2_with fail
  refine (bl_show HX.out (by omega) (by omega) B4).mono ?_
  rintro e w5 ⟨rfl, B5⟩
  go_wp2_with fail
  refine (bl_path HPA.out hs1 B5).mono ?_
  rintro e w6 ⟨rfl, B6⟩
  go_wp2_with fail
  refine (bl_unpath unpath_nil (by simp) B6).mono ?_
  rintro e w7 ⟨rfl, B7⟩
  unfold unpathV
  go_wp2_with fail
  refine (bl_amay HM.out hs1 B7).mono ?_
  rintro e w8 ⟨rfl, B8⟩
  go_wp2_with fail
  refine (bl_unpath HU.out ht1 B8).mono ?_
  rintro e w9 ⟨rfl, B9⟩
  unfold unpathV
  have HB := Lib.hid B9.below
  go_wp2_with fail
  go_ret
  exact ⟨rfl, HB.out⟩

set_option maxHeartbeats 4000000 in
theorem addrBack_n0e (s t : List UInt8) (w : World) (hs : s.length ≤ 9000) (ht : t.length ≤ 9000) (h : longL [s, t] = false) (h0 : s.isEmpty = false) (hp : parseL s = none) (hx : showL s t = []) (hu : unpathL t = some []) (B0 : BL w w) :
    Calls Tryd.prog 5 #[.string (str s), .string (str t)] w fun e w' => e = .returned (.bool true) ∧ Below w.heap.size w w' := by
  have HA := Lib.hid (show ∀ x ∈ [s, t], x.length ≤ 140737488351232 by simp; omega)
  have HL := Lib.hid h
  have hs1 : s.length ≤ 1000000 := by omega
  have ht1 : t.length ≤ 1000000 := by omega
  have HP := Lib.hid hp
  have HX := Lib.hid hx
  have HU := Lib.hid hu
  have HM := Lib.hid (show amayL s = false by unfold amayL; rw [hp]; rfl)
  have HE := Lib.hid (show endL s = false by unfold endL; rw [HM.out, h0]; rfl)
  have HPA := Lib.hid (show pathL s = [] by unfold pathL; rw [HE.out]; rfl)
  have HT := Lib.hid (show pathL [] = t by
    obtain ⟨h1, h2⟩ := unpath_some hu
    unfold pathL; rw [h1, h2]; rfl)
  clear h hp hx hu
  go_enter Tryd.func5, Tryd.ntmps5
  go_wp2_with fail
  refine (works_bl _ B0).mono ?_
  rintro e w1 ⟨rfl, B1⟩
  go_wp2_with fail
  refine (bl_long [s, t] _ rfl _ _ rfl HL.out (by simp) HA.out B1).mono ?_
  rintro e w2 ⟨rfl, B2⟩
  go_wp2_with fail
  refine (bl_parse HP.out hs1 B2).mono ?_
  rintro e w3 ⟨rfl, B3⟩
  unfold parseV
  go_wp2_with fail
  refine (bl_amay HM.out hs1 B3).mono ?_
  rintro e w4 ⟨rfl, B4⟩
  go_wp2_with fail
  refine (bl_show HX.out (by omega) (by omega) B4).mono ?_
  rintro e w5 ⟨rfl, B5⟩
  go_wp2_with fail
  refine (bl_path HPA.out hs1 B5).mono ?_
  rintro e w6 ⟨rfl, B6⟩
  go_wp2_with fail
  refine (bl_unpath unpath_nil (by simp) B6).mono ?_
  rintro e w7 ⟨rfl, B7⟩
  unfold unpathV
  go_wp2_with fail
  refine (bl_amay HM.out hs1 B7).mono ?_
  rintro e w8 ⟨rfl, B8⟩
  go_wp2_with fail
  refine (bl_unpath HU.out ht1 B8).mono ?_
  rintro e w9 ⟨rfl, B9⟩
  unfold unpathV
  go_wp2_with fail
  refine (bl_path HT.out (by simp) B9).mono ?_
  rintro e w10 ⟨rfl, B10⟩
  have HB := Lib.hid B10.below
  go_wp2_with fail
  go_ret
  exact ⟨rfl, HB.out⟩

set_option maxHeartbeats 4000000 in
theorem addrBack_n0q (s t : List UInt8) (w : World) {q : List UInt8} (hs : s.length ≤ 9000) (ht : t.length ≤ 9000) (h : longL [s, t] = false) (h0 : s.isEmpty = false) (hp : parseL s = none) (hx : showL s t = []) (hu : unpathL t = some q) (hq0 : q.isEmpty = false) (B0 : BL w w) :
    Calls Tryd.prog 5 #[.string (str s), .string (str t)] w fun e w' => e = .returned (.bool true) ∧ Below w.heap.size w w' := by
  have HA := Lib.hid (show ∀ x ∈ [s, t], x.length ≤ 140737488351232 by simp; omega)
  have HL := Lib.hid h
  have hs1 : s.length ≤ 1000000 := by omega
  have ht1 : t.length ≤ 1000000 := by omega
  have HP := Lib.hid hp
  have HX := Lib.hid hx
  have HU := Lib.hid hu
  have HM := Lib.hid (show amayL s = false by unfold amayL; rw [hp]; rfl)
  have HE := Lib.hid (show endL s = false by unfold endL; rw [HM.out, h0]; rfl)
  have HPA := Lib.hid (show pathL s = [] by unfold pathL; rw [HE.out]; rfl)
  have HT := Lib.hid (show pathL q = t by
    obtain ⟨h1, h2⟩ := unpath_some hu
    unfold pathL; rw [h1, h2]; rfl)
  have HQ := Lib.hid (show amayL q = true by
    obtain ⟨h1, _⟩ := unpath_some hu
    unfold endL at h1; rw [hq0] at h1; simpa using h1)
  have hql : q.length ≤ 1000000 := by
    obtain ⟨_, h2⟩ := unpath_some hu
    have := congrArg List.length h2
    simp at this; omega
  clear h hp hx hu
  go_enter Tryd.func5, Tryd.ntmps5
  go_wp2_with fail
  refine (works_bl _ B0).mono ?_
  rintro e w1 ⟨rfl, B1⟩
  go_wp2_with fail
  refine (bl_long [s, t] _ rfl _ _ rfl HL.out (by simp) HA.out B1).mono ?_
  rintro e w2 ⟨rfl, B2⟩
  go_wp2_with fail
  refine (bl_parse HP.out hs1 B2).mono ?_
  rintro e w3 ⟨rfl, B3⟩
  unfold parseV
  go_wp2_with fail
  refine (bl_amay HM.out hs1 B3).mono ?_
  rintro e w4 ⟨rfl, B4⟩
  go_wp2_with fail
  refine (bl_show HX.out (by omega) (by omega) B4).mono ?_
  rintro e w5 ⟨rfl, B5⟩
  go_wp2_with fail
  refine (bl_path HPA.out hs1 B5).mono ?_
  rintro e w6 ⟨rfl, B6⟩
  go_wp2_with fail
  refine (bl_unpath unpath_nil (by simp) B6).mono ?_
  rintro e w7 ⟨rfl, B7⟩
  unfold unpathV
  go_wp2_with fail
  refine (bl_amay HM.out hs1 B7).mono ?_
  rintro e w8 ⟨rfl, B8⟩
  go_wp2_with fail
  refine (bl_unpath HU.out ht1 B8).mono ?_
  rintro e w9 ⟨rfl, B9⟩
  unfold unpathV
  go_wp2_with fail
  refine (bl_path HT.out hql B9).mono ?_
  rintro e w10 ⟨rfl, B10⟩
  go_wp2_with fail
  refine (bl_amay HQ.out hql B10).mono ?_
  rintro e w11 ⟨rfl, B11⟩
  have HB := Lib.hid B11.below
  go_wp2_with fail
  go_ret
  exact ⟨rfl, HB.out⟩

set_option maxHeartbeats 4000000 in
theorem addrBack_n1n (s t : List UInt8) (w : World) {x : List UInt8} (hs : s.length ≤ 9000) (ht : t.length ≤ 9000) (h : longL [s, t] = false) (h0 : s.isEmpty = false) (hp : parseL s = none) (hx : showL s t = x) (hxe : x = s ++ 64 :: t) (hxp : parseL x = some (s, t)) (hx0 : x.isEmpty = false) (hu : unpathL t = none) (B0 : BL w w) :
    Calls Tryd.prog 5 #[.string (str s), .string (str t)] w fun e w' => e = .returned (.bool true) ∧ Below w.heap.size w w' := by
  have HA := Lib.hid (show ∀ x ∈ [s, t], x.length ≤ 140737488351232 by simp; omega)
  have HL := Lib.hid h
  have hs1 : s.length ≤ 1000000 := by omega
  have ht1 : t.length ≤ 1000000 := by omega
  have HP := Lib.hid hp
  have HX := Lib.hid hx
  have HU := Lib.hid hu
  have HM := Lib.hid (show amayL s = false by unfold amayL; rw [hp]; rfl)
  have hxl : x.length ≤ 1000000 := by rw [hxe]; simp; omega
  have HXP := Lib.hid hxp
  have HXT := Lib.hid ((show_text s t).trans (by rw [← hxe]))
  clear hxe hxp
  have HE := Lib.hid (show endL s = false by unfold endL; rw [HM.out, h0]; rfl)
  have HPA := Lib.hid (show pathL s = [] by unfold pathL; rw [HE.out]; rfl)
  clear h hp hx hu
  go_enter Tryd.func5, Tryd.ntmps5
  go_wp2_with fail
  refine (works_bl _ B0).mono ?_
  rintro e w1 ⟨rfl, B1⟩
  go_wp2_with fail
  refine (bl_long [s, t] _ rfl _ _ rfl HL.out (by simp) HA.out B1).mono ?_
  rintro e w2 ⟨rfl, B2⟩
  go_wp2_with fail
  refine (bl_parse HP.out hs1 B2).mono ?_
  rintro e w3 ⟨rfl, B3⟩
  unfold parseV
  go_wp2_with fail
  refine (bl_amay HM.out hs1 B3).mono ?_
  rintro e w4 ⟨rfl, B4⟩
  go_wp2_with fail
  refine (bl_show HX.out (by omega) (by omega) B4).mono ?_
  rintro e w5 ⟨rfl, B5⟩
  go_wp2_with fail
  refine (bl_parse HXP.out hxl B5).mono ?_
  rintro e w6 ⟨rfl, B6⟩
  unfold parseV; have hxt := HXT.out
  go_wp2_with fail
  refine (bl_path HPA.out hs1 B6).mono ?_
  rintro e w7 ⟨rfl, B7⟩
  clear hxt
  go_wp2_with fail
  refine (bl_unpath unpath_nil (by simp) B7).mono ?_
  rintro e w8 ⟨rfl, B8⟩
  unfold unpathV
  go_wp2_with fail
  refine (bl_amay HM.out hs1 B8).mono ?_
  rintro e w9 ⟨rfl, B9⟩
  go_wp2_with fail
  refine (bl_unpath HU.out ht1 B9).mono ?_
  rintro e w10 ⟨rfl, B10⟩
  unfold unpathV
  have HB := Lib.hid B10.below
  go_wp2_with fail
  go_ret
  exact ⟨rfl, HB.out⟩

set_option maxHeartbeats 4000000 in
theorem addrBack_n1e (s t : List UInt8) (w : World) {x : List UInt8} (hs : s.length ≤ 9000) (ht : t.length ≤ 9000) (h : longL [s, t] = false) (h0 : s.isEmpty = false) (hp : parseL s = none) (hx : showL s t = x) (hxe : x = s ++ 64 :: t) (hxp : parseL x = some (s, t)) (hx0 : x.isEmpty = false) (hu : unpathL t = some []) (B0 : BL w w) :
    Calls Tryd.prog 5 #[.string (str s), .string (str t)] w fun e w' => e = .returned (.bool true) ∧ Below w.heap.size w w' := by
  have HA := Lib.hid (show ∀ x ∈ [s, t], x.length ≤ 140737488351232 by simp; omega)
  have HL := Lib.hid h
  have hs1 : s.length ≤ 1000000 := by omega
  have ht1 : t.length ≤ 1000000 := by omega
  have HP := Lib.hid hp
  have HX := Lib.hid hx
  have HU := Lib.hid hu
  have HM := Lib.hid (show amayL s = false by unfold amayL; rw [hp]; rfl)
  have hxl : x.length ≤ 1000000 := by rw [hxe]; simp; omega
  have HXP := Lib.hid hxp
  have HXT := Lib.hid ((show_text s t).trans (by rw [← hxe]))
  clear hxe hxp
  have HE := Lib.hid (show endL s = false by unfold endL; rw [HM.out, h0]; rfl)
  have HPA := Lib.hid (show pathL s = [] by unfold pathL; rw [HE.out]; rfl)
  have HT := Lib.hid (show pathL [] = t by
    obtain ⟨h1, h2⟩ := unpath_some hu
    unfold pathL; rw [h1, h2]; rfl)
  clear h hp hx hu
  go_enter Tryd.func5, Tryd.ntmps5
  go_wp2_with fail
  refine (works_bl _ B0).mono ?_
  rintro e w1 ⟨rfl, B1⟩
  go_wp2_with fail
  refine (bl_long [s, t] _ rfl _ _ rfl HL.out (by simp) HA.out B1).mono ?_
  rintro e w2 ⟨rfl, B2⟩
  go_wp2_with fail
  refine (bl_parse HP.out hs1 B2).mono ?_
  rintro e w3 ⟨rfl, B3⟩
  unfold parseV
  go_wp2_with fail
  refine (bl_amay HM.out hs1 B3).mono ?_
  rintro e w4 ⟨rfl, B4⟩
  go_wp2_with fail
  refine (bl_show HX.out (by omega) (by omega) B4).mono ?_
  rintro e w5 ⟨rfl, B5⟩
  go_wp2_with fail
  refine (bl_parse HXP.out hxl B5).mono ?_
  rintro e w6 ⟨rfl, B6⟩
  unfold parseV; have hxt := HXT.out
  go_wp2_with fail
  refine (bl_path HPA.out hs1 B6).mono ?_
  rintro e w7 ⟨rfl, B7⟩
  clear hxt
  go_wp2_with fail
  refine (bl_unpath unpath_nil (by simp) B7).mono ?_
  rintro e w8 ⟨rfl, B8⟩
  unfold unpathV
  go_wp2_with fail
  refine (bl_amay HM.out hs1 B8).mono ?_
  rintro e w9 ⟨rfl, B9⟩
  go_wp2_with fail
  refine (bl_unpath HU.out ht1 B9).mono ?_
  rintro e w10 ⟨rfl, B10⟩
  unfold unpathV
  go_wp2_with fail
  refine (bl_path HT.out (by simp) B10).mono ?_
  rintro e w11 ⟨rfl, B11⟩
  have HB := Lib.hid B11.below
  go_wp2_with fail
  go_ret
  exact ⟨rfl, HB.out⟩

set_option maxHeartbeats 4000000 in
theorem addrBack_n1q (s t : List UInt8) (w : World) {x : List UInt8} {q : List UInt8} (hs : s.length ≤ 9000) (ht : t.length ≤ 9000) (h : longL [s, t] = false) (h0 : s.isEmpty = false) (hp : parseL s = none) (hx : showL s t = x) (hxe : x = s ++ 64 :: t) (hxp : parseL x = some (s, t)) (hx0 : x.isEmpty = false) (hu : unpathL t = some q) (hq0 : q.isEmpty = false) (B0 : BL w w) :
    Calls Tryd.prog 5 #[.string (str s), .string (str t)] w fun e w' => e = .returned (.bool true) ∧ Below w.heap.size w w' := by
  have HA := Lib.hid (show ∀ x ∈ [s, t], x.length ≤ 140737488351232 by simp; omega)
  have HL := Lib.hid h
  have hs1 : s.length ≤ 1000000 := by omega
  have ht1 : t.length ≤ 1000000 := by omega
  have HP := Lib.hid hp
  have HX := Lib.hid hx
  have HU := Lib.hid hu
  have HM := Lib.hid (show amayL s = false by unfold amayL; rw [hp]; rfl)
  have hxl : x.length ≤ 1000000 := by rw [hxe]; simp; omega
  have HXP := Lib.hid hxp
  have HXT := Lib.hid ((show_text s t).trans (by rw [← hxe]))
  clear hxe hxp
  have HE := Lib.hid (show endL s = false by unfold endL; rw [HM.out, h0]; rfl)
  have HPA := Lib.hid (show pathL s = [] by unfold pathL; rw [HE.out]; rfl)
  have HT := Lib.hid (show pathL q = t by
    obtain ⟨h1, h2⟩ := unpath_some hu
    unfold pathL; rw [h1, h2]; rfl)
  have HQ := Lib.hid (show amayL q = true by
    obtain ⟨h1, _⟩ := unpath_some hu
    unfold endL at h1; rw [hq0] at h1; simpa using h1)
  have hql : q.length ≤ 1000000 := by
    obtain ⟨_, h2⟩ := unpath_some hu
    have := congrArg List.length h2
    simp at this; omega
  clear h hp hx hu
  go_enter Tryd.func5, Tryd.ntmps5
  go_wp2_with fail
  refine (works_bl _ B0).mono ?_
  rintro e w1 ⟨rfl, B1⟩
  go_wp2_with fail
  refine (bl_long [s, t] _ rfl _ _ rfl HL.out (by simp) HA.out B1).mono ?_
  rintro e w2 ⟨rfl, B2⟩
  go_wp2_with fail
  refine (bl_parse HP.out hs1 B2).mono ?_
  rintro e w3 ⟨rfl, B3⟩
  unfold parseV
  go_wp2_with fail
  refine (bl_amay HM.out hs1 B3).mono ?_
  rintro e w4 ⟨rfl, B4⟩
  go_wp2_with fail
  refine (bl_show HX.out (by omega) (by omega) B4).mono ?_
  rintro e w5 ⟨rfl, B5⟩
  go_wp2_with fail
  refine (bl_parse HXP.out hxl B5).mono ?_
  rintro e w6 ⟨rfl, B6⟩
  unfold parseV; have hxt := HXT.out
  go_wp2_with fail
  refine (bl_path HPA.out hs1 B6).mono ?_
  rintro e w7 ⟨rfl, B7⟩
  clear hxt
  go_wp2_with fail
  refine (bl_unpath unpath_nil (by simp) B7).mono ?_
  rintro e w8 ⟨rfl, B8⟩
  unfold unpathV
  go_wp2_with fail
  refine (bl_amay HM.out hs1 B8).mono ?_
  rintro e w9 ⟨rfl, B9⟩
  go_wp2_with fail
  refine (bl_unpath HU.out ht1 B9).mono ?_
  rintro e w10 ⟨rfl, B10⟩
  unfold unpathV
  go_wp2_with fail
  refine (bl_path HT.out hql B10).mono ?_
  rintro e w11 ⟨rfl, B11⟩
  go_wp2_with fail
  refine (bl_amay HQ.out hql B11).mono ?_
  rintro e w12 ⟨rfl, B12⟩
  have HB := Lib.hid B12.below
  go_wp2_with fail
  go_ret
  exact ⟨rfl, HB.out⟩

set_option maxHeartbeats 4000000 in
theorem addrBack_p0n (s t : List UInt8) (w : World) {l d : List UInt8} (hs : s.length ≤ 9000) (ht : t.length ≤ 9000) (h : longL [s, t] = false) (h0 : s.isEmpty = false) (hp : parseL s = some (l, d)) (hx : showL s t = []) (hu : unpathL t = none) (B0 : BL w w) :
    Calls Tryd.prog 5 #[.string (str s), .string (str t)] w fun e w' => e = .returned (.bool true) ∧ Below w.heap.size w w' := by
  have HA := Lib.hid (show ∀ x ∈ [s, t], x.length ≤ 140737488351232 by simp; omega)
  have HL := Lib.hid h
  have hs1 : s.length ≤ 1000000 := by omega
  have ht1 : t.length ≤ 1000000 := by omega
  have HP := Lib.hid hp
  have HX := Lib.hid hx
  have HU := Lib.hid hu
  have HM := Lib.hid (show amayL s = true by unfold amayL; rw [hp]; rfl)
  obtain ⟨n1, n2, n3, n4⟩ := parse_len hp
  have hlen : ((s.length : Int) != (l.length : Int) + 1 + (d.length : Int)) = false := by rw [bne_eq_false_iff_eq]; omega
  have HSH := Lib.hid (show_eq hp)
  have HSS := Lib.hid (same_show hp)
  have HD := Lib.hid (parse_is hp).2
  have hr : (l ++ 64 :: d).length ≤ 1000000 := by simp; omega
  obtain ⟨r, hr'⟩ : ∃ r, r = l ++ 64 :: d := ⟨_, rfl⟩
  rw [← hr'] at HSH hr
  rw [HSH.out] at HSS
  clear n1 hr'
  have HE := Lib.hid (show endL s = true by unfold endL; rw [HM.out]; simp)
  have HPA := Lib.hid (show pathL s = 60 :: (s ++ [62]) by unfold pathL; rw [HE.out]; rfl)
  have HUP := Lib.hid (unpath_path HE.out)
  have hpl : (60 :: (s ++ [62])).length ≤ 1000000 := by simp; omega
  have hp0 : (60 :: (s ++ [62])).isEmpty = false := rfl
  obtain ⟨p, hp'⟩ : ∃ p, p = 60 :: (s ++ [62]) := ⟨_, rfl⟩
  rw [← hp'] at HPA HUP hpl hp0
  clear hp'
  clear h hp hx hu
  go_enter Tryd.func5, Tryd.ntmps5
  go_wp2_with fail
  refine (works_bl _ B0).mono ?_
  rintro e w1 ⟨rfl, B1⟩
  go_wp2_with fail
  refine (bl_long [s, t] _ rfl _ _ rfl HL.out (by simp) HA.out B1).mono ?_
  rintro e w2 ⟨rfl, B2⟩
  go_wp2_with fail
  refine (bl_parse HP.out hs1 B2).mono ?_
  rintro e w3 ⟨rfl, B3⟩
  unfold parseV
  go_wp2_with fail
  refine (bl_amay HM.out hs1 B3).mono ?_
  rintro e w4 ⟨rfl, B4⟩
  go_wp2_with fail
  refine (bl_show HSH.out (by omega) (by omega) B4).mono ?_
  rintro e w5 ⟨rfl, B5⟩
  go_wp2_with fail
  refine (bl_same HSS.out hs1 hr B5).mono ?_
  rintro e w6 ⟨rfl, B6⟩
  go_wp2_with fail
  refine (blr (V := .bool) (may_any d _ (by omega) B6.ml) HD.out B6).mono ?_
  rintro e w7 ⟨rfl, B7⟩
  go_wp2_with fail
  refine (bl_show HX.out (by omega) (by omega) B7).mono ?_
  rintro e w8 ⟨rfl, B8⟩
  go_wp2_with fail
  refine (bl_path HPA.out hs1 B8).mono ?_
  rintro e w9 ⟨rfl, B9⟩
  go_wp2_with fail
  refine (bl_unpath HUP.out hpl B9).mono ?_
  rintro e w10 ⟨rfl, B10⟩
  unfold unpathV
  go_wp2_with fail
  refine (bl_amay HM.out hs1 B10).mono ?_
  rintro e w11 ⟨rfl, B11⟩
  go_wp2_with fail
  refine (bl_unpath HU.out ht1 B11).mono ?_
  rintro e w12 ⟨rfl, B12⟩
  unfold unpathV
  have HB := Lib.hid B12.below
  go_wp2_with fail
  go_ret
  exact ⟨rfl, HB.out⟩

set_option maxHeartbeats 4000000 in
theorem addrBack_p0e (s t : List UInt8) (w : World) {l d : List UInt8} (hs : s.length ≤ 9000) (ht : t.length ≤ 9000) (h : longL [s, t] = false) (h0 : s.isEmpty = false) (hp : parseL s = some (l, d)) (hx : showL s t = []) (hu : unpathL t = some []) (B0 : BL w w) :
    Calls Tryd.prog 5 #[.string (str s), .string (str t)] w fun e w' => e = .returned (.bool true) ∧ Below w.heap.size w w' := by
  have HA := Lib.hid (show ∀ x ∈ [s, t], x.length ≤ 140737488351232 by simp; omega)
  have HL := Lib.hid h
  have hs1 : s.length ≤ 1000000 := by omega
  have ht1 : t.length ≤ 1000000 := by omega
  have HP := Lib.hid hp
  have HX := Lib.hid hx
  have HU := Lib.hid hu
  have HM := Lib.hid (show amayL s = true by unfold amayL; rw [hp]; rfl)
  obtain ⟨n1, n2, n3, n4⟩ := parse_len hp
  have hlen : ((s.length : Int) != (l.length : Int) + 1 + (d.length : Int)) = false := by rw [bne_eq_false_iff_eq]; omega
  have HSH := Lib.hid (show_eq hp)
  have HSS := Lib.hid (same_show hp)
  have HD := Lib.hid (parse_is hp).2
  have hr : (l ++ 64 :: d).length ≤ 1000000 := by simp; omega
  obtain ⟨r, hr'⟩ : ∃ r, r = l ++ 64 :: d := ⟨_, rfl⟩
  rw [← hr'] at HSH hr
  rw [HSH.out] at HSS
  clear n1 hr'
  have HE := Lib.hid (show endL s = true by unfold endL; rw [HM.out]; simp)
  have HPA := Lib.hid (show pathL s = 60 :: (s ++ [62]) by unfold pathL; rw [HE.out]; rfl)
  have HUP := Lib.hid (unpath_path HE.out)
  have hpl : (60 :: (s ++ [62])).length ≤ 1000000 := by simp; omega
  have hp0 : (60 :: (s ++ [62])).isEmpty = false := rfl
  obtain ⟨p, hp'⟩ : ∃ p, p = 60 :: (s ++ [62]) := ⟨_, rfl⟩
  rw [← hp'] at HPA HUP hpl hp0
  clear hp'
  have HT := Lib.hid (show pathL [] = t by
    obtain ⟨h1, h2⟩ := unpath_some hu
    unfold pathL; rw [h1, h2]; rfl)
  clear h hp hx hu
  go_enter Tryd.func5, Tryd.ntmps5
  go_wp2_with fail
  refine (works_bl _ B0).mono ?_
  rintro e w1 ⟨rfl, B1⟩
  go_wp2_with fail
  refine (bl_long [s, t] _ rfl _ _ rfl HL.out (by simp) HA.out B1).mono ?_
  rintro e w2 ⟨rfl, B2⟩
  go_wp2_with fail
  refine (bl_parse HP.out hs1 B2).mono ?_
  rintro e w3 ⟨rfl, B3⟩
  unfold parseV
  go_wp2_with fail
  refine (bl_amay HM.out hs1 B3).mono ?_
  rintro e w4 ⟨rfl, B4⟩
  go_wp2_with fail
  refine (bl_show HSH.out (by omega) (by omega) B4).mono ?_
  rintro e w5 ⟨rfl, B5⟩
  go_wp2_with fail
  refine (bl_same HSS.out hs1 hr B5).mono ?_
  rintro e w6 ⟨rfl, B6⟩
  go_wp2_with fail
  refine (blr (V := .bool) (may_any d _ (by omega) B6.ml) HD.out B6).mono ?_
  rintro e w7 ⟨rfl, B7⟩
  go_wp2_with fail
  refine (bl_show HX.out (by omega) (by omega) B7).mono ?_
  rintro e w8 ⟨rfl, B8⟩
  go_wp2_with fail
  refine (bl_path HPA.out hs1 B8).mono ?_
  rintro e w9 ⟨rfl, B9⟩
  go_wp2_with fail
  refine (bl_unpath HUP.out hpl B9).mono ?_
  rintro e w10 ⟨rfl, B10⟩
  unfold unpathV
  go_wp2_with fail
  refine (bl_amay HM.out hs1 B10).mono ?_
  rintro e w11 ⟨rfl, B11⟩
  go_wp2_with fail
  refine (bl_unpath HU.out ht1 B11).mono ?_
  rintro e w12 ⟨rfl, B12⟩
  unfold unpathV
  go_wp2_with fail
  refine (bl_path HT.out (by simp) B12).mono ?_
  rintro e w13 ⟨rfl, B13⟩
  have HB := Lib.hid B13.below
  go_wp2_with fail
  go_ret
  exact ⟨rfl, HB.out⟩

set_option maxHeartbeats 4000000 in
theorem addrBack_p0q (s t : List UInt8) (w : World) {l d : List UInt8} {q : List UInt8} (hs : s.length ≤ 9000) (ht : t.length ≤ 9000) (h : longL [s, t] = false) (h0 : s.isEmpty = false) (hp : parseL s = some (l, d)) (hx : showL s t = []) (hu : unpathL t = some q) (hq0 : q.isEmpty = false) (B0 : BL w w) :
    Calls Tryd.prog 5 #[.string (str s), .string (str t)] w fun e w' => e = .returned (.bool true) ∧ Below w.heap.size w w' := by
  have HA := Lib.hid (show ∀ x ∈ [s, t], x.length ≤ 140737488351232 by simp; omega)
  have HL := Lib.hid h
  have hs1 : s.length ≤ 1000000 := by omega
  have ht1 : t.length ≤ 1000000 := by omega
  have HP := Lib.hid hp
  have HX := Lib.hid hx
  have HU := Lib.hid hu
  have HM := Lib.hid (show amayL s = true by unfold amayL; rw [hp]; rfl)
  obtain ⟨n1, n2, n3, n4⟩ := parse_len hp
  have hlen : ((s.length : Int) != (l.length : Int) + 1 + (d.length : Int)) = false := by rw [bne_eq_false_iff_eq]; omega
  have HSH := Lib.hid (show_eq hp)
  have HSS := Lib.hid (same_show hp)
  have HD := Lib.hid (parse_is hp).2
  have hr : (l ++ 64 :: d).length ≤ 1000000 := by simp; omega
  obtain ⟨r, hr'⟩ : ∃ r, r = l ++ 64 :: d := ⟨_, rfl⟩
  rw [← hr'] at HSH hr
  rw [HSH.out] at HSS
  clear n1 hr'
  have HE := Lib.hid (show endL s = true by unfold endL; rw [HM.out]; simp)
  have HPA := Lib.hid (show pathL s = 60 :: (s ++ [62]) by unfold pathL; rw [HE.out]; rfl)
  have HUP := Lib.hid (unpath_path HE.out)
  have hpl : (60 :: (s ++ [62])).length ≤ 1000000 := by simp; omega
  have hp0 : (60 :: (s ++ [62])).isEmpty = false := rfl
  obtain ⟨p, hp'⟩ : ∃ p, p = 60 :: (s ++ [62]) := ⟨_, rfl⟩
  rw [← hp'] at HPA HUP hpl hp0
  clear hp'
  have HT := Lib.hid (show pathL q = t by
    obtain ⟨h1, h2⟩ := unpath_some hu
    unfold pathL; rw [h1, h2]; rfl)
  have HQ := Lib.hid (show amayL q = true by
    obtain ⟨h1, _⟩ := unpath_some hu
    unfold endL at h1; rw [hq0] at h1; simpa using h1)
  have hql : q.length ≤ 1000000 := by
    obtain ⟨_, h2⟩ := unpath_some hu
    have := congrArg List.length h2
    simp at this; omega
  clear h hp hx hu
  go_enter Tryd.func5, Tryd.ntmps5
  go_wp2_with fail
  refine (works_bl _ B0).mono ?_
  rintro e w1 ⟨rfl, B1⟩
  go_wp2_with fail
  refine (bl_long [s, t] _ rfl _ _ rfl HL.out (by simp) HA.out B1).mono ?_
  rintro e w2 ⟨rfl, B2⟩
  go_wp2_with fail
  refine (bl_parse HP.out hs1 B2).mono ?_
  rintro e w3 ⟨rfl, B3⟩
  unfold parseV
  go_wp2_with fail
  refine (bl_amay HM.out hs1 B3).mono ?_
  rintro e w4 ⟨rfl, B4⟩
  go_wp2_with fail
  refine (bl_show HSH.out (by omega) (by omega) B4).mono ?_
  rintro e w5 ⟨rfl, B5⟩
  go_wp2_with fail
  refine (bl_same HSS.out hs1 hr B5).mono ?_
  rintro e w6 ⟨rfl, B6⟩
  go_wp2_with fail
  refine (blr (V := .bool) (may_any d _ (by omega) B6.ml) HD.out B6).mono ?_
  rintro e w7 ⟨rfl, B7⟩
  go_wp2_with fail
  refine (bl_show HX.out (by omega) (by omega) B7).mono ?_
  rintro e w8 ⟨rfl, B8⟩
  go_wp2_with fail
  refine (bl_path HPA.out hs1 B8).mono ?_
  rintro e w9 ⟨rfl, B9⟩
  go_wp2_with fail
  refine (bl_unpath HUP.out hpl B9).mono ?_
  rintro e w10 ⟨rfl, B10⟩
  unfold unpathV
  go_wp2_with fail
  refine (bl_amay HM.out hs1 B10).mono ?_
  rintro e w11 ⟨rfl, B11⟩
  go_wp2_with fail
  refine (bl_unpath HU.out ht1 B11).mono ?_
  rintro e w12 ⟨rfl, B12⟩
  unfold unpathV
  go_wp2_with fail
  refine (bl_path HT.out hql B12).mono ?_
  rintro e w13 ⟨rfl, B13⟩
  go_wp2_with fail
  refine (bl_amay HQ.out hql B13).mono ?_
  rintro e w14 ⟨rfl, B14⟩
  have HB := Lib.hid B14.below
  go_wp2_with fail
  go_ret
  exact ⟨rfl, HB.out⟩

set_option maxHeartbeats 4000000 in
theorem addrBack_p1n (s t : List UInt8) (w : World) {l d : List UInt8} {x : List UInt8} (hs : s.length ≤ 9000) (ht : t.length ≤ 9000) (h : longL [s, t] = false) (h0 : s.isEmpty = false) (hp : parseL s = some (l, d)) (hx : showL s t = x) (hxe : x = s ++ 64 :: t) (hxp : parseL x = some (s, t)) (hx0 : x.isEmpty = false) (hu : unpathL t = none) (B0 : BL w w) :
    Calls Tryd.prog 5 #[.string (str s), .string (str t)] w fun e w' => e = .returned (.bool true) ∧ Below w.heap.size w w' := by
  have HA := Lib.hid (show ∀ x ∈ [s, t], x.length ≤ 140737488351232 by simp; omega)
  have HL := Lib.hid h
  have hs1 : s.length ≤ 1000000 := by omega
  have ht1 : t.length ≤ 1000000 := by omega
  have HP := Lib.hid hp
  have HX := Lib.hid hx
  have HU := Lib.hid hu
  have HM := Lib.hid (show amayL s = true by unfold amayL; rw [hp]; rfl)
  obtain ⟨n1, n2, n3, n4⟩ := parse_len hp
  have hlen : ((s.length : Int) != (l.length : Int) + 1 + (d.length : Int)) = false := by rw [bne_eq_false_iff_eq]; omega
  have HSH := Lib.hid (show_eq hp)
  have HSS := Lib.hid (same_show hp)
  have HD := Lib.hid (parse_is hp).2
  have hr : (l ++ 64 :: d).length ≤ 1000000 := by simp; omega
  obtain ⟨r, hr'⟩ : ∃ r, r = l ++ 64 :: d := ⟨_, rfl⟩
  rw [← hr'] at HSH hr
  rw [HSH.out] at HSS
  clear n1 hr'
  have hxl : x.length ≤ 1000000 := by rw [hxe]; simp; omega
  have HXP := Lib.hid hxp
  have HXT := Lib.hid ((show_text s t).trans (by rw [← hxe]))
  clear hxe hxp
  have HE := Lib.hid (show endL s = true by unfold endL; rw [HM.out]; simp)
  have HPA := Lib.hid (show pathL s = 60 :: (s ++ [62]) by unfold pathL; rw [HE.out]; rfl)
  have HUP := Lib.hid (unpath_path HE.out)
  have hpl : (60 :: (s ++ [62])).length ≤ 1000000 := by simp; omega
  have hp0 : (60 :: (s ++ [62])).isEmpty = false := rfl
  obtain ⟨p, hp'⟩ : ∃ p, p = 60 :: (s ++ [62]) := ⟨_, rfl⟩
  rw [← hp'] at HPA HUP hpl hp0
  clear hp'
  clear h hp hx hu
  go_enter Tryd.func5, Tryd.ntmps5
  go_wp2_with fail
  refine (works_bl _ B0).mono ?_
  rintro e w1 ⟨rfl, B1⟩
  go_wp2_with fail
  refine (bl_long [s, t] _ rfl _ _ rfl HL.out (by simp) HA.out B1).mono ?_
  rintro e w2 ⟨rfl, B2⟩
  go_wp2_with fail
  refine (bl_parse HP.out hs1 B2).mono ?_
  rintro e w3 ⟨rfl, B3⟩
  unfold parseV
  go_wp2_with fail
  refine (bl_amay HM.out hs1 B3).mono ?_
  rintro e w4 ⟨rfl, B4⟩
  go_wp2_with fail
  refine (bl_show HSH.out (by omega) (by omega) B4).mono ?_
  rintro e w5 ⟨rfl, B5⟩
  go_wp2_with fail
  refine (bl_same HSS.out hs1 hr B5).mono ?_
  rintro e w6 ⟨rfl, B6⟩
  go_wp2_with fail
  refine (blr (V := .bool) (may_any d _ (by omega) B6.ml) HD.out B6).mono ?_
  rintro e w7 ⟨rfl, B7⟩
  go_wp2_with fail
  refine (bl_show HX.out (by omega) (by omega) B7).mono ?_
  rintro e w8 ⟨rfl, B8⟩
  go_wp2_with fail
  refine (bl_parse HXP.out hxl B8).mono ?_
  rintro e w9 ⟨rfl, B9⟩
  unfold parseV; have hxt := HXT.out
  go_wp2_with fail
  refine (bl_path HPA.out hs1 B9).mono ?_
  rintro e w10 ⟨rfl, B10⟩
  clear hxt
  go_wp2_with fail
  refine (bl_unpath HUP.out hpl B10).mono ?_
  rintro e w11 ⟨rfl, B11⟩
  unfold unpathV
  go_wp2_with fail
  refine (bl_amay HM.out hs1 B11).mono ?_
  rintro e w12 ⟨rfl, B12⟩
  go_wp2_with fail
  refine (bl_unpath HU.out ht1 B12).mono ?_
  rintro e w13 ⟨rfl, B13⟩
  unfold unpathV
  have HB := Lib.hid B13.below
  go_wp2_with fail
  go_ret
  exact ⟨rfl, HB.out⟩

set_option maxHeartbeats 4000000 in
theorem addrBack_p1e (s t : List UInt8) (w : World) {l d : List UInt8} {x : List UInt8} (hs : s.length ≤ 9000) (ht : t.length ≤ 9000) (h : longL [s, t] = false) (h0 : s.isEmpty = false) (hp : parseL s = some (l, d)) (hx : showL s t = x) (hxe : x = s ++ 64 :: t) (hxp : parseL x = some (s, t)) (hx0 : x.isEmpty = false) (hu : unpathL t = some []) (B0 : BL w w) :
    Calls Tryd.prog 5 #[.string (str s), .string (str t)] w fun e w' => e = .returned (.bool true) ∧ Below w.heap.size w w' := by
  have HA := Lib.hid (show ∀ x ∈ [s, t], x.length ≤ 140737488351232 by simp; omega)
  have HL := Lib.hid h
  have hs1 : s.length ≤ 1000000 := by omega
  have ht1 : t.length ≤ 1000000 := by omega
  have HP := Lib.hid hp
  have HX := Lib.hid hx
  have HU := Lib.hid hu
  have HM := Lib.hid (show amayL s = true by unfold amayL; rw [hp]; rfl)
  obtain ⟨n1, n2, n3, n4⟩ := parse_len hp
  have hlen : ((s.length : Int) != (l.length : Int) + 1 + (d.length : Int)) = false := by rw [bne_eq_false_iff_eq]; omega
  have HSH := Lib.hid (show_eq hp)
  have HSS := Lib.hid (same_show hp)
  have HD := Lib.hid (parse_is hp).2
  have hr : (l ++ 64 :: d).length ≤ 1000000 := by simp; omega
  obtain ⟨r, hr'⟩ : ∃ r, r = l ++ 64 :: d := ⟨_, rfl⟩
  rw [← hr'] at HSH hr
  rw [HSH.out] at HSS
  clear n1 hr'
  have hxl : x.length ≤ 1000000 := by rw [hxe]; simp; omega
  have HXP := Lib.hid hxp
  have HXT := Lib.hid ((show_text s t).trans (by rw [← hxe]))
  clear hxe hxp
  have HE := Lib.hid (show endL s = true by unfold endL; rw [HM.out]; simp)
  have HPA := Lib.hid (show pathL s = 60 :: (s ++ [62]) by unfold pathL; rw [HE.out]; rfl)
  have HUP := Lib.hid (unpath_path HE.out)
  have hpl : (60 :: (s ++ [62])).length ≤ 1000000 := by simp; omega
  have hp0 : (60 :: (s ++ [62])).isEmpty = false := rfl
  obtain ⟨p, hp'⟩ : ∃ p, p = 60 :: (s ++ [62]) := ⟨_, rfl⟩
  rw [← hp'] at HPA HUP hpl hp0
  clear hp'
  have HT := Lib.hid (show pathL [] = t by
    obtain ⟨h1, h2⟩ := unpath_some hu
    unfold pathL; rw [h1, h2]; rfl)
  clear h hp hx hu
  go_enter Tryd.func5, Tryd.ntmps5
  go_wp2_with fail
  refine (works_bl _ B0).mono ?_
  rintro e w1 ⟨rfl, B1⟩
  go_wp2_with fail
  refine (bl_long [s, t] _ rfl _ _ rfl HL.out (by simp) HA.out B1).mono ?_
  rintro e w2 ⟨rfl, B2⟩
  go_wp2_with fail
  refine (bl_parse HP.out hs1 B2).mono ?_
  rintro e w3 ⟨rfl, B3⟩
  unfold parseV
  go_wp2_with fail
  refine (bl_amay HM.out hs1 B3).mono ?_
  rintro e w4 ⟨rfl, B4⟩
  go_wp2_with fail
  refine (bl_show HSH.out (by omega) (by omega) B4).mono ?_
  rintro e w5 ⟨rfl, B5⟩
  go_wp2_with fail
  refine (bl_same HSS.out hs1 hr B5).mono ?_
  rintro e w6 ⟨rfl, B6⟩
  go_wp2_with fail
  refine (blr (V := .bool) (may_any d _ (by omega) B6.ml) HD.out B6).mono ?_
  rintro e w7 ⟨rfl, B7⟩
  go_wp2_with fail
  refine (bl_show HX.out (by omega) (by omega) B7).mono ?_
  rintro e w8 ⟨rfl, B8⟩
  go_wp2_with fail
  refine (bl_parse HXP.out hxl B8).mono ?_
  rintro e w9 ⟨rfl, B9⟩
  unfold parseV; have hxt := HXT.out
  go_wp2_with fail
  refine (bl_path HPA.out hs1 B9).mono ?_
  rintro e w10 ⟨rfl, B10⟩
  clear hxt
  go_wp2_with fail
  refine (bl_unpath HUP.out hpl B10).mono ?_
  rintro e w11 ⟨rfl, B11⟩
  unfold unpathV
  go_wp2_with fail
  refine (bl_amay HM.out hs1 B11).mono ?_
  rintro e w12 ⟨rfl, B12⟩
  go_wp2_with fail
  refine (bl_unpath HU.out ht1 B12).mono ?_
  rintro e w13 ⟨rfl, B13⟩
  unfold unpathV
  go_wp2_with fail
  refine (bl_path HT.out (by simp) B13).mono ?_
  rintro e w14 ⟨rfl, B14⟩
  have HB := Lib.hid B14.below
  go_wp2_with fail
  go_ret
  exact ⟨rfl, HB.out⟩

set_option maxHeartbeats 4000000 in
theorem addrBack_p1q (s t : List UInt8) (w : World) {l d : List UInt8} {x : List UInt8} {q : List UInt8} (hs : s.length ≤ 9000) (ht : t.length ≤ 9000) (h : longL [s, t] = false) (h0 : s.isEmpty = false) (hp : parseL s = some (l, d)) (hx : showL s t = x) (hxe : x = s ++ 64 :: t) (hxp : parseL x = some (s, t)) (hx0 : x.isEmpty = false) (hu : unpathL t = some q) (hq0 : q.isEmpty = false) (B0 : BL w w) :
    Calls Tryd.prog 5 #[.string (str s), .string (str t)] w fun e w' => e = .returned (.bool true) ∧ Below w.heap.size w w' := by
  have HA := Lib.hid (show ∀ x ∈ [s, t], x.length ≤ 140737488351232 by simp; omega)
  have HL := Lib.hid h
  have hs1 : s.length ≤ 1000000 := by omega
  have ht1 : t.length ≤ 1000000 := by omega
  have HP := Lib.hid hp
  have HX := Lib.hid hx
  have HU := Lib.hid hu
  have HM := Lib.hid (show amayL s = true by unfold amayL; rw [hp]; rfl)
  obtain ⟨n1, n2, n3, n4⟩ := parse_len hp
  have hlen : ((s.length : Int) != (l.length : Int) + 1 + (d.length : Int)) = false := by rw [bne_eq_false_iff_eq]; omega
  have HSH := Lib.hid (show_eq hp)
  have HSS := Lib.hid (same_show hp)
  have HD := Lib.hid (parse_is hp).2
  have hr : (l ++ 64 :: d).length ≤ 1000000 := by simp; omega
  obtain ⟨r, hr'⟩ : ∃ r, r = l ++ 64 :: d := ⟨_, rfl⟩
  rw [← hr'] at HSH hr
  rw [HSH.out] at HSS
  clear n1 hr'
  have hxl : x.length ≤ 1000000 := by rw [hxe]; simp; omega
  have HXP := Lib.hid hxp
  have HXT := Lib.hid ((show_text s t).trans (by rw [← hxe]))
  clear hxe hxp
  have HE := Lib.hid (show endL s = true by unfold endL; rw [HM.out]; simp)
  have HPA := Lib.hid (show pathL s = 60 :: (s ++ [62]) by unfold pathL; rw [HE.out]; rfl)
  have HUP := Lib.hid (unpath_path HE.out)
  have hpl : (60 :: (s ++ [62])).length ≤ 1000000 := by simp; omega
  have hp0 : (60 :: (s ++ [62])).isEmpty = false := rfl
  obtain ⟨p, hp'⟩ : ∃ p, p = 60 :: (s ++ [62]) := ⟨_, rfl⟩
  rw [← hp'] at HPA HUP hpl hp0
  clear hp'
  have HT := Lib.hid (show pathL q = t by
    obtain ⟨h1, h2⟩ := unpath_some hu
    unfold pathL; rw [h1, h2]; rfl)
  have HQ := Lib.hid (show amayL q = true by
    obtain ⟨h1, _⟩ := unpath_some hu
    unfold endL at h1; rw [hq0] at h1; simpa using h1)
  have hql : q.length ≤ 1000000 := by
    obtain ⟨_, h2⟩ := unpath_some hu
    have := congrArg List.length h2
    simp at this; omega
  clear h hp hx hu
  go_enter Tryd.func5, Tryd.ntmps5
  go_wp2_with fail
  refine (works_bl _ B0).mono ?_
  rintro e w1 ⟨rfl, B1⟩
  go_wp2_with fail
  refine (bl_long [s, t] _ rfl _ _ rfl HL.out (by simp) HA.out B1).mono ?_
  rintro e w2 ⟨rfl, B2⟩
  go_wp2_with fail
  refine (bl_parse HP.out hs1 B2).mono ?_
  rintro e w3 ⟨rfl, B3⟩
  unfold parseV
  go_wp2_with fail
  refine (bl_amay HM.out hs1 B3).mono ?_
  rintro e w4 ⟨rfl, B4⟩
  go_wp2_with fail
  refine (bl_show HSH.out (by omega) (by omega) B4).mono ?_
  rintro e w5 ⟨rfl, B5⟩
  go_wp2_with fail
  refine (bl_same HSS.out hs1 hr B5).mono ?_
  rintro e w6 ⟨rfl, B6⟩
  go_wp2_with fail
  refine (blr (V := .bool) (may_any d _ (by omega) B6.ml) HD.out B6).mono ?_
  rintro e w7 ⟨rfl, B7⟩
  go_wp2_with fail
  refine (bl_show HX.out (by omega) (by omega) B7).mono ?_
  rintro e w8 ⟨rfl, B8⟩
  go_wp2_with fail
  refine (bl_parse HXP.out hxl B8).mono ?_
  rintro e w9 ⟨rfl, B9⟩
  unfold parseV; have hxt := HXT.out
  go_wp2_with fail
  refine (bl_path HPA.out hs1 B9).mono ?_
  rintro e w10 ⟨rfl, B10⟩
  clear hxt
  go_wp2_with fail
  refine (bl_unpath HUP.out hpl B10).mono ?_
  rintro e w11 ⟨rfl, B11⟩
  unfold unpathV
  go_wp2_with fail
  refine (bl_amay HM.out hs1 B11).mono ?_
  rintro e w12 ⟨rfl, B12⟩
  go_wp2_with fail
  refine (bl_unpath HU.out ht1 B12).mono ?_
  rintro e w13 ⟨rfl, B13⟩
  unfold unpathV
  go_wp2_with fail
  refine (bl_path HT.out hql B13).mono ?_
  rintro e w14 ⟨rfl, B14⟩
  go_wp2_with fail
  refine (bl_amay HQ.out hql B14).mono ?_
  rintro e w15 ⟨rfl, B15⟩
  have HB := Lib.hid B15.below
  go_wp2_with fail
  go_ret
  exact ⟨rfl, HB.out⟩

theorem show_nil (t : List UInt8) : showL [] t = [] := by
  unfold showL
  rw [if_neg]
  intro h
  exact absurd (localL_ne (parse_is h).1).1 (by simp)

theorem addrBack_walk (s t : ByteArray) (hs : s.data.size ≤ 140737488351232) (ht : t.data.size ≤ 140737488351232) (w : World) (hM : ML w) :
    Calls Tryd.prog 5 #[.string s, .string t] w fun e w' => e = .returned (.bool true) ∧ Below w.heap.size w w' := by
  obtain ⟨s, rfl, _⟩ := to_str s
  obtain ⟨t, rfl, _⟩ := to_str t
  have hs' : s.length ≤ 140737488351232 := by simpa using hs
  have ht' : t.length ≤ 140737488351232 := by simpa using ht
  cases h : longL [s, t] with
  | true => exact addrBack_long s t w hs' ht' h hM
  | false =>
    have hl := (long_not h).2
    have h1 : s.length ≤ 9000 := by have := hl s (by simp); omega
    have h2 : t.length ≤ 9000 := by have := hl t (by simp); omega
    have B0 := BL.start hM
    have hT : unpathL t = none ∨ unpathL t = some [] ∨ ∃ q, unpathL t = some q ∧ q.isEmpty = false := by
      cases hu : unpathL t with
      | none => exact .inl rfl
      | some q => cases q with
        | nil => exact .inr (.inl rfl)
        | cons c r => exact .inr (.inr ⟨_, rfl, rfl⟩)
    by_cases h0 : s = []
    · have hp : parseL s = none := by rw [h0]; decide
      have hx : showL s t = [] := by rw [h0]; exact show_nil t
      rcases hT with hu | hu | ⟨q, hu, hq⟩
      · exact addrBack_e0n s t w h1 h2 h h0 hp hx hu B0
      · exact addrBack_e0e s t w h1 h2 h h0 hp hx hu B0
      · exact addrBack_e0q s t w h1 h2 h h0 hp hx hu hq B0
    have h0' : s.isEmpty = false := by simpa using h0
    cases hp : parseL s with
    | none =>
      rcases show_cases s t with hx | ⟨x, hx, hx1, hx2, hx3⟩
      · rcases hT with hu | hu | ⟨q, hu, hq⟩
        · exact addrBack_n0n s t w h1 h2 h h0' hp hx hu B0
        · exact addrBack_n0e s t w h1 h2 h h0' hp hx hu B0
        · exact addrBack_n0q s t w h1 h2 h h0' hp hx hu hq B0
      · rcases hT with hu | hu | ⟨q, hu, hq⟩
        · exact addrBack_n1n s t w h1 h2 h h0' hp hx hx1 hx2 hx3 hu B0
        · exact addrBack_n1e s t w h1 h2 h h0' hp hx hx1 hx2 hx3 hu B0
        · exact addrBack_n1q s t w h1 h2 h h0' hp hx hx1 hx2 hx3 hu hq B0
    | some p =>
      obtain ⟨l, d⟩ := p
      rcases show_cases s t with hx | ⟨x, hx, hx1, hx2, hx3⟩
      · rcases hT with hu | hu | ⟨q, hu, hq⟩
        · exact addrBack_p0n s t w h1 h2 h h0' hp hx hu B0
        · exact addrBack_p0e s t w h1 h2 h h0' hp hx hu B0
        · exact addrBack_p0q s t w h1 h2 h h0' hp hx hu hq B0
      · rcases hT with hu | hu | ⟨q, hu, hq⟩
        · exact addrBack_p1n s t w h1 h2 h h0' hp hx hx1 hx2 hx3 hu B0
        · exact addrBack_p1e s t w h1 h2 h h0' hp hx hx1 hx2 hx3 hu B0
        · exact addrBack_p1q s t w h1 h2 h h0' hp hx hx1 hx2 hx3 hu hq B0
end Go.Proofs.YtpgnmdpoifbngaaDoor
