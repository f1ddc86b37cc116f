/-
  Readers of the program's: Copy.
-/
import Derived.Test.YtanfonpbnamjmaaDoorYRd
namespace Go.Proofs.YtanfonpbnamjmaaDoor
open Go Go.RowKit Go.Shelf
set_option maxRecDepth 100000

theorem owns_base {n m : Nat} {w : World} {r : Value} {k : Nat} {xs : List Value} (h : w.ownsRow m 9 1 r k xs) (hn : n ≤ m) : w.ownsRow n 9 1 r k xs := by
  refine ⟨h.1, ?_⟩
  rcases h.2 with hx | ⟨g, cap, cur, hv, hb, rest⟩
  · exact .inl hx
  · exact .inr ⟨g, cap, cur, hv, Nat.le_trans hn hb, rest⟩

theorem owns_form {n : Nat} {w : World} {v : Value} {m : Nat} {xs : List Value} (h : w.ownsRow n 9 1 v m xs) : ∃ A c, v = .slice A m c := by
  rcases h.2 with ⟨rfl, h0⟩ | ⟨g, cap, cur, rfl, _⟩
  · exact ⟨none, 0, by rw [h0]⟩
  · exact ⟨_, _, rfl⟩

/-- slices.Clone of a row. -/
theorem clone_row {n : Nat} {w : World} {v : Value} {xs : List (List UInt8)} (h : w.ownsRow n 9 1 v xs.length (xs.map sv)) (h0 : xs = [] → v = .slice none 0 0) (hl : xs.length ≤ 1000) :
    Calls Tryd.prog 53 #[v] w fun e w' => ∃ v', e = .returned v' ∧ w'.ownsRow w.heap.size 9 1 v' xs.length (xs.map sv) ∧ (xs = [] → v' = .slice none 0 0) ∧ Below w.heap.size w w' := by
  by_cases hx : xs = []
  · obtain rfl := h0 hx
    refine (Tryd.slices_Clone_string_nil 0 0 w).mono ?_
    rintro e w' ⟨rfl, rfl⟩
    refine ⟨_, rfl, ?_, fun _ => rfl, Below.refl _ _⟩
    subst hx
    exact World.ownsRow_nil _ _ _ _
  · have hp : 0 < xs.length := List.length_pos_iff.2 hx
    rcases h.2 with ⟨_, he⟩ | ⟨g, cap, cur, rfl, hb, hg, hr⟩
    · omega
    · have hc : ∀ j, j < (xs.map str).length → w.cell? ⟨g, 0 + j, none⟩ = some (.string ((xs.map str).getD j ByteArray.empty)) := by
        intro j hj
        rw [List.length_map] at hj
        have := h.cells (g := g) rfl j (sv (xs.getD j [])) (by simp [List.getElem?_map, List.getD_eq_getElem?_getD, List.getElem?_eq_getElem hj])
        have e1 : (⟨g, 0, none⟩ : Addr).add j = ⟨g, 0 + j, none⟩ := by unfold Addr.add; split <;> simp_all
        rw [e1] at this
        rw [this]
        simp [List.getD_eq_getElem?_getD, List.getElem?_map, List.getElem?_eq_getElem hj]
      refine (Tryd.slices_Clone_string g 0 xs.length cap (xs.map str) w (by simp) (by omega) hc).mono ?_
      rintro e w' ⟨v', rfl, ho, _, hb'⟩
      refine ⟨v', rfl, ?_, fun e => absurd e hx, hb'⟩
      rw [show (xs.map str).take xs.length = xs.map str from List.take_of_length_le (by simp)] at ho
      rw [List.map_map] at ho
      exact ho

/-- A copy's post. -/
def CopyPost (n : Nat) (w : World) (st : RS) (e : Ending) (w' : World) : Prop :=
  ∃ b F, e = .returned (.pointer (some ⟨b, 0, none⟩)) ∧ Rd n w' b F st ∧ Below w.heap.size w w' ∧ (∀ k ∈ F, w.heap.size ≤ k)

set_option maxHeartbeats 4000000 in
theorem copy_any {n : Nat} {w : World} {b : Nat} {F : List Nat} {st : RS} (h : Rd n w b F st) :
    Calls Tryd.prog 18 #[.pointer (some ⟨b, 0, none⟩)] w (CopyPost n w st) := by
  obtain ⟨hm, hu, hl, he, v, u, hb, hv, hu', h1, h2, h3, h4, h5⟩ := h
  obtain ⟨Av, cv, rfl⟩ := owns_form hv
  obtain ⟨Au, cu, rfl⟩ := owns_form hu'
  have hb0 : Blk w b st.c (.slice Av st.ls.length cv) st.lc st.lst (.slice Au st.lls.length cu) st.d := hb
  obtain ⟨k, hk⟩ : ∃ k, k = w.heap.size := ⟨_, rfl⟩
  obtain ⟨W, hW⟩ : ∃ W, W = w.alloc (.cells #[.int .i64 (st.c : Int), (.slice Av st.ls.length cv), .int .i64 (st.lc : Int), sv st.lst, (.slice Au st.lls.length cu), .bool st.d] 90) := ⟨_, rfl⟩
  have hbel : Below w.heap.size w W := by rw [hW]; exact (Below.refl _ w).alloc (Nat.le_refl _) _
  have hbW : Blk W b st.c (.slice Av st.ls.length cv) st.lc st.lst (.slice Au st.lls.length cu) st.d := hb0.below hbel
  have hkW : Blk W k st.c (.slice Av st.ls.length cv) st.lc st.lst (.slice Au st.lls.length cu) st.d := by rw [hW, hk]; exact heap_alloc_new w _
  have hvW : W.ownsRow n 9 1 (.slice Av st.ls.length cv) st.ls.length (st.ls.map sv) := ownsRow_kp hv (Kp.of_below hbel []) (fun g _ => by simp)
  have huW : W.ownsRow n 9 1 (.slice Au st.lls.length cu) st.lls.length (st.lls.map sv) := ownsRow_kp hu' (Kp.of_below hbel []) (fun g _ => by simp)
  have hk3 := hu b hm
  have hbk : b < k := by rw [hk]; exact hb0.lt
  have HC1 := Lib.hid (clone_row hvW h4 (by omega))
  have HUW := Lib.hid huW
  have HBEL := Lib.hid hbel
  have HBW := Lib.hid hbW
  have HKW := Lib.hid hkW
  have HK := Lib.hid hk
  have HN := Lib.hid (show n ≤ w.heap.size by omega)
  have H3 := Lib.hid hk3
  have HL := Lib.hid hl
  have HE := Lib.hid he
  have H5 := Lib.hid h5
  have HBK := Lib.hid hbk
  have HWE := Lib.hid hW
  have c0 := hb0.c0
  have c1 := hb0.c1
  have c2 := hb0.c2
  have c3 := hb0.c3
  have c4 := hb0.c4
  have c5 := hb0.c5
  have hlt := hb0.lt
  clear hm hu hl he hb hv hu' h1 h2 h3 h4 h5 hb0 hbel hbW hkW hvW huW hk3 hk hW hbk
  go_enter Tryd.func18, Tryd.ntmps18
  go_wp2_with fail
  rw [← HK.out, ← HWE.out]
  clear c0 c1 c2 c3 c4 c5 hlt
  refine (HC1.out).mono ?_
  rintro e w1 ⟨v1, rfl, o1, z1, b1⟩
  obtain ⟨A1, k1, rfl⟩ := owns_form o1
  have hb1 : Blk w1 b st.c (.slice Av st.ls.length cv) st.lc st.lst (.slice Au st.lls.length cu) st.d := HBW.out.below b1
  have hk1 : Blk w1 k st.c (.slice Av st.ls.length cv) st.lc st.lst (.slice Au st.lls.length cu) st.d := HKW.out.below b1
  have hu1 : w1.ownsRow n 9 1 (.slice Au st.lls.length cu) st.lls.length (st.lls.map sv) := ownsRow_kp HUW.out (Kp.of_below b1 []) (fun g _ => by simp)
  have hrk := HKW.out.ne (HUW.out)
  obtain ⟨X, hX⟩ : ∃ X, X = w1.setCell ⟨k, 1, none⟩ (.slice A1 st.ls.length k1) := ⟨_, rfl⟩
  have hkX : Blk X k st.c (.slice A1 st.ls.length k1) st.lc st.lst (.slice Au st.lls.length cu) st.d := by rw [hX]; exact hk1.set1 _
  have hkpX : Kp [k] w1 X := by rw [hX]; exact (Kp.refl [k] w1).setCell (by simp) _
  have hbX : Blk X b st.c (.slice Av st.ls.length cv) st.lc st.lst (.slice Au st.lls.length cu) st.d := (hkpX.block b hb1.lt (by have := HBK.out; simp; omega)).trans hb1
  have huX : X.ownsRow n 9 1 (.slice Au st.lls.length cu) st.lls.length (st.lls.map sv) := ownsRow_kp hu1 hkpX (fun g e hg => hrk (by rw [e]; simp at hg; rw [hg]))
  have hsX : X.heap.size = w1.heap.size := by rw [hX]; simp [World.setCell]
  have o1X : X.ownsRow W.heap.size 9 1 (.slice A1 st.ls.length k1) st.ls.length (st.ls.map sv) := ownsRow_kp o1 hkpX (fun g e hg => by have := (o1.lt g e).1; have := HKW.out.lt; simp at hg; omega)
  have c1 := hk1.c1
  have f1 := hk1.fr 1
  have c4 := hbX.c4
  have HC2 := Lib.hid (clone_row huX H5.out (by have := HL.out; omega))
  have HXE := Lib.hid hX
  have HO1 := Lib.hid o1X
  have HZ1 := Lib.hid z1
  have HB1 := Lib.hid b1
  have HKX := Lib.hid hkX
  have HSX := Lib.hid hsX
  rw [hX] at c4
  clear o1 z1 b1 hb1 hk1 hu1 hrk hkX hkpX hbX huX hsX o1X hX
  go_wp2_with fail
  rw [← HXE.out]
  clear c1 f1 c4
  refine (HC2.out).mono ?_
  rintro e w2 ⟨v2, rfl, o2, z2, b2⟩
  obtain ⟨A2, k2, rfl⟩ := owns_form o2
  have hk2 : Blk w2 k st.c (.slice A1 st.ls.length k1) st.lc st.lst (.slice Au st.lls.length cu) st.d := HKX.out.below b2
  obtain ⟨Y, hY⟩ : ∃ Y, Y = w2.setCell ⟨k, 4, none⟩ (.slice A2 st.lls.length k2) := ⟨_, rfl⟩
  have hkY : Blk Y k st.c (.slice A1 st.ls.length k1) st.lc st.lst (.slice A2 st.lls.length k2) st.d := by rw [hY]; exact hk2.set4 _
  have hkpY : Kp [k] w2 Y := by rw [hY]; exact (Kp.refl [k] w2).setCell (by simp) _
  have hsY : Y.heap.size = w2.heap.size := by rw [hY]; simp [World.setCell]
  have hsW := HKW.out.lt
  have hs1 := HB1.out.size
  have hsx := HSX.out
  have hs2 := b2.size
  have hkw := HK.out
  have hnn := HN.out
  have h33 := H3.out
  have o1Y : Y.ownsRow W.heap.size 9 1 (.slice A1 st.ls.length k1) st.ls.length (st.ls.map sv) := ownsRow_kp (ownsRow_kp HO1.out (Kp.of_below b2 []) (fun g _ => by simp)) hkpY (fun g e hg => by have := (HO1.out.lt g e).1; simp at hg; omega)
  have o2Y : Y.ownsRow X.heap.size 9 1 (.slice A2 st.lls.length k2) st.lls.length (st.lls.map sv) := ownsRow_kp o2 hkpY (fun g e hg => by have := (o2.lt g e).1; simp at hg; omega)
  have HWS : W.heap.size = w.heap.size + 1 := by rw [HWE.out]; simp
  have HFIN := Lib.hid (show CopyPost n w st (.returned (.pointer (some ⟨k, 0, none⟩))) Y by
    refine ⟨k, k :: (Value.ownBlock (.slice A1 st.ls.length k1)).toList ++ (Value.ownBlock (.slice A2 st.lls.length k2)).toList, rfl, ?_, ?_, ?_⟩
    · refine Rd.make (st := st) hkY (by simp) (fun x hx => ?_) HL.out HE.out (owns_base o1Y (by omega)) (owns_base o2Y (by omega)) (fun g e => by rw [e]; simp) (fun g e => by rw [e]; simp) (fun g e e' => ?_) HZ1.out z2
      · simp only [List.cons_append, List.mem_cons, List.mem_append, Option.mem_toList] at hx
        rcases hx with rfl | hx | hx
        · have := hkY.lt; omega
        · have := o1Y.lt x hx; omega
        · have := o2Y.lt x hx; omega
      · have h1 := (HO1.out.lt g e).2
        have h2 := (o2.lt g e').1
        omega
    · refine (HBEL.out).trans ?_
      have e1 : Below w.heap.size W w1 := HB1.out.mono (by omega)
      have e2 : Below w.heap.size w1 X := by rw [HXE.out]; exact (Below.refl _ w1).setCell (p := ⟨k, 1, none⟩) (by simp; omega) _
      have e3 : Below w.heap.size X w2 := b2.mono (by omega)
      have e4 : Below w.heap.size w2 Y := by rw [hY]; exact (Below.refl _ w2).setCell (p := ⟨k, 4, none⟩) (by simp; omega) _
      exact e1.trans (e2.trans (e3.trans e4))
    · intro x hx
      simp only [List.cons_append, List.mem_cons, List.mem_append, Option.mem_toList] at hx
      rcases hx with rfl | hx | hx
      · omega
      · have := o1Y.lt x hx; omega
      · have := o2Y.lt x hx; omega)
  have c4 := hk2.c4
  have f4 := hk2.fr 4
  have HYE := Lib.hid hY
  clear o2 z2 b2 hk2 hkY hkpY hsY hsW hs1 hsx hs2 hkw hnn h33 o1Y o2Y HWS hY
  go_wp2_with fail
  rw [← HYE.out]
  go_ret
  exact HFIN.out
end Go.Proofs.YtanfonpbnamjmaaDoor
