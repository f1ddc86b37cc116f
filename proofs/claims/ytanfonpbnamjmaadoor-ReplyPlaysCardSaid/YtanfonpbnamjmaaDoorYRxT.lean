/-
  The reference's Take and Copy; the law's told.
-/
import Derived.Test.YtanfonpbnamjmaaDoorYRxW
import Derived.Test.YtanfonpbnamjmaaDoorYNil
namespace Go.Proofs.YtanfonpbnamjmaaDoor
open Go Go.RowKit Go.Shelf
set_option maxRecDepth 100000

def XTakePost (n : Nat) (w : World) (b : Nat) (G : List Nat) (raw : List (List UInt8)) (st : RS) (e : Ending) (w' : World) : Prop :=
  ∃ u, e = .returned (.tuple #[repV st.lc st.lst u, .bool (decide (0 < st.lls.length))]) ∧ Rx n w' b G raw (takenR st) ∧ RowG w' G u st.lls ∧ Kp [b] w w'

theorem kp_set4 (W : World) (k : Nat) (x y z t : Value) : Kp [k] W ((((W.setCell ⟨k, 1, none⟩ x).setCell ⟨k, 2, none⟩ y).setCell ⟨k, 3, none⟩ z).setCell ⟨k, 4, none⟩ t) :=
  ((((Kp.refl [k] W).setCell (p := ⟨k, 1, none⟩) (by simp) _).setCell (p := ⟨k, 2, none⟩) (by simp) _).setCell (p := ⟨k, 3, none⟩) (by simp) _).setCell (p := ⟨k, 4, none⟩) (by simp) _

set_option maxHeartbeats 4000000 in
theorem xtake_any {n : Nat} {w : World} {b : Nat} {G raw} {st : RS} (h : Rx n w b G raw st) :
    Calls Tryd.prog 24 #[.pointer (some ⟨b, 0, none⟩)] w (XTakePost n w b G raw st) := by
  have hlt := h.lt
  obtain ⟨a1, a2, a3, a4, a5, a6, a7, v, u, hb, hv, hu, e1, e2⟩ := h
  have hu2 := hu
  obtain ⟨A, cu, rfl, -⟩ := hu2
  obtain ⟨has, hh⟩ : ∃ x, x = decide (0 < st.lls.length) := ⟨_, rfl⟩
  obtain ⟨X, hX⟩ : ∃ X, X = (((w.setCell ⟨b, 1, none⟩ (.int .i64 ((0 : Nat) : Int))).setCell ⟨b, 2, none⟩ (sv [])).setCell ⟨b, 3, none⟩ (.slice none 0 0)).setCell ⟨b, 4, none⟩ (.bool false) := ⟨_, rfl⟩
  have hk : Kp [b] w X := by rw [hX]; exact kp_set4 _ _ _ _ _ _
  have HRX := Lib.hid (show Rx n X b G raw (takenR st) from ⟨a1, a2, a3, a4, a5, ⟨a6.1, by simp [takenR]⟩, fun _ => ⟨rfl, rfl⟩, v, .slice none 0 0, by rw [hX]; exact (((hb.set1 0).set2 []).set3 _).set4 false, hv.kp hk (fun k hg hg' => by simp at hg'; subst hg'; exact a1 hg), RowG.nil _ _, e1, fun _ => rfl⟩)
  have HRU := Lib.hid (show RowG X G (.slice A st.lls.length cu) st.lls from hu.kp hk (fun k hg hg' => by simp at hg'; subst hg'; exact a1 hg))
  have HKX := Lib.hid hk
  have hsX : X.heap.size = w.heap.size := by rw [hX]; simp [World.setCell]
  have HXE := Lib.hid hX
  have HSX := Lib.hid hsX
  have c1 := hb.c1; have c2 := hb.c2; have c3 := hb.c3; have c4 := hb.c4
  have f1 := hb.fr 1; have f2 := hb.fr 2; have f3 := hb.fr 3; have f4 := hb.fr 4
  rw [← hh] at c4
  have HH := Lib.hid hh
  clear hb hh hX hk hv hu a1 a2 a3 a4 a5 a6 a7 e1 e2 hsX
  go_enter Tryd.func24, Tryd.ntmps24
  go_wp2_with fail
  go_region
  go_wp2_with fail
  obtain ⟨R, hR⟩ : ∃ R, R = Obj.cells #[.int .i64 (st.lc : Int), sv st.lst, .slice A st.lls.length cu] 35 := ⟨_, rfl⟩
  have hg : ((X.alloc R).alloc R).drew.heap[w.heap.size]? = some R := by
    rw [← HSX.out]
    exact (Lib.alloc_old _ R _ (by simp)).trans (heap_alloc_new X R)
  have hbl : Below X.heap.size X ((X.alloc R).alloc R).drew := (((Below.refl _ X).alloc (Nat.le_refl _) _).alloc (by simp) _).drew
  rw [hR] at hg
  rw [HXE.out] at hg
  refine bodyPost_ret (results_cell_tmp (p := 2) (q := 3) (fr := (0, 0)) Tryd.results24 _ _ w.heap.size 35 _ _ rfl hg Tryd.underlying35 rfl (by kernel_rfl)) rfl ?_
  rw [hR] at hbl
  have hfin : XTakePost n w b G raw st (.returned (.tuple #[repV st.lc st.lst (.slice A st.lls.length cu), .bool has])) ((X.alloc (Obj.cells #[.int .i64 (st.lc : Int), sv st.lst, .slice A st.lls.length cu] 35)).alloc (Obj.cells #[.int .i64 (st.lc : Int), sv st.lst, .slice A st.lls.length cu] 35)).drew :=
    ⟨_, by rw [HH.out], HRX.out.below hbl, HRU.out.kp (Kp.of_below hbl []) (fun k _ => by simp), (HKX.out).below hbl⟩
  rw [HXE.out] at hfin
  exact hfin

set_option maxHeartbeats 4000000 in
theorem xcopy_any {n : Nat} {w : World} {b : Nat} {G raw} {st : RS} (h : Rx n w b G raw st) (hn : n ≤ w.heap.size) (h3 : 4 + 1 ≤ w.heap.size) (hG : ∀ k ∈ G, k < w.heap.size) :
    Calls Tryd.prog 19 #[.pointer (some ⟨b, 0, none⟩)] w fun e w' => ∃ c, e = .returned (.pointer (some ⟨c, 0, none⟩)) ∧ c = w.heap.size ∧ Rx n w' c G raw st ∧ Below w.heap.size w w' := by
  have hlt := h.lt
  have HA := Lib.hid (show ∀ v u, Xlk w b v st.lc st.lst u (decide (0 < st.lls.length)) st.d → RowG w G v raw → RowG w G u st.lls → (raw = [] → v = .slice none 0 0) → (st.lls = [] → u = .slice none 0 0) → Rx n (w.alloc (.cells #[v, .int .i64 (st.lc : Int), sv st.lst, u, .bool (decide (0 < st.lls.length)), .bool st.d] 37)) w.heap.size G raw st from fun v u hb hv hu e1 e2 =>
    ⟨fun e => by have := hG _ e; omega, ⟨hn, h3⟩, h.ls, h.ok, h.c, h.len, h.em, v, u, heap_alloc_new w _, hv.kp (Kp.of_below (below_alloc _ _) []) (fun k _ => by simp), hu.kp (Kp.of_below (below_alloc _ _) []) (fun k _ => by simp), e1, e2⟩)
  obtain ⟨a1, a2, a3, a4, a5, a6, a7, v, u, hb, hv, hu, e1, e2⟩ := h
  have HF := Lib.hid (HA.out v u hb hv hu e1 e2)
  obtain ⟨A, cv, rfl, -⟩ := hv
  obtain ⟨B, cu, rfl, -⟩ := hu
  have c0 := hb.c0; have c1 := hb.c1; have c2 := hb.c2; have c3 := hb.c3; have c4 := hb.c4; have c5 := hb.c5
  clear a1 a2 a3 a4 a5 a6 a7 hb e1 e2
  go_enter Tryd.func19, Tryd.ntmps19
  go_wp2_with fail
  go_ret
  exact ⟨_, rfl, rfl, HF.out, below_alloc _ _⟩

/-! ### told -/
theorem rsame_eq (c : Nat) (a : List UInt8) (xs : List (List UInt8)) (v u : Value) (w : World) (hx : RowIs w v xs) (hy : RowIs w u xs) (hl : xs.length ≤ 1000000) :
    Calls Tryd.prog 58 #[repV c a v, repV c a u] w fun e w' => e = .returned (.bool true) ∧ Below w.heap.size w w' := by
  have := rsame_any c c a a xs xs v u w hx hy hl hl
  simpa using this
/-- A row that may be written over: a block of as many cells. -/
def Wr (W : World) (A : Option Addr) (m : Nat) (G : List Nat) : Prop := 0 < m → ∃ g cs, A = some ⟨g, 0, none⟩ ∧ g ∈ G ∧ W.heap[g]? = some (.cells cs 9 (0, 0)) ∧ m ≤ cs.size ∧ ∀ j, j < m → ∃ z, cs[j]? = some (.string z)
theorem Rw.wr {n : Nat} {w : World} {G : List Nat} {A : Option Addr} {c : Nat} {xs : List (List UInt8)} (h : Rw n w G (.slice A xs.length c) xs) : Wr w A xs.length G := by
  intro h0
  have ho := h.1
  rcases ho.2 with ⟨_, hz⟩ | ⟨g, cap, cur, hv, hb, hg, hc, _, hs, ht⟩
  · omega
  · have hv' := hv
    simp only [Value.slice.injEq] at hv'
    obtain ⟨rfl, _, rfl⟩ := hv'
    refine ⟨g, cur, rfl, h.2.1 g rfl, hg, by omega, fun j hj => ?_⟩
    have h1 : (cur.toList.take (xs.length * 1))[j]? = cur.toList[j]? := List.getElem?_take_of_lt (by omega)
    rw [ht, List.getElem?_map, List.getElem?_eq_getElem hj] at h1
    exact ⟨_, by rw [← Array.getElem?_toList, ← h1]; rfl⟩
theorem Wr.kp {W W' : World} {A : Option Addr} {m : Nat} {G S : List Nat} (h : Wr W A m G) (hk : Kp S W W') (hs : ∀ k ∈ G, k ∉ S) : Wr W' A m G := by
  intro h0
  obtain ⟨g, cs, e, hg, hb, hm, hc⟩ := h h0
  exact ⟨g, cs, e, hg, (hk.block g (lt_of_blk hb) (hs g hg)).trans hb, hm, hc⟩
theorem Wr.set {W : World} {g m i : Nat} {G : List Nat} (h : Wr W (some ⟨g, 0, none⟩) m G) (z : ByteArray) : Wr (W.setCell ⟨g, i, none⟩ (.string z)) (some ⟨g, 0, none⟩) m G := by
  intro h0
  obtain ⟨g', cs, e, hg, hb, hm, hc⟩ := h h0
  simp only [Option.some.injEq, Addr.mk.injEq] at e
  obtain ⟨rfl, _⟩ := e
  refine ⟨g, _, rfl, hg, blk_set hb i _, by simpa using hm, fun j hj => ?_⟩
  rw [Array.getElem?_setIfInBounds]
  split
  · split
    · exact ⟨_, rfl⟩
    · omega
  · exact hc j hj

set_option maxHeartbeats 8000000 in
theorem told_any {n : Nat} (lc : Nat) (lst : List UInt8) (xs : List (List UInt8)) (v u : Value) (w : World) (G : List Nat) (hx : Rw n w G v xs) (hu : RowIs w u xs) (hl : xs.length ≤ 1000000) :
    Calls Tryd.prog 25 #[repV lc lst v, repV lc lst u] w fun e w' => e = .returned (.bool true) ∧ Kp G w w' := by
  obtain ⟨A, c, rfl⟩ := hx.form
  have hu0 := hu
  obtain ⟨B, d, rfl, -⟩ := hu0
  obtain ⟨k, hk⟩ : ∃ k, k = w.heap.size := ⟨_, rfl⟩
  obtain ⟨W, hW⟩ : ∃ W, W = (w.alloc (.cells #[.int .i64 (lc : Int), sv lst, .slice A xs.length c] 42)).alloc (.cells #[.int .i64 (lc : Int), sv lst, .slice B xs.length d] 35) := ⟨_, rfl⟩
  have hbW : Below w.heap.size w W := by rw [hW]; exact ((Below.refl _ w).alloc (Nat.le_refl _) _).alloc (by simp) _
  have b1 : W.heap[k]? = some (.cells #[.int .i64 (lc : Int), sv lst, .slice A xs.length c] 42 (0, 0)) := by
    rw [hW, hk]; exact (Lib.alloc_old _ _ _ (by simp)).trans (heap_alloc_new w _)
  have HS := Lib.hid (rsame_eq lc lst xs _ _ W (hx.row.step hbW) (hu.step hbW) hl)
  have HBW := Lib.hid hbW
  have HK := Lib.hid hk
  have HB1 := Lib.hid b1
  have HW := Lib.hid hW
  have HWR := Lib.hid ((hx.wr).kp (Kp.of_below hbW []) (fun k _ => by simp))
  have HGL := Lib.hid hx.lt
  clear hbW hk b1 hx hu hW
  go_enter Tryd.func25, Tryd.ntmps25
  unfold repV
  go_wp2_with fail
  rw [← HK.out, ← HW.out]
  refine (HS.out).mono ?_
  rintro e w1 ⟨rfl, hb⟩
  have HR1 := Lib.hid (((HWR.out).kp (Kp.of_below hb []) (fun k _ => by simp)))
  have HBK1 := Lib.hid (blk_below HB1.out hb)
  have HKP := Lib.hid (show Kp G w w1 from (Kp.of_below ((HBW.out).trans (hb.mono HBW.out.size)) G))
  clear hb
  go_wp2_with fail
  go_loopw [6] (fun i wr => ∃ m : Nat, m ≤ xs.length ∧ i = .int .i64 m ∧ Wr wr A xs.length G ∧ wr.heap[k]? = some (.cells #[.int .i64 (lc : Int), sv lst, .slice A xs.length c] 42 (0, 0)) ∧ Kp G w wr) (fun i _ => xs.length - (intOf i).toNat)
  case atStart => exact ⟨0, Nat.zero_le _, rfl, HR1.out, HBK1.out, HKP.out⟩
  case round =>
    obtain ⟨m, hm, rfl, hw, hbk, hkp⟩ := hrel
    have q2 : wr.cell? ⟨k, 2, none⟩ = some (.slice A xs.length c) := by rw [cellAt hbk]; rfl
    by_cases hlt : m < xs.length
    · obtain ⟨g, cs, rfl, hg, hb, hms, hc⟩ := hw (by omega)
      obtain ⟨z, hz⟩ := hc m hlt
      have q3 : wr.cell? ⟨g, m, none⟩ = some (.string z) := by rw [cellAt hb]; exact hz
      have f3 := freeAt hb m
      have HW2 := Lib.hid (hw.set (i := m) { data := #[115, 112, 111, 105, 108, 116] })
      have hkl := lt_of_blk hbk
      have hgk : k ≠ g := by have := HGL.out g hg; have := HK.out; omega
      have HB2 := Lib.hid (show (wr.setCell ⟨g, m, none⟩ (.string { data := #[115, 112, 111, 105, 108, 116] })).heap[k]? = some (.cells #[.int .i64 (lc : Int), sv lst, .slice (some ⟨g, 0, none⟩) xs.length c] 42 (0, 0)) from (Below.heap_setCell _ _ _ _ hgk).trans hbk)
      have HK2 := Lib.hid (hkp.setCell (p := ⟨g, m, none⟩) hg (.string { data := #[115, 112, 111, 105, 108, 116] }))
      clear hw hbk hkp hb hc hz hms
      go_wp2_with fail
      go_roundw
      case rel => exact ⟨m + 1, by omega, by go_num, HW2.out, HB2.out, HK2.out⟩
      case measure => simp [intOf]; omega
    · obtain rfl : m = xs.length := by omega
      have q4 : ¬ ((xs.length : Int) < xs.length) := by omega
      have HK2 := Lib.hid hkp
      clear hw hbk hkp
      go_wp2_with fail
      go_ret
      exact ⟨rfl, HK2.out⟩
end Go.Proofs.YtanfonpbnamjmaaDoor
