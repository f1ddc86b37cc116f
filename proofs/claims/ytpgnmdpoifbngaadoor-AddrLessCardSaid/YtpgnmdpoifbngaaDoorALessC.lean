/-
  The walk of AddrLess.
-/
import Derived.WalkLawsBesides
import Derived.Deep.RegionLaw
import Derived.Deep.QuietTactic
import Derived.Deep.CutRange
import Derived.Sort.Walk0
import Derived.BigQuiet
import Derived.Test.YtpgnmdpoifbngaaDoorARPars
import Derived.Deep.RegionHeld3
import Derived.Test.YtpgnmdpoifbngaaDoorALess1
namespace Go.Proofs.YtpgnmdpoifbngaaDoor
open Go Go.RowKit
set_option maxRecDepth 100000

theorem run_made (n : Nat) (hn : n ≤ 1000000) (w : World) : (Instr.makeSlice 43 (.int .i64 (n : Int)) (.int .i64 (n : Int))).run Tryd.prog w = .ok (.slice (some ⟨w.heap.size, 0, none⟩) n n) (w.alloc (.cells ((List.replicate n false).map Value.bool).toArray 4)) := by
  obtain ⟨i, hi, hz0, hz1, hz2⟩ := info_parts (show (Tryd.prog.info? 4).map (fun i => (i.zero, i.size, i.bytes)) = some (some (.bool false), 1, 1) by kernel_rfl)
  have := run_make w 43 4 i (.bool false) Tryd.underlying43 hi hz0 .i64 .i64 (n : Int) (n : Int) (by omega) (by omega) (by rw [hz2]; omega) (by omega)
  rw [hz1] at this
  simp only [Int.toNat_natCast, Nat.mul_one] at this
  rw [this]
  congr 3
  apply Array.ext
  · simp [madeCells]
  · intro j h1 h2
    simp [madeCells, Value.cells, Nat.mod_one]

/-- What all ways of AddrLess begin by. -/
theorem less_texts (f en tx : List UInt8) (q : Bool) (rs : List RC) (A : Option Addr) (c : Nat) (w : World) (hv : RcIs w (.slice A rs.length c) rs) (hl : rs.length ≤ 9223372036854775807) (W : World) (hb : MB w (mailCells f (.slice A rs.length c) q en tx) W) :
    Calls Tryd.prog 26 #[mailV f (.slice A rs.length c) q en tx] W fun e w' => ∃ v, e = .returned v ∧ RowIs w' v (f :: en :: tx :: tosL (rs.take 400)) ∧ MB w (mailCells f (.slice A rs.length c) q en tx) w' :=
  (texts_any f en tx q rs (.slice A rs.length c) W (hv.step hb.1.below) hl).mono fun _ _ ⟨v, h1, h2⟩ => ⟨v, h1, h2.row, hb.1.step h2.below, (h2.below.block _ (lt_of_blk hb.2)).trans hb.2⟩
theorem texts_big {f en tx : List UInt8} {rs : List RC} (hx : ∀ r ∈ rs, r.1.length ≤ 9223372036854775807) (hf : f.length ≤ 9223372036854775807) (hen : en.length ≤ 9223372036854775807) (htx : tx.length ≤ 9223372036854775807) : ∀ x ∈ f :: en :: tx :: tosL (rs.take 400), x.length ≤ 9223372036854775807 := by
  intro x h
  simp only [List.mem_cons] at h
  rcases h with rfl | rfl | rfl | h
  · exact hf
  · exact hen
  · exact htx
  · obtain ⟨r, hr, rfl⟩ := List.mem_map.1 h
    exact hx r (List.mem_of_mem_take hr)
theorem texts_count (f en tx : List UInt8) (rs : List RC) : (f :: en :: tx :: tosL (rs.take 400)).length ≤ 1000000 := by
  simp; omega
theorem mb_works {w : World} {cs : Array Value} (W : World) (hb : MB w cs W) : Calls Tryd.prog 8 #[] W fun e w' => e = .returned (.bool true) ∧ MB w cs w' := by
  have h := works_bl (w0 := W) W (BL.start hb.1.ml)
  exact h.mono fun _ _ ⟨h1, h2⟩ => ⟨h1, hb.1.step h2.below, (h2.below.block _ (lt_of_blk hb.2)).trans hb.2⟩
theorem mb_start {w : World} (hM : ML w) (cs : Array Value) : MB w cs (w.alloc (.cells cs 40)) := ⟨(BL.start hM).alloc _, heap_alloc_new _ _⟩
theorem mb_keep {w W W' : World} {cs : Array Value} (h : MB w cs W) (hb : Below W.heap.size W W') : MB w cs W' := ⟨h.1.step hb, (hb.block _ (lt_of_blk h.2)).trans h.2⟩
theorem MB.all {w W : World} {f en tx : List UInt8} {q : Bool} {rv : Value} (h : MB w (mailCells f rv q en tx) W) :
    W.cell? ⟨w.heap.size, 0, none⟩ = some (sv f) ∧ W.cell? ⟨w.heap.size, 1, none⟩ = some rv ∧ W.cell? ⟨w.heap.size, 2, none⟩ = some (.bool q) ∧ W.cell? ⟨w.heap.size, 3, none⟩ = some (sv en) ∧ W.cell? ⟨w.heap.size, 4, none⟩ = some (sv tx) := by
  refine ⟨?_, ?_, ?_, ?_, ?_⟩ <;> (rw [cellAt h.2]; rfl)

theorem RcIs.at_ {W : World} {g off n c : Nat} {rs : List RC} (h : RcIs W (.slice (some ⟨g, off, none⟩) n c) rs) {j : Nat} (hj : j < rs.length) : g < W.heap.size ∧ W.cell? ⟨g, off + j * 2, none⟩ = some (sv (rs.getD j rc0).1) ∧ W.cell? ⟨g, off + j * 2 + 1, none⟩ = some (.bool (rs.getD j rc0).2) := by
  obtain ⟨A, c', e, h⟩ := h
  simp only [Value.slice.injEq] at e
  obtain ⟨rfl, _, _⟩ := e
  obtain ⟨g', off', e, hg, hc⟩ := h (by omega)
  simp only [Option.some.injEq, Addr.mk.injEq, and_true] at e
  obtain ⟨rfl, rfl⟩ := e
  exact ⟨hg, hc j hj⟩
theorem RcIs.take {W : World} {g off n c c' k : Nat} {rs : List RC} (h : RcIs W (.slice (some ⟨g, off, none⟩) n c) rs) (hk : k ≤ rs.length) (hk0 : 0 < k) : RcIs W (.slice (some ⟨g, off, none⟩) k c') (rs.take k) := by
  refine ⟨some ⟨g, off, none⟩, c', by rw [List.length_take, Nat.min_eq_left hk], fun _ => ⟨g, off, rfl, (h.at_ (j := 0) (by omega)).1, fun j hj => ?_⟩⟩
  rw [List.length_take] at hj
  have := (h.at_ (j := j) (by omega)).2
  have e : (rs.take k).getD j rc0 = rs.getD j rc0 := by
    rw [List.getD_eq_getElem?_getD, List.getD_eq_getElem?_getD, List.getElem?_take_of_lt (by omega)]
  rw [e]; exact this
theorem tos_take (rs : List RC) (k : Nat) : tosL (rs.take k) = (tosL rs).take k := by unfold tosL; rw [List.map_take]
theorem run_cut_rc (g off n c : Nat) (hn : n ≤ c) (hc : 0 < c) (w : World) : (Instr.slice 38 (.slice (some ⟨g, off, none⟩) (n + 1) c) none (some (.int .i64 (n : Int))) none).run Tryd.prog w = .ok (.slice (some ⟨g, off, none⟩) n c) w := by
  have h1 : (n : Int) ≤ (c : Int) := by omega
  have h2 : ¬ c = 0 := by omega
  go_simp
/-- What lies there still: the mail's box, the row of domains, the truth values. -/
def LS (w : World) (cs : Array Value) (gd gf : Nat) (D : List (List UInt8)) (W : World) (F : List Bool) : Prop :=
  MB w cs W ∧ (∀ j, j < D.length → W.cell? ⟨gd, j, none⟩ = some (sv (D.getD j []))) ∧ FB W gf F ∧ gd < gf ∧ w.heap.size < gf
theorem LS.step {w W W' : World} {cs : Array Value} {gd gf : Nat} {D : List (List UInt8)} {F : List Bool} (h : LS w cs gd gf D W F) (hb : Below W.heap.size W W') : LS w cs gd gf D W' F := by
  obtain ⟨h1, h2, h3, h4, h5⟩ := h
  have hg := lt_of_blk h3
  exact ⟨mb_keep h1 hb, fun j hj => (hb.cell (p := ⟨gd, j, none⟩) (show gd < W.heap.size by omega)).trans (h2 j hj), (hb.block gf hg).trans h3, h4, h5⟩
theorem LS.set {w W : World} {cs : Array Value} {gd gf : Nat} {D : List (List UInt8)} {F : List Bool} (h : LS w cs gd gf D W F) (hM : ML w) (k : Nat) (b : Bool) : LS w cs gd gf D (W.setCell ⟨gf, k, none⟩ (.bool b)) (F.set k b) := by
  obtain ⟨h1, h2, h3, h4, h5⟩ := h
  refine ⟨⟨h1.1.set hM (by omega) _, ?_⟩, fun j hj => ?_, h3.set k b, h4, h5⟩
  · rw [heap_set_ne _ (by omega)]; exact h1.2
  · rw [World.cell?_setCell_other _ _ _ _ (by intro e; injection e; omega)]; exact h2 j hj
theorem has_all {D : List (List UInt8)} {d : List UInt8} (h : d ∈ D) : (D.take D.length).contains d = true := by
  rw [List.take_length, List.contains_iff_mem]; exact h
theorem has_next {D : List (List UInt8)} {d : List UInt8} {k : Nat} (hk : k < D.length) : ((D.take k).contains d || (D.getD k [] == d)) = (D.take (k + 1)).contains d := by
  rw [List.take_succ_eq_append_getElem hk, List.getD_eq_getElem?_getD, List.getElem?_eq_getElem hk, Bool.eq_iff_iff, Bool.or_eq_true, List.contains_iff_mem, List.contains_iff_mem, List.mem_append, beq_iff_eq]
  simp [eq_comm]

set_option maxHeartbeats 4000000 in
theorem addrLess_long (f en tx : List UInt8) (q : Bool) (rs : List RC) (A : Option Addr) (c : Nat) (r m : Int) (w : World) (hv : RcIs w (.slice A rs.length c) rs) (hl : rs.length ≤ 9223372036854775807) (hx : ∀ r ∈ rs, r.1.length ≤ 9223372036854775807) (hf : f.length ≤ 9223372036854775807) (hen : en.length ≤ 9223372036854775807) (htx : tx.length ≤ 9223372036854775807) (hM : ML w) (h : longL (f :: en :: tx :: tosL (rs.take 400)) = true) :
    Calls Tryd.prog 7 #[mailV f (.slice A rs.length c) q en tx, .int .i64 r, .int .i64 m] w fun e w' => e = .returned (.bool true) ∧ Below w.heap.size w w' := by
  have HS := Lib.hid (mb_start hM (mailCells f (.slice A rs.length c) q en tx))
  have HT := Lib.hid (less_texts f en tx q rs A c w hv hl)
  have HB := Lib.hid (texts_big (f := f) (en := en) (tx := tx) hx hf hen htx)
  have HL := Lib.hid h
  clear hv hx hM h
  go_enter Tryd.func7, Tryd.ntmps7
  go_wp2_with fail
  refine (mb_works _ HS.out).mono ?_
  rintro e w1 ⟨rfl, hb1⟩
  obtain ⟨c0, c1, c2, c3, c4⟩ := hb1.all
  have HB1 := Lib.hid hb1
  clear hb1
  go_wp2_with fail
  clear c0 c1 c2 c3 c4
  refine (HT.out _ HB1.out).mono ?_
  rintro e w2 ⟨v, rfl, hr, hb2⟩
  have HB2 := Lib.hid hb2
  have HR := Lib.hid hr
  clear hb2 hr
  go_wp2_with fail
  refine (long_any _ _ _ HR.out (texts_count f en tx rs) HB.out).mono ?_
  rintro e w3 ⟨rfl, rfl⟩
  rw [HL.out]
  obtain ⟨c0, c1, c2, c3, c4⟩ := HB2.out.all
  go_wp2_with fail
  clear c0 c1 c2 c3 c4
  refine (mb_works _ HB2.out).mono ?_
  rintro e w9 ⟨rfl, hb9⟩
  have HB9 := Lib.hid hb9.1.below
  clear hb9
  go_wp2_with fail
  go_ret
  exact ⟨rfl, HB9.out⟩

set_option maxHeartbeats 4000000 in
theorem addrLess_many (f en tx : List UInt8) (q : Bool) (rs : List RC) (A : Option Addr) (c : Nat) (r m : Int) (w : World) (hv : RcIs w (.slice A rs.length c) rs) (hl : rs.length ≤ 9223372036854775807) (hx : ∀ r ∈ rs, r.1.length ≤ 9223372036854775807) (hf : f.length ≤ 9223372036854775807) (hen : en.length ≤ 9223372036854775807) (htx : tx.length ≤ 9223372036854775807) (hM : ML w) (h : longL (f :: en :: tx :: tosL (rs.take 400)) = false) (hn : 300 < rs.length) :
    Calls Tryd.prog 7 #[mailV f (.slice A rs.length c) q en tx, .int .i64 r, .int .i64 m] w fun e w' => e = .returned (.bool true) ∧ Below w.heap.size w w' := by
  have HS := Lib.hid (mb_start hM (mailCells f (.slice A rs.length c) q en tx))
  have HT := Lib.hid (less_texts f en tx q rs A c w hv hl)
  have HB := Lib.hid (texts_big (f := f) (en := en) (tx := tx) hx hf hen htx)
  have HL := Lib.hid h
  clear hv hx hM h
  go_enter Tryd.func7, Tryd.ntmps7
  go_wp2_with fail
  refine (mb_works _ HS.out).mono ?_
  rintro e w1 ⟨rfl, hb1⟩
  obtain ⟨c0, c1, c2, c3, c4⟩ := hb1.all
  have HB1 := Lib.hid hb1
  clear hb1
  go_wp2_with fail
  clear c0 c1 c2 c3 c4
  refine (HT.out _ HB1.out).mono ?_
  rintro e w2 ⟨v, rfl, hr, hb2⟩
  have HB2 := Lib.hid hb2
  have HR := Lib.hid hr
  clear hb2 hr
  go_wp2_with fail
  refine (long_any _ _ _ HR.out (texts_count f en tx rs) HB.out).mono ?_
  rintro e w3 ⟨rfl, rfl⟩
  rw [HL.out]
  obtain ⟨c0, c1, c2, c3, c4⟩ := HB2.out.all
  go_wp2_with fail
  clear c0 c1 c2 c3 c4
  refine (mb_works _ HB2.out).mono ?_
  rintro e w9 ⟨rfl, hb9⟩
  have HB9 := Lib.hid hb9.1.below
  clear hb9
  go_wp2_with fail
  go_ret
  exact ⟨rfl, HB9.out⟩

set_option maxHeartbeats 4000000 in
theorem addrLess_not (f en tx : List UInt8) (q : Bool) (rs : List RC) (A : Option Addr) (c : Nat) (r m : Int) (w : World) (hv : RcIs w (.slice A rs.length c) rs) (hl : rs.length ≤ 9223372036854775807) (hx : ∀ r ∈ rs, r.1.length ≤ 9223372036854775807) (hf : f.length ≤ 9223372036854775807) (hen : en.length ≤ 9223372036854775807) (htx : tx.length ≤ 9223372036854775807) (hM : ML w) (h : longL (f :: en :: tx :: tosL (rs.take 400)) = false) (hn : rs.length ≤ 300) (hx1 : ∀ r ∈ rs, r.1.length ≤ 1000000) (hf1 : f.length ≤ 1000000) (hen1 : en.length ≤ 1000000) (htx1 : tx.length ≤ 1000000) (hz : mailL f (tosL rs) en tx r m ≠ 0) :
    Calls Tryd.prog 7 #[mailV f (.slice A rs.length c) q en tx, .int .i64 r, .int .i64 m] w fun e w' => e = .returned (.bool true) ∧ Below w.heap.size w w' := by
  have HS := Lib.hid (mb_start hM (mailCells f (.slice A rs.length c) q en tx))
  have HT := Lib.hid (less_texts f en tx q rs A c w hv hl)
  have HB := Lib.hid (texts_big (f := f) (en := en) (tx := tx) hx hf hen htx)
  have HL := Lib.hid h
  have HV := Lib.hid hv
  have HX := Lib.hid hx1
  obtain ⟨z, hzz⟩ : ∃ z, z = mailL f (tosL rs) en tx r m := ⟨_, rfl⟩
  rw [← hzz] at hz
  have HZ := Lib.hid hzz
  have ez : (z != 0) = true := by simpa using hz
  clear hv hx hM h hx1 hzz hz
  go_enter Tryd.func7, Tryd.ntmps7
  go_wp2_with fail
  refine (mb_works _ HS.out).mono ?_
  rintro e w1 ⟨rfl, hb1⟩
  obtain ⟨c0, c1, c2, c3, c4⟩ := hb1.all
  have HB1 := Lib.hid hb1
  clear hb1
  go_wp2_with fail
  clear c0 c1 c2 c3 c4
  refine (HT.out _ HB1.out).mono ?_
  rintro e w2 ⟨v, rfl, hr, hb2⟩
  have HB2 := Lib.hid hb2
  have HR := Lib.hid hr
  clear hb2 hr
  go_wp2_with fail
  refine (long_any _ _ _ HR.out (texts_count f en tx rs) HB.out).mono ?_
  rintro e w3 ⟨rfl, rfl⟩
  rw [HL.out]
  obtain ⟨c0, c1, c2, c3, c4⟩ := HB2.out.all
  go_wp2_with fail
  clear c0 c1 c2 c3 c4
  refine (mb (mail_any f en tx q rs (.slice A rs.length c) r m _ (HV.out.step HB2.out.1.below) (by omega) HX.out hf1 hen1 htx1 HB2.out.1.ml) HB2.out).mono ?_
  rintro e w4 ⟨rfl, hb4⟩
  rw [← HZ.out]
  have HB4 := Lib.hid hb4
  obtain ⟨c0, c1, c2, c3, c4⟩ := hb4.all
  clear hb4
  go_wp2_with fail
  clear c0 c1 c2 c3 c4
  refine (mb_works _ HB4.out).mono ?_
  rintro e w9 ⟨rfl, hb9⟩
  have HB9 := Lib.hid hb9.1.below
  clear hb9
  go_wp2_with fail
  go_ret
  exact ⟨rfl, HB9.out⟩

set_option maxHeartbeats 16000000 in
theorem addrLess_ok (f en tx : List UInt8) (q : Bool) (rs : List RC) (ga oa : Nat) (c : Nat) (r m : Int) (w : World) (hv : RcIs w (.slice (some ⟨ga, oa, none⟩) rs.length c) rs) (hl : rs.length ≤ 9223372036854775807) (hx : ∀ r ∈ rs, r.1.length ≤ 9223372036854775807) (hf : f.length ≤ 9223372036854775807) (hen : en.length ≤ 9223372036854775807) (htx : tx.length ≤ 9223372036854775807) (hM : ML w) (h : longL (f :: en :: tx :: tosL (rs.take 400)) = false) (hn : rs.length ≤ 300) (hx1 : ∀ r ∈ rs, r.1.length ≤ 1000000) (hf1 : f.length ≤ 1000000) (hen1 : en.length ≤ 1000000) (htx1 : tx.length ≤ 1000000) (hz : mailL f (tosL rs) en tx r m = 0) (hca : rs.length ≤ c) :
    Calls Tryd.prog 7 #[mailV f (.slice (some ⟨ga, oa, none⟩) rs.length c) q en tx, .int .i64 r, .int .i64 m] w fun e w' => e = .returned (.bool true) ∧ Below w.heap.size w w' := by
  have HS := Lib.hid (mb_start hM (mailCells f (.slice (some ⟨ga, oa, none⟩) rs.length c) q en tx))
  have HT := Lib.hid (less_texts f en tx q rs (some ⟨ga, oa, none⟩) c w hv hl)
  have HB := Lib.hid (texts_big (f := f) (en := en) (tx := tx) hx hf hen htx)
  have HL := Lib.hid h
  have HV := Lib.hid hv
  have HX := Lib.hid hx1
  have HZ := Lib.hid hz
  have HOK := Lib.hid (mail_ok hz)
  have HARE := Lib.hid (are_is (mail_ok hz).2.2.2.1)
  have HXL := Lib.hid (show (tosL rs).length = rs.length from List.length_map _)
  have hrm : (tx.length : Int) ≤ m := (mail_ok hz).1
  have hrr : (rs.length : Int) ≤ r := by have := (mail_ok hz).2.1; rw [List.length_map] at this; exact this
  have hn0 : 0 < rs.length := by have := HARE.out.1; rw [HXL.out] at this; exact this
  obtain ⟨D, hD⟩ : ∃ D, D = uniqS (domL (tosL rs)) := ⟨_, rfl⟩
  have HD := Lib.hid hD
  have hDl : D.length ≤ 1000 := by
    rw [hD]
    have h1 := compact_len_le (sortS (domL (tosL rs)))
    have h2 := domL_len (tosL rs)
    have h3 := sort_len (domL (tosL rs))
    have h4 := HXL.out
    unfold uniqS
    omega
  have hD0 : 0 < D.length := by
    obtain ⟨x, hx0⟩ : ∃ x, x = (tosL rs).getD 0 [] := ⟨_, rfl⟩
    have hm := HARE.out.2.1 x (by rw [hx0]; exact getD_mem HARE.out.1)
    unfold amayL at hm
    obtain ⟨⟨a, d⟩, hp⟩ := Option.isSome_iff_exists.1 hm
    rw [hx0] at hp
    exact List.length_pos_of_mem (show d ∈ D by rw [hD]; exact dom_mem HARE.out.1 hp)
  have h300 : decide ((300 : Int) < (rs.length : Int)) = false := decide_eq_false (by omega)
  have HML := Lib.hid hM
  clear hv hx hM h hx1 hz hD
  go_enter Tryd.func7, Tryd.ntmps7
  go_wp2_with fail
  refine (mb_works _ HS.out).mono ?_
  rintro e w1 ⟨rfl, hb1⟩
  obtain ⟨c0, c1, c2, c3, c4⟩ := hb1.all
  have HB1 := Lib.hid hb1
  clear hb1
  go_wp2_with fail
  clear c0 c1 c2 c3 c4
  refine (HT.out _ HB1.out).mono ?_
  rintro e w2 ⟨v, rfl, hr, hb2⟩
  have HB2 := Lib.hid hb2
  have HR := Lib.hid hr
  clear hb2 hr
  go_wp2_with fail
  refine (long_any _ _ _ HR.out (texts_count f en tx rs) HB.out).mono ?_
  rintro e w3 ⟨rfl, rfl⟩
  rw [HL.out]
  obtain ⟨c0, c1, c2, c3, c4⟩ := HB2.out.all
  go_wp2_with fail
  clear c0 c1 c2 c3 c4
  refine (mb (mail_any f en tx q rs (.slice (some ⟨ga, oa, none⟩) rs.length c) r m _ (HV.out.step HB2.out.1.below) (by omega) HX.out hf1 hen1 htx1 HB2.out.1.ml) HB2.out).mono ?_
  rintro e w4 ⟨rfl, hb4⟩
  rw [HZ.out]
  have HB4 := Lib.hid hb4
  obtain ⟨c0, c1, c2, c3, c4⟩ := hb4.all
  clear hb4
  go_wp2_with fail
  clear c0 c1 c2 c3 c4
  have HDO := Lib.hid (domains_any f en tx q rs (.slice (some ⟨ga, oa, none⟩) rs.length c) w4 (HV.out.step HB4.out.1.below) (by omega) HX.out HB4.out.1.ml)
  rw [← HD.out] at HDO
  refine (HDO.out).mono ?_
  rintro e w5 ⟨v7, rfl, hg⟩
  obtain ⟨A7, c7, rfl⟩ := hg.form
  have HB5 := Lib.hid (mb_keep HB4.out hg.below)
  have HG := Lib.hid hg.row
  clear hg
  have hmk := fun W => run_made D.length (by omega) W
  go_upto_region 5 with (fail)
  clear hmk
  rw [show Array.replicate D.length (Value.bool false) = ((List.replicate D.length false).map Value.bool).toArray by simp]
  obtain ⟨A0, c0, e0, hrow⟩ := HG.out
  simp only [Value.slice.injEq, true_and] at e0
  obtain ⟨rfl, rfl⟩ := e0
  obtain ⟨gd, rfl, hgd, hcd, _⟩ := hrow hD0
  have HLS := Lib.hid (show LS w (mailCells f (.slice (some ⟨ga, oa, none⟩) rs.length c) q en tx) gd w5.heap.size D (w5.alloc (.cells ((List.replicate D.length false).map Value.bool).toArray 4)) (foundL D (tosL rs) 0) from by
    refine ⟨mb_keep HB5.out ((Below.refl _ _).alloc (Nat.le_refl _) _), fun j hj => ?_, ?_, hgd, lt_of_blk HB5.out.2⟩
    · exact (((Below.refl w5.heap.size w5).alloc (Nat.le_refl _) _).cell (p := ⟨gd, j, none⟩) hgd).trans (hcd j hj)
    · rw [found_zero]; exact heap_alloc_new _ _)
  obtain ⟨gf, hgf⟩ : ∃ g, g = w5.heap.size := ⟨_, rfl⟩
  rw [← hgf] at HLS ⊢
  obtain ⟨w6, hw6⟩ : ∃ w6, w6 = w5.alloc (.cells ((List.replicate D.length false).map Value.bool).toArray 4) := ⟨_, rfl⟩
  change Code.wp _ _ _ _ (w5.alloc (.cells ((List.replicate D.length false).map Value.bool).toArray 4))
  rw [← hw6] at ⊢
  have HLS6 := Lib.hid (show LS w (mailCells f (.slice (some ⟨ga, oa, none⟩) rs.length c) q en tx) gd gf D w6 (foundL D (tosL rs) 0) by rw [hw6]; exact HLS.out)
  clear hw6 hgf hrow hcd HLS HG HB5 HB4 HB2 HB1 HR HDO hgd
  go_wp2_with fail
  go_loopw [9, 10, 11, 12, 13, 14] (fun u _ _ _ _ _ wr => ∃ i : Nat, i ≤ rs.length ∧ u = .int .i64 i ∧ LS w (mailCells f (.slice (some ⟨ga, oa, none⟩) rs.length c) q en tx) gd gf D wr (foundL D (tosL rs) i)) (fun u _ _ _ _ _ _ => rs.length - (intOf u).toNat)
  case atStart => exact ⟨0, Nat.zero_le _, rfl, HLS6.out⟩
  case round =>
    obtain ⟨i, hi, rfl, hls⟩ := hrel
    by_cases hlt : i < rs.length
    · obtain ⟨hgl, q1, q2⟩ := (HV.out.step hls.1.1.below).at_ hlt
      obtain ⟨x, hx⟩ : ∃ x, x = (rs.getD i rc0).1 := ⟨_, rfl⟩
      rw [← hx] at q1
      have HTX := Lib.hid (show (tosL rs).getD i [] = x by rw [tos_getD hlt, hx])
      have hxm : x ∈ tosL rs := by
        rw [← HTX.out]; exact getD_mem (by rw [HXL.out]; exact hlt)
      have hxl : x.length ≤ 1000000 := by
        rw [hx]; refine HX.out _ ?_
        rw [List.getD_eq_getElem?_getD, List.getElem?_eq_getElem hlt]
        exact List.getElem_mem hlt
      have ham := HARE.out.2.1 x hxm
      unfold amayL at ham
      obtain ⟨⟨a, d⟩, hp⟩ := Option.isSome_iff_exists.1 ham
      have HDM := Lib.hid (show d ∈ D by rw [HD.out]; exact dom_mem (k := i) (by rw [HXL.out]; exact hlt) (by rw [HTX.out]; exact hp))
      have HPX := Lib.hid (show parseL ((tosL rs).getD i []) = some (a, d) by rw [HTX.out]; exact hp)
      have HP := Lib.hid hp
      obtain ⟨m0, m1, m2, m3, m4⟩ := hls.1.all
      have HLI := Lib.hid hls
      clear hx hxm ham hp q2 hls
      go_wp2_with fail
      refine (parse_any x wr hxl HLI.out.1.1.ml).mono ?_
      rintro e w7 ⟨rfl, hb⟩
      rw [HP.out]
      unfold parseV
      have HL7 := Lib.hid (HLI.out.step hb)
      clear hb q1 m0 m1 m2 m3 m4
      go_wp2_with fail
      obtain ⟨wo, rfl⟩ : ∃ wo : World, wo = wr := ⟨_, rfl⟩
      go_loopw [13, 14] (fun v u wr => ∃ k : Nat, k ≤ D.length ∧ u = .int .i64 k ∧ v = .bool ((D.take k).contains d) ∧ LS w (mailCells f (.slice (some ⟨ga, oa, none⟩) rs.length c) q en tx) gd gf D wr (midL D (tosL rs) i k)) (fun _ u _ => D.length - (intOf u).toNat)
      case atStart => exact ⟨0, Nat.zero_le _, rfl, by simp, by show LS _ _ _ _ _ _ (midL D (tosL rs) i 0); exact HL7.out⟩
      case round =>
        obtain ⟨k, hk, rfl, rfl, hls⟩ := hrel
        by_cases hkl : k < D.length
        · have dk := hls.2.1 k hkl
          have fk := hls.2.2.1.cell (k := k) (by rw [mid_len]; exact hkl)
          have ff := hls.2.2.1.free k
          rw [mid_at hkl] at fk
          obtain ⟨y, hy⟩ : ∃ y, y = D.getD k [] := ⟨_, rfl⟩
          obtain ⟨o, ho⟩ : ∃ o, o = (foundL D (tosL rs) i).getD k false := ⟨_, rfl⟩
          obtain ⟨b, hb⟩ : ∃ b, b = (D.take k).contains d := ⟨_, rfl⟩
          obtain ⟨z, hz⟩ : ∃ z, (y == d) = z := ⟨_, rfl⟩
          have HN1 := Lib.hid (show (b || z) = (D.take (k + 1)).contains d by rw [hb, ← hz, hy]; exact has_next hkl)
          have HN2 := Lib.hid (show LS w (mailCells f (.slice (some ⟨ga, oa, none⟩) rs.length c) q en tx) gd gf D (wr.setCell ⟨gf, k, none⟩ (.bool (o || z))) (midL D (tosL rs) i (k + 1)) by
            rw [← mid_set (by rw [HXL.out]; exact hlt) HPX.out hkl, ← ho, ← hy, hz]
            exact hls.set HML.out k _)
          rw [← hy] at dk
          rw [← ho] at fk
          rw [← hb]
          clear hls hy ho hb
          cases b <;> cases o
          all_goals
            go_wp2_with fail
            go_roundw
            case rel => exact ⟨k + 1, by omega, by go_num, by rw [← HN1.out]; rfl, HN2.out⟩
            case measure => simp [intOf]; omega
        · obtain rfl : k = D.length := by omega
          rw [has_all HDM.out]
          rw [mid_end] at hls
          have HLE := Lib.hid hls
          clear hls
          go_wp2_with fail
          go_roundw
          case rel => exact ⟨i + 1, by omega, by go_num, HLE.out⟩
          case measure => simp [intOf]; omega
    · obtain rfl : i = rs.length := by omega
      have HLT := Lib.hid (show LS w (mailCells f (.slice (some ⟨ga, oa, none⟩) rs.length c) q en tx) gd gf D wr (List.replicate D.length true) by
        have e : foundL D (tosL rs) rs.length = List.replicate D.length true := by rw [← HXL.out, HD.out]; exact found_all _
        rw [e] at hls; exact hls)
      obtain ⟨m0, m1, m2, m3, m4⟩ := hls.1.all
      have HRI := Lib.hid (show D.Pairwise (· < ·) by rw [HD.out]; exact uniq_rises _)
      clear hls
      go_wp2_with fail
      clear m0 m1 m2 m3 m4
      obtain ⟨wo, rfl⟩ : ∃ wo : World, wo = wr := ⟨_, rfl⟩
      go_loopw [15] (fun u wr => ∃ k : Nat, k ≤ D.length ∧ u = .int .i64 k ∧ LS w (mailCells f (.slice (some ⟨ga, oa, none⟩) rs.length c) q en tx) gd gf D wr (List.replicate D.length true)) (fun u _ => D.length - (intOf u).toNat)
      case atStart => exact ⟨0, Nat.zero_le _, rfl, HLT.out⟩
      case round =>
        obtain ⟨k, hk, rfl, hls⟩ := hrel
        have HLW := Lib.hid hls
        by_cases hkl : k < D.length
        · have fk := hls.2.2.1.cell (k := k) (by rw [List.length_replicate]; exact hkl)
          rw [show (List.replicate D.length true).getD k false = true by rw [List.getD_eq_getElem?_getD, List.getElem?_replicate_of_lt hkl]; rfl] at fk
          have d1 := hls.2.1 k hkl
          by_cases hk0 : k = 0
          · subst hk0
            clear hls
            go_wp2_with fail
            go_quiet (fail)
            go_wp2_with fail
            go_roundw
            case rel => exact ⟨0 + 1, by omega, by go_num, HLW.out.step (below_drewN (Below.refl _ _) _)⟩
            case measure => simp [intOf]; omega
          · have hk1 : k - 1 < D.length := by omega
            have d0 := hls.2.1 (k - 1) hk1
            obtain ⟨y, hy⟩ : ∃ y, y = D.getD k [] := ⟨_, rfl⟩
            obtain ⟨z, hz⟩ : ∃ z, z = D.getD (k - 1) [] := ⟨_, rfl⟩
            have hlt2 : z < y := by
              rw [hy, hz, List.getD_eq_getElem?_getD, List.getElem?_eq_getElem hk1, List.getD_eq_getElem?_getD, List.getElem?_eq_getElem hkl]
              exact List.pairwise_iff_getElem.1 HRI.out (k - 1) k hk1 hkl (by omega)
            rw [← hy] at d1
            rw [← hz] at d0
            have hk2 : 0 < k := by omega
            have hk3 : (1 : Int) ≤ (k : Int) := by omega
            have hbl : Op.bytesLess z y = true := by rw [bytesLess_eq]; exact decide_eq_true hlt2
            clear hls hy hz hk0 hlt2
            go_wp2_with fail
            go_quiet (fail)
            go_wp2_with fail
            go_roundw
            case rel => exact ⟨k + 1, by omega, by go_num, HLW.out.step (below_drewN (Below.refl _ _) _)⟩
            case measure => simp [intOf]; omega
        · obtain rfl : k = D.length := by omega
          have hmb := hls.1
          obtain ⟨m0, m1, m2, m3, m4⟩ := hmb.all
          have HMB := Lib.hid hmb
          clear hls hmb
          go_upto_if 130 with (fail)
          obtain ⟨bz, hbz⟩ : ∃ b, b = decide ((rs.length : Int) < r) := ⟨_, rfl⟩
          rw [← hbz]
          have HBZ := Lib.hid hbz
          clear hbz
          go_cut [16] from 131 to 147 (fun _ wr => MB w (mailCells f (.slice (some ⟨ga, oa, none⟩) rs.length c) q en tx) wr)
          case first =>
            cases bz with
            | true =>
              have hrl : (rs.length : Int) < r := of_decide_eq_true HBZ.out.symm
              go_wp2_with fail
              obtain ⟨xr, hxr⟩ : ∃ x, x = rs.getD 0 rc0 := ⟨_, rfl⟩
              obtain ⟨gt, hgt⟩ : ∃ g, g = wr.heap.size := ⟨_, rfl⟩
              rw [← hgt]
              obtain ⟨W0, hW0⟩ : ∃ W0, W0 = wr.alloc (.cells (mailCells f (.slice (some ⟨ga, oa, none⟩) rs.length c) q en tx) 40) := ⟨_, rfl⟩
              change Code.wp _ _ _ _ (wr.alloc (.cells (mailCells f (.slice (some ⟨ga, oa, none⟩) rs.length c) q en tx) 40))
              rw [← hW0]
              have hT0 : TS w (mailCells f (.slice (some ⟨ga, oa, none⟩) rs.length c) q en tx) gt (mailCells f (.slice (some ⟨ga, oa, none⟩) rs.length c) q en tx) W0 := by
                have hs := lt_of_blk HMB.out.2
                rw [hW0, hgt]
                exact ⟨mb_keep HMB.out ((Below.refl _ _).alloc (Nat.le_refl _) _), heap_alloc_new _ _, hs⟩
              have hs0 : W0.heap.size = gt + 1 := by rw [hW0, hgt]; simp
              have HC := Lib.hid (show ∀ W, TY w (mailCells f (.slice (some ⟨ga, oa, none⟩) rs.length c) q en tx) gt f en tx q W → TY w (mailCells f (.slice (some ⟨ga, oa, none⟩) rs.length c) q en tx) gt f en tx q W ∧ W.cell? ⟨w.heap.size, 1, none⟩ = some (.slice (some ⟨ga, oa, none⟩) rs.length c) ∧ W.cell? ⟨ga, oa, none⟩ = some (sv xr.1) ∧ W.cell? ⟨ga, oa + 1, none⟩ = some (.bool xr.2) from fun W h => by
                obtain ⟨v', h'⟩ := h
                obtain ⟨_, h1, h2⟩ := (HV.out.step h'.1.1.1).at_ (j := 0) hn0
                rw [← hxr] at h1 h2
                simp only [Nat.zero_mul, Nat.add_zero] at h1 h2
                exact ⟨⟨v', h'⟩, h'.1.all.2.1, h1, h2⟩)
              have HNEW := Lib.hid (show ∀ W v', TS w (mailCells f (.slice (some ⟨ga, oa, none⟩) rs.length c) q en tx) gt (mailCells f v' q en tx) W → ∀ j u, (flatR rs)[j]? = some u → W.cell? ((⟨ga, oa, none⟩ : Addr).add j) = some u from fun W _ h =>
                flat_news (fun j hj => ((HV.out.step h.1.1.1).at_ hj).2))
              have HT0 := Lib.hid hT0
              have HS0 := Lib.hid hs0
              have HXR := Lib.hid hxr
              obtain ⟨t0, t1, t2, t3⟩ := HC.out _ ⟨_, hT0⟩
              have hgl : gt < W0.heap.size := by omega
              have hmx : rs.length + 1 ≤ maxLen := by unfold maxLen; omega
              clear hW0 hgt hs0 hxr m0 m1 m2 m3 m4 HLS6 HLT HLW
              obtain ⟨i0, hi0, hz0, hz1, hz2⟩ := info_parts info_rcpt
              go_cut [142] from 132 to 142 (fun _ W => ∃ g cap, TS w (mailCells f (.slice (some ⟨ga, oa, none⟩) rs.length c) q en tx) gt (mailCells f (.slice (some ⟨g, 0, none⟩) (rs.length + 1) cap) q en tx) W ∧ RcIs W (.slice (some ⟨g, 0, none⟩) (rs.length + 1) cap) (rs ++ [xr]))
              case first =>
                go_region_held3 (fun W => TY w (mailCells f (.slice (some ⟨ga, oa, none⟩) rs.length c) q en tx) gt f en tx q W ∧ W.cell? ⟨w.heap.size, 1, none⟩ = some (.slice (some ⟨ga, oa, none⟩) rs.length c) ∧ W.cell? ⟨ga, oa, none⟩ = some (sv xr.1) ∧ W.cell? ⟨ga, oa + 1, none⟩ = some (.bool xr.2))
                  (first
                    | exact HC.out _ (by assumption)
                    | (refine HC.out _ ?_; apply TY.of; (repeat first | exact hTB | exact hTA | exact HT0.out | apply TS.drew | apply TS.set (hM := HML.out) | apply TS.alloc); done))
                  (first
                    | (refine step_append_lies _ (by rfl) _ _ _ (by rfl) W0.heap.size 45 i0 _ 2 24 Tryd.underlying38 hi0 hz0 hz1 hz2 rfl (by omega) (.slice (some ⟨_, 0, none⟩) 0 0) 0 [] (by rfl) (owns_empty (by (simp only [heap_drew, heap_at_alloc, World.size_alloc, World.size_drew]; simp)) (by (first | omega | (simp only [World.size_alloc, World.size_drew]; omega)))) ⟨ga, oa, none⟩ rs.length c (flatR rs) (by rfl) (flat_len rs) (HNEW.out _ _ (by (repeat first | exact hTB | exact hTA | exact HT0.out | apply TS.drew | apply TS.set (hM := HML.out) | apply TS.alloc))) (flat_one rs) hn0 (by omega) (by omega) (by (first | omega | (simp only [World.size_alloc, World.size_drew]; omega))) _ rfl ?_
                       intro g1 cap1 wA hownA hgrowA hatA hltA
                       have hTA := TS.grown (by (repeat first | exact hTB | exact hTA | exact HT0.out | apply TS.drew | apply TS.set (hM := HML.out) | apply TS.alloc)) HML.out hgrowA (by (first | omega | (simp only [World.size_alloc, World.size_drew]; omega)))
                       simp only [Nat.zero_add, List.nil_append] at hownA ⊢
                       clear hatA hltA)
                    | (refine step_append_lies _ (by rfl) _ _ _ (by rfl) W0.heap.size 45 i0 _ 2 24 Tryd.underlying38 hi0 hz0 hz1 hz2 rfl (by omega) (.slice (some ⟨g1, 0, none⟩) rs.length cap1) rs.length (flatR rs) (by rfl) (by first | exact hownA | exact hownA.drew | exact (hownA.alloc _).drew | exact hownA.alloc _ | exact (hownA.drew.alloc _).drew) ⟨_, 0, none⟩ 1 1 [sv xr.1, .bool xr.2] (by rfl) (by rfl) (World.news_of_block (cs := #[sv xr.1, .bool xr.2]) (t := 45) (fr := (0, 0)) (by first | (simp only [heap_drew, heap_at_alloc, World.size_alloc, World.size_drew]; simp) | (rw [heap_drew]; exact grow_block hgrowA (by (simp only [heap_drew, heap_at_alloc, World.size_alloc, World.size_drew]; simp)) (by simp [Value.ownBlock])) | exact grow_block hgrowA (by (simp only [heap_drew, heap_at_alloc, World.size_alloc, World.size_drew]; simp)) (by simp [Value.ownBlock]))) (by simp [Value.oneCell']) (by omega) (by omega) (by omega) (by first | (first | omega | (simp only [World.size_alloc, World.size_drew]; omega)) | (have := hgrowA.size; simp only [World.size_alloc, World.size_drew] at this ⊢; omega)) _ rfl ?_
                       intro g2 cap2 wB hownB hgrowB hatB hltB
                       have hgB : gt ≠ g2 := by
                         have := (hownB.lt g2 rfl).1
                         omega
                       have hg1 : gt < g1 := by
                         have := (hownA.lt g1 rfl).1
                         omega
                       have hTB := TS.grown (by (repeat first | exact hTB | exact hTA | exact HT0.out | apply TS.drew | apply TS.set (hM := HML.out) | apply TS.alloc)) HML.out hgrowB hg1
                       have hRB : RcIs wB (.slice (some ⟨g2, 0, none⟩) (rs.length + 1) cap2) (rs ++ [xr]) := rcs_owned (by simp) (by rw [← flat_app]; exact hownB)
                       obtain ⟨_, b1, _, _, _, b5⟩ := hTB.all
                       clear hatB hltB)
                    | (trace_state; fail))
                all_goals (try go_wp2)
                all_goals go_meet
                all_goals (case rel => exact ⟨g2, cap2, (by (repeat first | exact hTB | exact hTA | exact HT0.out | apply TS.drew | apply TS.set (hM := HML.out) | apply TS.alloc)), (by (repeat first | exact hRB | refine RcIs.other hgB ?_ | refine RcIs.drew ?_))⟩)
              case rest => 
                obtain ⟨g, cap, hts, hrc⟩ := hcut
                obtain ⟨d0, d1, d2, d3, d4, _⟩ := hts.all
                have HM4 := Lib.hid (mail_any f en tx q (rs ++ [xr]) _ r m wc hrc (by simp; omega) (by
                  intro r' hr'
                  rcases List.mem_append.1 hr' with h1 | h1
                  · exact HX.out r' h1
                  · simp only [List.mem_singleton] at h1
                    rw [h1, HXR.out]
                    exact HX.out _ (by rw [List.getD_eq_getElem?_getD, List.getElem?_eq_getElem hn0]; exact List.getElem_mem hn0)) hf1 hen1 htx1 hts.1.1.ml)
                rw [tos_app, mail_twice HZ.out (by rw [HXL.out]; exact hrl) (show xr.1 ∈ tosL rs by rw [HXR.out, ← tos_getD hn0]; exact getD_mem (by rw [HXL.out]; exact hn0))] at HM4
                have HMT := Lib.hid hts.1
                clear hts hrc t0 t1 t2 t3 hT0
                go_wp2_with fail
                refine HM4.out.mono ?_
                rintro e wz ⟨rfl, hbz⟩
                have HMZ := Lib.hid (mb_keep HMT.out hbz)
                clear hbz
                go_wp2_with fail
                go_meet
                case rel => exact HMZ.out
            | false =>
              have hrl' : r ≤ (rs.length : Int) := by have := of_decide_eq_false HBZ.out.symm; omega
              go_wp2_with fail
              go_meet
              case rel => exact HMB.out
          case rest =>
            have HMC := Lib.hid hcut
            obtain ⟨m0, m1, m2, m3, m4⟩ := hcut.all
            clear hcut HMB HLW HLT HLS6
            have hws := lt_of_blk HMC.out.2
            by_cases hl1 : 1 < rs.length
            · obtain ⟨kk, hkk⟩ : ∃ kk, rs.length = kk + 1 := ⟨rs.length - 1, by omega⟩
              have hcut2 := run_cut_rc ga oa kk c (by omega) (by omega)
              have ek : (rs.length : Int) - 1 = (kk : Int) := by omega
              rw [← hkk, ← ek] at hcut2
              have hk1 : kk < rs.length := by omega
              have hk0 : 0 < kk := by omega
              clear hkk ek
              have hks : 0 < kk ∧ kk ≤ rs.length := by omega
              have HML2 := Lib.hid (fun (tx' : List UInt8) (h1 : mtextL tx' = true) (h2 : tx'.length ≤ tx.length) => show mailL [] (tosL (rs.take kk)) [] tx' r m = 0 by rw [tos_take]; exact mail_less HZ.out hks.1 h1 h2)
              have HRK := Lib.hid (fun (W : World) (hb : Below w.heap.size w W) => show RcIs W (.slice (some ⟨ga, oa, none⟩) kk c) (rs.take kk) from (HV.out.step hb).take hks.2 hks.1)
              have HLK := Lib.hid (show (rs.take kk).length = kk by rw [List.length_take]; omega)
              have HXK := Lib.hid (show ∀ r ∈ rs.take kk, r.1.length ≤ 1000000 from fun r hr => HX.out r (List.mem_of_mem_take hr))
              have HTXT := Lib.hid (show mtextL tx = true from HOK.out.2.2.2.2.2)
              have HWL := Lib.hid (show ∀ (tx' : List UInt8), BL w (wc.alloc (.cells (mailCells [] (.slice (some ⟨ga, oa, none⟩) kk c) q [] tx') 40)) from fun tx' => HMC.out.1.alloc _)
              clear hks
              go_wp2_with fail
              go_loop [18] (fun i => ∃ a : Nat, a ≤ tx.length ∧ i = .int .i64 a) (fun i => (intOf i).toNat)
              case atStart => exact ⟨tx.length - 2, by omega, by congr 1; omega⟩
              case round =>
                obtain ⟨a, hal, rfl⟩ := hrel
                cases a with
                | zero =>
                  obtain ⟨tt, htt⟩ : ∃ t, t = ([] : List UInt8) := ⟨_, rfl⟩
                  have hst := run_slice_to tx tt 0 (by omega) (by rw [htt, str_extract]; simp)
                  rw [show ((0 : Nat) : Int) = 0 from rfl] at hst ⊢
                  have E := Lib.hid (show mailL [] (tosL (rs.take kk)) [] tt r m = 0 from HML2.out tt (by rw [htt]; exact mtext_nil) (by rw [htt]; simp))
                  have htl : tt.length ≤ 1000000 := by rw [htt]; simp
                  clear htt
                  go_wp2_with fail
                  refine (mail_any [] [] tt q (rs.take kk) (.slice (some ⟨ga, oa, none⟩) kk c) r m _ (HRK.out _ (HWL.out tt).below) (by rw [HLK.out]; omega) HXK.out (by decide) (by decide) htl (HWL.out tt).ml).mono ?_
                  rintro e w8 ⟨rfl, hb8⟩
                  rw [E.out]
                  have HB8 := Lib.hid ((HWL.out tt).below.trans (hb8.mono (HWL.out tt).below.size))
                  clear hb8
                  go_wp2_with fail
                  go_ret
                  exact ⟨rfl, HB8.out⟩
                | succ j =>
                  have hj : j < tx.length := by omega
                  obtain ⟨x, hx⟩ : ∃ x, (tx.getD j 0).toNat = x := ⟨_, rfl⟩
                  have hcs : (((str tx)[j]'(by simpa [ByteArray.size] using hj)).toNat) = x := by rw [str_getD tx j hj, hx]
                  rw [show ((j + 1 : Nat) : Int) = (j : Int) + 1 by omega]
                  by_cases h10 : x = 10
                  · have HX10 := Lib.hid (show (tx.getD j 0).toNat = 10 by rw [hx, h10])
                    have hcs2 : (((str tx)[j]'(by simpa [ByteArray.size] using hj)).toNat) = 10 := by rw [hcs, h10]
                    clear hx hcs h10
                    obtain ⟨tt, htt⟩ : ∃ t, t = tx.take (j + 1) := ⟨_, rfl⟩
                    have hst := run_slice_to tx tt (j + 1) (by omega) (by rw [htt, str_extract]; simp)
                    rw [show ((j + 1 : Nat) : Int) = (j : Int) + 1 by omega] at hst
                    have E := Lib.hid (show mailL [] (tosL (rs.take kk)) [] tt r m = 0 from HML2.out tt (by rw [htt]; exact text_less HTXT.out hj (UInt8.toNat_inj.1 (by rw [HX10.out]; rfl))) (by rw [htt]; rw [List.length_take]; omega))
                    have htl : tt.length ≤ 1000000 := by rw [htt]; rw [List.length_take]; omega
                    clear htt
                    go_wp2_with fail
                    refine (mail_any [] [] tt q (rs.take kk) (.slice (some ⟨ga, oa, none⟩) kk c) r m _ (HRK.out _ (HWL.out tt).below) (by rw [HLK.out]; omega) HXK.out (by decide) (by decide) htl (HWL.out tt).ml).mono ?_
                    rintro e w8 ⟨rfl, hb8⟩
                    rw [E.out]
                    have HB8 := Lib.hid ((HWL.out tt).below.trans (hb8.mono (HWL.out tt).below.size))
                    clear hb8
                    go_wp2_with fail
                    go_ret
                    exact ⟨rfl, HB8.out⟩
                  · have e10 : ((x : Int) != 10) = true := by rw [bne_iff_ne]; omega
                    clear hx h10
                    go_wp2_with fail
                    go_round
                    case rel => exact ⟨j, by omega, by go_num⟩
                    case measure => simp [intOf]
            · have hl1' : (rs.length : Int) ≤ 1 := by omega
              have hk0 : 0 < rs.length := hn0
              have hks : 0 < rs.length ∧ rs.length ≤ rs.length := by omega
              have HML2 := Lib.hid (fun (tx' : List UInt8) (h1 : mtextL tx' = true) (h2 : tx'.length ≤ tx.length) => show mailL [] (tosL (rs.take rs.length)) [] tx' r m = 0 by rw [tos_take]; exact mail_less HZ.out hks.1 h1 h2)
              have HRK := Lib.hid (fun (W : World) (hb : Below w.heap.size w W) => show RcIs W (.slice (some ⟨ga, oa, none⟩) rs.length c) (rs.take rs.length) from (HV.out.step hb).take hks.2 hks.1)
              have HLK := Lib.hid (show (rs.take rs.length).length = rs.length by rw [List.length_take]; omega)
              have HXK := Lib.hid (show ∀ r ∈ rs.take rs.length, r.1.length ≤ 1000000 from fun r hr => HX.out r (List.mem_of_mem_take hr))
              have HTXT := Lib.hid (show mtextL tx = true from HOK.out.2.2.2.2.2)
              have HWL := Lib.hid (show ∀ (tx' : List UInt8), BL w (wc.alloc (.cells (mailCells [] (.slice (some ⟨ga, oa, none⟩) rs.length c) q [] tx') 40)) from fun tx' => HMC.out.1.alloc _)
              clear hks
              go_wp2_with fail
              go_loop [18] (fun i => ∃ a : Nat, a ≤ tx.length ∧ i = .int .i64 a) (fun i => (intOf i).toNat)
              case atStart => exact ⟨tx.length - 2, by omega, by congr 1; omega⟩
              case round =>
                obtain ⟨a, hal, rfl⟩ := hrel
                cases a with
                | zero =>
                  obtain ⟨tt, htt⟩ : ∃ t, t = ([] : List UInt8) := ⟨_, rfl⟩
                  have hst := run_slice_to tx tt 0 (by omega) (by rw [htt, str_extract]; simp)
                  rw [show ((0 : Nat) : Int) = 0 from rfl] at hst ⊢
                  have E := Lib.hid (show mailL [] (tosL (rs.take rs.length)) [] tt r m = 0 from HML2.out tt (by rw [htt]; exact mtext_nil) (by rw [htt]; simp))
                  have htl : tt.length ≤ 1000000 := by rw [htt]; simp
                  clear htt
                  go_wp2_with fail
                  refine (mail_any [] [] tt q (rs.take rs.length) (.slice (some ⟨ga, oa, none⟩) rs.length c) r m _ (HRK.out _ (HWL.out tt).below) (by rw [HLK.out]; omega) HXK.out (by decide) (by decide) htl (HWL.out tt).ml).mono ?_
                  rintro e w8 ⟨rfl, hb8⟩
                  rw [E.out]
                  have HB8 := Lib.hid ((HWL.out tt).below.trans (hb8.mono (HWL.out tt).below.size))
                  clear hb8
                  go_wp2_with fail
                  go_ret
                  exact ⟨rfl, HB8.out⟩
                | succ j =>
                  have hj : j < tx.length := by omega
                  obtain ⟨x, hx⟩ : ∃ x, (tx.getD j 0).toNat = x := ⟨_, rfl⟩
                  have hcs : (((str tx)[j]'(by simpa [ByteArray.size] using hj)).toNat) = x := by rw [str_getD tx j hj, hx]
                  rw [show ((j + 1 : Nat) : Int) = (j : Int) + 1 by omega]
                  by_cases h10 : x = 10
                  · have HX10 := Lib.hid (show (tx.getD j 0).toNat = 10 by rw [hx, h10])
                    have hcs2 : (((str tx)[j]'(by simpa [ByteArray.size] using hj)).toNat) = 10 := by rw [hcs, h10]
                    clear hx hcs h10
                    obtain ⟨tt, htt⟩ : ∃ t, t = tx.take (j + 1) := ⟨_, rfl⟩
                    have hst := run_slice_to tx tt (j + 1) (by omega) (by rw [htt, str_extract]; simp)
                    rw [show ((j + 1 : Nat) : Int) = (j : Int) + 1 by omega] at hst
                    have E := Lib.hid (show mailL [] (tosL (rs.take rs.length)) [] tt r m = 0 from HML2.out tt (by rw [htt]; exact text_less HTXT.out hj (UInt8.toNat_inj.1 (by rw [HX10.out]; rfl))) (by rw [htt]; rw [List.length_take]; omega))
                    have htl : tt.length ≤ 1000000 := by rw [htt]; rw [List.length_take]; omega
                    clear htt
                    go_wp2_with fail
                    refine (mail_any [] [] tt q (rs.take rs.length) (.slice (some ⟨ga, oa, none⟩) rs.length c) r m _ (HRK.out _ (HWL.out tt).below) (by rw [HLK.out]; omega) HXK.out (by decide) (by decide) htl (HWL.out tt).ml).mono ?_
                    rintro e w8 ⟨rfl, hb8⟩
                    rw [E.out]
                    have HB8 := Lib.hid ((HWL.out tt).below.trans (hb8.mono (HWL.out tt).below.size))
                    clear hb8
                    go_wp2_with fail
                    go_ret
                    exact ⟨rfl, HB8.out⟩
                  · have e10 : ((x : Int) != 10) = true := by rw [bne_iff_ne]; omega
                    clear hx h10
                    go_wp2_with fail
                    go_round
                    case rel => exact ⟨j, by omega, by go_num⟩
                    case measure => simp [intOf]

theorem addrLess_walk {w : World} (f en tx : List UInt8) (q : Bool) (rs : List RC) (A : Option Addr) (c : Nat) (r m : Int) (hv : RcIs w (.slice A rs.length c) rs) (hl : rs.length ≤ 9223372036854775807) (hx : ∀ r ∈ rs, r.1.length ≤ 9223372036854775807) (hf : f.length ≤ 9223372036854775807) (hen : en.length ≤ 9223372036854775807) (htx : tx.length ≤ 9223372036854775807) (hca : rs.length ≤ c) (hM : ML w) :
    Calls Tryd.prog 7 #[mailV f (.slice A rs.length c) q en tx, .int .i64 r, .int .i64 m] w fun e w' => e = .returned (.bool true) ∧ Below w.heap.size w w' := by
  cases h : longL (f :: en :: tx :: tosL (rs.take 400)) with
  | true => exact addrLess_long f en tx q rs A c r m w hv hl hx hf hen htx hM h
  | false =>
    by_cases hn : 300 < rs.length
    · exact addrLess_many f en tx q rs A c r m w hv hl hx hf hen htx hM h hn
    · have hn' : rs.length ≤ 300 := by omega
      have hs := (long_not h).2
      have hf1 : f.length ≤ 1000000 := by have := hs f (by simp); omega
      have hen1 : en.length ≤ 1000000 := by have := hs en (by simp); omega
      have htx1 : tx.length ≤ 1000000 := by have := hs tx (by simp); omega
      have hx1 : ∀ r ∈ rs, r.1.length ≤ 1000000 := by
        intro r hr
        have := hs r.1 (by
          rw [List.take_of_length_le (by omega)]
          simp only [List.mem_cons]
          exact .inr (.inr (.inr (List.mem_map.2 ⟨r, hr, rfl⟩))))
        omega
      by_cases hz : mailL f (tosL rs) en tx r m = 0
      · have hp : 0 < rs.length := by
          have := (are_is (mail_ok hz).2.2.2.1).1
          rwa [List.length_map] at this
        obtain ⟨A', c', e, hg⟩ := id hv
        simp only [Value.slice.injEq, true_and] at e
        obtain ⟨ga, oa, hA, _⟩ := hg hp
        obtain ⟨rfl, rfl⟩ := e
        subst hA
        exact addrLess_ok f en tx q rs ga oa c r m w hv hl hx hf hen htx hM h hn' hx1 hf1 hen1 htx1 hz hca
      · exact addrLess_not f en tx q rs A c r m w hv hl hx hf hen htx hM h hn' hx1 hf1 hen1 htx1 hz
end Go.Proofs.YtpgnmdpoifbngaaDoor
