/-
  Contracts of the laws' own functions: of, works, long; of package caps' Union.
-/
import Derived.Test.YtanfonpbnamjmaaDoorTextApp
import Derived.Test.YtanfonpbnamjmaaDoorCTexts
namespace Go.Proofs.YtanfonpbnamjmaaDoor
open Go Go.RowKit Go.Shelf
set_option maxRecDepth 100000

theorem owns_sw {W : World} {B g n cap : Nat} {xs : List (List UInt8)} (h : W.ownsRow B 9 1 (.slice (some ⟨g, 0, none⟩) n cap) n (xs.map sv)) : SW W (.slice (some ⟨g, 0, none⟩) n cap) xs := by
  obtain ⟨rfl, _, hl, h1, h2, hc, _⟩ := owns_cells h
  exact ⟨_, cap, rfl, .inr ⟨g, 0, rfl, hl, h1, by unfold maxLen at h2; omega, fun k hk => by rw [Nat.zero_add]; exact hc k hk⟩⟩

/-- Seven cells written. -/
theorem seven {w W : World} {k1 : Nat} {c : Cp} (h : W.heap[k1]? = some (.cells (cpL cp0) 50 (0, 0))) (hb : Below w.heap.size w W) (hu : w.heap.size ≤ k1) :
    (((((((W.setCell ⟨k1, 0, none⟩ (.bool c.st)).setCell ⟨k1, 1, none⟩ (.bool c.pi)).setCell ⟨k1, 2, none⟩ (.bool c.rq)).setCell ⟨k1, 3, none⟩ (.bool c.ds)).setCell ⟨k1, 4, none⟩ (.bool c.eb)).setCell ⟨k1, 5, none⟩ (.bool c.sz)).setCell ⟨k1, 6, none⟩ (.int .i64 c.mo)).heap[k1]? = some (.cells (cpL c) 50 (0, 0)) ∧
    Below w.heap.size w (((((((W.setCell ⟨k1, 0, none⟩ (.bool c.st)).setCell ⟨k1, 1, none⟩ (.bool c.pi)).setCell ⟨k1, 2, none⟩ (.bool c.rq)).setCell ⟨k1, 3, none⟩ (.bool c.ds)).setCell ⟨k1, 4, none⟩ (.bool c.eb)).setCell ⟨k1, 5, none⟩ (.bool c.sz)).setCell ⟨k1, 6, none⟩ (.int .i64 c.mo)) :=
  ⟨(blk_set (blk_set (blk_set (blk_set (blk_set (blk_set (blk_set h 0 _) 1 _) 2 _) 3 _) 4 _) 5 _) 6 _).trans rfl,
    ((((((hb.setCell (p := ⟨k1, 0, none⟩) hu _).setCell (p := ⟨k1, 1, none⟩) hu _).setCell (p := ⟨k1, 2, none⟩) hu _).setCell (p := ⟨k1, 3, none⟩) hu _).setCell (p := ⟨k1, 4, none⟩) hu _).setCell (p := ⟨k1, 5, none⟩) hu _).setCell (p := ⟨k1, 6, none⟩) hu _⟩

def wMX : List UInt8 := [109, 120, 46, 101, 120, 97, 109, 112, 108, 101]
theorem ofC_lines (xs : List (List UInt8)) : ofC 250 (wMX :: xs) = sayC xs := rfl

set_option maxHeartbeats 2000000 in
theorem lof_any (xs : List (List UInt8)) (u : Value) (w : World) (h : SR w u xs) (hl : ∀ x ∈ xs, x.length ≤ 1000000) (hn : xs.length ≤ 2000) (hw : LW w) :
    Calls Tryd.prog 28 #[u] w fun e w' => e = .returned (ofV (sayC xs)) ∧ Below w.heap.size w w' := by
  have HU := Lib.hid h
  obtain ⟨A, c, rfl, -⟩ := h
  have HW := Lib.hid hw
  have HL := Lib.hid (show ∀ x ∈ wMX :: xs, x.length ≤ 1000000 from fun x hx => by
    rcases List.mem_cons.1 hx with rfl | hx
    · decide
    · exact hl x hx)
  clear hw hl
  obtain ⟨k1, hk1⟩ : ∃ k, k = w.heap.size := ⟨_, rfl⟩
  obtain ⟨W1, hW1⟩ : ∃ W, W = (w.alloc (.cells (cpL cp0) 50)).alloc (.cells #[sv wMX] 9) := ⟨_, rfl⟩
  have hb1 : Below w.heap.size w W1 := by rw [hW1]; exact ((Below.refl _ w).alloc (Nat.le_refl _) _).alloc (by simp) _
  have hs1 : W1.heap.size = k1 + 2 := by rw [hW1, hk1]; simp
  have hr1 : W1.heap[k1]? = some (.cells (cpL cp0) 50 (0, 0)) := by rw [hW1, hk1]; exact (Lib.alloc_old _ _ _ (by simp)).trans (heap_alloc_new w _)
  have hg1 : W1.heap[k1 + 1]? = some (.cells ([wMX].map sv).toArray 9 (0, 0)) := by
    rw [hW1, hk1]
    have := heap_alloc_new (w.alloc (.cells (cpL cp0) 50)) (.cells #[sv wMX] 9)
    rwa [World.size_alloc] at this
  have hown := owns_lit (base := k1) hg1 (by omega) (by simp)
  have hsrc := (HU.out.step hb1).src
  rw [hW1, hk1] at hown hr1
  rw [hW1] at hsrc hb1
  have HO := Lib.hid hown
  have HS := Lib.hid hsrc
  have HB1 := Lib.hid hb1
  have HR1 := Lib.hid hr1
  clear hb1 hs1 hr1 hg1 hk1 hW1 hown hsrc
  go_enter Tryd.func28, Tryd.ntmps28
  go_wp2_with (at_builtin; refine row_app HO.out rfl HS.out (by simp only [World.size_alloc]; omega) (by show 1 + xs.length ≤ 1000000; omega) _ _ rfl rfl rfl rfl rfl (1 + xs.length) rfl ?_; intro g cap W2 hown2 hgr)
  have hb2 : Below w.heap.size w W2 := (HB1.out).grown hgr (by simp only [World.size_alloc]; omega) (fun j e => by injection e with e; omega)
  have hr2 : W2.heap[w.heap.size]? = some (.cells (cpL cp0) 50 (0, 0)) := (hgr.block _ (by simp only [World.size_alloc]; omega) (by simp)).trans HR1.out
  have hown3 : W2.ownsRow w.heap.size 9 1 (.slice (some ⟨g, 0, none⟩) (1 + xs.length) cap) (1 + xs.length) ((wMX :: xs).map sv) := hown2
  have HOF := Lib.hid (of_any 250 ByteArray.empty _ _ W2 (owns_sw hown3) HL.out ((HW.out).below hb2))
  rw [ofC_lines] at HOF
  have HB2 := Lib.hid hb2
  have HR2 := Lib.hid hr2
  clear hb2 hr2 hown2 hown3 hgr
  go_wp2_with fail
  refine (HOF.out).mono ?_
  rintro e W3 ⟨rfl, hb⟩
  obtain ⟨cc, hcc⟩ : ∃ cc, cc = sayC xs := ⟨_, rfl⟩
  rw [← hcc]
  have hr3 := blk_below HR2.out hb
  have h7 := seven (c := cc) hr3 (HB2.out.trans (hb.mono HB2.out.size)) (Nat.le_refl _)
  have b0 : W3.cell? ⟨w.heap.size, 0, none⟩ = some (.bool false) := by rw [cellAt hr3]; rfl
  have b1 : W3.cell? ⟨w.heap.size, 1, none⟩ = some (.bool false) := by rw [cellAt hr3]; rfl
  have b2 : W3.cell? ⟨w.heap.size, 2, none⟩ = some (.bool false) := by rw [cellAt hr3]; rfl
  have b3 : W3.cell? ⟨w.heap.size, 3, none⟩ = some (.bool false) := by rw [cellAt hr3]; rfl
  have b4 : W3.cell? ⟨w.heap.size, 4, none⟩ = some (.bool false) := by rw [cellAt hr3]; rfl
  have b5 : W3.cell? ⟨w.heap.size, 5, none⟩ = some (.bool false) := by rw [cellAt hr3]; rfl
  have b6 : W3.cell? ⟨w.heap.size, 6, none⟩ = some (.int .i64 0) := by rw [cellAt hr3]; rfl
  have f0 := freeAt hr3 0; have f1 := freeAt hr3 1; have f2 := freeAt hr3 2; have f3 := freeAt hr3 3; have f4 := freeAt hr3 4; have f5 := freeAt hr3 5; have f6 := freeAt hr3 6
  have H7 := Lib.hid h7
  have HCC := Lib.hid hcc
  clear h7 hr3 hb hcc
  unfold ofV cpL
  go_wp2_with fail
  exact bodyPost_ret (v := ofV cc) (results_cell_row (p := 2) (fr := (0, 0)) Tryd.results28 _ _ w.heap.size 50 _ _ rfl H7.out.1 Tryd.underlying50 rfl (by kernel_rfl)) rfl ⟨by rw [HCC.out], H7.out.2⟩

theorem lof_lit {w W : World} {g n c : Nat} {c0 : Cp} {C : Array Value} (xs : List (List UInt8)) (hg : W.heap[g]? = some (.cells C 9 (0, 0))) (hC : C = (xs.map sv).toArray) (hn : n = xs.length) (hl : ∀ x ∈ xs, x.length ≤ 1000000) (hm : xs.length ≤ 2000) (hs : sayC xs = c0) (hw : BL w W) :
    Calls Tryd.prog 28 #[.slice (some ⟨g, 0, none⟩) n c] W fun e W' => e = .returned (ofV c0) ∧ BL w W' := by
  subst hC
  subst hs
  exact (lof_any xs _ W (lit_sr hg hn c) hl hm hw.lw).mono fun e W' ⟨he, hb⟩ => ⟨he, hw.step hb⟩

def exA : List (List UInt8) := [[83, 73, 90, 69, 32, 49, 48, 48, 48], [115, 116, 97, 114, 116, 116, 108, 115], [88, 45, 79, 68, 68, 32, 49]]
def exB : List (List UInt8) := [[83, 84, 65, 82, 84, 84, 76, 83, 32, 110, 111, 119], [83, 73, 90, 69, 32, 48, 49], [83, 73, 90, 69, 32, 32, 53], [83, 84, 65, 82, 84]]
def exC : List (List UInt8) := [[83, 73, 90, 69]]
theorem sayA : sayC exA = ⟨true, false, false, false, false, true, 1000⟩ := by decide +kernel
theorem sayB : sayC exB = cp0 := by decide +kernel
theorem sayS : sayC exC = ⟨false, false, false, false, false, true, 0⟩ := by decide +kernel

set_option maxHeartbeats 4000000 in
theorem works_any (w : World) (hw : LW w) : Calls Tryd.prog 27 #[] w fun e w' => e = .returned (.bool true) ∧ Below w.heap.size w w' := by
  have HW := Lib.hid (BL.start hw)
  clear hw
  go_enter Tryd.func27, Tryd.ntmps27
  go_wp2_with fail
  refine (lof_lit exA (heap_alloc_new _ _) rfl rfl (by decide) (by decide) sayA (HW.out.alloc _)).mono ?_
  rintro e w1 ⟨rfl, hb⟩
  have HB1 := Lib.hid hb
  clear hb
  unfold ofV cpL
  go_wp2_with fail
  refine (lof_lit exB (heap_alloc_new _ _) rfl rfl (by decide) (by decide) sayB (HB1.out.alloc _)).mono ?_
  rintro e w2 ⟨rfl, hb⟩
  have HB2 := Lib.hid hb
  clear hb
  unfold ofV cpL cp0
  go_wp2_with fail
  refine (lof_lit exC (heap_alloc_new _ _) rfl rfl (by decide) (by decide) sayS (HB2.out.alloc _)).mono ?_
  rintro e w3 ⟨rfl, hb⟩
  have HB3 := Lib.hid hb
  clear hb
  unfold ofV cpL
  go_wp2_with fail
  go_ret
  exact ⟨rfl, HB3.out.below⟩
end Go.Proofs.YtanfonpbnamjmaaDoor
