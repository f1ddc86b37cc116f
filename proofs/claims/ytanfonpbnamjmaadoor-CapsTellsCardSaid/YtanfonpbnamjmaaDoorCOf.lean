/-
  The contract of package caps' Of.
-/
import Derived.Deep.QuietTactic
import Derived.BigQuiet
import Derived.Test.YtanfonpbnamjmaaDoorCParts
namespace Go.Proofs.YtanfonpbnamjmaaDoor
open Go Go.RowKit Go.Shelf
set_option maxRecDepth 100000

/-- Rows that come in whole. -/
structure SL (W : World) (b o n c : Nat) (xs : List (List UInt8)) : Prop where
  len : xs.length = n
  pos : 0 < n
  cap : n ≤ c ∧ c ≤ 9223372036854775807
  lt : b < W.heap.size
  cell : ∀ k, ∀ h : k < xs.length, W.cell? ⟨b, o + k, none⟩ = some (sv xs[k])

/-- What a round begins and ends by: the result's block, the peer's, the box that points at it, the map. -/
structure OfI (w : World) (k1 k2 k3 k4 : Nat) (c : Cp) (W : World) : Prop where
  lw : LW w
  bl : BL w W
  up : w.heap.size ≤ k1 ∧ w.heap.size ≤ k2 ∧ w.heap.size ≤ k3 ∧ w.heap.size ≤ k4
  ne : k2 ≠ k1 ∧ k2 ≠ k3 ∧ k2 ≠ k4
  res : W.heap[k1]? = some (.cells (cpL cp0) 50 (0, 0))
  cb : CB W k2 c
  pb : PB W k3 k2
  mp : W.heap[k4]? = some (mapO k3 6)

def allocs (w : World) (os : List Obj) : World := os.foldl World.alloc w
theorem heap_allocs : ∀ (os : List Obj) (w : World), (allocs w os).heap = w.heap ++ os.toArray
  | [], w => by simp [allocs]
  | o :: os, w => by
    have := heap_allocs os (w.alloc o)
    unfold allocs at this ⊢
    rw [List.foldl_cons, this]
    apply Array.ext'
    show ((w.heap.push o) ++ os.toArray).toList = (w.heap ++ (o :: os).toArray).toList
    rw [Array.toList_append, Array.toList_append, Array.toList_push]
    simp only [List.append_assoc, List.singleton_append]
theorem below_allocs : ∀ (os : List Obj) (w : World), Below w.heap.size w (allocs w os)
  | [], w => Below.refl _ _
  | o :: os, w => (below_alloc w o).trans ((below_allocs os (w.alloc o)).mono (by simp))

theorem setters_at (b s : Nat) (w : World) (hs : w.heap.size = s) : Calls Tryd.prog 59 #[.pointer (some ⟨b, 0, none⟩)] w fun e w' => e = .returned (.map (some (s + 1))) ∧ w' = (w.alloc (.cells #[.pointer (some ⟨b, 0, none⟩)] 97)).alloc (mapO s 6) := by
  subst hs; exact setters_any b w

theorem ofi_start {w X : World} {B0 : Obj} {k0 k1 k2 k3 k4 : Nat} (hw : LW w) (h0 : k0 = w.heap.size) (h1 : k1 = w.heap.size + 1) (h2 : k2 = w.heap.size + 1 + 1) (h3 : k3 = w.heap.size + 1 + 1 + 1) (h4 : k4 = w.heap.size + 1 + 1 + 1 + 1)
    (hX : X = ((((w.alloc B0).alloc (.cells (cpL cp0) 50)).alloc (.cells (cpL cp0) 50)).alloc (.cells #[.pointer (some ⟨k2, 0, none⟩)] 97)).alloc (mapO k3 6)) :
    OfI w k1 k2 k3 k4 cp0 X ∧ X.heap[k0]? = some B0 := by
  have hA : X = allocs w [B0, .cells (cpL cp0) 50, .cells (cpL cp0) 50, .cells #[.pointer (some ⟨k2, 0, none⟩)] 97, mapO k3 6] := hX
  have hh : X.heap = w.heap ++ #[B0, .cells (cpL cp0) 50, .cells (cpL cp0) 50, .cells #[.pointer (some ⟨k2, 0, none⟩)] 97, mapO k3 6] := by
    rw [hA]; exact heap_allocs _ _
  have hat : ∀ i, X.heap[w.heap.size + i]? = (#[B0, .cells (cpL cp0) 50, .cells (cpL cp0) 50, .cells #[.pointer (some ⟨k2, 0, none⟩)] 97, mapO k3 6] : Array Obj)[i]? := fun i => by
    rw [hh, Array.getElem?_append_right (by omega), Nat.add_sub_cancel_left]
  have hb : Below w.heap.size w X := by rw [hA]; exact below_allocs _ _
  refine ⟨⟨hw, ⟨hb, hw.below hb⟩, by omega, by omega, ?_, ?_, ?_, ?_⟩, ?_⟩
  · rw [h1]; exact hat 1
  · have := hat 2; rw [h2]; exact this
  · have := hat 3; unfold PB; rw [h3]; exact this
  · have := hat 4; rw [h4]; exact this
  · have := hat 0; rw [h0]; exact this

theorem OfI.below {w W W' : World} {k1 k2 k3 k4 : Nat} {c : Cp} (h : OfI w k1 k2 k3 k4 c W) (hb : Below W.heap.size W W') : OfI w k1 k2 k3 k4 c W' :=
  ⟨h.lw, h.bl.step hb, h.up, h.ne, blk_below h.res hb, blk_below h.cb hb, blk_below h.pb hb, blk_below h.mp hb⟩
theorem OfI.set {w W W' : World} {k1 k2 k3 k4 : Nat} {c c' : Cp} {e : Ending} (h : OfI w k1 k2 k3 k4 c W) (hs : SetPost k2 W c' e W') : OfI w k1 k2 k3 k4 c' W' := by
  obtain ⟨_, hk, hc⟩ := hs
  have hp := h.bl.size
  have hl := h.bl.lw
  have hu := h.up
  have hn := h.ne
  have hps := h.lw.pos
  refine ⟨h.lw, ⟨h.bl.1.trans (hk.to_below (fun k e => by simp at e; subst e; exact hu.2.1) hp), hl.of_blocks (hk.block _ (by omega) (by simp; omega))⟩, hu, hn, ?_, hc, ?_, ?_⟩
  · exact (hk.block k1 (lt_of_blk h.res) (by simpa using fun e => hn.1 e.symm)).trans h.res
  · exact (hk.block k3 (lt_of_blk h.pb) (by simpa using fun e => hn.2.1 e.symm)).trans h.pb
  · exact (hk.block k4 (lt_of_blk h.mp) (by simpa using fun e => hn.2.2 e.symm)).trans h.mp

theorem OfI.done {w W : World} {k1 k2 k3 k4 : Nat} {c : Cp} (h : OfI w k1 k2 k3 k4 c W) :
    (((((((W.setCell ⟨k1, 0, none⟩ (.bool c.st)).setCell ⟨k1, 1, none⟩ (.bool c.pi)).setCell ⟨k1, 2, none⟩ (.bool c.rq)).setCell ⟨k1, 3, none⟩ (.bool c.ds)).setCell ⟨k1, 4, none⟩ (.bool c.eb)).setCell ⟨k1, 5, none⟩ (.bool c.sz)).setCell ⟨k1, 6, none⟩ (.int .i64 c.mo)).heap[k1]? = some (.cells (cpL c) 50 (0, 0)) ∧
    Below w.heap.size w (((((((W.setCell ⟨k1, 0, none⟩ (.bool c.st)).setCell ⟨k1, 1, none⟩ (.bool c.pi)).setCell ⟨k1, 2, none⟩ (.bool c.rq)).setCell ⟨k1, 3, none⟩ (.bool c.ds)).setCell ⟨k1, 4, none⟩ (.bool c.eb)).setCell ⟨k1, 5, none⟩ (.bool c.sz)).setCell ⟨k1, 6, none⟩ (.int .i64 c.mo)) := by
  have hu := h.up.1
  exact ⟨(blk_set (blk_set (blk_set (blk_set (blk_set (blk_set (blk_set h.res 0 _) 1 _) 2 _) 3 _) 4 _) 5 _) 6 _).trans rfl,
    ((((((h.bl.below.setCell (p := ⟨k1, 0, none⟩) hu _).setCell (p := ⟨k1, 1, none⟩) hu _).setCell (p := ⟨k1, 2, none⟩) hu _).setCell (p := ⟨k1, 3, none⟩) hu _).setCell (p := ⟨k1, 4, none⟩) hu _).setCell (p := ⟨k1, 5, none⟩) hu _).setCell (p := ⟨k1, 6, none⟩) hu _⟩

theorem setC_word {b k : Nat} {W : World} {c : Cp} {n : Int} {wd : List UInt8} (hk : PB W k b) (hb : CB W b c) (h : isWord wd = true) :
    ∃ f, funV k wd = .func (.func f) #[] #[.pointer (some ⟨k, 0, none⟩)] ∧ Calls Tryd.prog f #[.int .i64 n, .pointer (some ⟨k, 0, none⟩)] W (SetPost b W (setC c wd n)) ∧ ∀ args w, (callFunc f args).run Tryd.prog w = .ok (.enter f args) w := by
  unfold isWord funF at h
  unfold funV funF setC
  by_cases h1 : wd = wST
  · rw [if_pos h1, if_pos h1]; exact ⟨_, rfl, set1_any hk hb, enters_of Tryd.func89 (by kernel_rfl) rfl⟩
  · rw [if_neg h1] at h
    rw [if_neg h1, if_neg h1]
    by_cases h2 : wd = wPI
    · rw [if_pos h2, if_pos h2]; exact ⟨_, rfl, set2_any hk hb, enters_of Tryd.func90 (by kernel_rfl) rfl⟩
    · rw [if_neg h2] at h
      rw [if_neg h2, if_neg h2]
      by_cases h3 : wd = wRQ
      · rw [if_pos h3, if_pos h3]; exact ⟨_, rfl, set3_any hk hb, enters_of Tryd.func91 (by kernel_rfl) rfl⟩
      · rw [if_neg h3] at h
        rw [if_neg h3, if_neg h3]
        by_cases h4 : wd = wDS
        · rw [if_pos h4, if_pos h4]; exact ⟨_, rfl, set4_any hk hb, enters_of Tryd.func92 (by kernel_rfl) rfl⟩
        · rw [if_neg h4] at h
          rw [if_neg h4, if_neg h4]
          by_cases h5 : wd = wEB
          · rw [if_pos h5, if_pos h5]; exact ⟨_, rfl, set5_any hk hb, enters_of Tryd.func93 (by kernel_rfl) rfl⟩
          · rw [if_neg h5] at h
            rw [if_neg h5, if_neg h5]
            by_cases h6 : wd = wSZ
            · rw [if_pos h6, if_pos h6]; exact ⟨_, rfl, set6_any hk hb, enters_of Tryd.func94 (by kernel_rfl) rfl⟩
            · rw [if_neg h6] at h; simp at h
theorem setC_noword {c : Cp} {n : Int} {wd : List UInt8} (h : isWord wd = false) : setC c wd n = c := by
  unfold isWord funF at h
  unfold setC
  by_cases h1 : wd = wST
  · rw [if_pos h1] at h; simp at h
  · rw [if_neg h1] at h
    rw [if_neg h1]
    by_cases h2 : wd = wPI
    · rw [if_pos h2] at h; simp at h
    · rw [if_neg h2] at h
      rw [if_neg h2]
      by_cases h3 : wd = wRQ
      · rw [if_pos h3] at h; simp at h
      · rw [if_neg h3] at h
        rw [if_neg h3]
        by_cases h4 : wd = wDS
        · rw [if_pos h4] at h; simp at h
        · rw [if_neg h4] at h
          rw [if_neg h4]
          by_cases h5 : wd = wEB
          · rw [if_pos h5] at h; simp at h
          · rw [if_neg h5] at h
            rw [if_neg h5]
            by_cases h6 : wd = wSZ
            · rw [if_pos h6] at h; simp at h
            · rw [if_neg h6]

def ofV (c : Cp) : Value := .agg (cpL c)

set_option maxHeartbeats 4000000 in
theorem of_250 (st : ByteArray) (b o n c : Nat) (xs : List (List UInt8)) (w : World) (hx : SL w b o n c xs) (hl : ∀ x ∈ xs, x.length ≤ 1000000) (hw : LW w) :
    Calls Tryd.prog 29 #[.agg #[.int .i64 250, .string st, .slice (some ⟨b, o, none⟩) n c]] w fun e w' => e = .returned (ofV (ofC 250 xs)) ∧ Below w.heap.size w w' := by
  have hn0 : ((n : Int) == 0) = false := by have := hx.pos; simp; omega
  have HW := Lib.hid hw
  have hn1 := hx.pos
  have hnc := hx.cap
  obtain ⟨ys, hys⟩ : ∃ ys, ys = xs.drop 1 := ⟨_, rfl⟩
  have HLEN : ys.length = n - 1 := by rw [hys, List.length_drop, hx.len]
  have HFIN := Lib.hid (show ofC 250 xs = ys.foldl lineC cp0 by unfold ofC sayC; rw [if_pos rfl, hys])
  have HYL := Lib.hid (show ∀ x ∈ ys, x.length ≤ 1000000 from fun x h => hl x (List.mem_of_mem_drop (hys ▸ h)))
  have HCELL := Lib.hid (show ∀ W, BL w W → ∀ j, ∀ h : j < ys.length, W.cell? ⟨b, o + 1 + j, none⟩ = some (sv ys[j]) from fun W hb j h => by
    subst hys
    have h2 : 1 + j < xs.length := by simp at h; omega
    rw [show o + 1 + j = o + (1 + j) by omega, List.getElem_drop]
    exact (hb.below.cell (p := ⟨b, o + (1 + j), none⟩) hx.lt).trans (hx.cell (1 + j) h2))
  have hn63 : n ≤ 9223372036854775807 := by omega
  clear hw hys hl
  by_cases hc1 : c = 1
  · subst hc1
    obtain rfl : n = 1 := by omega
    clear hx
    go_enter Tryd.func29, Tryd.ntmps29
    go_wp2_with fail
    refine (setters_at _ (w.heap.size + 1 + 1 + 1) _ (by simp)).mono ?_
    rintro e X ⟨rfl, hX⟩
    obtain ⟨k0, h0⟩ : ∃ k, k = w.heap.size := ⟨_, rfl⟩
    obtain ⟨k1, h1⟩ : ∃ k, k = w.heap.size + 1 := ⟨_, rfl⟩
    obtain ⟨k2, h2⟩ : ∃ k, k = w.heap.size + 1 + 1 := ⟨_, rfl⟩
    obtain ⟨k3, h3⟩ : ∃ k, k = w.heap.size + 1 + 1 + 1 := ⟨_, rfl⟩
    obtain ⟨k4, h4⟩ : ∃ k, k = w.heap.size + 1 + 1 + 1 + 1 := ⟨_, rfl⟩
    have HX := ofi_start (X := X) HW.out h0 h1 h2 h3 h4 (hX.trans (by rw [h2, h3]; rfl))
    rw [← h4, ← h2, ← h1, ← h0]
    clear hX h0 h1 h2 h3 h4
    obtain ⟨hi, hb0⟩ := HX
    have c2 : X.cell? ⟨k0, 2, none⟩ = some (.slice (some ⟨b, o, none⟩) 1 1) := by rw [cellAt hb0]; rfl
    have H0 := Lib.hid hi
    clear hi hb0
    go_wp2_with fail
    clear c2
    go_loopw [6, 7, 8, 9, 10, 26] (fun _ _ _ _ _ i wr => ∃ j : Nat, j ≤ ys.length ∧ i = .int .i64 j ∧ OfI w k1 k2 k3 k4 ((ys.take j).foldl lineC cp0) wr) (fun _ _ _ _ _ i _ => ys.length - (intOf i).toNat)
    case atStart => exact ⟨0, Nat.zero_le _, rfl, H0.out⟩
    case round =>
      obtain ⟨j, hj, rfl, hi⟩ := hrel
      obtain ⟨cc, hcc⟩ : ∃ cc, cc = (ys.take j).foldl lineC cp0 := ⟨_, rfl⟩
      rw [← hcc] at hi
      have HI := Lib.hid hi
      have hlt : ¬ j < ys.length := by omega
      obtain rfl : j = ys.length := by omega
      have hcb := hi.cb
      have hres := hi.res
      have a0 : wr.cell? ⟨k2, 0, none⟩ = some (.bool cc.st) := by rw [cellAt hcb]; rfl
      have a1 : wr.cell? ⟨k2, 1, none⟩ = some (.bool cc.pi) := by rw [cellAt hcb]; rfl
      have a2 : wr.cell? ⟨k2, 2, none⟩ = some (.bool cc.rq) := by rw [cellAt hcb]; rfl
      have a3 : wr.cell? ⟨k2, 3, none⟩ = some (.bool cc.ds) := by rw [cellAt hcb]; rfl
      have a4 : wr.cell? ⟨k2, 4, none⟩ = some (.bool cc.eb) := by rw [cellAt hcb]; rfl
      have a5 : wr.cell? ⟨k2, 5, none⟩ = some (.bool cc.sz) := by rw [cellAt hcb]; rfl
      have a6 : wr.cell? ⟨k2, 6, none⟩ = some (.int .i64 cc.mo) := by rw [cellAt hcb]; rfl
      have b0 : wr.cell? ⟨k1, 0, none⟩ = some (.bool false) := by rw [cellAt hres]; rfl
      have b1 : wr.cell? ⟨k1, 1, none⟩ = some (.bool false) := by rw [cellAt hres]; rfl
      have b2 : wr.cell? ⟨k1, 2, none⟩ = some (.bool false) := by rw [cellAt hres]; rfl
      have b3 : wr.cell? ⟨k1, 3, none⟩ = some (.bool false) := by rw [cellAt hres]; rfl
      have b4 : wr.cell? ⟨k1, 4, none⟩ = some (.bool false) := by rw [cellAt hres]; rfl
      have b5 : wr.cell? ⟨k1, 5, none⟩ = some (.bool false) := by rw [cellAt hres]; rfl
      have b6 : wr.cell? ⟨k1, 6, none⟩ = some (.int .i64 0) := by rw [cellAt hres]; rfl
      have f0 := freeAt hres 0; have f1 := freeAt hres 1; have f2 := freeAt hres 2; have f3 := freeAt hres 3; have f4 := freeAt hres 4; have f5 := freeAt hres 5; have f6 := freeAt hres 6
      have HE := Lib.hid (hi.done)
      have HCC := Lib.hid (show ofC 250 xs = cc by rw [HFIN.out, hcc, List.take_of_length_le (Nat.le_refl _)])
      clear hcc hi hcb hres HI
      go_wp2_with fail
      refine bodyPost_ret (v := ofV cc) (results_cell_row (p := 2) (fr := (0, 0)) Tryd.results29 _ _ k1 50 _ _ rfl HE.out.1 Tryd.underlying50 rfl (by kernel_rfl)) rfl ?_
      rw [HCC.out]
      exact ⟨rfl, HE.out.2⟩
  clear hx
  go_enter Tryd.func29, Tryd.ntmps29
  go_wp2_with fail
  refine (setters_at _ (w.heap.size + 1 + 1 + 1) _ (by simp)).mono ?_
  rintro e X ⟨rfl, hX⟩
  obtain ⟨k0, h0⟩ : ∃ k, k = w.heap.size := ⟨_, rfl⟩
  obtain ⟨k1, h1⟩ : ∃ k, k = w.heap.size + 1 := ⟨_, rfl⟩
  obtain ⟨k2, h2⟩ : ∃ k, k = w.heap.size + 1 + 1 := ⟨_, rfl⟩
  obtain ⟨k3, h3⟩ : ∃ k, k = w.heap.size + 1 + 1 + 1 := ⟨_, rfl⟩
  obtain ⟨k4, h4⟩ : ∃ k, k = w.heap.size + 1 + 1 + 1 + 1 := ⟨_, rfl⟩
  have HX := ofi_start (X := X) HW.out h0 h1 h2 h3 h4 (hX.trans (by rw [h2, h3]; rfl))
  rw [← h4, ← h2, ← h1, ← h0]
  clear hX h0 h1 h2 h3 h4
  obtain ⟨hi, hb0⟩ := HX
  have c2 : X.cell? ⟨k0, 2, none⟩ = some (.slice (some ⟨b, o, none⟩) n c) := by rw [cellAt hb0]; rfl
  have H0 := Lib.hid hi
  clear hi hb0
  go_wp2_with fail
  clear c2
  go_loopw [6, 7, 8, 9, 10, 26] (fun _ _ _ _ _ i wr => ∃ j : Nat, j ≤ ys.length ∧ i = .int .i64 j ∧ OfI w k1 k2 k3 k4 ((ys.take j).foldl lineC cp0) wr) (fun _ _ _ _ _ i _ => ys.length - (intOf i).toNat)
  case atStart => exact ⟨0, Nat.zero_le _, rfl, H0.out⟩
  case round =>
    obtain ⟨j, hj, rfl, hi⟩ := hrel
    obtain ⟨cc, hcc⟩ : ∃ cc, cc = (ys.take j).foldl lineC cp0 := ⟨_, rfl⟩
    rw [← hcc] at hi
    have HI := Lib.hid hi
    by_cases hlt : j < ys.length
    · obtain ⟨s, hs⟩ : ∃ s, s = ys[j] := ⟨_, rfl⟩
      have hsl : s.length ≤ 1000000 := by rw [hs]; exact HYL.out _ (List.getElem_mem hlt)
      have q1 : wr.cell? ⟨b, o + 1 + j, none⟩ = some (sv s) := by rw [hs]; exact HCELL.out wr hi.bl j hlt
      have HS := Lib.hid (show (ys.take (j + 1)).foldl lineC cp0 = lineC cc s by rw [List.take_succ_eq_append_getElem hlt, List.foldl_append, ← hcc, ← hs]; rfl)
      obtain ⟨wd, nn, hwd⟩ : ∃ wd nn, partsR (greatL s) = (wd, nn) := ⟨_, _, rfl⟩
      have HLC := Lib.hid (show lineC cc s = setC cc wd nn by unfold lineC; rw [hwd])
      have HG := Lib.hid (great_any s wr hsl)
      have HPT := Lib.hid (show ∀ W, LW W → Calls Tryd.prog 60 #[sv (greatL s)] W fun e w' => e = .returned (.tuple #[sv wd, .int .i64 nn]) ∧ Below W.heap.size W w' from fun W hW => by
        have := parts_any (greatL s) W (by rw [greatL_len]; exact hsl) hW
        unfold partsV at this
        rwa [hwd] at this)
      clear hcc hs hi hwd hsl
      have hjn : j < n - 1 := by omega
      go_wp2_with fail
      refine (HG.out).mono ?_
      rintro e w1 ⟨rfl, hb⟩
      have hi1 := HI.out.below hb
      have HI1 := Lib.hid hi1
      have hpc := HPT.out w1 hi1.bl.lw
      have HPC := Lib.hid hpc
      clear hb hi1 hpc
      go_wp2_with fail
      refine (HPC.out).mono ?_
      rintro e w2 ⟨rfl, hb⟩
      have hi2 := HI1.out.below hb
      have HI2 := Lib.hid hi2
      have hlk := run_look hi2.mp wd
      cases hw : isWord wd with
      | false =>
        have HN := Lib.hid (show OfI w k1 k2 k3 k4 ((ys.take (j + 1)).foldl lineC cp0) w2 by rw [HS.out, HLC.out, setC_noword hw]; exact hi2)
        rw [hw] at hlk
        generalize funV k3 wd = fv at hlk
        clear hb hi2 hw
        go_wp2_with fail
        go_roundw
        case rel => exact ⟨j + 1, by omega, by go_num, HN.out⟩
        case measure => simp [intOf]; omega
      | true =>
        obtain ⟨f, hfv, hcall, hent⟩ := setC_word (n := nn) hi2.pb hi2.cb hw
        rw [hw, hfv] at hlk
        have HCL := Lib.hid hcall
        clear hb hi2 hw hcall hfv
        go_wp2_with fail
        refine (HCL.out).mono ?_
        intro e w3 hset
        have HN := Lib.hid (show OfI w k1 k2 k3 k4 ((ys.take (j + 1)).foldl lineC cp0) w3 by rw [HS.out, HLC.out]; exact HI2.out.set hset)
        obtain ⟨rfl, -, -⟩ := hset
        go_wp2_with fail
        go_roundw
        case rel => exact ⟨j + 1, by omega, by go_num, HN.out⟩
        case measure => simp [intOf]; omega
    · obtain rfl : j = ys.length := by omega
      have hq : ¬ ys.length < n - 1 := by omega
      have hcb := hi.cb
      have hres := hi.res
      have a0 : wr.cell? ⟨k2, 0, none⟩ = some (.bool cc.st) := by rw [cellAt hcb]; rfl
      have a1 : wr.cell? ⟨k2, 1, none⟩ = some (.bool cc.pi) := by rw [cellAt hcb]; rfl
      have a2 : wr.cell? ⟨k2, 2, none⟩ = some (.bool cc.rq) := by rw [cellAt hcb]; rfl
      have a3 : wr.cell? ⟨k2, 3, none⟩ = some (.bool cc.ds) := by rw [cellAt hcb]; rfl
      have a4 : wr.cell? ⟨k2, 4, none⟩ = some (.bool cc.eb) := by rw [cellAt hcb]; rfl
      have a5 : wr.cell? ⟨k2, 5, none⟩ = some (.bool cc.sz) := by rw [cellAt hcb]; rfl
      have a6 : wr.cell? ⟨k2, 6, none⟩ = some (.int .i64 cc.mo) := by rw [cellAt hcb]; rfl
      have b0 : wr.cell? ⟨k1, 0, none⟩ = some (.bool false) := by rw [cellAt hres]; rfl
      have b1 : wr.cell? ⟨k1, 1, none⟩ = some (.bool false) := by rw [cellAt hres]; rfl
      have b2 : wr.cell? ⟨k1, 2, none⟩ = some (.bool false) := by rw [cellAt hres]; rfl
      have b3 : wr.cell? ⟨k1, 3, none⟩ = some (.bool false) := by rw [cellAt hres]; rfl
      have b4 : wr.cell? ⟨k1, 4, none⟩ = some (.bool false) := by rw [cellAt hres]; rfl
      have b5 : wr.cell? ⟨k1, 5, none⟩ = some (.bool false) := by rw [cellAt hres]; rfl
      have b6 : wr.cell? ⟨k1, 6, none⟩ = some (.int .i64 0) := by rw [cellAt hres]; rfl
      have f0 := freeAt hres 0; have f1 := freeAt hres 1; have f2 := freeAt hres 2; have f3 := freeAt hres 3; have f4 := freeAt hres 4; have f5 := freeAt hres 5; have f6 := freeAt hres 6
      have HE := Lib.hid (hi.done)
      have HCC := Lib.hid (show ofC 250 xs = cc by rw [HFIN.out, hcc, List.take_of_length_le (Nat.le_refl _)])
      clear hcc hi hcb hres HI
      go_wp2_with fail
      refine bodyPost_ret (v := ofV cc) (results_cell_row (p := 2) (fr := (0, 0)) Tryd.results29 _ _ k1 50 _ _ rfl HE.out.1 Tryd.underlying50 rfl (by kernel_rfl)) rfl ?_
      rw [HCC.out]
      exact ⟨rfl, HE.out.2⟩

theorem zero_heap (w : World) (B : Obj) : (((w.alloc B).alloc (.cells (cpL cp0) 50)).alloc (.cells (cpL cp0) 50)).heap[w.heap.size + 1]? = some (.cells (cpL cp0) 50 (0, 0)) ∧
    Below w.heap.size w (((w.alloc B).alloc (.cells (cpL cp0) 50)).alloc (.cells (cpL cp0) 50)) := by
  have h := heap_alloc_new (w.alloc B) (.cells (cpL cp0) 50)
  have h2 := (Lib.alloc_old _ (.cells (cpL cp0) 50) _ (lt_of_blk h)).trans h
  rw [World.size_alloc] at h2
  exact ⟨h2, (((Below.refl _ w).alloc (Nat.le_refl _) _).alloc (by simp) _).alloc (by simp; omega) _⟩

theorem of_zero (code : Int) (st : ByteArray) (A : Option Addr) (n c : Nat) (w : World) (h : code ≠ 250 ∨ n = 0) :
    Calls Tryd.prog 29 #[.agg #[.int .i64 code, .string st, .slice A n c]] w fun e w' => e = .returned (ofV cp0) ∧ Below w.heap.size w w' := by
  have HZ := Lib.hid (zero_heap w (.cells #[.int .i64 code, .string st, .slice A n c] 42))
  by_cases hc : code = 250
  · have hn : n = 0 := h.resolve_left (fun h => h hc)
    subst hn
    subst hc
    go_enter Tryd.func29, Tryd.ntmps29
    go_wp2_with fail
    exact bodyPost_ret (v := ofV cp0) (results_cell_row (p := 2) (fr := (0, 0)) Tryd.results29 _ _ (w.heap.size + 1) 50 _ _ rfl HZ.out.1 Tryd.underlying50 rfl (by kernel_rfl)) rfl ⟨rfl, HZ.out.2⟩
  · have h1 : (code != 250) = true := by simpa using hc
    clear h hc
    go_enter Tryd.func29, Tryd.ntmps29
    go_wp2_with fail
    exact bodyPost_ret (v := ofV cp0) (results_cell_row (p := 2) (fr := (0, 0)) Tryd.results29 _ _ (w.heap.size + 1) 50 _ _ rfl HZ.out.1 Tryd.underlying50 rfl (by kernel_rfl)) rfl ⟨rfl, HZ.out.2⟩

/-- Whatever reply: its lines in a row that has room for them. -/
def SW (W : World) (v : Value) (xs : List (List UInt8)) : Prop :=
  ∃ A c, v = .slice A xs.length c ∧ (xs = [] ∨ ∃ b o, A = some ⟨b, o, none⟩ ∧ b < W.heap.size ∧ xs.length ≤ c ∧ c ≤ 9223372036854775807 ∧ ∀ k, ∀ h : k < xs.length, W.cell? ⟨b, o + k, none⟩ = some (sv xs[k]))
theorem SW.below {W W' : World} {v : Value} {xs : List (List UInt8)} (h : SW W v xs) (hb : Below W.heap.size W W') : SW W' v xs := by
  obtain ⟨A, c, e, h⟩ := h
  exact ⟨A, c, e, h.imp id fun ⟨b, o, e, hl, h1, h2, hc⟩ => ⟨b, o, e, Nat.lt_of_lt_of_le hl hb.size, h1, h2, fun k hk => (hb.cell (p := ⟨b, o + k, none⟩) hl).trans (hc k hk)⟩⟩
theorem of_any (code : Int) (st : ByteArray) (v : Value) (xs : List (List UInt8)) (w : World) (hx : SW w v xs) (hl : ∀ x ∈ xs, x.length ≤ 1000000) (hw : LW w) :
    Calls Tryd.prog 29 #[.agg #[.int .i64 code, .string st, v]] w fun e w' => e = .returned (ofV (ofC code xs)) ∧ Below w.heap.size w w' := by
  obtain ⟨A, c, rfl, h⟩ := hx
  rcases h with rfl | ⟨b, o, rfl, hlt, h1, h2, hc⟩
  · have e : ofC code [] = cp0 := by unfold ofC; split <;> rfl
    rw [e]
    exact of_zero code st A _ c w (.inr rfl)
  · by_cases h250 : code = 250
    · subst h250
      rcases Nat.eq_zero_or_pos xs.length with h0 | h0
      · have e : ofC 250 xs = cp0 := by rw [List.length_eq_zero_iff.1 h0]; rfl
        rw [e]
        exact of_zero 250 st _ _ c w (.inr h0)
      · exact of_250 st b o xs.length c xs w ⟨rfl, h0, ⟨h1, h2⟩, hlt, hc⟩ hl hw
    · have e : ofC code xs = cp0 := by unfold ofC; rw [if_neg h250]
      rw [e]
      exact of_zero code st _ _ c w (.inl h250)
end Go.Proofs.YtanfonpbnamjmaaDoor
