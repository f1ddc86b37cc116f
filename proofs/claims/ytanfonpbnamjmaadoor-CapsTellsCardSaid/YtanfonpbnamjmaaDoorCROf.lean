/-
  The reference's Of.
-/
import Derived.Deep.RegionWith
import Derived.Test.YtanfonpbnamjmaaDoorCRefL
namespace Go.Proofs.YtanfonpbnamjmaaDoor
open Go Go.RowKit Go.Shelf
set_option maxRecDepth 100000

/-- What the reference's Of holds: the reply's block, the result's, the peer's. -/
structure RI (w : World) (B : Array Value) (c : Cp) (W : World) : Prop where
  b : Below w.heap.size w W
  k0 : W.heap[w.heap.size]? = some (.cells B 35 (0, 0))
  res : CB5 W (w.heap.size + 1) cp0
  cb : CB5 W (w.heap.size + 1 + 1) c
theorem RI.below {w W W' : World} {B : Array Value} {c : Cp} (h : RI w B c W) (hb : Below W.heap.size W W') : RI w B c W' :=
  ⟨h.b.trans (hb.mono h.b.size), blk_below h.k0 hb, blk_below h.res hb, blk_below h.cb hb⟩
theorem RI.drew {w W : World} {B : Array Value} {c : Cp} (h : RI w B c W) : RI w B c W.drew := h.below (Below.refl _ _).drew
theorem ri_start (w : World) (B : Array Value) : RI w B cp0 (((w.alloc (.cells B 35)).alloc (.cells (cpL cp0) 55)).alloc (.cells (cpL cp0) 55)) := by
  have h0 := heap_alloc_new w (.cells B 35)
  have h1 := heap_alloc_new (w.alloc (.cells B 35)) (.cells (cpL cp0) 55)
  have h2 := heap_alloc_new ((w.alloc (.cells B 35)).alloc (.cells (cpL cp0) 55)) (.cells (cpL cp0) 55)
  simp only [World.size_alloc] at h1 h2
  exact ⟨(((Below.refl _ w).alloc (Nat.le_refl _) _).alloc (by simp) _).alloc (by simp; omega) _, (Lib.alloc_old _ _ _ (by simp; omega)).trans ((Lib.alloc_old _ _ _ (lt_of_blk h0)).trans h0), (Lib.alloc_old _ _ _ (lt_of_blk h1)).trans h1, h2⟩
theorem set7 (c c' : Cp) : (((((((cpL c).setIfInBounds 0 (.bool c'.st)).setIfInBounds 1 (.bool c'.pi)).setIfInBounds 2 (.bool c'.rq)).setIfInBounds 3 (.bool c'.ds)).setIfInBounds 4 (.bool c'.eb)).setIfInBounds 5 (.bool c'.sz)).setIfInBounds 6 (.int .i64 c'.mo) = cpL c' := by
  cases c; rfl
theorem RI.put {w W : World} {B : Array Value} {c : Cp} (h : RI w B c W) (c' : Cp) :
    RI w B c' (((((((W.setCell ⟨w.heap.size + 1 + 1, 0, none⟩ (.bool c'.st)).setCell ⟨w.heap.size + 1 + 1, 1, none⟩ (.bool c'.pi)).setCell ⟨w.heap.size + 1 + 1, 2, none⟩ (.bool c'.rq)).setCell ⟨w.heap.size + 1 + 1, 3, none⟩ (.bool c'.ds)).setCell ⟨w.heap.size + 1 + 1, 4, none⟩ (.bool c'.eb)).setCell ⟨w.heap.size + 1 + 1, 5, none⟩ (.bool c'.sz)).setCell ⟨w.heap.size + 1 + 1, 6, none⟩ (.int .i64 c'.mo)) := by
  have hb : Below (w.heap.size + 1 + 1) W (((((((W.setCell ⟨w.heap.size + 1 + 1, 0, none⟩ (.bool c'.st)).setCell ⟨w.heap.size + 1 + 1, 1, none⟩ (.bool c'.pi)).setCell ⟨w.heap.size + 1 + 1, 2, none⟩ (.bool c'.rq)).setCell ⟨w.heap.size + 1 + 1, 3, none⟩ (.bool c'.ds)).setCell ⟨w.heap.size + 1 + 1, 4, none⟩ (.bool c'.eb)).setCell ⟨w.heap.size + 1 + 1, 5, none⟩ (.bool c'.sz)).setCell ⟨w.heap.size + 1 + 1, 6, none⟩ (.int .i64 c'.mo)) :=
    (((((((Below.refl _ W).setCell (p := ⟨w.heap.size + 1 + 1, 0, none⟩) (Nat.le_refl _) _).setCell (p := ⟨w.heap.size + 1 + 1, 1, none⟩) (Nat.le_refl _) _).setCell (p := ⟨w.heap.size + 1 + 1, 2, none⟩) (Nat.le_refl _) _).setCell (p := ⟨w.heap.size + 1 + 1, 3, none⟩) (Nat.le_refl _) _).setCell (p := ⟨w.heap.size + 1 + 1, 4, none⟩) (Nat.le_refl _) _).setCell (p := ⟨w.heap.size + 1 + 1, 5, none⟩) (Nat.le_refl _) _).setCell (p := ⟨w.heap.size + 1 + 1, 6, none⟩) (Nat.le_refl _) _
  exact ⟨h.b.trans (hb.mono (by omega)), (hb.block _ (by omega)).trans h.k0, (hb.block _ (by omega)).trans h.res,
    (blk_set (blk_set (blk_set (blk_set (blk_set (blk_set (blk_set h.cb 0 _) 1 _) 2 _) 3 _) 4 _) 5 _) 6 _).trans (by rw [set7])⟩

theorem rbdy {Q : Ending → World → Prop} {w W' : World} {c : Cp} {tmps : Array Value} (hp : tmps.getD 2 undef = .pointer (some ⟨w.heap.size + 1, 0, none⟩)) (h : CB5 W' (w.heap.size + 1) c) (hq : Q (.returned (ofV c)) W') : bodyPost Tryd.prog Tryd.f33 Q .ret { tmps := tmps, defers := [] } W' :=
  bodyPost_ret (v := ofV c) (results_cell_row (p := 2) (fr := (0, 0)) Tryd.results33 _ _ (w.heap.size + 1) 55 _ _ hp h Tryd.underlying55 rfl (by kernel_rfl)) rfl hq

/-- The lines, wherever they lie: each of them at its cell. -/
def Cells (W : World) (A : Option Addr) (xs : List (List UInt8)) : Prop := xs = [] ∨ ∃ b o, A = some ⟨b, o, none⟩ ∧ b < W.heap.size ∧ ∀ k, ∀ h : k < xs.length, W.cell? ⟨b, o + k, none⟩ = some (sv xs[k])

set_option maxHeartbeats 4000000 in
theorem rof_250 (st : ByteArray) (A : Option Addr) (n c : Nat) (xs : List (List UInt8)) (w : World) (hn : xs.length = n) (hx : Cells w A xs) (hl : ∀ x ∈ xs, x.length ≤ 1000000) (hx1 : xs.length ≤ 1000000) :
    Calls Tryd.prog 33 #[.agg #[.int .i64 250, .string st, .slice A n c]] w fun e w' => e = .returned (ofV (ofC 250 xs)) ∧ Below w.heap.size w w' := by
  obtain ⟨ys, hys⟩ : ∃ ys, ys = xs.drop 1 := ⟨_, rfl⟩
  have HLEN : ys.length = n - 1 := by rw [hys, List.length_drop, hn]
  have HFIN := Lib.hid (show ofC 250 xs = ys.foldl lineC cp0 by unfold ofC sayC; rw [if_pos rfl, hys])
  have HYL := Lib.hid (show ∀ x ∈ ys, x.length ≤ 1000000 from fun x h => hl x (List.mem_of_mem_drop (hys ▸ h)))
  have HCELL := Lib.hid (show ∀ j, ∀ h : j < ys.length, ∃ b o, A = some ⟨b, o, none⟩ ∧ ∀ W, Below w.heap.size w W → W.cell? ⟨b, o + (j + 1), none⟩ = some (sv ys[j]) from fun j h => by
    subst hys
    have h2 : j + 1 < xs.length := by simp at h; omega
    rcases hx with rfl | ⟨b, o, e, hlt, hc⟩
    · simp at h2
    · exact ⟨b, o, e, fun W hb => (hb.cell (p := ⟨b, o + (j + 1), none⟩) hlt).trans ((hc (j + 1) h2).trans (by rw [List.getElem_drop]; simp [Nat.add_comm]))⟩)
  have HS0 := Lib.hid (ri_start w #[.int .i64 250, .string st, .slice A n c])
  clear hys hl hx
  go_enter Tryd.func33, Tryd.ntmps33
  go_wp2_with fail
  go_loopw [4] (fun i wr => ∃ j : Nat, j ≤ ys.length ∧ i = .int .i64 ((j + 1 : Nat) : Int) ∧ RI w #[.int .i64 250, .string st, .slice A n c] ((ys.take j).foldl lineC cp0) wr) (fun i _ => ys.length + 1 - (intOf i).toNat)
  case atStart => exact ⟨0, Nat.zero_le _, rfl, HS0.out⟩
  case round =>
    obtain ⟨j, hj, rfl, hi⟩ := hrel
    obtain ⟨cc, hcc⟩ : ∃ cc, cc = (ys.take j).foldl lineC cp0 := ⟨_, rfl⟩
    rw [← hcc] at hi
    have HI := Lib.hid hi
    have q0 : wr.cell? ⟨w.heap.size, 0, none⟩ = some (.int .i64 250) := by rw [cellAt hi.k0]; rfl
    have q2 : wr.cell? ⟨w.heap.size, 2, none⟩ = some (.slice A n c) := by rw [cellAt hi.k0]; rfl
    have hcb := hi.cb
    obtain ⟨a0, a1, a2, a3, a4, a5, a6⟩ := cbC5 hcb
    by_cases hlt : j < ys.length
    · obtain ⟨s, hs⟩ : ∃ s, s = ys[j] := ⟨_, rfl⟩
      have hsl : s.length ≤ 1000000 := by rw [hs]; exact HYL.out _ (List.getElem_mem hlt)
      obtain ⟨b, o, rfl, hcell⟩ := HCELL.out j hlt
      have q1 : wr.cell? ⟨b, o + (j + 1), none⟩ = some (sv s) := by rw [hs]; exact hcell wr hi.b
      obtain ⟨cd, hcd⟩ : ∃ cd, cd = lineC cc s := ⟨_, rfl⟩
      have HS := Lib.hid (show (ys.take (j + 1)).foldl lineC cp0 = cd by rw [List.take_succ_eq_append_getElem hlt, List.foldl_append, ← hcc, ← hs, hcd]; rfl)
      have HLN := Lib.hid (show ∀ W, RI w #[.int .i64 250, .string st, .slice (some ⟨b, o, none⟩) n c] cc W → Calls Tryd.prog 65 #[.agg #[.bool cc.st, .bool cc.pi, .bool cc.rq, .bool cc.ds, .bool cc.eb, .bool cc.sz, .int .i64 cc.mo], sv s] W fun e W' => e = .returned (.agg #[.bool cd.st, .bool cd.pi, .bool cd.rq, .bool cd.ds, .bool cd.eb, .bool cd.sz, .int .i64 cd.mo]) ∧ RI w #[.int .i64 250, .string st, .slice (some ⟨b, o, none⟩) n c] cc W' from
        fun W h => (rline_any cc s W hsl).mono fun e W' ⟨he, hb⟩ => ⟨by rw [he, hcd]; rfl, h.below hb⟩)
      have HLV := Lib.hid (show ∀ W, RI w #[.int .i64 250, .string st, .slice (some ⟨b, o, none⟩) n c] cc W → W.frozen? ⟨w.heap.size + 1 + 1, 0, none⟩ = false ∧ W.frozen? ⟨w.heap.size + 1 + 1, 1, none⟩ = false ∧ W.frozen? ⟨w.heap.size + 1 + 1, 2, none⟩ = false ∧ W.frozen? ⟨w.heap.size + 1 + 1, 3, none⟩ = false ∧ W.frozen? ⟨w.heap.size + 1 + 1, 4, none⟩ = false ∧ W.frozen? ⟨w.heap.size + 1 + 1, 5, none⟩ = false ∧ W.frozen? ⟨w.heap.size + 1 + 1, 6, none⟩ = false from
        fun W h => ⟨freeAt h.cb 0, freeAt h.cb 1, freeAt h.cb 2, freeAt h.cb 3, freeAt h.cb 4, freeAt h.cb 5, freeAt h.cb 6⟩)
      have HLC := Lib.hid (fun W (h : RI w #[.int .i64 250, .string st, .slice (some ⟨b, o, none⟩) n c] cc W) => cbC5 h.cb)
      have HP := Lib.hid (fun W (h : RI w #[.int .i64 250, .string st, .slice (some ⟨b, o, none⟩) n c] cc W) => h.put cd)
      have hjn : j + 1 < n := by omega
      have h0X := hi
      clear hcc hs hsl hcell hcb hcd hi
      go_wp2_with fail
      go_region_with (first
        | (go_at_call 65; with_reducible refine (HLN.out _ (by first | exact h0X | exact RI.drew h0X)).mono ?_; rintro e1 w8 ⟨rfl, hR⟩; obtain ⟨m0, m1, m2, m3, m4, m5, m6⟩ := HLC.out _ hR; obtain ⟨l0, l1, l2, l3, l4, l5, l6⟩ := HLV.out _ hR))
      all_goals (try go_wp2_with fail)
      all_goals go_roundw
      case rel => exact ⟨j + 1, by omega, by go_num, by rw [HS.out]; exact HP.out _ hR⟩
      case measure => simp [intOf]; omega
      case rel => exact ⟨j + 1, by omega, by go_num, by rw [HS.out]; exact HP.out _ hR⟩
      case measure => simp [intOf]; omega
      case rel => exact ⟨j + 1, by omega, by go_num, by rw [HS.out]; exact HP.out _ hR⟩
      case measure => simp [intOf]; omega
      case rel => exact ⟨j + 1, by omega, by go_num, by rw [HS.out]; exact HP.out _ hR⟩
      case measure => simp [intOf]; omega
    · obtain rfl : j = ys.length := by omega
      have hq : ¬ ys.length + 1 < n := by omega
      have hres := hi.res
      obtain ⟨d0, d1, d2, d3, d4, d5, d6⟩ := cbC5 hres
      have f0 := freeAt hres 0; have f1 := freeAt hres 1; have f2 := freeAt hres 2; have f3 := freeAt hres 3; have f4 := freeAt hres 4; have f5 := freeAt hres 5; have f6 := freeAt hres 6
      have HE := Lib.hid (seven5 (c := cc) hi.res hi.b (by omega))
      have HCC := Lib.hid (show ofC 250 xs = cc by rw [HFIN.out, hcc, List.take_of_length_le (Nat.le_refl _)])
      clear hcc hi hcb hres HI
      go_wp2_with fail
      rw [HCC.out]
      exact rbdy (w := w) rfl HE.out.1 ⟨rfl, HE.out.2⟩

theorem rof_zero (code : Int) (st : ByteArray) (A : Option Addr) (n c : Nat) (w : World) (h : code ≠ 250) :
    Calls Tryd.prog 33 #[.agg #[.int .i64 code, .string st, .slice A n c]] w fun e w' => e = .returned (ofV cp0) ∧ Below w.heap.size w w' := by
  have HS0 := Lib.hid (ri_start w #[.int .i64 code, .string st, .slice A n c])
  have hc : (code == 250) = false := by simpa using h
  clear h
  go_enter Tryd.func33, Tryd.ntmps33
  go_wp2_with fail
  go_loopw [4] (fun i wr => i = .int .i64 1 ∧ RI w #[.int .i64 code, .string st, .slice A n c] cp0 wr) (fun _ _ => 0)
  case atStart => exact ⟨rfl, HS0.out⟩
  case round =>
    obtain ⟨rfl, hi⟩ := hrel
    have q0 : wr.cell? ⟨w.heap.size, 0, none⟩ = some (.int .i64 code) := by rw [cellAt hi.k0]; rfl
    have q2 : wr.cell? ⟨w.heap.size, 2, none⟩ = some (.slice A n c) := by rw [cellAt hi.k0]; rfl
    obtain ⟨a0, a1, a2, a3, a4, a5, a6⟩ := cbC5 hi.cb
    have hres := hi.res
    obtain ⟨d0, d1, d2, d3, d4, d5, d6⟩ := cbC5 hres
    have f0 := freeAt hres 0; have f1 := freeAt hres 1; have f2 := freeAt hres 2; have f3 := freeAt hres 3; have f4 := freeAt hres 4; have f5 := freeAt hres 5; have f6 := freeAt hres 6
    have HE := Lib.hid (seven5 (c := cp0) hi.res hi.b (by omega))
    clear hi hres
    by_cases hl : (1 : Int) < n
    · go_wp2_with fail
      exact rbdy (w := w) rfl HE.out.1 ⟨rfl, HE.out.2⟩
    · go_wp2_with fail
      exact rbdy (w := w) rfl HE.out.1 ⟨rfl, HE.out.2⟩
theorem SR.cells_at {w : World} {v : Value} {xs : List (List UInt8)} (h : SR w v xs) : ∃ A c, v = .slice A xs.length c ∧ Cells w A xs := by
  obtain ⟨A, c, e, h⟩ := h
  exact ⟨A, c, e, h⟩
theorem rof_any (code : Int) (st : ByteArray) (v : Value) (xs : List (List UInt8)) (w : World) (hx : SR w v xs) (hl : ∀ x ∈ xs, x.length ≤ 1000000) (hx1 : xs.length ≤ 1000000) :
    Calls Tryd.prog 33 #[.agg #[.int .i64 code, .string st, v]] w fun e w' => e = .returned (ofV (ofC code xs)) ∧ Below w.heap.size w w' := by
  obtain ⟨A, c, rfl, hc⟩ := hx.cells_at
  by_cases h : code = 250
  · subst h
    exact rof_250 st A _ c xs w rfl hc hl hx1
  · have e : ofC code xs = cp0 := by unfold ofC; rw [if_neg h]
    rw [e]
    exact rof_zero code st A _ c w h
end Go.Proofs.YtanfonpbnamjmaaDoor
