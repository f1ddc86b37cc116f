/-
  The contract of package caps' Texts.
-/
import Derived.Deep.RegionHeld3
import Derived.Test.YtanfonpbnamjmaaDoorCAdd
namespace Go.Proofs.YtanfonpbnamjmaaDoor
open Go Go.RowKit Go.Shelf
set_option maxRecDepth 100000

/-- What Texts holds, whatever its row's value is. -/
def AX (w : World) (k3 ko : Nat) (c : Cp) (xs : List (List UInt8)) (W : World) : Prop := ∃ v, AI w k3 ko c xs v W
theorem AX.below {w W W' : World} {k3 ko : Nat} {c : Cp} {xs : List (List UInt8)} (h : AX w k3 ko c xs W) (hb : Below W.heap.size W W') : AX w k3 ko c xs W' := by
  obtain ⟨v, h⟩ := h; exact ⟨v, h.below hb⟩
theorem AX.drew {w W : World} {k3 ko : Nat} {c : Cp} {xs : List (List UInt8)} (h : AX w k3 ko c xs W) : AX w k3 ko c xs W.drew := h.below (Below.refl _ _).drew
theorem AX.lw {w W : World} {k3 ko : Nat} {c : Cp} {xs : List (List UInt8)} (h : AX w k3 ko c xs W) : LW W := by obtain ⟨v, h⟩ := h; exact h.bl.lw
theorem AX.cells {w W : World} {k3 ko : Nat} {c : Cp} {xs : List (List UInt8)} (h : AX w k3 ko c xs W) :
    W.cell? ⟨k3, 0, none⟩ = some (.bool c.st) ∧ W.cell? ⟨k3, 1, none⟩ = some (.bool c.pi) ∧ W.cell? ⟨k3, 2, none⟩ = some (.bool c.rq) ∧ W.cell? ⟨k3, 3, none⟩ = some (.bool c.ds) ∧ W.cell? ⟨k3, 4, none⟩ = some (.bool c.eb) ∧ W.cell? ⟨k3, 5, none⟩ = some (.bool c.sz) ∧ W.cell? ⟨k3, 6, none⟩ = some (.int .i64 c.mo) := by
  obtain ⟨v, h⟩ := h
  have hcb := h.cb
  exact ⟨by rw [cellAt hcb]; rfl, by rw [cellAt hcb]; rfl, by rw [cellAt hcb]; rfl, by rw [cellAt hcb]; rfl, by rw [cellAt hcb]; rfl, by rw [cellAt hcb]; rfl, by rw [cellAt hcb]; rfl⟩
theorem AX.add {w W : World} {k3 ko : Nat} {c : Cp} {xs : List (List UInt8)} (h : AX w k3 ko c xs W) (b : Bool) (t : List UInt8) (hl : xs.length ≤ 1000) :
    Calls Tryd.prog 63 #[.bool b, sv t, .pointer (some ⟨ko, 0, none⟩)] W fun e W' => e = .returned (.tuple #[]) ∧ AX w k3 ko c (xs ++ opt b t) W' := by
  obtain ⟨v, h⟩ := h
  exact add_any h b t hl
theorem AX.size {w W : World} {k3 ko : Nat} {c : Cp} {xs : List (List UInt8)} (h : AX w k3 ko c xs W) (h0 : -9223372036854775808 ≤ c.mo) (h1 : c.mo ≤ 9223372036854775807) :
    Calls Tryd.prog 64 #[.int .i64 c.mo] W fun e W' => e = .returned (sv (sizeT c.mo)) ∧ AX w k3 ko c xs W' :=
  (sizeText_any c.mo W h0 h1 h.lw).mono fun _ _ ⟨he, hb⟩ => ⟨he, h.below hb⟩

def SX (w : World) (k3 ko : Nat) (c : Cp) (xs ys : List (List UInt8)) (W : World) : Prop := AX w k3 ko c xs W ∨ AX w k3 ko c ys W
theorem SX.one {w W : World} {k3 ko : Nat} {c : Cp} {xs ys : List (List UInt8)} (h : AX w k3 ko c xs W) : SX w k3 ko c xs ys W := .inl h
theorem SX.two {w W : World} {k3 ko : Nat} {c : Cp} {xs ys : List (List UInt8)} (h : AX w k3 ko c ys W) : SX w k3 ko c xs ys W := .inr h

theorem clone_any (s : List UInt8) (w : World) (hs : s.length ≤ 1000000) : Calls Tryd.prog 62 #[sv s] w fun e w' => e = .returned (sv s) ∧ Below w.heap.size w w' := by
  have hlim : (str s).size ≤ 281474976710656 := by simp [ByteArray.size]; omega
  have HC := Lib.hid (Tryd.stringslite_Clone (str s) w hlim)
  clear hlim
  go_enter Tryd.func62, Tryd.ntmps62
  go_wp2_with fail
  refine (HC.out).mono ?_
  rintro e w1 ⟨rfl, hb⟩
  have HB := Lib.hid hb
  clear hb
  go_wp2_with fail
  go_ret
  exact ⟨rfl, HB.out⟩

/-- What Texts leaves: a row of its own. -/
def TextsPost (w : World) (xs : List (List UInt8)) (e : Ending) (w' : World) : Prop := ∃ v, e = .returned v ∧ Below w.heap.size w w' ∧ w'.ownsRow w.heap.size 9 1 v xs.length (xs.map sv)

theorem ax_start {w W1 X : World} {c : Cp} {host : List UInt8} {k3 g ko : Nat} (hw : LW w) (h3 : k3 = w.heap.size) (hb1 : Below (w.heap.size + 1) (w.alloc (.cells (cpL c) 50)) W1) (hg : g = W1.heap.size) (hk : ko = W1.heap.size + 1)
    (hX : X = (W1.alloc (.cells #[sv host] 9)).alloc (.cells #[.slice (some ⟨g, 0, none⟩) 1 1] 28)) : AX w k3 ko c [host] X := by
  have hs1 := hb1.size
  simp only [World.size_alloc] at hs1
  have hbl : Below w.heap.size w X := by
    rw [hX]
    exact ((((Below.refl _ w).alloc (Nat.le_refl _) _).trans (hb1.mono (by omega))).alloc (by omega) _).alloc (by simp; omega) _
  have hc1 : W1.heap[k3]? = some (.cells (cpL c) 50 (0, 0)) := by rw [h3]; exact (hb1.block w.heap.size (by omega)).trans (heap_alloc_new w _)
  have hg1 : (W1.alloc (.cells #[sv host] 9)).heap[g]? = some (.cells #[sv host] 9 (0, 0)) := by rw [hg]; exact heap_alloc_new W1 _
  have e3 : k3 < W1.heap.size := lt_of_blk hc1
  refine ⟨.slice (some ⟨g, 0, none⟩) 1 1, hw, ⟨hbl, hw.below hbl⟩, ⟨by omega, by omega⟩, ?_, ?_, ⟨by simp, .inr ⟨g, 1, #[sv host], rfl, by omega, ?_, Nat.le_refl _, by decide, rfl, rfl⟩⟩, ?_⟩
  · rw [hX]; exact (Lib.alloc_old _ _ _ (by simp; omega)).trans ((Lib.alloc_old _ _ _ e3).trans hc1)
  · rw [hX, hk]
    have := Bx.new (W1.alloc (.cells #[sv host] 9)) (.slice (some ⟨g, 0, none⟩) 1 1) 28
    rwa [World.size_alloc] at this
  · rw [hX]; exact (Lib.alloc_old _ _ _ (lt_of_blk hg1)).trans hg1
  · intro g' e
    simp only [Value.ownBlock, Option.some.injEq] at e
    subst e; exact ⟨by omega, by omega⟩

set_option maxHeartbeats 4000000 in
theorem texts_any (host : List UInt8) (c : Cp) (w : World) (hh : host.length ≤ 1000000) (h0 : -9223372036854775808 ≤ c.mo) (h1 : c.mo ≤ 9223372036854775807) (hw : LW w) :
    Calls Tryd.prog 30 #[sv host, ofV c] w (TextsPost w (textsR host c)) := by
  have HW := Lib.hid hw
  have HS := Lib.hid (fun (W : World) (k3 ko : Nat) (xs : List (List UInt8)) (h : AX w k3 ko c xs W) => h.size h0 h1)
  have HC := Lib.hid (fun W => clone_any host W hh)
  clear hw h0 h1
  unfold ofV cpL
  go_enter Tryd.func30, Tryd.ntmps30
  go_wp2_with fail
  refine (HC.out _).mono ?_
  rintro e w1 ⟨rfl, hb⟩
  obtain ⟨k3, h3⟩ : ∃ k, k = w.heap.size := ⟨_, rfl⟩
  have hblk : w1.heap[k3]? = some (.cells (cpL c) 50 (0, 0)) := by rw [h3]; exact blk_below (heap_alloc_new w _) hb
  have hk3 := lt_of_blk hblk
  have c1 : w1.cell? ⟨k3, 1, none⟩ = some (.bool c.pi) := by rw [cellAt hblk]; rfl
  have hbb : Below (w.heap.size + 1) (w.alloc (.cells (cpL c) 50)) w1 := by rw [World.size_alloc] at hb; exact hb
  rw [← h3]
  have HB := Lib.hid hbb
  have H3 := Lib.hid h3
  clear hb hbb hblk h3
  go_wp2_with fail
  obtain ⟨g, hg⟩ : ∃ g, g = w1.heap.size := ⟨_, rfl⟩
  obtain ⟨ko, hko⟩ : ∃ g, g = w1.heap.size + 1 := ⟨_, rfl⟩
  obtain ⟨X, hX⟩ : ∃ X, X = (w1.alloc (Obj.cells #[sv host] 9)).alloc (Obj.cells #[.slice (some ⟨w1.heap.size, 0, none⟩) 1 1] 28) := ⟨_, rfl⟩
  have HA0 := Lib.hid (ax_start (X := X) (host := host) HW.out H3.out HB.out hg hko (by rw [hX, hg]))
  rw [← hX, ← hko, ← hg]
  clear hX hko hg c1 hk3
  refine (HA0.out.add c.pi wPI (by simp)).mono ?_
  rintro e W1 ⟨rfl, ha⟩
  obtain ⟨xs1, hx1, hl1⟩ : ∃ xs, xs = [host] ++ opt c.pi wPI ∧ xs.length ≤ 2 := ⟨_, rfl, by cases c.pi <;> simp [opt]⟩
  rw [← hx1] at ha
  obtain ⟨-, -, -, -, -, a5, a6⟩ := ha.cells
  have HX1 := Lib.hid hx1
  obtain ⟨xs2, hx2, hl2⟩ : ∃ xs, xs = xs1 ++ opt c.sz (sizeT c.mo) ∧ xs.length ≤ 3 := ⟨_, rfl, by rw [List.length_append]; cases c.sz <;> simp [opt] <;> omega⟩
  have HX2 := Lib.hid hx2
  have HCL := Lib.hid (show ∀ W, SX w k3 ko c xs1 xs2 W → W.cell? ⟨k3, 5, none⟩ = some (.bool c.sz) ∧ W.cell? ⟨k3, 6, none⟩ = some (.int .i64 c.mo) from fun W h => h.elim (fun h => ⟨h.cells.2.2.2.2.2.1, h.cells.2.2.2.2.2.2⟩) (fun h => ⟨h.cells.2.2.2.2.2.1, h.cells.2.2.2.2.2.2⟩))
  have HSZ := Lib.hid (fun W (h : AX w k3 ko c xs1 W) => HS.out W k3 ko xs1 h)
  have HAD := Lib.hid (show ∀ W, AX w k3 ko c xs1 W → Calls Tryd.prog 63 #[.bool c.sz, sv (sizeT c.mo), .pointer (some ⟨ko, 0, none⟩)] W fun e W' => e = .returned (.tuple #[]) ∧ AX w k3 ko c xs2 W' from fun W h => by rw [hx2]; exact h.add c.sz (sizeT c.mo) (by omega))
  have hs0 : SX w k3 ko c xs1 xs2 W1 := .inl ha
  clear hx1 hx2
  go_wp2_with fail
  go_region_held3 (fun W => SX w k3 ko c xs1 xs2 W ∧ W.cell? ⟨k3, 5, none⟩ = some (.bool c.sz) ∧ W.cell? ⟨k3, 6, none⟩ = some (.int .i64 c.mo))
    (first | exact ⟨SX.one (by assumption), HCL.out _ (SX.one (by assumption))⟩ | exact ⟨SX.two (by assumption), HCL.out _ (SX.two (by assumption))⟩ | exact ⟨SX.one (AX.drew (by assumption)), HCL.out _ (SX.one (AX.drew (by assumption)))⟩ | exact ⟨SX.two (AX.drew (by assumption)), HCL.out _ (SX.two (AX.drew (by assumption)))⟩)
    (first
      | (go_at_call 64; with_reducible refine (HSZ.out _ (by first | assumption | exact AX.drew (by assumption))).mono ?_; rintro e1 w8 ⟨rfl, hR⟩)
      | (go_at_call 63; with_reducible refine (HAD.out _ (by first | assumption | exact AX.drew (by assumption))).mono ?_; rintro e1 w9 ⟨rfl, hR9⟩))
  all_goals
    obtain ⟨b0, -, -, -, -, -, -⟩ := hR9.cells
    have HQ3 := Lib.hid hR9
    clear hR9
    go_wp2_with fail
    refine (HQ3.out.add c.st wST (by omega)).mono ?_
    rintro e V3 ⟨rfl, n3⟩
    obtain ⟨xs3, hx3, hl3⟩ : ∃ xs, xs = xs2 ++ opt c.st wST ∧ xs.length ≤ 4 := ⟨_, rfl, by rw [List.length_append]; cases c.st <;> simp [opt] <;> omega⟩
    rw [← hx3] at n3
    have HX3 := Lib.hid hx3
    clear hx3 b0
    obtain ⟨-, -, b2, -, -, -, -⟩ := n3.cells
    have HQ4 := Lib.hid n3
    clear n3
    go_wp2_with fail
    refine (HQ4.out.add c.rq wRQ (by omega)).mono ?_
    rintro e V4 ⟨rfl, n4⟩
    obtain ⟨xs4, hx4, hl4⟩ : ∃ xs, xs = xs3 ++ opt c.rq wRQ ∧ xs.length ≤ 5 := ⟨_, rfl, by rw [List.length_append]; cases c.rq <;> simp [opt] <;> omega⟩
    rw [← hx4] at n4
    have HX4 := Lib.hid hx4
    clear hx4 b2
    obtain ⟨-, -, -, b3, -, -, -⟩ := n4.cells
    have HQ5 := Lib.hid n4
    clear n4
    go_wp2_with fail
    refine (HQ5.out.add c.ds wDS (by omega)).mono ?_
    rintro e V5 ⟨rfl, n5⟩
    obtain ⟨xs5, hx5, hl5⟩ : ∃ xs, xs = xs4 ++ opt c.ds wDS ∧ xs.length ≤ 6 := ⟨_, rfl, by rw [List.length_append]; cases c.ds <;> simp [opt] <;> omega⟩
    rw [← hx5] at n5
    have HX5 := Lib.hid hx5
    clear hx5 b3
    obtain ⟨-, -, -, -, b4, -, -⟩ := n5.cells
    have HQ6 := Lib.hid n5
    clear n5
    go_wp2_with fail
    refine (HQ6.out.add c.eb wEB (by omega)).mono ?_
    rintro e V6 ⟨rfl, n6⟩
    obtain ⟨xs6, hx6, hl6⟩ : ∃ xs, xs = xs5 ++ opt c.eb wEB ∧ xs.length ≤ 7 := ⟨_, rfl, by rw [List.length_append]; cases c.eb <;> simp [opt] <;> omega⟩
    rw [← hx6] at n6
    have HX6 := Lib.hid hx6
    clear hx6 b4
    obtain ⟨v, hv⟩ := n6
    have bv := hv.box.cell
    have HF := Lib.hid (show xs6 = textsR host c by
      rw [HX6.out, HX5.out, HX4.out, HX3.out, HX2.out, HX1.out]
      unfold textsR sixT
      simp [List.append_assoc])
    have HV := Lib.hid (show TextsPost w (textsR host c) (.returned v) V6 from ⟨v, rfl, hv.bl.below, by rw [← HF.out]; exact hv.own⟩)
    clear hv
    go_wp2_with fail
    go_ret
    exact HV.out
end Go.Proofs.YtanfonpbnamjmaaDoor
