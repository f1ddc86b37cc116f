/-
  The contract of the laws' own function 'awake'.
-/
import Derived.Test.YtanfonpbnamjmaaDoorYLong
namespace Go.Proofs.YtanfonpbnamjmaaDoor
open Go Go.RowKit Go.Shelf
set_option maxRecDepth 100000

/-- A variable that holds a reply. -/
def Bk (W : World) (k : Nat) (lc : Nat) (lst : List UInt8) (u : Value) : Prop := W.heap[k]? = some (.cells #[.int .i64 (lc : Int), sv lst, u] 42 (0, 0))
section
variable {W W' : World} {k lc : Nat} {lst : List UInt8} {u : Value}
theorem Bk.c0 (h : Bk W k lc lst u) : W.cell? ⟨k, 0, none⟩ = some (.int .i64 (lc : Int)) := by rw [cellAt h]; rfl
theorem Bk.c1 (h : Bk W k lc lst u) : W.cell? ⟨k, 1, none⟩ = some (sv lst) := by rw [cellAt h]; rfl
theorem Bk.c2 (h : Bk W k lc lst u) : W.cell? ⟨k, 2, none⟩ = some u := by rw [cellAt h]; rfl
theorem Bk.fr (h : Bk W k lc lst u) (i : Nat) : W.frozen? ⟨k, i, none⟩ = false := freeAt h i
theorem Bk.lt (h : Bk W k lc lst u) : k < W.heap.size := lt_of_blk h
theorem Bk.kp {S : List Nat} (h : Bk W k lc lst u) (hk : Kp S W W') (hs : k ∉ S) : Bk W' k lc lst u := blk_kp h hk hs
theorem Bk.below (h : Bk W k lc lst u) (hk : Below W.heap.size W W') : Bk W' k lc lst u := blk_below h hk
theorem Bk.new (W : World) (lc : Nat) (lst : List UInt8) (u : Value) : Bk (W.alloc (.cells #[.int .i64 (lc : Int), sv lst, u] 42)) W.heap.size lc lst u := heap_alloc_new W _
theorem Bk.set (h : Bk W k lc lst u) (lc' : Nat) (lst' : List UInt8) (u' : Value) : Bk (((W.setCell ⟨k, 0, none⟩ (.int .i64 (lc' : Int))).setCell ⟨k, 1, none⟩ (sv lst')).setCell ⟨k, 2, none⟩ u') k lc' lst' u' :=
  blk_set (blk_set (blk_set h 0 _) 1 _) 2 _
end
theorem kp_set3 (W : World) (k : Nat) (x y z : Value) : Kp [k] W (((W.setCell ⟨k, 0, none⟩ x).setCell ⟨k, 1, none⟩ y).setCell ⟨k, 2, none⟩ z) :=
  (((Kp.refl [k] W).setCell (p := ⟨k, 0, none⟩) (by simp) _).setCell (p := ⟨k, 1, none⟩) (by simp) _).setCell (p := ⟨k, 2, none⟩) (by simp) _
theorem below_alloc (w : World) (o : Obj) : Below w.heap.size w (w.alloc o) := (Below.refl _ _).alloc (Nat.le_refl _) _

def aw1 : RS := ⟨[[109, 120, 46, 101, 120, 97, 109, 112, 108, 101]], 250, 0, [], [], false⟩
def aw2 : RS := ⟨[], 250, 250, [50, 46, 49, 46, 48], [[109, 120, 46, 101, 120, 97, 109, 112, 108, 101], [50, 46, 49, 46, 48, 32, 104, 105]], false⟩
def aw3 : RS := ⟨[], 250, 250, [], [[]], false⟩
def aw4 : RS := ⟨[], 250, 0, [], [], false⟩
def bads : List (List UInt8) := [[49, 53, 48, 32, 120], [50, 54, 48, 32, 120], [50, 53, 32, 120], [50, 53, 48, 120]]
def nons : List (List UInt8) := [[53, 53, 48, 32, 53, 46, 49, 46, 49, 46, 50, 32, 110, 111], [52, 53, 48, 32, 50, 46, 48, 46, 48, 32, 120]]
theorem bads_no : ∀ k, k < 4 → okForm (bads.getD k []) = false := by decide +kernel
/-- A reader between replies. -/
def Idle (st : RS) : Prop := st.ls = [] ∧ st.d = false ∧ st.lls = []
theorem nons_step : ∀ k, k < 2 → ∀ st, Idle st → doneR st (nons.getD k []) = true ∧ errR st (nons.getD k []) = 0 ∧ (stepR st (nons.getD k [])).lst = [] ∧ (stepR st (nons.getD k [])).lls.length = 1 ∧ Idle (takenR (stepR st (nons.getD k []))) := by
  intro k hk st ⟨h1, h2, h3⟩
  obtain ⟨ls, c, lc, lst, lls, d⟩ := st
  simp only at h1 h2 h3
  subst h1; subst h2; subst h3
  rcases (show k = 0 ∨ k = 1 by omega) with rfl | rfl
  · exact ⟨by kernel_rfl, by kernel_rfl, by kernel_rfl, by kernel_rfl, by kernel_rfl, by kernel_rfl, by kernel_rfl⟩
  · exact ⟨by kernel_rfl, by kernel_rfl, by kernel_rfl, by kernel_rfl, by kernel_rfl, by kernel_rfl, by kernel_rfl⟩
theorem last_step (st : RS) (h : Idle st) : doneR st [50, 53, 48, 45, 97] = false ∧ errR st [50, 53, 48, 45, 97] = 0 ∧ errR (stepR st [50, 53, 48, 45, 97]) [50, 53, 49, 32, 98] = 4 ∧ doneR (stepR st [50, 53, 48, 45, 97]) [50, 53, 49, 32, 98] = false ∧ (stepR (stepR st [50, 53, 48, 45, 97]) [50, 53, 49, 32, 98]).d = true := by
  obtain ⟨ls, c, lc, lst, lls, d⟩ := st
  obtain ⟨h1, h2, h3⟩ := h
  simp only at h1 h2 h3
  subst h1; subst h2; subst h3
  exact ⟨by kernel_rfl, by kernel_rfl, by kernel_rfl, by kernel_rfl, by kernel_rfl⟩

theorem is_same (c : Nat) (a : List UInt8) (xs : List (List UInt8)) (v u : Value) (w : World) (hx : RowIs w v xs) (hy : RowIs w u xs) (hl : xs.length ≤ 1000000) :
    Calls Tryd.prog 51 #[repV c a v, .int .i64 (c : Int), sv a, u] w fun e w' => e = .returned (.bool true) ∧ Below w.heap.size w w' := by
  have := is_any c c a a xs xs v u w hx hy hl hl
  simpa using this

set_option maxHeartbeats 16000000 in
theorem awake_any (w : World) (hw : LW w) : Calls Tryd.prog 16 #[] w fun e w' => e = .returned (.bool true) ∧ Below w.heap.size w w' := by
  have HB := Lib.hid (BL.start hw)
  clear hw
  go_enter Tryd.func16, Tryd.ntmps16
  go_wp2_with fail
  refine (new_of HB.out).mono ?_
  rintro e W1 ⟨b, rfl, -, r, hb, -⟩
  have R1 := Lib.hid r; have B1 := Lib.hid hb
  clear r hb
  go_wp2_with fail
  refine (line_of (s := [50, 53, 48, 45, 109, 120, 46, 101, 120, 97, 109, 112, 108, 101]) (dn := false) (er := 0) (st' := aw1) R1.out B1.out (by decide) (by kernel_rfl) (by kernel_rfl) (by kernel_rfl)).mono ?_
  rintro e W2 ⟨F2, rfl, r, hb, -, -⟩
  have R2 := Lib.hid r; have B2 := Lib.hid hb
  clear r hb
  go_wp2_with fail
  refine (line_of (s := [50, 53, 48, 32, 50, 46, 49, 46, 48, 32, 104, 105]) (dn := true) (er := 0) (st' := aw2) R2.out B2.out (by decide) (by kernel_rfl) (by kernel_rfl) (by kernel_rfl)).mono ?_
  rintro e W3 ⟨F3, rfl, r, hb, -, -⟩
  have R3 := Lib.hid r; have B3 := Lib.hid hb
  clear r hb
  go_wp2_with fail
  refine (take_of (lc := 250) (lst := [50, 46, 49, 46, 48]) (lls := [[109, 120, 46, 101, 120, 97, 109, 112, 108, 101], [50, 46, 49, 46, 48, 32, 104, 105]]) (has := true) R3.out B3.out rfl rfl rfl rfl).mono ?_
  rintro e W4 ⟨u, F4, G4, rfl, r, hg, hb, -, -, -, hd, -⟩
  obtain ⟨A, c, rfl⟩ := hg.form
  have NX := Lib.hid (r.notin (Nat.le_refl _)); have D4 := Lib.hid hd; have G4L := Lib.hid hg.lt
  obtain ⟨kx, hkx⟩ : ∃ k, k = W4.heap.size := ⟨_, rfl⟩
  obtain ⟨X4, hX4⟩ : ∃ X, X = W4.alloc (Obj.cells #[.int .i64 250, sv [50, 46, 49, 46, 48], .slice A 2 c] 42) := ⟨_, rfl⟩
  have bx : Below W4.heap.size W4 X4 := by rw [hX4]; exact below_alloc _ _
  have Vkx := Lib.hid (show Bk X4 kx 250 [50, 46, 49, 46, 48] (.slice A 2 c) by rw [hX4, hkx]; exact heap_alloc_new W4 _)
  have KXG := Lib.hid (show w.heap.size ≤ kx ∧ 4 + 1 ≤ kx by rw [hkx]; exact ⟨hb.size, hb.lw.pos⟩)
  rw [← hkx] at NX
  have R4 := Lib.hid (r.below bx); have B4 := Lib.hid (hb.step bx); have G4H := Lib.hid (hg.below bx)
  have KX4 := Lib.hid (show kx < X4.heap.size from (Vkx.out).lt)
  unfold repV
  go_wp2_with fail
  rw [← hkx, ← hX4]
  clear r hg hb hd hkx hX4 bx
  refine (line_of (s := [50, 53, 48]) (dn := true) (er := 0) (st' := aw3) R4.out B4.out (by decide) (by kernel_rfl) (by kernel_rfl) (by kernel_rfl)).mono ?_
  rintro e W5 ⟨F5, rfl, r, hb, hk, hn⟩
  have R5 := Lib.hid r; have B5 := Lib.hid hb
  have V5 := Lib.hid ((Vkx.out).kp hk NX.out); have N5 := Lib.hid (hn.not KX4.out NX.out)
  have G5 := Lib.hid ((G4H.out).kp hk D4.out); have D5 := Lib.hid (hn.all (G4H.out.lt) D4.out)
  clear r hb hk hn
  go_wp2_with fail
  refine (take_of (lc := 250) (lst := []) (lls := [[]]) (has := true) R5.out B5.out rfl rfl rfl rfl).mono ?_
  rintro e W6 ⟨u, F6, G6, rfl, r, hg, hb, hk, hn, -, hd, -⟩
  obtain ⟨A6, c6, rfl⟩ := hg.form
  have V6 := Lib.hid ((V5.out).kp hk N5.out); have N6 := Lib.hid (hn.not (V5.out).lt N5.out)
  have G5' := Lib.hid ((G5.out).kp hk D5.out); have D5' := Lib.hid (hn.all (G5.out.lt) D5.out)
  have NY := Lib.hid (r.notin (Nat.le_refl _))
  obtain ⟨ky, hky⟩ : ∃ k, k = W6.heap.size := ⟨_, rfl⟩
  obtain ⟨X6, hX6⟩ : ∃ X, X = W6.alloc (Obj.cells #[.int .i64 250, sv [], .slice A6 1 c6] 42) := ⟨_, rfl⟩
  have bx : Below W6.heap.size W6 X6 := by rw [hX6]; exact below_alloc _ _
  have Vky := Lib.hid (show Bk X6 ky 250 [] (.slice A6 1 c6) by rw [hX6, hky]; exact heap_alloc_new W6 _)
  rw [← hky] at NY
  have R6 := Lib.hid (r.below bx); have B6 := Lib.hid (hb.step bx); have G6H := Lib.hid (hg.below bx); have D6 := Lib.hid hd
  have V6' := Lib.hid ((V6.out).below bx); have G56 := Lib.hid ((G5'.out).below bx)
  unfold repV
  go_wp2_with fail
  rw [← hky, ← hX6]
  clear r hg hb hd hk hn hky hX6 bx
  refine (take_of (lc := 0) (lst := []) (lls := []) (has := false) R6.out B6.out rfl rfl rfl rfl).mono ?_
  rintro e W7 ⟨u, F7, G7, rfl, r, hg, hb, hk, hn, -, -, -⟩
  obtain ⟨A7, c7, rfl⟩ := hg.form
  have V7 := Lib.hid ((V6'.out).kp hk N6.out); have N7 := Lib.hid (hn.not (V6'.out).lt N6.out)
  have Y7 := Lib.hid ((Vky.out).kp hk NY.out); have NY7 := Lib.hid (hn.not (Vky.out).lt NY.out)
  have G57 := Lib.hid ((G56.out).kp hk D5'.out); have G67 := Lib.hid ((G6H.out).kp hk D6.out)
  obtain ⟨kz, hkz⟩ : ∃ k, k = W7.heap.size := ⟨_, rfl⟩
  obtain ⟨X7, hX7⟩ : ∃ X, X = W7.alloc (Obj.cells #[.int .i64 0, sv [], .slice A7 0 c7] 42) := ⟨_, rfl⟩
  have bx : Below W7.heap.size W7 X7 := by rw [hX7]; exact below_alloc _ _
  have Vkz := Lib.hid (show Bk X7 kz 0 [] (.slice A7 0 c7) by rw [hX7, hkz]; exact heap_alloc_new W7 _)
  have R7 := Lib.hid (r.below bx); have B7 := Lib.hid (hb.step bx)
  have V8 := Lib.hid ((V7.out).below bx); have Y8 := Lib.hid ((Y7.out).below bx)
  have P1 := Lib.hid ((G57.out).below bx).row; have P2 := Lib.hid ((G67.out).below bx).row
  have x0 := (V8.out).c0; have x1 := (V8.out).c1; have x2 := (V8.out).c2
  have y0 := (Y8.out).c0; have y1 := (Y8.out).c1; have y2 := (Y8.out).c2
  rw [hX7] at x0 x1 x2 y0 y1 y2
  unfold repV
  go_wp2_with fail
  rw [← hX7]
  clear x0 x1 x2 y0 y1 y2
  clear r hg hb hk hn bx
  obtain ⟨XL, hXL⟩ : ∃ X, X = X7.alloc (Obj.cells #[.string { data := #[109, 120, 46, 101, 120, 97, 109, 112, 108, 101] }, .string { data := #[50, 46, 49, 46, 48, 32, 104, 105] }] 9) := ⟨_, rfl⟩
  have bx : Below X7.heap.size X7 XL := by rw [hXL]; exact below_alloc _ _
  have hlit : RowIs XL (.slice (some ⟨W7.heap.size + 1, 0, none⟩) ([[109, 120, 46, 101, 120, 97, 109, 112, 108, 101], [50, 46, 49, 46, 48, 32, 104, 105]] : List (List UInt8)).length 2) [[109, 120, 46, 101, 120, 97, 109, 112, 108, 101], [50, 46, 49, 46, 48, 32, 104, 105]] := lit_row (by
    have := heap_alloc_new X7 (Obj.cells #[.string { data := #[109, 120, 46, 101, 120, 97, 109, 112, 108, 101] }, .string { data := #[50, 46, 49, 46, 48, 32, 104, 105] }] 9)
    rw [← hXL, show X7.heap.size = W7.heap.size + 1 by rw [hX7]; simp] at this
    exact this)
  rw [← hXL]
  have HI := Lib.hid (is_same 250 [50, 46, 49, 46, 48] [[109, 120, 46, 101, 120, 97, 109, 112, 108, 101], [50, 46, 49, 46, 48, 32, 104, 105]] (.slice A 2 c) _ XL ((P1.out).step bx) hlit (by decide))
  have R8 := Lib.hid ((R7.out).below bx); have B8 := Lib.hid ((B7.out).step bx); have Y9 := Lib.hid ((Y8.out).below bx); have V9 := Lib.hid ((V8.out).below bx); have P3 := Lib.hid ((P2.out).step bx)
  clear bx hlit hXL hX7 hkz
  refine (HI.out).mono ?_
  rintro e Z ⟨rfl, bx⟩
  have R9 := Lib.hid ((R8.out).below bx); have B9 := Lib.hid ((B8.out).step bx); have V10 := Lib.hid ((V9.out).below bx); have P4 := Lib.hid ((P3.out).step bx)
  have y0 := ((Y9.out).below bx).c0; have y1 := ((Y9.out).below bx).c1; have y2 := ((Y9.out).below bx).c2
  clear bx
  go_wp2_with fail
  obtain ⟨XM, hXM⟩ : ∃ X, X = Z.alloc (Obj.cells #[.string { data := #[] }] 9) := ⟨_, rfl⟩
  have bx : Below Z.heap.size Z XM := by rw [hXM]; exact below_alloc _ _
  have hlit : RowIs XM (.slice (some ⟨Z.heap.size, 0, none⟩) ([[]] : List (List UInt8)).length 1) [[]] := lit_row (by rw [hXM]; exact heap_alloc_new _ _)
  rw [← hXM]
  have HI2 := Lib.hid (is_same 250 [] [[]] (.slice A6 1 c6) _ XM ((P4.out).step bx) hlit (by decide))
  have R10 := Lib.hid ((R9.out).below bx); have B10 := Lib.hid ((B9.out).step bx); have V11 := Lib.hid ((V10.out).below bx)
  clear bx hlit hXM y0 y1 y2
  refine (HI2.out).mono ?_
  rintro e Z2 ⟨rfl, bx⟩
  have R11 := Lib.hid ((R10.out).below bx); have B11 := Lib.hid ((B10.out).step bx); have V12 := Lib.hid ((V11.out).below bx)
  clear bx
  go_wp2_with fail
  obtain ⟨g, hg⟩ : ∃ g, g = Z2.heap.size := ⟨_, rfl⟩
  obtain ⟨XP, hXP⟩ : ∃ X, X = Z2.alloc (Obj.cells #[.string { data := #[49, 53, 48, 32, 120] }, .string { data := #[50, 54, 48, 32, 120] }, .string { data := #[50, 53, 32, 120] }, .string { data := #[50, 53, 48, 120] }] 9) := ⟨_, rfl⟩
  have bx : Below Z2.heap.size Z2 XP := by rw [hXP]; exact below_alloc _ _
  have lb : XP.heap[g]? = some (.cells (bads.map sv).toArray 9 (0, 0)) := by rw [hXP, hg]; exact heap_alloc_new _ _
  rw [← hg, ← hXP]
  have LB := Lib.hid lb
  have R12 := Lib.hid ((R11.out).below bx); have B12 := Lib.hid ((B11.out).step bx); have V13 := Lib.hid ((V12.out).below bx)
  have H0 := Lib.hid (Below.refl XP.heap.size XP)
  clear bx lb hXP hg
  go_loopw [15, 16, 17, 18, 19, 99] (fun _ _ _ _ _ i wr => ∃ k : Nat, k ≤ 4 ∧ i = .int .i64 k ∧ Below XP.heap.size XP wr) (fun _ _ _ _ _ i _ => 4 - (intOf i).toNat)
  case atStart => exact ⟨0, Nat.zero_le _, rfl, H0.out⟩
  case round =>
    obtain ⟨k, hk, rfl, hbl⟩ := hrel
    by_cases hlt : k < 4
    · obtain ⟨x, hx⟩ : ∃ x, x = bads.getD k [] := ⟨_, rfl⟩
      have c1 : wr.cell? ⟨g, k, none⟩ = some (sv x) := by
        rw [cellAt (blk_below LB.out hbl), hx]
        rcases (show k = 0 ∨ k = 1 ∨ k = 2 ∨ k = 3 by omega) with rfl | rfl | rfl | rfl <;> rfl
      have hno := bads_no k hlt
      rw [← hx] at hno
      have hxl : x.length ≤ 1000000 := by
        rw [hx]
        rcases (show k = 0 ∨ k = 1 ∨ k = 2 ∨ k = 3 by omega) with rfl | rfl | rfl | rfl <;> decide
      have HP := Lib.hid (parse_any x wr hxl ((B12.out.step hbl).lw))
      rw [show parseV x = .tuple #[.int .i64 0, .bool false, sv [], .int .i64 4] by unfold parseV; rw [hno]; rfl] at HP
      have HL := Lib.hid hbl
      clear hx hno hxl hbl
      go_wp2_with (go_at_call 52; refine (HP.out).mono ?_; rintro e w1 ⟨rfl, hb⟩; have HX := Lib.hid hb; clear hb)
      go_roundw
      case rel => exact ⟨k + 1, by omega, by go_num, (HL.out).trans ((HX.out).mono HL.out.size)⟩
      case measure => simp [intOf]; omega
    · obtain rfl : k = 4 := by omega
      rw [show ((4 : Nat) : Int) = 4 from rfl]
      have R13 := Lib.hid ((R12.out).below hbl); have B13 := Lib.hid ((B12.out).step hbl); have V14 := Lib.hid ((V13.out).below hbl)
      clear hbl hk hlt
      go_wp2_with fail
      obtain ⟨g2, hg2⟩ : ∃ g, g = wr.heap.size := ⟨_, rfl⟩
      obtain ⟨XQ, hXQ⟩ : ∃ X, X = wr.alloc (Obj.cells #[.string { data := #[53, 53, 48, 32, 53, 46, 49, 46, 49, 46, 50, 32, 110, 111] }, .string { data := #[52, 53, 48, 32, 50, 46, 48, 46, 48, 32, 120] }] 9) := ⟨_, rfl⟩
      have bx : Below wr.heap.size wr XQ := by rw [hXQ]; exact below_alloc _ _
      have lb : XQ.heap[g2]? = some (.cells (nons.map sv).toArray 9 (0, 0)) := by rw [hXQ, hg2]; exact heap_alloc_new _ _
      rw [← hg2, ← hXQ]
      have nf := R13.out.notin (Nat.le_refl _)
      rw [← hg2] at nf
      have H1 := Lib.hid (show ∃ F st, Rd w.heap.size XQ b F st ∧ Idle st ∧ BL w XQ ∧ (∃ lc lst u, Bk XQ kx lc lst u) ∧ kx ∉ F ∧ XQ.heap[g2]? = some (.cells (nons.map sv).toArray 9 (0, 0)) ∧ g2 ∉ F from
        ⟨F7, _, (R13.out).below bx, ⟨rfl, rfl, rfl⟩, (B13.out).step bx, ⟨_, _, _, (V14.out).below bx⟩, N7.out, lb, nf⟩)
      clear bx lb hXQ hg2 nf
      have HNE := Lib.hid (show kx ≠ g2 by
        obtain ⟨F, st, _, _, _, ⟨lc, lst, u, hv⟩, _, hl, _⟩ := H1.out
        rintro rfl
        unfold Bk at hv
        rw [hl] at hv
        simp at hv)
      go_loopw [7, 21, 115] (fun h _ i wr => ∃ k : Nat, k ≤ 2 ∧ i = .int .i64 k ∧ ∃ F st, Rd w.heap.size wr b F st ∧ Idle st ∧ BL w wr ∧ (∃ lc lst u, Bk wr kx lc lst u) ∧ kx ∉ F ∧ wr.heap[g2]? = some (.cells (nons.map sv).toArray 9 (0, 0)) ∧ g2 ∉ F) (fun _ _ i _ => 2 - (intOf i).toNat)
      case atStart => exact ⟨0, Nat.zero_le _, rfl, H1.out⟩
      case round =>
        obtain ⟨k, hk, rfl, F, st, r, hid, hb, ⟨lc, lst, u, hv⟩, hn, hl, hn2⟩ := hrel
        by_cases hlt : k < 2
        · obtain ⟨x, hx⟩ : ∃ x, x = nons.getD k [] := ⟨_, rfl⟩
          have c1 : wr.cell? ⟨g2, k, none⟩ = some (sv x) := by
            rw [cellAt hl, hx]
            rcases (show k = 0 ∨ k = 1 by omega) with rfl | rfl <;> rfl
          obtain ⟨s1, s2, s3, s4, s5⟩ := nons_step k hlt st hid
          rw [← hx] at s1 s2 s3 s4 s5
          have hxl : x.length ≤ 1000000 := by
            rw [hx]
            rcases (show k = 0 ∨ k = 1 by omega) with rfl | rfl <;> decide
          have HP := Lib.hid (line_of r hb hxl s1 s2 rfl)
          have HV := Lib.hid hv; have HN := Lib.hid hn; have HL := Lib.hid hl; have HN2 := Lib.hid hn2; have S3 := Lib.hid s3; have S4 := Lib.hid s4; have S5 := Lib.hid s5
          clear hx hxl r hid hb hv hn hl hn2 s1 s2 s3 s4 s5
          go_wp2_with fail
          refine (HP.out).mono ?_
          rintro e w1 ⟨F1, rfl, r, hb, hk1, hn⟩
          have V1 := Lib.hid ((HV.out).kp hk1 HN.out); have M1 := Lib.hid (hn.not (HV.out).lt HN.out); have L1 := Lib.hid (blk_kp HL.out hk1 HN2.out); have M2 := Lib.hid (hn.not (lt_of_blk HL.out) HN2.out)
          have R := Lib.hid r; have BB := Lib.hid hb
          clear r hb hk1 hn
          go_wp2_with fail
          refine (take_of (lst := []) (has := true) R.out BB.out rfl S3.out rfl (by rw [S4.out]; rfl)).mono ?_
          rintro e w2 ⟨u2, F2, G2, rfl, r, hg, hb, hk1, hn, -, -, -⟩
          obtain ⟨A2, c2, rfl⟩ := hg.form
          have V2 := Lib.hid ((V1.out).kp hk1 M1.out); have N1 := Lib.hid (hn.not (V1.out).lt M1.out); have L2 := Lib.hid (blk_kp L1.out hk1 M2.out); have N2 := Lib.hid (hn.not (lt_of_blk L1.out) M2.out)
          obtain ⟨lc2, hlc2⟩ : ∃ c, c = (stepR st x).lc := ⟨_, rfl⟩
          obtain ⟨nn, hnn⟩ : ∃ n, n = (stepR st x).lls.length := ⟨_, rfl⟩
          rw [← hlc2, ← hnn]
          unfold repV
          have kp3 := kp_set3 w2 kx (.int .i64 (lc2 : Int)) (sv []) (.slice A2 nn c2)
          have V3 := Lib.hid ((V2.out).set lc2 [] (.slice A2 nn c2))
          have R3 := Lib.hid (r.kp kp3 (fun j hj hj2 => by simp at hj2; subst hj2; exact N1.out hj))
          have B3 := Lib.hid (hb.kp kp3 (fun j hj => by
            simp at hj; subst hj
            exact KXG.out))
          have L3 := Lib.hid (blk_kp L2.out kp3 (by simpa using fun e => HNE.out e.symm))
          have v0 := (V2.out).c0; have v1 := (V2.out).c1; have v2 := (V2.out).c2
          have f0 := (V2.out).fr 0; have f1 := (V2.out).fr 1; have f2 := (V2.out).fr 2
          have v3 := (V3.out).c1
          clear r hg hb hk1 hn hlc2 hnn kp3
          go_wp2_with fail
          go_roundw
          case rel => exact ⟨k + 1, by omega, by go_num, F2, _, R3.out, S5.out, B3.out, ⟨_, _, _, V3.out⟩, N1.out, L3.out, N2.out⟩
          case measure => simp [intOf]; omega
        · obtain rfl : k = 2 := by omega
          rw [show ((2 : Nat) : Int) = 2 from rfl]
          obtain ⟨s1, s2, s3, s4, s5⟩ := last_step st hid
          have R := Lib.hid r; have BB := Lib.hid hb; have S1 := Lib.hid s1; have S2 := Lib.hid s2; have S3 := Lib.hid s3; have S4 := Lib.hid s4; have S5 := Lib.hid s5
          clear r hid hb hv hn hl hn2 s1 s2 s3 s4 s5
          go_wp2_with fail
          refine (line_of (s := [50, 53, 48, 45, 97]) R.out BB.out (by decide) S1.out S2.out rfl).mono ?_
          rintro e w1 ⟨F1, rfl, r, hb, -, -⟩
          have R1' := Lib.hid r; have BB1 := Lib.hid hb
          clear r hb
          go_wp2_with fail
          refine (line_of (s := [50, 53, 49, 32, 98]) R1'.out BB1.out (by decide) S4.out S3.out rfl).mono ?_
          rintro e w2 ⟨F2, rfl, r, hb, -, -⟩
          have HD := Lib.hid (dead_any r)
          rw [S5.out] at HD
          have BB2 := Lib.hid hb.below
          clear r hb
          go_wp2_with (go_at_call 22; refine (HD.out).mono ?_; rintro e w3 ⟨rfl, rfl⟩)
          go_ret
          exact ⟨rfl, BB2.out⟩
end Go.Proofs.YtanfonpbnamjmaaDoor
