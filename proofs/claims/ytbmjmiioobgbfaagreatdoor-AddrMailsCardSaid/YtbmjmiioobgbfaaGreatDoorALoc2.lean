/-
  The contracts of package addr's isAtoms, isQuoted, isLocal.
-/
import Derived.Test.YtbmjmiioobgbfaaGreatDoorALoc
namespace Go.Proofs.YtbmjmiioobgbfaaGreatDoor
open Go Go.RowKit Go.Shelf
set_option maxRecDepth 100000

theorem indexByte_has : ∀ (l : List UInt8) (c : UInt8), decide (0 ≤ Lib.indexByte l c) = l.contains c
  | [], c => by simp [Lib.indexByte]
  | b :: l, c => by
    have ih := indexByte_has l c
    unfold Lib.indexByte
    by_cases h : b = c
    · subst h; simp
    · have h1 : (b == c) = false := by simpa using h
      have h2 : (c == b) = false := by simpa using fun e => h e.symm
      rw [h1, List.contains_cons, h2, Bool.false_or, ← ih]
      by_cases h3 : Lib.indexByte l c = -1
      · simp [h3]
      · have h4 : (Lib.indexByte l c == -1) = false := by simpa using h3
        rw [h4]
        simp only [Bool.false_eq_true, if_false]
        have h5 : -1 ≤ Lib.indexByte l c := Lib.indexByte_ge l c
        rw [decide_eq_decide]
        omega

def signsB : ByteArray := { data := #[33, 35, 36, 37, 38, 39, 42, 43, 45, 47, 61, 63, 94, 95, 96, 123, 124, 125, 126] }
theorem sign_call (b : UInt8) (w : World) : Calls Tryz.prog 147 #[.string { data := #[33, 35, 36, 37, 38, 39, 42, 43, 45, 47, 61, 63, 94, 95, 96, 123, 124, 125, 126] }, .int .u8 (b.toNat : Int)] w fun e w' => e = .returned (.int .i64 (Lib.indexByte signsL b)) ∧ w = w' := by
  have := Tryz.strings_IndexByte { data := #[33, 35, 36, 37, 38, 39, 42, 43, 45, 47, 61, 63, 94, 95, 96, 123, 124, 125, 126] } (b.toNat : Int) w
  have e1 : (b.toNat : Int).toNat.toUInt8 = b := by simp
  rw [e1] at this
  exact this.mono fun _ _ ⟨h1, h2⟩ => ⟨h1, h2.symm⟩

theorem bx_set {w : World} {k : Nat} {v : Value} {T : TypeId} (h : Bx w k v T) (x : Value) : Bx (w.setCell ⟨k, 0, none⟩ x) k x T ∧ Below k w (w.setCell ⟨k, 0, none⟩ x) :=
  ⟨h.set x, (Below.refl _ w).setCell (p := ⟨k, 0, none⟩) (Nat.le_refl _) x⟩

set_option maxHeartbeats 1000000 in
theorem atoms1_any (k : Nat) (st : Bool) (b : UInt8) (w : World) (h : Bx w k (.bool st) 4) :
    Calls Tryz.prog 146 #[.int .u8 (b.toNat : Int), .pointer (some ⟨k, 0, none⟩)] w fun e w' => e = .returned (.bool (okA st b)) ∧ Bx w' k (.bool (nxA st b)) 4 ∧ Below k w w' := by
  have c0 := h.cell
  have f0 := h.free
  have HX := Lib.hid (fun x => bx_set h x)
  obtain ⟨r, hr⟩ : ∃ r, r = okA st b := ⟨_, rfl⟩
  obtain ⟨x, hx⟩ : ∃ x, x = nxA st b := ⟨_, rfl⟩
  rw [← hr, ← hx]
  unfold okA at hr
  unfold nxA at hx
  obtain ⟨n, hn⟩ : ∃ n, n = Lib.indexByte signsL b := ⟨_, rfl⟩
  have hs := indexByte_has signsL b
  rw [← hn] at hs
  clear h
  have k1 := Bx.cell (HX.out (.bool x)).1
  have k2 := Bx.free (HX.out (.bool x)).1
  have hsg : signC b = (alnC b || decide (0 ≤ n)) := by rw [hs]; rfl
  rw [hsg] at hx hr
  clear hs hsg
  obtain ⟨d, hd⟩ : ∃ d, d = (b == 46) := ⟨_, rfl⟩
  rw [← hd] at hr
  have hdn : ((b.toNat : Int) == 46) = d := by
    rw [hd, Bool.eq_iff_iff, beq_iff_eq, beq_iff_eq, ← UInt8.toNat_inj]
    have : (46 : UInt8).toNat = 46 := rfl
    omega
  clear hd
  cases ha : alnC b with
  | true =>
    rw [ha] at hx hr
    obtain rfl : x = true := by rw [hx]; rfl
    obtain rfl : r = true := by rw [hr]; rfl
    have HA := Lib.hid ha
    clear ha hx hr hn
    go_enter Tryz.func146, Tryz.ntmps146
    go_wp2_with (go_at_call 83; refine (aln_any _ _).mono ?_; rintro e w' ⟨rfl, rfl⟩; rw [HA.out])
    go_ret
    exact ⟨rfl, (HX.out _).1, (HX.out _).2⟩
  | false =>
    rw [ha] at hx hr
    have HA := Lib.hid ha
    have HN := Lib.hid hn
    clear ha hn
    by_cases hn0 : 0 ≤ n
    · obtain rfl : x = true := by rw [hx, decide_eq_true hn0]; rfl
      obtain rfl : r = true := by rw [hr, decide_eq_true hn0]; rfl
      clear hx hr
      go_enter Tryz.func146, Tryz.ntmps146
      go_wp2_with (first | (go_at_call 83; refine (aln_any _ _).mono ?_; rintro e w' ⟨rfl, rfl⟩; rw [HA.out]) | (go_at_call 147; refine (sign_call _ _).mono ?_; rintro e w' ⟨rfl, rfl⟩; rw [← HN.out]))
      go_ret
      exact ⟨rfl, (HX.out _).1, (HX.out _).2⟩
    · obtain rfl : x = false := by rw [hx, decide_eq_false hn0]; rfl
      obtain rfl : r = (st && d) := by rw [hr, decide_eq_false hn0]; rfl
      have hnd : decide (0 ≤ n) = false := decide_eq_false hn0
      clear hx hr
      cases st with
      | false =>
        go_enter Tryz.func146, Tryz.ntmps146
        go_wp2_with (first | (go_at_call 83; refine (aln_any _ _).mono ?_; rintro e w' ⟨rfl, rfl⟩; rw [HA.out]) | (go_at_call 147; refine (sign_call _ _).mono ?_; rintro e w' ⟨rfl, rfl⟩; rw [← HN.out]))
        go_ret
        exact ⟨rfl, (HX.out _).1, (HX.out _).2⟩
      | true =>
        go_enter Tryz.func146, Tryz.ntmps146
        go_wp2_with (first | (go_at_call 83; refine (aln_any _ _).mono ?_; rintro e w' ⟨rfl, rfl⟩; rw [HA.out]) | (go_at_call 147; refine (sign_call _ _).mono ?_; rintro e w' ⟨rfl, rfl⟩; rw [← HN.out]))
        go_ret
        exact ⟨rfl, (HX.out _).1, (HX.out _).2⟩

theorem eq_nat {b : UInt8} (m : Nat) (hm : m < 256) : ((b.toNat : Int) == (m : Int)) = (b == UInt8.ofNat m) := by
  rw [Bool.eq_iff_iff, beq_iff_eq, beq_iff_eq, ← UInt8.toNat_inj, UInt8.toNat_ofNat', Nat.mod_eq_of_lt hm]
  omega

set_option maxHeartbeats 1000000 in
theorem quot1_any (k : Nat) (st : Bool) (b : UInt8) (w : World) (h : Bx w k (.bool st) 4) :
    Calls Tryz.prog 148 #[.int .u8 (b.toNat : Int), .pointer (some ⟨k, 0, none⟩)] w fun e w' => e = .returned (.bool (okQ st b)) ∧ Bx w' k (.bool (nxQ st b)) 4 ∧ Below k w w' := by
  have c0 := h.cell
  have f0 := h.free
  have HX := Lib.hid (fun x => bx_set h x)
  obtain ⟨r, hr⟩ : ∃ r, r = okQ st b := ⟨_, rfl⟩
  obtain ⟨x, hx⟩ : ∃ x, x = nxQ st b := ⟨_, rfl⟩
  rw [← hr, ← hx]
  unfold okQ at hr
  unfold nxQ at hx
  obtain ⟨g, hg⟩ : ∃ g, g = grC b := ⟨_, rfl⟩
  obtain ⟨q, hq⟩ : ∃ q, q = (b != 34) := ⟨_, rfl⟩
  obtain ⟨s, hs⟩ : ∃ s, s = (b == 92) := ⟨_, rfl⟩
  rw [← hg, ← hq] at hr
  rw [← hs] at hx
  have hqn : ((b.toNat : Int) != 34) = q := by rw [hq, bne, bne]; congr 1; exact eq_nat 34 (by omega)
  have hsn : ((b.toNat : Int) == 92) = s := by rw [hs]; exact eq_nat 92 (by omega)
  have HG := Lib.hid hg
  clear h hq hs hg
  subst hr hx
  cases st <;> cases s <;> cases g
  all_goals
    go_enter Tryz.func148, Tryz.ntmps148
    go_wp2_with (go_at_call 85; refine (gr_any _ _).mono ?_; rintro e w' ⟨rfl, rfl⟩; rw [← HG.out])
    go_ret
    exact ⟨rfl, (HX.out _).1, (HX.out _).2⟩

/-- What a state in a box is, behind w0. -/
def BoxB (w0 : World) (k : Nat) (st : Bool) (w : World) : Prop := Bx w k (.bool st) 4 ∧ Below k w0 w

set_option maxHeartbeats 1000000 in
theorem isAtoms_any (s : List UInt8) (w : World) (hs : s.length ≤ 1000000) : Calls Tryz.prog 109 #[sv s] w fun e w' => e = .returned (.bool (atomsL s)) ∧ Below w.heap.size w w' := by
  have HR := Lib.hid (show atomsL s = ((runF okA nxA false s).1 && (runF okA nxA false s).2) from atomsF_run false s)
  obtain ⟨r1, h1⟩ : ∃ r, r = (runF okA nxA false s).1 := ⟨_, rfl⟩
  obtain ⟨r2, h2⟩ : ∃ r, r = (runF okA nxA false s).2 := ⟨_, rfl⟩
  rw [← h1, ← h2] at HR
  have H1 := Lib.hid h1
  have H2 := Lib.hid h2
  clear h1 h2
  have HB := Lib.hid ((Below.refl w.heap.size w).alloc (Nat.le_refl _) (.cells #[.bool false] 4))
  have HE := Lib.hid (fun (w1 : World) (k : Nat) (h0 : Bx w1 k (.bool false) 4) => each_any (ok := okA) (nx := nxA) (N := 146) (caps := #[.pointer (some ⟨k, 0, none⟩)]) (enters_of Tryz.func146 (by kernel_rfl) rfl) (BoxB w1 k)
    (fun st b W hI => (atoms1_any k st b W hI.1).mono fun _ _ ⟨e1, e2, e3⟩ => ⟨e1, e2, hI.2.trans e3⟩) s hs false w1 ⟨h0, Below.refl _ _⟩)
  cases r1 with
  | false =>
    go_enter Tryz.func109, Tryz.ntmps109
    go_wp2_with fail
    refine (HE.out _ _ (Bx.new _ _ _)).mono ?_
    rintro e w2 ⟨rfl, hb⟩
    rw [← H1.out]
    rw [← H2.out] at hb
    have HB2 := Lib.hid hb.2
    clear hb
    go_wp2_with fail
    go_ret
    rw [HR.out]
    exact ⟨rfl, HB.out.trans HB2.out⟩
  | true =>
    go_enter Tryz.func109, Tryz.ntmps109
    go_wp2_with fail
    refine (HE.out _ _ (Bx.new _ _ _)).mono ?_
    rintro e w2 ⟨rfl, hb⟩
    rw [← H1.out]
    rw [← H2.out] at hb
    have c0 := hb.1.cell
    have HB2 := Lib.hid hb.2
    clear hb
    go_wp2_with fail
    go_ret
    rw [HR.out]
    exact ⟨rfl, HB.out.trans HB2.out⟩
end Go.Proofs.YtbmjmiioobgbfaaGreatDoor
