/-
  The contract of package reply's statusOf, of its closure, of isClass, isPart, Class.
-/
import Derived.Test.YtanfonpbnamjmaaDoorYParse
namespace Go.Proofs.YtanfonpbnamjmaaDoor
open Go Go.RowKit Go.Shelf
set_option maxRecDepth 100000

theorem bx_kp {w w' : World} {k : Nat} {v : Value} {T : TypeId} {S : List Nat} (h : Bx w k v T) (hk : Kp S w w') (hs : k ∉ S) : Bx w' k v T := (hk.block k h.lt hs).trans h

set_option maxHeartbeats 4000000 in
theorem on_any (O : List UInt8) (t : List UInt8) (n kn kt : Nat) (w : World) (hn : n ≤ t.length) (ht : t.length ≤ 1000000) (hx : Bx w kn (.int .i64 (n : Int)) 3) (hy : Bx w kt (sv t) 9) (hne : kn ≠ kt) :
    Calls Tryd.prog 84 #[sv O, .pointer (some ⟨kn, 0, none⟩), .pointer (some ⟨kt, 0, none⟩)] w fun e w' =>
      e = .returned (sv (piece t n (n + runC (fun b => O.contains b) (t.drop n)))) ∧ Bx w' kn (.int .i64 ((n + runC (fun b => O.contains b) (t.drop n) : Nat) : Int)) 3 ∧ Kp [kn] w w' := by
  obtain ⟨m, hm⟩ : ∃ m, m = n + runC (fun b => O.contains b) (t.drop n) := ⟨_, rfl⟩
  rw [← hm]
  have hmt : m ≤ t.length := by
    have := runC_le (fun b => O.contains b) (t.drop n)
    rw [List.length_drop] at this
    omega
  have hnm : n ≤ m := by omega
  have HM := Lib.hid hm
  have HX := Lib.hid hx
  have HY := Lib.hid hy
  have c1 := hx.cell
  have c2 := hy.cell
  have f1 := hx.free
  clear hm hx hy
  go_enter Tryd.func84, Tryd.ntmps84
  go_wp2_with fail
  clear c1 c2 f1
  go_loopw [] (fun wr => ∃ k : Nat, n ≤ k ∧ k ≤ t.length ∧ k + runC (fun b => O.contains b) (t.drop k) = m ∧ Bx wr kn (.int .i64 (k : Int)) 3 ∧ Kp [kn] w wr) (fun wr => t.length - (match wr.cell? ⟨kn, 0, none⟩ with | some v => (intOf v).toNat | none => 0))
  case atStart => exact ⟨n, Nat.le_refl _, hn, HM.out.symm, HX.out, Kp.refl _ _⟩
  case round =>
    obtain ⟨k, hk0, hk, hrun, hb, hkp⟩ := hrel
    have c1 := hb.cell
    have f1 := hb.free
    have c2 := (bx_kp HY.out hkp (by simpa using hne.symm)).cell
    have HRU := Lib.hid hrun
    have HB := Lib.hid hb
    have HK := Lib.hid hkp
    clear hrun hb hkp
    by_cases hlt : k < t.length
    · obtain ⟨b, hb⟩ : ∃ b, t.getD k 0 = b := ⟨_, rfl⟩
      have hcs : (((str t)[k]'(by simpa [ByteArray.size] using hlt)).toNat) = b.toNat := by rw [str_getD t k hlt, hb]
      obtain ⟨z, hz⟩ : ∃ z, z = Lib.indexByte O b := ⟨_, rfl⟩
      have HC := Lib.hid (show Calls Tryd.prog 81 #[sv O, .int .u8 (b.toNat : Int)] wr fun e w' => e = .returned (.int .i64 z) ∧ wr = w' by rw [hz]; exact index_call _ b wr)
      cases hc : O.contains b with
      | true =>
        have hz2 := indexByte_in hc
        rw [← hz] at hz2
        have HN := Lib.hid (show k + 1 + runC (fun b => O.contains b) (t.drop (k + 1)) = m by
          rw [← HRU.out, runC_step hlt (by rw [hb]; exact hc)]; omega)
        clear hb hz hc
        go_wp2_with (go_at_call 81; refine (HC.out).mono ?_; rintro e w1 ⟨rfl, rfl⟩)
        go_roundw
        case rel => exact ⟨k + 1, by omega, by omega, HN.out, by have := (HB.out).set (.int .i64 ((k : Int) + 1)); simpa using this, (HK.out).setCell (by simp) _⟩
        case measure =>
          rw [c1]
          have := ((HB.out).set (.int .i64 ((k : Int) + 1))).cell
          rw [this]
          simp [intOf]; omega
      | false =>
        have hz2 := indexByte_out hc
        rw [← hz] at hz2
        have hz3 : ¬ 0 ≤ z := by omega
        have hkm : m = k := by rw [← HRU.out, runC_stop hlt (by rw [hb]; exact hc)]; rfl
        clear hb hz hc
        subst hkm
        have hpc : (str t).extract n m = str (piece t n m) := str_extract _ _ _
        go_wp2_with (go_at_call 81; refine (HC.out).mono ?_; rintro e w1 ⟨rfl, rfl⟩)
        go_ret
        exact ⟨rfl, HB.out, HK.out⟩
    · obtain rfl : k = t.length := by omega
      have hkm : m = t.length := by rw [← HRU.out, runC_end (Nat.le_refl _)]; rfl
      subst hkm
      have hpc : (str t).extract n t.length = str (piece t n t.length) := str_extract _ _ _
      go_wp2_with fail
      go_ret
      exact ⟨rfl, HB.out, HK.out⟩


/-! ### Class, isClass, isPart -/
def classZ (c : Int) : Int := if 200 ≤ c ∧ c ≤ 599 then c / 100 else 0
theorem class_any (c : Int) (w : World) (h0 : -9223372036854775808 ≤ c) (h1 : c ≤ 9223372036854775807) : Calls Tryd.prog 113 #[.int .i64 c] w fun e w' => e = .returned (.int .i64 (classZ c)) ∧ w = w' := by
  by_cases ha : c < 200
  · have HZ := Lib.hid (show classZ c = 0 by unfold classZ; rw [if_neg (by omega)])
    clear h0 h1
    go_enter Tryd.func113, Tryd.ntmps113
    go_wp2
    go_ret
    rw [HZ.out]
    exact ⟨rfl, rfl⟩
  · by_cases hb : 599 < c
    · have HZ := Lib.hid (show classZ c = 0 by unfold classZ; rw [if_neg (by omega)])
      clear h0 h1
      go_enter Tryd.func113, Tryd.ntmps113
      go_wp2
      go_ret
      rw [HZ.out]
      exact ⟨rfl, rfl⟩
    · obtain ⟨n, rfl⟩ := Int.eq_ofNat_of_zero_le (show 0 ≤ c by omega)
      have HZ := Lib.hid (show classZ (n : Int) = (n : Int).tdiv 100 by unfold classZ; rw [if_pos (by omega)]; exact (Int.tdiv_eq_ediv_of_nonneg (by omega)).symm)
      have ht : (n : Int).tdiv 100 ≤ 5 ∧ 0 ≤ (n : Int).tdiv 100 := by rw [Int.tdiv_eq_ediv_of_nonneg (by omega)]; omega
      clear h0 h1
      go_enter Tryd.func113, Tryd.ntmps113
      go_wp2
      go_ret
      rw [HZ.out]
      exact ⟨rfl, rfl⟩

theorem below_more {w w' : World} {os : Array Obj} (hh : w'.heap = w.heap ++ os) (h1 : w'.os = w.os) (h2 : w'.tape = w.tape) (h3 : w'.output = w.output) : Below w.heap.size w w' := by
  refine ⟨h1, h2, h3, by rw [hh]; simp, fun k hk => ?_⟩
  rw [hh, Array.getElem?_append_left hk]
theorem itoa_call (n : Int) (w : World) (h0 : -9223372036854775808 ≤ n) (h1 : n ≤ 9223372036854775807) (hw : LW w) :
    Calls Tryd.prog 79 #[.int .i64 n] w fun e w' => e = .returned (sv (Lib.itoa n)) ∧ Below w.heap.size w w' := by
  refine (Tryd.strconv_Itoa n h0 h1 w hw.pow).mono ?_
  rintro e w1 ⟨rfl, q, os, hw⟩
  refine ⟨rfl, ?_⟩
  exact below_more (w := w) (w' := w1) (os := os) (by rw [hw]; rfl) (by rw [hw]; rfl) (by rw [hw]; rfl) (by rw [hw]; rfl)

set_option maxHeartbeats 4000000 in
theorem isClass_any (p : List UInt8) (code : Nat) (w : World) (h0 : 200 ≤ code) (h1 : code ≤ 599) (hw : LW w) :
    Calls Tryd.prog 85 #[sv p, .int .i64 (code : Int)] w fun e w' => e = .returned (.bool (classC p code)) ∧ Below w.heap.size w w' := by
  have hcz : classZ (code : Int) = ((code / 100 : Nat) : Int) := by unfold classZ; rw [if_pos (by omega)]; omega
  have HC := Lib.hid (class_any (code : Int) w (by omega) (by omega))
  obtain ⟨d, hd⟩ : ∃ d, d = code / 100 := ⟨_, rfl⟩
  rw [← hd] at hcz
  rw [hcz] at HC
  have hd2 : d = 2 ∨ d = 3 ∨ d = 4 ∨ d = 5 := by omega
  have hit : Lib.itoa (d : Int) = [UInt8.ofNat (48 + d)] := by
    rcases hd2 with rfl | rfl | rfl | rfl <;> decide +kernel
  have HI := Lib.hid (itoa_call (d : Int) w (by omega) (by omega) hw)
  rw [hit] at HI
  obtain ⟨y, hy⟩ : ∃ y, y = [UInt8.ofNat (48 + d)] := ⟨_, rfl⟩
  rw [← hy] at HI
  have HR := Lib.hid (show classC p code = ((p == [50] || p == [52] || p == [53]) && p == y) by unfold classC; rw [hy, hd])
  clear hcz hd hd2 hit hy h0 h1 hw
  cases a : p == [50]
  · cases b : p == [52]
    · cases c : p == [53]
      · have HA := Lib.hid (show classC p code = false by rw [HR.out, a, b, c]; rfl)
        go_enter Tryd.func85, Tryd.ntmps85
        go_wp2_with first
          | (go_at_call 113; refine (HC.out).mono ?_; rintro e w1 ⟨rfl, rfl⟩)
          | (go_at_call 79; refine (HI.out).mono ?_; rintro e w1 ⟨rfl, hb⟩; have HX := Lib.hid hb; clear hb)
        go_ret
        rw [HA.out]
        exact ⟨rfl, Below.refl _ _⟩
      · have HA := Lib.hid (show classC p code = (p == y) by rw [HR.out, a, b, c]; rfl)
        go_enter Tryd.func85, Tryd.ntmps85
        go_wp2_with first
          | (go_at_call 113; refine (HC.out).mono ?_; rintro e w1 ⟨rfl, rfl⟩)
          | (go_at_call 79; refine (HI.out).mono ?_; rintro e w1 ⟨rfl, hb⟩; have HX := Lib.hid hb; clear hb)
        go_ret
        rw [HA.out]
        exact ⟨rfl, HX.out⟩
    · have HA := Lib.hid (show classC p code = (p == y) by rw [HR.out, a, b]; simp)
      go_enter Tryd.func85, Tryd.ntmps85
      go_wp2_with first
        | (go_at_call 113; refine (HC.out).mono ?_; rintro e w1 ⟨rfl, rfl⟩)
        | (go_at_call 79; refine (HI.out).mono ?_; rintro e w1 ⟨rfl, hb⟩; have HX := Lib.hid hb; clear hb)
      go_ret
      rw [HA.out]
      exact ⟨rfl, HX.out⟩
  · have HA := Lib.hid (show classC p code = (p == y) by rw [HR.out, a]; simp)
    go_enter Tryd.func85, Tryd.ntmps85
    go_wp2_with first
      | (go_at_call 113; refine (HC.out).mono ?_; rintro e w1 ⟨rfl, rfl⟩)
      | (go_at_call 79; refine (HI.out).mono ?_; rintro e w1 ⟨rfl, hb⟩; have HX := Lib.hid hb; clear hb)
    go_ret
    rw [HA.out]
    exact ⟨rfl, HX.out⟩

set_option maxHeartbeats 4000000 in
theorem isPart_any (p : List UInt8) (w : World) (hp : p.length ≤ 1000000) : Calls Tryd.prog 86 #[sv p] w fun e w' => e = .returned (.bool (partC p)) ∧ w = w' := by
  have HR := Lib.hid (show partC p = (p == [48] || (!(p == []) && decide (p.length ≤ 3) && !(p.getD 0 0 == 48))) from rfl)
  cases a : p == [48]
  · cases b : p == []
    · have hpos : 0 < p.length := by
        cases p with
        | nil => simp at b
        | cons => simp
      have b2 : (p != []) = true := by simp only [bne, b]; rfl
      obtain ⟨c, hc⟩ : ∃ c, (p.getD 0 0).toNat = c := ⟨_, rfl⟩
      have hcs : (((str p)[0]'(by simpa [ByteArray.size] using hpos)).toNat) = c := by rw [str_getD p 0 hpos, hc]
      have hcb : (p.getD 0 0 == 48) = (c == 48) := by
        rw [← hc, Bool.eq_iff_iff, beq_iff_eq, beq_iff_eq, ← UInt8.toNat_inj]; rfl
      by_cases h3 : p.length ≤ 3
      · by_cases h4 : c = 48
        · have HA := Lib.hid (show partC p = false by rw [HR.out, a, b, hcb, h4]; simp)
          have hc4 : ((c : Int) != 48) = false := by simp [h4]
          have hp3 : (p.length : Int) ≤ 3 := by omega
          clear hc hcb h4
          go_enter Tryd.func86, Tryd.ntmps86
          go_wp2
          go_ret
          rw [HA.out]
          exact ⟨by simp, rfl⟩
        · have HA := Lib.hid (show partC p = true by rw [HR.out, a, b, hcb, decide_eq_true h3]; simp [h4])
          have hc4 : ((c : Int) != 48) = true := by simp; omega
          have hp3 : (p.length : Int) ≤ 3 := by omega
          clear hc hcb h4
          go_enter Tryd.func86, Tryd.ntmps86
          go_wp2
          go_ret
          rw [HA.out]
          exact ⟨by simp, rfl⟩
      · have HA := Lib.hid (show partC p = false by rw [HR.out, a, b, decide_eq_false h3]; simp)
        have hp3 : ¬ (p.length : Int) ≤ 3 := by omega
        clear hc hcb
        go_enter Tryd.func86, Tryd.ntmps86
        go_wp2
        go_ret
        rw [HA.out]
        exact ⟨by simp, rfl⟩
    · have b2 : (p != []) = false := by simp only [bne, b]; rfl
      have HA := Lib.hid (show partC p = false by rw [HR.out, a, b]; simp)
      go_enter Tryd.func86, Tryd.ntmps86
      go_wp2
      go_ret
      rw [HA.out]
      exact ⟨by simp, rfl⟩
  · have HA := Lib.hid (show partC p = true by rw [HR.out, a]; simp)
    go_enter Tryd.func86, Tryd.ntmps86
    go_wp2
    go_ret
    rw [HA.out]
    exact ⟨by simp, rfl⟩
end Go.Proofs.YtanfonpbnamjmaaDoor
