/-
  Rows of bytes that a call writes; texts put together; the contracts of octets, isTag, Clone, byte1, many.
  The contracts of number, length, Int, ReadInt, Bool, ReadBool.
  The contracts of Int, ReadInt, Bool, ReadBool.
-/
import Derived.Deep.QuietTactic
import Derived.BigQuiet
import Derived.WalkMore
import Derived.ScopeJumps
import Derived.Laws.BitsLemmas
import Derived.Laws.Shifts
import Derived.Laws.IdiomStrings
import Derived.Test.YtnaoandleelbkaaGreatDoorEPm
import Derived.Test.YtnaoandleelbkaaGreatDoorShelf
import Derived.Deep.RegionHeld3
namespace Go.Proofs.YtnaoandleelbkaaGreatDoor
set_option linter.unusedSimpArgs false
set_option linter.unusedVariables false
open Go Go.RowKit
set_option maxRecDepth 100000

theorem below_alloc (w : World) (o : Obj) : Below w.heap.size w (w.alloc o) := (Below.refl _ _).alloc (Nat.le_refl _) _
theorem below_drewNE {n : Nat} {w w' : World} (h : Below n w w') (k : Nat) : Below n w (w'.drewN k) := ⟨h.os, h.tape, h.output, h.size, h.block⟩
theorem str_appendE (a b : List UInt8) : str a ++ str b = str (a ++ b) := by
  apply ByteArray.ext
  simp [str, ByteArray.data_append]

def cellsOf (l : List UInt8) : List Value := l.map bv
theorem cellsOf_length (l : List UInt8) : (cellsOf l).length = l.length := by simp [cellsOf]
/-- Block g is a row of these bytes. -/
def AB (w : World) (g : Nat) (T : TypeId) (l : List UInt8) : Prop := w.heap[g]? = some (.cells (cellsOf l).toArray T (0, 0))
theorem AB.lt {w : World} {g : Nat} {T : TypeId} {l : List UInt8} (h : AB w g T l) : g < w.heap.size := lt_of_blk h
theorem AB.cell {w : World} {g : Nat} {T : TypeId} {l : List UInt8} (h : AB w g T l) {j : Nat} (hj : j < l.length) : w.cell? ⟨g, j, none⟩ = some (bv (l.getD j 0)) := by
  rw [cellAt h]
  simp [cellsOf, List.getD_eq_getElem?_getD, hj]
theorem AB.free {w : World} {g : Nat} {T : TypeId} {l : List UInt8} (h : AB w g T l) (j : Nat) : w.frozen? ⟨g, j, none⟩ = false := freeAt h j
theorem AB.new (w : World) (T : TypeId) (l : List UInt8) : AB (w.alloc (.cells (cellsOf l).toArray T)) w.heap.size T l := heap_alloc_new w _
theorem AB.below {w w' : World} {g n : Nat} {T : TypeId} {l : List UInt8} (h : AB w g T l) (hb : Below n w w') (hn : g < n) : AB w' g T l := (hb.block g hn).trans h
theorem AB.set {w : World} {g : Nat} {T : TypeId} {l : List UInt8} (h : AB w g T l) (j : Nat) (x : UInt8) : AB (w.setCell ⟨g, j, none⟩ (bv x)) g T (l.set j x) := by
  unfold AB at h ⊢
  simp [World.setCell, Array.getElem?_modify, h, cellsOf, List.map_set]
theorem AB.text {w : World} {g : Nat} {l : List UInt8} (h : AB w g 5 l) {n c : Nat} (hn : n = l.length) : (convert 41 9 (.slice (some ⟨g, 0, none⟩) n c)).run Tryz.prog w = .ok (sv l) w := by
  subst hn
  exact run_convert_bytes_back (P := Tryz.prog) w 41 9 5 ⟨g, 0, none⟩ c l Tryz.underlying41 Tryz.underlying5 Tryz.underlying9 (fun j hj => by
    rw [show (⟨g, 0, none⟩ : Addr).add j = ⟨g, j, none⟩ from by unfold Addr.add; split <;> simp_all, h.cell hj, getD_str _ _ hj]; rfl)
theorem bv_of {z : Int} {b : UInt8} (h : z = (b.toNat : Int)) : (Value.int .u8 z) = bv b := by rw [h]; rfl

/-- octets, over a row that was just made. -/
theorem octets_any {w : World} (l : List UInt8) {g n c : Nat} (h : AB w g 5 l) (hn : n = l.length) :
    Calls Tryz.prog 169 #[.slice (some ⟨g, 0, none⟩) n c] w fun e w' => e = .returned (sv l) ∧ w = w' := by
  have hcv := h.text (c := c) hn
  clear h hn
  go_enter Tryz.func169, Tryz.ntmps169
  go_wp2_with fail
  go_ret
  exact ⟨rfl, rfl⟩
/-- octets of one byte. -/
theorem octets1 (W : World) (z : Int) (a : UInt8) (hz : z = (a.toNat : Int)) (c : Nat) : Calls Tryz.prog 169 #[.slice (some ⟨W.heap.size, 0, none⟩) 1 c] (W.alloc (.cells #[.int .u8 z] 5)) fun e w' => e = .returned (sv [a]) ∧ W.alloc (.cells #[.int .u8 z] 5) = w' := by
  rw [bv_of hz]
  exact octets_any [a] (AB.new W _ [a]) rfl
theorem octets2 (W : World) (y z : Int) (a b : UInt8) (hy : y = (a.toNat : Int)) (hz : z = (b.toNat : Int)) (c : Nat) : Calls Tryz.prog 169 #[.slice (some ⟨W.heap.size, 0, none⟩) 2 c] (W.alloc (.cells #[.int .u8 y, .int .u8 z] 5)) fun e w' => e = .returned (sv [a, b]) ∧ W.alloc (.cells #[.int .u8 y, .int .u8 z] 5) = w' := by
  rw [bv_of hy, bv_of hz]
  exact octets_any [a, b] (AB.new W _ [a, b]) rfl
theorem octets3 (W : World) (x y z : Int) (a b d : UInt8) (hx : x = (a.toNat : Int)) (hy : y = (b.toNat : Int)) (hz : z = (d.toNat : Int)) (c : Nat) : Calls Tryz.prog 169 #[.slice (some ⟨W.heap.size, 0, none⟩) 3 c] (W.alloc (.cells #[.int .u8 x, .int .u8 y, .int .u8 z] 5)) fun e w' => e = .returned (sv [a, b, d]) ∧ W.alloc (.cells #[.int .u8 x, .int .u8 y, .int .u8 z] 5) = w' := by
  rw [bv_of hx, bv_of hy, bv_of hz]
  exact octets_any [a, b, d] (AB.new W _ [a, b, d]) rfl

theorem isTag_any {w : World} (t : UInt8) : Calls Tryz.prog 168 #[.int .u8 (t.toNat : Int)] w fun e w' => e = .returned (.bool (tagB t)) ∧ w = w' := by
  have h0 := t.toNat_lt
  have h1 := u8_and31 (t.toNat : Int) (by omega) (by omega)
  have h2 : (((t.toNat : Int) % 32) != 31) = tagB t := by
    unfold tagB
    rw [Bool.eq_iff_iff, bne_iff_ne, bne_iff_ne]; omega
  clear h0
  go_enter Tryz.func168, Tryz.ntmps168
  go_wp2_with fail
  go_ret
  exact ⟨by rw [← h2]; rfl, rfl⟩

theorem clone_anyE {w : World} (s : List UInt8) (h : s.length ≤ 281474976710656) : Calls Tryz.prog 69 #[sv s] w fun e w' => e = .returned (sv s) ∧ Below w.heap.size w w' := by
  go_enter Tryz.func69, Tryz.ntmps69
  go_wp2_with (go_at_call 123; refine (Tryz.stringslite_Clone (str s) _ (by show s.toArray.size ≤ _; simp; omega)).mono ?_; rintro e w1 ⟨rfl, hb⟩)
  go_ret
  exact ⟨rfl, hb⟩

theorem byte1_any {w : World} (z : Int) (a : UInt8) (hz : 0 ≤ z ∧ z % 256 = (a.toNat : Int)) : Calls Tryz.prog 131 #[.int .i64 z] w fun e w' => e = .returned (sv [a]) ∧ Below w.heap.size w w' := by
  have ht : z.tmod 256 = (a.toNat : Int) := by rw [Int.tmod_eq_emod_of_nonneg hz.1, hz.2]
  have hw : IntKind.i64.wrap (a.toNat : Int) = (a.toNat : Int) := by rw [IntKind.wrap_i64]; have := a.toNat_lt; omega
  have hw8 : IntKind.u8.wrap (a.toNat : Int) = (a.toNat : Int) := by rw [IntKind.wrap_u8]; have := a.toNat_lt; omega
  have hcv : (convert 41 9 (.slice (some ⟨w.heap.size, 0, none⟩) 1 1)).run Tryz.prog (w.alloc (.cells #[.int .u8 (a.toNat : Int)] 5)) = .ok (sv [a]) (w.alloc (.cells #[.int .u8 (a.toNat : Int)] 5)) := (AB.new w 5 [a]).text (n := 1) (c := 1) rfl
  have hb := below_alloc w (.cells #[bv a] 5)
  have HB := Lib.hid hb
  clear hb hz
  go_enter Tryz.func131, Tryz.ntmps131
  go_wp2_with fail
  go_ret
  exact ⟨rfl, HB.out⟩
end Go.Proofs.YtnaoandleelbkaaGreatDoor

namespace Go.Proofs.YtnaoandleelbkaaGreatDoor
set_option linter.unusedSimpArgs false
set_option linter.unusedVariables false
open Go Go.RowKit
set_option maxRecDepth 100000

theorem pow256_6 : (256 : Int) ^ 6 = 281474976710656 := by decide
theorem fits_mono {k m : Nat} {n : Int} (h : fits k n) (hm : k ≤ m) : fits m n := by
  unfold fits at h ⊢
  have hp : (256 : Int) ^ k ≤ 256 ^ m := by exact_mod_cast Nat.pow_le_pow_right (by omega) hm
  omega
theorem fits6 {n : Int} (h : fits 6 n) : -36028797018963968 ≤ n ∧ n < 36028797018963968 := by
  unfold fits at h
  rw [pow256_6] at h
  omega
theorem fits7 {n : Int} (h : fits 7 n) : -9223372036854775808 ≤ n ∧ n < 9223372036854775808 := by
  unfold fits at h
  rw [show (256 : Int) ^ 7 = 72057594037927936 by decide] at h
  omega
theorem or_byte {m : Int} (hm : fits 6 m) (x : UInt8) : bits .or .i64 (m * 256) (x.toNat : Int) = m * 256 + x.toNat := by
  have hb := fits6 hm
  have hx := x.toNat_lt
  obtain ⟨u, hu⟩ : ∃ u : Nat, (u : Int) = (m * 256) % 18446744073709551616 := ⟨((m * 256) % 18446744073709551616).toNat, by omega⟩
  obtain ⟨v, hv⟩ : ∃ v : Nat, u = 2 ^ 8 * v := ⟨u / 256, by omega⟩
  have e1 : (BitVec.ofInt 64 (m * 256)).toNat = u := by
    rw [BitVec.toNat_ofInt]
    have : ((2 ^ 64 : Nat) : Int) = 18446744073709551616 := by decide
    rw [this, ← hu]; simp
  have e2 : (BitVec.ofInt 64 (x.toNat : Int)).toNat = x.toNat := by
    rw [BitVec.ofInt_natCast, BitVec.toNat_ofNat]; omega
  have e3 : u ||| x.toNat = u + x.toNat := by
    rw [hv]
    exact (Nat.two_pow_add_eq_or_of_lt (i := 8) hx v).symm
  show IntKind.i64.wrap (((BitVec.ofInt 64 (m * 256)) ||| (BitVec.ofInt 64 (x.toNat : Int))).toNat : Int) = _
  rw [BitVec.toNat_or, e1, e2, e3, IntKind.wrap_i64]
  push_cast
  omega
theorem wrap64_in {z : Int} (h : -9223372036854775808 ≤ z ∧ z < 9223372036854775808) : wrap64 z = z := by unfold wrap64; omega
theorem shl8 {m : Int} (hm : fits 6 m) : wrap64 (m * 2 ^ 8) = m * 256 := by
  have hb := fits6 hm
  rw [show (2 : Int) ^ 8 = 256 by decide]
  exact wrap64_in (by omega)
theorem take_next {l : List UInt8} {k : Nat} (h : k < l.length) : l.take (k + 1) = l.take k ++ [l.getD k 0] := by
  rw [List.take_succ_eq_append_getElem h, List.getD_eq_getElem?_getD, List.getElem?_eq_getElem h]
  rfl
theorem str_size (l : List UInt8) : (str l).size = l.length := by simp [ByteArray.size]

set_option maxHeartbeats 2000000 in
theorem number_any {w : World} (k : Nat) (n : Int) (l : List UInt8) (hn : fits k n) (hk : k + l.length ≤ 7) :
    Calls Tryz.prog 174 #[.int .i64 n, sv l] w fun e w' => e = .returned (.int .i64 (numI n l)) ∧ w = w' := by
  have HN := Lib.hid hn
  clear hn
  have hsz := str_size l
  go_enter Tryz.func174, Tryz.ntmps174
  go_wp2_with fail
  go_loop [0, 8] (fun m i => ∃ j : Nat, j ≤ l.length ∧ i = .int .i64 j ∧ m = .int .i64 (numI n (l.take j))) (fun _ i => l.length - (intOf i).toNat)
  case atStart => exact ⟨0, Nat.zero_le _, rfl, rfl⟩
  case round =>
    obtain ⟨j, hj, rfl, rfl⟩ := hrel
    by_cases hlt : j < l.length
    · have hx := str_getD l j hlt (by rw [hsz]; exact hlt)
      have hf : fits 6 (numI n (l.take j)) := by
        have := numI_fits k n (l.take j) HN.out
        refine fits_mono this ?_
        rw [List.length_take]; omega
      have hs : numI n (l.take (j + 1)) = numI n (l.take j) * 256 + (l.getD j 0).toNat := by rw [take_next hlt, numI_snoc]
      have h1 := shl8 hf
      have h2 := or_byte hf (l.getD j 0)
      rw [← hs] at h2
      have h3 := (l.getD j 0).toNat_lt
      have h4 : IntKind.i64.wrap ((l.getD j 0).toNat : Int) = ((l.getD j 0).toNat : Int) := by rw [IntKind.wrap_i64]; omega
      have hlt' : (j : Int) < (l.length : Int) := by omega
      have hm : wrap64 (numI n (l.take j) * 256) = numI n (l.take j) * 256 := wrap64_in (by have := fits6 hf; omega)
      rw [← hm, getD_str l j hlt] at h2
      rw [getD_str l j hlt] at h3
      have h5 : wrap64 ((l[j].toNat : Nat) : Int) = ((l[j].toNat : Nat) : Int) := wrap64_in (by omega)
      rw [← h5] at h2
      have H2 := Lib.hid h2
      clear hs hf hm h1 h2 h3 h4 h5 hx
      go_wp2_with fail
      go_round
      case rel => exact ⟨j + 1, by omega, by go_num, congrArg (Value.int .i64) H2.out⟩
      case measure => simp [intOf]; omega
    · obtain rfl : j = l.length := by omega
      go_wp2_with fail
      go_ret
      exact ⟨rfl, rfl⟩

theorem u8_nat (n : Nat) : IntKind.u8.wrap (n : Int) = ((UInt8.ofNat n).toNat : Int) := by rw [IntKind.wrap_u8]; simp
theorem u8_int (n : Int) : IntKind.u8.wrap n = ((UInt8.ofNat (n % 256).toNat).toNat : Int) := by rw [IntKind.wrap_u8, low_toNat]
theorem shr8 (n : Nat) : ((n : Int) / 2 ^ 8) = ((n / 256 : Nat) : Int) := by
  rw [show (2 : Int) ^ 8 = 256 by decide]; omega

set_option maxHeartbeats 2000000 in
theorem length_any {w : World} (n : Nat) (hn : n ≤ 65535) : Calls Tryz.prog 170 #[.int .i64 n] w fun e w' => e = .returned (sv (lenL n)) ∧ Below w.heap.size w w' := by
  have hu := u8_nat n
  have hv := u8_nat (n / 256)
  rw [IntKind.wrap_u8] at hu hv
  have hs := shr8 n
  by_cases h1 : n ≤ 127
  · have he : lenL n = [UInt8.ofNat n] := by unfold lenL; rw [if_pos h1]
    rw [he]
    have h1' : (n : Int) ≤ 127 := by omega
    have HO := Lib.hid (fun c => octets1 w (n : Int) (UInt8.ofNat n) (by rw [← hu]; omega) c)
    have HB := Lib.hid (below_alloc w (.cells #[.int .u8 (n : Int)] 5))
    clear he hn hv hs
    go_enter Tryz.func170, Tryz.ntmps170
    go_wp2_with (go_at_call 169; refine (HO.out _).mono ?_; rintro e w1 ⟨rfl, rfl⟩)
    go_ret
    exact ⟨rfl, HB.out⟩
  · have h1' : ¬ (n : Int) ≤ 127 := by omega
    by_cases h2 : n ≤ 255
    · have he : lenL n = [129, UInt8.ofNat n] := by unfold lenL; rw [if_neg h1, if_pos h2]
      rw [he]
      have h2' : (n : Int) ≤ 255 := by omega
      have HO := Lib.hid (fun c => octets2 w 129 (n : Int) 129 (UInt8.ofNat n) rfl (by rw [← hu]; omega) c)
      have HB := Lib.hid (below_alloc w (.cells #[.int .u8 129, .int .u8 (n : Int)] 5))
      clear he hn hv hs
      go_enter Tryz.func170, Tryz.ntmps170
      go_wp2_with (go_at_call 169; refine (HO.out _).mono ?_; rintro e w1 ⟨rfl, rfl⟩)
      go_ret
      exact ⟨rfl, HB.out⟩
    · have he : lenL n = [130, UInt8.ofNat (n / 256), UInt8.ofNat n] := by unfold lenL; rw [if_neg h1, if_neg h2]
      rw [he]
      have h2' : ¬ (n : Int) ≤ 255 := by omega
      obtain ⟨x, hx⟩ : ∃ x : Int, x = (n : Int) / 256 % 256 := ⟨_, rfl⟩
      obtain ⟨y, hy⟩ : ∃ y : Int, y = (n : Int) % 256 := ⟨_, rfl⟩
      rw [← hs, show (2 : Int) ^ 8 = 256 by decide, ← hx] at hv
      rw [← hy] at hu
      have HO := Lib.hid (fun c => octets3 w 130 x y 130 (UInt8.ofNat (n / 256)) (UInt8.ofNat n) rfl hv hu c)
      have HB := Lib.hid (below_alloc w (.cells #[.int .u8 130, .int .u8 x, .int .u8 y] 5))
      have HX := Lib.hid hx
      have HY := Lib.hid hy
      clear he hn hv hu hs hx hy
      go_enter Tryz.func170, Tryz.ntmps170
      go_wp2_with fail
      rw [← HX.out, ← HY.out]
      go_wp2_with (go_at_call 169; refine (HO.out _).mono ?_; rintro e w1 ⟨rfl, rfl⟩)

      go_ret
      exact ⟨rfl, HB.out⟩

end Go.Proofs.YtnaoandleelbkaaGreatDoor

namespace Go.Proofs.YtnaoandleelbkaaGreatDoor
set_option linter.unusedSimpArgs false
set_option linter.unusedVariables false
open Go Go.RowKit
set_option maxRecDepth 100000

theorem wrap_i8 (n : Int) : IntKind.i8.wrap n = (n + 128) % 256 - 128 := by
  simp [IntKind.wrap, IntKind.bits, IntKind.signed]
  split <;> omega
set_option maxHeartbeats 2000000 in
theorem int_any (k : Nat) : ∀ {w : World} (n : Int) (hn : fits k n) (hk : k ≤ 7), Calls Tryz.prog 120 #[.int .i64 n] w fun e w' => e = .returned (sv (intF k n)) ∧ Below w.heap.size w w' := by
  have one : ∀ {w : World} (n : Int) (h0 : -128 ≤ n ∧ n < 128), Calls Tryz.prog 120 #[.int .i64 n] w fun e w' => e = .returned (sv [UInt8.ofNat (n % 256).toNat]) ∧ Below w.heap.size w w' := by
    intro w n h0
    have hu := u8_int n
    have hw8 : IntKind.i8.wrap n = n := by rw [wrap_i8]; omega
    obtain ⟨x, hx⟩ : ∃ x : Int, x = n % 256 := ⟨_, rfl⟩
    obtain ⟨b, hb⟩ : ∃ b, b = UInt8.ofNat (n % 256).toNat := ⟨_, rfl⟩
    rw [IntKind.wrap_u8, ← hb, ← hx] at hu
    rw [← hb]
    have HO := Lib.hid (fun c => octets1 w x b hu c)
    have HB := Lib.hid (below_alloc w (.cells #[.int .u8 x] 5))
    have HX := Lib.hid hx
    have h1 := h0.1
    have h2 := h0.2
    clear hu hx hb h0
    go_enter Tryz.func120, Tryz.ntmps120
    go_wp2_with (go_at_call 169; rw [← HX.out]; with_reducible refine (HO.out _).mono ?_; rintro e w1 ⟨rfl, rfl⟩)
    go_ret
    exact ⟨rfl, HB.out⟩
  induction k with
  | zero =>
    intro w n hn hk
    exact one n (by unfold fits at hn; simpa using hn)
  | succ k ih =>
    intro w n hn hk
    by_cases h0 : -128 ≤ n ∧ n < 128
    · have := @one w n h0
      unfold intF
      rwa [if_pos h0]
    · unfold intF
      rw [if_neg h0]
      have hu := u8_int n
      obtain ⟨x, hx⟩ : ∃ x : Int, x = n % 256 := ⟨_, rfl⟩
      obtain ⟨b, hb⟩ : ∃ b, b = UInt8.ofNat (n % 256).toNat := ⟨_, rfl⟩
      obtain ⟨m, hm⟩ : ∃ m, m = (n + 128) % 256 - 128 := ⟨_, rfl⟩
      have hw8 : IntKind.i8.wrap n = m := by rw [wrap_i8, hm]
      have hm1 : IntKind.i64.wrap m = m := by rw [IntKind.wrap_i64]; omega
      have hne : ¬ n = m := by omega
      have hm2 : -128 ≤ m ∧ m < 128 := by omega
      obtain ⟨hm3, hm4⟩ := hm2
      rw [IntKind.wrap_u8, ← hb, ← hx] at hu
      rw [← hb]
      have h7 := fits7 (fits_mono hn hk)
      have h70 := h7.1
      have h71 := h7.2
      have IH := Lib.hid (fun W => @ih W (n / 256) (fits_step hn) (by omega))
      have HO := Lib.hid (fun c => octets1 w x b hu c)
      have HB := Lib.hid (below_alloc w (.cells #[.int .u8 x] 5))
      have HX := Lib.hid hx
      have hl8 : (intF k (n / 256)).length ≤ 8 := by have := intF_length k (n / 256); omega
      clear hu hx hb h0 hm ih one hn h7
      go_enter Tryz.func120, Tryz.ntmps120
      go_wp2_with (first | (go_at_call 169; rw [← HX.out]; with_reducible refine (HO.out _).mono ?_; rintro e w1 ⟨rfl, rfl⟩) | (go_at_call 120; refine (IH.out _).mono ?_; rintro e w2 ⟨rfl, hb2⟩))
      go_ret
      exact ⟨by rfl, HB.out.trans (hb2.mono (by simp))⟩

theorem int_top {w : World} {n : Int} (h : -9223372036854775808 ≤ n ∧ n < 9223372036854775808) : Calls Tryz.prog 120 #[.int .i64 n] w fun e w' => e = .returned (sv (intL n)) ∧ Below w.heap.size w w' := int_any 7 n (fits64 h) (Nat.le_refl _)

def okN (b : Bool) : Int := if b then 0 else 4
theorem i8_sgn (b : UInt8) : IntKind.i8.wrap (b.toNat : Int) = sgn b := by
  have h := b.toNat_lt
  rw [wrap_i8]; unfold sgn; split <;> omega
set_option maxHeartbeats 4000000 in
theorem readInt_any {w : World} (s : List UInt8) (hs : s.length ≤ 9223372036854775807) : Calls Tryz.prog 128 #[sv s] w fun e w' => e = .returned (.tuple #[.int .i64 (readN s), .int .i64 (okN (readB s))]) ∧ Below w.heap.size w w' := by
  have hsz := str_size s
  by_cases h0 : s.length = 0
  · obtain rfl : s = [] := List.length_eq_zero_iff.1 h0
    clear h0 hs
    go_enter Tryz.func128, Tryz.ntmps128
    go_wp2_with fail
    go_ret2
    exact ⟨rfl, Below.refl _ _⟩
  · by_cases h8 : s.length ≤ 8
    · obtain ⟨b, hb⟩ : ∃ b, b = s.getD 0 0 := ⟨_, rfl⟩
      obtain ⟨l, hl⟩ : ∃ l, l = s.drop 1 := ⟨_, rfl⟩
      have hsl : s = b :: l := by
        cases s with
        | nil => exact absurd rfl h0
        | cons x y => subst hb hl; rfl
      have hll : l.length ≤ 7 := by subst hl; simp; omega
      have hf := valL_fits b l
      have h7 := fits7 (fits_mono hf hll)
      have HNU := Lib.hid (fun W => @number_any W 0 (sgn b) l (by unfold fits; simpa using sgn_fits b) (by omega))
      rw [show numI (sgn b) l = valL s by rw [hsl]; rfl] at HNU
      rw [← hsl] at h7
      have HIN := Lib.hid (fun W => @int_top W _ h7)
      obtain ⟨v, hv⟩ : ∃ v, v = valL s := ⟨_, rfl⟩
      have HR := Lib.hid (show readB s = (intL v == s) by unfold readB; rw [decide_eq_true (by omega), hv]; rfl)
      have HV := Lib.hid (show readN s = if (intL v == s) then v else 0 by unfold readN; rw [HR.out, hv])
      rw [← hv] at HNU HIN
      have hw8 := i8_sgn b
      obtain ⟨g, hg⟩ : ∃ g, g = sgn b := ⟨_, rfl⟩
      rw [← hg] at HNU hw8
      have hw64 : IntKind.i64.wrap g = g := by have := sgn_fits b; rw [IntKind.wrap_i64]; omega
      have hlt0 : 0 < s.length := by omega
      have hx : (str s)[0]'(by rw [hsz]; exact hlt0) = b := by rw [str_getD s 0 hlt0, hb]
      have hex : (str s).extract 1 s.length = str l := by
        rw [str_extract, hl]; simp
      have hL : (intL v).length ≤ 8 := (intL_length v).2
      have hem : s.isEmpty = false := by rw [hsl]; rfl
      have h8' : decide (8 < (s.length : Int)) = false := by rw [decide_eq_false_iff_not]; omega
      cases hq : (intL v == s) with
      | true =>
        rw [hq] at HR HV
        have hq2 := hq
        clear hf h7 h0 hs hg hv hsl hll hl hb
        go_enter Tryz.func128, Tryz.ntmps128
        go_wp2_with fail
        go_region_with (go_at_call 174; refine (HNU.out _).mono ?_; rintro e w1 ⟨rfl, rfl⟩)
        all_goals
          go_wp2_with (go_at_call 120; refine (HIN.out _).mono ?_; rintro e w2 ⟨rfl, hb2⟩)
          go_ret2
          rw [HV.out, HR.out]
          exact ⟨rfl, ((Below.refl _ _).drew).trans (hb2.mono (Nat.le_refl _))⟩
      | false =>
        rw [hq] at HR HV
        have hq2 := hq
        clear hf h7 h0 hs hg hv hsl hll hl hb
        go_enter Tryz.func128, Tryz.ntmps128
        go_wp2_with fail
        go_region_with (go_at_call 174; refine (HNU.out _).mono ?_; rintro e w1 ⟨rfl, rfl⟩)
        all_goals
          go_wp2_with (go_at_call 120; refine (HIN.out _).mono ?_; rintro e w2 ⟨rfl, hb2⟩)
          go_ret2
          rw [HV.out, HR.out]
          exact ⟨rfl, ((Below.refl _ _).drew).trans (hb2.mono (Nat.le_refl _))⟩
    · have HR := Lib.hid (show readB s = false by unfold readB; rw [decide_eq_false (by omega)]; rfl)
      have HV := Lib.hid (show readN s = 0 by unfold readN; rw [HR.out]; rfl)
      have hem : s.isEmpty = false := by
        cases s with
        | nil => exact absurd rfl h0
        | cons x y => rfl
      have h8' : decide (8 < (s.length : Int)) = true := by rw [decide_eq_true_eq]; omega
      clear h0
      go_enter Tryz.func128, Tryz.ntmps128
      go_wp2_with fail
      go_ret2
      rw [HV.out, HR.out]
      exact ⟨rfl, Below.refl _ _⟩

def yesL (b : Bool) : List UInt8 := if b then [255] else [0]
def boolB (s : List UInt8) : Bool := s == [255] || s == [0]
theorem bool_any {w : World} (b : Bool) : Calls Tryz.prog 121 #[.bool b] w fun e w' => e = .returned (sv (yesL b)) ∧ w = w' := by
  cases b
  all_goals
    go_enter Tryz.func121, Tryz.ntmps121
    go_wp2_with fail
    go_ret
    exact ⟨rfl, rfl⟩
theorem readBool_any {w : World} (s : List UInt8) (hs : s.length ≤ 9223372036854775807) : Calls Tryz.prog 129 #[sv s] w fun e w' => e = .returned (.tuple #[.bool (s == [255]), .int .i64 (okN (boolB s))]) ∧ w = w' := by
  clear hs
  unfold boolB
  by_cases h1 : s = [255]
  · subst h1
    go_enter Tryz.func129, Tryz.ntmps129
    go_wp2_with fail
    go_ret2
    exact ⟨rfl, rfl⟩
  · by_cases h2 : s = [0]
    · subst h2
      go_enter Tryz.func129, Tryz.ntmps129
      go_wp2_with fail
      go_ret2
      exact ⟨rfl, rfl⟩
    · have e1 : (s == [255]) = false := by rw [beq_eq_false_iff_ne]; exact h1
      have e2 : (s == [0]) = false := by rw [beq_eq_false_iff_ne]; exact h2
      go_enter Tryz.func129, Tryz.ntmps129
      go_wp2_with fail
      go_ret2
      rw [e1, e2]
      exact ⟨rfl, rfl⟩
end Go.Proofs.YtnaoandleelbkaaGreatDoor
