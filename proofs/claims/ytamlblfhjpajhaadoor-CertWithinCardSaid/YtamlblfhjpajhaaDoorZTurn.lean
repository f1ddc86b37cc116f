/-
  Contracts of rot and turn: one of a block's turns.
-/
import Derived.Deep.QuietTactic
import Derived.BigQuiet
import Derived.Laws.BitsLemmas
import Derived.Test.YtamlblfhjpajhaaDoorZSha
import Derived.Test.YtamlblfhjpajhaaDoorZBase
namespace Go.Proofs.YtamlblfhjpajhaaDoor
open Go Go.RowKit
set_option maxRecDepth 100000

/-- A word's number, as the model has it. -/
def n32 (x : W32) : Int := (x.toNat : Int)
/-- A word's value. -/
abbrev wv (x : W32) : Value := .int .u32 (n32 x)

theorem n32_lo (x : W32) : 0 ≤ n32 x := Int.natCast_nonneg _
theorem n32_hi (x : W32) : n32 x ≤ 4294967295 := by have := x.isLt; unfold n32; omega

theorem wraps_u64 (n : Int) (h₀ : 0 ≤ n) (h₁ : n < 2 ^ 64) : IntKind.u64.wrap n = n := by
  simp [IntKind.wrap, IntKind.bits, IntKind.signed]; omega
theorem wraps_u32 (n : Int) (h₀ : 0 ≤ n) (h₁ : n < 2 ^ 32) : IntKind.u32.wrap n = n := by rw [IntKind.wrap_u32]; omega
theorem and31 (n : Nat) (hn : 0 < n) (hn2 : n < 32) : bits BinOp.and IntKind.u64 (IntKind.u64.wrap (-(n : Int))) 31 = ((32 - n : Nat) : Int) := by
  have h : IntKind.u64.wrap (-(n : Int)) = 18446744073709551616 - n := by
    simp [IntKind.wrap, IntKind.bits, IntKind.signed]; omega
  have := bits_mask .u64 64 (by decide) wraps_u64 5 (by decide) (18446744073709551616 - (n : Int)) (by omega) (by omega)
  rw [h]
  refine Eq.trans this ?_
  omega

theorem bits_or32 (x y : W32) : bits BinOp.or IntKind.u32 (n32 x) (n32 y) = n32 (x ||| y) := by
  unfold n32
  rw [(bits_nat .u32 32 (by decide) wraps_u32 x.toNat y.toNat x.isLt y.isLt).2, BitVec.toNat_or]
theorem bits_and32 (x y : W32) : bits BinOp.and IntKind.u32 (n32 x) (n32 y) = n32 (x &&& y) := by
  unfold n32
  rw [(bits_nat .u32 32 (by decide) wraps_u32 x.toNat y.toNat x.isLt y.isLt).1, BitVec.toNat_and]
theorem bits_xor32 (x y : W32) : bits BinOp.xor IntKind.u32 (n32 x) (n32 y) = n32 (x ^^^ y) := by
  unfold n32
  simp only [bits, BitVec.ofInt_natCast]
  rw [show (BitVec.ofNat IntKind.u32.bits x.toNat ^^^ BitVec.ofNat IntKind.u32.bits y.toNat).toNat = (x ^^^ y).toNat from by
    show (BitVec.ofNat 32 x.toNat ^^^ BitVec.ofNat 32 y.toNat).toNat = _
    rw [BitVec.ofNat_toNat, BitVec.ofNat_toNat, BitVec.setWidth_eq, BitVec.setWidth_eq]]
  exact wraps_u32 _ (Int.natCast_nonneg _) (by have := (x ^^^ y).isLt; omega)
theorem bits_not32 (x : W32) : bits BinOp.xor IntKind.u32 IntKind.u32.max (n32 x) = n32 (~~~x) := by
  have e : IntKind.u32.max = n32 (BitVec.allOnes 32) := by decide
  rw [e, bits_xor32, BitVec.allOnes_xor]
theorem add32 (x y : W32) : (n32 x + n32 y) % 4294967296 = n32 (x + y) := by
  unfold n32
  rw [BitVec.toNat_add]; omega
theorem shl32 (x : W32) (m : Nat) : n32 x * 2 ^ m % 4294967296 = n32 (x <<< m) := by
  unfold n32
  rw [BitVec.toNat_shiftLeft, Nat.shiftLeft_eq]
  rw [show (2 : Nat) ^ 32 = 4294967296 from rfl, Int.natCast_emod, Int.natCast_mul, Int.natCast_pow]; rfl
theorem shr32 (x : W32) (m : Nat) : n32 x / 2 ^ m = n32 (x >>> m) := by
  unfold n32
  rw [BitVec.toNat_ushiftRight, Nat.shiftRight_eq_div_pow]; push_cast; rfl

theorem rotl_any (x : W32) (n : Nat) (w : World) (hn : 0 < n) (hn2 : n < 32) : Calls Tryd.prog 90 #[wv x, .int .i64 (-(n : Int))] w fun e w' => e = .returned (wv (rotP x n)) ∧ w = w' := by
  have hs := and31 n hn hn2
  obtain ⟨m, hm⟩ : ∃ m, m = 32 - n := ⟨_, rfl⟩
  rw [← hm] at hs
  have hm1 : m < 32 := by omega
  have hm0 : 0 < m := by omega
  have hx0 := n32_lo x
  have hx1 := n32_hi x
  have e1 := shl32 x m
  have e2 := shr32 x (32 - m)
  have e3 := bits_or32 (x <<< m) (x >>> (32 - m))
  have HV := Lib.hid (show rotP x n = (x <<< m) ||| (x >>> (32 - m)) by
    unfold rotP
    rw [BitVec.or_comm, ← hm, show 32 - m = n by omega])
  clear hm
  go_enter Tryd.func90, Tryd.ntmps90
  go_wp2
  go_ret
  rw [HV.out]
  exact ⟨rfl, rfl⟩

theorem rot_any (x : W32) (n : Nat) (w : World) (hn : 0 < n) (hn2 : n < 32) : Calls Tryd.prog 80 #[wv x, .int .i64 n] w fun e w' => e = .returned (wv (rotP x n)) ∧ w = w' := by
  go_enter Tryd.func80, Tryd.ntmps80
  go_wp2_with fail
  refine (rotl_any x n w hn hn2).mono ?_
  rintro e w' ⟨rfl, rfl⟩
  go_wp2
  go_ret
  exact ⟨rfl, rfl⟩

/-- The eight words' value. -/
abbrev St.v (s : St) : Value := .agg #[wv s.a, wv s.b, wv s.c, wv s.d, wv s.e, wv s.f, wv s.g, wv s.h]

theorem below_allocC (w : World) (o : Obj) : Below w.heap.size w (w.alloc o) := (Below.refl _ _).alloc (Nat.le_refl _) _

theorem post_row {R : Ending → World → Prop} {a : Act} {w : World} {g : Nat} {cs : Array Value} (hd : a.defers = []) (hp : a.tmps.getD 4 undef = .pointer (some ⟨g, 0, none⟩)) (hg : w.heap[g]? = some (.cells cs 68 (0, 0)))
    (hR : R (.returned (.agg cs)) w) (hs : cs.size = 8 := by rfl) : bodyPost Tryd.prog Tryd.f62 R .ret a w :=
  bodyPost_ret (results_cell_row (by kernel_rfl) a.tmps w g 68 cs (0, 0) _ hp hg Tryd.underlying68 rfl (by rw [hs]; kernel_rfl)) hd hR

set_option maxHeartbeats 1000000 in
theorem turn_any (s : St) (x : W32) (w : World) :
    Calls Tryd.prog 62 #[s.v, wv x] w fun e w' => e = .returned (turnP s x).v ∧ Below w.heap.size w w' := by
  have HW := Lib.hid ((below_allocC w (.cells #[wv s.a, wv s.b, wv s.c, wv s.d, wv s.e, wv s.f, wv s.g, wv s.h] 68)).trans ((below_allocC _ (.cells #[.int .u32 0, .int .u32 0, .int .u32 0, .int .u32 0, .int .u32 0, .int .u32 0, .int .u32 0, .int .u32 0] 68)).mono (by simp)))
  obtain ⟨a, b, c, d, e, f, g, h⟩ := s
  simp only at HW ⊢
  have rx := bits_xor32
  have ra := bits_and32
  have rn := bits_not32
  have rp := add32
  have hsg : IntKind.u32.signed = false := rfl
  go_enter Tryd.func62, Tryd.ntmps62
  go_wp2
  go_quiet (fail)
  go_wp2
  go_quiet (fail)
  go_wp2_with (fail)
  refine (rot_any e 6 _ (by decide) (by decide)).mono ?_
  rintro ee w' ⟨rfl, rfl⟩
  go_wp2_with (fail)
  refine (rot_any e 11 _ (by decide) (by decide)).mono ?_
  rintro ee w' ⟨rfl, rfl⟩
  go_wp2_with (fail)
  refine (rot_any e 25 _ (by decide) (by decide)).mono ?_
  rintro ee w' ⟨rfl, rfl⟩
  go_wp2_with (fail)
  refine (rot_any a 2 _ (by decide) (by decide)).mono ?_
  rintro ee w' ⟨rfl, rfl⟩
  go_wp2_with (fail)
  refine (rot_any a 13 _ (by decide) (by decide)).mono ?_
  rintro ee w' ⟨rfl, rfl⟩
  go_wp2_with (fail)
  refine (rot_any a 22 _ (by decide) (by decide)).mono ?_
  rintro ee w' ⟨rfl, rfl⟩
  go_wp2
  refine post_row rfl rfl (heap_setCell_same _ _ _ _ _ _ (heap_setCell_same _ _ _ _ _ _ (heap_setCell_same _ _ _ _ _ _ (heap_setCell_same _ _ _ _ _ _ (heap_setCell_same _ _ _ _ _ _ (heap_setCell_same _ _ _ _ _ _ (heap_setCell_same _ _ _ _ _ _ (heap_setCell_same _ _ _ _ _ _ (heap_alloc2_new w _ _))))))))) ⟨rfl, ?_⟩
  have H0 := fun k => below_drewNC HW.out k
  exact ((((((((H0 _).setCell (p := ⟨w.heap.size + 1, 0, none⟩) (by simp) _).setCell (p := ⟨w.heap.size + 1, 1, none⟩) (by simp) _).setCell (p := ⟨w.heap.size + 1, 2, none⟩) (by simp) _).setCell (p := ⟨w.heap.size + 1, 3, none⟩) (by simp) _).setCell (p := ⟨w.heap.size + 1, 4, none⟩) (by simp) _).setCell (p := ⟨w.heap.size + 1, 5, none⟩) (by simp) _).setCell (p := ⟨w.heap.size + 1, 6, none⟩) (by simp) _).setCell (p := ⟨w.heap.size + 1, 7, none⟩) (by simp) _
end Go.Proofs.YtamlblfhjpajhaaDoor
