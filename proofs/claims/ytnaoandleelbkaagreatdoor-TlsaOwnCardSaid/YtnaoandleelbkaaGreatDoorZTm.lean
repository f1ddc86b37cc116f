/-
  Plain functions on words of 32 bits: the digest, block by block; its words of turns.
  No program is imported here; no condition.
  Contracts of rot and turn: one of a block's turns.
  schedule's contract: the words of a block's turns.
-/
import Derived.Deep.QuietTactic
import Derived.BigQuiet
import Derived.Laws.BitsLemmas
import Derived.Test.YtnaoandleelbkaaGreatDoorZBm
import Derived.StillTailTactics
namespace Go.Proofs.YtnaoandleelbkaaGreatDoor

abbrev W32 := BitVec 32

def rotP (x : W32) (n : Nat) : W32 := (x >>> n) ||| (x <<< (32 - n))
def sm0 (x : W32) : W32 := rotP x 7 ^^^ rotP x 18 ^^^ (x >>> 3)
def sm1 (x : W32) : W32 := rotP x 17 ^^^ rotP x 19 ^^^ (x >>> 10)
def big0 (x : W32) : W32 := rotP x 2 ^^^ rotP x 13 ^^^ rotP x 22
def big1 (x : W32) : W32 := rotP x 6 ^^^ rotP x 11 ^^^ rotP x 25
def choice (e f g : W32) : W32 := (e &&& f) ^^^ (~~~e &&& g)
def major (a b c : W32) : W32 := (a &&& b) ^^^ (a &&& c) ^^^ (b &&& c)

theorem choice_or (e f g : W32) : (e &&& f) ||| (~~~e &&& g) = choice e f g := by
  unfold choice
  apply BitVec.eq_of_getLsbD_eq
  intro i hi
  simp only [BitVec.getLsbD_or, BitVec.getLsbD_and, BitVec.getLsbD_xor, BitVec.getLsbD_not, hi, decide_true, Bool.true_and]
  cases e.getLsbD i <;> cases f.getLsbD i <;> cases g.getLsbD i <;> rfl

theorem major_or (a b c : W32) : (a &&& b) ||| (a &&& c) ||| (b &&& c) = major a b c := by
  unfold major
  apply BitVec.eq_of_getLsbD_eq
  intro i hi
  simp only [BitVec.getLsbD_or, BitVec.getLsbD_and, BitVec.getLsbD_xor]
  cases a.getLsbD i <;> cases b.getLsbD i <;> cases c.getLsbD i <;> rfl

/-- The eight words. -/
structure St where
  a : W32
  b : W32
  c : W32
  d : W32
  e : W32
  f : W32
  g : W32
  h : W32

/-- One turn; its word is K's and W's sum. -/
def turnP (s : St) (w : W32) : St :=
  let t := s.h + big1 s.e + choice s.e s.f s.g + w
  let u := big0 s.a + major s.a s.b s.c
  ⟨t + u, s.a, s.b, s.c, s.d + t, s.e, s.f, s.g⟩

def addP (s t : St) : St := ⟨s.a + t.a, s.b + t.b, s.c + t.c, s.d + t.d, s.e + t.e, s.f + t.f, s.g + t.g, s.h + t.h⟩

def byteW (x : UInt8) : W32 := BitVec.ofNat 32 x.toNat
def wordP (a b c d : UInt8) : W32 := byteW a <<< 24 ||| byteW b <<< 16 ||| byteW c <<< 8 ||| byteW d

/-- Four bytes a word. -/
def wordsP : List UInt8 → List W32
  | a :: b :: c :: d :: s => wordP a b c d :: wordsP s
  | _ => []

/-- The word that comes of those that are there. -/
def nextW (l : List W32) : W32 := sm1 (l.getD (l.length - 2) 0) + l.getD (l.length - 7) 0 + sm0 (l.getD (l.length - 15) 0) + l.getD (l.length - 16) 0
def schedP (m : List W32) : Nat → List W32
  | 0 => m
  | n + 1 => schedP m n ++ [nextW (schedP m n)]

theorem schedP_length (m : List W32) (n : Nat) : (schedP m n).length = m.length + n := by
  induction n with
  | zero => rfl
  | succ n ih => rw [schedP, List.length_append, ih]; rfl

/-- The turns of the words l, from the place i on. -/
def turnsP (K : List W32) (s : St) (l : List W32) : St := (List.zipWith (· + ·) K l).foldl turnP s

def blockP (K : List W32) (s : St) (b : List UInt8) : St := addP s (turnsP K s (schedP (wordsP b) 48))

/-- Block by block of 64 bytes. -/
def blocksP (K : List W32) (s : St) (b : List UInt8) : Nat → St
  | 0 => s
  | n + 1 => blocksP K (blockP K s (b.take 64)) (b.drop 64) n

end Go.Proofs.YtnaoandleelbkaaGreatDoor

namespace Go.Proofs.YtnaoandleelbkaaGreatDoor
open Go Go.RowKit
set_option maxRecDepth 100000

/-- A word's number, as the model has it. -/
def n32 (x : W32) : Int := (x.toNat : Int)
/-- A word's value. -/
abbrev wv (x : W32) : Value := .int .u32 (n32 x)

theorem n32_lo (x : W32) : 0 ≤ n32 x := Int.natCast_nonneg _
theorem n32_hi (x : W32) : n32 x ≤ 4294967295 := by have := x.isLt; unfold n32; omega

theorem wraps_u64 (n : Int) (h₀ : 0 ≤ n) (h₁ : n < 2 ^ 64) : IntKind.u64.wrap n = n := by
  simp [IntKind.wrap, IntKind.bits, IntKind.signed]; omega
theorem wraps_u32 (n : Int) (h₀ : 0 ≤ n) (h₁ : n < 2 ^ 32) : IntKind.u32.wrap n = n := by rw [IntKind.wrap_u32]; omega
theorem and31 (n : Nat) (hn : 0 < n) (hn2 : n < 32) : bits BinOp.and IntKind.u64 (IntKind.u64.wrap (-(n : Int))) 31 = ((32 - n : Nat) : Int) := by
  have h : IntKind.u64.wrap (-(n : Int)) = 18446744073709551616 - n := by
    simp [IntKind.wrap, IntKind.bits, IntKind.signed]; omega
  have := bits_mask .u64 64 (by decide) wraps_u64 5 (by decide) (18446744073709551616 - (n : Int)) (by omega) (by omega)
  rw [h]
  refine Eq.trans this ?_
  omega

theorem bits_or32 (x y : W32) : bits BinOp.or IntKind.u32 (n32 x) (n32 y) = n32 (x ||| y) := by
  unfold n32
  rw [(bits_nat .u32 32 (by decide) wraps_u32 x.toNat y.toNat x.isLt y.isLt).2, BitVec.toNat_or]
theorem bits_and32 (x y : W32) : bits BinOp.and IntKind.u32 (n32 x) (n32 y) = n32 (x &&& y) := by
  unfold n32
  rw [(bits_nat .u32 32 (by decide) wraps_u32 x.toNat y.toNat x.isLt y.isLt).1, BitVec.toNat_and]
theorem bits_xor32 (x y : W32) : bits BinOp.xor IntKind.u32 (n32 x) (n32 y) = n32 (x ^^^ y) := by
  unfold n32
  simp only [bits, BitVec.ofInt_natCast]
  rw [show (BitVec.ofNat IntKind.u32.bits x.toNat ^^^ BitVec.ofNat IntKind.u32.bits y.toNat).toNat = (x ^^^ y).toNat from by
    show (BitVec.ofNat 32 x.toNat ^^^ BitVec.ofNat 32 y.toNat).toNat = _
    rw [BitVec.ofNat_toNat, BitVec.ofNat_toNat, BitVec.setWidth_eq, BitVec.setWidth_eq]]
  exact wraps_u32 _ (Int.natCast_nonneg _) (by have := (x ^^^ y).isLt; omega)
theorem bits_not32 (x : W32) : bits BinOp.xor IntKind.u32 IntKind.u32.max (n32 x) = n32 (~~~x) := by
  have e : IntKind.u32.max = n32 (BitVec.allOnes 32) := by decide
  rw [e, bits_xor32, BitVec.allOnes_xor]
theorem add32 (x y : W32) : (n32 x + n32 y) % 4294967296 = n32 (x + y) := by
  unfold n32
  rw [BitVec.toNat_add]; omega
theorem shl32 (x : W32) (m : Nat) : n32 x * 2 ^ m % 4294967296 = n32 (x <<< m) := by
  unfold n32
  rw [BitVec.toNat_shiftLeft, Nat.shiftLeft_eq]
  rw [show (2 : Nat) ^ 32 = 4294967296 from rfl, Int.natCast_emod, Int.natCast_mul, Int.natCast_pow]; rfl
theorem shr32 (x : W32) (m : Nat) : n32 x / 2 ^ m = n32 (x >>> m) := by
  unfold n32
  rw [BitVec.toNat_ushiftRight, Nat.shiftRight_eq_div_pow]; push_cast; rfl

theorem rotl_any (x : W32) (n : Nat) (w : World) (hn : 0 < n) (hn2 : n < 32) : Calls Tryz.prog 231 #[wv x, .int .i64 (-(n : Int))] w fun e w' => e = .returned (wv (rotP x n)) ∧ w = w' := by
  have hs := and31 n hn hn2
  obtain ⟨m, hm⟩ : ∃ m, m = 32 - n := ⟨_, rfl⟩
  rw [← hm] at hs
  have hm1 : m < 32 := by omega
  have hm0 : 0 < m := by omega
  have hx0 := n32_lo x
  have hx1 := n32_hi x
  have e1 := shl32 x m
  have e2 := shr32 x (32 - m)
  have e3 := bits_or32 (x <<< m) (x >>> (32 - m))
  have HV := Lib.hid (show rotP x n = (x <<< m) ||| (x >>> (32 - m)) by
    unfold rotP
    rw [BitVec.or_comm, ← hm, show 32 - m = n by omega])
  clear hm
  go_enter Tryz.func231, Tryz.ntmps231
  go_wp2
  go_ret
  rw [HV.out]
  exact ⟨rfl, rfl⟩

theorem rot_any (x : W32) (n : Nat) (w : World) (hn : 0 < n) (hn2 : n < 32) : Calls Tryz.prog 215 #[wv x, .int .i64 n] w fun e w' => e = .returned (wv (rotP x n)) ∧ w = w' := by
  go_enter Tryz.func215, Tryz.ntmps215
  go_wp2_with fail
  refine (rotl_any x n w hn hn2).mono ?_
  rintro e w' ⟨rfl, rfl⟩
  go_wp2
  go_ret
  exact ⟨rfl, rfl⟩

/-- The eight words' value. -/
abbrev St.v (s : St) : Value := .agg #[wv s.a, wv s.b, wv s.c, wv s.d, wv s.e, wv s.f, wv s.g, wv s.h]

theorem below_allocC (w : World) (o : Obj) : Below w.heap.size w (w.alloc o) := (Below.refl _ _).alloc (Nat.le_refl _) _

theorem post_row {R : Ending → World → Prop} {a : Act} {w : World} {g : Nat} {cs : Array Value} (hd : a.defers = []) (hp : a.tmps.getD 4 undef = .pointer (some ⟨g, 0, none⟩)) (hg : w.heap[g]? = some (.cells cs 117 (0, 0)))
    (hR : R (.returned (.agg cs)) w) (hs : cs.size = 8 := by rfl) : bodyPost Tryz.prog Tryz.f184 R .ret a w :=
  bodyPost_ret (results_cell_row (by kernel_rfl) a.tmps w g 117 cs (0, 0) _ hp hg Tryz.underlying117 rfl (by rw [hs]; kernel_rfl)) hd hR

set_option maxHeartbeats 1000000 in
theorem turn_any (s : St) (x : W32) (w : World) :
    Calls Tryz.prog 184 #[s.v, wv x] w fun e w' => e = .returned (turnP s x).v ∧ Below w.heap.size w w' := by
  have HW := Lib.hid ((below_allocC w (.cells #[wv s.a, wv s.b, wv s.c, wv s.d, wv s.e, wv s.f, wv s.g, wv s.h] 117)).trans ((below_allocC _ (.cells #[.int .u32 0, .int .u32 0, .int .u32 0, .int .u32 0, .int .u32 0, .int .u32 0, .int .u32 0, .int .u32 0] 117)).mono (by simp)))
  obtain ⟨a, b, c, d, e, f, g, h⟩ := s
  simp only at HW ⊢
  have rx := bits_xor32
  have ra := bits_and32
  have rn := bits_not32
  have rp := add32
  have hsg : IntKind.u32.signed = false := rfl
  go_enter Tryz.func184, Tryz.ntmps184
  go_wp2
  go_quiet (fail)
  go_wp2
  go_quiet (fail)
  go_wp2_with (fail)
  refine (rot_any e 6 _ (by decide) (by decide)).mono ?_
  rintro ee w' ⟨rfl, rfl⟩
  go_wp2_with (fail)
  refine (rot_any e 11 _ (by decide) (by decide)).mono ?_
  rintro ee w' ⟨rfl, rfl⟩
  go_wp2_with (fail)
  refine (rot_any e 25 _ (by decide) (by decide)).mono ?_
  rintro ee w' ⟨rfl, rfl⟩
  go_wp2_with (fail)
  refine (rot_any a 2 _ (by decide) (by decide)).mono ?_
  rintro ee w' ⟨rfl, rfl⟩
  go_wp2_with (fail)
  refine (rot_any a 13 _ (by decide) (by decide)).mono ?_
  rintro ee w' ⟨rfl, rfl⟩
  go_wp2_with (fail)
  refine (rot_any a 22 _ (by decide) (by decide)).mono ?_
  rintro ee w' ⟨rfl, rfl⟩
  go_wp2
  refine post_row rfl rfl (heap_setCell_same _ _ _ _ _ _ (heap_setCell_same _ _ _ _ _ _ (heap_setCell_same _ _ _ _ _ _ (heap_setCell_same _ _ _ _ _ _ (heap_setCell_same _ _ _ _ _ _ (heap_setCell_same _ _ _ _ _ _ (heap_setCell_same _ _ _ _ _ _ (heap_setCell_same _ _ _ _ _ _ (heap_alloc2_new w _ _))))))))) ⟨rfl, ?_⟩
  have H0 := fun k => below_drewNC HW.out k
  exact ((((((((H0 _).setCell (p := ⟨w.heap.size + 1, 0, none⟩) (by simp) _).setCell (p := ⟨w.heap.size + 1, 1, none⟩) (by simp) _).setCell (p := ⟨w.heap.size + 1, 2, none⟩) (by simp) _).setCell (p := ⟨w.heap.size + 1, 3, none⟩) (by simp) _).setCell (p := ⟨w.heap.size + 1, 4, none⟩) (by simp) _).setCell (p := ⟨w.heap.size + 1, 5, none⟩) (by simp) _).setCell (p := ⟨w.heap.size + 1, 6, none⟩) (by simp) _).setCell (p := ⟨w.heap.size + 1, 7, none⟩) (by simp) _
end Go.Proofs.YtnaoandleelbkaaGreatDoor

namespace Go.Proofs.YtnaoandleelbkaaGreatDoor
open Go Go.RowKit
set_option maxRecDepth 100000

/-- The words l, and 0s up to 64. -/
def rowW (l : List W32) : List Value := l.map wv ++ List.replicate (64 - l.length) (.int .u32 0)

theorem rowW_length {l : List W32} (h : l.length ≤ 64) : (rowW l).length = 64 := by simp [rowW]; omega
theorem rowW_get {l : List W32} {i : Nat} (h : i < l.length) : (rowW l).toArray[i]? = some (wv (l.getD i 0)) := by
  simp [rowW, List.getElem?_append_left, h]
theorem rowW_set {l : List W32} (x : W32) (h : l.length < 64) : (rowW l).toArray.setIfInBounds l.length (wv x) = (rowW (l ++ [x])).toArray := by
  apply Array.ext'
  rw [Array.toList_setIfInBounds]
  simp only [rowW, List.map_append, List.map_cons, List.map_nil, List.length_append, List.length_cons, List.length_nil]
  rw [show 64 - l.length = (64 - (l.length + 1)) + 1 by omega, List.replicate_succ]
  rw [List.set_append_right _ _ (by simp)]
  simp

theorem str_extractC (s : List UInt8) (k : Nat) : (str s).extract k s.length = str (s.drop k) := by
  apply ByteArray.ext
  apply Array.ext'
  rw [Lib.extract_data]
  exact List.take_of_length_le (by simp)

theorem run_str_index {l : List UInt8} (W : World) (k : Nat) (x : UInt8) (h : l[k]? = some x) : (Instr.index 9 (sv l) (.int .i64 (k : Int))).run Tryz.prog W = .ok (.int .u8 (x.toNat : Int)) W := by
  have h1 : k < l.length := (List.getElem?_eq_some_iff.1 h).1
  have h2 : k < (str l).size := by simpa [ByteArray.size] using h1
  have e : (str l)[k]? = some x := by
    rw [getElem?_pos (str l) k h2]
    have : (str l)[k]'h2 = l[k] := rfl
    rw [this]
    exact (List.getElem?_eq_getElem h1).symm.trans h
  simp [Instr.index, run_underlying Tryz.underlying9, asIntOf, Sem.run_bind, e]

theorem wrap_byte (x : UInt8) : IntKind.u32.wrap (x.toNat : Int) = n32 (byteW x) := by
  have h := x.toNat_lt
  rw [wraps_u32 _ (by omega) (by omega)]
  unfold n32 byteW
  rw [BitVec.toNat_ofNat, Nat.mod_eq_of_lt (by omega)]
theorem wrap_24 (x : W32) : IntKind.u32.wrap (n32 x * 16777216) = n32 (x <<< 24) := by rw [← shl32, IntKind.wrap_u32]; rfl
theorem wrap_16 (x : W32) : IntKind.u32.wrap (n32 x * 65536) = n32 (x <<< 16) := by rw [← shl32, IntKind.wrap_u32]; rfl
theorem wrap_8 (x : W32) : IntKind.u32.wrap (n32 x * 256) = n32 (x <<< 8) := by rw [← shl32, IntKind.wrap_u32]; rfl

theorem row_cell {w : World} {b i : Nat} {l : List W32} (h : w.heap[b]? = some (.cells (rowW l).toArray 192 (0, 0))) (hi : i < l.length) : w.cell? ⟨b, i, none⟩ = some (wv (l.getD i 0)) := by
  rw [cellAt h, rowW_get hi]

theorem words_take : ∀ (j : Nat) (s : List UInt8) {a b c d : UInt8} {t : List UInt8}, s.drop (4 * j) = a :: b :: c :: d :: t → (wordsP s).take (j + 1) = (wordsP s).take j ++ [wordP a b c d]
  | 0, s, a, b, c, d, t, h => by
    rw [show 4 * 0 = 0 from rfl, List.drop_zero] at h
    subst h; rfl
  | j + 1, s, a, b, c, d, t, h => by
    have h4 : 4 ≤ s.length := by
      have := congrArg List.length h
      rw [List.length_drop] at this
      simp at this; omega
    match s, h4 with
    | x :: y :: z :: u :: s, _ =>
      have h' : s.drop (4 * j) = a :: b :: c :: d :: t := by
        rw [show 4 * (j + 1) = 4 * j + 4 by omega] at h
        simpa using h
      rw [wordsP, List.take_succ_cons, words_take j s h', List.take_succ_cons]; rfl

theorem wordsP_length : ∀ s : List UInt8, (wordsP s).length = s.length / 4
  | [] => rfl
  | [_] => by simp [wordsP]
  | [_, _] => by simp [wordsP]
  | [_, _, _] => by simp [wordsP]
  | a :: b :: c :: d :: s => by
    rw [wordsP, List.length_cons, wordsP_length s]
    simp only [List.length_cons]; omega

theorem shr_3 (x : W32) : n32 x / (8 : Int) = n32 (x >>> 3) := by rw [← shr32 x 3]; rfl
theorem shr_10 (x : W32) : n32 x / (1024 : Int) = n32 (x >>> 10) := by rw [← shr32 x 10]; rfl
theorem wrap_add (x y : W32) : IntKind.u32.wrap (n32 x + n32 y) = n32 (x + y) := by rw [← add32, IntKind.wrap_u32]

theorem row_any {w : World} {b i : Nat} {l : List W32} (h : w.heap[b]? = some (.cells (rowW l).toArray 192 (0, 0))) (hl : l.length ≤ 64) (hi : i < 64) : ∃ v, w.cell? ⟨b, i, none⟩ = some v := by
  rw [cellAt h]
  have : i < (rowW l).toArray.size := by simp [rowW_length hl, hi]
  exact ⟨_, Array.getElem?_eq_getElem this⟩

theorem all_one (l : List W32) : (l.map wv).toArray.all (·.oneCell') = true := by
  simp [Value.oneCell']

theorem below_setRow {n g : Nat} {w w' : World} (h : Below n w w') (hg : n ≤ g) (A : Array Value) : Below n w (w'.setRow g A) := by
  refine ⟨h.os, h.tape, h.output, by simpa using h.size, fun k hk => ?_⟩
  rw [← h.block k hk]
  simp only [World.setRow, Array.getElem?_modify]
  rw [if_neg (by omega)]

theorem four {s : List UInt8} (h : 4 ≤ s.length) : ∃ a b c d t, s = a :: b :: c :: d :: t := by
  match s, h with
  | a :: b :: c :: d :: t, _ => exact ⟨a, b, c, d, t, rfl⟩

set_option maxHeartbeats 1000000 in
theorem sched_any (s : List UInt8) (w : World) (hs : s.length = 64) :
    Calls Tryz.prog 183 #[.string (str s)] w fun e w' => e = .returned (.agg ((schedP (wordsP s) 48).map wv).toArray) ∧ Below w.heap.size w w' := by
  go_enter Tryz.func183, Tryz.ntmps183
  go_wp2_with fail
  change Code.wp _ _ _ _ ((w.alloc (.cells (rowW []).toArray 192)).alloc (.cells (rowW []).toArray 192))
  obtain ⟨w2, hw2⟩ : ∃ w2, w2 = (w.alloc (.cells (rowW []).toArray 192)).alloc (.cells (rowW []).toArray 192) := ⟨_, rfl⟩
  rw [← hw2]
  have hb2 : Below w.heap.size w w2 := by rw [hw2]; exact (below_allocC _ _).trans ((below_allocC _ _).mono (by simp))
  have hr2 : w2.heap[w.heap.size + 1]? = some (.cells (rowW []).toArray 192 (0, 0)) := by rw [hw2]; exact heap_alloc2_new w _ _
  have ho2 : w2.heap[w.heap.size]? = some (.cells (rowW []).toArray 192 (0, 0)) := by rw [hw2]; exact heap_alloc2_old w _ _
  have HB2 := Lib.hid hb2
  have HR2 := Lib.hid hr2
  have HO2 := Lib.hid ho2
  clear hw2 hb2 hr2 ho2
  go_loopw [11] (fun i wr => ∃ j : Nat, j ≤ 16 ∧ i = .int .i64 j ∧ wr.heap[w.heap.size + 1]? = some (.cells (rowW ((wordsP s).take j)).toArray 192 (0, 0)) ∧ (∃ cs, wr.heap[w.heap.size]? = some (.cells cs 192 (0, 0)) ∧ cs.size = 64) ∧ Below w.heap.size w wr) (fun i _ => 16 - (intOf i).toNat)
  case atStart => exact ⟨0, by omega, rfl, HR2.out, ⟨_, HO2.out, rfl⟩, HB2.out⟩
  case round =>
    obtain ⟨j, hj, rfl, hr, ho, hb⟩ := hrel
    have HR := Lib.hid hr
    have HO := Lib.hid ho
    have HB := Lib.hid hb
    clear hr ho hb
    by_cases hlt : j < 16
    · have e4 : (str s).extract (4 * j) s.length = str (s.drop (4 * j)) := str_extractC s (4 * j)
      obtain ⟨x0, x1, x2, x3, t, ht⟩ := four (s := s.drop (4 * j)) (by rw [List.length_drop]; omega)
      rw [ht, hs] at e4
      have i0 : ∀ W : World, (Instr.index 9 (sv (x0 :: x1 :: x2 :: x3 :: t)) (.int .i64 0)).run Tryz.prog W = .ok (.int .u8 (x0.toNat : Int)) W := fun W => run_str_index W 0 x0 rfl
      have i1 : ∀ W : World, (Instr.index 9 (sv (x0 :: x1 :: x2 :: x3 :: t)) (.int .i64 1)).run Tryz.prog W = .ok (.int .u8 (x1.toNat : Int)) W := fun W => run_str_index W 1 x1 rfl
      have i2 : ∀ W : World, (Instr.index 9 (sv (x0 :: x1 :: x2 :: x3 :: t)) (.int .i64 2)).run Tryz.prog W = .ok (.int .u8 (x2.toNat : Int)) W := fun W => run_str_index W 2 x2 rfl
      have i3 : ∀ W : World, (Instr.index 9 (sv (x0 :: x1 :: x2 :: x3 :: t)) (.int .i64 3)).run Tryz.prog W = .ok (.int .u8 (x3.toNat : Int)) W := fun W => run_str_index W 3 x3 rfl
      obtain ⟨T, hT⟩ : ∃ T, T = sv (x0 :: x1 :: x2 :: x3 :: t) := ⟨_, rfl⟩
      have HT := Lib.hid ht
      have c1 : wr.cell? ⟨w.heap.size + 1, j, none⟩ = some ((rowW ((wordsP s).take j))[j]'(by rw [rowW_length (by rw [List.length_take]; omega)]; omega)) := by
        rw [cellAt HR.out]; simp
      have f1 : wr.frozen? ⟨w.heap.size + 1, j, none⟩ = false := freeAt HR.out j
      have E4 := Lib.hid e4
      clear ht e4
      go_wp2_with fail
      rw [E4.out]
      have r0 := wrap_byte
      have r24 := wrap_24
      have r16 := wrap_16
      have r8 := wrap_8
      have ro := bits_or32
      go_still_tail 19, (by kernel_rfl)
      clear r0 r24 r16 r8 ro i0 i1 i2 i3
      change wpList _ _ _ _ _ wr.drew
      go_wp2_with fail
      have HW := Lib.hid (words_take j s HT.out)
      have hwl : (wordsP s).length = 16 := by rw [wordsP_length, hs]
      have hset : (wr.setCell ⟨w.heap.size + 1, j, none⟩ (wv (wordP x0 x1 x2 x3))).heap[w.heap.size + 1]? = some (.cells (rowW ((wordsP s).take (j + 1))).toArray 192 (0, 0)) := by
        rw [HW.out, ← rowW_set _ (by rw [List.length_take]; omega), List.length_take, hwl, show min j 16 = j by omega]
        exact heap_setCell_same _ _ _ _ _ _ HR.out
      have HSET := Lib.hid hset
      clear hset hwl
      go_roundw
      case rel =>
        obtain ⟨cs, ho, hoc⟩ := HO.out
        refine ⟨j + 1, by omega, by go_num, HSET.out, ⟨cs, ?_, hoc⟩, ?_⟩
        · exact (heap_setCell_other wr ⟨w.heap.size + 1, j, none⟩ w.heap.size _ (by simp)).trans ho
        · exact (HB.out.setCell (p := ⟨w.heap.size + 1, j, none⟩) (by simp) _).drew
      case measure => simp [intOf]; omega
    · obtain rfl : j = 16 := by omega
      have hwl : (wordsP s).length = 16 := by rw [wordsP_length, hs]
      rw [List.take_of_length_le (by omega)] at HR
      have HWL := Lib.hid hwl
      clear hwl
      go_wp2_with fail
      rw [show (((16 : Nat)) : Int) = 16 from rfl]
      go_loopw [6] (fun i wr => ∃ j : Nat, j ≤ 48 ∧ i = .int .i64 ((j : Int) + 16) ∧ wr.heap[w.heap.size + 1]? = some (.cells (rowW (schedP (wordsP s) j)).toArray 192 (0, 0)) ∧ (∃ cs, wr.heap[w.heap.size]? = some (.cells cs 192 (0, 0)) ∧ cs.size = 64) ∧ Below w.heap.size w wr) (fun i _ => 64 - (intOf i).toNat)
      case atStart => exact ⟨0, by omega, rfl, HR.out, HO.out, HB.out⟩
      case round =>
        obtain ⟨k, hk, rfl, hr, ho, hb⟩ := hrel
        have HR3 := Lib.hid hr
        have HO3 := Lib.hid ho
        have HB3 := Lib.hid hb
        clear hr ho hb
        have hl := schedP_length (wordsP s) k
        rw [HWL.out] at hl
        have HL := Lib.hid hl
        by_cases hlt3 : k < 48
        · obtain ⟨l, hll⟩ : ∃ l, l = schedP (wordsP s) k := ⟨_, rfl⟩
          rw [← hll] at HR3 HL hl
          have g15 := row_cell HR3.out (i := k + 1) (by omega)
          have g2 := row_cell HR3.out (i := k + 14) (by omega)
          have g7 := row_cell HR3.out (i := k + 9) (by omega)
          have g16 := row_cell HR3.out (i := k) (by omega)
          obtain ⟨x15, h15⟩ : ∃ x, x = l.getD (k + 1) 0 := ⟨_, rfl⟩
          obtain ⟨x2, h2⟩ : ∃ x, x = l.getD (k + 14) 0 := ⟨_, rfl⟩
          obtain ⟨x7, h7⟩ : ∃ x, x = l.getD (k + 9) 0 := ⟨_, rfl⟩
          obtain ⟨x16, h16⟩ : ∃ x, x = l.getD k 0 := ⟨_, rfl⟩
          rw [← h15] at g15
          rw [← h2] at g2
          rw [← h7] at g7
          rw [← h16] at g16
          have HN := Lib.hid (show nextW l = sm1 x2 + x7 + sm0 x15 + x16 by
            unfold nextW
            rw [hl, show 16 + k - 2 = k + 14 by omega, show 16 + k - 7 = k + 9 by omega, show 16 + k - 15 = k + 1 by omega, show 16 + k - 16 = k by omega, h15, h2, h7, h16])
          clear h15 h2 h7 h16
          have f1 := freeAt HR3.out (k + 16)
          have HLL := Lib.hid hll
          clear hll hl
          have s15 : IntKind.i64.wrap ((k : Int) + 16 - 15) = (k : Int) + 1 := by rw [IntWalk.i64_in _ (by omega)]; omega
          have s2 : IntKind.i64.wrap ((k : Int) + 16 - 2) = (k : Int) + 14 := by rw [IntWalk.i64_in _ (by omega)]; omega
          have s7 : IntKind.i64.wrap ((k : Int) + 16 - 7) = (k : Int) + 9 := by rw [IntWalk.i64_in _ (by omega)]; omega
          have s16 : IntKind.i64.wrap ((k : Int) + 16 - 16) = (k : Int) := by rw [IntWalk.i64_in _ (by omega)]; omega
          have t1 : ((k : Int) + 1).toNat = k + 1 := by omega
          have t14 : ((k : Int) + 14).toNat = k + 14 := by omega
          have t9 : ((k : Int) + 9).toNat = k + 9 := by omega
          have t16 : ((k : Int) + 16).toNat = k + 16 := by omega
          have p1 : 0 ≤ (k : Int) + 1 := by omega
          have p14 : 0 ≤ (k : Int) + 14 := by omega
          have p9 : 0 ≤ (k : Int) + 9 := by omega
          have p16 : 0 ≤ (k : Int) + 16 := by omega
          have q1 : (k : Int) + 1 < 64 := by omega
          have q14 : (k : Int) + 14 < 64 := by omega
          have q9 : (k : Int) + 9 < 64 := by omega
          have q16 : (k : Int) + 16 < 64 := by omega
          have q0 : (k : Int) < 64 := by omega
          go_wp2_with fail
          go_quiet (fail)
          clear s15 s2
          have rx := bits_xor32
          have r3 := shr_3
          have r10 := shr_10
          go_wp2_with fail
          refine (rot_any x15 7 _ (by decide) (by decide)).mono ?_
          rintro ee w' ⟨rfl, rfl⟩
          go_wp2_with fail
          refine (rot_any x15 18 _ (by decide) (by decide)).mono ?_
          rintro ee w' ⟨rfl, rfl⟩
          go_wp2_with fail
          refine (rot_any x2 17 _ (by decide) (by decide)).mono ?_
          rintro ee w' ⟨rfl, rfl⟩
          go_wp2_with fail
          refine (rot_any x2 19 _ (by decide) (by decide)).mono ?_
          rintro ee w' ⟨rfl, rfl⟩
          go_wp2_with fail
          clear rx r3 r10
          have rp := wrap_add
          have s0 : IntKind.i64.wrap (k : Int) = (k : Int) := IntWalk.i64_in _ (by omega)
          obtain ⟨wn, hwn⟩ : ∃ wn, wn = wr.drewN nq := ⟨_, rfl⟩
          rw [← hwn]
          have d7 : wn.cell? ⟨w.heap.size + 1, k + 9, none⟩ = some (wv x7) := by rw [hwn]; exact g7
          have d16 : wn.cell? ⟨w.heap.size + 1, k, none⟩ = some (wv x16) := by rw [hwn]; exact g16
          have HRn := Lib.hid (show wn.heap[w.heap.size + 1]? = some (.cells (rowW l).toArray 192 (0, 0)) by rw [hwn]; exact HR3.out)
          have HOn := Lib.hid (show ∃ cs, wn.heap[w.heap.size]? = some (.cells cs 192 (0, 0)) ∧ cs.size = 64 by rw [hwn]; exact HO3.out)
          have HBn := Lib.hid (show Below w.heap.size w wn by rw [hwn]; exact below_drewNC HB3.out _)
          obtain ⟨vn, cn⟩ := row_any HRn.out (by rw [HL.out]; omega) (i := k + 16) (by omega)
          have fn := freeAt HRn.out (k + 16)
          clear hwn g15 g2 g7 g16 f1
          go_still_tail 14, (by kernel_rfl)
          clear s7 s16 s0 rp
          change wpList _ _ _ _ _ wn.drew
          go_wp2_with fail
          have hset : (wn.setCell ⟨w.heap.size + 1, k + 16, none⟩ (wv (sm1 x2 + x7 + sm0 x15 + x16))).heap[w.heap.size + 1]? = some (.cells (rowW (schedP (wordsP s) (k + 1))).toArray 192 (0, 0)) := by
            rw [← HN.out, schedP, ← HLL.out, ← rowW_set _ (by rw [HL.out]; omega), HL.out, Nat.add_comm 16 k]
            exact heap_setCell_same _ _ _ _ _ _ HRn.out
          have HSET := Lib.hid hset
          clear hset
          go_roundw
          case rel =>
            obtain ⟨cs, ho, hoc⟩ := HOn.out
            refine ⟨k + 1, by omega, by go_num, HSET.out, ⟨cs, ?_, hoc⟩, ?_⟩
            · exact (heap_setCell_other wn ⟨w.heap.size + 1, k + 16, none⟩ w.heap.size _ (by simp)).trans ho
            · exact (HBn.out.setCell (p := ⟨w.heap.size + 1, k + 16, none⟩) (by simp) _).drew
          case measure => simp [intOf]; omega
        · obtain rfl : k = 48 := by omega
          obtain ⟨cs, ho, hoc⟩ := HO3.out
          have hfull : rowW (schedP (wordsP s) 48) = (schedP (wordsP s) 48).map wv := by
            unfold rowW
            rw [HL.out]; simp
          rw [hfull] at HR3
          have hsz : ((schedP (wordsP s) 48).map wv).toArray.size = 64 := by simp [HL.out]
          have HS := Lib.hid hsz
          have HOC := Lib.hid hoc
          clear hl hfull hsz hoc
          have HOO := Lib.hid ho
          clear ho
          obtain ⟨A, hA⟩ : ∃ A, A = ((schedP (wordsP s) 48).map wv).toArray := ⟨_, rfl⟩
          rw [← hA] at HR3 HS
          have HA := Lib.hid hA
          clear hA
          have hi : (Tryz.prog.info? 192).map (·.size) = some A.size := by rw [HS.out]; kernel_rfl
          have HI := Lib.hid hi
          have H1 := Lib.hid (show A.all (·.oneCell') = true by rw [HA.out]; exact all_one _)
          clear hi
          go_wp2_with (first | (refine wpList_load_row rfl 192 (.tmp 3) rfl (w.heap.size + 1) rfl 192 A (0, 0) _ HR3.out Tryz.underlying192 rfl HI.out ?_; refine wpList_store_row rfl 192 (.tmp 2) (.tmp 82) rfl w.heap.size A rfl rfl 192 cs HOO.out HI.out (by rw [HS.out]; exact HOC.out) H1.out ?_))
          refine bodyPost_ret (results_cell_row (p := 2) (by kernel_rfl) _ _ w.heap.size 192 A (0, 0) _ rfl (setRow_heap wr w.heap.size cs A 192 (0, 0) HOO.out) Tryz.underlying192 rfl HI.out) rfl ⟨?_, ?_⟩
          · rw [HA.out]
          · exact below_setRow HB3.out (Nat.le_refl _) A
end Go.Proofs.YtnaoandleelbkaaGreatDoor
