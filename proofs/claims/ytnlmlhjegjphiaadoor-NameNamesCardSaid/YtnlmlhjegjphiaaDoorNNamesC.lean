/-
  The walk of NameNames.
-/
import Derived.Laws.MakeOwn
import Derived.Test.YtnlmlhjegjphiaaDoorNMatchesC
namespace Go.Proofs.YtnlmlhjegjphiaaDoor
open Go Go.RowKit
set_option maxRecDepth 100000

theorem info_byte : (Tryd.prog.info? 5).map (fun i => (i.zero, i.size, i.bytes)) = some (some (.int .u8 0), 1, 1) := by kernel_rfl

/-- A slice of bytes just made. -/
theorem run_made (n : Nat) (hn : n ≤ 1000000) (W : World) : ∃ W1, (Instr.makeSlice 40 (.int .i64 (n : Int)) (.int .i64 (n : Int))).run Tryd.prog W = .ok (.slice (some ⟨W.heap.size, 0, none⟩) n n) W1 ∧ BufAt W1 W.heap.size (List.replicate n 0) ∧ Below W.heap.size W W1 := by
  obtain ⟨i0, hi, hz0, hz1, hz2⟩ := info_parts info_byte
  have h := run_make (P := Tryd.prog) W 40 5 i0 (.int .u8 0) Tryd.underlying40 hi hz0 .i64 .i64 (n : Int) (n : Int) (by omega) (by omega) (by rw [hz2]; omega) (by omega)
  obtain ⟨M, hM⟩ : ∃ M, M = madeCells (Value.int .u8 0).cells (((n : Nat) : Int).toNat * i0.size) := ⟨_, rfl⟩
  have hMs : M.size = n := by rw [hM, size_madeCells, hz1]; simp
  have hMc : ∀ j, j < n → M[j]? = some (.int .u8 0) := fun j hj => by
    rw [hM]
    unfold madeCells
    rw [Array.getElem?_map, Array.getElem?_range, if_pos (by rw [hz1]; simpa using hj)]
    show some ((#[Value.int .u8 0] : Array Value)[j % 1]!) = _
    rw [Nat.mod_one]; rfl
  rw [← hM] at h
  refine ⟨_, by simpa using h, ⟨by rw [World.size_alloc]; exact Nat.lt_succ_self _, fun j hj => ?_, fun j hj => ?_⟩, (Below.refl _ _).alloc (Nat.le_refl _) _⟩
  · rw [List.length_replicate] at hj
    rw [cellAt (heap_alloc_new W _), hMc j hj, List.getD_eq_getElem?_getD, List.getElem?_replicate, if_pos hj]; rfl
  · exact freeAt (heap_alloc_new W _) j

/-- So many bytes, from byte k on 0. -/
theorem many_next (b : UInt8) {n k : Nat} (hk : k < n) : (List.replicate k b ++ List.replicate (n - k) 0).set k b = List.replicate (k + 1) b ++ List.replicate (n - (k + 1)) 0 := by
  obtain ⟨m, rfl⟩ : ∃ m, n = k + 1 + m := ⟨n - (k + 1), by omega⟩
  rw [List.set_append_right _ _ (by simp), show k + 1 + m - k = m + 1 by omega, show k + 1 + m - (k + 1) = m by omega, List.replicate_succ, List.length_replicate, Nat.sub_self]
  show List.replicate k b ++ (b :: List.replicate m 0) = _
  rw [List.replicate_succ', List.append_assoc]; rfl

set_option maxHeartbeats 1000000 in
theorem many_any (b : UInt8) (x : Int) (hx : x = (b.toNat : Int)) (n : Nat) (w : World) (hn : n ≤ 1000000) : Calls Tryd.prog 10 #[.int .u8 x, .int .i64 (n : Int)] w fun e w' => e = .returned (sv (List.replicate n b)) ∧ Below w.heap.size w w' := by
  obtain ⟨W1, hrun, hbuf, hbel⟩ := run_made n hn w
  have HB := Lib.hid hbuf
  have HL := Lib.hid hbel
  have HX := Lib.hid hx
  obtain ⟨R, hR⟩ : ∃ R, R = List.replicate n b := ⟨_, rfl⟩
  rw [← hR]
  have HR := Lib.hid hR
  clear hbuf hbel hx hR
  go_enter Tryd.func10, Tryd.ntmps10
  go_wp2_with fail
  go_loopw [6] (fun i wr => ∃ k : Nat, k ≤ n ∧ i = .int .i64 k ∧ BufAt wr w.heap.size (List.replicate k b ++ List.replicate (n - k) 0) ∧ Below w.heap.size w wr) (fun i _ => n - (intOf i).toNat)
  case atStart => exact ⟨0, Nat.zero_le _, rfl, by simpa using HB.out, HL.out⟩
  case round =>
    obtain ⟨k, hk, rfl, hb, hl⟩ := hrel
    have hlen : (List.replicate k b ++ List.replicate (n - k) (0 : UInt8)).length = n := by simp; omega
    by_cases hlt : k < n
    · have hc := hb.cell (j := k) (by omega)
      have hf : wr.frozen? ⟨w.heap.size, k, none⟩ = false := hb.free (by omega)
      have HS := Lib.hid (hb.set (k := k) (by omega) b HX.out)
      have HM := Lib.hid (many_next b hlt)
      have HL2 := Lib.hid (hl.setCell (p := ⟨w.heap.size, k, none⟩) (Nat.le_refl _) (.int .u8 x))
      clear hb hl hlen
      go_wp2_with fail
      go_roundw
      case rel => exact ⟨k + 1, by omega, by go_num, by rw [← HM.out]; exact HS.out, HL2.out⟩
      case measure => simp [intOf]; omega
    · obtain rfl : k = n := by omega
      rw [Nat.sub_self, List.replicate_zero, List.append_nil, ← HR.out] at hb
      have hback := run_text hb k k (by rw [HR.out]; simp)
      have HL2 := Lib.hid hl
      clear hb hl hlen
      go_wp2_with fail
      go_ret
      exact ⟨rfl, HL2.out⟩

/-- A label as long as may be, what is shorter, a name as long as may be. -/
def labA : List UInt8 := List.replicate 63 97
def labB : List UInt8 := List.replicate 61 98
def longN : List UInt8 := labA ++ 46 :: (labA ++ 46 :: (labA ++ 46 :: labB))

theorem ln_len : longN.length = 253 := by decide +kernel
theorem la_len : labA.length = 63 := by decide +kernel
theorem lb_len : labB.length = 61 := by decide +kernel
theorem ln1 : mayL longN = true := by decide +kernel
theorem ln2 : mayL (longN ++ [98]) = false := by decide +kernel
theorem ln3 : mayL labA = true := by decide +kernel
theorem ln4 : mayL (labA ++ [97]) = false := by decide +kernel
theorem ln5 : mayL ([99, 46] ++ longN) = false := by decide +kernel
theorem ln6 : foldL [97, 46, 46] = none := by decide +kernel
theorem ln7 : foldL [46] = none := by decide +kernel
theorem ln8 : foldL [97, 95, 98] = none := by decide +kernel
theorem ln9 : foldL (longN ++ [46]) = some longN := by decide +kernel
theorem ln10 : underL [] longN = some longN := by decide +kernel
theorem ln11 : underL [120] longN = none := by decide +kernel
theorem ln12 : parentL [97, 46, 98, 46, 99] = some [98, 46, 99] := by decide +kernel
theorem ln13 : parentL [97] = none := by decide +kernel
theorem ln14 : patL ([42, 46] ++ longN) = true := by decide +kernel
theorem ln15 : matchL [42, 46, 97] [42, 46, 97] = false := by decide +kernel
theorem ln16 : Lib.compareBytes [97] [97, 46, 98] = -1 := by decide +kernel
theorem ln17 : Lib.compareBytes [98] [97, 46, 98] = 1 := by decide +kernel
theorem ln18 : Lib.compareBytes [] [] = 0 := by decide +kernel
def noneL : List (List UInt8) := [[46], [97, 46], [46, 97], [65], [97, 95, 98], [97, 32, 98], [42], [42, 46, 97], [97, 46, 42], [97, 46, 45], [45, 45], [49], [97, 46, 48, 48], [128], [97, 0], [97, 44, 98], [97, 46, 98, 46, 45, 99]]
def goodL : List (List UInt8) := [[97], [49, 46, 97], [97, 45, 98], [97, 45, 45, 98], [49, 97], [48, 45, 48, 46, 120], [97, 46, 98, 46, 99, 46, 100, 46, 101], [97, 49]]
theorem none_all : ∀ x ∈ noneL, mayL x = false ∧ x.length ≤ 1000000 := by decide +kernel
theorem good_all : ∀ x ∈ goodL, foldL (x ++ [46]) = some x ∧ mayL x = true ∧ patL x = true ∧ patL ([42, 46] ++ x) = true ∧ patL ([42, 46] ++ x ++ [46]) = false ∧ patL ([42, 46, 42, 46] ++ x) = false ∧ x.length ≤ 1000 := by decide +kernel
theorem long_eq : str labA ++ (⟨#[46]⟩ : ByteArray) ++ str labA ++ (⟨#[46]⟩ : ByteArray) ++ str labA ++ (⟨#[46]⟩ : ByteArray) ++ str labB = str longN := by
  apply ByteArray.ext
  simp [str, ByteArray.data_append, longN]
/-- A literal of texts. -/
def LitAt (w : World) (g : Nat) (xs : List (List UInt8)) : Prop := w.heap[g]? = some (.cells (xs.map sv).toArray 9 (0, 0))
theorem LitAt.step {w w' : World} {g : Nat} {xs : List (List UInt8)} (h : LitAt w g xs) (hb : Below w.heap.size w w') : LitAt w' g xs := (hb.block g (lt_of_blk h)).trans h
/-- A contract, with the step that it makes. -/
theorem bls {w0 w : World} {f : Nat} {args : Array Value} {α : Type} {V : α → Value} {x y : α} (h : Calls Tryd.prog f args w fun e w' => e = .returned (V x) ∧ Below w.heap.size w w') (e : x = y) (hb : BL w0 w) :
    Calls Tryd.prog f args w fun e w' => e = .returned (V y) ∧ Below w.heap.size w w' ∧ BL w0 w' := by
  subst e
  exact h.mono fun _ _ ⟨h1, h2⟩ => ⟨h1, h2, hb.step h2⟩
theorem app_bytes (x y : List UInt8) : str x ++ (⟨y.toArray⟩ : ByteArray) = str (x ++ y) := str_append x y
theorem pre_bytes (x y : List UInt8) : (⟨y.toArray⟩ : ByteArray) ++ str x = str (y ++ x) := str_append y x

set_option maxHeartbeats 16000000 in
theorem nameNames_walk (w : World) (hM : ML w) : Calls Tryd.prog 3 #[] w fun e w' => e = .returned (.bool true) ∧ Below w.heap.size w w' := by
  have B0 := BL.start hM
  have la := la_len
  have lb := lb_len
  have ln := ln_len
  have HLA := Lib.hid la
  have HLB := Lib.hid lb
  have HLN := Lib.hid ln
  have hla : labA.length ≤ 63 := by omega
  have hlb : labB.length ≤ 61 := by omega
  have hln : longN.length ≤ 253 := by omega
  have eln : ((longN.length : Int) != 253) = false := by rw [ln]; rfl
  clear hM la lb ln
  go_enter Tryd.func3, Tryd.ntmps3
  go_wp2_with fail
  refine (bl (many_any 97 97 rfl 63 w (by omega)) B0).mono ?_
  rintro e w1 ⟨rfl, B1⟩
  rw [show List.replicate 63 97 = labA from rfl]
  go_wp2_with fail
  refine (bl (many_any 98 98 rfl 61 w1 (by omega)) B1).mono ?_
  rintro e w2 ⟨rfl, B2⟩
  rw [show List.replicate 61 98 = labB from rfl]
  go_wp2_with fail
  rw [long_eq]
  refine (awake_bl _ B2).mono ?_
  rintro e w3 ⟨rfl, B3⟩
  go_wp2_with fail
  refine (bl_may ln1 (by omega) B3).mono ?_
  rintro e w4 ⟨rfl, B4⟩
  go_wp2_with fail
  rw [app_bytes longN [98]]
  refine (bl_may ln2 (by simp; omega) B4).mono ?_
  rintro e w5 ⟨rfl, B5⟩
  go_wp2_with fail
  refine (bl_may ln3 (by omega) B5).mono ?_
  rintro e w6 ⟨rfl, B6⟩
  go_wp2_with fail
  rw [app_bytes labA [97]]
  refine (bl_may ln4 (by simp; omega) B6).mono ?_
  rintro e w7 ⟨rfl, B7⟩
  go_wp2_with fail
  rw [pre_bytes longN [99, 46]]
  refine (bl_may ln5 (by simp; omega) B7).mono ?_
  rintro e w8 ⟨rfl, B8⟩
  go_wp2_with fail
  have hw' : w8.alloc (.cells #[.string { data := #[46] }, .string { data := #[97, 46] }, .string { data := #[46, 97] }, .string { data := #[65] }, .string { data := #[97, 95, 98] }, .string { data := #[97, 32, 98] }, .string { data := #[42] }, .string { data := #[42, 46, 97] }, .string { data := #[97, 46, 42] }, .string { data := #[97, 46, 45] }, .string { data := #[45, 45] }, .string { data := #[49] }, .string { data := #[97, 46, 48, 48] }, .string { data := #[128] }, .string { data := #[97, 0] }, .string { data := #[97, 44, 98] }, .string { data := #[97, 46, 98, 46, 45, 99] }] 9) = w8.alloc (.cells (noneL.map sv).toArray 9) := rfl
  rw [hw']
  obtain ⟨wa8, hwa⟩ : ∃ wa, wa = w8.alloc (.cells (noneL.map sv).toArray 9) := ⟨_, rfl⟩
  rw [← hwa]
  obtain ⟨g8, hg⟩ : ∃ g, g = w8.heap.size := ⟨_, rfl⟩
  rw [← hg]
  have BA : BL w wa8 := by rw [hwa]; exact B8.alloc _
  have HG := Lib.hid (show LitAt wa8 g8 noneL by rw [hwa, hg]; exact heap_alloc_new _ _)
  clear hw' hwa hg
  go_loopw [78] (fun i wr => ∃ k : Nat, k ≤ 17 ∧ i = .int .i64 k ∧ LitAt wr g8 noneL ∧ BL w wr) (fun i _ => 17 - (intOf i).toNat)
  case atStart => exact ⟨0, by omega, rfl, HG.out, BA⟩
  case round =>
    obtain ⟨k, hk, rfl, hr, B9⟩ := hrel
    have HR9 := Lib.hid hr
    clear hr
    by_cases hlt : k < 17
    · have hc := lit_cell HR9.out (k := k) (by exact hlt)
      have hx := none_all _ (getD_mem (xs := noneL) (k := k) (by exact hlt))
      obtain ⟨x, hxx⟩ : ∃ x, x = noneL.getD k [] := ⟨_, rfl⟩
      rw [← hxx] at hc hx
      have HX := Lib.hid hx
      clear hx hxx
      have hxl : x.length ≤ 1000000 := HX.out.2
      have HP := Lib.hid (parent_not HX.out.1)
      have HU := Lib.hid (show underL [120, 46] x = none by unfold underL; rw [HX.out.1]; rfl)
      have HLS := Lib.hid (show labelsL x = [] by unfold labelsL; rw [HX.out.1]; rfl)
      have HM1 := Lib.hid (show matchL x x = false by unfold matchL; rw [HX.out.1]; rfl)
      have HM2 := Lib.hid (show matchL [97] x = false by unfold matchL; rw [HX.out.1]; rfl)
      go_wp2_with fail
      refine (bls (V := optV) (parent_any x _ hxl B9.ml) HP.out B9).mono ?_
      rintro e w10 ⟨rfl, hb10, B10⟩
      have HR10 := Lib.hid (LitAt.step HR9.out hb10)
      clear hb10
      unfold optV
      go_wp2_with fail
      refine (bls (V := optV) (under_any [120, 46] x _ (by simp) hxl B10.ml) HU.out B10).mono ?_
      rintro e w11 ⟨rfl, hb11, B11⟩
      have HR11 := Lib.hid (LitAt.step HR10.out hb11)
      clear hb11
      unfold optV
      go_wp2_with fail
      refine (bls (V := .bool) (may_any x _ hxl B11.ml) HX.out.1 B11).mono ?_
      rintro e w12 ⟨rfl, hb12, B12⟩
      have HR12 := Lib.hid (LitAt.step HR11.out hb12)
      clear hb12
      go_wp2_with fail
      refine (bl_labels hxl B12).mono ?_
      rintro e w13 ⟨v, rfl, hg, B13⟩
      have HR13 := Lib.hid (LitAt.step HR12.out hg.1)
      rw [HLS.out] at hg
      obtain ⟨A, c, rfl⟩ := hg.form
      clear hg
      go_wp2_with fail
      refine (bls (V := .bool) (match_any x x _ hxl hxl B13.ml) HM1.out B13).mono ?_
      rintro e w14 ⟨rfl, hb14, B14⟩
      have HR14 := Lib.hid (LitAt.step HR13.out hb14)
      clear hb14
      go_wp2_with fail
      refine (bls (V := .bool) (match_any [97] x _ (by simp) hxl B14.ml) HM2.out B14).mono ?_
      rintro e w15 ⟨rfl, hb15, B15⟩
      have HR15 := Lib.hid (LitAt.step HR14.out hb15)
      clear hb15
      clear hc
      go_wp2_with fail
      go_roundw
      case rel => exact ⟨k + 1, by omega, by go_num, HR15.out, B15⟩
      case measure => simp [intOf]; omega
    · obtain rfl : k = 17 := by omega
      obtain ⟨wz9, hwz⟩ : ∃ wz, wz = wr := ⟨_, rfl⟩
      rw [← hwz] at B9 ⊢
      have B16 := B9
      clear hwz B9
      obtain ⟨w16, hwn⟩ : ∃ wn, wn = wz9 := ⟨_, rfl⟩
      rw [← hwn] at B16 ⊢
      clear hwn
      go_wp2_with fail
      have hw' : w16.alloc (.cells #[.string { data := #[97] }, .string { data := #[49, 46, 97] }, .string { data := #[97, 45, 98] }, .string { data := #[97, 45, 45, 98] }, .string { data := #[49, 97] }, .string { data := #[48, 45, 48, 46, 120] }, .string { data := #[97, 46, 98, 46, 99, 46, 100, 46, 101] }, .string { data := #[97, 49] }] 9) = w16.alloc (.cells (goodL.map sv).toArray 9) := rfl
      rw [hw']
      obtain ⟨wa16, hwa⟩ : ∃ wa, wa = w16.alloc (.cells (goodL.map sv).toArray 9) := ⟨_, rfl⟩
      rw [← hwa]
      obtain ⟨g16, hg⟩ : ∃ g, g = w16.heap.size := ⟨_, rfl⟩
      rw [← hg]
      have BA : BL w wa16 := by rw [hwa]; exact B16.alloc _
      have HG := Lib.hid (show LitAt wa16 g16 goodL by rw [hwa, hg]; exact heap_alloc_new _ _)
      clear hw' hwa hg
      rw [show (((17 : Nat)) : Int) = 17 from rfl]
      go_loopw [126] (fun i wr => ∃ k : Nat, k ≤ 8 ∧ i = .int .i64 k ∧ LitAt wr g16 goodL ∧ BL w wr) (fun i _ => 8 - (intOf i).toNat)
      case atStart => exact ⟨0, by omega, rfl, HG.out, BA⟩
      case round =>
        obtain ⟨k, hk, rfl, hr, B17⟩ := hrel
        have HR17 := Lib.hid hr
        clear hr
        by_cases hlt : k < 8
        · have hc := lit_cell HR17.out (k := k) (by exact hlt)
          have hx := good_all _ (getD_mem (xs := goodL) (k := k) (by exact hlt))
          obtain ⟨x, hxx⟩ : ∃ x, x = goodL.getD k [] := ⟨_, rfl⟩
          rw [← hxx] at hc hx
          have HX := Lib.hid hx
          clear hx hxx
          have hxl : x.length ≤ 1000 := HX.out.2.2.2.2.2.2
          have HM := Lib.hid (show matchL x x = true by rw [match_self]; exact HX.out.2.1)
          go_wp2_with fail
          rw [app_bytes x [46]]
          refine (bls (V := foldV) (fold_any _ _ (by simp; omega) B17.ml) HX.out.1 B17).mono ?_
          rintro e w18 ⟨rfl, hb18, B18⟩
          have HR18 := Lib.hid (LitAt.step HR17.out hb18)
          clear hb18
          unfold foldV
          go_wp2_with fail
          refine (bls (V := .bool) (may_any x _ (by omega) B18.ml) HX.out.2.1 B18).mono ?_
          rintro e w19 ⟨rfl, hb19, B19⟩
          have HR19 := Lib.hid (LitAt.step HR18.out hb19)
          clear hb19
          go_wp2_with fail
          refine (bls (V := .bool) (match_any x x _ (by omega) (by omega) B19.ml) HM.out B19).mono ?_
          rintro e w20 ⟨rfl, hb20, B20⟩
          have HR20 := Lib.hid (LitAt.step HR19.out hb20)
          clear hb20
          go_wp2_with fail
          refine (bls (V := .bool) (pattern_any x _ (by omega) B20.ml) HX.out.2.2.1 B20).mono ?_
          rintro e w21 ⟨rfl, hb21, B21⟩
          have HR21 := Lib.hid (LitAt.step HR20.out hb21)
          clear hb21
          go_wp2_with fail
          rw [pre_bytes x [42, 46]]
          refine (bls (V := .bool) (pattern_any _ _ (by simp; omega) B21.ml) HX.out.2.2.2.1 B21).mono ?_
          rintro e w22 ⟨rfl, hb22, B22⟩
          have HR22 := Lib.hid (LitAt.step HR21.out hb22)
          clear hb22
          go_wp2_with fail
          rw [pre_bytes x [42, 46], app_bytes ([42, 46] ++ x) [46]]
          refine (bls (V := .bool) (pattern_any _ _ (by simp; omega) B22.ml) HX.out.2.2.2.2.1 B22).mono ?_
          rintro e w23 ⟨rfl, hb23, B23⟩
          have HR23 := Lib.hid (LitAt.step HR22.out hb23)
          clear hb23
          go_wp2_with fail
          rw [pre_bytes x [42, 46, 42, 46]]
          refine (bls (V := .bool) (pattern_any _ _ (by simp; omega) B23.ml) HX.out.2.2.2.2.2.1 B23).mono ?_
          rintro e w24 ⟨rfl, hb24, B24⟩
          have HR24 := Lib.hid (LitAt.step HR23.out hb24)
          clear hb24
          clear hc
          go_wp2_with fail
          go_roundw
          case rel => exact ⟨k + 1, by omega, by go_num, HR24.out, B24⟩
          case measure => simp [intOf]; omega
        · obtain rfl : k = 8 := by omega
          obtain ⟨wz17, hwz⟩ : ∃ wz, wz = wr := ⟨_, rfl⟩
          rw [← hwz] at B17 ⊢
          have B25 := B17
          clear hwz B17
          go_wp2_with fail
          refine (bl_fold ln6 (by decide) B25).mono ?_
          rintro e w26 ⟨rfl, B26⟩
          unfold foldV
          go_wp2_with fail
          refine (bl_fold ln7 (by decide) B26).mono ?_
          rintro e w27 ⟨rfl, B27⟩
          unfold foldV
          go_wp2_with fail
          refine (bl_fold ln8 (by decide) B27).mono ?_
          rintro e w28 ⟨rfl, B28⟩
          unfold foldV
          go_wp2_with fail
          rw [app_bytes longN [46]]
          refine (bl_fold ln9 (by simp; omega) B28).mono ?_
          rintro e w29 ⟨rfl, B29⟩
          unfold foldV
          go_wp2_with fail
          refine (bl_under ln10 (by simp) (by omega) B29).mono ?_
          rintro e w30 ⟨rfl, B30⟩
          unfold optV
          go_wp2_with fail
          refine (bl_under ln11 (by simp) (by omega) B30).mono ?_
          rintro e w31 ⟨rfl, B31⟩
          unfold optV
          go_wp2_with fail
          refine (bl_parent ln12 (by decide) B31).mono ?_
          rintro e w32 ⟨rfl, B32⟩
          unfold optV
          go_wp2_with fail
          refine (bl_parent ln13 (by decide) B32).mono ?_
          rintro e w33 ⟨rfl, B33⟩
          unfold optV
          go_wp2_with fail
          rw [pre_bytes longN [42, 46]]
          refine (bl_pattern ln14 (by simp; omega) B33).mono ?_
          rintro e w34 ⟨rfl, B34⟩
          go_wp2_with fail
          refine (bl_match ln15 (by decide) (by decide) B34).mono ?_
          rintro e w35 ⟨rfl, B35⟩
          go_wp2_with fail
          refine (bl_compare ln16 B35).mono ?_
          rintro e w36 ⟨rfl, B36⟩
          go_wp2_with fail
          refine (bl_compare ln17 B36).mono ?_
          rintro e w37 ⟨rfl, B37⟩
          go_wp2_with fail
          refine (bl_compare ln18 B37).mono ?_
          rintro e w38 ⟨rfl, B38⟩
          have HB := Lib.hid B38.below
          go_wp2_with fail
          go_ret
          exact ⟨rfl, HB.out⟩
end Go.Proofs.YtnlmlhjegjphiaaDoor
