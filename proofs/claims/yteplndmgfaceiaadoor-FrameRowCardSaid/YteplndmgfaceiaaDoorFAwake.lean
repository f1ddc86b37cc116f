/-
  The laws' own awake: the examples.
-/
import Derived.Test.YteplndmgfaceiaaDoorFMany
import Derived.Test.YteplndmgfaceiaaDoorFBack
import Derived.Test.YteplndmgfaceiaaDoorFJoin
namespace Go.Proofs.YteplndmgfaceiaaDoor
set_option linter.unusedSimpArgs false
set_option linter.unusedVariables false
open Go Go.RowKit
set_option maxRecDepth 100000

def aX : List UInt8 := List.replicate 107 120
def aL : List (List UInt8) := rowL 1 5 (recL aX) 2
def aS0 : List UInt8 := secL 1 5 (recL aX) 0
def aS1 : List UInt8 := secL 1 5 (recL aX) 1
theorem aX_len : aX.length = 107 := by simp [aX]
theorem aL_eq : aL = [aS0, aS1] := rfl
theorem aSplE : splE 1 5 aX.length = 0 := splE_ok.2 ⟨by decide, by rw [aX_len]; decide⟩
theorem aSplL : splL 1 5 aX = aL := by
  rw [splL, if_pos aSplE]
  rfl
theorem aS0_len : aS0.length = 128 := frL_length (chL_length _ _)
theorem aS1_len : aS1.length = 128 := frL_length (chL_length _ _)
theorem aJoin : joinB aL 1 5 = true ∧ joinT aL 1 5 = aX ∧ joinN aL 1 5 = 2 := by
  have := join_back (a := 1) (p := 5) (s := aX) (rest := []) (by omega) (by rw [aX_len]; decide)
  rw [List.append_nil, show rowL 1 5 (recL aX) (manyN aX.length) = aL from rfl] at this
  refine ⟨joinB_iff.2 this.1, this.2.1, ?_⟩
  have h := this.2.2
  rw [aX_len] at h
  exact h
theorem aS0_is : isB aS0 = true ∧ agL aS0 = 1 ∧ plL aS0 = 5 := ⟨is_frL (by omega) (by omega) (chL_length _ _), ag_frL (by omega) (by omega) (chL_length _ _), pl_frL (by omega) (by omega) (chL_length _ _)⟩
theorem aS1_is : isB aS1 = true ∧ agL aS1 = 1 ∧ plL aS1 = 6 := ⟨is_frL (by omega) (by omega) (chL_length _ _), ag_frL (by omega) (by omega) (chL_length _ _), pl_frL (by omega) (by omega) (chL_length _ _)⟩
theorem aNo1 : joinB aL 2 5 = false ∧ joinT aL 2 5 = [] ∧ joinN aL 2 5 = 0 := joinB_false (not_first (by
  obtain ⟨h1, h2, h3⟩ := aS0_is
  rw [aL_eq]
  simp [partB, h1, h2, h3]))
theorem aNo2 : joinB aL 1 6 = false ∧ joinT aL 1 6 = [] ∧ joinN aL 1 6 = 0 := joinB_false (not_first (by
  obtain ⟨h1, h2, h3⟩ := aS0_is
  rw [aL_eq]
  simp [partB, h1, h2, h3]))
theorem aL_le : ∀ x ∈ aL, x.length ≤ 9223372036854775807 := by
  rw [aL_eq]
  intro x hx
  simp only [List.mem_cons, List.not_mem_nil, or_false] at hx
  rcases hx with rfl | rfl
  · rw [aS0_len]; omega
  · rw [aS1_len]; omega
theorem aCut : (aS0.take 14).drop 8 = [2, 0, 107, 0, 0, 0] := by decide +kernel
theorem aPut : putL 1 0 [97, 98] = [1] ++ List.replicate 7 0 ++ [97, 98] ++ List.replicate 110 0 ++ ([1] ++ List.replicate 7 0) := by decide +kernel
theorem aPutE : putE 1 0 2 = 0 := by decide
theorem sizeL (l : List UInt8) : (str l).size = l.length := by show l.toArray.size = _; simp

set_option maxHeartbeats 4000000 in
theorem awake_any (w : World) : Calls Tryd.prog 9 #[] w fun e w' => e = .returned (.bool true) ∧ Below w.heap.size w w' := by
  obtain ⟨P, hP⟩ : ∃ P, P = putL 1 0 [97, 98] := ⟨_, rfl⟩
  obtain ⟨Z7, hZ7⟩ : ∃ Z, Z = List.replicate 7 (0 : UInt8) := ⟨_, rfl⟩
  obtain ⟨ZZ, hZZ⟩ : ∃ Z, Z = List.replicate 110 (0 : UInt8) := ⟨_, rfl⟩
  obtain ⟨S, hS⟩ : ∃ Z, Z = [1] ++ Z7 := ⟨_, rfl⟩
  obtain ⟨S2, hS2⟩ : ∃ Z, Z = S ++ [97, 98] := ⟨_, rfl⟩
  obtain ⟨S3, hS3⟩ : ∃ Z, Z = S2 ++ ZZ := ⟨_, rfl⟩
  have hPe : P = S3 ++ S := by rw [hP, hS3, hS2, hS, hZ7, hZZ]; exact aPut
  have PU : ∀ W, Calls Tryd.prog 10 #[.int .i64 1, .int .i64 0, .string ⟨#[97, 98]⟩] W fun e w' => e = .returned (.tuple #[sv P, .int .i64 0]) ∧ Below W.heap.size W w' := fun W => by
    have := @put_top W 1 0 [97, 98] (by decide)
    rw [← hP, show putE 1 0 ([97, 98] : List UInt8).length = 0 from aPutE] at this
    exact this
  have M7 : ∀ W, Calls Tryd.prog 23 #[.int .u8 0, .int .i64 7] W fun e w' => e = .returned (sv Z7) ∧ Below W.heap.size W w' := fun W => by
    have := @many_any W 0 7 (by omega)
    rw [← hZ7] at this
    exact this
  have MZ : ∀ W, Calls Tryd.prog 23 #[.int .u8 0, .int .i64 110] W fun e w' => e = .returned (sv ZZ) ∧ Below W.heap.size W w' := fun W => by
    have := @many_any W 0 110 (by omega)
    rw [← hZZ] at this
    exact this
  have MX : ∀ W, Calls Tryd.prog 23 #[.int .u8 120, .int .i64 107] W fun e w' => e = .returned (sv aX) ∧ Below W.heap.size W w' := fun W => by
    have := @many_any W 120 107 (by omega)
    rw [show List.replicate 107 (120 : UInt8) = aX from rfl] at this
    exact this
  have N0 : ∀ W, Calls Tryd.prog 19 #[.int .i64 0] W fun e w' => e = .returned (.int .i64 1) ∧ W = w' := fun W => @many_top W 0 (by omega) (by omega)
  have N1 : ∀ W, Calls Tryd.prog 19 #[.int .i64 106] W fun e w' => e = .returned (.int .i64 1) ∧ W = w' := fun W => @many_top W 106 (by omega) (by omega)
  have N2 : ∀ W, Calls Tryd.prog 19 #[.int .i64 107] W fun e w' => e = .returned (.int .i64 2) ∧ W = w' := fun W => @many_top W 107 (by omega) (by omega)
  have SP := fun W => @split_any W 1 5 aX (by rw [aX_len]; omega)
  have l7 : Z7.length = 7 := by rw [hZ7]; simp
  have lZ : ZZ.length = 110 := by rw [hZZ]; simp
  have lS : S.length = 8 := by rw [hS]; simp [l7]
  have lS2 : S2.length = 10 := by rw [hS2]; simp [lS]
  have lS3 : S3.length = 120 := by rw [hS3]; simp [lS2, lZ]
  have z7 : (str Z7).size = 7 := by rw [sizeL, l7]
  have zZ : (str ZZ).size = 110 := by rw [sizeL, lZ]
  have zS : (str S).size = 8 := by rw [sizeL, lS]
  have zS2 : (str S2).size = 10 := by rw [sizeL, lS2]
  have zS3 : (str S3).size = 120 := by rw [sizeL, lS3]
  have e1 : (⟨#[1]⟩ : ByteArray) ++ str Z7 = str S := by rw [hS]; exact str_append [1] Z7
  have e2 : str S ++ (⟨#[97, 98]⟩ : ByteArray) = str S2 := by rw [hS2]; exact str_append S [97, 98]
  have e3 : str S2 ++ str ZZ = str S3 := by rw [hS3]; exact str_append _ _
  have e4 : str S3 ++ str S = str P := by rw [hPe]; exact str_append _ _
  clear hPe hS3 hS2 hS hZZ hZ7 hP l7 lZ lS lS2 lS3
  have HSP : ∀ W, Calls Tryd.prog 16 #[.int .i64 1, .int .i64 5, sv aX] W fun e w' => ∃ b o c, e = .returned (.tuple #[.slice (some ⟨b, o, none⟩) 2 c, .int .i64 0]) ∧ Tx w' (some ⟨b, o, none⟩) aL ∧ Below W.heap.size W w' := fun W => (SP W).mono fun e w' ⟨A, c, h1, h2, h3, h4, h5⟩ => by
    rw [aSplL, aSplE] at h1
    rw [aSplL] at h2
    obtain ⟨b, o, rfl, _⟩ := h2.cell (k := 0) (by rw [aL_eq]; decide)
    exact ⟨b, o, c, h1, h2, h5⟩
  clear SP
  have HJ : ∀ W b o c, Tx W (some ⟨b, o, none⟩) aL → Calls Tryd.prog 21 #[.slice (some ⟨b, o, none⟩) 2 c, .int .i64 1, .int .i64 5] W fun e w' => e = .returned (.tuple #[sv aX, .int .i64 2, .bool true]) ∧ Below W.heap.size W w' := fun W b o c h =>
    (join_any aL (some ⟨b, o, none⟩) c 1 5 h aL_le (by decide) (by omega) (by omega)).mono fun e w' ⟨h1, h2⟩ => by
      obtain ⟨q1, q2, q3⟩ := aJoin
      rw [q1, q2, q3] at h1
      exact ⟨h1, h2⟩
  have HJ2 : ∀ W b o c, Tx W (some ⟨b, o, none⟩) aL → Calls Tryd.prog 21 #[.slice (some ⟨b, o, none⟩) 2 c, .int .i64 2, .int .i64 5] W fun e w' => e = .returned (.tuple #[.string ⟨#[]⟩, .int .i64 0, .bool false]) ∧ Below W.heap.size W w' := fun W b o c h =>
    (join_any aL (some ⟨b, o, none⟩) c 2 5 h aL_le (by decide) (by omega) (by omega)).mono fun e w' ⟨h1, h2⟩ => by
      obtain ⟨q1, q2, q3⟩ := aNo1
      rw [q1, q2, q3] at h1
      exact ⟨h1, h2⟩
  have HJ3 : ∀ W b o c, Tx W (some ⟨b, o, none⟩) aL → Calls Tryd.prog 21 #[.slice (some ⟨b, o, none⟩) 2 c, .int .i64 1, .int .i64 6] W fun e w' => e = .returned (.tuple #[.string ⟨#[]⟩, .int .i64 0, .bool false]) ∧ Below W.heap.size W w' := fun W b o c h =>
    (join_any aL (some ⟨b, o, none⟩) c 1 6 h aL_le (by decide) (by omega) (by omega)).mono fun e w' ⟨h1, h2⟩ => by
      obtain ⟨q1, q2, q3⟩ := aNo2
      rw [q1, q2, q3] at h1
      exact ⟨h1, h2⟩
  obtain ⟨S1, hS1⟩ : ∃ S, S = aS1 := ⟨_, rfl⟩
  obtain ⟨S0, hS0⟩ : ∃ S, S = aS0 := ⟨_, rfl⟩
  obtain ⟨D1, hD1⟩ : ∃ S, S = bodL S1 := ⟨_, rfl⟩
  have GE : ∀ W, Calls Tryd.prog 12 #[sv S1] W fun e w' => e = .returned (.tuple #[.int .i64 1, .int .i64 6, sv D1, .bool true]) ∧ Below W.heap.size W w' := fun W => by
    have := @get_any W S1 (by rw [hS1, aS1_len]; omega)
    rw [← hD1] at this
    rw [hS1] at this ⊢
    obtain ⟨q1, q2, q3⟩ := aS1_is
    rw [q1, q2, q3] at this
    exact this
  have CE : ∀ W b o, Tx W (some ⟨b, o, none⟩) aL → W.cell? ⟨b, o, none⟩ = some (sv S0) ∧ W.cell? ⟨b, o + 1, none⟩ = some (sv S1) := fun W b o h => by
    obtain ⟨b', o', e, h0⟩ := h.cell (k := 0) (by rw [aL_eq]; decide)
    obtain ⟨b2, o2, e2, h1⟩ := h.cell (k := 1) (by rw [aL_eq]; decide)
    simp only [Option.some.injEq, Addr.mk.injEq, and_true] at e e2
    obtain ⟨rfl, rfl⟩ := e
    obtain ⟨rfl, rfl⟩ := e2
    rw [hS0, hS1]
    exact ⟨h0, h1⟩
  have s0z : (str S0).size = 128 := by rw [sizeL, hS0, aS0_len]
  have s0x : (str S0).extract 8 14 = ⟨#[2, 0, 107, 0, 0, 0]⟩ := by rw [str_extract, hS0, aCut]
  have HCE := Lib.hid CE
  clear hS1 hS0 hD1 CE
  generalize aX = X at MX HSP HJ
  generalize aL = L at HSP HJ HJ2 HJ3 HCE
  go_enter Tryd.func9, Tryd.ntmps9
  go_wp2_with (first
    | (go_at_call 10; with_reducible refine (PU _).mono ?_; rintro e w1 ⟨rfl, hb1⟩)
    | (go_at_call 23; with_reducible refine (M7 _).mono ?_; rintro e w2 ⟨rfl, hb2⟩)
    | (go_at_call 23; with_reducible refine (MX _).mono ?_; rintro e w3 ⟨rfl, hb3⟩)
    | (go_at_call 16; with_reducible refine (HSP _).mono ?_; rintro e w4 ⟨b, o, c, rfl, ht4, hb4⟩)
    | (go_at_call 19; with_reducible refine (N0 _).mono ?_; rintro e w9 ⟨rfl, rfl⟩)
    | (go_at_call 19; with_reducible refine (N1 _).mono ?_; rintro e w9 ⟨rfl, rfl⟩)
    | (go_at_call 19; with_reducible refine (N2 _).mono ?_; rintro e w9 ⟨rfl, rfl⟩)
    | (go_at_call 23; with_reducible refine (MZ _).mono ?_; rintro e w5 ⟨rfl, hb5⟩; have ht5 := ht4.below hb5; have hc5 := HCE.out _ _ _ ht5; have c50 := hc5.1; have c51 := hc5.2; clear hc5)
    | (go_at_call 12; with_reducible refine (GE _).mono ?_; rintro e w6 ⟨rfl, hb6⟩; have ht6 := ht5.below hb6)
    | (go_at_call 21; with_reducible refine (HJ _ _ _ _ ht6).mono ?_; rintro e w7 ⟨rfl, hb7⟩; have ht7 := ht6.below hb7)
    | (go_at_call 21; with_reducible refine (HJ2 _ _ _ _ ht7).mono ?_; rintro e w8 ⟨rfl, hb8⟩; have ht8 := ht7.below hb8)
    | (go_at_call 21; with_reducible refine (HJ3 _ _ _ _ ht8).mono ?_; rintro e w9 ⟨rfl, hb9⟩))
  go_ret
  rename_i wA hA
  have q2 := hb1.trans (hb2.mono hb1.size)
  have q3 := q2.trans (hA.mono q2.size)
  have q4 := q3.trans (hb4.mono q3.size)
  have q5 := q4.trans (hb5.mono q4.size)
  have q6 := q5.trans (hb6.mono q5.size)
  have q7 := q6.trans (hb7.mono q6.size)
  have q8 := q7.trans (hb8.mono q7.size)
  have q9 := q8.trans (hb9.mono q8.size)
  exact ⟨rfl, q9.trans (hb3.mono q9.size)⟩
end Go.Proofs.YteplndmgfaceiaaDoor
