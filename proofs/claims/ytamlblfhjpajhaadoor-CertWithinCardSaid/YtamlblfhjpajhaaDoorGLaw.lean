/-
  The laws' own copies, some, works, large.
-/
import Derived.Test.YtamlblfhjpajhaaDoorGSame
namespace Go.Proofs.YtamlblfhjpajhaaDoor
set_option linter.unusedSimpArgs false
set_option linter.unusedVariables false
open Go Go.RowKit
set_option maxRecDepth 100000

/-! ### copies -/
def copL (s : List UInt8) : Nat → List UInt8
  | 0 => []
  | n + 1 => copL s n ++ s
theorem copL_len (s : List UInt8) (n : Nat) : (copL s n).length = n * s.length := by
  induction n with
  | zero => simp [copL]
  | succ n ih => rw [copL, List.length_append, ih, Nat.succ_mul]
set_option maxHeartbeats 1000000 in
theorem copies_any (s : List UInt8) (n : Nat) (w : World) (hs : s.length ≤ 1000) (hn : n ≤ 1000) : Calls Tryd.prog 16 #[sv s, .int .i64 (n : Int)] w fun e w' => e = .returned (sv (copL s n)) ∧ w = w' := by
  go_enter Tryd.func16, Tryd.ntmps16
  go_wp2_with fail
  go_loop [5, 6] (fun o i => ∃ k : Nat, k ≤ n ∧ i = .int .i64 k ∧ o = sv (copL s k)) (fun _ i => n - (intOf i).toNat)
  case atStart => exact ⟨0, Nat.zero_le _, rfl, rfl⟩
  case round =>
    obtain ⟨k, hk, rfl, rfl⟩ := hrel
    have hl := copL_len s k
    have hll : (copL s k).length ≤ 1000000 := by
      rw [hl]; exact Nat.le_trans (Nat.mul_le_mul hk hs) (by omega)
    obtain ⟨o, ho⟩ : ∃ o, o = copL s k := ⟨_, rfl⟩
    rw [← ho] at hll ⊢
    have HO := Lib.hid ho
    clear hl ho
    by_cases hlt : k < n
    · go_wp2_with fail
      go_round
      case rel => exact ⟨k + 1, by omega, by go_num, by rw [str_appendE, HO.out]; rfl⟩
      case measure => simp [intOf]; omega
    · obtain rfl : k = n := by omega
      go_wp2_with fail
      go_ret
      rw [HO.out]
      exact ⟨rfl, rfl⟩

/-! ### some, works -/
def sig7 : List UInt8 := List.replicate 32 7
theorem cop7 : copL [7] 32 = sig7 := by decide
def abL : List UInt8 := [97, 46, 98]
/-- The certificate of the examples. -/
def someC : Ct := ⟨[107], sig7, [abL], 0, 1, false⟩
theorem ab_row (W : World) : SX (W.alloc (.cells #[sv abL] 9)) (.slice (some ⟨W.heap.size, 0, none⟩) 1 1) [abL] :=
  ⟨_, _, rfl, fun _ => ⟨W.heap.size, 0, rfl, by simp, fun j hj => by
    obtain rfl : j = 0 := by simpa using hj
    rw [cellAt (heap_alloc_new W _)]; rfl⟩⟩
set_option maxHeartbeats 4000000 in
theorem some_any {w : World} (hw : GL w) : Calls Tryd.prog 15 #[] w fun e w' => ∃ A, e = .returned (certV someC (.slice A 1 1)) ∧ SX w' (.slice A 1 1) [abL] ∧ Below w.heap.size w w' := by
  have HCP := Lib.hid (fun W : World => show Calls Tryd.prog 16 #[sv [7], .int .i64 32] W (fun e w' => e = .returned (sv sig7) ∧ W = w') by rw [← cop7]; exact copies_any [7] 32 W (by decide) (by decide))
  have HC := Lib.hid (CB.new w ct0 (.slice none 0 0))
  have HB := Lib.hid (below_alloc w (cellsC ct0 (.slice none 0 0)))
  clear hw
  obtain ⟨s7, hs7⟩ : ∃ s, s = sig7 := ⟨_, rfl⟩
  rw [← hs7] at HCP
  have HS := Lib.hid hs7
  clear hs7
  go_enter Tryd.func15, Tryd.ntmps15
  go_wp2_with (go_at_call 16; refine (HCP.out _).mono ?_; rintro e w1 ⟨rfl, rfl⟩)
  have HH := heap_alloc2_old w (.cells #[sv [107], sv s7, .slice (some ⟨w.heap.size + 1, 0, none⟩) 1 1, .int .i64 0, .int .i64 1, .bool false] 24) (.cells #[sv abL] 9)
  have hx := ab_row (w.alloc (.cells #[sv [107], sv s7, .slice (some ⟨w.heap.size + 1, 0, none⟩) 1 1, .int .i64 0, .int .i64 1, .bool false] 24))
  rw [World.size_alloc] at hx
  refine bodyPost_ret (results_cell_row (p := 0) (by kernel_rfl) _ _ w.heap.size 24 _ (0, 0) _ rfl HH Tryd.underlying24 rfl (by kernel_rfl)) rfl ⟨some ⟨w.heap.size + 1, 0, none⟩, by rw [HS.out]; rfl, hx, ?_⟩
  exact (below_alloc _ _).trans ((below_alloc _ _).mono (by simp))

def wantL : List UInt8 := [48, 55, 48, 3, 4, 1, 107, 4, 32] ++ sig7 ++ [48, 5, 130, 3, 97, 46, 98] ++ [2, 1, 0] ++ [2, 1, 1] ++ [1, 1, 0]
theorem some_enc : encE someC = 0 := by decide +kernel
theorem some_want : encL someC = wantL := by decide +kernel
theorem some_short : shortC someC := ⟨by decide, by decide, by decide, fun n hn => by
  obtain rfl : n = abL := by simpa [someC] using hn
  decide⟩
theorem some_cut : decO (wantL.take 56) = none ∧ decE (wantL.take 56) = 4 := by
  have h := dec_cut some_enc 56 (by rw [some_want]; decide)
  rw [some_want] at h
  exact ⟨decE_not (by omega), h⟩
theorem some_spki : spkiL [107] = [48, 3, 4, 1, 107] := by decide +kernel
set_option maxHeartbeats 8000000 in
theorem works_any {w : World} (hw : GL w) : Calls Tryd.prog 6 #[] w fun e w' => e = .returned (.bool true) ∧ Below w.heap.size w w' := by
  have HSO := Lib.hid (@some_any w hw)
  have HCP := Lib.hid (fun W : World => show Calls Tryd.prog 16 #[sv [7], .int .i64 32] W (fun e w' => e = .returned (sv sig7) ∧ W = w') by rw [← cop7]; exact copies_any [7] 32 W (by decide) (by decide))
  have HEN := Lib.hid (fun (W : World) (A : Option Addr) (hx : SX W (.slice A 1 1) [abL]) (h : GL W) => show Calls Tryd.prog 8 #[certV someC (.slice A 1 1)] W (fun e w' => e = .returned (.tuple #[sv wantL, .int .i64 0]) ∧ Below W.heap.size W w') by
    have := @encode_any W someC A 1 hx some_short h
    rw [some_enc, some_want] at this
    exact this)
  have HDE := Lib.hid (fun (W : World) (h : GL W) => show Calls Tryd.prog 10 #[sv (wantL.take 56)] W (fun e w' => Below W.heap.size W w' ∧ e = .returned (.tuple #[certV ct0 (.slice none 0 0), .int .i64 4])) by
    have := @decode_any W (wantL.take 56) (by decide) h
    refine this.mono ?_
    rintro e w' ⟨h1, h2⟩
    rw [some_cut.1, some_cut.2] at h2
    exact ⟨h1, h2⟩)
  have HSP := Lib.hid (fun (W : World) => show Calls Tryd.prog 12 #[sv [107]] W (fun e w' => e = .returned (sv [48, 3, 4, 1, 107]) ∧ Below W.heap.size W w') by
    have := @spki_any W [107] (by decide)
    rw [some_spki] at this
    exact this)
  have hw0 := Lib.hid hw
  obtain ⟨t1, h1⟩ : ∃ t, t = [48, 55, 48, 3, 4, 1, 107, 4, 32] ++ sig7 := ⟨_, rfl⟩
  obtain ⟨t2, h2⟩ : ∃ t, t = t1 ++ [48, 5, 130, 3, 97, 46, 98] := ⟨_, rfl⟩
  obtain ⟨t3, h3⟩ : ∃ t, t = t2 ++ [2, 1, 0] := ⟨_, rfl⟩
  obtain ⟨t4, h4⟩ : ∃ t, t = t3 ++ [2, 1, 1] := ⟨_, rfl⟩
  have h5 : wantL = t4 ++ [1, 1, 0] := by rw [h4, h3, h2, h1]; rfl
  have e1 : (⟨#[48, 55, 48, 3, 4, 1, 107, 4, 32]⟩ : ByteArray) ++ str sig7 = str t1 := by rw [h1]; exact str_appendE [48, 55, 48, 3, 4, 1, 107, 4, 32] sig7
  have e2 : str t1 ++ (⟨#[48, 5, 130, 3, 97, 46, 98]⟩ : ByteArray) = str t2 := by rw [h2]; exact str_appendE t1 [48, 5, 130, 3, 97, 46, 98]
  have e3 : str t2 ++ (⟨#[2, 1, 0]⟩ : ByteArray) = str t3 := by rw [h3]; exact str_appendE t2 [2, 1, 0]
  have e4 : str t3 ++ (⟨#[2, 1, 1]⟩ : ByteArray) = str t4 := by rw [h4]; exact str_appendE t3 [2, 1, 1]
  have e5 : str t4 ++ (⟨#[1, 1, 0]⟩ : ByteArray) = str wantL := by rw [h5]; exact str_appendE t4 [1, 1, 0]
  have z0 : (str sig7).size = 32 := rfl
  have z1 : (str t1).size = 41 := by rw [h1]; rfl
  have z2 : (str t2).size = 48 := by rw [h2, h1]; rfl
  have z3 : (str t3).size = 51 := by rw [h3, h2, h1]; rfl
  have z4 : (str t4).size = 54 := by rw [h4, h3, h2, h1]; rfl
  have z5 : (str wantL).size = 57 := rfl
  have hwt : (str wantL).extract 0 56 = str (wantL.take 56) := by rw [str_extract]; simp
  obtain ⟨q, hq⟩ : ∃ q, q = wantL.take 56 := ⟨_, rfl⟩
  rw [← hq] at HDE hwt
  obtain ⟨wn, hwn⟩ : ∃ t, t = wantL := ⟨_, rfl⟩
  obtain ⟨s7, hs7⟩ : ∃ t, t = sig7 := ⟨_, rfl⟩
  rw [← hwn] at e5 z5 hwt HEN
  rw [← hs7] at e1 z0 HCP
  clear hw hq h1 h2 h3 h4 h5 hwn hs7
  go_enter Tryd.func6, Tryd.ntmps6
  go_wp2_with (first
    | (go_at_call 15; refine HSO.out.mono ?_; rintro e w1 ⟨A, rfl, hx, hb1⟩; have HX1 := Lib.hid hx; have HG1 := Lib.hid ((Gb.start hw0.out).step hb1); clear hx hb1)
    | (go_at_call 8; refine (HEN.out _ A HX1.out HG1.out.2).mono ?_; rintro e w2 ⟨rfl, hb2⟩; have HG2 := Lib.hid (HG1.out.step hb2); clear hb2)
    | (go_at_call 16; refine (HCP.out _).mono ?_; rintro e w3 ⟨rfl, rfl⟩)
    | (go_at_call 10; refine (HDE.out _ HG2.out.2).mono ?_; rintro e w4 ⟨hb4, rfl⟩; have HG4 := Lib.hid (HG2.out.step hb4); clear hb4; unfold certV)
    | (go_at_call 12; refine (HSP.out _).mono ?_; rintro e w5 ⟨rfl, hb5⟩))
  go_ret
  exact ⟨rfl, ((HG4.out.alloc _).step hb5).1⟩
end Go.Proofs.YtamlblfhjpajhaaDoor
