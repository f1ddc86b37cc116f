/-
  The contracts of the laws' own functions 'works' (the chapter's examples: it returns true) and 'long'; package addr's contracts in a world behind.
-/
import Derived.Test.YtbmjmiioobgbfaaGreatDoorAMay
namespace Go.Proofs.YtbmjmiioobgbfaaGreatDoor
open Go Go.RowKit
set_option maxRecDepth 100000

section
variable {w0 w : World}
theorem bl_parse {x : List UInt8} {r : Option (List UInt8 × List UInt8)} (e : parseL x = r) (hx : x.length ≤ 1000000) (h : BL w0 w) : Calls Tryz.prog 36 #[.string (str x)] w fun e w' => e = .returned (parseV r) ∧ BL w0 w' := by
  have := bl (parse_any x w hx h.ml) h
  rwa [e] at this
theorem bl_amay {x : List UInt8} {r : Bool} (e : amayL x = r) (hx : x.length ≤ 1000000) (h : BL w0 w) : Calls Tryz.prog 38 #[.string (str x)] w fun e w' => e = .returned (.bool r) ∧ BL w0 w' := by
  have := bl (may_amay x w hx h.ml) h
  rwa [e] at this
theorem bl_path {x r : List UInt8} (e : pathL x = r) (hx : x.length ≤ 1000000) (h : BL w0 w) : Calls Tryz.prog 39 #[.string (str x)] w fun e w' => e = .returned (.string (str r)) ∧ BL w0 w' := by
  have := bl (path_any x w hx h.ml) h
  rwa [e] at this
theorem bl_unpath {x : List UInt8} {r : Option (List UInt8)} (e : unpathL x = r) (hx : x.length ≤ 1000000) (h : BL w0 w) : Calls Tryz.prog 37 #[.string (str x)] w fun e w' => e = .returned (unpathV r) ∧ BL w0 w' := by
  have := bl (unpath_any x w hx h.ml) h
  rwa [e] at this
end

/-! ### works -/
def noneL : List (List UInt8) := [[46, 97, 64, 98, 46, 101, 120, 97, 109, 112, 108, 101], [97, 46, 46, 98, 64, 98, 46, 101, 120, 97, 109, 112, 108, 101], [97, 32, 98, 64, 98, 46, 101, 120, 97, 109, 112, 108, 101], [97, 64], [64, 98, 46, 101, 120, 97, 109, 112, 108, 101], [97, 64, 98, 46, 101, 120, 97, 109, 112, 108, 101, 46], [97, 64, 49, 46, 50], [34, 97, 64, 98, 46, 101, 120, 97, 109, 112, 108, 101]]
theorem none_all : ∀ x ∈ noneL, amayL x = false ∧ x.length ≤ 1000000 := by decide +kernel
theorem wk1 : parseL [97, 46, 98, 64, 77, 97, 105, 108, 46, 101, 120, 97, 109, 112, 108, 101] = some ([97, 46, 98], [109, 97, 105, 108, 46, 101, 120, 97, 109, 112, 108, 101]) := by decide +kernel
theorem wk2 : unpathL [60, 62] = some [] := by decide +kernel
theorem wk3 : amayL [34, 97, 32, 98, 34, 64, 98, 46, 101, 120, 97, 109, 112, 108, 101] = true := by decide +kernel
theorem wk4 : pathL [97, 64, 98, 46, 101, 120, 97, 109, 112, 108, 101] = [60, 97, 64, 98, 46, 101, 120, 97, 109, 112, 108, 101, 62] := by decide +kernel

set_option maxHeartbeats 4000000 in
theorem works_bl {w0 : World} (w : World) (B0 : BL w0 w) : Calls Tryz.prog 9 #[] w fun e w' => e = .returned (.bool true) ∧ BL w0 w' := by
  go_enter Tryz.func9, Tryz.ntmps9
  go_wp2_with fail
  refine (bl_parse wk1 (by decide) B0).mono ?_
  rintro e w1 ⟨rfl, B1⟩
  unfold parseV
  go_wp2_with fail
  refine (bl_unpath wk2 (by decide) B1).mono ?_
  rintro e w2 ⟨rfl, B2⟩
  unfold unpathV
  go_wp2_with fail
  have hw' : w2.alloc (.cells #[.string { data := #[46, 97, 64, 98, 46, 101, 120, 97, 109, 112, 108, 101] }, .string { data := #[97, 46, 46, 98, 64, 98, 46, 101, 120, 97, 109, 112, 108, 101] }, .string { data := #[97, 32, 98, 64, 98, 46, 101, 120, 97, 109, 112, 108, 101] }, .string { data := #[97, 64] }, .string { data := #[64, 98, 46, 101, 120, 97, 109, 112, 108, 101] }, .string { data := #[97, 64, 98, 46, 101, 120, 97, 109, 112, 108, 101, 46] }, .string { data := #[97, 64, 49, 46, 50] }, .string { data := #[34, 97, 64, 98, 46, 101, 120, 97, 109, 112, 108, 101] }] 9) = w2.alloc (.cells (noneL.map sv).toArray 9) := rfl
  rw [hw']
  obtain ⟨wa, hwa⟩ : ∃ wa, wa = w2.alloc (.cells (noneL.map sv).toArray 9) := ⟨_, rfl⟩
  rw [← hwa]
  obtain ⟨g, hg⟩ : ∃ g, g = w2.heap.size := ⟨_, rfl⟩
  rw [← hg]
  have BA : BL w0 wa := by rw [hwa]; exact B2.alloc _
  have HG := Lib.hid (show wa.heap[g]? = some (.cells (noneL.map sv).toArray 9 (0, 0)) by rw [hwa, hg]; exact heap_alloc_new _ _)
  clear hw' hwa hg
  go_loopw [19] (fun i wr => ∃ k : Nat, k ≤ 8 ∧ i = .int .i64 k ∧ wr.heap[g]? = some (.cells (noneL.map sv).toArray 9 (0, 0)) ∧ BL w0 wr) (fun i _ => 8 - (intOf i).toNat)
  case atStart => exact ⟨0, by omega, rfl, HG.out, BA⟩
  case round =>
    obtain ⟨k, hk, rfl, hr, hb⟩ := hrel
    have HR := Lib.hid hr
    clear hr
    by_cases hlt : k < 8
    · have hc := lit_cell HR.out (k := k) (by exact hlt)
      have hx := none_all _ (getD_mem (xs := noneL) (k := k) (by exact hlt))
      obtain ⟨x, hxx⟩ : ∃ x, x = noneL.getD k [] := ⟨_, rfl⟩
      rw [← hxx] at hc hx
      have HX := Lib.hid hx
      clear hx hxx
      go_wp2_with fail
      refine (blk (may_amay x _ HX.out.2 hb.ml) hb).mono ?_
      rintro e w3 ⟨rfl, hbb, hkk⟩
      rw [HX.out.1]
      have HR2 := Lib.hid (show w3.heap[g]? = some (.cells (noneL.map sv).toArray 9 (0, 0)) from (hkk _ (lt_of_blk HR.out)).trans HR.out)
      clear hkk hc
      go_wp2
      go_roundw
      case rel => exact ⟨k + 1, by omega, by go_num, HR2.out, hbb⟩
      case measure => simp [intOf]; omega
    · obtain rfl : k = 8 := by omega
      go_wp2_with fail
      refine (bl_amay wk3 (by decide) hb).mono ?_
      rintro e v0 ⟨rfl, C0⟩
      go_wp2_with fail
      refine (bl_path wk4 (by decide) C0).mono ?_
      rintro e v1 ⟨rfl, C1⟩
      have HF := Lib.hid C1
      go_wp2
      go_ret
      exact ⟨rfl, HF.out⟩

/-! ### long -/
def longF : Nat → List (List UInt8) → Nat
  | n, [] => n
  | n, x :: t => if n < 9000 then longF (n + 10 + min 9000 x.length) t else n
def longL (xs : List (List UInt8)) : Bool := decide (9000 ≤ longF 0 xs)
theorem longF_stop {n : Nat} (h : 9000 ≤ n) : ∀ xs, longF n xs = n
  | [] => rfl
  | x :: t => by unfold longF; rw [if_neg (by omega)]
theorem longF_ge : ∀ (n : Nat) (xs : List (List UInt8)), n ≤ longF n xs
  | n, [] => Nat.le_refl _
  | n, x :: t => by
    unfold longF
    split
    · exact Nat.le_trans (by omega) (longF_ge _ t)
    · exact Nat.le_refl _
theorem longF_small : ∀ {n : Nat} {xs : List (List UInt8)}, longF n xs < 9000 → n + 10 * xs.length < 9000 ∧ ∀ x ∈ xs, x.length < 9000
  | n, [], h => ⟨by simpa [longF] using h, by simp⟩
  | n, x :: t, h => by
    unfold longF at h
    by_cases hn : n < 9000
    · rw [if_pos hn] at h
      obtain ⟨h1, h2⟩ := longF_small h
      have h3 := longF_ge (n + 10 + min 9000 x.length) t
      refine ⟨by simp; omega, fun y hy => ?_⟩
      rcases List.mem_cons.1 hy with rfl | hy
      · omega
      · exact h2 y hy
    · rw [if_neg hn] at h; omega
theorem long_not {xs : List (List UInt8)} (h : longL xs = false) : 10 * xs.length < 9000 ∧ ∀ x ∈ xs, x.length < 9000 := by
  unfold longL at h
  have := of_decide_eq_false h
  have := longF_small (n := 0) (xs := xs) (by omega)
  simpa using this

set_option maxHeartbeats 1000000 in
theorem long_any (xs : List (List UInt8)) (v : Value) (w : World) (hx : RowIs w v xs) (hl : xs.length ≤ 1000000) (hs : ∀ x ∈ xs, x.length ≤ 9223372036854775807) :
    Calls Tryz.prog 7 #[v] w fun e w' => e = .returned (.bool (longL xs)) ∧ w = w' := by
  obtain ⟨A, c, rfl, hr⟩ := hx
  obtain ⟨R, hR⟩ : ∃ R, R = longF 0 xs := ⟨_, rfl⟩
  have HL := Lib.hid (show longL xs = decide (9000 ≤ R) by rw [hR]; rfl)
  have HR := Lib.hid hR
  have HC := Lib.hid hr
  have HS := Lib.hid hs
  clear hR hr hs
  go_enter Tryz.func7, Tryz.ntmps7
  go_wp2_with fail
  go_loop [3, 4] (fun n i => ∃ k m : Nat, k ≤ xs.length ∧ m ≤ 20000 ∧ n = .int .i64 m ∧ i = .int .i64 k ∧ longF m (xs.drop k) = R) (fun _ i => xs.length - (intOf i).toNat)
  case atStart => exact ⟨0, 0, Nat.zero_le _, by omega, rfl, rfl, HR.out.symm⟩
  case round =>
    obtain ⟨k, m, hk, hm, rfl, rfl, hrun⟩ := hrel
    have HRU := Lib.hid hrun
    clear hrun
    by_cases hlt : k < xs.length
    · by_cases hm9 : m < 9000
      · obtain ⟨g, rfl, hg, hc, _⟩ := HC.out (by omega)
        have c1 := hc k hlt
        obtain ⟨x, hx⟩ : ∃ x, x = xs.getD k [] := ⟨_, rfl⟩
        rw [← hx] at c1
        have hd : xs.drop k = x :: xs.drop (k + 1) := by
          rw [List.drop_eq_getElem_cons hlt, hx, List.getD_eq_getElem?_getD, List.getElem?_eq_getElem hlt]; rfl
        have hxl : x.length ≤ 9223372036854775807 := HS.out x (by rw [hx]; exact getD_mem hlt)
        have HN := Lib.hid (show longF (m + 10 + min 9000 x.length) (xs.drop (k + 1)) = R by
          rw [← HRU.out, hd]
          conv => rhs; unfold longF
          rw [if_pos hm9])
        clear hc hx hd
        by_cases h9 : 9000 ≤ x.length
        · have e : min 9000 x.length = 9000 := by omega
          rw [e] at HN
          clear e
          go_wp2_with fail
          go_round
          case rel => exact ⟨k + 1, m + 10 + 9000, by omega, by omega, by go_num, by go_num, HN.out⟩
          case measure => simp [intOf]; omega
        · have e : min 9000 x.length = x.length := by omega
          rw [e] at HN
          clear e
          go_wp2_with fail
          go_round
          case rel => exact ⟨k + 1, m + 10 + x.length, by omega, by omega, by go_num, by go_num, HN.out⟩
          case measure => simp [intOf]; omega
      · have hm9' : 9000 ≤ m := by omega
        have HE := Lib.hid (show longL xs = true by rw [HL.out]; refine decide_eq_true ?_; rw [← HRU.out, longF_stop hm9']; exact hm9')
        clear hm9
        go_wp2_with fail
        go_ret
        rw [HE.out]
        exact ⟨by first | rfl | (simp; done) | (simp; omega), rfl⟩
    · obtain rfl : k = xs.length := by omega
      have hRm : R = m := by rw [← HRU.out, List.drop_length]; rfl
      rw [hRm] at HL
      have HL2 := Lib.hid HL.out
      clear hRm HL HRU HR
      by_cases hm9 : 9000 ≤ m
      · have HE := Lib.hid (show longL xs = true by rw [HL2.out]; exact decide_eq_true hm9)
        go_wp2_with fail
        go_ret
        rw [HE.out]
        exact ⟨by first | rfl | (simp; done) | (simp; omega), rfl⟩
      · have HE := Lib.hid (show longL xs = false by rw [HL2.out]; exact decide_eq_false hm9)
        go_wp2_with fail
        go_ret
        rw [HE.out]
        exact ⟨by first | rfl | (simp; done) | (simp; omega), rfl⟩
end Go.Proofs.YtbmjmiioobgbfaaGreatDoor
