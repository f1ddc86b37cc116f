/-
  Contracts of package cmd's inGreat, isOf, isEnvid, isValue, isParam, hasPath.
-/
import Derived.Test.YtbmjmiioobgbfaaGreatDoorKShow
import Derived.Test.YtbmjmiioobgbfaaGreatDoorNFold
namespace Go.Proofs.YtbmjmiioobgbfaaGreatDoor
open Go Go.RowKit Go.Shelf
set_option maxRecDepth 100000
set_option linter.unusedSimpArgs false
set_option linter.unusedVariables false

theorem greatC_small {b : UInt8} {c : Nat} (hc : b.toNat = c) (h1 : 97 ≤ c) (h2 : c ≤ 122) : greatC b = UInt8.ofNat (c - 32) ∧ (UInt8.ofNat (c - 32)).toNat = c - 32 := by
  have e : (UInt8.ofNat (c - 32)).toNat = c - 32 := by rw [UInt8.toNat_ofNat']; exact Nat.mod_eq_of_lt (by omega)
  refine ⟨?_, e⟩
  unfold greatC
  have : (97 ≤ b && b ≤ 122) = true := by
    rw [Bool.and_eq_true, decide_eq_true_eq, decide_eq_true_eq, UInt8.le_iff_toNat_le, UInt8.le_iff_toNat_le, hc]
    exact ⟨h1, h2⟩
  rw [if_pos this]
  apply UInt8.toNat_inj.1
  rw [e, UInt8.toNat_sub_of_le _ _ (by rw [UInt8.le_iff_toNat_le, hc]; show 32 ≤ c; omega), hc]
  rfl
theorem greatC_other {b : UInt8} {c : Nat} (hc : b.toNat = c) (h : c < 97 ∨ 122 < c) : greatC b = b := by
  unfold greatC
  have : ¬ ((97 ≤ b && b ≤ 122) = true) := by
    rw [Bool.and_eq_true, decide_eq_true_eq, decide_eq_true_eq, UInt8.le_iff_toNat_le, UInt8.le_iff_toNat_le, hc]
    show ¬ (97 ≤ c ∧ c ≤ 122)
    omega
  rw [if_neg this]

set_option maxHeartbeats 2000000 in
theorem great_any (s : List UInt8) (w : World) (hs : s.length ≤ 1000000) : Calls Tryz.prog 128 #[.string (str s)] w fun e w' => e = .returned (sv (gr s)) ∧ Below w.heap.size w w' := by
  obtain ⟨c, W1, hrun, hbuf, hbel, hcap⟩ := run_bytes w s
  have HB := Lib.hid hbuf
  have HL := Lib.hid hbel
  clear hbuf hbel
  go_enter Tryz.func128, Tryz.ntmps128
  go_wp2_with fail
  go_loopw [10] (fun i wr => ∃ k : Nat, k ≤ s.length ∧ i = .int .i64 k ∧ BufAt wr w.heap.size ((s.take k).map greatC ++ s.drop k) ∧ Below w.heap.size w wr) (fun i _ => s.length - (intOf i).toNat)
  case atStart => exact ⟨0, Nat.zero_le _, rfl, by simpa using HB.out, HL.out⟩
  case round =>
    obtain ⟨k, hk, rfl, hb, hl⟩ := hrel
    have hlen : ((s.take k).map greatC ++ s.drop k).length = s.length := by simp; omega
    by_cases hlt : k < s.length
    · obtain ⟨b, hbk⟩ : ∃ b, (s.getD k 0).toNat = b := ⟨_, rfl⟩
      have hb256 : b < 256 := by rw [← hbk]; exact UInt8.toNat_lt _
      have hc : wr.cell? ⟨w.heap.size, k, none⟩ = some (.int .u8 (b : Int)) := by rw [hb.cell (by omega), at_map hlt, hbk]
      have hf : wr.frozen? ⟨w.heap.size, k, none⟩ = false := hb.free (by omega)
      by_cases h : 97 ≤ b ∧ b ≤ 122
      · obtain ⟨h1, h2⟩ := h
        obtain ⟨e1, e2⟩ := greatC_small hbk h1 h2
        have HS := Lib.hid (hb.set (k := k) (by omega) (UInt8.ofNat (b - 32)) (v := (b : Int) - 97 + 65) (by rw [e2]; omega))
        have HM := Lib.hid (set_map hlt greatC _ e1)
        have HL2 := Lib.hid (hl.setCell (p := ⟨w.heap.size, k, none⟩) (Nat.le_refl _) (.int .u8 ((b : Int) - 97 + 65)))
        clear hb hl hlen e1 e2 hbk
        go_wp2
        go_roundw
        case rel => exact ⟨k + 1, by omega, by go_num, by rw [← HM.out]; exact HS.out, HL2.out⟩
        case measure => simp [intOf]; omega
      · have HM := Lib.hid (keep_map hlt greatC (greatC_other hbk (by omega)))
        have HS := Lib.hid hb
        have HL2 := Lib.hid hl
        clear hb hl hlen hbk
        rcases (show b < 97 ∨ 122 < b by omega) with h' | h'
        all_goals
          clear h
          go_wp2
          go_roundw
          case rel => exact ⟨k + 1, by omega, by go_num, by rw [← HM.out]; exact HS.out, HL2.out⟩
          case measure => simp [intOf]; omega
    · obtain rfl : k = s.length := by omega
      rw [List.take_of_length_le (Nat.le_refl _), List.drop_of_length_le (Nat.le_refl _), List.append_nil] at hb
      have hback := run_text hb c s.length (by simp)
      have HL2 := Lib.hid hl
      clear hb hl hlen
      go_wp2
      go_ret
      exact ⟨rfl, HL2.out⟩

/-! ### Trim -/
theorem trimS_nil {l cs : List UInt8} (h : l.all (cs.contains ·) = true) : Lib.trimS l cs = [] := by
  have : l.reverse.dropWhile (cs.contains ·) = [] := dropWhile_nil fun c hc => List.all_eq_true.1 h c (by simpa using hc)
  unfold Lib.trimS Lib.trimRightS Lib.trimLeftS
  rw [this]; rfl
theorem trimS_some {l cs : List UInt8} (h : l.all (cs.contains ·) = false) : Lib.trimS l cs ≠ [] := by
  obtain ⟨c, hc, hd⟩ := List.all_eq_false.1 h
  have hd' : cs.contains c = false := by simpa using hd
  have h1 : c ∈ Lib.trimS l cs := by
    unfold Lib.trimS Lib.trimRightS Lib.trimLeftS
    exact mem_dropWhile (p := (cs.contains ·)) (by simpa using mem_dropWhile (p := (cs.contains ·)) (l := l.reverse) (by simpa using hc) hd') hd'
  intro e
  rw [e] at h1
  cases h1
theorem trims_call (l cs : List UInt8) (w : World) (hl : l.length ≤ 1000000) (hcs : cs.length ≤ 1000) (ha : cs.all (fun b => decide (b.toNat < 128)) = true) {r : List UInt8} (h : Lib.trimS l cs = r) :
    Calls Tryz.prog 95 #[sv l, sv cs] w fun e w' => e = .returned (sv r) ∧ Below w.heap.size w w' := by
  have e1 : (str l).data.toList = l := by simp
  have e2 : (str cs).data.toList = cs := by simp
  have := Any.strings_Trim_laid Tryz.lays160 Tryz.info256 (str l) (str cs) w (by simp [ByteArray.size]; omega) (by simp [ByteArray.size]; omega) (by rw [e2]; exact ascii_of_all ha)
  rw [e1, e2, h] at this
  exact this
theorem isOf_any (l cs : List UInt8) (w : World) (hl : l.length ≤ 1000000) (hcs : cs.length ≤ 1000) (ha : cs.all (fun b => decide (b.toNat < 128)) = true) :
    Calls Tryz.prog 100 #[sv l, sv cs] w fun e w' => e = .returned (.bool (l.all (cs.contains ·))) ∧ Below w.heap.size w w' := by
  obtain ⟨t, ht⟩ : ∃ t, Lib.trimS l cs = t := ⟨_, rfl⟩
  have HA := Lib.hid ha
  obtain ⟨b, hb⟩ : ∃ b, b = l.all (cs.contains ·) := ⟨_, rfl⟩
  rw [← hb]
  have he : t.isEmpty = b := by
    cases b with
    | true => rw [← ht, trimS_nil hb.symm]; rfl
    | false => rw [← ht]; simpa using trimS_some hb.symm
  have HT := Lib.hid ht
  have HB := Lib.hid hb
  clear ht hb ha
  cases b with
  | true =>
    go_enter Tryz.func100, Tryz.ntmps100
    go_wp2_with fail
    refine (trims_call l cs _ hl hcs HA.out HT.out).mono ?_
    rintro e w1 ⟨rfl, hb⟩
    have HBB := Lib.hid hb
    clear hb
    go_wp2_with fail
    go_ret
    exact ⟨rfl, HBB.out⟩
  | false =>
    go_enter Tryz.func100, Tryz.ntmps100
    go_wp2_with fail
    refine (trims_call l cs _ hl hcs HA.out HT.out).mono ?_
    rintro e w1 ⟨rfl, hb⟩
    have HBB := Lib.hid hb
    clear hb
    go_wp2_with fail
    go_ret
    exact ⟨rfl, HBB.out⟩

def upS : List UInt8 := [65, 66, 67, 68, 69, 70, 71, 72, 73, 74, 75, 76, 77, 78, 79, 80, 81, 82, 83, 84, 85, 86, 87, 88, 89, 90]
def pnS : List UInt8 := [65, 66, 67, 68, 69, 70, 71, 72, 73, 74, 75, 76, 77, 78, 79, 80, 81, 82, 83, 84, 85, 86, 87, 88, 89, 90, 48, 49, 50, 51, 52, 53, 54, 55, 56, 57]
def enS : List UInt8 := [65, 66, 67, 68, 69, 70, 71, 72, 73, 74, 75, 76, 77, 78, 79, 80, 81, 82, 83, 84, 85, 86, 87, 88, 89, 90, 97, 98, 99, 100, 101, 102, 103, 104, 105, 106, 107, 108, 109, 110, 111, 112, 113, 114, 115, 116, 117, 118, 119, 120, 121, 122, 48, 49, 50, 51, 52, 53, 54, 55, 56, 57, 45]
theorem upS_is (c : UInt8) : upS.contains c = upC c := by
  have key : ∀ n : Fin 256, upS.contains (UInt8.ofNat n) = upC (UInt8.ofNat n) := by decide +kernel
  have := key ⟨c.toNat, c.toNat_lt⟩
  simpa using this
theorem pnS_is (c : UInt8) : pnS.contains c = pnC c := by
  have key : ∀ n : Fin 256, pnS.contains (UInt8.ofNat n) = pnC (UInt8.ofNat n) := by decide +kernel
  have := key ⟨c.toNat, c.toNat_lt⟩
  simpa using this
theorem enS_is (c : UInt8) : enS.contains c = (upC c || lowC c || digC c || c == 45) := by
  have key : ∀ n : Fin 256, enS.contains (UInt8.ofNat n) = (upC (UInt8.ofNat n) || lowC (UInt8.ofNat n) || digC (UInt8.ofNat n) || UInt8.ofNat n == 45) := by decide +kernel
  have := key ⟨c.toNat, c.toNat_lt⟩
  simpa using this
theorem all_is {cs : List UInt8} {p : UInt8 → Bool} (h : ∀ c, cs.contains c = p c) (l : List UInt8) : l.all (cs.contains ·) = l.all p := by
  congr 1
  funext c
  exact h c
theorem isUp_any (l : List UInt8) (w : World) (hl : l.length ≤ 1000000) : Calls Tryz.prog 100 #[sv l, .string { data := #[65, 66, 67, 68, 69, 70, 71, 72, 73, 74, 75, 76, 77, 78, 79, 80, 81, 82, 83, 84, 85, 86, 87, 88, 89, 90] }] w fun e w' => e = .returned (.bool (l.all upC)) ∧ Below w.heap.size w w' := by
  have := isOf_any l upS w hl (by decide) (by decide)
  rw [all_is upS_is] at this
  exact this
theorem isPn_any (l : List UInt8) (w : World) (hl : l.length ≤ 1000000) : Calls Tryz.prog 100 #[sv l, .string { data := #[65, 66, 67, 68, 69, 70, 71, 72, 73, 74, 75, 76, 77, 78, 79, 80, 81, 82, 83, 84, 85, 86, 87, 88, 89, 90, 48, 49, 50, 51, 52, 53, 54, 55, 56, 57] }] w fun e w' => e = .returned (.bool (l.all pnC)) ∧ Below w.heap.size w w' := by
  have := isOf_any l pnS w hl (by decide) (by decide)
  rw [all_is pnS_is] at this
  exact this
theorem isEn_any (l : List UInt8) (w : World) (hl : l.length ≤ 1000000) : Calls Tryz.prog 100 #[sv l, .string { data := #[65, 66, 67, 68, 69, 70, 71, 72, 73, 74, 75, 76, 77, 78, 79, 80, 81, 82, 83, 84, 85, 86, 87, 88, 89, 90, 97, 98, 99, 100, 101, 102, 103, 104, 105, 106, 107, 108, 109, 110, 111, 112, 113, 114, 115, 116, 117, 118, 119, 120, 121, 122, 48, 49, 50, 51, 52, 53, 54, 55, 56, 57, 45] }] w fun e w' => e = .returned (.bool (l.all fun c => upC c || lowC c || digC c || c == 45)) ∧ Below w.heap.size w w' := by
  have := isOf_any l enS w hl (by decide) (by decide)
  rw [all_is enS_is] at this
  exact this

theorem isEnvidK_any (s : List UInt8) (w : World) (hs : s.length ≤ 1000000) : Calls Tryz.prog 60 #[sv s] w fun e w' => e = .returned (.bool (envC s)) ∧ Below w.heap.size w w' := by
  by_cases h : s.length ≤ 32
  · have HF := Lib.hid (show envC s = s.all fun c => upC c || lowC c || digC c || c == 45 by unfold envC; rw [decide_eq_true h, Bool.true_and])
    go_enter Tryz.func60, Tryz.ntmps60
    go_wp2_with fail
    refine (isEn_any s _ hs).mono ?_
    rintro e w1 ⟨rfl, hb⟩
    have HB := Lib.hid hb
    clear hb
    go_wp2_with fail
    go_ret
    rw [HF.out]
    exact ⟨rfl, HB.out⟩
  · have HF := Lib.hid (show envC s = false by unfold envC; rw [decide_eq_false h, Bool.false_and])
    have h' : 32 < s.length := by omega
    clear h
    go_enter Tryz.func60, Tryz.ntmps60
    go_wp2_with fail
    go_ret
    rw [HF.out]
    exact ⟨rfl, Below.refl _ _⟩

/-! ### isValue -/
theorem vlC_nat {b : UInt8} {c : Nat} (hc : b.toNat = c) : vlC b = decide (33 ≤ c ∧ c ≤ 126 ∧ c ≠ 61) := by
  unfold vlC
  rw [← hc, Bool.eq_iff_iff]
  simp only [Bool.and_eq_true, decide_eq_true_eq, UInt8.le_iff_toNat_le, bne_iff_ne, ne_eq, ← UInt8.toNat_inj]
  exact and_assoc
theorem all_drop {p : UInt8 → Bool} {s : List UInt8} {k : Nat} (h : k < s.length) : (s.drop k).all p = (p (s.getD k 0) && (s.drop (k + 1)).all p) := by
  rw [List.drop_eq_getElem_cons h, getD_str s k h]; rfl
set_option maxHeartbeats 1000000 in
theorem isValue_any (s : List UInt8) (w : World) (hs : s.length ≤ 1000000) : Calls Tryz.prog 141 #[sv s] w fun e w' => e = .returned (.bool (vlL s)) ∧ w = w' := by
  obtain ⟨r, hr⟩ : ∃ r, r = vlL s := ⟨_, rfl⟩
  rw [← hr]
  have HR := Lib.hid hr
  clear hr
  go_enter Tryz.func141, Tryz.ntmps141
  go_wp2_with fail
  go_loop [3, 4, 7] (fun _ _ i => ∃ k : Nat, k ≤ s.length ∧ i = .int .i64 k ∧ (s.drop k).all vlC = r) (fun _ _ i => s.length - (intOf i).toNat)
  case atStart => exact ⟨0, Nat.zero_le _, rfl, HR.out.symm⟩
  case round =>
    obtain ⟨k, hk, rfl, ha⟩ := hrel
    by_cases hlt : k < s.length
    · obtain ⟨c, hc⟩ : ∃ c, (s.getD k 0).toNat = c := ⟨_, rfl⟩
      have hcs : (((str s)[k]'(by simpa [ByteArray.size] using hlt)).toNat) = c := by rw [str_getD s k hlt, hc]
      have hc256 : c < 256 := by rw [← hc]; exact UInt8.toNat_lt _
      rw [all_drop hlt, vlC_nat hc] at ha
      clear hc
      by_cases h : 33 ≤ c ∧ c ≤ 126 ∧ c ≠ 61
      · rw [decide_eq_true h, Bool.true_and] at ha
        obtain ⟨h1, h2, h3⟩ := h
        have e61 : ((c : Int) == (((({ data := #[61] } : ByteArray)[0]'(by decide)).toNat : Nat) : Int)) = false := by
          show ((c : Int) == 61) = false
          rw [beq_eq_false_iff_ne]; omega
        have HA := Lib.hid ha
        clear ha h3
        go_wp2
        go_round
        case rel => exact ⟨k + 1, by omega, by go_num, HA.out⟩
        case measure => simp [intOf]; omega
      · rw [decide_eq_false h, Bool.false_and] at ha
        subst ha
        rcases (show c < 33 ∨ 126 < c ∨ c = 61 by omega) with h' | h' | h'
        · clear h
          go_wp2
          go_ret
          exact ⟨rfl, rfl⟩
        · clear h
          go_wp2
          go_ret
          exact ⟨rfl, rfl⟩
        · have e61 : ((c : Int) == (((({ data := #[61] } : ByteArray)[0]'(by decide)).toNat : Nat) : Int)) = true := by
            show ((c : Int) == 61) = true
            rw [h']; rfl
          have h1 : 32 < c := by omega
          have h2 : c ≤ 126 := by omega
          clear h h'
          go_wp2
          go_ret
          exact ⟨rfl, rfl⟩
    · obtain rfl : k = s.length := by omega
      rw [List.drop_length] at ha
      obtain rfl : true = r := ha
      go_wp2
      go_ret
      exact ⟨rfl, rfl⟩

theorem hasPath_any (v : Nat) (w : World) : Calls Tryz.prog 87 #[.int .u8 (v : Int)] w fun e w' => e = .returned (.bool (pathV v)) ∧ w = w' := by
  have e3 : ((v : Int) == 3) = (v == 3) := by rw [Bool.eq_iff_iff, beq_iff_eq, beq_iff_eq]; omega
  have e4 : ((v : Int) == 4) = (v == 4) := by rw [Bool.eq_iff_iff, beq_iff_eq, beq_iff_eq]; omega
  have HF := Lib.hid (show pathV v = (v == 3 || v == 4) from rfl)
  obtain ⟨a, ha⟩ : ∃ a, a = (v == 3) := ⟨_, rfl⟩
  obtain ⟨b, hb⟩ : ∃ b, b = (v == 4) := ⟨_, rfl⟩
  rw [← ha] at e3 HF
  rw [← hb] at e4 HF
  clear ha hb
  cases a with
  | true =>
    go_enter Tryz.func87, Tryz.ntmps87
    go_wp2
    go_ret
    rw [HF.out]
    exact ⟨rfl, rfl⟩
  | false =>
    go_enter Tryz.func87, Tryz.ntmps87
    go_wp2
    go_ret
    rw [HF.out]
    exact ⟨rfl, rfl⟩
end Go.Proofs.YtbmjmiioobgbfaaGreatDoor
