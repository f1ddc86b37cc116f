/-
  The contracts of package name's inSmall, Fold, Parent, Pattern, Match, Compare, Under.
-/
import Derived.Test.YtbmjmiioobgbfaaGreatDoorNMay
import Derived.Test.YtbmjmiioobgbfaaGreatDoorBuf
namespace Go.Proofs.YtbmjmiioobgbfaaGreatDoor
set_option linter.unusedSimpArgs false
set_option linter.unusedVariables false
open Go Go.RowKit Go.Shelf
set_option maxRecDepth 100000

theorem set_map {s : List UInt8} {k : Nat} (hk : k < s.length) (f : UInt8 → UInt8) (x : UInt8) (hx : f (s.getD k 0) = x) : ((s.take k).map f ++ s.drop k).set k x = (s.take (k + 1)).map f ++ s.drop (k + 1) := by
  rw [List.set_append_right _ _ (by simp; omega), List.take_succ_eq_append_getElem hk, List.map_append, List.append_assoc]
  congr 1
  rw [show k - ((s.take k).map f).length = 0 by simp; omega, List.drop_eq_getElem_cons hk, ← hx, getD_str s k hk]
  rfl
theorem keep_map {s : List UInt8} {k : Nat} (hk : k < s.length) (f : UInt8 → UInt8) (hx : f (s.getD k 0) = s.getD k 0) : (s.take k).map f ++ s.drop k = (s.take (k + 1)).map f ++ s.drop (k + 1) := by
  rw [List.take_succ_eq_append_getElem hk, List.map_append, List.append_assoc, List.drop_eq_getElem_cons hk]
  rw [getD_str s k hk] at hx
  simp [hx]
theorem at_map {s : List UInt8} {k : Nat} (hk : k < s.length) (f : UInt8 → UInt8) : ((s.take k).map f ++ s.drop k).getD k 0 = s.getD k 0 := by
  rw [List.getD_eq_getElem?_getD, List.getD_eq_getElem?_getD, List.getElem?_append_right (by simp; omega)]
  simp
  congr 1
  congr 1
  omega

theorem smallC_great {b : UInt8} {c : Nat} (hc : b.toNat = c) (h1 : 65 ≤ c) (h2 : c ≤ 90) : smallC b = UInt8.ofNat (c + 32) ∧ (UInt8.ofNat (c + 32)).toNat = c + 32 := by
  have e : (UInt8.ofNat (c + 32)).toNat = c + 32 := by rw [UInt8.toNat_ofNat']; exact Nat.mod_eq_of_lt (by omega)
  refine ⟨?_, e⟩
  unfold smallC
  have : (65 ≤ b && b ≤ 90) = true := by
    rw [Bool.and_eq_true, decide_eq_true_eq, decide_eq_true_eq, UInt8.le_iff_toNat_le, UInt8.le_iff_toNat_le, hc]
    exact ⟨h1, h2⟩
  rw [if_pos this]
  apply UInt8.toNat_inj.1
  rw [UInt8.toNat_add, hc, e]
  exact Nat.mod_eq_of_lt (show c + 32 < 256 by omega)
theorem smallC_other {b : UInt8} {c : Nat} (hc : b.toNat = c) (h : c < 65 ∨ 90 < c) : smallC b = b := by
  unfold smallC
  have : ¬ ((65 ≤ b && b ≤ 90) = true) := by
    rw [Bool.and_eq_true, decide_eq_true_eq, decide_eq_true_eq, UInt8.le_iff_toNat_le, UInt8.le_iff_toNat_le, hc]
    show ¬ (65 ≤ c ∧ c ≤ 90)
    omega
  rw [if_neg this]

set_option maxHeartbeats 2000000 in
theorem small_any (s : List UInt8) (w : World) (hs : s.length ≤ 1000000) : Calls Tryz.prog 112 #[.string (str s)] w fun e w' => e = .returned (sv (s.map smallC)) ∧ Below w.heap.size w w' := by
  obtain ⟨c, W1, hrun, hbuf, hbel, hcap⟩ := run_bytes w s
  have HB := Lib.hid hbuf
  have HL := Lib.hid hbel
  clear hbuf hbel
  go_enter Tryz.func112, Tryz.ntmps112
  go_wp2_with fail
  go_loopw [10] (fun i wr => ∃ k : Nat, k ≤ s.length ∧ i = .int .i64 k ∧ BufAt wr w.heap.size ((s.take k).map smallC ++ s.drop k) ∧ Below w.heap.size w wr) (fun i _ => s.length - (intOf i).toNat)
  case atStart => exact ⟨0, Nat.zero_le _, rfl, by simpa using HB.out, HL.out⟩
  case round =>
    obtain ⟨k, hk, rfl, hb, hl⟩ := hrel
    have hlen : ((s.take k).map smallC ++ s.drop k).length = s.length := by simp; omega
    by_cases hlt : k < s.length
    · obtain ⟨b, hbk⟩ : ∃ b, (s.getD k 0).toNat = b := ⟨_, rfl⟩
      have hb256 : b < 256 := by rw [← hbk]; exact UInt8.toNat_lt _
      have hc : wr.cell? ⟨w.heap.size, k, none⟩ = some (.int .u8 (b : Int)) := by rw [hb.cell (by omega), at_map hlt, hbk]
      have hf : wr.frozen? ⟨w.heap.size, k, none⟩ = false := hb.free (by omega)
      by_cases h : 65 ≤ b ∧ b ≤ 90
      · obtain ⟨h1, h2⟩ := h
        obtain ⟨e1, e2⟩ := smallC_great hbk h1 h2
        have HS := Lib.hid (hb.set (k := k) (by omega) (UInt8.ofNat (b + 32)) (v := (b : Int) - 65 + 97) (by rw [e2]; omega))
        have HM := Lib.hid (set_map hlt smallC _ e1)
        have HL2 := Lib.hid (hl.setCell (p := ⟨w.heap.size, k, none⟩) (Nat.le_refl _) (.int .u8 ((b : Int) - 65 + 97)))
        clear hb hl hlen e1 e2 hbk
        go_wp2
        go_roundw
        case rel => exact ⟨k + 1, by omega, by go_num, by rw [← HM.out]; exact HS.out, HL2.out⟩
        case measure => simp [intOf]; omega
      · have HM := Lib.hid (keep_map hlt smallC (smallC_other hbk (by omega)))
        have HS := Lib.hid hb
        have HL2 := Lib.hid hl
        clear hb hl hlen hbk
        rcases (show b < 65 ∨ 90 < b by omega) with h' | h'
        all_goals
          clear h
          go_wp2
          go_roundw
          case rel => exact ⟨k + 1, by omega, by go_num, by rw [← HM.out]; exact HS.out, HL2.out⟩
          case measure => simp [intOf]; omega
    · obtain rfl : k = s.length := by omega
      rw [List.take_of_length_le (Nat.le_refl _), List.drop_of_length_le (Nat.le_refl _), List.append_nil] at hb
      have hback := run_text hb c s.length (by simp)
      have HL2 := Lib.hid hl
      clear hb hl hlen
      go_wp2
      go_ret
      exact ⟨rfl, HL2.out⟩

theorem trimSuffix_dot (s : List UInt8) : Lib.trimSuffix s [46] = undot s := by
  unfold Lib.trimSuffix undot Lib.hasSuffix
  by_cases h : s.getLast? = some 46
  · obtain ⟨t, rfl⟩ := List.getLast?_eq_some_iff.1 h
    have : [46].isSuffixOf (t ++ [46]) = true := by rw [List.isSuffixOf_iff_suffix]; exact ⟨t, rfl⟩
    rw [if_pos this, if_pos (by simp)]
    simp
  · have : ¬ [46].isSuffixOf s = true := by
      rw [List.isSuffixOf_iff_suffix]
      rintro ⟨t, rfl⟩
      exact h (by simp)
    rw [if_neg this, if_neg h]

theorem undot_len (s : List UInt8) : (undot s).length ≤ s.length := by unfold undot; split <;> simp

/-- What Fold tells. -/
def foldV (r : Option (List UInt8)) : Value := match r with
  | some a => .tuple #[sv a, .int .i64 0]
  | none => .tuple #[sv [], .int .i64 4]

theorem suffix_call (s : List UInt8) (w : World) (hs : s.length ≤ 1000000) : Calls Tryz.prog 113 #[.string (str s), .string { data := #[46] }] w fun e w' => e = .returned (sv (undot s)) ∧ w = w' := by
  have := Tryz.strings_TrimSuffix (str s) { data := #[46] } w (by simp [ByteArray.size]; omega)
  have e1 : (str s).data.toList = s := by simp
  have e2 : (⟨#[46]⟩ : ByteArray).data.toList = [46] := rfl
  rw [e1, e2, trimSuffix_dot] at this
  exact this.mono fun _ _ ⟨h1, h2⟩ => ⟨h1, h2.symm⟩

set_option maxHeartbeats 1000000 in
theorem fold_any (s : List UInt8) (w : World) (hs : s.length ≤ 1000000) (hM : ML w) : Calls Tryz.prog 73 #[.string (str s)] w fun e w' => e = .returned (foldV (foldL s)) ∧ Below w.heap.size w w' := by
  have hu := undot_len s
  obtain ⟨u, hu'⟩ : ∃ u, u = undot s := ⟨_, rfl⟩
  rw [← hu'] at hu
  obtain ⟨n, hn⟩ : ∃ n, n = u.map smallC := ⟨_, rfl⟩
  have hnl : n.length ≤ 1000000 := by rw [hn, List.length_map]; omega
  have HM := Lib.hid hM
  have HU := Lib.hid hu'
  have HN := Lib.hid hn
  clear hM hu' hn
  cases hm : mayL n with
  | true =>
    have HF := Lib.hid (show foldL s = some n by unfold foldL; rw [← HU.out, ← HN.out, if_pos hm])
    have HY := Lib.hid hm
    clear hm
    go_enter Tryz.func73, Tryz.ntmps73
    go_wp2_with fail
    refine (suffix_call s _ hs).mono ?_
    rintro e w1 ⟨rfl, rfl⟩
    rw [← HU.out]
    go_wp2_with fail
    refine (small_any u _ (by omega)).mono ?_
    rintro e w1 ⟨rfl, hb1⟩
    rw [← HN.out]
    have HB1 := Lib.hid hb1
    clear hb1
    go_wp2_with fail
    refine (may_any n _ hnl (HM.out.step HB1.out)).mono ?_
    rintro e w2 ⟨rfl, hb2⟩
    rw [HY.out]
    have HB2 := Lib.hid hb2
    clear hb2
    go_wp2_with fail
    go_ret2
    rw [HF.out]
    exact ⟨rfl, HB1.out.trans (HB2.out.mono HB1.out.size)⟩
  | false =>
    have HF := Lib.hid (show foldL s = none by unfold foldL; rw [← HU.out, ← HN.out, if_neg (by rw [hm]; simp)])
    have HY := Lib.hid hm
    clear hm
    go_enter Tryz.func73, Tryz.ntmps73
    go_wp2_with fail
    refine (suffix_call s _ hs).mono ?_
    rintro e w1 ⟨rfl, rfl⟩
    rw [← HU.out]
    go_wp2_with fail
    refine (small_any u _ (by omega)).mono ?_
    rintro e w1 ⟨rfl, hb1⟩
    rw [← HN.out]
    have HB1 := Lib.hid hb1
    clear hb1
    go_wp2_with fail
    refine (may_any n _ hnl (HM.out.step HB1.out)).mono ?_
    rintro e w2 ⟨rfl, hb2⟩
    rw [HY.out]
    have HB2 := Lib.hid hb2
    clear hb2
    go_wp2_with fail
    go_ret2
    rw [HF.out]
    exact ⟨rfl, HB1.out.trans (HB2.out.mono HB1.out.size)⟩
end Go.Proofs.YtbmjmiioobgbfaaGreatDoor
