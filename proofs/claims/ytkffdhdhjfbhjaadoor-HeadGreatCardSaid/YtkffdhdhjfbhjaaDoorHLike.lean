/-
  The contracts of head.Like and of the reference's Like.
-/
import Derived.Test.YtkffdhdhjfbhjaaDoorHLeaf
namespace Go.Proofs.YtkffdhdhjfbhjaaDoor
set_option linter.unusedSimpArgs false
set_option linter.unusedVariables false
open Go Go.RowKit
set_option maxRecDepth 100000

theorem small_c (b : UInt8) (c d : Nat) (hc : b.toNat = c) (hd : (smallB b).toNat = d) (w : World) (n : Nat) : Calls Tryd.prog 38 #[.int .u8 (c : Int)] (w.drewN n) fun e w' => e = .returned (.int .u8 (d : Int)) ∧ w' = w.drewN n := by
  subst hc; subst hd
  exact (small_any b _).mono fun _ _ h => ⟨h.1, h.2.symm⟩
theorem lower_c (b : UInt8) (c d : Nat) (hc : b.toNat = c) (hd : (smallB b).toNat = d) (w : World) (n : Nat) : Calls Tryd.prog 45 #[.int .u8 (c : Int)] (w.drewN n) fun e w' => e = .returned (.int .u8 (d : Int)) ∧ w' = w.drewN n := by
  subst hc; subst hd
  exact (lower_any b _).mono fun _ _ h => ⟨h.1, h.2.symm⟩

set_option maxHeartbeats 2000000 in
theorem like_any (a b : List UInt8) (w : World) (ha : a.length ≤ 1000000) (hb : b.length ≤ 1000000) :
    Calls Tryd.prog 15 #[sv a, sv b] w fun e w' => e = .returned (.bool (likeB a b)) ∧ Below w.heap.size w w' := by
  by_cases hl : a.length = b.length
  · have hne : ((a.length : Int) != (b.length : Int)) = false := by rw [hl]; simp
    have HLL := Lib.hid hl
    have HB := Lib.hid (Below.refl w.heap.size w)
    clear hl
    go_enter Tryd.func15, Tryd.ntmps15
    go_wp2_with fail
    go_loopw [5, 13] (fun _ i wr => ∃ k : Nat, k ≤ a.length ∧ i = .int .i64 k ∧ (a.take k).map smallB = (b.take k).map smallB ∧ Below w.heap.size w wr) (fun _ i _ => a.length - (intOf i).toNat)
    case atStart => exact ⟨0, Nat.zero_le _, rfl, rfl, HB.out⟩
    case round =>
      obtain ⟨k, hk, rfl, ht, hbl⟩ := hrel
      have HT := Lib.hid ht
      have HL := Lib.hid hbl
      clear ht hbl
      by_cases hlt : k < a.length
      · have hlt2 : k < b.length := by have := HLL.out; omega
        obtain ⟨x, hx⟩ : ∃ x, (a.getD k 0).toNat = x := ⟨_, rfl⟩
        obtain ⟨y, hy⟩ : ∃ y, (b.getD k 0).toNat = y := ⟨_, rfl⟩
        obtain ⟨p, hp⟩ : ∃ p, (smallB (a.getD k 0)).toNat = p := ⟨_, rfl⟩
        obtain ⟨q, hq⟩ : ∃ q, (smallB (b.getD k 0)).toNat = q := ⟨_, rfl⟩
        have hxs : (((str a)[k]'(by simpa [ByteArray.size] using hlt)).toNat) = x := by rw [str_getD a k hlt, hx]
        have hys : (((str b)[k]'(by simpa [ByteArray.size] using hlt2)).toNat) = y := by rw [str_getD b k hlt2, hy]
        have C1 := Lib.hid (fun n => small_c _ _ _ hx hp wr n)
        have C2 := Lib.hid (fun n => small_c _ _ _ hy hq wr n)
        by_cases hpq : p = q
        · have HN := Lib.hid (like_next HT.out hlt hlt2 (UInt8.toNat_inj.1 (by rw [hp, hq, hpq])))
          have ene : ((p : Int) != (q : Int)) = false := by rw [hpq]; simp
          clear hx hy hp hq hpq
          go_wp2_with fail
          go_quiet ((first | (go_at_call 38; with_reducible exact Calls.quiet_of_same (C1.out _)) | (go_at_call 38; with_reducible exact Calls.quiet_of_same (C2.out _))))
          go_wp2_with fail
          go_roundw
          case rel => exact ⟨k + 1, by omega, by go_num, HN.out, below_drewN HL.out _⟩
          case measure => simp [intOf]; omega
        · have HF := Lib.hid (like_no hlt hlt2 (fun e => hpq (by rw [← hp, ← hq, e])))
          have ene : ((p : Int) != (q : Int)) = true := by rw [bne_iff_ne]; omega
          clear hx hy hp hq hpq
          go_wp2_with fail
          go_quiet ((first | (go_at_call 38; with_reducible exact Calls.quiet_of_same (C1.out _)) | (go_at_call 38; with_reducible exact Calls.quiet_of_same (C2.out _))))
          go_wp2_with fail
          go_ret
          rw [HF.out]
          exact ⟨rfl, below_drewN HL.out _⟩
      · obtain rfl : k = a.length := by omega
        have HE := Lib.hid (like_yes HT.out (Nat.le_refl _) (by rw [HLL.out]; exact Nat.le_refl _))
        go_wp2_with fail
        go_ret
        rw [HE.out]
        exact ⟨rfl, HL.out⟩
  · have hne : ((a.length : Int) != (b.length : Int)) = true := by rw [bne_iff_ne]; omega
    have HF := Lib.hid (like_len hl)
    clear hl
    go_enter Tryd.func15, Tryd.ntmps15
    go_wp2_with fail
    go_ret
    rw [HF.out]
    exact ⟨rfl, Below.refl _ _⟩

set_option maxHeartbeats 2000000 in
theorem rlike_any (a b : List UInt8) (w : World) (ha : a.length ≤ 1000000) (hb : b.length ≤ 1000000) :
    Calls Tryd.prog 24 #[sv a, sv b] w fun e w' => e = .returned (.bool (likeB a b)) ∧ Below w.heap.size w w' := by
  by_cases hl : a.length = b.length
  · have hne : ((a.length : Int) != (b.length : Int)) = false := by rw [hl]; simp
    have HLL := Lib.hid hl
    have HB := Lib.hid (Below.refl w.heap.size w)
    clear hl
    go_enter Tryd.func24, Tryd.ntmps24
    go_wp2_with fail
    go_loopw [5] (fun i wr => ∃ k : Nat, k ≤ a.length ∧ i = .int .i64 k ∧ (a.take k).map smallB = (b.take k).map smallB ∧ Below w.heap.size w wr) (fun i _ => a.length - (intOf i).toNat)
    case atStart => exact ⟨0, Nat.zero_le _, rfl, rfl, HB.out⟩
    case round =>
      obtain ⟨k, hk, rfl, ht, hbl⟩ := hrel
      have HT := Lib.hid ht
      have HL := Lib.hid hbl
      clear ht hbl
      by_cases hlt : k < a.length
      · have hlt2 : k < b.length := by have := HLL.out; omega
        obtain ⟨x, hx⟩ : ∃ x, (a.getD k 0).toNat = x := ⟨_, rfl⟩
        obtain ⟨y, hy⟩ : ∃ y, (b.getD k 0).toNat = y := ⟨_, rfl⟩
        obtain ⟨p, hp⟩ : ∃ p, (smallB (a.getD k 0)).toNat = p := ⟨_, rfl⟩
        obtain ⟨q, hq⟩ : ∃ q, (smallB (b.getD k 0)).toNat = q := ⟨_, rfl⟩
        have hxs : (((str a)[k]'(by simpa [ByteArray.size] using hlt)).toNat) = x := by rw [str_getD a k hlt, hx]
        have hys : (((str b)[k]'(by simpa [ByteArray.size] using hlt2)).toNat) = y := by rw [str_getD b k hlt2, hy]
        have C1 := Lib.hid (fun n => lower_c _ _ _ hx hp wr n)
        have C2 := Lib.hid (fun n => lower_c _ _ _ hy hq wr n)
        by_cases hpq : p = q
        · have HN := Lib.hid (like_next HT.out hlt hlt2 (UInt8.toNat_inj.1 (by rw [hp, hq, hpq])))
          have ene : ((p : Int) != (q : Int)) = false := by rw [hpq]; simp
          clear hx hy hp hq hpq
          go_wp2_with fail
          go_quiet ((first | (go_at_call 45; with_reducible exact Calls.quiet_of_same (C1.out _)) | (go_at_call 45; with_reducible exact Calls.quiet_of_same (C2.out _))))
          go_wp2_with fail
          go_roundw
          case rel => exact ⟨k + 1, by omega, by go_num, HN.out, below_drewN HL.out _⟩
          case measure => simp [intOf]; omega
        · have HF := Lib.hid (like_no hlt hlt2 (fun e => hpq (by rw [← hp, ← hq, e])))
          have ene : ((p : Int) != (q : Int)) = true := by rw [bne_iff_ne]; omega
          clear hx hy hp hq hpq
          go_wp2_with fail
          go_quiet ((first | (go_at_call 45; with_reducible exact Calls.quiet_of_same (C1.out _)) | (go_at_call 45; with_reducible exact Calls.quiet_of_same (C2.out _))))
          go_wp2_with fail
          go_ret
          rw [HF.out]
          exact ⟨rfl, below_drewN HL.out _⟩
      · obtain rfl : k = a.length := by omega
        have HE := Lib.hid (like_yes HT.out (Nat.le_refl _) (by rw [HLL.out]; exact Nat.le_refl _))
        go_wp2_with fail
        go_ret
        rw [HE.out]
        exact ⟨rfl, HL.out⟩
  · have hne : ((a.length : Int) != (b.length : Int)) = true := by rw [bne_iff_ne]; omega
    have HF := Lib.hid (like_len hl)
    clear hl
    go_enter Tryd.func24, Tryd.ntmps24
    go_wp2_with fail
    go_ret
    rw [HF.out]
    exact ⟨rfl, Below.refl _ _⟩

end Go.Proofs.YtkffdhdhjfbhjaaDoor
