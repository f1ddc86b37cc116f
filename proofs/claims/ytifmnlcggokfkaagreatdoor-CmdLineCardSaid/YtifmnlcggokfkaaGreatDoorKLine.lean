/-
  The walk of CmdLine.
-/
import Derived.Test.YtifmnlcggokfkaaGreatDoorKWalk
namespace Go.Proofs.YtifmnlcggokfkaaGreatDoor
open Go Go.RowKit Go.Shelf
set_option maxRecDepth 100000

set_option maxHeartbeats 16000000 in
theorem cmdLine_walk (a : Cm) (u : Value) (b : Cm) (v : Value) (w : World) (hu : PR w u a.ps) (ia : IN a) (hv : PR w v b.ps) (ib : IN b) (hL : LW w) :
    Calls Tryz.prog 8 #[cmV a u, cmV b v] w fun e w' => e = .returned (.bool true) ∧ Below w.heap.size w w' := by
  obtain ⟨A, ca, rfl⟩ := hu.form
  obtain ⟨B, cb, rfl⟩ := hv.form
  have HU := Lib.hid hu
  have HV := Lib.hid hv
  have IA := Lib.hid ia
  have IB := Lib.hid ib
  obtain ⟨X, hX⟩ : ∃ X, X = (w.alloc (.cells #[.int .u8 (a.verb : Int), sv a.arg, .slice A a.ps.length ca] 29)).alloc (.cells #[.int .u8 (b.verb : Int), sv b.arg, .slice B b.ps.length cb] 29) := ⟨_, rfl⟩
  have HS := Lib.hid (show KS w [(w.heap.size + 1, #[.int .u8 (b.verb : Int), sv b.arg, .slice B b.ps.length cb]), (w.heap.size, #[.int .u8 (a.verb : Int), sv a.arg, .slice A a.ps.length ca])] X by
    rw [hX]; have := ((KS.start hL).alloc #[.int .u8 (a.verb : Int), sv a.arg, .slice A a.ps.length ca]).alloc #[.int .u8 (b.verb : Int), sv b.arg, .slice B b.ps.length cb]; rw [World.size_alloc] at this; exact this)
  clear hu hv ia ib hL
  go_enter Tryz.func8, Tryz.ntmps8
  go_wp2_with fail
  rw [← hX]
  clear hX
  refine (IA.out.ml _ X (HU.out.step HS.out.bl)).mono ?_
  rintro e w1 ⟨la, rfl, hb1, hs1⟩
  have SA := Lib.hid hs1
  have HS1 := Lib.hid (HS.out.step hb1)
  clear hs1 hb1 HS
  cases la with
  | true =>
    go_wp2_with fail
    refine (awake_any _ HS1.out.lw).mono ?_
    rintro e w2 ⟨rfl, hb2⟩
    have HS2 := Lib.hid (HS1.out.step hb2)
    clear hb2
    go_wp2
    go_ret
    exact ⟨rfl, HS2.out.bl⟩
  | false =>
  obtain ⟨q0, q1, q2⟩ := HS1.out.at0
  go_wp2_with fail
  refine (IB.out.ml _ w1 (HV.out.step HS1.out.bl)).mono ?_
  rintro e w2 ⟨lb, rfl, hb2, hs2⟩
  have SB := Lib.hid hs2
  have HS2 := Lib.hid (HS1.out.step hb2)
  clear hs2 hb2 q0 q1 q2 HS1
  cases lb with
  | true =>
    go_wp2_with fail
    refine (awake_any _ HS2.out.lw).mono ?_
    rintro e w3 ⟨rfl, hb3⟩
    have HS3 := Lib.hid (HS2.out.step hb3)
    clear hb3
    go_wp2
    go_ret
    exact ⟨rfl, HS3.out.bl⟩
  | false =>
  go_wp2_with fail
  refine (awake_any _ HS2.out.lw).mono ?_
  rintro e w3 ⟨rfl, hb3⟩
  have HS3 := Lib.hid (HS2.out.step hb3)
  clear hb3 HS2
  have SA := Lib.hid (SA.out (by simp))
  have SB := Lib.hid (SB.out (by simp))
  obtain ⟨p0, p1, p2⟩ := HS3.out.at1
  rcases show_cases a with ⟨ha0, ha1, hma, hla⟩ | ⟨n, hn, hka⟩
  · obtain ⟨t1, ht1⟩ : ∃ t, t = shownK a := ⟨_, rfl⟩
    have HKA := Lib.hid (show showK a = (t1, 0) by rw [ht1, ← ha1, ← ha0])
    have HT1 := Lib.hid ht1
    have hne : t1.isEmpty = false := by rw [ht1]; simpa using shown_ne hma
    have hl1 : t1.length ≤ 510 := by rw [ht1]; exact hla
    have HMA := Lib.hid hma
    have HLA := Lib.hid hla
    clear ht1 ha0 ha1 hma hla
    go_wp2_with fail
    refine (show_ok (HU.out.step HS3.out.bl) SA.out HS3.out.lw HKA.out).mono ?_
    rintro e w4 ⟨rfl, hb4⟩
    have HS4 := Lib.hid (HS3.out.step hb4)
    clear hb4 p0 p1 p2 HS3
    obtain ⟨q0, q1, q2⟩ := HS4.out.at0
    rcases show_cases b with ⟨hb0, hb1, hmb, hlb⟩ | ⟨n, hn, hkb⟩
    · obtain ⟨t2, ht2⟩ : ∃ t, t = shownK b := ⟨_, rfl⟩
      have HKB := Lib.hid (show showK b = (t2, 0) by rw [ht2, ← hb1, ← hb0])
      have HT2 := Lib.hid ht2
      have hl2 : t2.length ≤ 510 := by rw [ht2]; exact hlb
      have HMB := Lib.hid hmb
      have HLB := Lib.hid hlb
      clear ht2 hb0 hb1 hmb hlb
      go_wp2_with fail
      refine (show_ok (HV.out.step HS4.out.bl) SB.out HS4.out.lw HKB.out).mono ?_
      rintro e w5 ⟨rfl, hb5⟩
      have HS5 := Lib.hid (HS4.out.step hb5)
      clear hb5 q0 q1 q2 HS4
      go_wp2_with fail
      go_loopw [9] (fun i wr => ∃ k : Nat, k ≤ t1.length ∧ i = .int .i64 k ∧ wr = w5) (fun i _ => t1.length - (intOf i).toNat)
      case atStart => exact ⟨0, Nat.zero_le _, rfl, rfl⟩
      case round =>
        obtain ⟨k, hk, rfl, rfl⟩ := hrel
        by_cases hlt : k < t1.length
        · obtain ⟨c, hc⟩ : ∃ c, c = t1.getD k 0 := ⟨_, rfl⟩
          have hcs : (((str t1)[k]'(by simpa [ByteArray.size] using hlt)).toNat) = c.toNat := by rw [str_getD t1 k hlt, hc]
          have hcb : 32 ≤ c.toNat ∧ c.toNat ≤ 126 := by
            have hm : c ∈ shownK a := by rw [hc, HT1.out, List.getD_eq_getElem?_getD, List.getElem?_eq_getElem (by rw [← HT1.out]; exact hlt)]; exact List.getElem_mem _
            have := shown_bytes HMA.out c hm
            rw [UInt8.le_iff_toNat_le, UInt8.le_iff_toNat_le] at this
            exact this
          have hc1 : (((((str t1)[k]'(by simpa [ByteArray.size] using hlt)).toNat : Nat) : Int) < 32) = False := by rw [hcs]; simp; omega
          have hc2 : ((126 : Int) < ((((str t1)[k]'(by simpa [ByteArray.size] using hlt)).toNat : Nat) : Int)) = False := by rw [hcs]; simp; omega
          have hk1 : (0 : Int) ≤ (k : Int) := by omega
          have hk2 : (k : Int) < (t1.length : Int) := by omega
          clear hc hcs hcb
          go_wp2_with fail
          go_roundw
          case rel => exact ⟨k + 1, by omega, by go_num, by simp⟩
          case measure => simp [intOf]; omega
        · obtain rfl : k = t1.length := by omega
          obtain ⟨q, hq⟩ : ∃ q, (t1 == t2) = q := ⟨_, rfl⟩
          have HSA := Lib.hid (show sameK a b = q by
            rw [← hq, HT1.out, HT2.out]
            by_cases hab : a = b
            · rw [hab]; simp [(sameK_iff b b).2 rfl]
            · rw [show sameK a b = false by rw [Bool.eq_false_iff]; exact fun e => hab ((sameK_iff a b).1 e)]
              symm
              rw [beq_eq_false_iff_ne]
              exact fun e => hab (shown_inj HMA.out HMB.out HLA.out HLB.out e))
          have HGV := Lib.hid (show a.verb ≠ b.verb → (gr t1 == gr t2) = false from fun hne => by
            rw [beq_eq_false_iff_ne, HT1.out, HT2.out]
            exact fun e => hne (great_verb HMA.out HMB.out e))
          obtain ⟨p0, p1, p2⟩ := HS5.out.at1
          obtain ⟨q0, q1, q2⟩ := HS5.out.at0
          have HQ := Lib.hid hq
          clear hq
          go_wp2_with fail
          refine (sameK_any a b _ _ wr (HU.out.step HS5.out.bl) (HV.out.step HS5.out.bl) SA.out.p6 SB.out.p6).mono ?_
          rintro e w6 ⟨rfl, hb6⟩
          rw [HSA.out]
          have HS6 := Lib.hid (HS5.out.step hb6)
          clear hb6 p0 p1 p2 q0 q1 q2
          obtain ⟨p0, p1, p2⟩ := HS6.out.at1
          obtain ⟨q0, q1, q2⟩ := HS6.out.at0
          have hq := HQ.out
          clear HQ
          by_cases hvv : a.verb = b.verb
          · have e1 : ((a.verb : Int) == (b.verb : Int)) = true := by rw [hvv]; simp
            cases q
            all_goals
              go_wp2_with fail
              go_ret
              exact ⟨rfl, HS6.out.bl⟩
          · have e1 : ((a.verb : Int) == (b.verb : Int)) = false := by rw [beq_eq_false_iff_ne]; omega
            have eg := HGV.out hvv
            cases q
            all_goals
              go_wp2_with fail
              refine (rGreat_any t1 w6 (by omega)).mono ?_
              rintro e w7 ⟨rfl, hb7⟩
              have HS7 := Lib.hid (HS6.out.step hb7)
              clear hb7
              go_wp2_with fail
              refine (rGreat_any t2 w7 (by omega)).mono ?_
              rintro e w8 ⟨rfl, hb8⟩
              have HS8 := Lib.hid (HS7.out.step hb8)
              clear hb8
              go_wp2_with fail
              go_ret
              exact ⟨rfl, HS8.out.bl⟩
    · have e1 : ((n : Int) != 0) = true := by rw [bne_iff_ne]; omega
      go_wp2_with fail
      refine (show_ok (HV.out.step HS4.out.bl) SB.out HS4.out.lw hkb).mono ?_
      rintro e w5 ⟨rfl, hb5⟩
      have HS5 := Lib.hid (HS4.out.step hb5)
      clear hb5 q0 q1 q2 HS4
      go_wp2_with fail
      go_ret
      exact ⟨rfl, HS5.out.bl⟩
  · have e1 : ((n : Int) != 0) = true := by rw [bne_iff_ne]; omega
    have e2 : ((n : Int) == 0) = false := by rw [beq_eq_false_iff_ne]; omega
    go_wp2_with fail
    refine (show_ok (HU.out.step HS3.out.bl) SA.out HS3.out.lw hka).mono ?_
    rintro e w4 ⟨rfl, hb4⟩
    have HS4 := Lib.hid (HS3.out.step hb4)
    clear hb4 p0 p1 p2 HS3
    obtain ⟨q0, q1, q2⟩ := HS4.out.at0
    obtain ⟨t2, m, hkb⟩ : ∃ t m, showK b = (t, m) := ⟨_, _, rfl⟩
    go_wp2_with fail
    refine (show_ok (HV.out.step HS4.out.bl) SB.out HS4.out.lw hkb).mono ?_
    rintro e w5 ⟨rfl, hb5⟩
    have HS5 := Lib.hid (HS4.out.step hb5)
    clear hb5 q0 q1 q2 HS4
    go_wp2_with fail
    go_ret
    exact ⟨rfl, HS5.out.bl⟩
end Go.Proofs.YtifmnlcggokfkaaGreatDoor
