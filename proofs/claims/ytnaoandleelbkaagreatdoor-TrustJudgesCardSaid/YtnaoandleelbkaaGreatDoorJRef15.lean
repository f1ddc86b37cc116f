/-
  The reference's Host, Dates, anchor.
-/
import Derived.Test.YtnaoandleelbkaaGreatDoorJRRest
import Derived.Test.YtnaoandleelbkaaGreatDoorJWm
namespace Go.Proofs.YtnaoandleelbkaaGreatDoor
set_option linter.unusedSimpArgs false
set_option linter.unusedVariables false
open Go Go.RowKit
set_option maxRecDepth 100000

abbrev cellsRC (c : Ct) (nv : Value) : Obj := .cells #[sv c.key, sv c.sig, nv, .int .i64 c.fr, .int .i64 c.un, .bool c.ca] 39
set_option maxHeartbeats 2000000 in
theorem rdates_any {w : World} (c : Ct) (A : Option Addr) (m cp : Nat) (now : Int) :
    Calls Tryz.prog 92 #[certV c (.slice A m cp), .int .i64 now] w fun e w' => e = .returned (.bool (dateB c now)) ∧ Below w.heap.size w w' := by
  obtain ⟨key, sig, names, fr, un, ca⟩ := c
  unfold certV
  by_cases h1 : fr ≤ now
  · have HF := Lib.hid (show dateB ⟨key, sig, names, fr, un, ca⟩ now = decide (now ≤ un) by unfold dateB; simp [h1])
    have h1' : decide (fr ≤ now) = true := by simp [h1]
    go_enter Tryz.func92, Tryz.ntmps92
    go_wp2_with fail
    go_ret
    rw [HF.out]
    exact ⟨rfl, below_alloc _ _⟩
  · have HF := Lib.hid (show dateB ⟨key, sig, names, fr, un, ca⟩ now = false by unfold dateB; simp [h1])
    have h1' : decide (fr ≤ now) = false := by simp [h1]
    go_enter Tryz.func92, Tryz.ntmps92
    go_wp2_with fail
    go_ret
    rw [HF.out]
    exact ⟨rfl, below_alloc _ _⟩
set_option maxHeartbeats 2000000 in
theorem ranchor_any {w : World} (s : List UInt8) (an : List (List UInt8)) (B : Option Addr) (bc : Nat) (hx : SX w (.slice B an.length bc) an) (hl : an.length ≤ 1000000000) :
    Calls Tryz.prog 149 #[sv s, .slice B an.length bc] w fun e w' => e = .returned (.bool (an.contains s)) ∧ w' = w := by
  have HX := Lib.hid hx
  have hz := str_size s
  obtain ⟨r, hr⟩ : ∃ r, r = an.contains s := ⟨_, rfl⟩
  have HR := Lib.hid hr
  rw [← hr]
  clear hx hr
  go_enter Tryz.func149, Tryz.ntmps149
  go_wp2_with fail
  go_loop [5] (fun i => ∃ k : Nat, k ≤ an.length ∧ i = .int .i64 (k : Int) ∧ (an.take k).contains s = false) (fun i => an.length - (intOf i).toNat)
  case atStart => exact ⟨0, Nat.zero_le _, rfl, rfl⟩
  case round =>
    obtain ⟨k, hk, rfl, hc⟩ := hrel
    have HC := Lib.hid hc
    clear hc
    by_cases hlt : k < an.length
    · obtain ⟨g, off, rfl, _, c0⟩ := HX.out.at hlt
      have hlt' : (k : Int) < (an.length : Int) := by omega
      have HT := Lib.hid (take_text hlt)
      have HM := Lib.hid (mem_getD hlt)
      obtain ⟨x, hx⟩ : ∃ x, x = an.getD k [] := ⟨_, rfl⟩
      rw [← hx] at c0 HT HM
      have hzx := str_size x
      clear hx
      by_cases he : x = s
      · have heq : (x == s) = true := by simpa using he
        have HF := Lib.hid (show r = true by rw [HR.out, List.contains_iff_mem, ← he]; exact HM.out)
        clear he
        go_wp2_with fail
        go_ret
        rw [HF.out]
        exact ⟨rfl, rfl⟩
      · have heq : (x == s) = false := by simpa using he
        have HN := Lib.hid (show (an.take (k + 1)).contains s = false by
          rw [HT.out]
          have := HC.out
          rw [List.contains_eq_mem, decide_eq_false_iff_not] at this ⊢
          rw [List.mem_append, List.mem_singleton]
          rintro (h | h)
          · exact this h
          · exact he h.symm)
        clear he
        go_wp2_with fail
        go_round
        case rel => exact ⟨k + 1, by omega, by go_num, HN.out⟩
        case measure => simp [intOf]; omega
    · obtain rfl : k = an.length := by omega
      have HF := Lib.hid (show r = false by have := HC.out; rw [List.take_length] at this; rw [HR.out]; exact this)
      go_wp2_with fail
      go_ret
      rw [HF.out]
      exact ⟨rfl, rfl⟩
theorem index_byteR {s : List UInt8} {k : Nat} (hk : k < s.length) {b : UInt8} (hb : s.getD k 0 = b) : (((str s)[k]'(by simpa [ByteArray.size] using hk)).toNat) = b.toNat := by rw [str_getD s k hk, hb]
theorem match_cases {s host : List UInt8} (h : matchL s host = true) : (starred s = false ∧ ownsB host s = true ∧ 1 ≤ s.length ∧ s.getD 0 0 ≠ 42) ∨ (starred s = true ∧ 1 ≤ s.length ∧ s.getD 0 0 = 42 ∧ parentL host = some (s.drop 2) ∧ ownsB host s = decide (2 ≤ (labelsL (s.drop 2)).length)) := by
  cases hst : starred s with
  | false =>
    refine .inl ⟨rfl, ?_, ?_⟩
    · unfold ownsB countsB; rw [hst, h]; rfl
    · rw [match_bare hst, Bool.and_eq_true, beq_iff_eq] at h
      obtain ⟨h1, rfl⟩ := h
      have hb := may_bytes h1
      cases s with
      | nil => exact absurd h1 (by decide)
      | cons a t => exact ⟨by simp, fun e => (hb a (by simp)).1 e⟩
  | true =>
    refine .inr ⟨rfl, ?_, ?_, ?_, ?_⟩
    · cases s with
      | nil => cases hst
      | cons a t => simp
    · match s, hst with
      | a :: t, hst =>
        unfold starred at hst
        simp [List.isPrefixOf] at hst
        exact hst.1.symm
    · rw [match_starred hst, beq_iff_eq] at h; exact h
    · unfold ownsB countsB; rw [hst, h]; simp
set_option maxHeartbeats 4000000 in
theorem rhost_any {w : World} (c : Ct) (A : Option Addr) (cp : Nat) (host : List UInt8) (hx : SX w (.slice A c.names.length cp) c.names) (hs : shortC c) (hh : host.length ≤ 1000000) :
    Calls Tryz.prog 93 #[certV c (.slice A c.names.length cp), sv host] w fun e w' => e = .returned (.bool (hostB c host)) ∧ Below w.heap.size w w' := by
  obtain ⟨key, sig, names, fr, un, ca⟩ := c
  obtain ⟨s1, s2, s3, s4⟩ := hs
  simp only at s3 s4 hx
  have hb0 := below_alloc w (cellsRC ⟨key, sig, names, fr, un, ca⟩ (.slice A names.length cp))
  have hc0 : (w.alloc (cellsRC ⟨key, sig, names, fr, un, ca⟩ (.slice A names.length cp))).cell? ⟨w.heap.size, 2, none⟩ = some (.slice A names.length cp) := by rw [cellAt (heap_alloc_new w _)]; rfl
  obtain ⟨W, hW⟩ : ∃ W, W = w.alloc (cellsRC ⟨key, sig, names, fr, un, ca⟩ (.slice A names.length cp)) := ⟨_, rfl⟩
  rw [← hW] at hb0 hc0
  have hlt0 : w.heap.size < W.heap.size := by rw [hW]; simp
  have HX := Lib.hid (hx.step hb0)
  have HB := Lib.hid hb0
  have HW := Lib.hid hW
  have HC0 := Lib.hid hc0
  have HL0 := Lib.hid hlt0
  have HN := Lib.hid s4
  show Calls Tryz.prog 93 #[.agg #[sv key, sv sig, .slice A names.length cp, .int .i64 fr, .int .i64 un, .bool ca], sv host] w fun e w' => e = .returned (.bool (names.any (ownsB host))) ∧ Below w.heap.size w w'
  have HM := Lib.hid (fun s (h : s.length ≤ 1000000) W => rmatch_any s host W h hh)
  have HP := Lib.hid (fun W => rparent_any host W hh)
  clear hb0 hc0 hW hx s4 s1 s2
  go_enter Tryz.func93, Tryz.ntmps93
  go_wp2_with fail
  rw [← HW.out]
  go_loopw [5] (fun i wr => ∃ k : Nat, k ≤ names.length ∧ i = .int .i64 (k : Int) ∧ (names.take k).any (ownsB host) = false ∧ Below W.heap.size W wr) (fun i _ => names.length - (intOf i).toNat)
  case atStart => exact ⟨0, Nat.zero_le _, rfl, rfl, Below.refl _ _⟩
  case round =>
    obtain ⟨k, hk, rfl, hall, hb⟩ := hrel
    have b0 := (hb.cell (p := ⟨w.heap.size, 2, none⟩) HL0.out).trans HC0.out
    have HA := Lib.hid hall
    have HBB := Lib.hid hb
    by_cases hlt : k < names.length
    · obtain ⟨g, off, rfl, _, c0⟩ := (HX.out.step hb).at hlt
      have hlt' : (k : Int) < (names.length : Int) := by omega
      have hal := any_take (p := ownsB host) hlt
      rw [HA.out, Bool.false_or] at hal
      have hmem := mem_getD hlt
      obtain ⟨s, hs⟩ : ∃ s, s = names.getD k [] := ⟨_, rfl⟩
      rw [← hs] at c0 hal hmem
      have hsl := HN.out s hmem
      have hz := str_size s
      have HMM := Lib.hid (HM.out s hsl wr)
      have hown : ownsB host s = true → names.any (ownsB host) = true := fun h => List.any_eq_true.2 ⟨s, hmem, h⟩
      clear hs hmem hall hb
      cases hm : matchL s host with
      | false =>
        have HAL := Lib.hid (show (List.take (k + 1) names).any (ownsB host) = false by rw [hal]; unfold ownsB; rw [hm, Bool.and_false])
        rw [hm] at HMM
        clear hal hm hown
        go_wp2_with (go_at_call 146; refine HMM.out.mono ?_; rintro e w1 ⟨rfl, hb1⟩)
        go_roundw
        case rel => exact ⟨k + 1, by omega, by go_num, HAL.out, HBB.out.trans (hb1.mono HBB.out.size)⟩
        case measure => simp [intOf]; omega
      | true =>
        rw [hm] at HMM
        rcases match_cases hm with ⟨hst, ho, h1, h42⟩ | ⟨hst, h1, h42, hpa, ho⟩
        · have HO := Lib.hid (hown ho)
          obtain ⟨b, hb⟩ : ∃ b, s.getD 0 0 = b := ⟨_, rfl⟩
          have hcs := index_byteR (k := 0) (by omega) hb
          have hl0 : (0 : Int) < (s.length : Int) := by omega
          rw [hb] at h42
          have hb2 : ¬ (b.toNat : Int) = 42 := fun e => h42 (u8_eq (by show b.toNat = 42; omega))
          have hb3 : ((b.toNat : Int) != 42) = true := by rw [bne_iff_ne]; exact hb2
          clear hal hm hown ho hst hb h42
          go_wp2_with (go_at_call 146; refine HMM.out.mono ?_; rintro e w1 ⟨rfl, hb1⟩)
          go_ret
          rw [HO.out]
          exact ⟨rfl, HB.out.trans ((HBB.out.trans (hb1.mono HBB.out.size)).mono HB.out.size)⟩
        · have hcs := index_byteR (k := 0) (by omega) h42
          rw [show (42 : UInt8).toNat = 42 from rfl] at hcs
          have hl0 : (0 : Int) < (s.length : Int) := by omega
          have hql : (s.drop 2).length ≤ 1000000 := by rw [List.length_drop]; omega
          have HPA := Lib.hid (fun W => HP.out W)
          rw [hpa] at HPA
          unfold optV at HPA
          have HLB := Lib.hid (fun W => rlabels_any (s.drop 2) W hql)
          obtain ⟨n, hn⟩ : ∃ n, n = (labelsL (s.drop 2)).length := ⟨_, rfl⟩
          have HNN := Lib.hid hn
          obtain ⟨q, hq⟩ : ∃ q, q = s.drop 2 := ⟨_, rfl⟩
          rw [← hn] at ho
          rw [← hq] at HPA HLB HNN
          by_cases h2 : 2 ≤ n
          · have HO := Lib.hid (hown (by rw [ho]; simpa using h2))
            have h2' : (2 : Int) ≤ (n : Int) := by omega
            clear hal hm hown ho hst h42 hpa hql hn hq h2
            go_wp2_with (first
              | (go_at_call 146; refine HMM.out.mono ?_; rintro e w1 ⟨rfl, hb1⟩)
              | (go_at_call 147; refine (HPA.out _).mono ?_; rintro e w2 ⟨rfl, hb2⟩)
              | (go_at_call 148; refine (HLB.out _).mono ?_; rintro e w3 ⟨v, rfl, hv⟩; have hb3 := hv.1; obtain ⟨A, cp, rfl⟩ := hv.form; rw [← HNN.out]; clear hv))
            go_ret
            rw [HO.out]
            have e1 := HBB.out.trans (hb1.mono HBB.out.size)
            have e2 := e1.trans (hb2.mono e1.size)
            exact ⟨rfl, HB.out.trans ((e2.trans (hb3.mono e2.size)).mono HB.out.size)⟩
          · have HAL := Lib.hid (show (List.take (k + 1) names).any (ownsB host) = false by rw [hal, ho]; simpa using h2)
            have h2' : ¬ (2 : Int) ≤ (n : Int) := by omega
            clear hal hm hown ho hst h42 hpa hql hn hq h2
            go_wp2_with (first
              | (go_at_call 146; refine HMM.out.mono ?_; rintro e w1 ⟨rfl, hb1⟩)
              | (go_at_call 147; refine (HPA.out _).mono ?_; rintro e w2 ⟨rfl, hb2⟩)
              | (go_at_call 148; refine (HLB.out _).mono ?_; rintro e w3 ⟨v, rfl, hv⟩; have hb3 := hv.1; obtain ⟨A, cp, rfl⟩ := hv.form; rw [← HNN.out]; clear hv))
            go_roundw
            case rel =>
              have e1 := HBB.out.trans (hb1.mono HBB.out.size)
              have e2 := e1.trans (hb2.mono e1.size)
              exact ⟨k + 1, by omega, by go_num, HAL.out, e2.trans (hb3.mono e2.size)⟩
            case measure => simp [intOf]; omega
    · obtain rfl : k = names.length := by omega
      rw [List.take_length] at HA
      go_wp2_with fail
      go_ret
      rw [HA.out]
      exact ⟨rfl, HB.out.trans (HBB.out.mono HB.out.size)⟩
end Go.Proofs.YtnaoandleelbkaaGreatDoor
