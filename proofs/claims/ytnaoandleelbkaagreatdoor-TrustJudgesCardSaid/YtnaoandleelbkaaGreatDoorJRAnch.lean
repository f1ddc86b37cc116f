/-
  The reference's Anchored.
-/
import Derived.Test.YtnaoandleelbkaaGreatDoorJRLink
namespace Go.Proofs.YtnaoandleelbkaaGreatDoor
set_option linter.unusedSimpArgs false
set_option linter.unusedVariables false
open Go Go.RowKit
set_option maxRecDepth 100000

theorem anchI_iff {l : List Ct} {now : Int} {an : List (List UInt8)} {k m : Nat} (hm : m = k + 1) (hk : k < l.length) :
    AnchI l now an k ↔ linkedB (l.take m) = true ∧ an.contains (ctAt l k).sig = true ∧ ∀ x, x < m → dateB (ctAt l x) now = true := by
  subst hm
  have hlen : (l.take (k + 1)).length = k + 1 := by rw [List.length_take]; omega
  rw [linked_iff, hlen, List.contains_iff_mem]
  constructor
  · rintro ⟨_, h2, h3, h4⟩
    refine ⟨fun j hj => ?_, h4, fun x hx => h2 x (by omega)⟩
    rw [ctAt_take (by omega), ctAt_take (by omega)]
    exact h3 j (by omega)
  · rintro ⟨h1, h2, h3⟩
    refine ⟨hk, fun x hx => h3 x (by omega), fun j hj => ?_, h2⟩
    have := h1 j (by omega)
    rwa [ctAt_take (by omega), ctAt_take (by omega)] at this
theorem anch_false {l : List Ct} {now : Int} {an : List (List UInt8)} (h : ∀ i, i < l.length → ¬ AnchI l now an i) : anchB l now an = false := by
  cases hb : anchB l now an with
  | false => rfl
  | true =>
    obtain ⟨i, hi⟩ := anch_iff.1 hb
    exact absurd hi (h i hi.1)
theorem not_next {l : List Ct} {now : Int} {an : List (List UInt8)} {k m : Nat} (hm : m = k + 1) (h : ∀ i, i < k → ¬ AnchI l now an i) (h2 : ¬ AnchI l now an k) : ∀ i, i < m → ¬ AnchI l now an i := by
  intro i hi
  by_cases e : i = k
  · subst e; exact h2
  · exact h i (by omega)
set_option maxHeartbeats 16000000 in
theorem ranch_any {w : World} (l : List Ct) (A : Option Addr) (cp : Nat) (nv : Nat → Value) (now : Int) (an : List (List UInt8)) (B : Option Addr) (bc : Nat) (hr : CR w A l nv) (hs : shortR l) (hcp : l.length ≤ cp)
    (hx : SX w (.slice B an.length bc) an) (hl : an.length ≤ 1000000000) :
    Calls Tryz.prog 94 #[.slice A l.length cp, .int .i64 now, .slice B an.length bc] w fun e w' => e = .returned (.bool (anchB l now an)) ∧ Below w.heap.size w w' := by
  have HR := Lib.hid hr
  have HX := Lib.hid hx
  have HSH := Lib.hid hs
  have hll := hs.1
  obtain ⟨r, hre⟩ : ∃ r, r = anchB l now an := ⟨_, rfl⟩
  have HF := Lib.hid (show (∀ i, i < l.length → ¬ AnchI l now an i) → r = false by rw [hre]; exact anch_false)
  have HT := Lib.hid (show ∀ i, AnchI l now an i → r = true by rw [hre]; exact fun i h => anch_iff.2 ⟨i, h⟩)
  rw [← hre]
  clear hr hx hs hre
  go_enter Tryz.func94, Tryz.ntmps94
  go_wp2_with fail
  go_loopw [7] (fun i wr => ∃ k : Nat, k ≤ l.length ∧ i = .int .i64 (k : Int) ∧ (∀ j, j < k → ¬ AnchI l now an j) ∧ Below w.heap.size w wr) (fun i _ => l.length - (intOf i).toNat)
  case atStart => exact ⟨0, Nat.zero_le _, rfl, (fun j hj => by omega), Below.refl _ _⟩
  case round =>
    obtain ⟨k, hk, rfl, hno, hb⟩ := hrel
    have HNO := Lib.hid hno
    have HB := Lib.hid hb
    clear hno hb
    obtain ⟨m, hm⟩ : ∃ m, m = k + 1 := ⟨_, rfl⟩
    have hwk : IntKind.i64.wrap ((k : Int) + 1) = (m : Int) := by rw [show (k : Int) + 1 = (m : Int) by omega]; simp [IntKind.wrap, IntKind.bits, IntKind.signed]; omega
    by_cases hlt : k < l.length
    · have hlt' : (k : Int) < (l.length : Int) := by omega
      have hm0 : (0 : Int) ≤ (m : Int) := by omega
      have hmc : (m : Int) ≤ (cp : Int) := by omega
      obtain ⟨g, off, rfl, hg, hc0, _⟩ := HR.out.at hlt
      have HC0 := Lib.hid (fun W (h : Below w.heap.size w W) => (hc0.below h hg).c1)
      have htl : (l.take m).length = m := by rw [List.length_take]; omega
      have HLI := Lib.hid (show ∀ W, Below w.heap.size w W → ∀ c', Calls Tryz.prog 117 #[.slice (some ⟨g, off, none⟩) m c'] W (fun e w' => e = .returned (.bool (linkedB (l.take m))) ∧ Below W.heap.size W w') by
        intro W h c'
        have := @rlinked_any W (l.take m) (some ⟨g, off, none⟩) c' nv ((HR.out.step h).take m) (HSH.out.take m)
        rw [htl] at this; exact this)
      have HAN := Lib.hid (show ∀ W, Below w.heap.size w W → Calls Tryz.prog 149 #[sv (ctAt l k).sig, .slice B an.length bc] W (fun e w' => e = .returned (.bool (an.contains (ctAt l k).sig)) ∧ w' = W) from fun W h => ranchor_any (ctAt l k).sig an B bc (HX.out.step h) hl)
      have HI := Lib.hid (@anchI_iff l now an k m hm hlt)
      obtain ⟨sig, hsig⟩ : ∃ x, x = (ctAt l k).sig := ⟨_, rfl⟩
      rw [← hsig] at HC0 HAN HI
      obtain ⟨b1, hb1⟩ : ∃ x, x = linkedB (l.take m) := ⟨_, rfl⟩
      rw [← hb1] at HLI HI
      obtain ⟨b2, hb2⟩ : ∃ x, x = an.contains sig := ⟨_, rfl⟩
      rw [← hb2] at HAN HI
      have HM := Lib.hid hm
      have HNX := Lib.hid (fun h => not_next hm HNO.out h)
      have hml : m ≤ l.length := by omega
      have hkm : (k : Int) < (m : Int) := by omega
      clear hc0 htl hsig hb1 hb2
      cases b1 with
      | false =>
        have HN := Lib.hid (HNX.out (fun h => by have := (HI.out.1 h).1; cases this))
        clear hm
        go_wp2_with (first
          | (go_at_call 117; with_reducible refine (HLI.out _ HB.out _).mono ?_; rintro e w1 ⟨rfl, hx1⟩; have HB1 := Lib.hid (HB.out.trans (hx1.mono HB.out.size)); clear hx1))
        go_loopw [8, 9] (fun v j wq => v = .bool false ∧ j = .int .i64 0 ∧ wq = w1) (fun _ _ _ => 1)
        case atStart => exact ⟨rfl, rfl, rfl⟩
        case round =>
          obtain ⟨rfl, rfl, rfl⟩ := hrel
          have hk0 : (0 : Int) ≤ (k : Int) := by omega
          go_wp2_with fail
          go_roundw
          case rel => exact ⟨m, hml, rfl, HN.out, HB1.out⟩
          case measure => have := HM.out; simp [intOf]; omega
      | true =>
        cases b2 with
        | false =>
          have HN := Lib.hid (HNX.out (fun h => by have := (HI.out.1 h).2.1; cases this))
          clear hm
          go_wp2_with (first
            | (go_at_call 149; with_reducible refine (HAN.out _ HB1.out).mono ?_; rintro e w2 ⟨rfl, rfl⟩)
            | (go_at_call 117; with_reducible refine (HLI.out _ HB.out _).mono ?_; rintro e w1 ⟨rfl, hx1⟩; have HB1 := Lib.hid (HB.out.trans (hx1.mono HB.out.size)); clear hx1; have c1 := HC0.out _ HB1.out))
          go_loopw [8, 9] (fun v j wq => v = .bool false ∧ j = .int .i64 0 ∧ Below w.heap.size w wq) (fun _ _ _ => 1)
          case atStart => exact ⟨rfl, rfl, HB1.out⟩
          case round =>
            obtain ⟨rfl, rfl, hbq⟩ := hrel
            have HBQ := Lib.hid hbq
            clear hbq
            have hk0 : (0 : Int) ≤ (k : Int) := by omega
            go_wp2_with fail
            go_roundw
            case rel => exact ⟨m, hml, rfl, HN.out, HBQ.out⟩
            case measure => have := HM.out; simp [intOf]; omega
        | true =>
          clear hm
          go_wp2_with (first
            | (go_at_call 149; with_reducible refine (HAN.out _ HB1.out).mono ?_; rintro e w2 ⟨rfl, rfl⟩)
            | (go_at_call 117; with_reducible refine (HLI.out _ HB.out _).mono ?_; rintro e w1 ⟨rfl, hx1⟩; have HB1 := Lib.hid (HB.out.trans (hx1.mono HB.out.size)); clear hx1; have c1 := HC0.out _ HB1.out))
          go_loopw [8, 9] (fun v j wq => ∃ (b : Bool) (x : Nat), v = .bool b ∧ x ≤ m ∧ j = .int .i64 (x : Int) ∧ (b = true ↔ ∀ y, y < x → dateB (ctAt l y) now = true) ∧ Below w.heap.size w wq) (fun _ j _ => m - (intOf j).toNat)
          case atStart => exact ⟨true, 0, rfl, Nat.zero_le _, rfl, ⟨fun _ y hy => by omega, fun _ => rfl⟩, HB1.out⟩
          case round =>
            obtain ⟨b, x, rfl, hxm, rfl, hbx, hbq⟩ := hrel
            have HBX := Lib.hid hbx
            have HBQ := Lib.hid hbq
            clear hbx hbq
            by_cases hxk : x < m
            · have hxk' : (x : Int) ≤ (k : Int) := by have := HM.out; omega
              cases b with
              | false =>
                have HN := Lib.hid (HNX.out (fun h => by have := HBX.out.2 (fun y hy => (HI.out.1 h).2.2 y (by omega)); cases this))
                go_wp2_with fail
                go_roundw
                case rel => exact ⟨m, hml, rfl, HN.out, HBQ.out⟩
                case measure => have := HM.out; simp [intOf]; omega
              | true =>
                obtain ⟨g2, off2, e2, _, hcx, hsx⟩ := (HR.out.step HBQ.out).at (show x < l.length by omega)
                cases e2
                obtain ⟨a1, c1, e1⟩ := hsx.form
                rw [e1] at hcx
                obtain ⟨p0, p1, p2, p3, p4, p5⟩ := hcx
                have hxl : (x : Int) < (l.length : Int) := by omega
                have HD := Lib.hid (@rdates_any wr (ctAt l x) a1 (ctAt l x).names.length c1 now)
                unfold certV at HD
                obtain ⟨d, hd⟩ : ∃ d, d = dateB (ctAt l x) now := ⟨_, rfl⟩
                rw [← hd] at HD
                have HND := Lib.hid (show d = true ↔ ∀ y, y < x + 1 → dateB (ctAt l y) now = true by
                  rw [hd]
                  constructor
                  · intro h y hy
                    by_cases e : y = x
                    · subst e; exact h
                    · exact HBX.out.1 (by first | rfl | trivial) y (by omega)
                  · intro h; exact h x (by omega))
                clear hd e1 hsx
                go_wp2_with (go_at_call 92; with_reducible refine HD.out.mono ?_; rintro e w3 ⟨rfl, hb3⟩; have HB3 := Lib.hid (HBQ.out.trans (hb3.mono HBQ.out.size)); clear hb3)
                go_roundw
                case rel => exact ⟨d, x + 1, rfl, by omega, by go_num, HND.out, HB3.out⟩
                case measure => simp [intOf]; omega
            · obtain rfl : x = m := by omega
              have hxk' : ¬ (x : Int) ≤ (k : Int) := by have := HM.out; omega
              have hxk2 : decide ((x : Int) ≤ (k : Int)) = false := by rw [decide_eq_false_iff_not]; exact hxk'
              cases b with
              | false =>
                have HN := Lib.hid (HNX.out (fun h => by have := HBX.out.2 (HI.out.1 h).2.2; cases this))
                go_wp2_with fail
                go_roundw
                case rel => exact ⟨x, hml, rfl, HN.out, HBQ.out⟩
                case measure => have := HM.out; simp [intOf]; omega
              | true =>
                have HY := Lib.hid (HT.out k (HI.out.2 ⟨(by first | rfl | trivial), (by first | rfl | trivial), HBX.out.1 (by first | rfl | trivial)⟩))
                go_wp2_with fail
                go_ret
                rw [HY.out]
                exact ⟨rfl, HBQ.out⟩
    · obtain rfl : k = l.length := by omega
      have HY := Lib.hid (HF.out HNO.out)
      go_wp2_with fail
      go_ret
      rw [HY.out]
      exact ⟨rfl, HB.out⟩
end Go.Proofs.YtnaoandleelbkaaGreatDoor
