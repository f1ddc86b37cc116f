/-
  PROVED: LinePlays returns true for every input: whatever comes to a framer, with Resets between: each answer, and what is left, is what byte by byte comes out; what is told may be written over; a copy goes its own way (P1.1), and its arguments read as they did.
  Conditions: none beyond the statement's own (each argument takes at most 2^47 - 4096 bytes).
-/
import Derived.Test.YtgjngldkeiblbaaPlay
import Derived.Deep.Grids
namespace Go.Proofs.Ytgjngldkeiblbaa
open Go Go.RowKit Go.Shelf Go.WideShapes Go.ChangeShapes Go.ChangeAt
open Go.ChangeMaps (open_string shut_string)

/-- The slice of bools that came in. -/
def BR (W : World) (A : Option Addr) (n : Nat) (B : Nat → Bool) : Prop :=
  0 < n → ∃ b o, A = some ⟨b, o, none⟩ ∧ ∀ k, k < n → W.cell? ⟨b, o + k, none⟩ = some (.bool (B k))

theorem BR.below {W W' : World} {A : Option Addr} {n : Nat} {B : Nat → Bool} (h : BR W A n B) (hb : Below W.heap.size W W') : BR W' A n B := fun h0 => by
  obtain ⟨b, o, e, hc⟩ := h h0
  exact ⟨b, o, e, fun k hk => (grownBy_of_below hb none).cell (hc k hk) (by simp)⟩

/-- Between two parts. -/
def PI (w : World) (m bf bx : Nat) (W : World) : Prop := ∃ l d, PS w m bf bx l d l d W ∧ Good m l d

/-- A row of texts of one's own, some of them written over. -/
def Spoil (W5 : World) (A : Option Addr) (n c : Nat) (W : World) : Prop :=
  W5.grownBy W (Value.slice A n c).ownBlock ∧ (0 < n → ∃ g cur, A = some ⟨g, 0, none⟩ ∧ W.heap[g]? = some (.cells cur 9 (0, 0)) ∧ n ≤ cur.size)

theorem spoil_start {W : World} {base c : Nat} {A : Option Addr} {o : List (List UInt8)} (h : Ows W base (.slice A o.length c) o) : Spoil W A o.length c W := by
  refine ⟨World.grownBy.refl _ _, fun h0 => ?_⟩
  rcases h.2 with ⟨_, hn⟩ | ⟨g, cap, cur, e, _, hc, hn, _, hs, _⟩
  · omega
  · obtain ⟨rfl, rfl⟩ : A = some ⟨g, 0, none⟩ ∧ c = cap := by simpa using e
    exact ⟨g, cur, rfl, hc, by omega⟩

theorem Spoil.cell {W5 W : World} {A : Option Addr} {n c j : Nat} (h : Spoil W5 A n c W) (hj : j < n) : ∃ g, A = some ⟨g, 0, none⟩ ∧ ∃ v, W.cell? ⟨g, j, none⟩ = some v ∧ W.frozen? ⟨g, j, none⟩ = false := by
  obtain ⟨g, cur, e, hc, hn⟩ := h.2 (by omega)
  refine ⟨g, e, cur[j]'(by omega), ?_, freeAt hc j⟩
  rw [cellAt hc, Array.getElem?_eq_getElem (by omega)]

theorem Spoil.step {W5 W : World} {g n c j : Nat} (h : Spoil W5 (some ⟨g, 0, none⟩) n c W) (hj : j < n) (x : List UInt8) : Spoil W5 (some ⟨g, 0, none⟩) n c (W.setCell ⟨g, j, none⟩ (sv x)) := by
  obtain ⟨g', cur, e, hc, hn⟩ := h.2 (by omega)
  obtain rfl : g = g' := by simpa using e
  refine ⟨grown_trans h.1 (grownBy_cell _ _ _ _), fun _ => ⟨g, _, rfl, heap_setCell_same _ _ _ _ _ _ hc, by simpa using hn⟩⟩

set_option maxRecDepth 100000 in
set_option maxHeartbeats 8000000 in
theorem plays_good (m : Nat) (xs : List (List UInt8)) (A : Option Addr) (c : Nat) (A2 : Option Addr) (n2 c2 : Nat) (B : Nat → Bool) (w : World) (hm2 : 2 ≤ m) (hm5 : m ≤ 512) (h : SR w (.slice A xs.length c) xs) (hlb : longB xs = false) (hn2 : n2 ≤ 9223372036854775807) (hB : BR w A2 n2 B) (hML : ML w) :
    Calls Try.prog 4 #[.int .i64 m, .slice A xs.length c, .slice A2 n2 c2] w fun e w' => e = .returned (.bool true) ∧ Below w.heap.size w w' := by
  obtain ⟨hj, hxl, hxx⟩ := short_of hlb
  have HS := Lib.hid h
  have HLB := Lib.hid hlb
  have HM := Lib.hid hML
  have HXX := Lib.hid hxx
  have HLX := Lib.hid (show ∀ x ∈ xs, x.length ≤ 9223372036854775807 from fun x hx => by have := hxx x hx; omega)
  have HBR := Lib.hid hB
  clear h hlb hML hxx hB
  go_enter Try.func4, Try.ntmps4
  go_wp2_with fail
  refine (long_is xs _ w HS.out false HLB.out (by omega) HLX.out).mono ?_
  rintro e w' ⟨rfl, rfl⟩
  go_wp2_with fail
  refine (new_yes m w hm2 hm5).mono ?_
  rintro e w1 ⟨rfl, hw1⟩
  have hb1 : Below w.heap.size w w1 := by rw [hw1]; exact below_alloc _ _
  have hf1 : Fr w1 w.heap.size m [] false := by rw [hw1]; exact new_fr m w
  have HM1 := Lib.hid (HM.out.below hb1)
  have HB1 := Lib.hid hb1
  have HF1 := Lib.hid hf1
  clear hw1 hb1 hf1
  go_wp2_with fail
  refine (refNew_yes m w1 hm2 hm5).mono ?_
  rintro e w2 ⟨rfl, hw2⟩
  have hps : PS w m w.heap.size w1.heap.size [] false [] false w2 := by
    have hb2 : Below w1.heap.size w1 w2 := by rw [hw2]; exact below_alloc _ _
    exact { pos := HM.out.pos, bel := HB1.out.trans (hb2.mono HB1.out.size), ml := HM1.out.below hb2, lef := Nat.le_refl _, lex := HB1.out.size, f := HF1.out.below hb2, x := by rw [hw2]; exact heap_alloc_new w1 _ }
  have HPI := Lib.hid (show PI w m w.heap.size w1.heap.size w2 from ⟨[], false, hps, good_nil (by omega)⟩)
  --LOOP
  clear hw2 hps
  go_wp2_with fail
  go_loopw [11] (fun i wr => ∃ k : Nat, k ≤ xs.length ∧ i = .int .i64 k ∧ PI w m w.heap.size w1.heap.size wr) (fun i _ => xs.length - (intOf i).toNat)
  case atStart => exact ⟨0, Nat.zero_le _, rfl, HPI.out⟩
  case round =>
    obtain ⟨k, hk, rfl, l, d, hps, hgood⟩ := hrel
    by_cases hlt : k < xs.length
    · by_cases h2 : k < n2
      · obtain ⟨b2, q2, rfl, hcB⟩ := HBR.out (by omega)
        have hcl : wr.cell? ⟨b2, q2 + k, none⟩ = some (.bool (B k)) := (hps.bel.cell (p := ⟨b2, q2 + k, none⟩) (block_lt_of_cell (hcB k h2))).trans (hcB k h2)
        have HPS0 := Lib.hid hps
        have HG0 := Lib.hid hgood
        clear hps hgood hcB
        cases hbk : B k with
        | true =>
          rw [hbk] at hcl
          clear hbk
          go_wp2_with fail
          refine (play_reset HPS0.out).mono ?_
          rintro e W0 ⟨rfl, hp⟩
          obtain ⟨_, z1, z2, g1, g2⟩ := hp.x.cells
          have HPR := Lib.hid hp.resetX
          clear hp hcl
          go_wp2_with fail
          obtain ⟨W, hW⟩ : ∃ W, W = (W0.setCell ⟨w1.heap.size, 2, none⟩ (.bool false)).setCell ⟨w1.heap.size, 1, none⟩ (sv []) := ⟨_, rfl⟩
          have HPS := Lib.hid (show PS w m w.heap.size w1.heap.size [] false [] false W by rw [hW]; exact HPR.out)
          have HG := Lib.hid (show Good m [] false from good_nil (by omega))
          rw [← hW]
          clear hW z1 z2 g1 g2 HPR
          have hl512 : ([] : List UInt8).length ≤ 100000 := by have := HG.out.1; omega
          refine (play_copyF HPS.out hl512).mono ?_
          rintro e W1 ⟨rfl, hsz, hp, hf⟩
          have HP1 := Lib.hid hp
          have HC1 := Lib.hid hf
          have HZ1 := Lib.hid hsz
          clear hsz hp hf
          go_wp2_with fail
          refine (play_copyX HP1.out HC1.out HPS.out.bel.size).mono ?_
          rintro e W2 ⟨rfl, hp, hq⟩
          have N1 := Lib.hid (show w.heap.size ≠ W.heap.size by have := HPS.out.bfl; omega)
          have N2 := Lib.hid (show w.heap.size ≠ W1.heap.size by have := HPS.out.bfl; have := HZ1.out; omega)
          have N3 := Lib.hid (show w1.heap.size ≠ W.heap.size by have := HPS.out.bxl; omega)
          have N4 := Lib.hid (show w1.heap.size ≠ W1.heap.size by have := HPS.out.bxl; have := HZ1.out; omega)
          have HP2 := Lib.hid hp
          have HQ2 := Lib.hid hq
          clear hp hq
          obtain ⟨b1, p1, rfl, hc1⟩ := sr_addr (HS.out.below HP2.out.bel) (by omega)
          obtain ⟨p, hx⟩ : ∃ p, p = xs[k] := ⟨_, rfl⟩
          have e1 : W2.cell? ⟨b1, p1 + k, none⟩ = some (sv p) := by rw [hx]; exact hc1 k hlt
          have hpl : p.length ≤ 6000 := by rw [hx]; exact HXX.out _ (List.getElem_mem hlt)
          obtain ⟨o, l', d', en, hfd⟩ : ∃ o l' d' en, fed m false ([] : List UInt8) p = (o, l', d', en) := ⟨_, _, _, _, rfl⟩
          have hol := fed_count hfd
          have HG' := Lib.hid (HG.out.fed (by omega) hfd)
          have HFD := Lib.hid hfd
          have HX := Lib.hid hx
          clear hc1 hx hfd
          go_wp2_with fail
          refine (play_f HP2.out HG.out hm2 hm5 (by omega) HFD.out).mono ?_
          rintro e W3 ⟨Aa, ca, rfl, hg, hp, ho⟩
          have HB23 := Lib.hid (show W2.heap.size ≤ W3.heap.size from hg.size)
          have HP3 := Lib.hid hp
          have HQ3 := Lib.hid (HQ2.out.byF HP2.out N1.out N2.out hg)
          have HO3 := Lib.hid ho
          have e2 : W3.cell? ⟨b1, p1 + k, none⟩ = some (sv p) := by
            have hs3 := HS.out.below HP3.out.bel
            obtain ⟨b', o', ea, hc⟩ := sr_addr hs3 (by omega)
            obtain ⟨rfl, rfl⟩ : b1 = b' ∧ p1 = o' := by simpa using ea
            rw [HX.out]; exact hc k hlt
          clear hg hp ho e1
          go_wp2_with fail
          refine (play_x HP3.out HG.out hm5 (by omega) HFD.out).mono ?_
          rintro e W4 ⟨Ab, cb, rfl, hg, hp, ho⟩
          have HP4 := Lib.hid hp
          have HQ4 := Lib.hid (HQ3.out.byX HP3.out N3.out N4.out hg)
          have HO4 := Lib.hid (HO3.out.kept hg (fun r e => by cases e; exact .inl (HP2.out.bxl)))
          have HSA4 := Lib.hid (SR.of_own HO4.out)
          have HSB4 := Lib.hid (SR.of_own ho)
          clear hg hp ho e2
          obtain ⟨_, x1, x2, _, _⟩ := HP4.out.x.cells
          obtain ⟨_, y1, y2, _, _⟩ := HQ4.out.x.cells
          go_wp2_with fail
          go_big_quiet (first
            | (go_at_call 17; with_reducible exact same_q HSA4.out HSB4.out (by omega) _)
            | (go_at_call 13; with_reducible exact left_q HP4.out.f _)
            | (go_at_call 13; with_reducible exact left_q HQ4.out.f _)
            | (go_at_call 14; with_reducible exact dead_q HP4.out.f _)
            | (go_at_call 14; with_reducible exact dead_q HQ4.out.f _))
          clear x1 x2 y1 y2
          obtain ⟨W5, hW5⟩ : ∃ W5, W5 = W4.drewN nq := ⟨_, rfl⟩
          rw [← hW5]
          have HP5 := Lib.hid (show PS w m w.heap.size w1.heap.size l' d' l' d' W5 by rw [hW5]; exact HP4.out.below (below_drewN _ _ _))
          have HQ5 := Lib.hid (show PS w m W.heap.size W1.heap.size ([] : List UInt8) false ([] : List UInt8) false W5 by rw [hW5]; exact HQ4.out.below (below_drewN _ _ _))
          have HO5 := Lib.hid (show Ows W5 W2.heap.size (.slice Aa o.length ca) o by rw [hW5]; exact HO4.out.below (below_drewN _ _ _))
          clear hW5
          go_wp2_with fail
          have HSP := Lib.hid (spoil_start HO5.out)
          go_loopw [18] (fun i wr => ∃ j : Nat, j ≤ o.length ∧ i = .int .i64 j ∧ Spoil W5 Aa o.length ca wr) (fun i _ => o.length - (intOf i).toNat)
          case atStart => exact ⟨0, Nat.zero_le _, rfl, HSP.out⟩
          case round =>
            obtain ⟨j, hj, rfl, hsp⟩ := hrel
            by_cases hjl : j < o.length
            · obtain ⟨g, rfl, cv, hcv, hfv⟩ := hsp.cell hjl
              have HSQ := Lib.hid (hsp.step hjl [115, 112, 111, 105, 108, 116])
              clear hsp
              go_wp2
              go_roundw
              case rel => exact ⟨j + 1, by omega, by go_num, HSQ.out⟩
              case measure => simp [intOf]; omega
            · obtain rfl : j = o.length := by omega
              have HP6 := Lib.hid (HP5.out.spoilt HO5.out HP2.out.bel.size hsp.1)
              have HQ6 := Lib.hid (HQ5.out.spoilt HO5.out HP2.out.bel.size hsp.1)
              clear hsp
              obtain ⟨o2, l2, d2, en2, hfd⟩ : ∃ o2 l2 d2 en2, fed m false ([] : List UInt8) [97, 13, 10] = (o2, l2, d2, en2) := ⟨_, _, _, _, rfl⟩
              have hol2 : o2.length ≤ 3 := fed_count hfd
              have HFD2 := Lib.hid hfd
              clear hfd
              go_wp2_with fail
              refine (play_f HQ6.out HG.out hm2 hm5 (by decide) HFD2.out).mono ?_
              rintro e W7 ⟨A7, c7, rfl, hg, hp, ho⟩
              have HQ7 := Lib.hid hp
              have HP7 := Lib.hid (HP6.out.byF HQ6.out N1.out.symm N3.out.symm hg)
              have HO7 := Lib.hid ho
              clear hg hp ho
              go_wp2_with fail
              refine (play_x HQ7.out HG.out hm5 (by decide) HFD2.out).mono ?_
              rintro e W8 ⟨A8, c8, rfl, hg, hp, ho⟩
              have HP8 := Lib.hid (HP7.out.byX HQ7.out N2.out.symm N4.out.symm hg)
              have HSA8 := Lib.hid (SR.of_own (HO7.out.kept hg (fun r e => by cases e; exact .inl HQ6.out.bxl)))
              have HSB8 := Lib.hid (SR.of_own ho)
              clear hg hp ho
              obtain ⟨_, x1, _, _, _⟩ := HP8.out.x.cells
              go_wp2_with fail
              go_big_quiet (first
                | (go_at_call 17; with_reducible exact same_q HSA8.out HSB8.out (by omega) _)
                | (go_at_call 13; with_reducible exact left_q HP8.out.f _))
              clear x1
              have HP9 := Lib.hid (HP8.out.below (below_drewN _ nq _))
              go_wp2_with fail
              go_roundw
              case rel => exact ⟨k + 1, by omega, by go_num, l', d', HP9.out, HG'.out⟩
              case measure => simp [intOf]; omega
        | false =>
          rw [hbk] at hcl
          clear hbk
          obtain ⟨W, rfl⟩ : ∃ W, W = wr := ⟨_, rfl⟩
          have HPS := Lib.hid HPS0.out
          have HG := Lib.hid HG0.out
          go_wp2_with fail
          clear hcl HPS0 HG0
          have hl512 : l.length ≤ 100000 := by have := HG.out.1; omega
          refine (play_copyF HPS.out hl512).mono ?_
          rintro e W1 ⟨rfl, hsz, hp, hf⟩
          have HP1 := Lib.hid hp
          have HC1 := Lib.hid hf
          have HZ1 := Lib.hid hsz
          clear hsz hp hf
          go_wp2_with fail
          refine (play_copyX HP1.out HC1.out HPS.out.bel.size).mono ?_
          rintro e W2 ⟨rfl, hp, hq⟩
          have N1 := Lib.hid (show w.heap.size ≠ W.heap.size by have := HPS.out.bfl; omega)
          have N2 := Lib.hid (show w.heap.size ≠ W1.heap.size by have := HPS.out.bfl; have := HZ1.out; omega)
          have N3 := Lib.hid (show w1.heap.size ≠ W.heap.size by have := HPS.out.bxl; omega)
          have N4 := Lib.hid (show w1.heap.size ≠ W1.heap.size by have := HPS.out.bxl; have := HZ1.out; omega)
          have HP2 := Lib.hid hp
          have HQ2 := Lib.hid hq
          clear hp hq
          obtain ⟨b1, p1, rfl, hc1⟩ := sr_addr (HS.out.below HP2.out.bel) (by omega)
          obtain ⟨p, hx⟩ : ∃ p, p = xs[k] := ⟨_, rfl⟩
          have e1 : W2.cell? ⟨b1, p1 + k, none⟩ = some (sv p) := by rw [hx]; exact hc1 k hlt
          have hpl : p.length ≤ 6000 := by rw [hx]; exact HXX.out _ (List.getElem_mem hlt)
          obtain ⟨o, l', d', en, hfd⟩ : ∃ o l' d' en, fed m d l p = (o, l', d', en) := ⟨_, _, _, _, rfl⟩
          have hol := fed_count hfd
          have HG' := Lib.hid (HG.out.fed (by omega) hfd)
          have HFD := Lib.hid hfd
          have HX := Lib.hid hx
          clear hc1 hx hfd
          go_wp2_with fail
          refine (play_f HP2.out HG.out hm2 hm5 (by omega) HFD.out).mono ?_
          rintro e W3 ⟨Aa, ca, rfl, hg, hp, ho⟩
          have HB23 := Lib.hid (show W2.heap.size ≤ W3.heap.size from hg.size)
          have HP3 := Lib.hid hp
          have HQ3 := Lib.hid (HQ2.out.byF HP2.out N1.out N2.out hg)
          have HO3 := Lib.hid ho
          have e2 : W3.cell? ⟨b1, p1 + k, none⟩ = some (sv p) := by
            have hs3 := HS.out.below HP3.out.bel
            obtain ⟨b', o', ea, hc⟩ := sr_addr hs3 (by omega)
            obtain ⟨rfl, rfl⟩ : b1 = b' ∧ p1 = o' := by simpa using ea
            rw [HX.out]; exact hc k hlt
          clear hg hp ho e1
          go_wp2_with fail
          refine (play_x HP3.out HG.out hm5 (by omega) HFD.out).mono ?_
          rintro e W4 ⟨Ab, cb, rfl, hg, hp, ho⟩
          have HP4 := Lib.hid hp
          have HQ4 := Lib.hid (HQ3.out.byX HP3.out N3.out N4.out hg)
          have HO4 := Lib.hid (HO3.out.kept hg (fun r e => by cases e; exact .inl (HP2.out.bxl)))
          have HSA4 := Lib.hid (SR.of_own HO4.out)
          have HSB4 := Lib.hid (SR.of_own ho)
          clear hg hp ho e2
          obtain ⟨_, x1, x2, _, _⟩ := HP4.out.x.cells
          obtain ⟨_, y1, y2, _, _⟩ := HQ4.out.x.cells
          go_wp2_with fail
          go_big_quiet (first
            | (go_at_call 17; with_reducible exact same_q HSA4.out HSB4.out (by omega) _)
            | (go_at_call 13; with_reducible exact left_q HP4.out.f _)
            | (go_at_call 13; with_reducible exact left_q HQ4.out.f _)
            | (go_at_call 14; with_reducible exact dead_q HP4.out.f _)
            | (go_at_call 14; with_reducible exact dead_q HQ4.out.f _))
          clear x1 x2 y1 y2
          obtain ⟨W5, hW5⟩ : ∃ W5, W5 = W4.drewN nq := ⟨_, rfl⟩
          rw [← hW5]
          have HP5 := Lib.hid (show PS w m w.heap.size w1.heap.size l' d' l' d' W5 by rw [hW5]; exact HP4.out.below (below_drewN _ _ _))
          have HQ5 := Lib.hid (show PS w m W.heap.size W1.heap.size l d l d W5 by rw [hW5]; exact HQ4.out.below (below_drewN _ _ _))
          have HO5 := Lib.hid (show Ows W5 W2.heap.size (.slice Aa o.length ca) o by rw [hW5]; exact HO4.out.below (below_drewN _ _ _))
          clear hW5
          go_wp2_with fail
          have HSP := Lib.hid (spoil_start HO5.out)
          go_loopw [18] (fun i wr => ∃ j : Nat, j ≤ o.length ∧ i = .int .i64 j ∧ Spoil W5 Aa o.length ca wr) (fun i _ => o.length - (intOf i).toNat)
          case atStart => exact ⟨0, Nat.zero_le _, rfl, HSP.out⟩
          case round =>
            obtain ⟨j, hj, rfl, hsp⟩ := hrel
            by_cases hjl : j < o.length
            · obtain ⟨g, rfl, cv, hcv, hfv⟩ := hsp.cell hjl
              have HSQ := Lib.hid (hsp.step hjl [115, 112, 111, 105, 108, 116])
              clear hsp
              go_wp2
              go_roundw
              case rel => exact ⟨j + 1, by omega, by go_num, HSQ.out⟩
              case measure => simp [intOf]; omega
            · obtain rfl : j = o.length := by omega
              have HP6 := Lib.hid (HP5.out.spoilt HO5.out HP2.out.bel.size hsp.1)
              have HQ6 := Lib.hid (HQ5.out.spoilt HO5.out HP2.out.bel.size hsp.1)
              clear hsp
              obtain ⟨o2, l2, d2, en2, hfd⟩ : ∃ o2 l2 d2 en2, fed m d l [97, 13, 10] = (o2, l2, d2, en2) := ⟨_, _, _, _, rfl⟩
              have hol2 : o2.length ≤ 3 := fed_count hfd
              have HFD2 := Lib.hid hfd
              clear hfd
              go_wp2_with fail
              refine (play_f HQ6.out HG.out hm2 hm5 (by decide) HFD2.out).mono ?_
              rintro e W7 ⟨A7, c7, rfl, hg, hp, ho⟩
              have HQ7 := Lib.hid hp
              have HP7 := Lib.hid (HP6.out.byF HQ6.out N1.out.symm N3.out.symm hg)
              have HO7 := Lib.hid ho
              clear hg hp ho
              go_wp2_with fail
              refine (play_x HQ7.out HG.out hm5 (by decide) HFD2.out).mono ?_
              rintro e W8 ⟨A8, c8, rfl, hg, hp, ho⟩
              have HP8 := Lib.hid (HP7.out.byX HQ7.out N2.out.symm N4.out.symm hg)
              have HSA8 := Lib.hid (SR.of_own (HO7.out.kept hg (fun r e => by cases e; exact .inl HQ6.out.bxl)))
              have HSB8 := Lib.hid (SR.of_own ho)
              clear hg hp ho
              obtain ⟨_, x1, _, _, _⟩ := HP8.out.x.cells
              go_wp2_with fail
              go_big_quiet (first
                | (go_at_call 17; with_reducible exact same_q HSA8.out HSB8.out (by omega) _)
                | (go_at_call 13; with_reducible exact left_q HP8.out.f _))
              clear x1
              have HP9 := Lib.hid (HP8.out.below (below_drewN _ nq _))
              go_wp2_with fail
              go_roundw
              case rel => exact ⟨k + 1, by omega, by go_num, l', d', HP9.out, HG'.out⟩
              case measure => simp [intOf]; omega
      · have h2' : n2 ≤ k := by omega
        obtain ⟨W, rfl⟩ : ∃ W, W = wr := ⟨_, rfl⟩
        have HPS := Lib.hid hps
        have HG := Lib.hid hgood
        clear hps hgood
        go_wp2_with fail
        have hl512 : l.length ≤ 100000 := by have := HG.out.1; omega
        refine (play_copyF HPS.out hl512).mono ?_
        rintro e W1 ⟨rfl, hsz, hp, hf⟩
        have HP1 := Lib.hid hp
        have HC1 := Lib.hid hf
        have HZ1 := Lib.hid hsz
        clear hsz hp hf
        go_wp2_with fail
        refine (play_copyX HP1.out HC1.out HPS.out.bel.size).mono ?_
        rintro e W2 ⟨rfl, hp, hq⟩
        have N1 := Lib.hid (show w.heap.size ≠ W.heap.size by have := HPS.out.bfl; omega)
        have N2 := Lib.hid (show w.heap.size ≠ W1.heap.size by have := HPS.out.bfl; have := HZ1.out; omega)
        have N3 := Lib.hid (show w1.heap.size ≠ W.heap.size by have := HPS.out.bxl; omega)
        have N4 := Lib.hid (show w1.heap.size ≠ W1.heap.size by have := HPS.out.bxl; have := HZ1.out; omega)
        have HP2 := Lib.hid hp
        have HQ2 := Lib.hid hq
        clear hp hq
        obtain ⟨b1, p1, rfl, hc1⟩ := sr_addr (HS.out.below HP2.out.bel) (by omega)
        obtain ⟨p, hx⟩ : ∃ p, p = xs[k] := ⟨_, rfl⟩
        have e1 : W2.cell? ⟨b1, p1 + k, none⟩ = some (sv p) := by rw [hx]; exact hc1 k hlt
        have hpl : p.length ≤ 6000 := by rw [hx]; exact HXX.out _ (List.getElem_mem hlt)
        obtain ⟨o, l', d', en, hfd⟩ : ∃ o l' d' en, fed m d l p = (o, l', d', en) := ⟨_, _, _, _, rfl⟩
        have hol := fed_count hfd
        have HG' := Lib.hid (HG.out.fed (by omega) hfd)
        have HFD := Lib.hid hfd
        have HX := Lib.hid hx
        clear hc1 hx hfd
        go_wp2_with fail
        refine (play_f HP2.out HG.out hm2 hm5 (by omega) HFD.out).mono ?_
        rintro e W3 ⟨Aa, ca, rfl, hg, hp, ho⟩
        have HB23 := Lib.hid (show W2.heap.size ≤ W3.heap.size from hg.size)
        have HP3 := Lib.hid hp
        have HQ3 := Lib.hid (HQ2.out.byF HP2.out N1.out N2.out hg)
        have HO3 := Lib.hid ho
        have e2 : W3.cell? ⟨b1, p1 + k, none⟩ = some (sv p) := by
          have hs3 := HS.out.below HP3.out.bel
          obtain ⟨b', o', ea, hc⟩ := sr_addr hs3 (by omega)
          obtain ⟨rfl, rfl⟩ : b1 = b' ∧ p1 = o' := by simpa using ea
          rw [HX.out]; exact hc k hlt
        clear hg hp ho e1
        go_wp2_with fail
        refine (play_x HP3.out HG.out hm5 (by omega) HFD.out).mono ?_
        rintro e W4 ⟨Ab, cb, rfl, hg, hp, ho⟩
        have HP4 := Lib.hid hp
        have HQ4 := Lib.hid (HQ3.out.byX HP3.out N3.out N4.out hg)
        have HO4 := Lib.hid (HO3.out.kept hg (fun r e => by cases e; exact .inl (HP2.out.bxl)))
        have HSA4 := Lib.hid (SR.of_own HO4.out)
        have HSB4 := Lib.hid (SR.of_own ho)
        clear hg hp ho e2
        obtain ⟨_, x1, x2, _, _⟩ := HP4.out.x.cells
        obtain ⟨_, y1, y2, _, _⟩ := HQ4.out.x.cells
        go_wp2_with fail
        go_big_quiet (first
          | (go_at_call 17; with_reducible exact same_q HSA4.out HSB4.out (by omega) _)
          | (go_at_call 13; with_reducible exact left_q HP4.out.f _)
          | (go_at_call 13; with_reducible exact left_q HQ4.out.f _)
          | (go_at_call 14; with_reducible exact dead_q HP4.out.f _)
          | (go_at_call 14; with_reducible exact dead_q HQ4.out.f _))
        clear x1 x2 y1 y2
        obtain ⟨W5, hW5⟩ : ∃ W5, W5 = W4.drewN nq := ⟨_, rfl⟩
        rw [← hW5]
        have HP5 := Lib.hid (show PS w m w.heap.size w1.heap.size l' d' l' d' W5 by rw [hW5]; exact HP4.out.below (below_drewN _ _ _))
        have HQ5 := Lib.hid (show PS w m W.heap.size W1.heap.size l d l d W5 by rw [hW5]; exact HQ4.out.below (below_drewN _ _ _))
        have HO5 := Lib.hid (show Ows W5 W2.heap.size (.slice Aa o.length ca) o by rw [hW5]; exact HO4.out.below (below_drewN _ _ _))
        clear hW5
        go_wp2_with fail
        have HSP := Lib.hid (spoil_start HO5.out)
        go_loopw [18] (fun i wr => ∃ j : Nat, j ≤ o.length ∧ i = .int .i64 j ∧ Spoil W5 Aa o.length ca wr) (fun i _ => o.length - (intOf i).toNat)
        case atStart => exact ⟨0, Nat.zero_le _, rfl, HSP.out⟩
        case round =>
          obtain ⟨j, hj, rfl, hsp⟩ := hrel
          by_cases hjl : j < o.length
          · obtain ⟨g, rfl, cv, hcv, hfv⟩ := hsp.cell hjl
            have HSQ := Lib.hid (hsp.step hjl [115, 112, 111, 105, 108, 116])
            clear hsp
            go_wp2
            go_roundw
            case rel => exact ⟨j + 1, by omega, by go_num, HSQ.out⟩
            case measure => simp [intOf]; omega
          · obtain rfl : j = o.length := by omega
            have HP6 := Lib.hid (HP5.out.spoilt HO5.out HP2.out.bel.size hsp.1)
            have HQ6 := Lib.hid (HQ5.out.spoilt HO5.out HP2.out.bel.size hsp.1)
            clear hsp
            obtain ⟨o2, l2, d2, en2, hfd⟩ : ∃ o2 l2 d2 en2, fed m d l [97, 13, 10] = (o2, l2, d2, en2) := ⟨_, _, _, _, rfl⟩
            have hol2 : o2.length ≤ 3 := fed_count hfd
            have HFD2 := Lib.hid hfd
            clear hfd
            go_wp2_with fail
            refine (play_f HQ6.out HG.out hm2 hm5 (by decide) HFD2.out).mono ?_
            rintro e W7 ⟨A7, c7, rfl, hg, hp, ho⟩
            have HQ7 := Lib.hid hp
            have HP7 := Lib.hid (HP6.out.byF HQ6.out N1.out.symm N3.out.symm hg)
            have HO7 := Lib.hid ho
            clear hg hp ho
            go_wp2_with fail
            refine (play_x HQ7.out HG.out hm5 (by decide) HFD2.out).mono ?_
            rintro e W8 ⟨A8, c8, rfl, hg, hp, ho⟩
            have HP8 := Lib.hid (HP7.out.byX HQ7.out N2.out.symm N4.out.symm hg)
            have HSA8 := Lib.hid (SR.of_own (HO7.out.kept hg (fun r e => by cases e; exact .inl HQ6.out.bxl)))
            have HSB8 := Lib.hid (SR.of_own ho)
            clear hg hp ho
            obtain ⟨_, x1, _, _, _⟩ := HP8.out.x.cells
            go_wp2_with fail
            go_big_quiet (first
              | (go_at_call 17; with_reducible exact same_q HSA8.out HSB8.out (by omega) _)
              | (go_at_call 13; with_reducible exact left_q HP8.out.f _))
            clear x1
            have HP9 := Lib.hid (HP8.out.below (below_drewN _ nq _))
            go_wp2_with fail
            go_roundw
            case rel => exact ⟨k + 1, by omega, by go_num, l', d', HP9.out, HG'.out⟩
            case measure => simp [intOf]; omega
    · obtain rfl : k = xs.length := by omega
      have HPS := Lib.hid hps
      clear hps hgood
      go_wp2_with fail
      refine (awake_any wr HPS.out.ml HPS.out.ml.pos).mono ?_
      rintro e W ⟨rfl, hb⟩
      have HB := Lib.hid (HPS.out.bel.trans (hb.mono HPS.out.bel.size))
      clear hb
      go_wp2
      go_ret
      exact ⟨rfl, HB.out⟩

set_option maxRecDepth 100000 in
set_option maxHeartbeats 2000000 in
theorem plays_long (m : Int) (xs : List (List UInt8)) (A : Option Addr) (c : Nat) (A2 : Option Addr) (n2 c2 : Nat) (w : World) (h : SR w (.slice A xs.length c) xs) (hlb : longB xs = true) (hx : xs.length ≤ 140737488351232) (hxx : ∀ x ∈ xs, x.length ≤ 9223372036854775807) (hML : ML w) :
    Calls Try.prog 4 #[.int .i64 m, .slice A xs.length c, .slice A2 n2 c2] w fun e w' => e = .returned (.bool true) ∧ Below w.heap.size w w' := by
  have HS0 := Lib.hid h
  have HM := Lib.hid hML
  have HXX := Lib.hid hxx
  have HLB := Lib.hid hlb
  clear h hML hxx hlb
  go_enter Try.func4, Try.ntmps4
  go_wp2_with fail
  refine (long_is xs _ w HS0.out true HLB.out hx HXX.out).mono ?_
  rintro e w' ⟨rfl, rfl⟩
  go_wp2_with fail
  refine (awake_any w HM.out HM.out.pos).mono ?_
  rintro e w1 ⟨rfl, hb⟩
  go_wp2
  go_ret
  exact ⟨rfl, hb⟩

set_option maxRecDepth 100000 in
set_option maxHeartbeats 2000000 in
theorem plays_bad (m : Int) (xs : List (List UInt8)) (A : Option Addr) (c : Nat) (A2 : Option Addr) (n2 c2 : Nat) (w : World) (h : SR w (.slice A xs.length c) xs) (hlb : longB xs = false) (hx : xs.length ≤ 140737488351232) (hxx : ∀ x ∈ xs, x.length ≤ 9223372036854775807) (hm : m < 2 ∨ 512 < m) (hML : ML w) :
    Calls Try.prog 4 #[.int .i64 m, .slice A xs.length c, .slice A2 n2 c2] w fun e w' => e = .returned (.bool true) ∧ Below w.heap.size w w' := by
  have new : ∀ w, Calls Try.prog 16 #[.int .i64 m] w fun e w' => e = .returned (.tuple #[.pointer none, .int .i64 1]) ∧ w = w' := fun w => by
    rcases hm with h | h
    · exact new_low m w h
    · exact new_high m w h
  have refNew : ∀ w, Calls Try.prog 19 #[.int .i64 m] w fun e w' => e = .returned (.tuple #[.pointer none, .int .i64 1]) ∧ w = w' := fun w => by
    rcases hm with h | h
    · exact refNew_low m w h
    · exact refNew_high m w h
  have NEW := Lib.hid new
  have RNEW := Lib.hid refNew
  have HS0 := Lib.hid h
  have HM := Lib.hid hML
  have HXX := Lib.hid hxx
  have HLB := Lib.hid hlb
  clear h hML hxx hlb new refNew hm
  go_enter Try.func4, Try.ntmps4
  go_wp2_with fail
  refine (long_is xs _ w HS0.out false HLB.out hx HXX.out).mono ?_
  rintro e w' ⟨rfl, rfl⟩
  go_wp2_with fail
  refine (NEW.out w).mono ?_
  rintro e w' ⟨rfl, rfl⟩
  go_wp2_with fail
  refine (RNEW.out w).mono ?_
  rintro e w' ⟨rfl, rfl⟩
  go_wp2_with fail
  refine (awake_any w HM.out HM.out.pos).mono ?_
  rintro e w1 ⟨rfl, hb⟩
  go_wp2
  go_ret
  exact ⟨rfl, hb⟩

theorem plays_walk (a : Int) (xs : List (List UInt8)) (A : Option Addr) (c : Nat) (A2 : Option Addr) (n2 c2 : Nat) (B : Nat → Bool) (w : World) (h : SR w (.slice A xs.length c) xs) (hx : xs.length ≤ 140737488351232) (hxx : ∀ x ∈ xs, x.length ≤ 9223372036854775807) (hn2 : n2 ≤ 9223372036854775807) (hB : BR w A2 n2 B) (hML : ML w) :
    Calls Try.prog 4 #[.int .i64 a, .slice A xs.length c, .slice A2 n2 c2] w fun e w' => e = .returned (.bool true) ∧ Below w.heap.size w w' := by
  cases hlb : longB xs with
  | true => exact plays_long a xs A c A2 n2 c2 w h hlb hx hxx hML
  | false =>
    by_cases hm : a < 2 ∨ 512 < a
    · exact plays_bad a xs A c A2 n2 c2 w h hlb hx hxx hm hML
    · obtain ⟨m, rfl⟩ := Int.eq_ofNat_of_zero_le (show 0 ≤ a by omega)
      exact plays_good m xs A c A2 n2 c2 B w (by omega) (by omega) h hlb hn2 hB hML

theorem br_of_open {W : World} {a : Addr} {n : Nat} {B : Nat → Bool} (hc : ∀ i, i < n → W.cell? (a.add i) = some (.bool (B i))) : BR W (some a) n B := fun h0 => by
  obtain ⟨b, off, spot⟩ := a
  have hspot : spot = none := by simpa [Addr.add] using World.cell?_spot (hc 0 h0)
  subst hspot
  exact ⟨b, off, rfl, fun k hk => by rw [← Go.WideShapes.add_plain]; exact hc k hk⟩

theorem Try.cells4' : Try.prog.cellsOf 4 = 1 := by kernel_rfl

set_option maxRecDepth 100000 in
theorem plays_lifted (os : Os) (started : os.Started) (H : Type) (enc : TypeId × Value → H) :
    ReturnsInHanded {} Try.checked os 4 .any (Rows.linePlaysSpec.pre6 enc Try.prog Try.f4 Rows.linePlaysRow.domain false) (Rows.linePlaysSpec.post enc Try.prog Try.f4 false true false false) := by
  refine returnsInHanded_of_change_shaped (C := Try.checked) Try.own started (by kernel_rfl) Try.func4
    (ChangeSpec.witness6 (enc := enc) (C := Try.checked) false ⟨#[], #[.int .i64 0, .slice none 0 0, .slice none 0 0], []⟩ 8 (by kernel_rfl) (by kernel_rfl) (by kernel_rfl) (by kernel_rfl)) ?_
  intro W base args ds gs before hval0 hW hcnd hsz0 hsh _
  have hval : ∀ (j : Nat) t v, Try.f4.params[j]? = some t → args[j]? = some v → Value.okWide Try.prog W .any base t v := hval0
  have hsz : (DataW.weightsEach Try.prog (Try.f4.params.toList ++ Rows.linePlaysSpec.plain.varTypes Try.prog) (ds ++ gs)).all (· ≤ reachBytes) = true := hsz0
  have hW' := hW
  obtain ⟨p, q, hA0, hV, rfl, hfz, hnd⟩ := hW
  have hA : DataW.TrodAll enc Try.prog W 0 (fun _ => true) true Try.f4.params.toList args.toList ds p := hA0
  rw [Try.params4] at hA hval hsz
  obtain ⟨v0, vs0, d0, ds0, p0, q0, hargs, rfl, rfl, h0, r0⟩ := trodAll_cons hA
  obtain ⟨v1, vs1, d1, ds1, p1, q1, rfl, rfl, rfl, h1, r1⟩ := trodAll_cons r0
  obtain ⟨v2, vs2, d2, ds2, p2, q2, rfl, rfl, rfl, h2, r2⟩ := trodAll_cons r1
  obtain ⟨rfl, rfl, rfl⟩ := trodAll_nil r2
  obtain rfl : args = #[v0, v1, v2] := by cases args; simp_all
  obtain ⟨rfl, rfl⟩ := trodVars_none hV
  obtain ⟨a0, rfl, rfl, rfl, w0⟩ := open_int Try.underlying3 (hval 0 3 v0 rfl rfl) h0
  obtain ⟨aA, len, cap, rfl⟩ := okWide_slice Try.underlying23 (hval 1 23 v1 rfl rfl)
  obtain ⟨aB, len2, cap2, rfl⟩ := okWide_slice Try.underlying35 (hval 2 35 v2 rfl rfl)
  have h1k := h1
  have h2k := h2
  obtain ⟨fuel, hf⟩ := h1
  obtain ⟨fuel2, hf2⟩ := h2
  have hlt1 : ∀ x ∈ p1, x.block < W.heap.size := fun x hx => hW'.lt x (by simp [hx])
  have hlt2 : ∀ x ∈ p2, x.block < W.heap.size := fun x hx => hW'.lt x (by simp [hx])
  have hSR : ∃ xs : List (List UInt8), xs.length = len ∧ SR W (.slice aA xs.length cap) xs ∧ len ≤ 140737488351232 ∧ ∀ x ∈ xs, x.length ≤ 9223372036854775807 := by
    rcases open_strings Try.underlying23 Try.underlying9 Try.cells9 hf with ⟨hcs, hx⟩ | ⟨a, len', cap', ss, hcs, _, hl, hm, hz, hx, hcell, hws⟩
    · simp [Value.cells] at hcs
      obtain ⟨rfl, rfl, rfl⟩ := hcs
      exact ⟨[], rfl, ⟨none, 0, rfl, .inl rfl⟩, by omega, by simp⟩
    · simp [Value.cells] at hcs
      obtain ⟨rfl, rfl, rfl⟩ := hcs
      simp only [Prod.mk.injEq] at hx
      obtain ⟨rfl, rfl⟩ := hx
      simp only [if_true] at hz
      refine ⟨(ss.take len).map fun s => s.data.toList, by rw [List.length_map, List.length_take]; omega, sr_of_open (by omega) hcell, ?_, ?_⟩
      · have := sized_slice hsz (j := 1) (t := 23) (e := 9) rfl rfl Try.underlying23
        rw [Try.bytes9] at this
        simp only [strs, List.length_map, List.length_take, List.length_drop, reachBytes] at this
        omega
      · intro x hx
        obtain ⟨s, hs, rfl⟩ := List.mem_map.1 hx
        exact hws s (List.mem_of_mem_take hs)
  obtain ⟨xs, rfl, hSR, hlen, hxx⟩ := hSR
  have hBR : ∃ B, BR W aB len2 B ∧ len2 ≤ 9223372036854775807 := by
    rcases Go.Deep.open_bools Try.underlying35 Try.underlying4 Try.cells4' hf2 with ⟨hcs, hx⟩ | ⟨a, len', cap', B, hcs, _, hl, hm, hx, hcell⟩
    · simp [Value.cells] at hcs
      obtain ⟨rfl, rfl, rfl⟩ := hcs
      exact ⟨fun _ => false, fun h => absurd h (by omega), by omega⟩
    · simp [Value.cells] at hcs
      obtain ⟨rfl, rfl, rfl⟩ := hcs
      refine ⟨B, br_of_open (fun i hi => hcell i (by omega)), ?_⟩
      unfold maxLen at hm
      omega
  obtain ⟨B, hBR, hlen2⟩ := hBR
  clear hA0 hval0 hsz0
  refine (plays_walk a0 xs aA cap aB len2 cap2 B W hSR hlen hxx hlen2 hBR (ml_of_shape hsh)).mono fun e W' ⟨he, hg⟩ => ?_
  subst he
  refine ⟨_, rfl, _, _, _, [], [] ++ (p1 ++ (p2 ++ [])), [], hW', ?_, ?_, rfl, hg.frame _, fun h => by cases h⟩
  · exact trodAll_cons_mk (shut_bool Try.underlying4 _) trodAll_mk0
  · exact trodAll_cons_mk (shut_int Try.underlying3 w0) (trodAll_cons_mk (Below.trod Try.laidOutB (by kernel_rfl) (of_decide_eq_true (by kernel_rfl)) h1k hg hlt1) (trodAll_cons_mk (Below.trod Try.laidOutB (by kernel_rfl) (of_decide_eq_true (by kernel_rfl)) h2k hg hlt2) trodAll_mk0))

theorem plays_over : Rows.linePlaysRow.holds Try.pinned (OpenSpec.ofChange Rows.linePlaysSpec) :=
  OpenClaim.holds_of_wide 4 Try.f4 rfl rfl rfl rfl rfl rfl rfl ⟨rfl, rfl, rfl, rfl, rfl⟩ rfl rfl rfl rfl rfl (by kernel_rfl) Try.func4 (by kernel_rfl)
    (of_decide_eq_true (by kernel_rfl)) (by unfold Func.isWrapper; first | (rw [if_pos (by decide +kernel)]; kernel_rfl) | (rw [if_neg (by decide +kernel)]; exact ⟨rfl, rfl⟩))
    (fun os started H enc _ => plays_lifted os started H enc)

theorem linePlays_holds : Rows.LinePlaysSaid := plays_over
end Go.Proofs.Ytgjngldkeiblbaa
