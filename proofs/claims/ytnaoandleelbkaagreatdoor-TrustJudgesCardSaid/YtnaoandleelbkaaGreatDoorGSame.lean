/-
  The contracts of slices.Equal, Same; of the laws' own copies, some, large, works.
-/
import Derived.Test.YtnaoandleelbkaaGreatDoorGWm
import Derived.Test.YtnaoandleelbkaaGreatDoorGDm
namespace Go.Proofs.YtnaoandleelbkaaGreatDoor
set_option linter.unusedSimpArgs false
set_option linter.unusedVariables false
open Go Go.RowKit
set_option maxRecDepth 100000

/-! ### Same -/
theorem strs_inj {xs ys : List (List UInt8)} (h : xs.map str = ys.map str) : xs = ys := by
  induction xs generalizing ys with
  | nil =>
    cases ys with
    | nil => rfl
    | cons y ys => simp at h
  | cons x xs ih =>
    cases ys with
    | nil => simp at h
    | cons y ys =>
      simp only [List.map_cons, List.cons.injEq] at h
      obtain ⟨h1, h2⟩ := h
      have : x = y := by
        have := congrArg (fun b : ByteArray => b.data.toList) h1
        simpa [str] using this
      rw [this, ih h2]
theorem equal_any {w : World} (xs ys : List (List UInt8)) (A B : Option Addr) (c d : Nat) (hx : SX w (.slice A xs.length c) xs) (hy : SX w (.slice B ys.length d) ys) (hl : xs.length ≤ 1000000000) (hl2 : ys.length ≤ 1000000000) :
    Calls Tryz.prog 71 #[.slice A xs.length c, .slice B ys.length d] w fun e w' => e = .returned (.bool (decide (xs = ys))) ∧ Below w.heap.size w w' := by
  by_cases hn : xs.length = ys.length
  · by_cases h0 : xs.length = 0
    · have e1 : xs = [] := List.length_eq_zero_iff.1 h0
      have e2 : ys = [] := List.length_eq_zero_iff.1 (by omega)
      subst e1; subst e2
      refine (Tryz.slices_Equal_string_empty A B c 0 d w (by decide)).mono ?_
      rintro e w' ⟨rfl, rfl⟩
      exact ⟨by simp, Below.refl _ _⟩
    · have hp2 : 0 < ys.length := by omega
      obtain ⟨A', c', e, h⟩ := hx
      simp only [Value.slice.injEq] at e
      obtain ⟨rfl, _, rfl⟩ := e
      obtain ⟨g, off, rfl, hg, hc⟩ := h (by omega)
      obtain ⟨A2, c2, e, h2⟩ := hy
      simp only [Value.slice.injEq] at e
      obtain ⟨rfl, _, rfl⟩ := e
      obtain ⟨g2, off2, rfl, hg2, hc2⟩ := h2 hp2
      have conv : ∀ (zs : List (List UInt8)) (j : Nat), j < zs.length → (zs.map str).getD j ByteArray.empty = str (zs.getD j []) := by
        intro zs j hj
        rw [List.getD_eq_getElem?_getD, List.getD_eq_getElem?_getD, List.getElem?_map, List.getElem?_eq_getElem hj]; rfl
      refine (Tryz.slices_Equal_string g off xs.length c g2 off2 ys.length d (xs.map str) (ys.map str) w (by simp) (by simp) (by omega) (by omega) (fun j hj => ?_) (fun j hj => ?_)).mono ?_
      · rw [List.length_map] at hj
        rw [conv xs j hj]; exact hc j hj
      · rw [List.length_map] at hj
        rw [conv ys j hj]; exact hc2 j hj
      · rintro e w' ⟨rfl, q, rfl⟩
        refine ⟨?_, below_drewNC (Below.refl _ _) q⟩
        rw [List.take_of_length_le (by simp), List.take_of_length_le (by simp)]
        congr 2
        rw [decide_eq_decide]
        exact ⟨strs_inj, fun h => by rw [h]⟩
  · refine (Tryz.slices_Equal_string_lens A B xs.length c ys.length d w hn).mono ?_
    rintro e w' ⟨rfl, rfl⟩
    refine ⟨?_, Below.refl _ _⟩
    rw [decide_eq_false (fun h => hn (by rw [h]))]
def sameB (c d : Ct) : Bool := decide (c.key = d.key) && decide (c.sig = d.sig) && decide (c.names = d.names) && decide (c.fr = d.fr) && decide (c.un = d.un) && (c.ca == d.ca)
theorem sameB_iff {c d : Ct} : sameB c d = true ↔ c = d := by
  obtain ⟨a1, a2, a3, a4, a5, a6⟩ := c
  obtain ⟨b1, b2, b3, b4, b5, b6⟩ := d
  unfold sameB
  simp only [Bool.and_eq_true, decide_eq_true_eq, beq_iff_eq, Ct.mk.injEq]
  constructor
  · rintro ⟨⟨⟨⟨⟨h1, h2⟩, h3⟩, h4⟩, h5⟩, h6⟩; exact ⟨h1, h2, h3, h4, h5, h6⟩
  · rintro ⟨h1, h2, h3, h4, h5, h6⟩; exact ⟨⟨⟨⟨⟨h1, h2⟩, h3⟩, h4⟩, h5⟩, h6⟩
theorem same_eq (c d : Ct) : sameB c d = true ∧ c = d ∨ sameB c d = false ∧ c ≠ d := by
  cases h : sameB c d with
  | true => exact .inl ⟨rfl, sameB_iff.1 h⟩
  | false => exact .inr ⟨rfl, fun e => by rw [sameB_iff.2 e] at h; cases h⟩
set_option maxHeartbeats 8000000 in
theorem same_any {w : World} (c d : Ct) (A B : Option Addr) (cp dp : Nat) (hx : SX w (.slice A c.names.length cp) c.names) (hy : SX w (.slice B d.names.length dp) d.names) (hs : shortC c) (ht : d.names.length ≤ 1000000000) :
    Calls Tryz.prog 22 #[certV c (.slice A c.names.length cp), certV d (.slice B d.names.length dp)] w fun e w' => e = .returned (.bool (sameB c d)) ∧ Below w.heap.size w w' := by
  have hb2 : Below w.heap.size w ((w.alloc (cellsC c (.slice A c.names.length cp))).alloc (cellsC d (.slice B d.names.length dp))) := (below_alloc _ _).trans ((below_alloc _ _).mono (by simp))
  have HB := Lib.hid hb2
  have HC := Lib.hid (show CB ((w.alloc (cellsC c (.slice A c.names.length cp))).alloc (cellsC d (.slice B d.names.length dp))) w.heap.size c (.slice A c.names.length cp) from (CB.new w c _).step (below_alloc _ _))
  have HD := Lib.hid (show CB ((w.alloc (cellsC c (.slice A c.names.length cp))).alloc (cellsC d (.slice B d.names.length dp))) (w.heap.size + 1) d (.slice B d.names.length dp) by have := CB.new (w.alloc (cellsC c (.slice A c.names.length cp))) d (.slice B d.names.length dp); rwa [World.size_alloc] at this)
  have HE := Lib.hid (fun W (h : Below w.heap.size w W) => equal_any c.names d.names A B cp dp (hx.step h) (hy.step h) (by have := hs.2.2.1; omega) ht)
  obtain ⟨c0, c1, c2, c3, c4, c5⟩ := c
  obtain ⟨d0, d1, d2, d3, d4, d5⟩ := d
  simp only at HB HC HD HE
  unfold certV
  simp only
  clear hx hy hs ht hb2
  by_cases h0 : c0 = d0
  · subst h0
    by_cases h1 : c1 = d1
    · subst h1
      by_cases h2 : c2 = d2
      · subst h2
        by_cases h3 : c3 = d3
        · subst h3
          by_cases h4 : c4 = d4
          · subst h4
            have HS := Lib.hid (show sameB ⟨c0, c1, c2, c3, c4, c5⟩ ⟨c0, c1, c2, c3, c4, d5⟩ = (c5 == d5) by simp [sameB])
            rw [decide_eq_true rfl] at HE
            go_enter Tryz.func22, Tryz.ntmps22
            go_wp2_with (go_at_call 71; refine (HE.out _ HB.out).mono ?_; rintro e w2 ⟨rfl, hb⟩; have HB2 := Lib.hid (HB.out.trans (hb.mono HB.out.size)); have p3 := (HC.out.step hb).c3; have p4 := (HC.out.step hb).c4; have p5 := (HC.out.step hb).c5; have q3 := (HD.out.step hb).c3; have q4 := (HD.out.step hb).c4; have q5 := (HD.out.step hb).c5; clear hb)
            go_ret
            rw [HS.out]
            exact ⟨rfl, by first | exact HB2.out.1 | exact HB2.out | exact HB.out⟩
          · have HS := Lib.hid (show sameB ⟨c0, c1, c2, c3, c4, c5⟩ ⟨c0, c1, c2, c3, d4, d5⟩ = false by simp [sameB, h4])
            rw [decide_eq_true rfl] at HE
            go_enter Tryz.func22, Tryz.ntmps22
            go_wp2_with (go_at_call 71; refine (HE.out _ HB.out).mono ?_; rintro e w2 ⟨rfl, hb⟩; have HB2 := Lib.hid (HB.out.trans (hb.mono HB.out.size)); have p3 := (HC.out.step hb).c3; have p4 := (HC.out.step hb).c4; have p5 := (HC.out.step hb).c5; have q3 := (HD.out.step hb).c3; have q4 := (HD.out.step hb).c4; have q5 := (HD.out.step hb).c5; clear hb)
            go_ret
            rw [HS.out]
            exact ⟨rfl, by first | exact HB2.out.1 | exact HB2.out | exact HB.out⟩
        · have HS := Lib.hid (show sameB ⟨c0, c1, c2, c3, c4, c5⟩ ⟨c0, c1, c2, d3, d4, d5⟩ = false by simp [sameB, h3])
          rw [decide_eq_true rfl] at HE
          go_enter Tryz.func22, Tryz.ntmps22
          go_wp2_with (go_at_call 71; refine (HE.out _ HB.out).mono ?_; rintro e w2 ⟨rfl, hb⟩; have HB2 := Lib.hid (HB.out.trans (hb.mono HB.out.size)); have p3 := (HC.out.step hb).c3; have p4 := (HC.out.step hb).c4; have p5 := (HC.out.step hb).c5; have q3 := (HD.out.step hb).c3; have q4 := (HD.out.step hb).c4; have q5 := (HD.out.step hb).c5; clear hb)
          go_ret
          rw [HS.out]
          exact ⟨rfl, by first | exact HB2.out.1 | exact HB2.out | exact HB.out⟩
      · have HS := Lib.hid (show sameB ⟨c0, c1, c2, c3, c4, c5⟩ ⟨c0, c1, d2, d3, d4, d5⟩ = false by simp [sameB, h2])
        rw [decide_eq_false h2] at HE
        go_enter Tryz.func22, Tryz.ntmps22
        go_wp2_with (go_at_call 71; refine (HE.out _ HB.out).mono ?_; rintro e w2 ⟨rfl, hb⟩; have HB2 := Lib.hid (HB.out.trans (hb.mono HB.out.size)); have p3 := (HC.out.step hb).c3; have p4 := (HC.out.step hb).c4; have p5 := (HC.out.step hb).c5; have q3 := (HD.out.step hb).c3; have q4 := (HD.out.step hb).c4; have q5 := (HD.out.step hb).c5; clear hb)
        go_ret
        rw [HS.out]
        exact ⟨rfl, by first | exact HB2.out.1 | exact HB2.out | exact HB.out⟩
    · have HS := Lib.hid (show sameB ⟨c0, c1, c2, c3, c4, c5⟩ ⟨c0, d1, d2, d3, d4, d5⟩ = false by simp [sameB, h1])
      go_enter Tryz.func22, Tryz.ntmps22
      go_wp2_with (go_at_call 71; refine (HE.out _ HB.out).mono ?_; rintro e w2 ⟨rfl, hb⟩; have HB2 := Lib.hid (HB.out.trans (hb.mono HB.out.size)); have p3 := (HC.out.step hb).c3; have p4 := (HC.out.step hb).c4; have p5 := (HC.out.step hb).c5; have q3 := (HD.out.step hb).c3; have q4 := (HD.out.step hb).c4; have q5 := (HD.out.step hb).c5; clear hb)
      go_ret
      rw [HS.out]
      exact ⟨rfl, by first | exact HB2.out.1 | exact HB2.out | exact HB.out⟩
  · have HS := Lib.hid (show sameB ⟨c0, c1, c2, c3, c4, c5⟩ ⟨d0, d1, d2, d3, d4, d5⟩ = false by simp [sameB, h0])
    go_enter Tryz.func22, Tryz.ntmps22
    go_wp2_with (go_at_call 71; refine (HE.out _ HB.out).mono ?_; rintro e w2 ⟨rfl, hb⟩; have HB2 := Lib.hid (HB.out.trans (hb.mono HB.out.size)); have p3 := (HC.out.step hb).c3; have p4 := (HC.out.step hb).c4; have p5 := (HC.out.step hb).c5; have q3 := (HD.out.step hb).c3; have q4 := (HD.out.step hb).c4; have q5 := (HD.out.step hb).c5; clear hb)
    go_ret
    rw [HS.out]
    exact ⟨rfl, by first | exact HB2.out.1 | exact HB2.out | exact HB.out⟩
end Go.Proofs.YtnaoandleelbkaaGreatDoor
