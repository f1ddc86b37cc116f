/-
  The walk of NameTells.
-/
import Derived.Test.YtnlmlhjegjphiaaDoorNRFold
import Derived.Test.YtnlmlhjegjphiaaDoorNPartsC
namespace Go.Proofs.YtnlmlhjegjphiaaDoor
open Go Go.RowKit
set_option maxRecDepth 100000

/-- The row's texts from k on are as they were handed over, and may be written over. -/
def Spoil (w0 w : World) (A : Option Addr) (L : List (List UInt8)) (k : Nat) : Prop := k < L.length → ∃ g, A = some ⟨g, 0, none⟩ ∧ w0.heap.size ≤ g ∧
  (∀ j, k ≤ j → j < L.length → w.cell? ⟨g, j, none⟩ = some (sv (L.getD j []))) ∧ ∀ j, k ≤ j → j < L.length → w.frozen? ⟨g, j, none⟩ = false
theorem spoil_next {w0 w : World} {g k : Nat} {L : List (List UInt8)} (hg : w0.heap.size ≤ g) (hc : ∀ j, k ≤ j → j < L.length → w.cell? ⟨g, j, none⟩ = some (sv (L.getD j [])))
    (hf : ∀ j, k ≤ j → j < L.length → w.frozen? ⟨g, j, none⟩ = false) (x : Value) : Spoil w0 (w.setCell ⟨g, k, none⟩ x) (some ⟨g, 0, none⟩) L (k + 1) := fun _ =>
  ⟨g, rfl, hg, fun j h1 h2 => by
    rw [World.cell?_setCell_other _ _ _ _ (by intro he; injection he; omega)]
    exact hc j (by omega) h2, fun j h1 h2 => by
    rw [World.frozen?_setCell]
    exact hf j (by omega) h2⟩
theorem BL.set {w0 w : World} (h : BL w0 w) (hM : ML w0) {g k : Nat} (hg : w0.heap.size ≤ g) (x : Value) : BL w0 (w.setCell ⟨g, k, none⟩ x) := by
  refine ⟨h.1.setCell (p := ⟨g, k, none⟩) hg x, ?_⟩
  exact hM.below (h.1.setCell (p := ⟨g, k, none⟩) hg x) hM.lt

theorem nameTells_long (s : List UInt8) (w : World) (hs : s.length ≤ 140737488351232) (h : 5000 < s.length) (hM : ML w) :
    Calls Tryd.prog 4 #[.string (str s)] w fun e w' => e = .returned (.bool true) ∧ Below w.heap.size w w' := by
  have B0 := BL.start hM
  have h' : (5000 : Int) < (s.length : Int) := by omega
  clear hM h
  go_enter Tryd.func4, Tryd.ntmps4
  go_wp2_with fail
  refine (awake_bl _ B0).mono ?_
  rintro e w1 ⟨rfl, B1⟩
  have HB := Lib.hid B1.below
  go_wp2
  go_ret
  exact ⟨rfl, HB.out⟩

set_option maxHeartbeats 8000000 in
theorem nameTells_short (s : List UInt8) (w : World) (hs : s.length ≤ 5000) (hM : ML w) :
    Calls Tryd.prog 4 #[.string (str s)] w fun e w' => e = .returned (.bool true) ∧ Below w.heap.size w w' := by
  have B0 := BL.start hM
  have h1 : s.length ≤ 1000000 := by omega
  obtain ⟨L, hL⟩ : ∃ L, L = labelsL s := ⟨_, rfl⟩
  have hll : L.length ≤ 1000000 := by
    rw [hL]; unfold labelsL
    split
    · have := cutD_len s; omega
    · simp
  obtain ⟨q, hq⟩ : ∃ q, mayL s = q := ⟨_, rfl⟩
  have HMW := Lib.hid hM
  have HQ := Lib.hid hq
  have HL := Lib.hid hL
  clear hM hq hL
  cases hf : foldL s with
  | none =>
    cases hp : parentL s with
    | none =>
      have HF := Lib.hid hf
      have HP := Lib.hid hp
      clear hf hp
      go_enter Tryd.func4, Tryd.ntmps4
      go_wp2_with fail
      refine (bl_fold HF.out h1 B0).mono ?_
      rintro e w1 ⟨rfl, B1⟩
      unfold foldV
      go_wp2_with fail
      refine (blr (V := foldV) (rfold_any s _ h1) HF.out B1).mono ?_
      rintro e w2 ⟨rfl, B2⟩
      unfold foldV
      go_wp2_with fail
      refine (bl_parent HP.out h1 B2).mono ?_
      rintro e w3 ⟨rfl, B3⟩
      unfold optV
      go_wp2_with fail
      refine (blr (V := optV) (rparent_any s _ h1) HP.out B3).mono ?_
      rintro e w4 ⟨rfl, B4⟩
      unfold optV
      go_wp2_with fail
      refine (bl_may HQ.out h1 B4).mono ?_
      rintro e w5 ⟨rfl, B5⟩
      go_wp2_with fail
      refine (blr (V := .bool) (rmay_any s _ h1) HQ.out B5).mono ?_
      rintro e w6 ⟨rfl, B6⟩
      go_wp2_with fail
      go_loopw [11] (fun i wr => ∃ r : Nat, r ≤ 2 ∧ i = .int .i64 r ∧ BL w wr) (fun i _ => 2 - (intOf i).toNat)
      case atStart => exact ⟨0, by omega, rfl, B6⟩
      case round =>
        obtain ⟨r, hr, rfl, Br⟩ := hrel
        by_cases hr2 : r < 2
        · go_wp2_with fail
          refine (bl_labels h1 Br).mono ?_
          rintro e wa ⟨v, rfl, hg, Ba⟩
          rw [← HL.out] at hg
          have hrow : RowIs wa v L := GT.row hg
          have hcells : 0 < L.length → ∃ g c, v = .slice (some ⟨g, 0, none⟩) L.length c ∧ w.heap.size ≤ g ∧ g < wa.heap.size ∧ (∀ j, j < L.length → wa.cell? ⟨g, j, none⟩ = some (sv (L.getD j []))) ∧ ∀ j, j < L.length → wa.frozen? ⟨g, j, none⟩ = false := fun hp => by
            have hg' : GT wr v L wa := hg
            obtain ⟨A, c, rfl⟩ := hg'.form
            obtain ⟨g, rfl, a1, a2, a3, a4⟩ := hg'.cell hp
            exact ⟨g, c, rfl, Nat.le_trans Br.below.size a1, a2, a3, a4⟩
          have hform : ∃ A c, v = .slice A L.length c := GT.form (show GT wr v L wa from hg)
          obtain ⟨A, c, rfl⟩ := hform
          have HRO := Lib.hid hrow
          have HCE := Lib.hid hcells
          clear hg hrow hcells
          go_wp2_with fail
          refine (rlabels_any s _ h1).mono ?_
          rintro e wb ⟨u, rfl, hg⟩
          rw [← HL.out] at hg
          have hb := hg.below
          have HRU := Lib.hid (show RowIs wb u L from hg.row)
          have HB1 := Lib.hid hb
          have Bb : BL w wb := Ba.step hb
          obtain ⟨A2, c2, rfl⟩ := hg.form
          clear hg hb
          go_wp2_with fail
          refine (bls (V := .bool) (same_any L L _ _ _ (HRO.out.step HB1.out) HRU.out hll hll) (beq_self_eq_true L) Bb).mono ?_
          rintro e wc ⟨rfl, hbc, Bc⟩
          have HBC := Lib.hid (HB1.out.trans (hbc.mono HB1.out.size))
          clear hbc
          go_wp2_with fail
          go_loopw [13] (fun i wr => ∃ k : Nat, k ≤ L.length ∧ i = .int .i64 k ∧ Spoil w wr A L k ∧ BL w wr) (fun i _ => L.length - (intOf i).toNat)
          case atStart =>
            refine ⟨0, Nat.zero_le _, rfl, fun hp => ?_, Bc⟩
            obtain ⟨g, c', e1, a1, a2, a3, a4⟩ := HCE.out hp
            simp only [Value.slice.injEq] at e1
            obtain ⟨rfl, _⟩ := e1
            exact ⟨g, rfl, a1, fun j _ hj => (HBC.out.cell (p := ⟨g, j, none⟩) a2).trans (a3 j hj), fun j _ hj => (HBC.out.frozen (p := ⟨g, j, none⟩) a2).trans (a4 j hj)⟩
          case round =>
            obtain ⟨k, hk, rfl, hsp, Bk⟩ := hrel
            by_cases hlt : k < L.length
            · obtain ⟨g, rfl, hgw, hc, hf⟩ := hsp hlt
              have c0 := hc k (Nat.le_refl _) hlt
              have f0 := hf k (Nat.le_refl _) hlt
              have HC := Lib.hid hc
              have HFR := Lib.hid hf
              clear hc hf hsp
              have hnext : ∀ x, Spoil w (wr.setCell ⟨g, k, none⟩ x) (some ⟨g, 0, none⟩) L (k + 1) := fun x => spoil_next hgw HC.out HFR.out x
              have HN := Lib.hid hnext
              have HBS := Lib.hid (fun x => Bk.set HMW.out hgw (k := k) x)
              clear hnext
              go_wp2_with fail
              go_roundw
              case rel => exact ⟨k + 1, by omega, by go_num, HN.out _, HBS.out _⟩
              case measure => simp [intOf]; omega
            · obtain rfl : k = L.length := by omega
              clear hsp
              go_wp2_with fail
              go_roundw
              case rel => exact ⟨r + 1, by omega, by go_num, Bk⟩
              case measure => simp [intOf]; omega
        · obtain rfl : r = 2 := by omega
          go_wp2_with fail
          refine (awake_bl _ Br).mono ?_
          rintro e wz ⟨rfl, Bz⟩
          have HB := Lib.hid Bz.below
          go_wp2_with fail
          go_ret
          exact ⟨rfl, HB.out⟩
    | some p => exact absurd ((fold_may (parent_some.1 hp).1).symm.trans hf) (by simp)
  | some a =>
    cases hp : parentL s with
    | none =>
      have HF := Lib.hid hf
      have HP := Lib.hid hp
      clear hf hp
      go_enter Tryd.func4, Tryd.ntmps4
      go_wp2_with fail
      refine (bl_fold HF.out h1 B0).mono ?_
      rintro e w1 ⟨rfl, B1⟩
      unfold foldV
      go_wp2_with fail
      refine (blr (V := foldV) (rfold_any s _ h1) HF.out B1).mono ?_
      rintro e w2 ⟨rfl, B2⟩
      unfold foldV
      go_wp2_with fail
      refine (bl_parent HP.out h1 B2).mono ?_
      rintro e w3 ⟨rfl, B3⟩
      unfold optV
      go_wp2_with fail
      refine (blr (V := optV) (rparent_any s _ h1) HP.out B3).mono ?_
      rintro e w4 ⟨rfl, B4⟩
      unfold optV
      go_wp2_with fail
      refine (bl_may HQ.out h1 B4).mono ?_
      rintro e w5 ⟨rfl, B5⟩
      go_wp2_with fail
      refine (blr (V := .bool) (rmay_any s _ h1) HQ.out B5).mono ?_
      rintro e w6 ⟨rfl, B6⟩
      go_wp2_with fail
      go_loopw [11] (fun i wr => ∃ r : Nat, r ≤ 2 ∧ i = .int .i64 r ∧ BL w wr) (fun i _ => 2 - (intOf i).toNat)
      case atStart => exact ⟨0, by omega, rfl, B6⟩
      case round =>
        obtain ⟨r, hr, rfl, Br⟩ := hrel
        by_cases hr2 : r < 2
        · go_wp2_with fail
          refine (bl_labels h1 Br).mono ?_
          rintro e wa ⟨v, rfl, hg, Ba⟩
          rw [← HL.out] at hg
          have hrow : RowIs wa v L := GT.row hg
          have hcells : 0 < L.length → ∃ g c, v = .slice (some ⟨g, 0, none⟩) L.length c ∧ w.heap.size ≤ g ∧ g < wa.heap.size ∧ (∀ j, j < L.length → wa.cell? ⟨g, j, none⟩ = some (sv (L.getD j []))) ∧ ∀ j, j < L.length → wa.frozen? ⟨g, j, none⟩ = false := fun hp => by
            have hg' : GT wr v L wa := hg
            obtain ⟨A, c, rfl⟩ := hg'.form
            obtain ⟨g, rfl, a1, a2, a3, a4⟩ := hg'.cell hp
            exact ⟨g, c, rfl, Nat.le_trans Br.below.size a1, a2, a3, a4⟩
          have hform : ∃ A c, v = .slice A L.length c := GT.form (show GT wr v L wa from hg)
          obtain ⟨A, c, rfl⟩ := hform
          have HRO := Lib.hid hrow
          have HCE := Lib.hid hcells
          clear hg hrow hcells
          go_wp2_with fail
          refine (rlabels_any s _ h1).mono ?_
          rintro e wb ⟨u, rfl, hg⟩
          rw [← HL.out] at hg
          have hb := hg.below
          have HRU := Lib.hid (show RowIs wb u L from hg.row)
          have HB1 := Lib.hid hb
          have Bb : BL w wb := Ba.step hb
          obtain ⟨A2, c2, rfl⟩ := hg.form
          clear hg hb
          go_wp2_with fail
          refine (bls (V := .bool) (same_any L L _ _ _ (HRO.out.step HB1.out) HRU.out hll hll) (beq_self_eq_true L) Bb).mono ?_
          rintro e wc ⟨rfl, hbc, Bc⟩
          have HBC := Lib.hid (HB1.out.trans (hbc.mono HB1.out.size))
          clear hbc
          go_wp2_with fail
          go_loopw [13] (fun i wr => ∃ k : Nat, k ≤ L.length ∧ i = .int .i64 k ∧ Spoil w wr A L k ∧ BL w wr) (fun i _ => L.length - (intOf i).toNat)
          case atStart =>
            refine ⟨0, Nat.zero_le _, rfl, fun hp => ?_, Bc⟩
            obtain ⟨g, c', e1, a1, a2, a3, a4⟩ := HCE.out hp
            simp only [Value.slice.injEq] at e1
            obtain ⟨rfl, _⟩ := e1
            exact ⟨g, rfl, a1, fun j _ hj => (HBC.out.cell (p := ⟨g, j, none⟩) a2).trans (a3 j hj), fun j _ hj => (HBC.out.frozen (p := ⟨g, j, none⟩) a2).trans (a4 j hj)⟩
          case round =>
            obtain ⟨k, hk, rfl, hsp, Bk⟩ := hrel
            by_cases hlt : k < L.length
            · obtain ⟨g, rfl, hgw, hc, hf⟩ := hsp hlt
              have c0 := hc k (Nat.le_refl _) hlt
              have f0 := hf k (Nat.le_refl _) hlt
              have HC := Lib.hid hc
              have HFR := Lib.hid hf
              clear hc hf hsp
              have hnext : ∀ x, Spoil w (wr.setCell ⟨g, k, none⟩ x) (some ⟨g, 0, none⟩) L (k + 1) := fun x => spoil_next hgw HC.out HFR.out x
              have HN := Lib.hid hnext
              have HBS := Lib.hid (fun x => Bk.set HMW.out hgw (k := k) x)
              clear hnext
              go_wp2_with fail
              go_roundw
              case rel => exact ⟨k + 1, by omega, by go_num, HN.out _, HBS.out _⟩
              case measure => simp [intOf]; omega
            · obtain rfl : k = L.length := by omega
              clear hsp
              go_wp2_with fail
              go_roundw
              case rel => exact ⟨r + 1, by omega, by go_num, Bk⟩
              case measure => simp [intOf]; omega
        · obtain rfl : r = 2 := by omega
          go_wp2_with fail
          refine (awake_bl _ Br).mono ?_
          rintro e wz ⟨rfl, Bz⟩
          have HB := Lib.hid Bz.below
          go_wp2_with fail
          go_ret
          exact ⟨rfl, HB.out⟩
    | some p =>
      have HF := Lib.hid hf
      have HP := Lib.hid hp
      clear hf hp
      go_enter Tryd.func4, Tryd.ntmps4
      go_wp2_with fail
      refine (bl_fold HF.out h1 B0).mono ?_
      rintro e w1 ⟨rfl, B1⟩
      unfold foldV
      go_wp2_with fail
      refine (blr (V := foldV) (rfold_any s _ h1) HF.out B1).mono ?_
      rintro e w2 ⟨rfl, B2⟩
      unfold foldV
      go_wp2_with fail
      refine (bl_parent HP.out h1 B2).mono ?_
      rintro e w3 ⟨rfl, B3⟩
      unfold optV
      go_wp2_with fail
      refine (blr (V := optV) (rparent_any s _ h1) HP.out B3).mono ?_
      rintro e w4 ⟨rfl, B4⟩
      unfold optV
      go_wp2_with fail
      refine (bl_may HQ.out h1 B4).mono ?_
      rintro e w5 ⟨rfl, B5⟩
      go_wp2_with fail
      refine (blr (V := .bool) (rmay_any s _ h1) HQ.out B5).mono ?_
      rintro e w6 ⟨rfl, B6⟩
      go_wp2_with fail
      go_loopw [11] (fun i wr => ∃ r : Nat, r ≤ 2 ∧ i = .int .i64 r ∧ BL w wr) (fun i _ => 2 - (intOf i).toNat)
      case atStart => exact ⟨0, by omega, rfl, B6⟩
      case round =>
        obtain ⟨r, hr, rfl, Br⟩ := hrel
        by_cases hr2 : r < 2
        · go_wp2_with fail
          refine (bl_labels h1 Br).mono ?_
          rintro e wa ⟨v, rfl, hg, Ba⟩
          rw [← HL.out] at hg
          have hrow : RowIs wa v L := GT.row hg
          have hcells : 0 < L.length → ∃ g c, v = .slice (some ⟨g, 0, none⟩) L.length c ∧ w.heap.size ≤ g ∧ g < wa.heap.size ∧ (∀ j, j < L.length → wa.cell? ⟨g, j, none⟩ = some (sv (L.getD j []))) ∧ ∀ j, j < L.length → wa.frozen? ⟨g, j, none⟩ = false := fun hp => by
            have hg' : GT wr v L wa := hg
            obtain ⟨A, c, rfl⟩ := hg'.form
            obtain ⟨g, rfl, a1, a2, a3, a4⟩ := hg'.cell hp
            exact ⟨g, c, rfl, Nat.le_trans Br.below.size a1, a2, a3, a4⟩
          have hform : ∃ A c, v = .slice A L.length c := GT.form (show GT wr v L wa from hg)
          obtain ⟨A, c, rfl⟩ := hform
          have HRO := Lib.hid hrow
          have HCE := Lib.hid hcells
          clear hg hrow hcells
          go_wp2_with fail
          refine (rlabels_any s _ h1).mono ?_
          rintro e wb ⟨u, rfl, hg⟩
          rw [← HL.out] at hg
          have hb := hg.below
          have HRU := Lib.hid (show RowIs wb u L from hg.row)
          have HB1 := Lib.hid hb
          have Bb : BL w wb := Ba.step hb
          obtain ⟨A2, c2, rfl⟩ := hg.form
          clear hg hb
          go_wp2_with fail
          refine (bls (V := .bool) (same_any L L _ _ _ (HRO.out.step HB1.out) HRU.out hll hll) (beq_self_eq_true L) Bb).mono ?_
          rintro e wc ⟨rfl, hbc, Bc⟩
          have HBC := Lib.hid (HB1.out.trans (hbc.mono HB1.out.size))
          clear hbc
          go_wp2_with fail
          go_loopw [13] (fun i wr => ∃ k : Nat, k ≤ L.length ∧ i = .int .i64 k ∧ Spoil w wr A L k ∧ BL w wr) (fun i _ => L.length - (intOf i).toNat)
          case atStart =>
            refine ⟨0, Nat.zero_le _, rfl, fun hp => ?_, Bc⟩
            obtain ⟨g, c', e1, a1, a2, a3, a4⟩ := HCE.out hp
            simp only [Value.slice.injEq] at e1
            obtain ⟨rfl, _⟩ := e1
            exact ⟨g, rfl, a1, fun j _ hj => (HBC.out.cell (p := ⟨g, j, none⟩) a2).trans (a3 j hj), fun j _ hj => (HBC.out.frozen (p := ⟨g, j, none⟩) a2).trans (a4 j hj)⟩
          case round =>
            obtain ⟨k, hk, rfl, hsp, Bk⟩ := hrel
            by_cases hlt : k < L.length
            · obtain ⟨g, rfl, hgw, hc, hf⟩ := hsp hlt
              have c0 := hc k (Nat.le_refl _) hlt
              have f0 := hf k (Nat.le_refl _) hlt
              have HC := Lib.hid hc
              have HFR := Lib.hid hf
              clear hc hf hsp
              have hnext : ∀ x, Spoil w (wr.setCell ⟨g, k, none⟩ x) (some ⟨g, 0, none⟩) L (k + 1) := fun x => spoil_next hgw HC.out HFR.out x
              have HN := Lib.hid hnext
              have HBS := Lib.hid (fun x => Bk.set HMW.out hgw (k := k) x)
              clear hnext
              go_wp2_with fail
              go_roundw
              case rel => exact ⟨k + 1, by omega, by go_num, HN.out _, HBS.out _⟩
              case measure => simp [intOf]; omega
            · obtain rfl : k = L.length := by omega
              clear hsp
              go_wp2_with fail
              go_roundw
              case rel => exact ⟨r + 1, by omega, by go_num, Bk⟩
              case measure => simp [intOf]; omega
        · obtain rfl : r = 2 := by omega
          go_wp2_with fail
          refine (awake_bl _ Br).mono ?_
          rintro e wz ⟨rfl, Bz⟩
          have HB := Lib.hid Bz.below
          go_wp2_with fail
          go_ret
          exact ⟨rfl, HB.out⟩

theorem nameTells_walk (s : ByteArray) (hs : s.data.size ≤ 140737488351232) (w : World) (hM : ML w) :
    Calls Tryd.prog 4 #[.string s] w fun e w' => e = .returned (.bool true) ∧ Below w.heap.size w w' := by
  obtain ⟨s, rfl, _⟩ := to_str s
  have hs' : s.length ≤ 140737488351232 := by simpa using hs
  by_cases h : 5000 < s.length
  · exact nameTells_long s w hs' h hM
  · exact nameTells_short s w (by omega) hM
end Go.Proofs.YtnlmlhjegjphiaaDoor
