/-
  CertWithin, walked.
-/
import Derived.Deep.RegionHeld3
import Derived.Test.YtamlblfhjpajhaaDoorGUpM
namespace Go.Proofs.YtamlblfhjpajhaaDoor
set_option linter.unusedSimpArgs false
set_option linter.unusedVariables false
open Go Go.RowKit
set_option maxRecDepth 100000

set_option maxHeartbeats 40000000 in
theorem certWithin_none {w : World} (c : Ct) (A : Option Addr) (cp : Nat) (hx : SX w (.slice A c.names.length cp) c.names) (hi : inC c) (key : List UInt8) (hk : key.length ≤ 140737488351232) (name : List UInt8) (hn : name.length ≤ 140737488351232) (hw : GL w) (hlw : LWc w) (hbig : ¬ (300 < key.length ∨ 300 < name.length)) (h1 : ¬ 1 ≤ key.length) :
    Calls Tryd.prog 5 #[certV c (.slice A c.names.length cp), sv key, sv name] w fun e w' => e = .returned (.bool true) ∧ Below w.heap.size w w' := by
  have hP0 := Cl.box (@Cl.gb2 w) w.heap.size c A cp
  obtain ⟨P, hPe⟩ : ∃ P : World → Prop, P = fun W => (Gb w W ∧ LWc W) ∧ BX W w.heap.size c A cp := ⟨_, rfl⟩
  rw [← hPe] at hP0
  have HP := Lib.hid hP0
  obtain ⟨W1, hW⟩ : ∃ W1, W1 = w.alloc (cellsC c (.slice A c.names.length cp)) := ⟨_, rfl⟩
  have HP1 := Lib.hid (show P W1 by
    rw [hPe, hW]
    exact box_new (@Cl.gb2 w) ⟨Gb.start hw, hlw⟩ hx)
  have HU := Lib.hid (show ∀ W, P W → (Gb w W ∧ LWc W) ∧ BX W w.heap.size c A cp by rw [hPe]; exact fun W h => h)
  obtain ⟨k, hk0⟩ : ∃ k, k = w.heap.size := ⟨_, rfl⟩
  have HBL := Lib.hid (fun W (h : P W) => (HU.out W h).1.1.1)
  have hC := fun W (h : P W) => (HU.out W h).2.cells
  have HX := Lib.hid (fun W (h : P W) => (HU.out W h).2.sx)
  have HLW := Lib.hid (fun W (h : P W) => (HU.out W h).1.2)
  have hL := fun W (h : P W) => (HU.out W h).2.1.lt
  rw [← hk0] at hC hL
  have HKL := Lib.hid hL
  have HC := Lib.hid hC
  have HWK := Lib.hid (fun W (h : P W) => works_p HP.out h)
  have HLC := Lib.hid (fun W (h : P W) => large_p HP.out h (HX.out W h) hi)
  have hEC := fun W (h : P W) (hs : smallCt c) => encode_p HP.out h (HX.out W h) hs.short.2.2.2.2
  have HW := Lib.hid hW
  have HK := Lib.hid hk0
  have hzk := str_size key
  have hzn := str_size name
  have hik := hi.1
  clear hW hk0 hx hi hw hlw hP0 hPe hC hL
  have hkl : key.length ≤ 300 := by omega
  have hnl : name.length ≤ 300 := by omega
  have hk2 : ¬ (300 : Int) < (key.length : Int) := by omega
  have hn2 : ¬ (300 : Int) < (name.length : Int) := by omega
  clear hbig
  have HS1 := Lib.hid (fun W (h : P W) => show Calls Tryd.prog 12 #[sv c.key] W (fun e w' => e = .returned (sv (spkiL c.key)) ∧ P w') from (@spki_any W c.key (by have := hik; omega)).mono fun e w' ⟨h1, h2⟩ => ⟨h1, HP.out.step h h2⟩)
  have hkb : keyB key = false := by
    cases h : keyB key with
    | false => rfl
    | true => exact absurd (keyB_iff.1 h).1 h1
  have h1i : ¬ (1 : Int) ≤ (key.length : Int) := by omega
  have HSK := Lib.hid (fun W (h : P W) => show Calls Tryd.prog 12 #[sv key] W (fun e w' => e = .returned (sv []) ∧ P w') by
    have := @spki_any W key (by omega)
    rw [show spkiL key = [] by unfold spkiL; rw [hkb]; rfl] at this
    exact this.mono fun e w' ⟨h1, h2⟩ => ⟨h1, HP.out.step h h2⟩)
  clear hkb h1
  unfold certV
  obtain ⟨a0, a1, a2, a3, a4, a5⟩ := HC.out _ HP1.out
  go_enter Tryd.func5, Tryd.ntmps5
  go_wp2_with fail
  rw [← HW.out, ← HK.out]
  go_wp2_with (first
    | (go_at_call 6; with_reducible refine (HWK.out _ HP1.out).mono ?_; rintro e w1 ⟨rfl, p1⟩; have HP2 := Lib.hid p1; obtain ⟨a0, a1, a2, a3, a4, a5⟩ := HC.out _ p1; clear p1)
    | (go_at_call 7; with_reducible refine (HLC.out _ HP2.out).mono ?_; rintro e w2 ⟨hb, p2⟩; have HP3 := Lib.hid p2; clear p2 a0 a1 a2 a3 a4 a5; rcases hb with ⟨rfl, hsc⟩ | rfl))
  · have HSM := Lib.hid hsc
    clear hsc
    have HP4 := HP3
    go_cut [76] from 38 to 76 (fun u wr => u = .bool false ∧ P wr)
    case first =>
      refine wp_region_held_drew (S := P) (by kernel_rfl) (HP.out.step HP4.out (Below.refl _ _).drew) (fun hHeld => ?_)
      refine wpAnyH_take (i := 0) (v := ?vv0_1) rfl (by kernel_rfl) (by kernel_rfl) (by kernel_rfl) (fun _ _ _ h => h) (Or.inl ⟨by rfl, ?hy0_1⟩) (by assumption) ?rest0_1
      case hy0_1 => (intro w' hSw; (try dsimp only at hSw); go_simp; try with_reducible rfl)
      try simp only [List.getElem_toArray, List.getElem_cons_zero, List.getElem_cons_succ, Act.put, List.setIfInBounds_toArray, List.set_cons_zero, List.set_cons_succ]
      refine wpAnyH_take (i := 3) (v := ?vv3_1) rfl (by kernel_rfl) (by kernel_rfl) (by kernel_rfl) (fun _ _ _ h => h) (Or.inl ⟨by rfl, ?hy3_1⟩) (by assumption) ?rest3_1
      case hy3_1 => (intro w' hSw; (try dsimp only at hSw); go_simp; try with_reducible rfl)
      try simp only [List.getElem_toArray, List.getElem_cons_zero, List.getElem_cons_succ, Act.put, List.setIfInBounds_toArray, List.set_cons_zero, List.set_cons_succ]
      refine wpAnyH_ready (rs := [1]) (by kernel_rfl) (by simp) ?_
      refine AllReadyH.cons rfl (fun K hK => ?_) AllReadyH.nil
      go_simp
      go_at_call 12
      refine (HSK.out _ hHeld).mono ?_
      rintro e v1 ⟨rfl, pv1⟩
      refine hK.out _ _ pv1 (fun hHeld => ?_)
      clear hK K
      try simp only [List.getElem_toArray, List.getElem_cons_zero, List.getElem_cons_succ, Act.put, List.setIfInBounds_toArray, List.set_cons_zero, List.set_cons_succ]
      refine wpAnyH_take (i := 2) (v := ?vv2_1) rfl (by kernel_rfl) (by kernel_rfl) (by kernel_rfl) (fun _ _ _ h => h) (Or.inl ⟨by rfl, ?hy2_1⟩) (by assumption) ?rest2_1
      case hy2_1 => (intro w' hSw; (try dsimp only at hSw); go_simp; try with_reducible rfl)
      try simp only [List.getElem_toArray, List.getElem_cons_zero, List.getElem_cons_succ, Act.put, List.setIfInBounds_toArray, List.set_cons_zero, List.set_cons_succ]
      refine wpAnyH_take (i := 4) (v := ?vv4_1) rfl (by kernel_rfl) (by kernel_rfl) (by kernel_rfl) (fun _ _ _ h => h) (Or.inl ⟨by rfl, ?hy4_1⟩) (by assumption) ?rest4_1
      case hy4_1 => (intro w' hSw; (try dsimp only at hSw); go_simp; try with_reducible rfl)
      try simp only [List.getElem_toArray, List.getElem_cons_zero, List.getElem_cons_succ, Act.put, List.setIfInBounds_toArray, List.set_cons_zero, List.set_cons_succ]
      refine wpAnyH_take (i := 5) (v := ?vv5_1) rfl (by kernel_rfl) (by kernel_rfl) (by kernel_rfl) (fun _ _ _ h => h) (Or.inl ⟨by rfl, ?hy5_1⟩) (by assumption) ?rest5_1
      case hy5_1 => (intro w' hSw; (try dsimp only at hSw); go_simp; try with_reducible rfl)
      try simp only [List.getElem_toArray, List.getElem_cons_zero, List.getElem_cons_succ, Act.put, List.setIfInBounds_toArray, List.set_cons_zero, List.set_cons_succ]
      refine wpAnyH_take (i := 6) (v := ?vv6_1) rfl (by kernel_rfl) (by kernel_rfl) (by kernel_rfl) (fun _ _ _ h => h) (Or.inl ⟨by rfl, ?hy6_1⟩) (by assumption) ?rest6_1
      case hy6_1 => (intro w' hSw; (try dsimp only at hSw); go_simp; try with_reducible rfl)
      try simp only [List.getElem_toArray, List.getElem_cons_zero, List.getElem_cons_succ, Act.put, List.setIfInBounds_toArray, List.set_cons_zero, List.set_cons_succ]
      refine wpAnyH_take (i := 7) (v := ?vv7_1) rfl (by kernel_rfl) (by kernel_rfl) (by kernel_rfl) (fun _ _ _ h => h) (Or.inl ⟨by rfl, ?hy7_1⟩) (by assumption) ?rest7_1
      case hy7_1 => (intro w' hSw; (try dsimp only at hSw); go_simp; try with_reducible rfl)
      try simp only [List.getElem_toArray, List.getElem_cons_zero, List.getElem_cons_succ, Act.put, List.setIfInBounds_toArray, List.set_cons_zero, List.set_cons_succ]
      refine wpAnyH_take (i := 8) (v := undef) rfl (by kernel_rfl) (by kernel_rfl) (by kernel_rfl) (fun _ _ _ h => h) (Or.inr ⟨by rfl, rfl⟩) (by assumption) ?_
      try simp only [List.getElem_toArray, List.getElem_cons_zero, List.getElem_cons_succ, Act.put, List.setIfInBounds_toArray, List.set_cons_zero, List.set_cons_succ]
      refine wpAnyH_take (i := 9) (v := undef) rfl (by kernel_rfl) (by kernel_rfl) (by kernel_rfl) (fun _ _ _ h => h) (Or.inr ⟨by rfl, rfl⟩) (by assumption) ?_
      try simp only [List.getElem_toArray, List.getElem_cons_zero, List.getElem_cons_succ, Act.put, List.setIfInBounds_toArray, List.set_cons_zero, List.set_cons_succ]
      refine wpAnyH_take (i := 10) (v := undef) rfl (by kernel_rfl) (by kernel_rfl) (by kernel_rfl) (fun _ _ _ h => h) (Or.inr ⟨by rfl, rfl⟩) (by assumption) ?_
      try simp only [List.getElem_toArray, List.getElem_cons_zero, List.getElem_cons_succ, Act.put, List.setIfInBounds_toArray, List.set_cons_zero, List.set_cons_succ]
      refine wpAnyH_take (i := 11) (v := undef) rfl (by kernel_rfl) (by kernel_rfl) (by kernel_rfl) (fun _ _ _ h => h) (Or.inr ⟨by rfl, rfl⟩) (by assumption) ?_
      try simp only [List.getElem_toArray, List.getElem_cons_zero, List.getElem_cons_succ, Act.put, List.setIfInBounds_toArray, List.set_cons_zero, List.set_cons_succ]
      refine wpAnyH_take (i := 12) (v := undef) rfl (by kernel_rfl) (by kernel_rfl) (by kernel_rfl) (fun _ _ _ h => h) (Or.inr ⟨by rfl, rfl⟩) (by assumption) ?_
      try simp only [List.getElem_toArray, List.getElem_cons_zero, List.getElem_cons_succ, Act.put, List.setIfInBounds_toArray, List.set_cons_zero, List.set_cons_succ]
      refine wpAnyH_take (i := 13) (v := undef) rfl (by kernel_rfl) (by kernel_rfl) (by kernel_rfl) (fun _ _ _ h => h) (Or.inr ⟨by rfl, rfl⟩) (by assumption) ?_
      try simp only [List.getElem_toArray, List.getElem_cons_zero, List.getElem_cons_succ, Act.put, List.setIfInBounds_toArray, List.set_cons_zero, List.set_cons_succ]
      refine wpAnyH_take (i := 14) (v := undef) rfl (by kernel_rfl) (by kernel_rfl) (by kernel_rfl) (fun _ _ _ h => h) (Or.inr ⟨by rfl, rfl⟩) (by assumption) ?_
      try simp only [List.getElem_toArray, List.getElem_cons_zero, List.getElem_cons_succ, Act.put, List.setIfInBounds_toArray, List.set_cons_zero, List.set_cons_succ]
      refine wpAnyH_take (i := 15) (v := undef) rfl (by kernel_rfl) (by kernel_rfl) (by kernel_rfl) (fun _ _ _ h => h) (Or.inr ⟨by rfl, rfl⟩) (by assumption) ?_
      try simp only [List.getElem_toArray, List.getElem_cons_zero, List.getElem_cons_succ, Act.put, List.setIfInBounds_toArray, List.set_cons_zero, List.set_cons_succ]
      refine wpAnyH_take (i := 16) (v := undef) rfl (by kernel_rfl) (by kernel_rfl) (by kernel_rfl) (fun _ _ _ h => h) (Or.inr ⟨by rfl, rfl⟩) (by assumption) ?_
      try simp only [List.getElem_toArray, List.getElem_cons_zero, List.getElem_cons_succ, Act.put, List.setIfInBounds_toArray, List.set_cons_zero, List.set_cons_succ]
      refine wpAnyH_take (i := 17) (v := undef) rfl (by kernel_rfl) (by kernel_rfl) (by kernel_rfl) (fun _ _ _ h => h) (Or.inr ⟨by rfl, rfl⟩) (by assumption) ?_
      try simp only [List.getElem_toArray, List.getElem_cons_zero, List.getElem_cons_succ, Act.put, List.setIfInBounds_toArray, List.set_cons_zero, List.set_cons_succ]
      refine wpAnyH_take (i := 18) (v := undef) rfl (by kernel_rfl) (by kernel_rfl) (by kernel_rfl) (fun _ _ _ h => h) (Or.inr ⟨by rfl, rfl⟩) (by assumption) ?_
      try simp only [List.getElem_toArray, List.getElem_cons_zero, List.getElem_cons_succ, Act.put, List.setIfInBounds_toArray, List.set_cons_zero, List.set_cons_succ]
      refine wpAnyH_take (i := 19) (v := ?vv19_1) rfl (by kernel_rfl) (by kernel_rfl) (by kernel_rfl) (fun _ _ _ h => h) (Or.inl ⟨by rfl, ?hy19_1⟩) (by assumption) ?rest19_1
      case hy19_1 => (intro w' hSw; (try dsimp only at hSw); go_simp; try with_reducible rfl)
      try simp only [List.getElem_toArray, List.getElem_cons_zero, List.getElem_cons_succ, Act.put, List.setIfInBounds_toArray, List.set_cons_zero, List.set_cons_succ]
      refine wpAnyH_take (i := 20) (v := ?vv20_1) rfl (by kernel_rfl) (by kernel_rfl) (by kernel_rfl) (fun _ _ _ h => h) (Or.inl ⟨by rfl, ?hy20_1⟩) (by assumption) ?rest20_1
      case hy20_1 => (intro w' hSw; (try dsimp only at hSw); go_simp; try with_reducible rfl)
      try simp only [List.getElem_toArray, List.getElem_cons_zero, List.getElem_cons_succ, Act.put, List.setIfInBounds_toArray, List.set_cons_zero, List.set_cons_succ]
      refine wpAnyH_take (i := 21) (v := ?vv21_1) rfl (by kernel_rfl) (by kernel_rfl) (by kernel_rfl) (fun _ _ _ h => h) (Or.inl ⟨by rfl, ?hy21_1⟩) (by assumption) ?rest21_1
      case hy21_1 => (intro w' hSw; (try dsimp only at hSw); go_simp; try with_reducible rfl)
      try simp only [List.getElem_toArray, List.getElem_cons_zero, List.getElem_cons_succ, Act.put, List.setIfInBounds_toArray, List.set_cons_zero, List.set_cons_succ]
      refine wpAnyH_take (i := 22) (v := ?vv22_1) rfl (by kernel_rfl) (by kernel_rfl) (by kernel_rfl) (fun _ _ _ h => h) (Or.inl ⟨by rfl, ?hy22_1⟩) (by assumption) ?rest22_1
      case hy22_1 => (intro w' hSw; (try dsimp only at hSw); go_simp; try with_reducible rfl)
      try simp only [List.getElem_toArray, List.getElem_cons_zero, List.getElem_cons_succ, Act.put, List.setIfInBounds_toArray, List.set_cons_zero, List.set_cons_succ]
      refine wpAnyH_take (i := 23) (v := ?vv23_1) rfl (by kernel_rfl) (by kernel_rfl) (by kernel_rfl) (fun _ _ _ h => h) (Or.inl ⟨by rfl, ?hy23_1⟩) (by assumption) ?rest23_1
      case hy23_1 => (intro w' hSw; (try dsimp only at hSw); go_simp; try with_reducible rfl)
      try simp only [List.getElem_toArray, List.getElem_cons_zero, List.getElem_cons_succ, Act.put, List.setIfInBounds_toArray, List.set_cons_zero, List.set_cons_succ]
      refine wpAnyH_take (i := 24) (v := undef) rfl (by kernel_rfl) (by kernel_rfl) (by kernel_rfl) (fun _ _ _ h => h) (Or.inr ⟨by rfl, rfl⟩) (by assumption) ?_
      try simp only [List.getElem_toArray, List.getElem_cons_zero, List.getElem_cons_succ, Act.put, List.setIfInBounds_toArray, List.set_cons_zero, List.set_cons_succ]
      refine wpAnyH_take (i := 25) (v := undef) rfl (by kernel_rfl) (by kernel_rfl) (by kernel_rfl) (fun _ _ _ h => h) (Or.inr ⟨by rfl, rfl⟩) (by assumption) ?_
      try simp only [List.getElem_toArray, List.getElem_cons_zero, List.getElem_cons_succ, Act.put, List.setIfInBounds_toArray, List.set_cons_zero, List.set_cons_succ]
      refine wpAnyH_take (i := 26) (v := undef) rfl (by kernel_rfl) (by kernel_rfl) (by kernel_rfl) (fun _ _ _ h => h) (Or.inr ⟨by rfl, rfl⟩) (by assumption) ?_
      try simp only [List.getElem_toArray, List.getElem_cons_zero, List.getElem_cons_succ, Act.put, List.setIfInBounds_toArray, List.set_cons_zero, List.set_cons_succ]
      refine wpAnyH_take (i := 27) (v := undef) rfl (by kernel_rfl) (by kernel_rfl) (by kernel_rfl) (fun _ _ _ h => h) (Or.inr ⟨by rfl, rfl⟩) (by assumption) ?_
      try simp only [List.getElem_toArray, List.getElem_cons_zero, List.getElem_cons_succ, Act.put, List.setIfInBounds_toArray, List.set_cons_zero, List.set_cons_succ]
      refine wpAnyH_take (i := 28) (v := undef) rfl (by kernel_rfl) (by kernel_rfl) (by kernel_rfl) (fun _ _ _ h => h) (Or.inr ⟨by rfl, rfl⟩) (by assumption) ?_
      try simp only [List.getElem_toArray, List.getElem_cons_zero, List.getElem_cons_succ, Act.put, List.setIfInBounds_toArray, List.set_cons_zero, List.set_cons_succ]
      refine wpAnyH_take (i := 29) (v := undef) rfl (by kernel_rfl) (by kernel_rfl) (by kernel_rfl) (fun _ _ _ h => h) (Or.inr ⟨by rfl, rfl⟩) (by assumption) ?_
      try simp only [List.getElem_toArray, List.getElem_cons_zero, List.getElem_cons_succ, Act.put, List.setIfInBounds_toArray, List.set_cons_zero, List.set_cons_succ]
      refine wpAnyH_take (i := 30) (v := undef) rfl (by kernel_rfl) (by kernel_rfl) (by kernel_rfl) (fun _ _ _ h => h) (Or.inr ⟨by rfl, rfl⟩) (by assumption) ?_
      try simp only [List.getElem_toArray, List.getElem_cons_zero, List.getElem_cons_succ, Act.put, List.setIfInBounds_toArray, List.set_cons_zero, List.set_cons_succ]
      refine wpAnyH_take (i := 31) (v := undef) rfl (by kernel_rfl) (by kernel_rfl) (by kernel_rfl) (fun _ _ _ h => h) (Or.inr ⟨by rfl, rfl⟩) (by assumption) ?_
      try simp only [List.getElem_toArray, List.getElem_cons_zero, List.getElem_cons_succ, Act.put, List.setIfInBounds_toArray, List.set_cons_zero, List.set_cons_succ]
      refine wpAnyH_take (i := 32) (v := undef) rfl (by kernel_rfl) (by kernel_rfl) (by kernel_rfl) (fun _ _ _ h => h) (Or.inr ⟨by rfl, rfl⟩) (by assumption) ?_
      try simp only [List.getElem_toArray, List.getElem_cons_zero, List.getElem_cons_succ, Act.put, List.setIfInBounds_toArray, List.set_cons_zero, List.set_cons_succ]
      refine wpAnyH_take (i := 33) (v := undef) rfl (by kernel_rfl) (by kernel_rfl) (by kernel_rfl) (fun _ _ _ h => h) (Or.inr ⟨by rfl, rfl⟩) (by assumption) ?_
      try simp only [List.getElem_toArray, List.getElem_cons_zero, List.getElem_cons_succ, Act.put, List.setIfInBounds_toArray, List.set_cons_zero, List.set_cons_succ]
      refine wpAnyH_take (i := 34) (v := undef) rfl (by kernel_rfl) (by kernel_rfl) (by kernel_rfl) (fun _ _ _ h => h) (Or.inr ⟨by rfl, rfl⟩) (by assumption) ?_
      try simp only [List.getElem_toArray, List.getElem_cons_zero, List.getElem_cons_succ, Act.put, List.setIfInBounds_toArray, List.set_cons_zero, List.set_cons_succ]
      refine wpAnyH_take (i := 35) (v := undef) rfl (by kernel_rfl) (by kernel_rfl) (by kernel_rfl) (fun _ _ _ h => h) (Or.inr ⟨by rfl, rfl⟩) (by assumption) ?_
      try simp only [List.getElem_toArray, List.getElem_cons_zero, List.getElem_cons_succ, Act.put, List.setIfInBounds_toArray, List.set_cons_zero, List.set_cons_succ]
      refine wpAnyH_take (i := 36) (v := undef) rfl (by kernel_rfl) (by kernel_rfl) (by kernel_rfl) (fun _ _ _ h => h) (Or.inr ⟨by rfl, rfl⟩) (by assumption) ?_
      try simp only [List.getElem_toArray, List.getElem_cons_zero, List.getElem_cons_succ, Act.put, List.setIfInBounds_toArray, List.set_cons_zero, List.set_cons_succ]
      refine wpAnyH_take (i := 37) (v := ?vv37_1) rfl (by kernel_rfl) (by kernel_rfl) (by kernel_rfl) (fun _ _ _ h => h) (Or.inl ⟨by rfl, ?hy37_1⟩) (by assumption) ?rest37_1
      case hy37_1 => (intro w' hSw; (try dsimp only at hSw); go_simp; try with_reducible rfl)
      try simp only [List.getElem_toArray, List.getElem_cons_zero, List.getElem_cons_succ, Act.put, List.setIfInBounds_toArray, List.set_cons_zero, List.set_cons_succ]
      refine wpAnyH_take (i := 38) (v := ?vv38_1) rfl (by kernel_rfl) (by kernel_rfl) (by kernel_rfl) (fun _ _ _ h => h) (Or.inl ⟨by rfl, ?hy38_1⟩) (by assumption) ?rest38_1
      case hy38_1 => (intro w' hSw; (try dsimp only at hSw); go_simp; try with_reducible rfl)
      try simp only [List.getElem_toArray, List.getElem_cons_zero, List.getElem_cons_succ, Act.put, List.setIfInBounds_toArray, List.set_cons_zero, List.set_cons_succ]
      refine wpAnyH_done (by kernel_rfl) ?_ _
      go_wp2_with fail
      go_meet
      case rel => exact ⟨rfl, hHeld⟩
    case rest =>
      obtain ⟨rfl, hpc⟩ := hcut
      have HP5 := Lib.hid hpc
      obtain ⟨a0, a1, a2, a3, a4, a5⟩ := HC.out _ hpc
      clear hpc
      by_cases he : encE c = 0
      · obtain ⟨hfew, hw5, hel⟩ := encE_zero he
        have hkc : keyB c.key = true := keyB_iff.2 (mayC_iff.1 (fewB_iff.1 hfew).1).1
        have HSF := Lib.hid (fun W (h : P W) => show Calls Tryd.prog 12 #[sv c.key] W (fun e w' => e = .returned (sv (formL c.key)) ∧ P w') by
          have := HS1.out W h
          rw [spki_one hkc] at this
          exact this)
        have hal := encL_le c
        obtain ⟨fa, fb, hfab⟩ := form_in c
        rw [← hel] at hfab
        have HWI := Lib.hid (fun W : World => @within_yes W fa (formL c.key) fb (by rw [← hfab]; omega))
        rw [← hfab] at HWI
        have hmore := write_more c name
        rw [← hel] at hmore
        have hlong : encE (addN c name) = 0 → (encL c).length + (name.length + 2) ≤ (encL (addN c name)).length := fun h => by rw [(encE_zero h).2.2]; exact hmore
        have hal2 := encL_le (addN c name)
        have hnot : encE (addN c name) ≠ 0 → encL (addN c name) = [] := encE_not
        rw [he] at hEC
        have HED := Lib.hid (fun W (h : P W) (Ad : Option Addr) (dp : Nat) (hx : SX W (.slice Ad (c.names.length + 1) dp) (c.names ++ [name])) => show Calls Tryd.prog 8 #[.agg #[sv c.key, sv c.sig, .slice Ad (c.names.length + 1) dp, .int .i64 c.fr, .int .i64 c.un, .bool c.ca]] W (fun e w' => e = .returned (.tuple #[sv (encL (addN c name)), .int .i64 (encE (addN c name) : Nat)]) ∧ P w') by
          have hsh : shortC (addN c name) := by
            refine ⟨HSM.out.short.2.2.2.2.1, HSM.out.short.2.2.2.2.2.1, ?_, fun n hn => ?_⟩
            · show (c.names ++ [name]).length ≤ _
              rw [List.length_append]
              have := HSM.out.short.2.2.1
              simp only [List.length_singleton]
              omega
            · rcases List.mem_append.1 hn with hn | hn
              · exact HSM.out.short.2.2.2.2.2.2.2 n hn
              · rw [List.mem_singleton.1 hn]; omega
          have e : (addN c name).names.length = c.names.length + 1 := by show (c.names ++ [name]).length = _; rw [List.length_append]; rfl
          have := @encode_p P W HP.out h (addN c name) Ad dp (by rw [e]; exact hx) hsh
          rw [e] at this
          exact this)
        obtain ⟨a, hae⟩ : ∃ a, a = encL c := ⟨_, rfl⟩
        obtain ⟨b, hbe⟩ : ∃ b, b = encL (addN c name) := ⟨_, rfl⟩
        obtain ⟨E, hEe⟩ : ∃ E, E = encE (addN c name) := ⟨_, rfl⟩
        obtain ⟨F, hFe⟩ : ∃ F, F = formL c.key := ⟨_, rfl⟩
        rw [← hbe, ← hEe] at HED
        rw [← hae, ← hbe, ← hEe] at hlong
        rw [← hbe, ← hEe] at hnot
        rw [← hbe] at hal2
        rw [← hae] at hEC hal HWI
        rw [← hFe] at HSF HWI
        have hza := str_size a
        have hzb := str_size b
        have HEC2 := Lib.hid hEC
        have hn900 : c.names.length ≤ 900 := HSM.out.short.2.2.1
        clear hEC hae hbe hEe hFe hmore hel hw5 hfew hfab he hkc
        by_cases hE : E = 0
        · subst hE
          have hlo := hlong rfl
          have hlo2 : (a.length : Int) + (name.length : Int) + 2 ≤ (b.length : Int) := by omega
          have hs1 : IntKind.i64.wrap ((a.length : Int) + (name.length : Int)) = (a.length : Int) + (name.length : Int) := IntWalk.i64_in _ (by omega)
          have hs2 : IntKind.i64.wrap ((a.length : Int) + (name.length : Int) + 2) = (a.length : Int) + (name.length : Int) + 2 := IntWalk.i64_in _ (by omega)
          clear hlong hnot hlo
          go_wp2_with (first
            | (go_at_call 8; with_reducible refine (HEC2.out _ HP5.out HSM.out).mono ?_; rintro e w6 ⟨rfl, p6⟩; have HP6 := Lib.hid p6; obtain ⟨a0, a1, a2, a3, a4, a5⟩ := HC.out _ p6; have hk6 := HKL.out _ p6; obtain ⟨g, cap, w7, g2, cap2, w8, run1, run2, c8, c9, p9, x9⟩ := with_name HP.out p6 (HX.out _ p6) hn900 name; have HR1 := Lib.hid run1; have HR2 := Lib.hid run2; have HP9 := Lib.hid p9; have HX9 := Lib.hid x9; obtain ⟨b0, b1, b2, b3, b4, b5⟩ := c8.cells; have f2 := c8.free 2; obtain ⟨d0, d1, d2, d3, d4, d5⟩ := c9.cells; clear p6 run1 run2 c8 c9 p9 x9)
            | (at_builtin; refine stepApp rfl _ _ 22 rfl rfl rfl HR1.out ?_)
            | (at_builtin; refine stepApp rfl _ _ 22 rfl rfl rfl HR2.out ?_)
            | (go_at_call 8; with_reducible refine (HED.out _ HP9.out _ _ HX9.out).mono ?_; rintro e w10 ⟨rfl, p10⟩; have HP10 := Lib.hid p10; obtain ⟨a0, a1, a2, a3, a4, a5⟩ := HC.out _ p10; clear p10)
            | (go_at_call 12; with_reducible refine (HSF.out _ HP10.out).mono ?_; rintro e w11 ⟨rfl, p11⟩; have HP11 := Lib.hid p11; clear p11)
            | (go_at_call 14; with_reducible refine (HWI.out _).mono ?_; rintro e w12 ⟨rfl, rfl⟩))
          go_ret
          exact ⟨rfl, HBL.out _ HP11.out⟩
        · have hE1 : ¬ (E : Int) = 0 := by omega
          have hE2 : ((E : Int) != 0) = true := by rw [bne_iff_ne]; exact hE1
          clear hlong hnot hE
          go_wp2_with (first
            | (go_at_call 8; with_reducible refine (HEC2.out _ HP5.out HSM.out).mono ?_; rintro e w6 ⟨rfl, p6⟩; have HP6 := Lib.hid p6; obtain ⟨a0, a1, a2, a3, a4, a5⟩ := HC.out _ p6; have hk6 := HKL.out _ p6; obtain ⟨g, cap, w7, g2, cap2, w8, run1, run2, c8, c9, p9, x9⟩ := with_name HP.out p6 (HX.out _ p6) hn900 name; have HR1 := Lib.hid run1; have HR2 := Lib.hid run2; have HP9 := Lib.hid p9; have HX9 := Lib.hid x9; obtain ⟨b0, b1, b2, b3, b4, b5⟩ := c8.cells; have f2 := c8.free 2; obtain ⟨d0, d1, d2, d3, d4, d5⟩ := c9.cells; clear p6 run1 run2 c8 c9 p9 x9)
            | (at_builtin; refine stepApp rfl _ _ 22 rfl rfl rfl HR1.out ?_)
            | (at_builtin; refine stepApp rfl _ _ 22 rfl rfl rfl HR2.out ?_)
            | (go_at_call 8; with_reducible refine (HED.out _ HP9.out _ _ HX9.out).mono ?_; rintro e w10 ⟨rfl, p10⟩; have HP10 := Lib.hid p10; obtain ⟨a0, a1, a2, a3, a4, a5⟩ := HC.out _ p10; clear p10)
            | (go_at_call 12; with_reducible refine (HSF.out _ HP10.out).mono ?_; rintro e w11 ⟨rfl, p11⟩; have HP11 := Lib.hid p11; clear p11)
            | (go_at_call 14; with_reducible refine (HWI.out _).mono ?_; rintro e w12 ⟨rfl, rfl⟩))
          go_ret
          exact ⟨rfl, HBL.out _ HP11.out⟩
      · obtain ⟨E, hEe⟩ : ∃ E, E = encE c := ⟨_, rfl⟩
        rw [← hEe] at hEC he
        have hE1 : ¬ (E : Int) = 0 := by omega
        have hE2 : ((E : Int) != 0) = true := by rw [bne_iff_ne]; exact hE1
        have HEC2 := Lib.hid hEC
        clear hEC hEe he
        go_wp2_with (go_at_call 8; refine (HEC2.out _ HP5.out HSM.out).mono ?_; rintro e w6 ⟨rfl, p6⟩)
        go_ret
        exact ⟨rfl, HBL.out _ p6⟩
  · go_wp2_with (go_at_call 6; refine (HWK.out _ HP3.out).mono ?_; rintro e wz ⟨rfl, pz⟩)
    go_ret
    exact ⟨rfl, HBL.out _ pz⟩
end Go.Proofs.YtamlblfhjpajhaaDoor
