/-
  The law's own large, told; the reference's Same of texts.
-/
import Derived.Test.YtoinicmhkfomjaaGreatDoorJWm
namespace Go.Proofs.YtoinicmhkfomjaaGreatDoor
set_option linter.unusedSimpArgs false
set_option linter.unusedVariables false
open Go Go.RowKit
set_option maxRecDepth 100000

/-- Not large. -/
def fewC (c : Ct) : Prop := c.key.length ≤ 6000 ∧ c.sig.length ≤ 6000 ∧ c.names.length ≤ 1200 ∧ ∀ x ∈ c.names, x.length ≤ 6000
theorem fewC.short {c : Ct} (h : fewC c) : shortC c := ⟨Nat.le_trans h.1 (by decide), Nat.le_trans h.2.1 (by decide), Nat.le_trans h.2.2.1 (by decide), fun x hx => Nat.le_trans (h.2.2.2 x hx) (by decide)⟩
def fewR (l : List Ct) : Prop := l.length ≤ 60 ∧ ∀ k, k < l.length → fewC (ctAt l k)
theorem fewR.short {l : List Ct} (h : fewR l) : shortR l := ⟨Nat.le_trans h.1 (by decide), fun c hc => by
  obtain ⟨i, hi, rfl⟩ := List.getElem_of_mem hc
  have := (h.2 i hi).short
  unfold ctAt at this
  rw [List.getD_eq_getElem?_getD, List.getElem?_eq_getElem hi] at this
  exact this⟩
set_option maxHeartbeats 8000000 in
theorem jlarge_any {w : World} (l : List Ct) (A : Option Addr) (cp : Nat) (nv : Nat → Value) (hi : CI w A l cp nv) :
    Calls Tryz.prog 39 #[.slice A l.length cp] w fun e w' => ((e = .returned (.bool false) ∧ fewR l) ∨ e = .returned (.bool true)) ∧ Below w.heap.size w w' := by
  have HR := Lib.hid hi.cr
  have HE := Lib.hid hi.each
  have hll := hi.len
  clear hi
  go_enter Tryz.func39, Tryz.ntmps39
  go_wp2_with fail
  go_loopw [3, 4] (fun n i wr => ∃ k T : Nat, k ≤ l.length ∧ i = .int .i64 (k : Int) ∧ n = .int .i64 (T : Int) ∧ T ≤ 40000 ∧ 100 * k ≤ T ∧ (T < 6000 → ∀ j, j < k → fewC (ctAt l j)) ∧ Below w.heap.size w wr) (fun _ i _ => l.length - (intOf i).toNat)
  case atStart => exact ⟨0, 0, Nat.zero_le _, rfl, rfl, by omega, by omega, (fun _ j hj => by omega), Below.refl _ _⟩
  case round =>
    obtain ⟨k, T, hk, rfl, rfl, hT, h100, hfew, hb⟩ := hrel
    have HF := Lib.hid hfew
    have HB := Lib.hid hb
    by_cases hlt : k < l.length
    · have hlt' : (k : Int) < (l.length : Int) := by omega
      by_cases h6 : T < 6000
      · have h6' : (T : Int) < 6000 := by omega
        have h6d : decide ((T : Int) < 6000) = true := by simpa using h6'
        obtain ⟨g, off, rfl, hg, hcc, hsx⟩ := (HR.out.step hb).at hlt
        obtain ⟨a1, c1, e1⟩ := hsx.form
        rw [e1] at hcc hsx
        obtain ⟨p0, p1, p2, _, _, _⟩ := hcc
        obtain ⟨i1, i2, i3, i4⟩ := HE.out k hlt
        obtain ⟨key, hkey⟩ : ∃ x, x = (ctAt l k).key := ⟨_, rfl⟩
        obtain ⟨sig, hsig⟩ : ∃ x, x = (ctAt l k).sig := ⟨_, rfl⟩
        obtain ⟨ns, hns⟩ : ∃ x, x = (ctAt l k).names := ⟨_, rfl⟩
        rw [← hkey] at p0 i1
        rw [← hsig] at p1 i2
        rw [← hns] at p2 hsx i3 i4
        have HFC := Lib.hid (show key.length ≤ 6000 → sig.length ≤ 6000 → ns.length ≤ 1200 → (∀ x ∈ ns, x.length ≤ 6000) → fewC (ctAt l k) from fun a b c d => by
          unfold fewC; rw [← hkey, ← hsig, ← hns]; exact ⟨a, b, c, d⟩)
        have HSX := Lib.hid hsx
        have HI4 := Lib.hid i4
        have HP2 := Lib.hid p2
        have hz0 := str_size key
        have hz1 := str_size sig
        have n1 : (0 : Int) ≤ min 6000 (key.length : Int) := by omega
        have n2 : min 6000 (key.length : Int) ≤ 6000 := by omega
        have n3 : (0 : Int) ≤ min 6000 (sig.length : Int) := by omega
        have n4 : min 6000 (sig.length : Int) ≤ 6000 := by omega
        obtain ⟨K, hK⟩ : ∃ K : Nat, (K : Int) = min 6000 (key.length : Int) := ⟨min 6000 key.length, by omega⟩
        obtain ⟨G, hG⟩ : ∃ G : Nat, (G : Int) = min 6000 (sig.length : Int) := ⟨min 6000 sig.length, by omega⟩
        obtain ⟨T0, hT0⟩ : ∃ T0 : Nat, T0 = T + 100 + K + G := ⟨_, rfl⟩
        have hK6 : K ≤ 6000 := by omega
        have hG6 : G ≤ 6000 := by omega
        have hmk : min (6000 : Int) (key.length : Int) = (K : Int) := hK.symm
        have hmg : min (6000 : Int) (sig.length : Int) = (G : Int) := hG.symm
        have w1 : IntKind.i64.wrap ((T : Int) + 100) = (T : Int) + 100 := by simp [IntKind.wrap, IntKind.bits, IntKind.signed]; omega
        have w2 : IntKind.i64.wrap ((T : Int) + 100 + (K : Int)) = (T : Int) + 100 + (K : Int) := by simp [IntKind.wrap, IntKind.bits, IntKind.signed]; omega
        have w3 : IntKind.i64.wrap ((T : Int) + 100 + (K : Int) + (G : Int)) = (T0 : Int) := by rw [hT0]; simp [IntKind.wrap, IntKind.bits, IntKind.signed]; omega
        have w4 : (T : Int) + 100 + (K : Int) + (G : Int) = (T0 : Int) := by rw [hT0]; push_cast; omega
        have HKK := Lib.hid (show K < 6000 → key.length < 6000 by omega)
        have HGG := Lib.hid (show G < 6000 → sig.length < 6000 by omega)
        have hT0b : T0 ≤ 20000 := by omega
        have HT0 := Lib.hid hT0
        clear hkey hsig hns hfew hb hsx i4 p2 n1 n2 n3 n4 hK hG hT0 e1
        go_wp2_with fail
        refine wp_region_held_drew (S := fun W => W.cell? ⟨g, off + k * 6, none⟩ = some (sv key) ∧ W.cell? ⟨g, off + k * 6 + 1, none⟩ = some (sv sig) ∧ Below w.heap.size w W) (by kernel_rfl) ⟨p0, p1, HB.out.drew⟩ (fun hHeld => ?_)
        refine wpAnyH_take (i := 0) (v := ?vv0_1) rfl (by kernel_rfl) (by kernel_rfl) (by kernel_rfl) (fun _ _ _ h => h) (Or.inl ⟨by rfl, ?hy0_1⟩) (by assumption) ?rest0_1
        case hy0_1 => (intro w' hSw; (try dsimp only at hSw); go_simp; try with_reducible rfl)
        try simp only [List.getElem_toArray, List.getElem_cons_zero, List.getElem_cons_succ, Act.put, List.setIfInBounds_toArray, List.set_cons_zero, List.set_cons_succ]
        refine wpAnyH_take (i := 1) (v := ?vv1_1) rfl (by kernel_rfl) (by kernel_rfl) (by kernel_rfl) (fun _ _ _ h => h) (Or.inl ⟨by rfl, ?hy1_1⟩) (by assumption) ?rest1_1
        case hy1_1 => (intro w' hSw; (try dsimp only at hSw); go_simp; try with_reducible rfl)
        try simp only [List.getElem_toArray, List.getElem_cons_zero, List.getElem_cons_succ, Act.put, List.setIfInBounds_toArray, List.set_cons_zero, List.set_cons_succ]
        refine wpAnyH_take (i := 2) (v := ?vv2_1) rfl (by kernel_rfl) (by kernel_rfl) (by kernel_rfl) (fun _ _ _ h => h) (Or.inl ⟨by rfl, ?hy2_1⟩) (by assumption) ?rest2_1
        case hy2_1 => (intro w' hSw; (try dsimp only at hSw); go_simp; try with_reducible rfl)
        try simp only [List.getElem_toArray, List.getElem_cons_zero, List.getElem_cons_succ, Act.put, List.setIfInBounds_toArray, List.set_cons_zero, List.set_cons_succ]
        refine wpAnyH_take (i := 3) (v := ?vv3_1) rfl (by kernel_rfl) (by kernel_rfl) (by kernel_rfl) (fun _ _ _ h => h) (Or.inl ⟨by rfl, ?hy3_1⟩) (by assumption) ?rest3_1
        case hy3_1 => (intro w' hSw; (try dsimp only at hSw); go_simp; try with_reducible rfl)
        try simp only [List.getElem_toArray, List.getElem_cons_zero, List.getElem_cons_succ, Act.put, List.setIfInBounds_toArray, List.set_cons_zero, List.set_cons_succ]
        refine wpAnyH_take (i := 4) (v := ?vv4_1) rfl (by kernel_rfl) (by kernel_rfl) (by kernel_rfl) (fun _ _ _ h => h) (Or.inl ⟨by rfl, ?hy4_1⟩) (by assumption) ?rest4_1
        case hy4_1 => (intro w' hSw; (try dsimp only at hSw); go_simp; try with_reducible rfl)
        try simp only [List.getElem_toArray, List.getElem_cons_zero, List.getElem_cons_succ, Act.put, List.setIfInBounds_toArray, List.set_cons_zero, List.set_cons_succ]
        refine wpAnyH_take (i := 5) (v := ?vv5_1) rfl (by kernel_rfl) (by kernel_rfl) (by kernel_rfl) (fun _ _ _ h => h) (Or.inl ⟨by rfl, ?hy5_1⟩) (by assumption) ?rest5_1
        case hy5_1 => (intro w' hSw; (try dsimp only at hSw); go_simp; try with_reducible rfl)
        try simp only [List.getElem_toArray, List.getElem_cons_zero, List.getElem_cons_succ, Act.put, List.setIfInBounds_toArray, List.set_cons_zero, List.set_cons_succ]
        refine wpAnyH_take (i := 6) (v := sv key) rfl (by kernel_rfl) (by kernel_rfl) (by kernel_rfl) (fun _ _ _ h => h) (Or.inl ⟨by rfl, fun w' hSw => exec_load1 w' rfl rfl hSw.1 Tryz.underlying9 rfl⟩) (by assumption) ?_
        try simp only [List.getElem_toArray, List.getElem_cons_zero, List.getElem_cons_succ, Act.put, List.setIfInBounds_toArray, List.set_cons_zero, List.set_cons_succ]
        refine wpAnyH_take (i := 7) (v := ?vv7_1) rfl (by kernel_rfl) (by kernel_rfl) (by kernel_rfl) (fun _ _ _ h => h) (Or.inl ⟨by rfl, ?hy7_1⟩) (by assumption) ?rest7_1
        case hy7_1 => (intro w' hSw; (try dsimp only at hSw); go_simp; try with_reducible rfl)
        try simp only [List.getElem_toArray, List.getElem_cons_zero, List.getElem_cons_succ, Act.put, List.setIfInBounds_toArray, List.set_cons_zero, List.set_cons_succ]
        refine wpAnyH_take (i := 8) (v := ?vv8_1) rfl (by kernel_rfl) (by kernel_rfl) (by kernel_rfl) (fun _ _ _ h => h) (Or.inl ⟨by rfl, ?hy8_1⟩) (by assumption) ?rest8_1
        case hy8_1 => (intro w' hSw; (try dsimp only at hSw); go_simp; try with_reducible rfl)
        try simp only [List.getElem_toArray, List.getElem_cons_zero, List.getElem_cons_succ, Act.put, List.setIfInBounds_toArray, List.set_cons_zero, List.set_cons_succ]
        refine wpAnyH_take (i := 9) (v := ?vv9_1) rfl (by kernel_rfl) (by kernel_rfl) (by kernel_rfl) (fun _ _ _ h => h) (Or.inl ⟨by rfl, ?hy9_1⟩) (by assumption) ?rest9_1
        case hy9_1 => (intro w' hSw; (try dsimp only at hSw); go_simp; try with_reducible rfl)
        try simp only [List.getElem_toArray, List.getElem_cons_zero, List.getElem_cons_succ, Act.put, List.setIfInBounds_toArray, List.set_cons_zero, List.set_cons_succ]
        refine wpAnyH_take (i := 10) (v := ?vv10_1) rfl (by kernel_rfl) (by kernel_rfl) (by kernel_rfl) (fun _ _ _ h => h) (Or.inl ⟨by rfl, ?hy10_1⟩) (by assumption) ?rest10_1
        case hy10_1 => (intro w' hSw; (try dsimp only at hSw); go_simp; try with_reducible rfl)
        try simp only [List.getElem_toArray, List.getElem_cons_zero, List.getElem_cons_succ, Act.put, List.setIfInBounds_toArray, List.set_cons_zero, List.set_cons_succ]
        refine wpAnyH_take (i := 11) (v := ?vv11_1) rfl (by kernel_rfl) (by kernel_rfl) (by kernel_rfl) (fun _ _ _ h => h) (Or.inl ⟨by rfl, ?hy11_1⟩) (by assumption) ?rest11_1
        case hy11_1 => (intro w' hSw; (try dsimp only at hSw); go_simp; try with_reducible rfl)
        try simp only [List.getElem_toArray, List.getElem_cons_zero, List.getElem_cons_succ, Act.put, List.setIfInBounds_toArray, List.set_cons_zero, List.set_cons_succ]
        refine wpAnyH_take (i := 12) (v := ?vv12_1) rfl (by kernel_rfl) (by kernel_rfl) (by kernel_rfl) (fun _ _ _ h => h) (Or.inl ⟨by rfl, ?hy12_1⟩) (by assumption) ?rest12_1
        case hy12_1 => (intro w' hSw; (try dsimp only at hSw); go_simp; try with_reducible rfl)
        try simp only [List.getElem_toArray, List.getElem_cons_zero, List.getElem_cons_succ, Act.put, List.setIfInBounds_toArray, List.set_cons_zero, List.set_cons_succ]
        refine wpAnyH_take (i := 13) (v := ?vv13_1) rfl (by kernel_rfl) (by kernel_rfl) (by kernel_rfl) (fun _ _ _ h => h) (Or.inl ⟨by rfl, ?hy13_1⟩) (by assumption) ?rest13_1
        case hy13_1 => (intro w' hSw; (try dsimp only at hSw); go_simp; try with_reducible rfl)
        try simp only [List.getElem_toArray, List.getElem_cons_zero, List.getElem_cons_succ, Act.put, List.setIfInBounds_toArray, List.set_cons_zero, List.set_cons_succ]
        refine wpAnyH_take (i := 14) (v := sv sig) rfl (by kernel_rfl) (by kernel_rfl) (by kernel_rfl) (fun _ _ _ h => h) (Or.inl ⟨by rfl, fun w' hSw => exec_load1 w' rfl rfl hSw.2.1 Tryz.underlying9 rfl⟩) (by assumption) ?_
        try simp only [List.getElem_toArray, List.getElem_cons_zero, List.getElem_cons_succ, Act.put, List.setIfInBounds_toArray, List.set_cons_zero, List.set_cons_succ]
        refine wpAnyH_take (i := 15) (v := ?vv15_1) rfl (by kernel_rfl) (by kernel_rfl) (by kernel_rfl) (fun _ _ _ h => h) (Or.inl ⟨by rfl, ?hy15_1⟩) (by assumption) ?rest15_1
        case hy15_1 => (intro w' hSw; (try dsimp only at hSw); go_simp; try with_reducible rfl)
        try simp only [List.getElem_toArray, List.getElem_cons_zero, List.getElem_cons_succ, Act.put, List.setIfInBounds_toArray, List.set_cons_zero, List.set_cons_succ]
        refine wpAnyH_take (i := 16) (v := ?vv16_1) rfl (by kernel_rfl) (by kernel_rfl) (by kernel_rfl) (fun _ _ _ h => h) (Or.inl ⟨by rfl, ?hy16_1⟩) (by assumption) ?rest16_1
        case hy16_1 => (intro w' hSw; (try dsimp only at hSw); go_simp; try with_reducible rfl)
        try simp only [List.getElem_toArray, List.getElem_cons_zero, List.getElem_cons_succ, Act.put, List.setIfInBounds_toArray, List.set_cons_zero, List.set_cons_succ]
        refine wpAnyH_take (i := 17) (v := ?vv17_1) rfl (by kernel_rfl) (by kernel_rfl) (by kernel_rfl) (fun _ _ _ h => h) (Or.inl ⟨by rfl, ?hy17_1⟩) (by assumption) ?rest17_1
        case hy17_1 => (intro w' hSw; (try dsimp only at hSw); go_simp; try with_reducible rfl)
        try simp only [List.getElem_toArray, List.getElem_cons_zero, List.getElem_cons_succ, Act.put, List.setIfInBounds_toArray, List.set_cons_zero, List.set_cons_succ]
        refine wpAnyH_take (i := 18) (v := ?vv18_1) rfl (by kernel_rfl) (by kernel_rfl) (by kernel_rfl) (fun _ _ _ h => h) (Or.inl ⟨by rfl, ?hy18_1⟩) (by assumption) ?rest18_1
        case hy18_1 => (intro w' hSw; (try dsimp only at hSw); go_simp; try with_reducible rfl)
        try simp only [List.getElem_toArray, List.getElem_cons_zero, List.getElem_cons_succ, Act.put, List.setIfInBounds_toArray, List.set_cons_zero, List.set_cons_succ]
        refine wpAnyH_done (by kernel_rfl) ?_ _
        have HBD := Lib.hid hHeld.2.2
        obtain ⟨wD, hwD⟩ : ∃ wD, wD = wr.drew := ⟨_, rfl⟩
        have HSD := Lib.hid (show SX wD (Value.slice a1 ns.length c1) ns by rw [hwD]; exact HSX.out.step (Below.refl _ _).drew)
        have HPD := Lib.hid (show wD.cell? { block := g, off := off + k * 6 + 2 } = some (Value.slice a1 ns.length c1) by rw [hwD]; exact HP2.out)
        have w5 : IntKind.i64.wrap (T0 : Int) = (T0 : Int) := by simp [IntKind.wrap, IntKind.bits, IntKind.signed]; omega
        have HCR := Lib.hid (fun k0 : Unit => w5)
        rw [← hwD] at HBD
        go_wp2_with fail
        rw [w5]
        rw [← hwD]
        have HH3 := HKK
        clear hHeld hwD w1 w2 w3 w4 hmk hmg p0 p1 h6d h6' hz0 hz1 HCR
        go_loopw [3, 5] (fun n i wq => ∃ m U : Nat, m ≤ ns.length ∧ i = .int .i64 (m : Int) ∧ n = .int .i64 (U : Int) ∧ U ≤ 40000 ∧ T0 + 5 * m ≤ U ∧ (U < 6000 → ∀ x ∈ ns.take m, x.length ≤ 6000) ∧ wq = wD) (fun _ i _ => ns.length - (intOf i).toNat)
        case atStart => exact ⟨0, T0, Nat.zero_le _, rfl, rfl, by omega, by omega, (fun _ x hx => by simp at hx), rfl⟩
        case round =>
          obtain ⟨m, U, hm, rfl, rfl, hU, h5, hfx, rfl⟩ := hrel
          have HFX := Lib.hid hfx
          clear hfx
          have p2 := HPD.out
          by_cases hmt : m < ns.length
          · have hmt' : (m : Int) < (ns.length : Int) := by omega
            by_cases hU6 : U < 6000
            · have hU6' : (U : Int) < 6000 := by omega
              have hU6d : decide ((U : Int) < 6000) = true := by simpa using hU6'
              obtain ⟨g1, off1, rfl, _, a0⟩ := HSD.out.at hmt
              have hxl := HI4.out _ (mem_getD hmt)
              have HTK := Lib.hid (show ns.take (m + 1) = ns.take m ++ [ns.getD m []] from take_text hmt)
              obtain ⟨x, hxe⟩ : ∃ x, x = ns.getD m [] := ⟨_, rfl⟩
              rw [← hxe] at a0 hxl HTK
              have hz2 := str_size x
              have n1 : (0 : Int) ≤ min 6000 (x.length : Int) := by omega
              have n2 : min 6000 (x.length : Int) ≤ 6000 := by omega
              obtain ⟨X, hX⟩ : ∃ X : Nat, (X : Int) = min 6000 (x.length : Int) := ⟨min 6000 x.length, by omega⟩
              have hmx : min (6000 : Int) (x.length : Int) = (X : Int) := hX.symm
              have hX6 : X ≤ 6000 := by omega
              have HXL := Lib.hid (show X < 6000 → x.length ≤ 6000 by omega)
              clear hxe n1 n2 hX
              go_wp2_with fail
              go_roundw
              case rel =>
                refine ⟨m + 1, U + 5 + X, by omega, by go_num, by go_num, by omega, by omega, fun hlt0 y hy => ?_, by trivial⟩
                rw [HTK.out] at hy
                rcases List.mem_append.1 hy with hy | hy
                · exact HFX.out (by omega) y hy
                · rw [List.mem_singleton.1 hy]; exact HXL.out (by omega)
              case measure => simp [intOf]; omega
            · have hU6' : ¬ (U : Int) < 6000 := by omega
              have hU6d : decide ((U : Int) < 6000) = false := by rw [decide_eq_false_iff_not]; exact hU6'
              go_wp2_with fail
              go_roundw
              case rel => exact ⟨k + 1, U, by omega, by go_num, by go_num, by omega, by have := HT0.out; omega, (fun h => absurd h hU6), HBD.out⟩
              case measure => simp [intOf]; omega
          · obtain rfl : m = ns.length := by omega
            rw [List.take_length] at HFX
            have HNX := Lib.hid (show U < 6000 → ∀ j, j < k + 1 → fewC (ctAt l j) by
              intro hu j hj
              have e0 := HT0.out
              rcases Nat.lt_succ_iff_lt_or_eq.1 hj with hj | rfl
              · exact HF.out (by omega) j hj
              · have a1 := HKK.out; have a2 := HGG.out
                exact HFC.out (Nat.le_of_lt (a1 (by omega))) (Nat.le_of_lt (a2 (by omega))) (by omega) (HFX.out hu))
            go_wp2_with fail
            go_roundw
            case rel => exact ⟨k + 1, U, by omega, by go_num, by go_num, by omega, by have := HT0.out; omega, HNX.out, HBD.out⟩
            case measure => simp [intOf]; omega
      · have h6' : ¬ (T : Int) < 6000 := by omega
        have h6d : decide ((6000 : Int) ≤ (T : Int)) = true := by simpa using h6'
        have h6e : (6000 : Int) ≤ (T : Int) := by omega
        clear hfew hb
        go_wp2_with fail
        go_ret
        exact ⟨.inr rfl, HB.out⟩
    · obtain rfl : k = l.length := by omega
      clear hfew hb
      by_cases h6 : T < 6000
      · have HFR := Lib.hid (show fewR l from ⟨by omega, fun j hj => HF.out h6 j hj⟩)
        have h6' : ¬ (6000 : Int) ≤ (T : Int) := by omega
        have h6d : decide ((6000 : Int) ≤ (T : Int)) = false := by simpa using h6'
        go_wp2_with fail
        go_ret
        exact ⟨.inl ⟨rfl, HFR.out⟩, HB.out⟩
      · have h6' : (6000 : Int) ≤ (T : Int) := by omega
        have h6d : decide ((6000 : Int) ≤ (T : Int)) = true := by simpa using h6'
        go_wp2_with fail
        go_ret
        exact ⟨.inr rfl, HB.out⟩
end Go.Proofs.YtoinicmhkfomjaaGreatDoor
