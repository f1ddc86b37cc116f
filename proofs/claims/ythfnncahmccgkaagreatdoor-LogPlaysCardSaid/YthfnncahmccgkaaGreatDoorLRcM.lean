/-
  The reference's sectors of a half; its Scan.
  The reference's logs and disks side by side.
-/
import Derived.Test.YthfnncahmccgkaaGreatDoorLRaM
import Derived.Test.YthfnncahmccgkaaGreatDoorLScM
import Derived.Test.YthfnncahmccgkaaGreatDoorFRJoin
import Derived.Test.YthfnncahmccgkaaGreatDoorLIter
import Derived.Test.YthfnncahmccgkaaGreatDoorLRwM
namespace Go.Proofs.YthfnncahmccgkaaGreatDoor
open Go Go.RowKit Go.Maps
set_option maxRecDepth 100000
set_option linter.unusedSimpArgs false
set_option linter.unusedVariables false

/-- What is read of a half. -/
def SecR (w : World) (S : DS) (half : Nat) (e : Ending) (w' : World) : Prop :=
  ∃ v, e = .returned (.tuple #[v, .bool (!S.off)]) ∧ Ro w w' v (if S.off then [] else hsec S half)
set_option maxHeartbeats 4000000 in
theorem sectorsR_any {w : World} {p g1 g2 g3 : Nat} {S : DS} (h : RD w p g1 g2 g3 S) {half : Nat} (hh : half < 2) : Calls Tryz.prog 74 #[dp p, .int .i64 (half : Int)] w (SecR w S half) := by
  obtain ⟨c1, c2, c3, left, fails, hq, _, _, _, _⟩ := h.box
  have k1 : w.cell? ⟨p, 1, none⟩ = some (.slice (some ⟨g2, 0, none⟩) S.was.length c2) := cellAt hq 1
  have k6 : w.cell? ⟨p, 6, none⟩ = some (.bool S.off) := cellAt hq 6
  have hn2 := h.ok.n2
  have hnl := h.ok.hn
  have HA := fun W => @rhalf_any W (S.was.length : Int) (half : Int) (by omega)
  rw [halfF_nat hh] at HA
  have hle := lfst_le (n := S.was.length) hh
  have HLP := Lib.hid (lt_of_blk hq)
  have HQ := Lib.hid hq
  cases hoff : S.off with
  | true =>
    rw [hoff] at k6
    have HO := Lib.hid hoff
    have RDA := Lib.hid (fun W (hb : Below w.heap.size w W) (z : Int) => show Calls Tryz.prog 96 #[dp p, .int .i64 z] W fun e w' => e = .returned (.tuple #[sv [], .int .i64 42]) ∧ Below W.heap.size W w' from by
      have := read_rd (h.below hb) z
      have e1 : S.rdE z = 42 := by simp [DS.rdE, hoff]
      have e2 : S.rdV z = [] := by rw [DS.rdV, e1]; rfl
      rwa [e1, e2] at this)
    generalize S.was.length / 2 = m0 at HA hle
    generalize lfst S.was.length half = f0 at HA hle
    generalize S.was.length = n at k1 HA hn2 hle
    clear h hq hoff hnl HQ
    by_cases hm : 0 < m0
    · have hm' : (0 : Int) < (m0 : Int) := by omega
      have hwz : IntKind.i64.wrap (f0 : Int) = (f0 : Int) := IntWalk.i64_in _ (by omega)
      go_enter Tryz.func74, Tryz.ntmps74
      go_wp2_with (go_at_call 26; refine (HA _).mono ?_; rintro e w1 ⟨rfl, rfl⟩)
      go_loopw [8, 9] (fun o i wr => o = .slice none 0 0 ∧ i = .int .i64 0 ∧ w = wr) (fun _ i _ => 1)
      case atStart => exact ⟨rfl, rfl, rfl⟩
      case round =>
        obtain ⟨rfl, rfl, rfl⟩ := hrel
        go_wp2_with (go_at_call 96; refine (RDA.out _ (Below.refl _ _) _).mono ?_; rintro e w5 ⟨rfl, hb5⟩)
        go_ret2
        exact ⟨.slice none 0 0, by rw [HO.out]; rfl, by rw [HO.out]; exact (Ro.nil w).step hb5⟩
    · obtain rfl : m0 = 0 := by omega
      go_enter Tryz.func74, Tryz.ntmps74
      go_wp2_with (go_at_call 26; refine (HA _).mono ?_; rintro e w1 ⟨rfl, rfl⟩)
      go_loopw [8, 9] (fun o i wr => o = .slice none 0 0 ∧ i = .int .i64 0 ∧ w = wr) (fun _ i _ => 1)
      case atStart => exact ⟨rfl, rfl, rfl⟩
      case round =>
        obtain ⟨rfl, rfl, rfl⟩ := hrel
        go_wp2_with fail
        refine wp_region_held_drew (S := fun W => W.cell? ⟨p, 6, none⟩ = some (.bool true)) (by kernel_rfl) k6 (fun hHeld => ?_)
        refine wpAnyH_take (i := 0) (v := ?vv0_1) rfl (by kernel_rfl) (by kernel_rfl) (by kernel_rfl) (fun _ _ _ h => h) (Or.inl ⟨by rfl, ?hy0_1⟩) (by assumption) ?rest0_1
        case hy0_1 => (intro w' hSw; (try dsimp only at hSw); go_simp; try with_reducible rfl)
        try simp only [List.getElem_toArray, List.getElem_cons_zero, List.getElem_cons_succ, Act.put, List.setIfInBounds_toArray, List.set_cons_zero, List.set_cons_succ]
        refine wpAnyH_take (i := 1) (v := ?vv1_1) rfl (by kernel_rfl) (by kernel_rfl) (by kernel_rfl) (fun _ _ _ h => h) (Or.inl ⟨by rfl, ?hy1_1⟩) (by assumption) ?rest1_1
        case hy1_1 => (intro w' hSw; (try dsimp only at hSw); go_simp; try with_reducible rfl)
        try simp only [List.getElem_toArray, List.getElem_cons_zero, List.getElem_cons_succ, Act.put, List.setIfInBounds_toArray, List.set_cons_zero, List.set_cons_succ]
        refine wpAnyH_take (i := 2) (v := ?vv2_1) rfl (by kernel_rfl) (by kernel_rfl) (by kernel_rfl) (fun _ _ _ h => h) (Or.inl ⟨by rfl, ?hy2_1⟩) (by assumption) ?rest2_1
        case hy2_1 => (intro w' hSw; (try dsimp only at hSw); go_simp; try with_reducible rfl)
        try simp only [List.getElem_toArray, List.getElem_cons_zero, List.getElem_cons_succ, Act.put, List.setIfInBounds_toArray, List.set_cons_zero, List.set_cons_succ]
        refine wpAnyH_take (i := 3) (v := ?vv3_1) rfl (by kernel_rfl) (by kernel_rfl) (by kernel_rfl) (fun _ _ _ h => h) (Or.inl ⟨by rfl, ?hy3_1⟩) (by assumption) ?rest3_1
        case hy3_1 => (intro w' hSw; (try dsimp only at hSw); go_simp; try with_reducible rfl)
        try simp only [List.getElem_toArray, List.getElem_cons_zero, List.getElem_cons_succ, Act.put, List.setIfInBounds_toArray, List.set_cons_zero, List.set_cons_succ]
        refine wpAnyH_take (i := 4) (v := .bool true) rfl (by kernel_rfl) (by kernel_rfl) (by kernel_rfl) (fun _ _ _ h => h) (Or.inl ⟨by rfl, fun w' hSw => exec_load1 w' rfl rfl hSw Tryz.underlying4 rfl⟩) (by assumption) ?_
        try simp only [List.getElem_toArray, List.getElem_cons_zero, List.getElem_cons_succ, Act.put, List.setIfInBounds_toArray, List.set_cons_zero, List.set_cons_succ]
        refine wpAnyH_take (i := 5) (v := ?vv5_1) rfl (by kernel_rfl) (by kernel_rfl) (by kernel_rfl) (fun _ _ _ h => h) (Or.inl ⟨by rfl, ?hy5_1⟩) (by assumption) ?rest5_1
        case hy5_1 => (intro w' hSw; (try dsimp only at hSw); go_simp; try with_reducible rfl)
        try simp only [List.getElem_toArray, List.getElem_cons_zero, List.getElem_cons_succ, Act.put, List.setIfInBounds_toArray, List.set_cons_zero, List.set_cons_succ]
        refine wpAnyH_take (i := 6) (v := ?vv6_1) rfl (by kernel_rfl) (by kernel_rfl) (by kernel_rfl) (fun _ _ _ h => h) (Or.inl ⟨by rfl, ?hy6_1⟩) (by assumption) ?rest6_1
        case hy6_1 => (intro w' hSw; (try dsimp only at hSw); go_simp; try with_reducible rfl)
        try simp only [List.getElem_toArray, List.getElem_cons_zero, List.getElem_cons_succ, Act.put, List.setIfInBounds_toArray, List.set_cons_zero, List.set_cons_succ]
        refine wpAnyH_take (i := 7) (v := ?vv7_1) rfl (by kernel_rfl) (by kernel_rfl) (by kernel_rfl) (fun _ _ _ h => h) (Or.inl ⟨by rfl, ?hy7_1⟩) (by assumption) ?rest7_1
        case hy7_1 => (intro w' hSw; (try dsimp only at hSw); go_simp; try with_reducible rfl)
        try simp only [List.getElem_toArray, List.getElem_cons_zero, List.getElem_cons_succ, Act.put, List.setIfInBounds_toArray, List.set_cons_zero, List.set_cons_succ]
        refine wpAnyH_done (by kernel_rfl) ?_ _
        go_wp2_with fail
        go_ret2
        exact ⟨.slice none 0 0, by rw [HO.out]; rfl, by rw [HO.out]; exact (Ro.nil w).drew⟩
  | false =>
    rw [hoff] at k6
    have HO := Lib.hid hoff
    have HH := Lib.hid h
    obtain ⟨f0, hf0⟩ : ∃ f0, f0 = lfst S.was.length half := ⟨_, rfl⟩
    obtain ⟨m0, hm0⟩ : ∃ m0, m0 = S.was.length / 2 := ⟨_, rfl⟩
    have HHS := Lib.hid (show hsec S half = (S.now.drop f0).take m0 by rw [hf0, hm0]; rfl)
    rw [← hf0, ← hm0] at HA hle
    have RDA := Lib.hid (fun W (hb : Below w.heap.size w W) (k : Nat) (hk : k < m0) => show Calls Tryz.prog 96 #[dp p, .int .i64 ((f0 + k : Nat) : Int)] W fun e w' => e = .returned (.tuple #[sv (S.now.getD (f0 + k) []), .int .i64 0]) ∧ Below W.heap.size W w' from by
      have := read_rd (h.below hb) ((f0 + k : Nat) : Int)
      have e1 : S.rdE ((f0 + k : Nat) : Int) = 0 := by simp [DS.rdE, hoff, DS.has]; omega
      have e2 : S.rdV ((f0 + k : Nat) : Int) = S.now.getD (f0 + k) [] := by rw [DS.rdV, e1, if_pos rfl]; rfl
      rwa [e1, e2] at this)
    have HNX := Lib.hid (fun k (hk : k < m0) => @drop_next S.now f0 k (by omega))
    have HLN := Lib.hid (fun k (hk : k ≤ m0) => show ((S.now.drop f0).take k).length = k by simp; omega)
    have hm : m0 ≤ 1024 := by omega
    have hfm : f0 ≤ 1024 := by omega
    generalize S.was.length = n at k1 HA hn2 hle HQ
    clear h hq hoff hnl hf0 hm0 hle
    go_enter Tryz.func74, Tryz.ntmps74
    go_wp2_with (go_at_call 26; refine (HA _).mono ?_; rintro e w1 ⟨rfl, rfl⟩)
    go_loopw [8, 9] (fun o i wr => ∃ k : Nat, k ≤ m0 ∧ i = .int .i64 k ∧ Ro w wr o ((S.now.drop f0).take k)) (fun _ i _ => m0 - (intOf i).toNat)
    case atStart => exact ⟨0, Nat.zero_le _, rfl, by simpa using Ro.nil w⟩
    case round =>
      obtain ⟨k, hk, rfl, hro⟩ := hrel
      have HRO := Lib.hid hro
      obtain ⟨A', c', rfl, _⟩ := hro.form
      have hlen := HLN.out k hk
      clear hro
      by_cases hlt : k < m0
      · have hlt' : (k : Int) < (m0 : Int) := by omega
        have RK := fun W hW => RDA.out W hW k hlt
        have HN := Lib.hid (HNX.out k hlt)
        obtain ⟨P, hP⟩ : ∃ P, P = (S.now.drop f0).take k := ⟨_, rfl⟩
        rw [← hP] at HN HRO hlen ⊢
        have HLEN := Lib.hid hlen
        obtain ⟨X, hX⟩ : ∃ X, X = S.now.getD (f0 + k) [] := ⟨_, rfl⟩
        rw [← hX] at HN RK
        obtain ⟨z, hz⟩ : ∃ z : Int, z = ((f0 + k : Nat) : Int) := ⟨_, rfl⟩
        rw [← hz] at RK
        have hwz : IntKind.i64.wrap ((f0 : Int) + (k : Int)) = z := by rw [IntWalk.i64_in _ (by omega), hz]; push_cast; rfl
        clear hP hX hz hlen
        go_wp2_with (first
          | (go_at_call 96; with_reducible refine (RK _ HRO.out.below).mono ?_; rintro e w5 ⟨rfl, hb5⟩)
          | (at_builtin; obtain ⟨v7, w7, hr7, HR7⟩ := Ro.app ((HRO.out.step hb5).step (below_alloc w5 (.cells #[sv X] 9))) (Tx.lit1 w5 X) 1 (by rw [HLEN.out, List.length_singleton]; omega); rw [List.length_singleton] at hr7; refine wpList_builtin2_runF _ rfl .append Builtin.append_ _ _ _ _ rfl (fun _ _ _ => rfl) (.slice A' P.length c') (.slice (some ⟨w5.heap.size, 0, none⟩) 1 1) rfl rfl hr7 ?_; clear hr7))
        go_roundw
        case rel => exact ⟨k + 1, by omega, by go_num, by rw [HN.out]; exact HR7⟩
        case measure => simp [intOf]; omega
      · obtain rfl : k = m0 := by omega
        have HRD := Lib.hid (show Ro w wr.drew (.slice A' k c') ((S.now.drop f0).take k) from by have := HRO.out.drew; rwa [hlen] at this)
        have k6' : wr.cell? ⟨p, 6, none⟩ = some (.bool false) := (World.cell?_of_block (HRO.out.below.block p HLP.out)).trans k6
        go_wp2_with fail
        refine wp_region_held_drew (S := fun W => W.cell? ⟨p, 6, none⟩ = some (.bool false)) (by kernel_rfl) k6' (fun hHeld => ?_)
        refine wpAnyH_take (i := 0) (v := ?vv0_2) rfl (by kernel_rfl) (by kernel_rfl) (by kernel_rfl) (fun _ _ _ h => h) (Or.inl ⟨by rfl, ?hy0_2⟩) (by assumption) ?rest0_2
        case hy0_2 => (intro w' hSw; (try dsimp only at hSw); go_simp; try with_reducible rfl)
        try simp only [List.getElem_toArray, List.getElem_cons_zero, List.getElem_cons_succ, Act.put, List.setIfInBounds_toArray, List.set_cons_zero, List.set_cons_succ]
        refine wpAnyH_take (i := 1) (v := ?vv1_2) rfl (by kernel_rfl) (by kernel_rfl) (by kernel_rfl) (fun _ _ _ h => h) (Or.inl ⟨by rfl, ?hy1_2⟩) (by assumption) ?rest1_2
        case hy1_2 => (intro w' hSw; (try dsimp only at hSw); go_simp; try with_reducible rfl)
        try simp only [List.getElem_toArray, List.getElem_cons_zero, List.getElem_cons_succ, Act.put, List.setIfInBounds_toArray, List.set_cons_zero, List.set_cons_succ]
        refine wpAnyH_take (i := 2) (v := ?vv2_2) rfl (by kernel_rfl) (by kernel_rfl) (by kernel_rfl) (fun _ _ _ h => h) (Or.inl ⟨by rfl, ?hy2_2⟩) (by assumption) ?rest2_2
        case hy2_2 => (intro w' hSw; (try dsimp only at hSw); go_simp; try with_reducible rfl)
        try simp only [List.getElem_toArray, List.getElem_cons_zero, List.getElem_cons_succ, Act.put, List.setIfInBounds_toArray, List.set_cons_zero, List.set_cons_succ]
        refine wpAnyH_take (i := 3) (v := ?vv3_2) rfl (by kernel_rfl) (by kernel_rfl) (by kernel_rfl) (fun _ _ _ h => h) (Or.inl ⟨by rfl, ?hy3_2⟩) (by assumption) ?rest3_2
        case hy3_2 => (intro w' hSw; (try dsimp only at hSw); go_simp; try with_reducible rfl)
        try simp only [List.getElem_toArray, List.getElem_cons_zero, List.getElem_cons_succ, Act.put, List.setIfInBounds_toArray, List.set_cons_zero, List.set_cons_succ]
        refine wpAnyH_take (i := 4) (v := .bool false) rfl (by kernel_rfl) (by kernel_rfl) (by kernel_rfl) (fun _ _ _ h => h) (Or.inl ⟨by rfl, fun w' hSw => exec_load1 w' rfl rfl hSw Tryz.underlying4 rfl⟩) (by assumption) ?_
        try simp only [List.getElem_toArray, List.getElem_cons_zero, List.getElem_cons_succ, Act.put, List.setIfInBounds_toArray, List.set_cons_zero, List.set_cons_succ]
        refine wpAnyH_take (i := 5) (v := ?vv5_2) rfl (by kernel_rfl) (by kernel_rfl) (by kernel_rfl) (fun _ _ _ h => h) (Or.inl ⟨by rfl, ?hy5_2⟩) (by assumption) ?rest5_2
        case hy5_2 => (intro w' hSw; (try dsimp only at hSw); go_simp; try with_reducible rfl)
        try simp only [List.getElem_toArray, List.getElem_cons_zero, List.getElem_cons_succ, Act.put, List.setIfInBounds_toArray, List.set_cons_zero, List.set_cons_succ]
        refine wpAnyH_take (i := 6) (v := ?vv6_2) rfl (by kernel_rfl) (by kernel_rfl) (by kernel_rfl) (fun _ _ _ h => h) (Or.inl ⟨by rfl, ?hy6_2⟩) (by assumption) ?rest6_2
        case hy6_2 => (intro w' hSw; (try dsimp only at hSw); go_simp; try with_reducible rfl)
        try simp only [List.getElem_toArray, List.getElem_cons_zero, List.getElem_cons_succ, Act.put, List.setIfInBounds_toArray, List.set_cons_zero, List.set_cons_succ]
        refine wpAnyH_take (i := 7) (v := ?vv7_2) rfl (by kernel_rfl) (by kernel_rfl) (by kernel_rfl) (fun _ _ _ h => h) (Or.inl ⟨by rfl, ?hy7_2⟩) (by assumption) ?rest7_2
        case hy7_2 => (intro w' hSw; (try dsimp only at hSw); go_simp; try with_reducible rfl)
        try simp only [List.getElem_toArray, List.getElem_cons_zero, List.getElem_cons_succ, Act.put, List.setIfInBounds_toArray, List.set_cons_zero, List.set_cons_succ]
        refine wpAnyH_done (by kernel_rfl) ?_ _
        go_wp2_with fail
        go_ret2
        exact ⟨_, by rw [HO.out]; rfl, by rw [HO.out, HHS.out]; exact HRD.out⟩

/-! ### Scan -/
theorem scanR_bad {w : World} {p : Nat} {S : DS} {half : Int} (hh : isH half = false) : Calls Tryz.prog 56 #[dp p, .int .i64 half] w (ScPost w S half) := by
  have HE := Lib.hid (show scnE S half = 1 by
    have : ¬ (0 ≤ half ∧ half < 2) := by simpa [isH] using hh
    rw [scnE, if_neg this])
  simp only [isH, decide_eq_false_iff_not] at hh
  by_cases h1 : half < 0
  · clear hh
    go_enter Tryz.func56, Tryz.ntmps56
    go_wp2_with fail
    go_ret3
    exact ScPost.none HE.out (by decide) (Below.refl _ _)
  · have h2 : 1 < half := by omega
    clear hh
    go_enter Tryz.func56, Tryz.ntmps56
    go_wp2_with fail
    go_ret3
    exact ScPost.none HE.out (by decide) (Below.refl _ _)
theorem scanR_off {w : World} {p g1 g2 g3 : Nat} {S : DS} (h : RD w p g1 g2 g3 S) {half : Nat} (hh : half < 2) (ho : S.off = true) : Calls Tryz.prog 56 #[dp p, .int .i64 (half : Int)] w (ScPost w S half) := by
  have HE := Lib.hid (show scnE S half = 42 by rw [scnE, if_pos (by omega), if_pos ho])
  have SE : Calls Tryz.prog 74 #[dp p, .int .i64 (half : Int)] w fun e w' => ∃ v, e = .returned (.tuple #[v, .bool false]) ∧ Ro w w' v [] := (sectorsR_any h hh).mono fun e w' hs => by
    obtain ⟨v, he, hr⟩ := hs
    rw [ho] at he hr
    exact ⟨v, he, hr⟩
  have h1 : ¬ ((half : Int) < 0) := by omega
  have h2 : ¬ ((1 : Int) < (half : Int)) := by omega
  clear h hh ho
  go_enter Tryz.func56, Tryz.ntmps56
  go_wp2_with (go_at_call 74; refine SE.mono ?_; rintro e w1 ⟨v, rfl, hro⟩)
  go_ret3
  exact ScPost.none HE.out (by decide) hro.below
theorem scnR_none {L : List (List UInt8)} (h : isB (L.getD 0 []) = false ∨ plL (L.getD 0 []) ≠ 0) : recs L (ageH L) = [] := by
  refine ((CameR.start L (ageH L)).no (Nat.zero_le _) ?_).symm
  rw [List.drop_zero]
  refine (joinB_false (not_first ?_)).1
  cases hb : partB L 0 (ageH L) ((0 : Nat) : Int)
  · rfl
  · obtain ⟨x, hx, hi, ha, hp⟩ := partB_iff.1 hb
    have e : L.getD 0 [] = x := by rw [List.getD_eq_getElem?_getD, hx]; rfl
    rw [e] at h
    rcases h with h | h
    · rw [hi] at h; cases h
    · exact absurd (by omega) h
set_option maxHeartbeats 8000000 in
theorem scanR_on {w : World} {p g1 g2 g3 : Nat} {S : DS} (h : RD w p g1 g2 g3 S) {half : Nat} (hh : half < 2) (ho : S.off = false) : Calls Tryz.prog 56 #[dp p, .int .i64 (half : Int)] w (ScPost w S half) := by
  have SE2 : Calls Tryz.prog 74 #[dp p, .int .i64 (half : Int)] w fun e w' => ∃ v, e = .returned (.tuple #[v, .bool true]) ∧ Ro w w' v (hsec S half) := (sectorsR_any h hh).mono fun e w' hs => by
    obtain ⟨v, he, hr⟩ := hs
    rw [ho] at he hr
    exact ⟨v, he, hr⟩
  have h1 : ¬ ((half : Int) < 0) := by omega
  have h2 : ¬ ((1 : Int) < (half : Int)) := by omega
  have hlen := hsec_length h.ok hh
  have hn2 := h.ok.n2
  have hl2 := h.ok.l2
  have hnow : ∀ x ∈ hsec S half, x.length = 128 := fun x hx => hl2 x (List.mem_of_mem_drop (List.mem_of_mem_take hx))
  have HE := Lib.hid (show scnE S half = if scnR S half = [] then 5 else 0 by
    rw [scnE, if_pos (by omega), if_neg (by rw [ho]; simp)]
    simp only [Int.toNat_natCast])
  have HR := Lib.hid (show scnR S half = recs (hsec S half) (ageH (hsec S half)) from rfl)
  have HAG := Lib.hid (show ageH (hsec S ((half : Int)).toNat) = ageH (hsec S half) by rw [Int.toNat_natCast])
  have HRT := Lib.hid (show scnR S ((half : Int)).toNat = scnR S half by rw [Int.toNat_natCast])
  have hl5 : (hsec S half).length ≤ 1024 := by omega
  obtain ⟨L, hL⟩ : ∃ L, L = hsec S half := ⟨_, rfl⟩
  rw [← hL] at SE2 hnow HR HAG hl5
  clear h hh ho hlen hl2 hL hn2
  by_cases hl0 : L.length = 0
  · have HN := Lib.hid (show scnR S half = [] by
      rw [HR.out]
      refine scnR_none (.inl ?_)
      rw [List.getD_eq_getElem?_getD, List.getElem?_eq_none (by omega)]
      cases hb : isB []
      · rfl
      · have := isB_len hb; simp at this)
    obtain rfl : L = [] := List.eq_nil_of_length_eq_zero hl0
    go_enter Tryz.func56, Tryz.ntmps56
    go_wp2_with (go_at_call 74; refine SE2.mono ?_; rintro e w1 ⟨v, rfl, hro⟩; obtain ⟨A, c, rfl, _⟩ := hro.form)
    go_ret3
    exact ScPost.none (by rw [HE.out, if_pos HN.out]) (by decide) hro.below
  · have hl1 : (0 : Int) < (L.length : Int) := by omega
    have hl0' : ((L.length : Int) == 0) = false := by rw [beq_eq_false_iff_ne]; omega
    have GA := Lib.hid (fun W => @rget_any W (L.getD 0 []) (by
      have := hnow (L.getD 0 []) (by rw [List.getD_eq_getElem?_getD, List.getElem?_eq_getElem (by omega)]; exact List.getElem_mem _)
      omega))
    have HAE := Lib.hid (show ageH L = agL (L.getD 0 []) from rfl)
    have HNO := Lib.hid (@scnR_none L)
    rw [← HR.out] at HNO
    have hpl : (plL (L.getD 0 []) : Nat) ≤ 9223372036854775807 := by
      have h9 : plL (L.getD 0 []) < 4294967296 := by
        unfold plL
        split
        · exact plN_lt _
        · omega
      omega
    have hag : (agL (L.getD 0 []) : Nat) ≤ 4294967295 := by have := agL_le (L.getD 0 []); have := oldL_lt (L.getD 0 []); omega
    have HL1 := Lib.hid (show 0 < L.length by omega)
    obtain ⟨X, hX⟩ : ∃ X, X = L.getD 0 [] := ⟨_, rfl⟩
    rw [← hX] at GA HAE HNO hpl hag
    have HX := Lib.hid hX
    clear hX hl0
    cases hib : isB X with
    | false =>
      have HN := Lib.hid (HNO.out (.inl hib))
      rw [hib] at GA
      clear hib
      go_enter Tryz.func56, Tryz.ntmps56
      go_wp2_with (first
        | (go_at_call 74; refine SE2.mono ?_; rintro e w1 ⟨v, rfl, hro⟩; obtain ⟨A, c, rfl, htx, hcl, _⟩ := hro.form; obtain ⟨b8, o8, rfl, hc0⟩ := htx.cell (k := 0) HL1.out; rw [Nat.add_zero, ← HX.out] at hc0)
        | (go_at_call 75; refine (GA.out _).mono ?_; rintro e w2 ⟨rfl, hb2⟩))
      go_ret3
      exact ScPost.none (by rw [HE.out, if_pos HN.out]) (by decide) (hro.below.trans (hb2.mono hro.below.size))
    | true =>
      by_cases hpz : plL X = 0
      · rw [hib, hpz] at GA
        obtain ⟨a, ha⟩ : ∃ a, a = agL X := ⟨_, rfl⟩
        rw [← ha] at GA HAE hag
        have HRA := Lib.hid (show scnR S half = recs L a by rw [HR.out, HAE.out])
        have HA2 := Lib.hid (show ageH (hsec S ((half : Int)).toNat) = a by rw [HAG.out, HAE.out])
        have HNOW := Lib.hid hnow
        clear hib hpz ha HNO hpl hnow
        go_enter Tryz.func56, Tryz.ntmps56
        go_wp2_with (first
          | (go_at_call 74; refine SE2.mono ?_; rintro e w1 ⟨v, rfl, hro⟩; obtain ⟨A, c, rfl, htx, hcl, _⟩ := hro.form; obtain ⟨b8, o8, rfl, hc0⟩ := htx.cell (k := 0) HL1.out; rw [Nat.add_zero, ← HX.out] at hc0)
          | (go_at_call 75; refine (GA.out _).mono ?_; rintro e w2 ⟨rfl, hb2⟩))
        have HTX := Lib.hid (htx.below hb2)
        have HB0 := Lib.hid (hro.below.trans (hb2.mono hro.below.size))
        have HCL := Lib.hid hcl
        clear htx hro hb2 hcl hc0 SE2
        go_loopw [13, 14] (fun o i wr => ∃ (pre : List (List UInt8)) (k : Nat), i = .int .i64 (k : Int) ∧ k ≤ L.length ∧ Ro w2 wr o pre ∧ CameR L a pre k ∧ pre.length ≤ k) (fun _ i _ => L.length - (intOf i).toNat)
        case atStart => exact ⟨[], 0, rfl, Nat.zero_le _, Ro.nil w2, CameR.start L a, Nat.le_refl _⟩
        case round =>
          obtain ⟨pre, k, rfl, hk, hro, hcome, hpk⟩ := hrel
          have HRO := Lib.hid hro
          have HC := Lib.hid hcome
          have HRW := Lib.hid (fun W v (h : Ro w2 W v pre) => show Ro w W v pre from ⟨ownsRow_base h.1 HB0.out.size, HB0.out.trans (h.2.mono HB0.out.size)⟩)
          have HRB := Lib.hid (fun W v (h : Ro w2 W v pre) => show Below w.heap.size w W from HB0.out.trans (h.2.mono HB0.out.size))
          obtain ⟨A', c', rfl, _⟩ := hro.form
          clear hro hcome
          by_cases hlt : k < L.length
          · have hlt' : (k : Int) < (L.length : Int) := by omega
            have SL := fun W => slice_rowN (W := W) (some ⟨b8, o8, none⟩) L.length c k hk
            have JP : ∀ X, Below wr.heap.size wr X → Calls Tryz.prog 76 #[.slice (fromA (some ⟨b8, o8, none⟩) k c) (L.length - k) (c - k), .int .i64 (a : Int), .int .i64 (k : Int)] X (JoPost X (L.drop k) a k) := fun X hb => by
              have := rjoin_any (w := X) (L.drop k) (fromA (some ⟨b8, o8, none⟩) k c) (c - k) (a : Int) (k : Int) ((HTX.out.below (HRO.out.below.trans (hb.mono HRO.out.below.size))).drop HCL.out) (fun x hx => by have := HNOW.out x (List.mem_of_mem_drop hx); omega) (by rw [List.length_drop]; omega) (by omega) (by omega)
              rwa [List.length_drop] at this
            obtain ⟨F, hF⟩ : ∃ F, F = fromA (some ⟨b8, o8, none⟩) k c := ⟨_, rfl⟩
            rw [← hF] at SL JP
            clear hF
            cases hjb : joinB (L.drop k) a k with
            | false =>
              have HEQ := Lib.hid (HC.out.no hk hjb)
              obtain ⟨_, e2, e3⟩ := joinB_false (l := L.drop k) (a := (a : Int)) (p := (k : Int)) (fun h => by rw [joinB_iff.2 h] at hjb; cases hjb)
              have JQ := fun X (hb : Below wr.heap.size wr X) => show Calls Tryz.prog 76 #[.slice F (L.length - k) (c - k), .int .i64 (a : Int), .int .i64 (k : Int)] X (fun e w' => e = .returned (.tuple #[sv [], .int .i64 0, .bool false]) ∧ Below X.heap.size X w') from by
                have := JP X hb
                unfold JoPost at this
                rw [hjb, e2, e3] at this
                exact this
              clear JP hjb e2 e3
              by_cases hp0 : pre.length = 0
              · have hpe : ((pre.length : Int) == 0) = true := by rw [hp0]; rfl
                have HP0 := Lib.hid hp0
                clear hp0
                go_wp2_with (go_at_call 76; refine (JQ _ (Below.refl _ _)).mono ?_; rintro e w9 ⟨rfl, hb9⟩)
                go_ret3
                exact ScPost.none (by rw [HE.out, if_pos (HRA.out.trans (HEQ.out.symm.trans (List.eq_nil_of_length_eq_zero HP0.out)))]) (by decide) (HRB.out _ _ (HRO.out.step hb9))
              · have hpe : ((pre.length : Int) == 0) = false := by rw [beq_eq_false_iff_ne]; omega
                have HP0 := Lib.hid hp0
                clear hp0
                go_wp2_with (go_at_call 76; refine (JQ _ (Below.refl _ _)).mono ?_; rintro e w9 ⟨rfl, hb9⟩)
                go_ret3
                exact ScPost.some (by rw [HE.out, if_neg (fun h => HP0.out (by rw [HEQ.out, ← HRA.out, h]; rfl))]) HA2.out (by rw [HRT.out, HRA.out, HEQ.out]) (HRW.out _ _ (HRO.out.step hb9))
            | true =>
              obtain ⟨_, _, hnx⟩ := HC.out.yes hk hjb
              obtain ⟨hn1, hn2⟩ := joinN_le hjb
              rw [List.length_drop] at hn2
              have JQ := fun X (hb : Below wr.heap.size wr X) => show Calls Tryz.prog 76 #[.slice F (L.length - k) (c - k), .int .i64 (a : Int), .int .i64 (k : Int)] X (fun e w' => e = .returned (.tuple #[sv (joinT (L.drop k) a k), .int .i64 (joinN (L.drop k) a k), .bool true]) ∧ Below X.heap.size X w') from by
                have := JP X hb
                unfold JoPost at this
                rw [hjb] at this
                exact this
              generalize joinT (L.drop k) a k = T at hnx JQ
              generalize joinN (L.drop k) a k = n at hn1 hn2 hnx JQ
              have HN := Lib.hid hnx
              have hw : IntKind.i64.wrap ((k : Int) + (n : Int)) = ((k + n : Nat) : Int) := by rw [IntWalk.i64_in _ (by omega)]; push_cast; rfl
              clear JP hjb hnx
              go_wp2_with (first
                | (go_at_call 76; refine (JQ _ (Below.refl _ _)).mono ?_; rintro e w9 ⟨rfl, hb9⟩)
                | (at_builtin; obtain ⟨v7, w7, hr7, HR7⟩ := Ro.app ((HRO.out.step hb9).step (below_alloc w9 (.cells #[sv T] 9))) (Tx.lit1 w9 T) 1 (by rw [List.length_singleton]; omega); rw [List.length_singleton] at hr7; refine wpList_builtin2_runF _ rfl .append Builtin.append_ _ _ _ _ rfl (fun _ _ _ => rfl) (.slice A' pre.length c') (.slice (some ⟨w9.heap.size, 0, none⟩) 1 1) rfl rfl hr7 ?_; clear hr7))
              go_roundw
              case rel => exact ⟨pre ++ [T], k + n, by go_num, by omega, HR7, HN.out, by simp; omega⟩
              case measure => simp [intOf]; omega
          · obtain rfl : k = L.length := by omega
            have HEQ := Lib.hid (HC.out.no hk (joinB_false (not_first (partB_out (by simp)))).1)
            by_cases hp0 : pre.length = 0
            · have hpe : ((pre.length : Int) == 0) = true := by rw [hp0]; rfl
              have HP0 := Lib.hid hp0
              clear hp0
              go_wp2_with fail
              go_ret3
              exact ScPost.none (by rw [HE.out, if_pos (HRA.out.trans (HEQ.out.symm.trans (List.eq_nil_of_length_eq_zero HP0.out)))]) (by decide) (HRB.out _ _ HRO.out)
            · have hpe : ((pre.length : Int) == 0) = false := by rw [beq_eq_false_iff_ne]; omega
              have HP0 := Lib.hid hp0
              clear hp0
              go_wp2_with fail
              go_ret3
              exact ScPost.some (by rw [HE.out, if_neg (fun h => HP0.out (by rw [HEQ.out, ← HRA.out, h]; rfl))]) HA2.out (by rw [HRT.out, HRA.out, HEQ.out]) (HRW.out _ _ HRO.out)
      · have HN := Lib.hid (HNO.out (.inr hpz))
        have hpn : ((plL X : Int) != 0) = true := by rw [bne_iff_ne]; omega
        rw [hib] at GA
        generalize plL X = pz at GA hpn
        clear hib hpz hpl
        go_enter Tryz.func56, Tryz.ntmps56
        go_wp2_with (first
          | (go_at_call 74; refine SE2.mono ?_; rintro e w1 ⟨v, rfl, hro⟩; obtain ⟨A, c, rfl, htx, hcl, _⟩ := hro.form; obtain ⟨b8, o8, rfl, hc0⟩ := htx.cell (k := 0) HL1.out; rw [Nat.add_zero, ← HX.out] at hc0)
          | (go_at_call 75; refine (GA.out _).mono ?_; rintro e w2 ⟨rfl, hb2⟩))
        go_ret3
        exact ScPost.none (by rw [HE.out, if_pos HN.out]) (by decide) (hro.below.trans (hb2.mono hro.below.size))
theorem scanR_log {w : World} {p g1 g2 g3 : Nat} {S : DS} (h : RD w p g1 g2 g3 S) (half : Int) : Calls Tryz.prog 56 #[dp p, .int .i64 half] w (ScPost w S half) := by
  cases hh : isH half with
  | false => exact scanR_bad hh
  | true =>
    simp only [isH, decide_eq_true_eq] at hh
    obtain ⟨k, rfl⟩ : ∃ k : Nat, half = (k : Int) := ⟨half.toNat, by omega⟩
    cases ho : S.off with
    | true => exact scanR_off h (by omega) ho
    | false => exact scanR_on h (by omega) ho
end Go.Proofs.YthfnncahmccgkaaGreatDoor

namespace Go.Proofs.YthfnncahmccgkaaGreatDoor
open Go Go.RowKit Go.Maps
set_option maxRecDepth 100000
set_option linter.unusedSimpArgs false
set_option linter.unusedVariables false

def rgOb (q p n : Nat) (l : LS) : Ob := ⟨[q], fun w => RG w q p n l⟩
theorem rgOb_stays (q p n : Nat) (l : LS) : (rgOb q p n l).Stays := fun W W' h hP => ((h q (by simp [rgOb])).2).trans hP
section
variable {w0 w : World} {os : List Ob} {p g1 g2 g3 : Nat} {S : DS} (h : Obs w0 w os) (i : Nat) (hi : os[i]? = some (rdOb p g1 g2 g3 S))
include h hi
theorem beginR_o (hops : S.ops < 4611686018427380000) (half age : Int) (s : List UInt8) (hs : s.length ≤ 140737488351232) :
    Calls Tryz.prog 50 #[dp p, .int .i64 half, .int .i64 age, sv s] w fun e w' => ∃ v, e = .returned (.tuple #[v, .int .i64 (begE S half age s)]) ∧
      ((begE S half age s = 0 ∧ ∃ q, v = dp q ∧ Obs w0 w' (os.set i (rdOb p g1 g2 g3 (begS S half age s)) ++ [rgOb q p S.was.length (begL S half age s)])) ∨ (begE S half age s ≠ 0 ∧ v = .pointer none ∧ Obs w0 w' (os.set i (rdOb p g1 g2 g3 (begS S half age s))))) := by
  refine (beginR_log (h.get hi) hops half age s hs).mono ?_
  rintro e w' ⟨v, rfl, hP, hk, hc⟩
  have hO : Obs w0 w' (os.set i (rdOb p g1 g2 g3 (begS S half age s))) := h.turn i hi _ hP (rdOb_stays _ _ _ _ _) (hk.mono (by simp [rdOb])) (fun b hb => ⟨.inl hb, hP.lts b hb⟩)
  refine ⟨v, rfl, ?_⟩
  rcases hc with ⟨h0, q, rfl, hq, hlg⟩ | ⟨h0, rfl⟩
  · refine .inl ⟨h0, q, rfl, hO.push (m := w.heap.size) h.size (fun j o hj b hb => ?_) (rgOb q p S.was.length (begL S half age s)) hlg (rgOb_stays _ _ _ _) (fun b hb => ?_)⟩
    · have hil : i < os.length := (List.getElem?_eq_some_iff.1 hi).1
      rw [List.getElem?_set] at hj
      split at hj
      · cases hj
        exact (h.this i _ hi).2.1 b hb |>.2
      · exact (h.this j o hj).2.1 b hb |>.2
    · simp [rgOb] at hb
      subst hb
      exact ⟨hq, lt_of_blk hlg⟩
  · exact .inr ⟨h0, rfl, hO⟩
theorem addR_o (j : Nat) (hij : i ≠ j) {q n : Nat} {l : LS} (hj : os[j]? = some (rgOb q p n l)) (hn : S.was.length = n) (ho : l.Ok n) (hops : S.ops < 4611686018427380000) (s : List UInt8) (hs : s.length ≤ 140737488351232) :
    Calls Tryz.prog 51 #[dp q, sv s] w fun e w' => e = .returned (.int .i64 (addE S l s)) ∧ Obs w0 w' ((os.set i (rdOb p g1 g2 g3 (addS S l s))).set j (rgOb q p n (addL S l s))) :=
  (addR_log (h.get hj) (h.get hi) hn ho hops s hs).mono fun e w' hh => ⟨hh.1, h.turn2 i j hij hi hj _ _ rfl rfl hh.2.2.1 hh.2.1 (rdOb_stays _ _ _ _ _) (rgOb_stays _ _ _ _) (hh.2.2.2.mono (fun x hx => by
    simp only [rdOb, rgOb, List.mem_cons, List.not_mem_nil, or_false, List.mem_append] at hx ⊢
    rcases hx with h1 | h1 | h1 | h1
    · exact .inr h1
    · exact .inl (.inl h1)
    · exact .inl (.inr (.inr (.inl h1)))
    · exact .inl (.inr (.inr (.inr h1)))))⟩
theorem topR_o : Calls Tryz.prog 48 #[dp p] w fun e w' => e = .returned (.tuple #[.int .i64 (topV S : Nat), .int .i64 (topE S)]) ∧ Obs w0 w' os :=
  (topR_log (h.get hi)).mono fun e w' hh => ⟨hh.1, h.step hh.2⟩
end
/-- Two logs side by side, of the program and of the reference; or none. -/
def fL : Option (Nat × Nat × LS) → Option (Nat × LS) := Option.map fun t => (t.1, t.2.2)
def fM : Option (Nat × Nat × LS) → Option (Nat × LS) := Option.map fun t => (t.2.1, t.2.2)
def orOb (p n : Nat) : Option (Nat × LS) → Ob
  | none => ⟨[], fun _ => True⟩
  | some (q, l) => rgOb q p n l
theorem orOb_stays (p n : Nat) (c : Option (Nat × LS)) : (orOb p n c).Stays := by
  cases c with
  | none => exact fun _ _ _ _ => trivial
  | some x => exact rgOb_stays _ _ _ _
def rmOb (r p x gL gM : Nat) : Ob := ⟨[r], fun w => w.heap[r]? = some (.cells #[dp p, dp x, .slice (some ⟨gL, 0, none⟩) 2 2, .slice (some ⟨gM, 0, none⟩) 2 2] 58 (0, 0))⟩
theorem rmOb_stays (r p x gL gM : Nat) : (rmOb r p x gL gM).Stays := fun W W' h hP => ((h r (by simp [rmOb])).2).trans hP
def roomOs (p bl bd x g1 g2 g3 r gL gM n : Nat) (S : DS) (a b : Option (Nat × Nat × LS)) : List Ob :=
  [pdOb p bl bd S, rdOb x g1 g2 g3 S, rmOb r p x gL gM, xOb 22 gL 2 [pvO (fL a), pvO (fL b)], xOb 98 gM 2 [pvO (fM a), pvO (fM b)], olOb p (fL a), olOb p (fL b), orOb x n (fM a), orOb x n (fM b)]
/-- A room: the disk, the document's, the logs of both halves. -/
def RoomI (w0 w : World) (r n o : Nat) : Prop := ∃ (p bl bd x g1 g2 g3 gL gM : Nat) (S : DS) (a b : Option (Nat × Nat × LS)), Obs w0 w (roomOs p bl bd x g1 g2 g3 r gL gM n S a b) ∧ okO n (fL a) ∧ okO n (fL b) ∧ S.was.length = n ∧ S.ops ≤ o
end Go.Proofs.YthfnncahmccgkaaGreatDoor
