/-
  The reference's Get.
-/
import Derived.Test.YtnaoandleelbkaaGreatDoorERm
import Derived.Test.YtnaoandleelbkaaGreatDoorECm
namespace Go.Proofs.YtnaoandleelbkaaGreatDoor
set_option linter.unusedSimpArgs false
set_option linter.unusedVariables false
open Go Go.RowKit
set_option maxRecDepth 100000

theorem RIB.free {w : World} {k : Nat} {t : UInt8} {v : List UInt8} (h : RIB w k t v) (j : Nat) : w.frozen? ⟨k, j, none⟩ = false := freeAt h j
theorem RIB.put {w : World} {k : Nat} {t : UInt8} {v : List UInt8} (h : RIB w k t v) (u : UInt8) (x : List UInt8) : RIB ((w.setCell ⟨k, 0, none⟩ (.int .u8 (u.toNat : Int))).setCell ⟨k, 1, none⟩ (sv x)) k u x := by
  unfold RIB at h ⊢
  simp [World.setCell, Array.getElem?_modify, h]
theorem rget_end {w W : World} {k m : Nat} {t : UInt8} {v : List UInt8} (hI : RIB W k t v) (hB : Below m w W) (tmps : Array Value) (r : List UInt8) (e : Int)
    (h2 : tmps.getD 2 undef = .pointer (some ⟨k, 0, none⟩)) (h3 : tmps.getD 3 undef = sv r) (h4 : tmps.getD 4 undef = .int .i64 e) {x : Value} (hx : x = .tuple #[itv t v, sv r, .int .i64 e]) :
    bodyPost Tryz.prog Tryz.f77 (fun e w' => e = .returned x ∧ Below m w w') Exit.ret { tmps := tmps, defers := [] } W := by
  refine bodyPost_ret (v := .tuple #[itv t v, sv r, .int .i64 e]) ?_ rfl ⟨by rw [hx], hB⟩
  rw [results_row_tmp2 (p := 2) (u := 3) (v := 4) (fr := (0, 0)) Tryz.results77 tmps W k 89 _ _ h2 hI Tryz.underlying89 rfl (by kernel_rfl), h3, h4]
  rfl
/-- How a text begins. -/
theorem cut_cases (s : List UInt8) : s = [] ∨ (∃ t r, s = t :: r ∧ tagB t = false) ∨ (∃ t, s = [t] ∧ tagB t = true) ∨ (∃ t b q, s = t :: b :: q ∧ tagB t = true ∧ (b.toNat ≤ 127 ∨ b = 129 ∨ b = 130 ∨ (127 < b.toNat ∧ b ≠ 129 ∧ b ≠ 130))) := by
  match s with
  | [] => exact .inl rfl
  | t :: r =>
    cases ht : tagB t with
    | false => exact .inr (.inl ⟨t, r, rfl, ht⟩)
    | true =>
      match r with
      | [] => exact .inr (.inr (.inl ⟨t, rfl, ht⟩))
      | b :: q =>
        refine .inr (.inr (.inr ⟨t, b, q, rfl, ht, ?_⟩))
        by_cases h1 : b.toNat ≤ 127
        · exact .inl h1
        · by_cases h2 : b = 129
          · exact .inr (.inl h2)
          · by_cases h3 : b = 130
            · exact .inr (.inr (.inl h3))
            · exact .inr (.inr (.inr ⟨by omega, h2, h3⟩))
theorem cutP_er2 {t : UInt8} {r : List UInt8} {e : Nat} (ht : tagB t = true) (h : cutLen r = .er e) : cutV (cutP (t :: r)) = .tuple #[itv 0 [], sv [], .int .i64 (e : Int)] := by
  rw [cutP_cons, ht, if_neg (by simp), h]; rfl
theorem tag_rem {t : UInt8} : (tagB t = true → ((t.toNat : Int) % 32 == 31) = false) ∧ (tagB t = false → ((t.toNat : Int) % 32 == 31) = true) := by
  constructor
  · intro h
    have h2 : t.toNat % 32 ≠ 31 := by unfold tagB at h; simpa using h
    rw [beq_eq_false_iff_ne]; omega
  · intro h
    have h2 : t.toNat % 32 = 31 := by unfold tagB at h; simpa using h
    rw [beq_iff_eq]; omega
theorem ne129 {x : UInt8} (hx : x.toNat < 128) : ¬ ([129] : List UInt8) = [x] := by
  intro e
  have e2 : (129 : UInt8) = x := by
    have := congrArg (fun l : List UInt8 => l.getD 0 0) e
    exact this
  subst e2
  revert hx
  decide
theorem thing_v {t : UInt8} {F q : List UInt8} {f n : Nat} (hF : F.length = f) : ((t :: (F ++ q)).take (1 + f + n)).drop (1 + f) = q.take n := by
  have h : (t :: F).length = 1 + f := by simp [hF]; omega
  rw [← List.cons_append, ← h, List.take_length_add_append, List.drop_left]
theorem thing_r {t : UInt8} {F q : List UInt8} {f n m : Nat} (hF : F.length = f) (hm : m = 1 + f + q.length) : ((t :: (F ++ q)).take m).drop (1 + f + n) = q.drop n := by
  have h : (t :: F).length = 1 + f := by simp [hF]; omega
  rw [List.take_of_length_le (by simp [hF]; omega), ← List.cons_append, ← h, List.drop_length_add_append]
set_option maxHeartbeats 16000000 in
theorem rget_any {w : World} (s : List UInt8) (hs : s.length ≤ 1000000000) :
    Calls Tryz.prog 77 #[sv s] w fun e w' => e = .returned (cutV (cutP s)) ∧ Below w.heap.size w w' := by
  have hB := below_alloc w (.cells #[.int .u8 0, sv []] 89)
  have hI := RIB.new w 0 []
  obtain ⟨W1, hW⟩ : ∃ W1, W1 = w.alloc (.cells #[.int .u8 0, sv []] 89) := ⟨_, rfl⟩
  obtain ⟨k, hk⟩ : ∃ k, k = w.heap.size := ⟨_, rfl⟩
  have hI' : RIB W1 k 0 [] := by rw [hW, hk]; exact hI
  rw [← hW, ← hk] at hB
  have HB := Lib.hid hB
  have HI := Lib.hid hI'
  have HW := Lib.hid hW
  have HK := Lib.hid hk
  have c0 : W1.cell? ⟨k, 0, none⟩ = some (.int .u8 0) := hI'.c0
  have c1 := hI'.c1
  have f0 := hI'.free 0
  have f1 := hI'.free 1
  have hsz := str_size s
  clear hI hI' hB hW hk
  obtain ⟨R, hR⟩ : ∃ R, R = cutV (cutP s) := ⟨_, rfl⟩
  have HC := Lib.hid hR
  rw [← hR]
  clear hR
  rcases cut_cases s with rfl | ⟨t, r, hse, ht⟩ | ⟨t, hse, ht⟩ | ⟨t, b, q, hse, ht, hcase⟩
  · go_enter Tryz.func77, Tryz.ntmps77
    go_wp2_with fail
    rw [← HW.out, ← HK.out]
    go_wp2_with fail
    exact rget_end (t := 0) (v := []) HI.out HB.out _ [] 8 rfl rfl rfl HC.out
  · have h1 : 0 < s.length := by rw [hse]; simp
    have hx0 : (str s)[0]'(by rw [hsz]; exact h1) = t := by subst hse; rfl
    have hem : s.isEmpty = false := by rw [hse]; rfl
    have hrm := tag_rem.2 ht
    rw [hse, cutP_cons, ht, if_pos rfl] at HC
    clear hse ht
    go_enter Tryz.func77, Tryz.ntmps77
    go_wp2_with fail
    rw [← HW.out, ← HK.out]
    go_wp2_with fail
    exact rget_end (t := 0) (v := []) HI.out HB.out _ [] 4 rfl rfl rfl HC.out
  · have h1 : s.length = 1 := by rw [hse]; rfl
    have hx0 : (str s)[0]'(by rw [hsz, h1]; decide) = t := by subst hse; rfl
    have hem : s.isEmpty = false := by rw [hse]; rfl
    have hrm := tag_rem.1 ht
    rw [hse, cutP_er2 ht (e := 8) rfl] at HC
    clear hse ht
    go_enter Tryz.func77, Tryz.ntmps77
    go_wp2_with fail
    rw [← HW.out, ← HK.out]
    go_wp2_with fail
    exact rget_end (t := 0) (v := []) HI.out HB.out _ [] 8 rfl rfl rfl HC.out
  · have h2 : 2 ≤ s.length := by rw [hse]; simp
    have hx0 : (str s)[0]'(by rw [hsz]; omega) = t := by subst hse; rfl
    have hx1 : (str s)[1]'(by rw [hsz]; omega) = b := by subst hse; rfl
    have hem : s.isEmpty = false := by rw [hse]; rfl
    have hrm := tag_rem.1 ht
    have hl1 : ¬ s.length = 1 := by omega
    have hl1' : ¬ (s.length : Int) = 1 := by omega
    have h01 : 0 < s.length := by omega
    have hbl := b.toNat_lt
    rw [hse] at HC
    rcases hcase with hb | rfl | rfl | ⟨hb, hb1, hb2⟩
    · skip
      have hcl : cutLen (b :: q) = .ok (b.toNat, q) := by rw [cutLen_cons, if_pos hb]
      obtain ⟨hn, hsp⟩ := cutLen_ok hcl
      rw [cutP_cons, ht, if_neg (by simp), hcl] at HC
      have HLO := Lib.hid (fun W => show Calls Tryz.prog 137 #[.int .i64 ((b.toNat : Int))] W (fun e w' => e = .returned (sv (lenL (b.toNat))) ∧ Below W.heap.size W w') by rw [show ((b.toNat : Int) : Int) = ((b.toNat : Nat) : Int) by omega]; exact rlong_any _ hn)
      have hFl : (lenL (b.toNat)).length = 1 := by unfold lenL; rw [if_pos hb]; rfl
      obtain ⟨F, hF⟩ : ∃ F, F = lenL (b.toNat) := ⟨_, rfl⟩
      rw [← hF] at HLO hFl hsp
      have hsl : s.length = 1 + 1 + q.length := by rw [hse, hsp]; simp; omega
      have hexF : (str s).extract 1 2 = str F := by rw [hse, hsp, str_extract]; simp [hFl]
      have hzF : (str F).size = 1 := by rw [str_size, hFl]
      have hfs : (2 : Int) ≤ (s.length : Int) := by omega
      have hfn : 2 ≤ s.length := by omega
      have HSE := Lib.hid (show s = t :: (F ++ q) by rw [hse, hsp])
      by_cases hq : q.length < b.toNat
      · have HC := Lib.hid (show R = cutV (.er 8) by rw [HC.out]; show cutV (if q.length < b.toNat then _ else _) = _; rw [if_pos hq])
        have hcmp : (s.length : Int) < 2 + ((b.toNat : Int)) := by omega
        clear hsl hl1 hse ht hcl hsp hF
        have hb1 : ¬ (b.toNat : Int) = 128 := by omega
        have hb2 : ¬ (130 : Int) < (b.toNat : Int) := by omega
        have hb3 : ¬ (128 : Int) < (b.toNat : Int) := by omega
        go_enter Tryz.func77, Tryz.ntmps77
        go_wp2_with (go_at_call 137; rw [← HW.out, ← HK.out]; (with_reducible refine (HLO.out _).mono ?_); rintro e w2 ⟨rfl, hx2⟩; have HI2 := Lib.hid (HI.out.step hx2); have HB2 := Lib.hid (show Below w.heap.size w w2 by rw [← HK.out]; exact HB.out.trans (hx2.mono (by have h1 := HB.out.size; have h2 := HK.out; omega))); have d0 := HI2.out.c0; have d1 := HI2.out.c1; have g0 := HI2.out.free 0; have g1 := HI2.out.free 1; clear hx2)
        exact rget_end (t := 0) (v := []) (HI2.out.put 0 []) (below_put2 HB2.out (by rw [HK.out]; exact Nat.le_refl _) _ _) _ [] 8 rfl rfl rfl HC.out
      · obtain ⟨V, hV⟩ : ∃ V, V = q.take (b.toNat) := ⟨_, rfl⟩
        obtain ⟨X, hX⟩ : ∃ X, X = q.drop (b.toNat) := ⟨_, rfl⟩
        have HC := Lib.hid (show R = .tuple #[itv t V, sv X, .int .i64 0] by rw [HC.out, hV, hX]; show cutV (if q.length < b.toNat then _ else _) = _; rw [if_neg hq]; rfl)
        have hcmp : ¬ (s.length : Int) < 2 + ((b.toNat : Int)) := by omega
        obtain ⟨M, hM⟩ : ∃ M, M = 2 + (b.toNat) := ⟨_, rfl⟩
        have hexV : (str s).extract 2 M = str V := by rw [HSE.out, str_extract, hM, hV]; exact congrArg str (thing_v hFl)
        have hexX : (str s).extract M s.length = str X := by rw [HSE.out, str_extract, hM, hX]; exact congrArg str (thing_r hFl (by rw [← HSE.out]; exact hsl))
        have hMs : M ≤ s.length := by omega
        have HWM := Lib.hid (show IntKind.i64.wrap (2 + ((b.toNat : Int))) = (M : Int) by rw [show (2 + ((b.toNat : Int)) : Int) = (M : Int) by omega]; exact IntWalk.i64_in _ (by omega))
        have HM2 := Lib.hid (show (2 : Int) ≤ (M : Int) by omega)
        have HE2 := Lib.hid (show (2 : Int) + ((b.toNat : Int)) = (M : Int) by omega)
        clear hsl hl1 hse ht hcl hsp hF hV hX hM
        have hb1 : ¬ (b.toNat : Int) = 128 := by omega
        have hb2 : ¬ (130 : Int) < (b.toNat : Int) := by omega
        have hb3 : ¬ (128 : Int) < (b.toNat : Int) := by omega
        go_enter Tryz.func77, Tryz.ntmps77
        go_wp2_with (go_at_call 137; rw [← HW.out, ← HK.out]; (with_reducible refine (HLO.out _).mono ?_); rintro e w2 ⟨rfl, hx2⟩; have HI2 := Lib.hid (HI.out.step hx2); have HB2 := Lib.hid (show Below w.heap.size w w2 by rw [← HK.out]; exact HB.out.trans (hx2.mono (by have h1 := HB.out.size; have h2 := HK.out; omega))); have d0 := HI2.out.c0; have d1 := HI2.out.c1; have g0 := HI2.out.free 0; have g1 := HI2.out.free 1; clear hx2)
        have hm2 := HM2.out
        have hm3 : (M : Int) ≤ (s.length : Int) := by omega
        obtain ⟨wD, hwD⟩ : ∃ wD, wD = w2.drew := ⟨_, rfl⟩
        have HID := Lib.hid (show RIB wD k 0 [] by rw [hwD]; exact HI2.out.step (Below.refl _ _).drew)
        have HBD := Lib.hid (show Below w.heap.size w wD by rw [hwD]; exact HB2.out.drew)
        have d0 := HID.out.c0
        have d1 := HID.out.c1
        have g0 := HID.out.free 0
        have g1 := HID.out.free 1
        have hwm := HWM.out
        clear HE2
        refine wp_region_held_drew (S := fun _ => True) (by kernel_rfl) trivial (fun hHeld => ?_)
        rw [← hwD]
        clear hwD
        refine wpAnyH_take (i := 0) (v := ?vv0_1) rfl (by kernel_rfl) (by kernel_rfl) (by kernel_rfl) (fun _ _ _ h => h) (Or.inl ⟨by rfl, ?hy0_1⟩) (by assumption) ?rest0_1
        case hy0_1 => (intro w' hSw; (try dsimp only at hSw); go_simp; try with_reducible rfl)
        try simp only [List.getElem_toArray, List.getElem_cons_zero, List.getElem_cons_succ, Act.put, List.setIfInBounds_toArray, List.set_cons_zero, List.set_cons_succ]
        refine wpAnyH_take (i := 1) (v := ?vv1_1) rfl (by kernel_rfl) (by kernel_rfl) (by kernel_rfl) (fun _ _ _ h => h) (Or.inl ⟨by rfl, ?hy1_1⟩) (by assumption) ?rest1_1
        case hy1_1 => (intro w' hSw; (try dsimp only at hSw); go_simp; try with_reducible rfl)
        try simp only [List.getElem_toArray, List.getElem_cons_zero, List.getElem_cons_succ, Act.put, List.setIfInBounds_toArray, List.set_cons_zero, List.set_cons_succ]
        refine wpAnyH_take (i := 2) (v := ?vv2_1) rfl (by kernel_rfl) (by kernel_rfl) (by kernel_rfl) (fun _ _ _ h => h) (Or.inl ⟨by rfl, ?hy2_1⟩) (by assumption) ?rest2_1
        case hy2_1 => (intro w' hSw; (try dsimp only at hSw); go_simp; try with_reducible rfl)
        try simp only [List.getElem_toArray, List.getElem_cons_zero, List.getElem_cons_succ, Act.put, List.setIfInBounds_toArray, List.set_cons_zero, List.set_cons_succ]
        refine wpAnyH_take (i := 3) (v := ?vv3_1) rfl (by kernel_rfl) (by kernel_rfl) (by kernel_rfl) (fun _ _ _ h => h) (Or.inl ⟨by rfl, ?hy3_1⟩) (by assumption) ?rest3_1
        case hy3_1 => (intro w' hSw; (try dsimp only at hSw); go_simp; try with_reducible rfl)
        try simp only [List.getElem_toArray, List.getElem_cons_zero, List.getElem_cons_succ, Act.put, List.setIfInBounds_toArray, List.set_cons_zero, List.set_cons_succ]
        refine wpAnyH_take (i := 4) (v := ?vv4_1) rfl (by kernel_rfl) (by kernel_rfl) (by kernel_rfl) (fun _ _ _ h => h) (Or.inl ⟨by rfl, ?hy4_1⟩) (by assumption) ?rest4_1
        case hy4_1 => (intro w' hSw; (try dsimp only at hSw); go_simp; try with_reducible rfl)
        try simp only [List.getElem_toArray, List.getElem_cons_zero, List.getElem_cons_succ, Act.put, List.setIfInBounds_toArray, List.set_cons_zero, List.set_cons_succ]
        refine wpAnyH_take (i := 5) (v := ?vv5_1) rfl (by kernel_rfl) (by kernel_rfl) (by kernel_rfl) (fun _ _ _ h => h) (Or.inl ⟨by rfl, ?hy5_1⟩) (by assumption) ?rest5_1
        case hy5_1 => (intro w' hSw; (try dsimp only at hSw); go_simp; try with_reducible rfl)
        try simp only [List.getElem_toArray, List.getElem_cons_zero, List.getElem_cons_succ, Act.put, List.setIfInBounds_toArray, List.set_cons_zero, List.set_cons_succ]
        refine wpAnyH_take (i := 6) (v := ?vv6_1) rfl (by kernel_rfl) (by kernel_rfl) (by kernel_rfl) (fun _ _ _ h => h) (Or.inl ⟨by rfl, ?hy6_1⟩) (by assumption) ?rest6_1
        case hy6_1 => (intro w' hSw; (try dsimp only at hSw); go_simp; try with_reducible rfl)
        try simp only [List.getElem_toArray, List.getElem_cons_zero, List.getElem_cons_succ, Act.put, List.setIfInBounds_toArray, List.set_cons_zero, List.set_cons_succ]
        refine wpAnyH_take (i := 7) (v := ?vv7_1) rfl (by kernel_rfl) (by kernel_rfl) (by kernel_rfl) (fun _ _ _ h => h) (Or.inl ⟨by rfl, ?hy7_1⟩) (by assumption) ?rest7_1
        case hy7_1 => (intro w' hSw; (try dsimp only at hSw); go_simp; try with_reducible rfl)
        try simp only [List.getElem_toArray, List.getElem_cons_zero, List.getElem_cons_succ, Act.put, List.setIfInBounds_toArray, List.set_cons_zero, List.set_cons_succ]
        refine wpAnyH_take (i := 8) (v := ?vv8_1) rfl (by kernel_rfl) (by kernel_rfl) (by kernel_rfl) (fun _ _ _ h => h) (Or.inl ⟨by rfl, ?hy8_1⟩) (by assumption) ?rest8_1
        case hy8_1 => (intro w' hSw; (try dsimp only at hSw); go_simp; try with_reducible rfl)
        try simp only [List.getElem_toArray, List.getElem_cons_zero, List.getElem_cons_succ, Act.put, List.setIfInBounds_toArray, List.set_cons_zero, List.set_cons_succ]
        refine wpAnyH_take (i := 9) (v := ?vv9_1) rfl (by kernel_rfl) (by kernel_rfl) (by kernel_rfl) (fun _ _ _ h => h) (Or.inl ⟨by rfl, ?hy9_1⟩) (by assumption) ?rest9_1
        case hy9_1 => (intro w' hSw; (try dsimp only at hSw); go_simp; try with_reducible rfl)
        try simp only [List.getElem_toArray, List.getElem_cons_zero, List.getElem_cons_succ, Act.put, List.setIfInBounds_toArray, List.set_cons_zero, List.set_cons_succ]
        refine wpAnyH_take (i := 10) (v := ?vv10_1) rfl (by kernel_rfl) (by kernel_rfl) (by kernel_rfl) (fun _ _ _ h => h) (Or.inl ⟨by rfl, ?hy10_1⟩) (by assumption) ?rest10_1
        case hy10_1 => (intro w' hSw; (try dsimp only at hSw); go_simp; try with_reducible rfl)
        try simp only [List.getElem_toArray, List.getElem_cons_zero, List.getElem_cons_succ, Act.put, List.setIfInBounds_toArray, List.set_cons_zero, List.set_cons_succ]
        refine wpAnyH_take (i := 11) (v := ?vv11_1) rfl (by kernel_rfl) (by kernel_rfl) (by kernel_rfl) (fun _ _ _ h => h) (Or.inl ⟨by rfl, ?hy11_1⟩) (by assumption) ?rest11_1
        case hy11_1 => (intro w' hSw; (try dsimp only at hSw); go_simp; try with_reducible rfl)
        try simp only [List.getElem_toArray, List.getElem_cons_zero, List.getElem_cons_succ, Act.put, List.setIfInBounds_toArray, List.set_cons_zero, List.set_cons_succ]
        refine wpAnyH_take (i := 12) (v := ?vv12_1) rfl (by kernel_rfl) (by kernel_rfl) (by kernel_rfl) (fun _ _ _ h => h) (Or.inl ⟨by rfl, ?hy12_1⟩) (by assumption) ?rest12_1
        case hy12_1 => (intro w' hSw; (try dsimp only at hSw); go_simp; try with_reducible rfl)
        try simp only [List.getElem_toArray, List.getElem_cons_zero, List.getElem_cons_succ, Act.put, List.setIfInBounds_toArray, List.set_cons_zero, List.set_cons_succ]
        refine wpAnyH_take (i := 13) (v := ?vv13_1) rfl (by kernel_rfl) (by kernel_rfl) (by kernel_rfl) (fun _ _ _ h => h) (Or.inl ⟨by rfl, ?hy13_1⟩) (by assumption) ?rest13_1
        case hy13_1 => (intro w' hSw; (try dsimp only at hSw); go_simp; try with_reducible rfl)
        try simp only [List.getElem_toArray, List.getElem_cons_zero, List.getElem_cons_succ, Act.put, List.setIfInBounds_toArray, List.set_cons_zero, List.set_cons_succ]
        refine wpAnyH_ready (rs := [14]) (by kernel_rfl) (by simp) ?_
        refine AllReadyH.cons rfl (fun K hK => ?_) AllReadyH.nil
        go_simp
        refine hK.out _ _ trivial (fun hHeld => ?_)
        clear hK K
        try simp only [List.getElem_toArray, List.getElem_cons_zero, List.getElem_cons_succ, Act.put, List.setIfInBounds_toArray, List.set_cons_zero, List.set_cons_succ]
        refine wpAnyH_take (i := 15) (v := ?vv15_1) rfl (by kernel_rfl) (by kernel_rfl) (by kernel_rfl) (fun _ _ _ h => h) (Or.inl ⟨by rfl, ?hy15_1⟩) (by assumption) ?rest15_1
        case hy15_1 => (intro w' hSw; (try dsimp only at hSw); go_simp; try with_reducible rfl)
        try simp only [List.getElem_toArray, List.getElem_cons_zero, List.getElem_cons_succ, Act.put, List.setIfInBounds_toArray, List.set_cons_zero, List.set_cons_succ]
        refine wpAnyH_take (i := 16) (v := ?vv16_1) rfl (by kernel_rfl) (by kernel_rfl) (by kernel_rfl) (fun _ _ _ h => h) (Or.inl ⟨by rfl, ?hy16_1⟩) (by assumption) ?rest16_1
        case hy16_1 => (intro w' hSw; (try dsimp only at hSw); go_simp; try with_reducible rfl)
        try simp only [List.getElem_toArray, List.getElem_cons_zero, List.getElem_cons_succ, Act.put, List.setIfInBounds_toArray, List.set_cons_zero, List.set_cons_succ]
        refine wpAnyH_done (by kernel_rfl) ?_ _
        go_wp2_with fail
        exact rget_end (t := t) (v := V) (HID.out.put t V) (below_put2 HBD.out (by rw [HK.out]; exact Nat.le_refl _) _ _) _ X 0 rfl rfl rfl HC.out
    · have HCL := Lib.hid (cutLen_cons 129 q)
      rw [if_neg (by decide), if_pos rfl] at HCL
      cases q with
      | nil =>
        rw [cutP_cons, ht, if_neg (by simp), HCL.out] at HC
        have HC := Lib.hid (show R = cutV (.er 8) from HC.out)
        have hs2 : s.length = 2 := by rw [hse]; rfl
        have hs2' : ¬ (2 : Int) < (s.length : Int) := by omega
        have hs3 : (s.length : Int) ≤ 2 := by omega
        clear HCL hse ht hl1
        go_enter Tryz.func77, Tryz.ntmps77
        go_wp2_with fail
        go_loop [6, 7] (fun n i => n = .int .i64 0 ∧ i = .int .i64 0) (fun _ _ => 1)
        case atStart => exact ⟨rfl, rfl⟩
        case round =>
          obtain ⟨rfl, rfl⟩ := hrel
          go_wp2_with fail
          rw [← HW.out, ← HK.out]
          go_wp2_with fail
          exact rget_end (t := 0) (v := []) HI.out HB.out _ [] 8 rfl rfl rfl HC.out
      | cons x q =>
        have hxl := x.toNat_lt
        have h3 : 3 ≤ s.length := by rw [hse]; simp
        have hx2 : (str s)[2]'(by rw [hsz]; exact h3) = x := by subst hse; rfl
        have h3' : ¬ (s.length : Int) ≤ 2 := by omega
        have h3p : (2 : Int) < (s.length : Int) := by omega
        have h3q : 2 < s.length := by omega
        by_cases hx : x.toNat < 128
        · have HCL2 := Lib.hid (show cutLen (129 :: x :: q) = .er 4 by rw [HCL.out]; unfold cutNum; rw [if_pos ⟨by simp, by simpa using hx⟩])
          rw [cutP_er2 ht HCL2.out] at HC
          have hex1 : (str s).extract 1 2 = str [129] := by rw [hse, str_extract]; rfl
          have HLO := Lib.hid (fun W => show Calls Tryz.prog 137 #[.int .i64 (x.toNat : Int)] W (fun e w' => e = .returned (sv [x]) ∧ Below W.heap.size W w') by have := @rlong_any W x.toNat (by omega); rw [show lenL x.toNat = [x] by unfold lenL; rw [if_pos (by omega), ofNat_toNat8]] at this; exact this)
          have HNE := Lib.hid (ne129 hx)
          obtain ⟨G, hG⟩ : ∃ G : List UInt8, G = [129] := ⟨_, rfl⟩
          obtain ⟨F, hF⟩ : ∃ F : List UInt8, F = [x] := ⟨_, rfl⟩
          have hzF : (str F).size = 1 := by rw [hF]; rfl
          have hfs : (2 : Int) ≤ (s.length : Int) := by omega
          rw [← hG] at hex1 HNE
          rw [← hF] at HLO HNE
          have hne1 : (G == F) = false := by simpa using HNE.out
          have hne2 : (G != F) = true := by simpa using HNE.out
          clear hG hF
          have HSE := Lib.hid hse
          clear HCL HCL2 ht hl1
          clear hse
          go_enter Tryz.func77, Tryz.ntmps77
          go_wp2_with fail
          go_loop [6, 7] (fun n i => (n = .int .i64 0 ∧ i = .int .i64 0) ∨ (n = .int .i64 (x.toNat : Int) ∧ i = .int .i64 1 ∧ ¬ x.toNat = 0)) (fun _ i => 2 - (intOf i).toNat)
          case atStart => exact .inl ⟨rfl, rfl⟩
          case round =>
            rcases hrel with ⟨rfl, rfl⟩ | ⟨rfl, rfl, hx0n⟩
            · by_cases hx00 : x.toNat = 0
              · have hx00' : (x.toNat : Int) = 0 := by omega
                go_wp2_with fail
                rw [← HW.out, ← HK.out]
                go_wp2_with fail
                exact rget_end (t := 0) (v := []) HI.out HB.out _ [] 4 rfl rfl rfl HC.out
              · have hx00' : ¬ (x.toNat : Int) = 0 := by omega
                go_wp2_with fail
                go_round
                case rel => exact .inr ⟨by first | rfl | go_num, by first | rfl | go_num, hx00⟩
                case measure => simp [intOf]
            · go_wp2_with (go_at_call 137; rw [← HW.out, ← HK.out]; (with_reducible refine (HLO.out _).mono ?_); rintro e w2 ⟨rfl, hx2⟩; have HI2 := Lib.hid (HI.out.step hx2); have HB2 := Lib.hid (show Below w.heap.size w w2 by rw [← HK.out]; exact HB.out.trans (hx2.mono (by have h1 := HB.out.size; have h2 := HK.out; omega))); have d0 := HI2.out.c0; have d1 := HI2.out.c1; have g0 := HI2.out.free 0; have g1 := HI2.out.free 1; clear hx2)
              exact rget_end (t := 0) (v := []) (HI2.out.put 0 []) (below_put2 HB2.out (by rw [HK.out]; exact Nat.le_refl _) _ _) _ [] 4 rfl rfl rfl HC.out
        · skip
          have hcl : cutLen (129 :: x :: q) = .ok (x.toNat, q) := by rw [HCL.out]; unfold cutNum; rw [if_neg (by simp; omega), if_neg (by simp)]; simp [numF]
          obtain ⟨hn, hsp⟩ := cutLen_ok hcl
          rw [cutP_cons, ht, if_neg (by simp), hcl] at HC
          have HLO := Lib.hid (fun W => show Calls Tryz.prog 137 #[.int .i64 ((x.toNat : Int))] W (fun e w' => e = .returned (sv (lenL (x.toNat))) ∧ Below W.heap.size W w') by rw [show ((x.toNat : Int) : Int) = ((x.toNat : Nat) : Int) by omega]; exact rlong_any _ hn)
          have hFl : (lenL (x.toNat)).length = 2 := by unfold lenL; rw [if_neg (by omega), if_pos (by omega)]; rfl
          obtain ⟨F, hF⟩ : ∃ F, F = lenL (x.toNat) := ⟨_, rfl⟩
          rw [← hF] at HLO hFl hsp
          have hsl : s.length = 1 + 2 + q.length := by rw [hse, hsp]; simp; omega
          have hexF : (str s).extract 1 3 = str F := by rw [hse, hsp, str_extract]; simp [hFl]
          have hzF : (str F).size = 2 := by rw [str_size, hFl]
          have hfs : (3 : Int) ≤ (s.length : Int) := by omega
          have hfn : 3 ≤ s.length := by omega
          have HSE := Lib.hid (show s = t :: (F ++ q) by rw [hse, hsp])
          by_cases hq : q.length < x.toNat
          · have HC := Lib.hid (show R = cutV (.er 8) by rw [HC.out]; show cutV (if q.length < x.toNat then _ else _) = _; rw [if_pos hq])
            have hcmp : (s.length : Int) < 3 + ((x.toNat : Int)) := by omega
            clear hsl hl1 hsp hF ht HCL hcl hse
            have hx00' : ¬ (x.toNat : Int) = 0 := by omega
            go_enter Tryz.func77, Tryz.ntmps77
            go_wp2_with fail
            go_loop [6, 7] (fun n i => (n = .int .i64 0 ∧ i = .int .i64 0) ∨ (n = .int .i64 (x.toNat : Int) ∧ i = .int .i64 1)) (fun _ i => 2 - (intOf i).toNat)
            case atStart => exact .inl ⟨rfl, rfl⟩
            case round =>
              rcases hrel with ⟨rfl, rfl⟩ | ⟨rfl, rfl⟩
              · go_wp2_with fail
                go_round
                case rel => exact .inr ⟨by first | rfl | go_num, by first | rfl | go_num⟩
                case measure => simp [intOf]
              · go_wp2_with (go_at_call 137; rw [← HW.out, ← HK.out]; (with_reducible refine (HLO.out _).mono ?_); rintro e w2 ⟨rfl, hx2⟩; have HI2 := Lib.hid (HI.out.step hx2); have HB2 := Lib.hid (show Below w.heap.size w w2 by rw [← HK.out]; exact HB.out.trans (hx2.mono (by have h1 := HB.out.size; have h2 := HK.out; omega))); have d0 := HI2.out.c0; have d1 := HI2.out.c1; have g0 := HI2.out.free 0; have g1 := HI2.out.free 1; clear hx2)
                exact rget_end (t := 0) (v := []) (HI2.out.put 0 []) (below_put2 HB2.out (by rw [HK.out]; exact Nat.le_refl _) _ _) _ [] 8 rfl rfl rfl HC.out
          · obtain ⟨V, hV⟩ : ∃ V, V = q.take (x.toNat) := ⟨_, rfl⟩
            obtain ⟨X, hX⟩ : ∃ X, X = q.drop (x.toNat) := ⟨_, rfl⟩
            have HC := Lib.hid (show R = .tuple #[itv t V, sv X, .int .i64 0] by rw [HC.out, hV, hX]; show cutV (if q.length < x.toNat then _ else _) = _; rw [if_neg hq]; rfl)
            have hcmp : ¬ (s.length : Int) < 3 + ((x.toNat : Int)) := by omega
            obtain ⟨M, hM⟩ : ∃ M, M = 3 + (x.toNat) := ⟨_, rfl⟩
            have hexV : (str s).extract 3 M = str V := by rw [HSE.out, str_extract, hM, hV]; exact congrArg str (thing_v hFl)
            have hexX : (str s).extract M s.length = str X := by rw [HSE.out, str_extract, hM, hX]; exact congrArg str (thing_r hFl (by rw [← HSE.out]; exact hsl))
            have hMs : M ≤ s.length := by omega
            have HWM := Lib.hid (show IntKind.i64.wrap (3 + ((x.toNat : Int))) = (M : Int) by rw [show (3 + ((x.toNat : Int)) : Int) = (M : Int) by omega]; exact IntWalk.i64_in _ (by omega))
            have HM2 := Lib.hid (show (3 : Int) ≤ (M : Int) by omega)
            have HE2 := Lib.hid (show (3 : Int) + ((x.toNat : Int)) = (M : Int) by omega)
            clear hsl hl1 hsp hF ht HCL hcl hse hV hX hM
            have hx00' : ¬ (x.toNat : Int) = 0 := by omega
            go_enter Tryz.func77, Tryz.ntmps77
            go_wp2_with fail
            go_loop [6, 7] (fun n i => (n = .int .i64 0 ∧ i = .int .i64 0) ∨ (n = .int .i64 (x.toNat : Int) ∧ i = .int .i64 1)) (fun _ i => 2 - (intOf i).toNat)
            case atStart => exact .inl ⟨rfl, rfl⟩
            case round =>
              rcases hrel with ⟨rfl, rfl⟩ | ⟨rfl, rfl⟩
              · go_wp2_with fail
                go_round
                case rel => exact .inr ⟨by first | rfl | go_num, by first | rfl | go_num⟩
                case measure => simp [intOf]
              · go_wp2_with (go_at_call 137; rw [← HW.out, ← HK.out]; (with_reducible refine (HLO.out _).mono ?_); rintro e w2 ⟨rfl, hx2⟩; have HI2 := Lib.hid (HI.out.step hx2); have HB2 := Lib.hid (show Below w.heap.size w w2 by rw [← HK.out]; exact HB.out.trans (hx2.mono (by have h1 := HB.out.size; have h2 := HK.out; omega))); have d0 := HI2.out.c0; have d1 := HI2.out.c1; have g0 := HI2.out.free 0; have g1 := HI2.out.free 1; clear hx2)
                have hm2 := HM2.out
                have hm3 : (M : Int) ≤ (s.length : Int) := by omega
                obtain ⟨wD, hwD⟩ : ∃ wD, wD = w2.drew := ⟨_, rfl⟩
                have HID := Lib.hid (show RIB wD k 0 [] by rw [hwD]; exact HI2.out.step (Below.refl _ _).drew)
                have HBD := Lib.hid (show Below w.heap.size w wD by rw [hwD]; exact HB2.out.drew)
                have d0 := HID.out.c0
                have d1 := HID.out.c1
                have g0 := HID.out.free 0
                have g1 := HID.out.free 1
                have hwm := HWM.out
                clear HE2
                refine wp_region_held_drew (S := fun _ => True) (by kernel_rfl) trivial (fun hHeld => ?_)
                rw [← hwD]
                clear hwD
                refine wpAnyH_take (i := 0) (v := ?vv0_2) rfl (by kernel_rfl) (by kernel_rfl) (by kernel_rfl) (fun _ _ _ h => h) (Or.inl ⟨by rfl, ?hy0_2⟩) (by assumption) ?rest0_2
                case hy0_2 => (intro w' hSw; (try dsimp only at hSw); go_simp; try with_reducible rfl)
                try simp only [List.getElem_toArray, List.getElem_cons_zero, List.getElem_cons_succ, Act.put, List.setIfInBounds_toArray, List.set_cons_zero, List.set_cons_succ]
                refine wpAnyH_take (i := 1) (v := ?vv1_2) rfl (by kernel_rfl) (by kernel_rfl) (by kernel_rfl) (fun _ _ _ h => h) (Or.inl ⟨by rfl, ?hy1_2⟩) (by assumption) ?rest1_2
                case hy1_2 => (intro w' hSw; (try dsimp only at hSw); go_simp; try with_reducible rfl)
                try simp only [List.getElem_toArray, List.getElem_cons_zero, List.getElem_cons_succ, Act.put, List.setIfInBounds_toArray, List.set_cons_zero, List.set_cons_succ]
                refine wpAnyH_take (i := 2) (v := ?vv2_2) rfl (by kernel_rfl) (by kernel_rfl) (by kernel_rfl) (fun _ _ _ h => h) (Or.inl ⟨by rfl, ?hy2_2⟩) (by assumption) ?rest2_2
                case hy2_2 => (intro w' hSw; (try dsimp only at hSw); go_simp; try with_reducible rfl)
                try simp only [List.getElem_toArray, List.getElem_cons_zero, List.getElem_cons_succ, Act.put, List.setIfInBounds_toArray, List.set_cons_zero, List.set_cons_succ]
                refine wpAnyH_take (i := 3) (v := ?vv3_2) rfl (by kernel_rfl) (by kernel_rfl) (by kernel_rfl) (fun _ _ _ h => h) (Or.inl ⟨by rfl, ?hy3_2⟩) (by assumption) ?rest3_2
                case hy3_2 => (intro w' hSw; (try dsimp only at hSw); go_simp; try with_reducible rfl)
                try simp only [List.getElem_toArray, List.getElem_cons_zero, List.getElem_cons_succ, Act.put, List.setIfInBounds_toArray, List.set_cons_zero, List.set_cons_succ]
                refine wpAnyH_take (i := 4) (v := ?vv4_2) rfl (by kernel_rfl) (by kernel_rfl) (by kernel_rfl) (fun _ _ _ h => h) (Or.inl ⟨by rfl, ?hy4_2⟩) (by assumption) ?rest4_2
                case hy4_2 => (intro w' hSw; (try dsimp only at hSw); go_simp; try with_reducible rfl)
                try simp only [List.getElem_toArray, List.getElem_cons_zero, List.getElem_cons_succ, Act.put, List.setIfInBounds_toArray, List.set_cons_zero, List.set_cons_succ]
                refine wpAnyH_take (i := 5) (v := ?vv5_2) rfl (by kernel_rfl) (by kernel_rfl) (by kernel_rfl) (fun _ _ _ h => h) (Or.inl ⟨by rfl, ?hy5_2⟩) (by assumption) ?rest5_2
                case hy5_2 => (intro w' hSw; (try dsimp only at hSw); go_simp; try with_reducible rfl)
                try simp only [List.getElem_toArray, List.getElem_cons_zero, List.getElem_cons_succ, Act.put, List.setIfInBounds_toArray, List.set_cons_zero, List.set_cons_succ]
                refine wpAnyH_take (i := 6) (v := ?vv6_2) rfl (by kernel_rfl) (by kernel_rfl) (by kernel_rfl) (fun _ _ _ h => h) (Or.inl ⟨by rfl, ?hy6_2⟩) (by assumption) ?rest6_2
                case hy6_2 => (intro w' hSw; (try dsimp only at hSw); go_simp; try with_reducible rfl)
                try simp only [List.getElem_toArray, List.getElem_cons_zero, List.getElem_cons_succ, Act.put, List.setIfInBounds_toArray, List.set_cons_zero, List.set_cons_succ]
                refine wpAnyH_take (i := 7) (v := ?vv7_2) rfl (by kernel_rfl) (by kernel_rfl) (by kernel_rfl) (fun _ _ _ h => h) (Or.inl ⟨by rfl, ?hy7_2⟩) (by assumption) ?rest7_2
                case hy7_2 => (intro w' hSw; (try dsimp only at hSw); go_simp; try with_reducible rfl)
                try simp only [List.getElem_toArray, List.getElem_cons_zero, List.getElem_cons_succ, Act.put, List.setIfInBounds_toArray, List.set_cons_zero, List.set_cons_succ]
                refine wpAnyH_take (i := 8) (v := ?vv8_2) rfl (by kernel_rfl) (by kernel_rfl) (by kernel_rfl) (fun _ _ _ h => h) (Or.inl ⟨by rfl, ?hy8_2⟩) (by assumption) ?rest8_2
                case hy8_2 => (intro w' hSw; (try dsimp only at hSw); go_simp; try with_reducible rfl)
                try simp only [List.getElem_toArray, List.getElem_cons_zero, List.getElem_cons_succ, Act.put, List.setIfInBounds_toArray, List.set_cons_zero, List.set_cons_succ]
                refine wpAnyH_take (i := 9) (v := ?vv9_2) rfl (by kernel_rfl) (by kernel_rfl) (by kernel_rfl) (fun _ _ _ h => h) (Or.inl ⟨by rfl, ?hy9_2⟩) (by assumption) ?rest9_2
                case hy9_2 => (intro w' hSw; (try dsimp only at hSw); go_simp; try with_reducible rfl)
                try simp only [List.getElem_toArray, List.getElem_cons_zero, List.getElem_cons_succ, Act.put, List.setIfInBounds_toArray, List.set_cons_zero, List.set_cons_succ]
                refine wpAnyH_take (i := 10) (v := ?vv10_2) rfl (by kernel_rfl) (by kernel_rfl) (by kernel_rfl) (fun _ _ _ h => h) (Or.inl ⟨by rfl, ?hy10_2⟩) (by assumption) ?rest10_2
                case hy10_2 => (intro w' hSw; (try dsimp only at hSw); go_simp; try with_reducible rfl)
                try simp only [List.getElem_toArray, List.getElem_cons_zero, List.getElem_cons_succ, Act.put, List.setIfInBounds_toArray, List.set_cons_zero, List.set_cons_succ]
                refine wpAnyH_take (i := 11) (v := ?vv11_2) rfl (by kernel_rfl) (by kernel_rfl) (by kernel_rfl) (fun _ _ _ h => h) (Or.inl ⟨by rfl, ?hy11_2⟩) (by assumption) ?rest11_2
                case hy11_2 => (intro w' hSw; (try dsimp only at hSw); go_simp; try with_reducible rfl)
                try simp only [List.getElem_toArray, List.getElem_cons_zero, List.getElem_cons_succ, Act.put, List.setIfInBounds_toArray, List.set_cons_zero, List.set_cons_succ]
                refine wpAnyH_take (i := 12) (v := ?vv12_2) rfl (by kernel_rfl) (by kernel_rfl) (by kernel_rfl) (fun _ _ _ h => h) (Or.inl ⟨by rfl, ?hy12_2⟩) (by assumption) ?rest12_2
                case hy12_2 => (intro w' hSw; (try dsimp only at hSw); go_simp; try with_reducible rfl)
                try simp only [List.getElem_toArray, List.getElem_cons_zero, List.getElem_cons_succ, Act.put, List.setIfInBounds_toArray, List.set_cons_zero, List.set_cons_succ]
                refine wpAnyH_take (i := 13) (v := ?vv13_2) rfl (by kernel_rfl) (by kernel_rfl) (by kernel_rfl) (fun _ _ _ h => h) (Or.inl ⟨by rfl, ?hy13_2⟩) (by assumption) ?rest13_2
                case hy13_2 => (intro w' hSw; (try dsimp only at hSw); go_simp; try with_reducible rfl)
                try simp only [List.getElem_toArray, List.getElem_cons_zero, List.getElem_cons_succ, Act.put, List.setIfInBounds_toArray, List.set_cons_zero, List.set_cons_succ]
                refine wpAnyH_ready (rs := [14]) (by kernel_rfl) (by simp) ?_
                refine AllReadyH.cons rfl (fun K hK => ?_) AllReadyH.nil
                go_simp
                refine hK.out _ _ trivial (fun hHeld => ?_)
                clear hK K
                try simp only [List.getElem_toArray, List.getElem_cons_zero, List.getElem_cons_succ, Act.put, List.setIfInBounds_toArray, List.set_cons_zero, List.set_cons_succ]
                refine wpAnyH_take (i := 15) (v := ?vv15_2) rfl (by kernel_rfl) (by kernel_rfl) (by kernel_rfl) (fun _ _ _ h => h) (Or.inl ⟨by rfl, ?hy15_2⟩) (by assumption) ?rest15_2
                case hy15_2 => (intro w' hSw; (try dsimp only at hSw); go_simp; try with_reducible rfl)
                try simp only [List.getElem_toArray, List.getElem_cons_zero, List.getElem_cons_succ, Act.put, List.setIfInBounds_toArray, List.set_cons_zero, List.set_cons_succ]
                refine wpAnyH_take (i := 16) (v := ?vv16_2) rfl (by kernel_rfl) (by kernel_rfl) (by kernel_rfl) (fun _ _ _ h => h) (Or.inl ⟨by rfl, ?hy16_2⟩) (by assumption) ?rest16_2
                case hy16_2 => (intro w' hSw; (try dsimp only at hSw); go_simp; try with_reducible rfl)
                try simp only [List.getElem_toArray, List.getElem_cons_zero, List.getElem_cons_succ, Act.put, List.setIfInBounds_toArray, List.set_cons_zero, List.set_cons_succ]
                refine wpAnyH_done (by kernel_rfl) ?_ _
                go_wp2_with fail
                exact rget_end (t := t) (v := V) (HID.out.put t V) (below_put2 HBD.out (by rw [HK.out]; exact Nat.le_refl _) _ _) _ X 0 rfl rfl rfl HC.out
    · have HCL := Lib.hid (cutLen_cons 130 q)
      rw [if_neg (by decide), if_neg (by decide), if_pos rfl] at HCL
      cases q with
      | nil =>
        rw [cutP_cons, ht, if_neg (by simp), HCL.out] at HC
        have HC := Lib.hid (show R = cutV (.er 8) from HC.out)
        have hs2 : s.length = 2 := by rw [hse]; rfl
        have hs2' : ¬ (2 : Int) < (s.length : Int) := by omega
        have hs3 : (s.length : Int) ≤ 2 := by omega
        clear HCL hse ht hl1
        go_enter Tryz.func77, Tryz.ntmps77
        go_wp2_with fail
        go_loop [6, 7] (fun n i => n = .int .i64 0 ∧ i = .int .i64 0) (fun _ _ => 1)
        case atStart => exact ⟨rfl, rfl⟩
        case round =>
          obtain ⟨rfl, rfl⟩ := hrel
          go_wp2_with fail
          rw [← HW.out, ← HK.out]
          go_wp2_with fail
          exact rget_end (t := 0) (v := []) HI.out HB.out _ [] 8 rfl rfl rfl HC.out
      | cons x q =>
        have hxl := x.toNat_lt
        have h3 : 3 ≤ s.length := by rw [hse]; simp
        have hx2 : (str s)[2]'(by rw [hsz]; exact h3) = x := by subst hse; rfl
        have h3' : ¬ (s.length : Int) ≤ 2 := by omega
        have h3p : (2 : Int) < (s.length : Int) := by omega
        have h3q : 2 < s.length := by omega
        by_cases hx : x.toNat = 0
        · have HCL2 := Lib.hid (show cutLen (130 :: x :: q) = .er 4 by rw [HCL.out]; unfold cutNum; rw [if_pos ⟨by simp, by show x.toNat < 1; omega⟩])
          rw [cutP_er2 ht HCL2.out] at HC
          have hx00' : (x.toNat : Int) = 0 := by omega
          clear HCL HCL2 ht hl1 hse
          go_enter Tryz.func77, Tryz.ntmps77
          go_wp2_with fail
          go_loop [6, 7] (fun n i => n = .int .i64 0 ∧ i = .int .i64 0) (fun _ _ => 1)
          case atStart => exact ⟨rfl, rfl⟩
          case round =>
            obtain ⟨rfl, rfl⟩ := hrel
            go_wp2_with fail
            rw [← HW.out, ← HK.out]
            go_wp2_with fail
            exact rget_end (t := 0) (v := []) HI.out HB.out _ [] 4 rfl rfl rfl HC.out
        · have hx00' : ¬ (x.toNat : Int) = 0 := by omega
          cases q with
          | nil =>
            have HCL2 := Lib.hid (show cutLen (130 :: x :: []) = .er 8 by rw [HCL.out]; unfold cutNum; rw [if_neg (by show ¬ (0 < 1 ∧ x.toNat < 1); omega), if_pos (by show 1 < 2; decide)])
            rw [cutP_er2 ht HCL2.out] at HC
            have hs3 : s.length = 3 := by rw [hse]; rfl
            have hs3' : (s.length : Int) ≤ 3 := by omega
            clear HCL HCL2 ht hl1 hse
            go_enter Tryz.func77, Tryz.ntmps77
            go_wp2_with fail
            go_loop [6, 7] (fun n i => (n = .int .i64 0 ∧ i = .int .i64 0) ∨ (n = .int .i64 (x.toNat : Int) ∧ i = .int .i64 1)) (fun _ i => 2 - (intOf i).toNat)
            case atStart => exact .inl ⟨rfl, rfl⟩
            case round =>
              rcases hrel with ⟨rfl, rfl⟩ | ⟨rfl, rfl⟩
              · go_wp2_with fail
                go_round
                case rel => exact .inr ⟨by first | rfl | go_num, by first | rfl | go_num⟩
                case measure => simp [intOf]
              · go_wp2_with fail
                rw [← HW.out, ← HK.out]
                go_wp2_with fail
                exact rget_end (t := 0) (v := []) HI.out HB.out _ [] 8 rfl rfl rfl HC.out
          | cons y q =>
            have hyl := y.toNat_lt
            have h4 : 4 ≤ s.length := by rw [hse]; simp
            have hx3 : (str s)[3]'(by rw [hsz]; exact h4) = y := by subst hse; rfl
            have h4' : ¬ (s.length : Int) ≤ 3 := by omega
            have h4p : (3 : Int) < (s.length : Int) := by omega
            have h4q : 3 < s.length := by omega
            have hcl : cutLen (130 :: x :: y :: q) = .ok (x.toNat * 256 + y.toNat, q) := by rw [HCL.out]; unfold cutNum; rw [if_neg (by show ¬ (0 < q.length + 1 + 1 ∧ x.toNat < 1); omega), if_neg (by simp)]; simp [numF]
            obtain ⟨hn, hsp⟩ := cutLen_ok hcl
            rw [cutP_cons, ht, if_neg (by simp), hcl] at HC
            have HLO := Lib.hid (fun W => show Calls Tryz.prog 137 #[.int .i64 ((x.toNat : Int) * 256 + (y.toNat : Int))] W (fun e w' => e = .returned (sv (lenL (x.toNat * 256 + y.toNat))) ∧ Below W.heap.size W w') by rw [show ((x.toNat : Int) * 256 + (y.toNat : Int) : Int) = ((x.toNat * 256 + y.toNat : Nat) : Int) by omega]; exact rlong_any _ hn)
            have hFl : (lenL (x.toNat * 256 + y.toNat)).length = 3 := by unfold lenL; rw [if_neg (by omega), if_neg (by omega)]; rfl
            obtain ⟨F, hF⟩ : ∃ F, F = lenL (x.toNat * 256 + y.toNat) := ⟨_, rfl⟩
            rw [← hF] at HLO hFl hsp
            have hsl : s.length = 1 + 3 + q.length := by rw [hse, hsp]; simp; omega
            have hexF : (str s).extract 1 4 = str F := by rw [hse, hsp, str_extract]; simp [hFl]
            have hzF : (str F).size = 3 := by rw [str_size, hFl]
            have hfs : (4 : Int) ≤ (s.length : Int) := by omega
            have hfn : 4 ≤ s.length := by omega
            have HSE := Lib.hid (show s = t :: (F ++ q) by rw [hse, hsp])
            by_cases hq : q.length < x.toNat * 256 + y.toNat
            · have HC := Lib.hid (show R = cutV (.er 8) by rw [HC.out]; show cutV (if q.length < x.toNat * 256 + y.toNat then _ else _) = _; rw [if_pos hq])
              have hcmp : (s.length : Int) < 4 + ((x.toNat : Int) * 256 + (y.toNat : Int)) := by omega
              clear hsl hl1 hsp hF ht HCL hcl hse
              have hn0 : ¬ (x.toNat : Int) * 256 + (y.toNat : Int) = 0 := by omega
              go_enter Tryz.func77, Tryz.ntmps77
              go_wp2_with fail
              go_loop [6, 7] (fun n i => (n = .int .i64 0 ∧ i = .int .i64 0) ∨ (n = .int .i64 (x.toNat : Int) ∧ i = .int .i64 1) ∨ (n = .int .i64 ((x.toNat : Int) * 256 + (y.toNat : Int)) ∧ i = .int .i64 2)) (fun _ i => 3 - (intOf i).toNat)
              case atStart => exact .inl ⟨rfl, rfl⟩
              case round =>
                rcases hrel with ⟨rfl, rfl⟩ | ⟨rfl, rfl⟩ | ⟨rfl, rfl⟩
                · go_wp2_with fail
                  go_round
                  case rel => exact .inr (.inl ⟨by first | rfl | go_num, by first | rfl | go_num⟩)
                  case measure => simp [intOf]
                · go_wp2_with fail
                  go_round
                  case rel => exact .inr (.inr ⟨by first | rfl | go_num, by first | rfl | go_num⟩)
                  case measure => simp [intOf]
                · go_wp2_with (go_at_call 137; rw [← HW.out, ← HK.out]; (with_reducible refine (HLO.out _).mono ?_); rintro e w2 ⟨rfl, hx2⟩; have HI2 := Lib.hid (HI.out.step hx2); have HB2 := Lib.hid (show Below w.heap.size w w2 by rw [← HK.out]; exact HB.out.trans (hx2.mono (by have h1 := HB.out.size; have h2 := HK.out; omega))); have d0 := HI2.out.c0; have d1 := HI2.out.c1; have g0 := HI2.out.free 0; have g1 := HI2.out.free 1; clear hx2)
                  exact rget_end (t := 0) (v := []) (HI2.out.put 0 []) (below_put2 HB2.out (by rw [HK.out]; exact Nat.le_refl _) _ _) _ [] 8 rfl rfl rfl HC.out
            · obtain ⟨V, hV⟩ : ∃ V, V = q.take (x.toNat * 256 + y.toNat) := ⟨_, rfl⟩
              obtain ⟨X, hX⟩ : ∃ X, X = q.drop (x.toNat * 256 + y.toNat) := ⟨_, rfl⟩
              have HC := Lib.hid (show R = .tuple #[itv t V, sv X, .int .i64 0] by rw [HC.out, hV, hX]; show cutV (if q.length < x.toNat * 256 + y.toNat then _ else _) = _; rw [if_neg hq]; rfl)
              have hcmp : ¬ (s.length : Int) < 4 + ((x.toNat : Int) * 256 + (y.toNat : Int)) := by omega
              obtain ⟨M, hM⟩ : ∃ M, M = 4 + (x.toNat * 256 + y.toNat) := ⟨_, rfl⟩
              have hexV : (str s).extract 4 M = str V := by rw [HSE.out, str_extract, hM, hV]; exact congrArg str (thing_v hFl)
              have hexX : (str s).extract M s.length = str X := by rw [HSE.out, str_extract, hM, hX]; exact congrArg str (thing_r hFl (by rw [← HSE.out]; exact hsl))
              have hMs : M ≤ s.length := by omega
              have HWM := Lib.hid (show IntKind.i64.wrap (4 + ((x.toNat : Int) * 256 + (y.toNat : Int))) = (M : Int) by rw [show (4 + ((x.toNat : Int) * 256 + (y.toNat : Int)) : Int) = (M : Int) by omega]; exact IntWalk.i64_in _ (by omega))
              have HM2 := Lib.hid (show (4 : Int) ≤ (M : Int) by omega)
              have HE2 := Lib.hid (show (4 : Int) + ((x.toNat : Int) * 256 + (y.toNat : Int)) = (M : Int) by omega)
              clear hsl hl1 hsp hF ht HCL hcl hse hV hX hM
              have hn0 : ¬ (x.toNat : Int) * 256 + (y.toNat : Int) = 0 := by omega
              go_enter Tryz.func77, Tryz.ntmps77
              go_wp2_with fail
              go_loop [6, 7] (fun n i => (n = .int .i64 0 ∧ i = .int .i64 0) ∨ (n = .int .i64 (x.toNat : Int) ∧ i = .int .i64 1) ∨ (n = .int .i64 ((x.toNat : Int) * 256 + (y.toNat : Int)) ∧ i = .int .i64 2)) (fun _ i => 3 - (intOf i).toNat)
              case atStart => exact .inl ⟨rfl, rfl⟩
              case round =>
                rcases hrel with ⟨rfl, rfl⟩ | ⟨rfl, rfl⟩ | ⟨rfl, rfl⟩
                · go_wp2_with fail
                  go_round
                  case rel => exact .inr (.inl ⟨by first | rfl | go_num, by first | rfl | go_num⟩)
                  case measure => simp [intOf]
                · go_wp2_with fail
                  go_round
                  case rel => exact .inr (.inr ⟨by first | rfl | go_num, by first | rfl | go_num⟩)
                  case measure => simp [intOf]
                · go_wp2_with (go_at_call 137; rw [← HW.out, ← HK.out]; (with_reducible refine (HLO.out _).mono ?_); rintro e w2 ⟨rfl, hx2⟩; have HI2 := Lib.hid (HI.out.step hx2); have HB2 := Lib.hid (show Below w.heap.size w w2 by rw [← HK.out]; exact HB.out.trans (hx2.mono (by have h1 := HB.out.size; have h2 := HK.out; omega))); have d0 := HI2.out.c0; have d1 := HI2.out.c1; have g0 := HI2.out.free 0; have g1 := HI2.out.free 1; clear hx2)
                  have hm2 := HM2.out
                  have hm3 : (M : Int) ≤ (s.length : Int) := by omega
                  obtain ⟨wD, hwD⟩ : ∃ wD, wD = w2.drew := ⟨_, rfl⟩
                  have HID := Lib.hid (show RIB wD k 0 [] by rw [hwD]; exact HI2.out.step (Below.refl _ _).drew)
                  have HBD := Lib.hid (show Below w.heap.size w wD by rw [hwD]; exact HB2.out.drew)
                  have d0 := HID.out.c0
                  have d1 := HID.out.c1
                  have g0 := HID.out.free 0
                  have g1 := HID.out.free 1
                  have hwm := HWM.out
                  clear HE2
                  refine wp_region_held_drew (S := fun _ => True) (by kernel_rfl) trivial (fun hHeld => ?_)
                  rw [← hwD]
                  clear hwD
                  refine wpAnyH_take (i := 0) (v := ?vv0_3) rfl (by kernel_rfl) (by kernel_rfl) (by kernel_rfl) (fun _ _ _ h => h) (Or.inl ⟨by rfl, ?hy0_3⟩) (by assumption) ?rest0_3
                  case hy0_3 => (intro w' hSw; (try dsimp only at hSw); go_simp; try with_reducible rfl)
                  try simp only [List.getElem_toArray, List.getElem_cons_zero, List.getElem_cons_succ, Act.put, List.setIfInBounds_toArray, List.set_cons_zero, List.set_cons_succ]
                  refine wpAnyH_take (i := 1) (v := ?vv1_3) rfl (by kernel_rfl) (by kernel_rfl) (by kernel_rfl) (fun _ _ _ h => h) (Or.inl ⟨by rfl, ?hy1_3⟩) (by assumption) ?rest1_3
                  case hy1_3 => (intro w' hSw; (try dsimp only at hSw); go_simp; try with_reducible rfl)
                  try simp only [List.getElem_toArray, List.getElem_cons_zero, List.getElem_cons_succ, Act.put, List.setIfInBounds_toArray, List.set_cons_zero, List.set_cons_succ]
                  refine wpAnyH_take (i := 2) (v := ?vv2_3) rfl (by kernel_rfl) (by kernel_rfl) (by kernel_rfl) (fun _ _ _ h => h) (Or.inl ⟨by rfl, ?hy2_3⟩) (by assumption) ?rest2_3
                  case hy2_3 => (intro w' hSw; (try dsimp only at hSw); go_simp; try with_reducible rfl)
                  try simp only [List.getElem_toArray, List.getElem_cons_zero, List.getElem_cons_succ, Act.put, List.setIfInBounds_toArray, List.set_cons_zero, List.set_cons_succ]
                  refine wpAnyH_take (i := 3) (v := ?vv3_3) rfl (by kernel_rfl) (by kernel_rfl) (by kernel_rfl) (fun _ _ _ h => h) (Or.inl ⟨by rfl, ?hy3_3⟩) (by assumption) ?rest3_3
                  case hy3_3 => (intro w' hSw; (try dsimp only at hSw); go_simp; try with_reducible rfl)
                  try simp only [List.getElem_toArray, List.getElem_cons_zero, List.getElem_cons_succ, Act.put, List.setIfInBounds_toArray, List.set_cons_zero, List.set_cons_succ]
                  refine wpAnyH_take (i := 4) (v := ?vv4_3) rfl (by kernel_rfl) (by kernel_rfl) (by kernel_rfl) (fun _ _ _ h => h) (Or.inl ⟨by rfl, ?hy4_3⟩) (by assumption) ?rest4_3
                  case hy4_3 => (intro w' hSw; (try dsimp only at hSw); go_simp; try with_reducible rfl)
                  try simp only [List.getElem_toArray, List.getElem_cons_zero, List.getElem_cons_succ, Act.put, List.setIfInBounds_toArray, List.set_cons_zero, List.set_cons_succ]
                  refine wpAnyH_take (i := 5) (v := ?vv5_3) rfl (by kernel_rfl) (by kernel_rfl) (by kernel_rfl) (fun _ _ _ h => h) (Or.inl ⟨by rfl, ?hy5_3⟩) (by assumption) ?rest5_3
                  case hy5_3 => (intro w' hSw; (try dsimp only at hSw); go_simp; try with_reducible rfl)
                  try simp only [List.getElem_toArray, List.getElem_cons_zero, List.getElem_cons_succ, Act.put, List.setIfInBounds_toArray, List.set_cons_zero, List.set_cons_succ]
                  refine wpAnyH_take (i := 6) (v := ?vv6_3) rfl (by kernel_rfl) (by kernel_rfl) (by kernel_rfl) (fun _ _ _ h => h) (Or.inl ⟨by rfl, ?hy6_3⟩) (by assumption) ?rest6_3
                  case hy6_3 => (intro w' hSw; (try dsimp only at hSw); go_simp; try with_reducible rfl)
                  try simp only [List.getElem_toArray, List.getElem_cons_zero, List.getElem_cons_succ, Act.put, List.setIfInBounds_toArray, List.set_cons_zero, List.set_cons_succ]
                  refine wpAnyH_take (i := 7) (v := ?vv7_3) rfl (by kernel_rfl) (by kernel_rfl) (by kernel_rfl) (fun _ _ _ h => h) (Or.inl ⟨by rfl, ?hy7_3⟩) (by assumption) ?rest7_3
                  case hy7_3 => (intro w' hSw; (try dsimp only at hSw); go_simp; try with_reducible rfl)
                  try simp only [List.getElem_toArray, List.getElem_cons_zero, List.getElem_cons_succ, Act.put, List.setIfInBounds_toArray, List.set_cons_zero, List.set_cons_succ]
                  refine wpAnyH_take (i := 8) (v := ?vv8_3) rfl (by kernel_rfl) (by kernel_rfl) (by kernel_rfl) (fun _ _ _ h => h) (Or.inl ⟨by rfl, ?hy8_3⟩) (by assumption) ?rest8_3
                  case hy8_3 => (intro w' hSw; (try dsimp only at hSw); go_simp; try with_reducible rfl)
                  try simp only [List.getElem_toArray, List.getElem_cons_zero, List.getElem_cons_succ, Act.put, List.setIfInBounds_toArray, List.set_cons_zero, List.set_cons_succ]
                  refine wpAnyH_take (i := 9) (v := ?vv9_3) rfl (by kernel_rfl) (by kernel_rfl) (by kernel_rfl) (fun _ _ _ h => h) (Or.inl ⟨by rfl, ?hy9_3⟩) (by assumption) ?rest9_3
                  case hy9_3 => (intro w' hSw; (try dsimp only at hSw); go_simp; try with_reducible rfl)
                  try simp only [List.getElem_toArray, List.getElem_cons_zero, List.getElem_cons_succ, Act.put, List.setIfInBounds_toArray, List.set_cons_zero, List.set_cons_succ]
                  refine wpAnyH_take (i := 10) (v := ?vv10_3) rfl (by kernel_rfl) (by kernel_rfl) (by kernel_rfl) (fun _ _ _ h => h) (Or.inl ⟨by rfl, ?hy10_3⟩) (by assumption) ?rest10_3
                  case hy10_3 => (intro w' hSw; (try dsimp only at hSw); go_simp; try with_reducible rfl)
                  try simp only [List.getElem_toArray, List.getElem_cons_zero, List.getElem_cons_succ, Act.put, List.setIfInBounds_toArray, List.set_cons_zero, List.set_cons_succ]
                  refine wpAnyH_take (i := 11) (v := ?vv11_3) rfl (by kernel_rfl) (by kernel_rfl) (by kernel_rfl) (fun _ _ _ h => h) (Or.inl ⟨by rfl, ?hy11_3⟩) (by assumption) ?rest11_3
                  case hy11_3 => (intro w' hSw; (try dsimp only at hSw); go_simp; try with_reducible rfl)
                  try simp only [List.getElem_toArray, List.getElem_cons_zero, List.getElem_cons_succ, Act.put, List.setIfInBounds_toArray, List.set_cons_zero, List.set_cons_succ]
                  refine wpAnyH_take (i := 12) (v := ?vv12_3) rfl (by kernel_rfl) (by kernel_rfl) (by kernel_rfl) (fun _ _ _ h => h) (Or.inl ⟨by rfl, ?hy12_3⟩) (by assumption) ?rest12_3
                  case hy12_3 => (intro w' hSw; (try dsimp only at hSw); go_simp; try with_reducible rfl)
                  try simp only [List.getElem_toArray, List.getElem_cons_zero, List.getElem_cons_succ, Act.put, List.setIfInBounds_toArray, List.set_cons_zero, List.set_cons_succ]
                  refine wpAnyH_take (i := 13) (v := ?vv13_3) rfl (by kernel_rfl) (by kernel_rfl) (by kernel_rfl) (fun _ _ _ h => h) (Or.inl ⟨by rfl, ?hy13_3⟩) (by assumption) ?rest13_3
                  case hy13_3 => (intro w' hSw; (try dsimp only at hSw); go_simp; try with_reducible rfl)
                  try simp only [List.getElem_toArray, List.getElem_cons_zero, List.getElem_cons_succ, Act.put, List.setIfInBounds_toArray, List.set_cons_zero, List.set_cons_succ]
                  refine wpAnyH_ready (rs := [14]) (by kernel_rfl) (by simp) ?_
                  refine AllReadyH.cons rfl (fun K hK => ?_) AllReadyH.nil
                  go_simp
                  refine hK.out _ _ trivial (fun hHeld => ?_)
                  clear hK K
                  try simp only [List.getElem_toArray, List.getElem_cons_zero, List.getElem_cons_succ, Act.put, List.setIfInBounds_toArray, List.set_cons_zero, List.set_cons_succ]
                  refine wpAnyH_take (i := 15) (v := ?vv15_3) rfl (by kernel_rfl) (by kernel_rfl) (by kernel_rfl) (fun _ _ _ h => h) (Or.inl ⟨by rfl, ?hy15_3⟩) (by assumption) ?rest15_3
                  case hy15_3 => (intro w' hSw; (try dsimp only at hSw); go_simp; try with_reducible rfl)
                  try simp only [List.getElem_toArray, List.getElem_cons_zero, List.getElem_cons_succ, Act.put, List.setIfInBounds_toArray, List.set_cons_zero, List.set_cons_succ]
                  refine wpAnyH_take (i := 16) (v := ?vv16_3) rfl (by kernel_rfl) (by kernel_rfl) (by kernel_rfl) (fun _ _ _ h => h) (Or.inl ⟨by rfl, ?hy16_3⟩) (by assumption) ?rest16_3
                  case hy16_3 => (intro w' hSw; (try dsimp only at hSw); go_simp; try with_reducible rfl)
                  try simp only [List.getElem_toArray, List.getElem_cons_zero, List.getElem_cons_succ, Act.put, List.setIfInBounds_toArray, List.set_cons_zero, List.set_cons_succ]
                  refine wpAnyH_done (by kernel_rfl) ?_ _
                  go_wp2_with fail
                  exact rget_end (t := t) (v := V) (HID.out.put t V) (below_put2 HBD.out (by rw [HK.out]; exact Nat.le_refl _) _ _) _ X 0 rfl rfl rfl HC.out
    · have HCL := Lib.hid (cutLen_cons b q)
      rw [if_neg (by omega), if_neg hb1, if_neg hb2] at HCL
      rw [cutP_er2 ht HCL.out] at HC
      have hn1 : ¬ b.toNat = 129 := fun e => hb1 (u8_eq e)
      have hn2 : ¬ b.toNat = 130 := fun e => hb2 (u8_eq e)
      clear HCL ht hl1 hse hb1 hb2
      by_cases h8 : b.toNat = 128
      · have h8' : (b.toNat : Int) = 128 := by omega
        go_enter Tryz.func77, Tryz.ntmps77
        go_wp2_with fail
        rw [← HW.out, ← HK.out]
        go_wp2_with fail
        exact rget_end (t := 0) (v := []) HI.out HB.out _ [] 4 rfl rfl rfl HC.out
      · have h8' : ¬ (b.toNat : Int) = 128 := by omega
        have h9' : (130 : Int) < (b.toNat : Int) := by omega
        go_enter Tryz.func77, Tryz.ntmps77
        go_wp2_with fail
        rw [← HW.out, ← HK.out]
        go_wp2_with fail
        exact rget_end (t := 0) (v := []) HI.out HB.out _ [] 4 rfl rfl rfl HC.out
end Go.Proofs.YtnaoandleelbkaaGreatDoor
