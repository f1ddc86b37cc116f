/-
  The laws' helpers: great letters as the reference makes them, all, wrong, shown.
-/
import Derived.Test.YtbmjmiioobgbfaaGreatDoorKShown2
import Derived.Test.YtbmjmiioobgbfaaGreatDoorKParse
namespace Go.Proofs.YtbmjmiioobgbfaaGreatDoor
open Go Go.RowKit Go.Shelf
set_option maxRecDepth 100000
set_option linter.unusedSimpArgs false
set_option linter.unusedVariables false

theorem rgreat_any (b : Nat) (c : UInt8) (w : World) (hb : c.toNat = b) : Calls Tryz.prog 106 #[.int .u8 (b : Int)] w fun e w' => e = .returned (.int .u8 ((greatC c).toNat : Int)) ∧ w' = w := by
  have h256 : b < 256 := by rw [← hb]; exact UInt8.toNat_lt _
  by_cases h : 97 ≤ b ∧ b ≤ 122
  · obtain ⟨h1, h2⟩ := h
    obtain ⟨e1, e2⟩ := greatC_small hb h1 h2
    have HE := Lib.hid (show ((greatC c).toNat : Int) = (b : Int) - 32 by rw [e1, e2]; omega)
    clear e1 e2 hb
    go_enter Tryz.func106, Tryz.ntmps106
    go_wp2
    go_ret
    exact ⟨by rw [HE.out]; rfl, rfl⟩
  · have HE := Lib.hid (show ((greatC c).toNat : Int) = (b : Int) by rw [greatC_other hb (by omega), hb])
    clear hb
    rcases (show b < 97 ∨ 122 < b by omega) with h' | h'
    all_goals
      clear h
      go_enter Tryz.func106, Tryz.ntmps106
      go_wp2
      go_ret
      exact ⟨by rw [HE.out]; rfl, rfl⟩

set_option maxHeartbeats 2000000 in
theorem rGreat_any (s : List UInt8) (w : World) (hs : s.length ≤ 9223372036854775807) : Calls Tryz.prog 65 #[.string (str s)] w fun e w' => e = .returned (sv (gr s)) ∧ Below w.heap.size w w' := by
  obtain ⟨c, W1, hrun, hbuf, hbel, hcap⟩ := run_bytes w s
  have HB := Lib.hid hbuf
  have HL := Lib.hid hbel
  clear hbuf hbel
  go_enter Tryz.func65, Tryz.ntmps65
  go_wp2_with fail
  go_loopw [4] (fun i wr => ∃ k : Nat, k ≤ s.length ∧ i = .int .i64 k ∧ BufAt wr w.heap.size ((s.take k).map greatC ++ s.drop k) ∧ Below w.heap.size w wr) (fun i _ => s.length - (intOf i).toNat)
  case atStart => exact ⟨0, Nat.zero_le _, rfl, by simpa using HB.out, HL.out⟩
  case round =>
    obtain ⟨k, hk, rfl, hb, hl⟩ := hrel
    have hlen : ((s.take k).map greatC ++ s.drop k).length = s.length := by simp; omega
    by_cases hlt : k < s.length
    · obtain ⟨b, hbk⟩ : ∃ b, (s.getD k 0).toNat = b := ⟨_, rfl⟩
      have hc : wr.cell? ⟨w.heap.size, k, none⟩ = some (.int .u8 (b : Int)) := by rw [hb.cell (by omega), at_map hlt, hbk]
      have hf : wr.frozen? ⟨w.heap.size, k, none⟩ = false := hb.free (by omega)
      have HS := Lib.hid (hb.set (k := k) (by omega) (greatC (s.getD k 0)) (v := ((greatC (s.getD k 0)).toNat : Int)) rfl)
      have HM := Lib.hid (set_map hlt greatC _ rfl)
      have HL2 := Lib.hid (hl.setCell (p := ⟨w.heap.size, k, none⟩) (Nat.le_refl _) (.int .u8 ((greatC (s.getD k 0)).toNat : Int)))
      have HC := Lib.hid (rgreat_any b (s.getD k 0) wr hbk)
      obtain ⟨g, hg⟩ : ∃ g : Nat, g = (greatC (s.getD k 0)).toNat := ⟨_, rfl⟩
      rw [← hg] at HS HL2 HC
      clear hb hl hlen hbk hg
      go_wp2_with fail
      refine (HC.out).mono ?_
      rintro e w1 ⟨rfl, rfl⟩
      go_wp2
      go_roundw
      case rel => exact ⟨k + 1, by omega, by go_num, by rw [← HM.out]; exact HS.out, HL2.out⟩
      case measure => simp [intOf]; omega
    · obtain rfl : k = s.length := by omega
      rw [List.take_of_length_le (Nat.le_refl _), List.drop_of_length_le (Nat.le_refl _), List.append_nil] at hb
      have hback := run_text hb c s.length (by simp)
      have HL2 := Lib.hid hl
      clear hb hl hlen
      go_wp2
      go_ret
      exact ⟨rfl, HL2.out⟩

/-! ### wrong -/
theorem parse_err (s : List UInt8) : ((parseK s).2 = 0 ∧ mayK (parseK s).1 = true ∧ (shownK (parseK s).1).length ≤ 510) ∨ ((parseK s).2 ≠ 0 ∧ (parseK s).1 = cm0) := by
  by_cases h : (parseK s).2 = 0
  · obtain ⟨h1, _, h3⟩ := parse_back (line := s) (a := (parseK s).1) (by rw [← h])
    exact .inl ⟨h, h1, h3⟩
  · refine .inr ⟨h, ?_⟩
    unfold parseK at h ⊢
    split at h
    · rename_i hl; rw [if_pos hl]
    · rename_i hl
      rw [if_neg hl]
      split at h
      · exact absurd rfl h
      · rename_i h2; rw [if_neg h2]

set_option maxHeartbeats 2000000 in
theorem wrong_any (s : List UInt8) (w : World) (hL : LW w) : Calls Tryz.prog 19 #[sv s] w fun e w' => e = .returned (.int .i64 ((parseK s).2 : Int)) ∧ Below w.heap.size w w' := by
  have HP := Lib.hid (parseK_any s w hL)
  unfold PaPost at HP
  have hpe := parse_err s
  obtain ⟨c, hc⟩ : ∃ c, c = parseK s := ⟨_, rfl⟩
  rw [← hc] at HP hpe ⊢
  obtain ⟨c, n⟩ := c
  dsimp only at HP hpe ⊢
  clear hc
  rcases hpe with ⟨h0, hm, _⟩ | ⟨h0, hz⟩
  · obtain ⟨v1, v6⟩ := may_verb hm
    have hv : (((c.verb : Int)) != 0) = true := by rw [bne_iff_ne]; omega
    subst h0
    clear hm
    go_enter Tryz.func19, Tryz.ntmps19
    go_wp2_with fail
    refine (HP.out).mono ?_
    rintro e w1 ⟨u, rfl, hb1, hpo⟩
    obtain ⟨A, cap, hu⟩ := hpo.form
    subst hu
    have HB1 := Lib.hid hb1
    clear hb1 hpo
    go_wp2_with fail
    go_ret
    exact ⟨rfl, HB1.out.trans ((below_alloc _ _).mono HB1.out.size)⟩
  · subst hz
    go_enter Tryz.func19, Tryz.ntmps19
    go_wp2_with fail
    refine (HP.out).mono ?_
    rintro e w1 ⟨u, rfl, hb1, hpo⟩
    obtain ⟨A, cap, hu⟩ := hpo.form
    subst hu
    have HB1 := Lib.hid hb1
    clear hb1 hpo
    go_wp2_with fail
    go_ret
    exact ⟨rfl, HB1.out.trans ((below_alloc _ _).mono HB1.out.size)⟩

/-! ### all -/
theorem results_row {P : Program} {fn : Func} {p : Tmp} {ty : TypeId} (h : fn.results = #[.cell p ty]) (tmps : Array Value) (w : World) (g : Nat) (t : TypeId) (cs : Array Value) (fr : Nat × Nat) (d : TypeDesc)
    (hp : tmps.getD p undef = .pointer (some ⟨g, 0, none⟩)) (hg : w.heap[g]? = some (.cells cs t fr))
    (hu : P.underlying ty = some d) (hd : (match d with | .struct _ | .array _ _ => true | _ => false) = true) (hi : (P.info? ty).map (·.size) = some cs.size) :
    (results fn tmps).run P w = .ok (.agg cs) w := by
  have hp' : tmps[p]?.getD undef = .pointer (some ⟨g, 0, none⟩) := by simpa using hp
  simp [results, h, hp', asAddr, run_loadVar_row w g t ty cs fr d hg hu hd hi]
theorem all_any (w : World) : Calls Tryz.prog 23 #[] w fun e w' => e = .returned (.agg #[.bool true, .bool true, .bool true, .bool true, .bool true, .bool true, .int .i64 9999]) ∧ Below w.heap.size w w' := by
  go_enter Tryz.func23, Tryz.ntmps23
  go_wp2_with fail
  refine bodyPost_ret (results_row (p := 0) (fr := (0, 0)) Tryz.results23 _ _ w.heap.size 53 _ _ rfl (heap_alloc_new w _) Tryz.underlying53 rfl (by kernel_rfl)) rfl ⟨rfl, below_alloc _ _⟩

/-! ### shown -/
set_option maxHeartbeats 2000000 in
theorem lshown_any (c : Cm) (u : Value) (n : Nat) (w : World) (hu : PR w u c.ps) (hs : SM c) (hL : LW w) :
    Calls Tryz.prog 51 #[cmV c u, .int .i64 (n : Int)] w fun e w' => e = .returned (sv (if n = 0 then (showK c).1 else [])) ∧ Below w.heap.size w w' := by
  have hb0 := below_alloc w (.cells #[.int .u8 (c.verb : Int), sv c.arg, u] 41)
  have HB0 := Lib.hid hb0
  have HS := Lib.hid (showK_any c u _ (hu.step hb0) hs (hL.below hb0))
  have hk : (showK c).2 = 0 ∨ (showK c).2 ≠ 0 ∧ (showK c).1 = [] := by
    unfold showK
    split
    · split
      · exact .inl rfl
      · exact .inr ⟨by decide, rfl⟩
    · exact .inr ⟨by decide, rfl⟩
  obtain ⟨A, cap, rfl⟩ := hu.form
  obtain ⟨v, a, ps⟩ := c
  dsimp only at HS HB0 ⊢
  clear hu hs hb0 hL
  obtain ⟨r, hr⟩ : ∃ r, r = showK ⟨v, a, ps⟩ := ⟨_, rfl⟩
  rw [← hr] at HS hk ⊢
  clear hr
  obtain ⟨t, m⟩ := r
  unfold showV at HS
  dsimp only at HS hk ⊢
  by_cases hn : n = 0
  · subst hn
    rw [if_pos rfl]
    rcases hk with rfl | ⟨hm, rfl⟩
    · go_enter Tryz.func51, Tryz.ntmps51
      go_wp2_with fail
      refine (HS.out).mono ?_
      rintro e w1 ⟨rfl, hb1⟩
      have HB1 := Lib.hid (HB0.out.trans (hb1.mono HB0.out.size))
      clear hb1
      go_wp2
      go_ret
      exact ⟨rfl, HB1.out⟩
    · have e1 : ((m : Int) != 0) = true := by rw [bne_iff_ne]; omega
      go_enter Tryz.func51, Tryz.ntmps51
      go_wp2_with fail
      refine (HS.out).mono ?_
      rintro e w1 ⟨rfl, hb1⟩
      have HB1 := Lib.hid (HB0.out.trans (hb1.mono HB0.out.size))
      clear hb1
      go_wp2
      go_ret
      exact ⟨rfl, HB1.out⟩
  · rw [if_neg hn]
    have e1 : ((n : Int) != 0) = true := by rw [bne_iff_ne]; omega
    clear hk
    go_enter Tryz.func51, Tryz.ntmps51
    go_wp2_with fail
    refine (HS.out).mono ?_
    rintro e w1 ⟨rfl, hb1⟩
    have HB1 := Lib.hid (HB0.out.trans (hb1.mono HB0.out.size))
    clear hb1
    go_wp2
    go_ret
    exact ⟨rfl, HB1.out⟩
end Go.Proofs.YtbmjmiioobgbfaaGreatDoor
