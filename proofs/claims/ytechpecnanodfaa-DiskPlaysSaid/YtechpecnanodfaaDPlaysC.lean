/-
  DiskPlays' walk.
-/
import Derived.Test.YtechpecnanodfaaDDoes
import Derived.Test.YtechpecnanodfaaDLike
namespace Go.Proofs.Ytechpecnanodfaa
open Go Go.RowKit Go.Maps
set_option maxRecDepth 100000
set_option linter.unusedSimpArgs false
set_option linter.unusedVariables false

theorem copyR_o {w0 w : World} {os : List Ob} {q g1 g2 g3 : Nat} {S : DS} (h : Obs w0 w os) (i : Nat) (hi : os[i]? = some (rdOb q g1 g2 g3 S)) :
    Calls Try.prog 25 #[dp q] w fun e w' => ∃ x y1 y2 y3, e = .returned (dp x) ∧ Obs w0 w' (os ++ [rdOb x y1 y2 y3 S]) :=
  (copy_rd (h.get hi)).mono fun e w' hh => by
    obtain ⟨x, y1, y2, y3, he, hD, hb, hg⟩ := hh
    exact ⟨x, y1, y2, y3, he, h.add _ hD (rdOb_stays _ _ _ _ _) hb (fun b hb' => ⟨hg b hb', hD.lts b hb'⟩)⟩
theorem does_k {w0 W : World} {os : List Ob} {A : Option Addr} {l : List SD} (hl : StAt w0 A l) (hs : Short l) {k : Nat} (hk : k < l.length) (h : Obs w0 W os) {p bl bd q g1 g2 g3 : Nat} {S : DS} (i j : Nat) (hij : i ≠ j) (hi : os[i]? = some (pdOb p bl bd S)) (hj : os[j]? = some (rdOb q g1 g2 g3 S)) (hops : S.ops < 4611686018427387904) :
    Calls Try.prog 26 #[dp p, dp q, (l.getD k sd0).val] W fun e w' => e = .returned (.bool true) ∧ ∃ h1 h2 h3, Obs w0 w' ((os.set i (pdOb p bl bd (S.step (l.getD k sd0)))).set j (rdOb q h1 h2 h3 (S.step (l.getD k sd0)))) := by
  obtain ⟨b, o, hA, hb, hc, hok⟩ := hl k hk
  have hm : l.getD k sd0 ∈ l := by rw [List.getD_eq_getElem?_getD, List.getElem?_eq_getElem hk]; exact List.getElem_mem hk
  exact does_o h i j hij hi hj hops hok (by have := hs.2 _ hm; omega)

set_option maxHeartbeats 8000000 in
theorem diskPlays_walk {w : World} {A : Option Addr} {c : Nat} {l : List SD} {a : Int} (ha : -9223372036854775808 ≤ a ∧ a ≤ 9223372036854775807) (hl : StAt w A l) (hll : l.length ≤ 9223372036854775807) :
    Calls Try.prog 4 #[.int .i64 a, .slice A l.length c] w fun e w' => e = .returned (.bool true) ∧ Below w.heap.size w w' := by
  have H0 := Lib.hid (Obs.start w)
  have HL := Lib.hid hl
  have HLG1 := Lib.hid (long_any (c := c) hl hll)
  generalize hln : l.length = ln at hll HLG1 ⊢
  have HLN := Lib.hid hln
  clear hl hln
  go_enter Try.func4, Try.ntmps4
  go_wp2_with fail
  refine HLG1.out.mono ?_
  rintro e w2 ⟨b1, rfl, hs1, hb2⟩
  have HB2 := Lib.hid hb2
  clear hb2
  cases b1 with
  | true =>
    clear hs1
    go_wp2_with fail
    refine works_any.mono ?_
    rintro e w3 ⟨rfl, hb3⟩
    have HB3 := Lib.hid (HB2.out.trans (hb3.mono HB2.out.size))
    clear hb3
    go_wp2_with fail
    go_ret
    exact ⟨rfl, HB3.out⟩
  | false =>
    have HS1 := Lib.hid (hs1 rfl)
    clear hs1 HLG1 hll
    have hl300 : ln ≤ 300 := by rw [← HLN.out]; exact HS1.out.1
    by_cases a40 : 40 < a
    · by_cases a1k : a ≤ 1024
      · go_wp2_with fail
        refine works_any.mono ?_
        rintro e w3 ⟨rfl, hb3⟩
        have HB3 := Lib.hid (HB2.out.trans (hb3.mono HB2.out.size))
        clear hb3
        go_wp2_with fail
        go_ret
        exact ⟨rfl, HB3.out⟩
      · have HN1 := Lib.hid (fun W : World => new_none (w := W) (n := a) (.inr (by omega)))
        have HN2 := Lib.hid (fun W : World => new_none_rd (w := W) (a := a) (.inr (by omega)))
        go_wp2_with (first
          | (go_at_call 20; refine (HN1.out _).mono ?_; rintro e w3 ⟨rfl, hb⟩; have HB3 := Lib.hid (HB2.out.trans (hb.mono HB2.out.size)); clear hb)
          | (go_at_call 24; refine (HN2.out _).mono ?_; rintro e w4 ⟨rfl, hb⟩; have HB4 := Lib.hid (HB3.out.trans (hb.mono HB3.out.size)); clear hb)
          | (go_at_call 10; refine works_any.mono ?_; rintro e w5 ⟨rfl, hb⟩; have HB5 := Lib.hid (HB4.out.trans (hb.mono HB4.out.size)); clear hb))
        go_ret
        exact ⟨rfl, HB5.out⟩
    · by_cases a0 : a < 1
      · have HN1 := Lib.hid (fun W : World => new_none (w := W) (n := a) (.inl a0))
        have HN2 := Lib.hid (fun W : World => new_none_rd (w := W) (a := a) (.inl a0))
        go_wp2_with (first
          | (go_at_call 20; refine (HN1.out _).mono ?_; rintro e w3 ⟨rfl, hb⟩; have HB3 := Lib.hid (HB2.out.trans (hb.mono HB2.out.size)); clear hb)
          | (go_at_call 24; refine (HN2.out _).mono ?_; rintro e w4 ⟨rfl, hb⟩; have HB4 := Lib.hid (HB3.out.trans (hb.mono HB3.out.size)); clear hb)
          | (go_at_call 10; refine works_any.mono ?_; rintro e w5 ⟨rfl, hb⟩; have HB5 := Lib.hid (HB4.out.trans (hb.mono HB4.out.size)); clear hb))
        go_ret
        exact ⟨rfl, HB5.out⟩
      · obtain ⟨n, rfl⟩ : ∃ n : Nat, a = (n : Int) := ⟨a.toNat, by omega⟩
        have HN1 := Lib.hid (new_o (n := n) (H0.out.step HB2.out) (by omega) (by omega))
        have HN2 := Lib.hid (fun W os (h : Obs w W os) => newR_o h (n := n) (by omega) (by omega))
        go_wp2_with (first
          | (go_at_call 20; refine HN1.out.mono ?_; rintro e w3 ⟨p, bl, bd, rfl, h3⟩; have H3 := Lib.hid (show Obs w w3 [pdOb p bl bd (DS.new n)] from h3); clear h3)
          | (go_at_call 24; refine (HN2.out _ _ H3.out).mono ?_; rintro e w4 ⟨q, g1, g2, g3, rfl, h4⟩; have H4 := Lib.hid (show Obs w w4 [pdOb p bl bd (DS.new n), rdOb q g1 g2 g3 (DS.new n)] from h4); clear h4))
        clear HN1 HN2
        go_loopw [9, 10, 11] (fun kx cx yx wr => ∃ (k : Nat) (S : DS) (h1 h2 h3 : Nat), kx = .int .i64 (k : Int) ∧ k ≤ ln ∧ Obs w wr [pdOb p bl bd S, rdOb q h1 h2 h3 S] ∧ S.ops ≤ k) (fun kx _ _ _ => ln - (RowKit.intOf kx).toNat)
        case atStart => exact ⟨0, _, g1, g2, g3, rfl, by omega, H4.out, Nat.le_refl _⟩
        case round =>
          obtain ⟨k, S, h1, h2, h3, rfl, hkn, hO, hops⟩ := hrel
          have HO := Lib.hid hO
          clear hO
          by_cases hk : k < ln
          · have hki : (k : Int) < (ln : Int) := by omega
            have hk0 : (0 : Int) ≤ (k : Int) := by omega
            have hwr : IntKind.i64.wrap ((k : Int) + 1) = (k : Int) + 1 := IntWalk.i64_in _ (by omega)
            have hwl : IntKind.i64.wrap ((ln : Int) - 1) = (ln : Int) - 1 := IntWalk.i64_in _ (by omega)
            obtain ⟨b, o, hAe, hc⟩ := cells_k HL.out (by rw [HLN.out]; exact hk) HO.out
            have HCK := Lib.hid (fun W os (h : Obs w W os) => cells_k HL.out (k := k) (by rw [HLN.out]; exact hk) h)
            have CS := Lib.hid (fun W os (h : Obs w W os) i j hij hi hj => does_k HL.out HS1.out (k := k) (by rw [HLN.out]; exact hk) h (p := p) (bl := bl) (bd := bd) (q := q) (g1 := h1) (g2 := h2) (g3 := h3) (S := S) i j hij hi hj (by omega))
            have HSL := Lib.hid (step_len S (l.getD k sd0))
            obtain ⟨d0, d1, d2, d3, d4⟩ := hc
            generalize l.getD k sd0 = s at d0 d1 d2 d3 d4 CS HSL HCK
            have HAE := Lib.hid hAe
            rw [hAe]
            rw [hAe] at HCK
            clear hAe
            have HCK2 : Hid (∀ W os, Obs w W os → StCells W b (o + k * 5) s) := fun W os h => by
              obtain ⟨b', o', e, hc⟩ := HCK.out W os h
              cases e
              exact hc
            unfold SD.val stepV at CS
            by_cases e9 : k % 9 = 4
            · have h9 : (k : Int) % 9 = 4 := by omega
              have h3m : (k : Int) % 3 = 1 := by omega
              have C1 := Lib.hid (copy_o HO.out 0 rfl)
              clear d0 d1 d2 d3 d4 e9
              go_wp2_with (first
                | (go_at_call 19; refine C1.out.mono ?_; rintro e w5 ⟨u, ul, ud, rfl, h5⟩; have C2 := Lib.hid (copyR_o (show Obs w w5 [pdOb p bl bd S, rdOb q h1 h2 h3 S, pdOb u ul ud S] from h5) 1 rfl); clear h5)
                | (go_at_call 25; refine C2.out.mono ?_; rintro e w6 ⟨v, v1, v2, v3, rfl, h6⟩; have H6 := Lib.hid (show Obs w w6 [pdOb p bl bd S, rdOb q h1 h2 h3 S, pdOb u ul ud S, rdOb v v1 v2 v3 S] from h6); clear h6; obtain ⟨d0, d1, d2, d3, d4⟩ := HCK2.out _ _ H6.out; have C3 := Lib.hid (CS.out _ _ H6.out 0 1 (by decide) rfl rfl))
                | (go_at_call 26; refine C3.out.mono ?_; rintro e w7 ⟨rfl, x1, x2, x3, h7⟩; have H7 := Lib.hid (show Obs w w7 [pdOb p bl bd (S.step s), rdOb q x1 x2 x3 (S.step s), pdOb u ul ud S, rdOb v v1 v2 v3 S] from h7); have C4 := Lib.hid (fun full : Bool => like_o H7.out 0 1 rfl rfl full); clear h7 d0 d1 d2 d3 d4)
                | (go_at_call 27; with_reducible refine (C4.out _).mono ?_; rintro e w8 ⟨rfl, h8⟩; have C5 := Lib.hid (fun full : Bool => like_o h8 2 3 rfl rfl full); clear h8)
                | (go_at_call 27; with_reducible refine (C5.out _).mono ?_; rintro e w9 ⟨rfl, h9'⟩; have H9 := Lib.hid h9'; clear h9'))
              go_roundw
              case rel => exact ⟨k + 1, S.step s, x1, x2, x3, by go_num, by omega, Obs.drop (os := [_, _]) (Obs.drop (os := [_, _, _]) H9.out), by have := HSL.out.2; omega⟩
              case measure => simp [RowKit.intOf]; omega
            · have e9i : (((k : Int) % 9) == 4) = false := by rw [beq_eq_false_iff_ne]; omega
              by_cases e3 : k % 3 = 0
              · have h3m : (k : Int) % 3 = 0 := by omega
                clear e3 e9
                have C3 := Lib.hid (CS.out _ _ HO.out 0 1 (by decide) rfl rfl)
                go_wp2_with (first
                  | (go_at_call 26; refine C3.out.mono ?_; rintro e w7 ⟨rfl, x1, x2, x3, h7⟩; have H7 := Lib.hid (show Obs w w7 [pdOb p bl bd (S.step s), rdOb q x1 x2 x3 (S.step s)] from h7); have C4 := Lib.hid (fun full : Bool => like_o H7.out 0 1 rfl rfl full); clear h7 d0 d1 d2 d3 d4)
                  | (go_at_call 27; with_reducible refine (C4.out _).mono ?_; rintro e w8 ⟨rfl, h8⟩; have H8 := Lib.hid h8; clear h8))
                go_roundw
                case rel => exact ⟨k + 1, S.step s, x1, x2, x3, by go_num, by omega, H8.out, by have := HSL.out.2; omega⟩
                case measure => simp [RowKit.intOf]; omega
              · have e3i : (((k : Int) % 3) == 0) = false := by rw [beq_eq_false_iff_ne]; omega
                have e3j : ¬ ((k : Int) % 3 = 0) := by omega
                clear e3 e9
                have C3 := Lib.hid (CS.out _ _ HO.out 0 1 (by decide) rfl rfl)
                go_wp2_with (first
                  | (go_at_call 26; refine C3.out.mono ?_; rintro e w7 ⟨rfl, x1, x2, x3, h7⟩; have H7 := Lib.hid (show Obs w w7 [pdOb p bl bd (S.step s), rdOb q x1 x2 x3 (S.step s)] from h7); have C4 := Lib.hid (fun full : Bool => like_o H7.out 0 1 rfl rfl full); clear h7 d0 d1 d2 d3 d4)
                  | (go_at_call 27; with_reducible refine (C4.out _).mono ?_; rintro e w8 ⟨rfl, h8⟩; have H8 := Lib.hid h8; clear h8))
                go_roundw
                case rel => exact ⟨k + 1, S.step s, x1, x2, x3, by go_num, by omega, H8.out, by have := HSL.out.2; omega⟩
                case measure => simp [RowKit.intOf]; omega
          · have hki : ¬ (k : Int) < (ln : Int) := by omega
            clear hk
            go_wp2_with (go_at_call 10; refine works_any.mono ?_; rintro e w5 ⟨rfl, hb5⟩; have HB5 := Lib.hid (HO.out.step hb5); clear hb5)
            go_ret
            exact ⟨rfl, HB5.out.bel⟩
end Go.Proofs.Ytechpecnanodfaa

