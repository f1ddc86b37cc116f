/-
  The walk of StuffTells.
-/
import Derived.Deep.RegionHeld3
import Derived.Deep.CutRange
import Derived.Test.YtjbjbbbhcncfnaaSRefU
namespace Go.Proofs.Ytjbjbbbhcncfnaa
open Go Go.RowKit Go.Shelf
set_option maxRecDepth 100000
set_option linter.unusedSimpArgs false
set_option linter.unusedVariables false

/-- A world behind w, in which block g holds these texts. -/
def RB (w : World) (g : Nat) (L : List (List UInt8)) (W : World) : Prop := BL w W ∧ W.heap[g]? = some (.cells (L.map sv).toArray 9 (0, 0))
theorem RB.step {w W W' : World} {g : Nat} {L : List (List UInt8)} (h : RB w g L W) (hb : Below W.heap.size W W') : RB w g L W' := ⟨h.1.step hb, (hb.block g (lt_of_blk h.2)).trans h.2⟩
theorem RB.drew {w W : World} {g : Nat} {L : List (List UInt8)} (h : RB w g L W) : RB w g L W.drew := ⟨h.1.drew, h.2⟩
theorem RB.cell {w W : World} {g : Nat} {L : List (List UInt8)} (h : RB w g L W) {k : Nat} (hk : k < L.length) {x : List UInt8} (hx : L.getD k [] = x) : W.cell? ⟨g, k, none⟩ = some (.string (str x)) := by
  rw [cellAt h.2, ← hx]
  simp [List.getD_eq_getElem?_getD, List.getElem?_eq_getElem hk]
theorem rb {w W : World} {g : Nat} {L : List (List UInt8)} {f : Nat} {args : Array Value} {v : Value} (hc : Calls Try.prog f args W fun e w' => e = .returned v ∧ Below W.heap.size W w') (h : RB w g L W) : Calls Try.prog f args W fun e w' => e = .returned v ∧ RB w g L w' :=
  hc.mono fun e w' ⟨h1, h2⟩ => ⟨h1, h.step h2⟩
theorem getD_mem {L : List (List UInt8)} {k : Nat} (h : k < L.length) : L.getD k [] ∈ L := by
  rw [List.getD_eq_getElem?_getD, List.getElem?_eq_getElem h]; exact List.getElem_mem _

set_option maxHeartbeats 16000000 in
theorem stuffTells_walk (sb tb : ByteArray) (hz : sb.size ≤ 140737488351232) (hzt : tb.size ≤ 140737488351232) (w : World) (hM : ML w) :
    Calls Try.prog 4 #[.string sb, .string tb] w fun e w' => e = .returned (.bool true) ∧ Below w.heap.size w w' := by
  obtain ⟨s, rfl, hs'⟩ := to_str sb
  obtain ⟨t, rfl, ht'⟩ := to_str tb
  have HB0 := BL.start hM
  have hl : s.length ≤ 140737488351232 := by omega
  have hlt : t.length ≤ 140737488351232 := by omega
  clear hM hs' hz ht' hzt
  by_cases h4 : 4000 < s.length ∨ 4000 < t.length
  · have h4' : (4000 : Int) < (s.length : Int) ∨ (¬ (4000 : Int) < (s.length : Int) ∧ (4000 : Int) < (t.length : Int)) := by omega
    clear h4
    rcases h4' with h4 | ⟨h4, h5⟩
    all_goals
      go_enter Try.func4, Try.ntmps4
      go_wp2_with fail
      refine (worksB HB0).mono ?_
      rintro e w1 ⟨rfl, h1⟩
      go_wp2
      go_ret
      exact ⟨rfl, h1.1⟩
  · have h4a : s.length ≤ 4000 := by omega
    have h4b : t.length ≤ 4000 := by omega
    have i4a : ¬ (4000 : Int) < (s.length : Int) := by omega
    have i4b : ¬ (4000 : Int) < (t.length : Int) := by omega
    clear h4
    obtain ⟨x, hx⟩ : ∃ x, x = stuffL s := ⟨_, rfl⟩
    obtain ⟨ex, hex⟩ : ∃ x, x = stuffE s := ⟨_, rfl⟩
    have hxl : x.length ≤ 10000 := by rw [hx]; have := stuff_size s; omega
    have HS := Lib.hid (stuffB HB0 s (by omega) hx.symm hex.symm)
    have x1 : str s ++ { data := #[13, 10] } = str (s ++ [13, 10]) := str_append s [13, 10]
    have x2 : str x ++ str t = str (x ++ t) := str_append x t
    have x3 : str s ++ { data := #[46, 13, 10] } ++ str t = str (s ++ [46, 13, 10] ++ t) := by rw [← str_append, ← str_append]
    have x4 : str s ++ { data := #[46, 13, 10] } = str (s ++ [46, 13, 10]) := str_append s [46, 13, 10]
    have x5 : str (s ++ [46, 13, 10]) ++ str t = str (s ++ [46, 13, 10] ++ t) := str_append _ _
    obtain ⟨y1, hy1⟩ : ∃ y, y = s ++ [13, 10] := ⟨_, rfl⟩
    obtain ⟨y2, hy2⟩ : ∃ y, y = x ++ t := ⟨_, rfl⟩
    obtain ⟨y3, hy3⟩ : ∃ y, y = s ++ [46, 13, 10] ++ t := ⟨_, rfl⟩
    have HX := Lib.hid (show ∀ z ∈ [s, t, y1, x, y2, y3], z.length ≤ 50000 by
      intro z hz
      simp only [List.mem_cons, List.not_mem_nil, or_false] at hz
      rcases hz with rfl | rfl | rfl | rfl | rfl | rfl
      · omega
      · omega
      · rw [hy1]; simp; omega
      · omega
      · rw [hy2]; simp; omega
      · rw [hy3]; simp; omega)
    rw [← hy1] at x1
    rw [← hy2] at x2
    rw [← hy3] at x3 x5
    clear hx hex hy1 hy2 hy3
    go_enter Try.func4, Try.ntmps4
    go_wp2_with fail
    refine HS.out.mono ?_
    rintro e w2 ⟨rfl, B2⟩
    go_upto_region 5 with (fail)
    rw [show w2.alloc (.cells #[.string (str s), .string (str t), .string (str y1), .string (str x), .string (str y2), .string (str y3)] 9) = w2.alloc (.cells ([s, t, y1, x, y2, y3].map sv).toArray 9) from rfl]
    obtain ⟨L, hL⟩ : ∃ L, L = [s, t, y1, x, y2, y3] := ⟨_, rfl⟩
    have hLn : L.length = 6 := by rw [hL]; rfl
    rw [← hL] at HX ⊢
    obtain ⟨wa, hwa⟩ : ∃ wa, wa = w2.alloc (.cells (L.map sv).toArray 9) := ⟨_, rfl⟩
    rw [← hwa]
    obtain ⟨g, hg⟩ : ∃ g, g = w2.heap.size := ⟨_, rfl⟩
    rw [← hg]
    have HAA := Lib.hid (show RB w g L wa from ⟨by rw [hwa]; exact B2.alloc _, by rw [hwa, hg]; exact heap_alloc_new _ _⟩)
    have HLN := Lib.hid hLn
    clear hwa hg hL B2 x1 x2 x3 x4 x5 hLn HB0
    go_wp2_with fail
    go_loopw [8] (fun i wr => ∃ k : Nat, k ≤ 6 ∧ i = .int .i64 k ∧ RB w g L wr) (fun i _ => 6 - (intOf i).toNat)
    case atStart => exact ⟨0, by omega, rfl, HAA.out⟩
    case round =>
      obtain ⟨k, hk, rfl, hr⟩ := hrel
      by_cases hlt : k < 6
      · obtain ⟨x, hx⟩ : ∃ x, L.getD k [] = x := ⟨_, rfl⟩
        have hkl : k < L.length := by rw [HLN.out]; exact hlt
        have hxl : x.length ≤ 50000 := by rw [← hx]; exact HX.out _ (getD_mem hkl)
        have HC := Lib.hid (fun (W : World) (h : RB w g L W) => h.cell hkl hx)
        obtain ⟨a, ha⟩ : ∃ a, stuffL x = a := ⟨_, rfl⟩
        obtain ⟨b, hb⟩ : ∃ a, stuffE x = a := ⟨_, rfl⟩
        obtain ⟨c, hc⟩ : ∃ a, unsT x = a := ⟨_, rfl⟩
        obtain ⟨d, hd⟩ : ∃ a, unsR x = a := ⟨_, rfl⟩
        obtain ⟨f, hf⟩ : ∃ a, unsE x = a := ⟨_, rfl⟩
        obtain ⟨m, hm⟩ : ∃ m, dotsL x = m := ⟨_, rfl⟩
        obtain ⟨z, hz⟩ : ∃ z, wholeL x = z := ⟨_, rfl⟩
        have C1 := fun (W : World) (h : RB w g L W) => rb (stuff_any x W (by omega) h.1.2) h
        have C2 := fun (W : World) (h : RB w g L W) => rb (rstuff_any x W (by omega)) h
        have C3 := fun (W : World) (h : RB w g L W) => rb (unstuff_any x W (by omega) h.1.2) h
        have C4 := fun (W : World) (h : RB w g L W) => rb (runstuff_any x W (by omega)) h
        have C5 := fun (W : World) (h : RB w g L W) => rb (dots_any x W (by omega) h.1.2) h
        have C6 := fun (W : World) (h : RB w g L W) => rb (rdots_any x W (by omega)) h
        have C7 := fun (W : World) (h : RB w g L W) => rb (whole_any x W (by omega) h.1.2) h
        have C8 := fun (W : World) (h : RB w g L W) => rb (rwhole_any x W (by omega)) h
        rw [ha, hb] at C1 C2
        rw [hc, hd, hf] at C3 C4
        rw [hm] at C5 C6
        rw [hz] at C7 C8
        have D1 := Lib.hid C1
        have D2 := Lib.hid C2
        have D3 := Lib.hid C3
        have D4 := Lib.hid C4
        have D5 := Lib.hid C5
        have D6 := Lib.hid C6
        have D7 := Lib.hid C7
        have D8 := Lib.hid C8
        have c0 := HC.out _ hr
        clear C1 C2 C3 C4 C5 C6 C7 C8 ha hb hc hd hf hm hz hx hxl
        go_wp2_with fail
        refine (D1.out _ hr).mono ?_
        rintro e1 w4 ⟨rfl, hr4⟩
        have c4 := HC.out _ hr4
        clear c0 hr
        go_wp2_with fail
        refine (D2.out _ hr4).mono ?_
        rintro e1 w5 ⟨rfl, hr5⟩
        have c5 := HC.out _ hr5
        clear c4 hr4
        go_wp2_with fail
        refine (D3.out _ hr5).mono ?_
        rintro e1 w6 ⟨rfl, hr6⟩
        have c6 := HC.out _ hr6
        clear c5 hr5
        go_wp2_with fail
        refine (D4.out _ hr6).mono ?_
        rintro e1 w7 ⟨rfl, hr7⟩
        have c7 := HC.out _ hr7
        clear c6 hr6
        go_wp2_with fail
        go_cut [134] from 46 to 134 (fun v wr => v = .bool false ∧ RB w g L wr)
        case first =>
          go_region_held3 (fun w' => RB w g L w' ∧ w'.cell? ⟨g, k, none⟩ = some (.string (str x))) (first | exact ⟨by assumption, HC.out _ (by assumption)⟩ | exact ⟨RB.drew (by assumption), HC.out _ (RB.drew (by assumption))⟩)
            (first
              | (go_at_call 11; with_reducible refine (D5.out _ (by first | assumption | exact RB.drew (by assumption))).mono ?_; rintro e1 w8 ⟨rfl, hR⟩)
              | (go_at_call 15; with_reducible refine (D6.out _ (by first | assumption | exact RB.drew (by assumption))).mono ?_; rintro e1 w8 ⟨rfl, hR⟩)
              | (go_at_call 12; with_reducible refine (D7.out _ (by first | assumption | exact RB.drew (by assumption))).mono ?_; rintro e1 w8 ⟨rfl, hR⟩)
              | (go_at_call 16; with_reducible refine (D8.out _ (by first | assumption | exact RB.drew (by assumption))).mono ?_; rintro e1 w8 ⟨rfl, hR⟩))
          all_goals (try go_wp2)
          all_goals go_meet
          all_goals (case rel => exact ⟨rfl, by assumption⟩)
        case rest =>
          obtain ⟨rfl, hR⟩ := hcut
          have HR := Lib.hid hR
          clear c7 hR hr7
          go_wp2_with fail
          go_roundw
          case rel => exact ⟨k + 1, by omega, by go_num, HR.out⟩
          case measure => simp [intOf]; omega
      · obtain rfl : k = 6 := by omega
        go_wp2_with fail
        refine (worksB hr.1).mono ?_
        rintro e w8 ⟨rfl, h8⟩
        go_wp2
        go_ret
        exact ⟨rfl, h8.1⟩
end Go.Proofs.Ytjbjbbbhcncfnaa
