/-
  The walk of StuffParts.
-/
import Derived.Test.YtjbjbbbhcncfnaaSBackC
namespace Go.Proofs.Ytjbjbbbhcncfnaa
open Go Go.RowKit Go.Shelf
set_option maxRecDepth 100000

theorem stuff_size (s : List UInt8) : (stuffL s).length ≤ 2 * s.length + 3 := by
  rcases stuff_ways s with ⟨h, _⟩ | ⟨_, _, h⟩
  · have h1 := stuff_len h
    have h2 := items_count s
    omega
  · rw [h]; simp

set_option maxHeartbeats 16000000 in
theorem stuffParts_walk (sb tb : ByteArray) (hz : sb.size ≤ 140737488351232) (hzt : tb.size ≤ 140737488351232) (w : World) (hM : ML w) :
    Calls Try.prog 7 #[.string sb, .string tb] w fun e w' => e = .returned (.bool true) ∧ Below w.heap.size w w' := by
  obtain ⟨s, rfl, hs'⟩ := to_str sb
  obtain ⟨t, rfl, ht'⟩ := to_str tb
  have HB0 := BL.start hM
  have hl : s.length ≤ 140737488351232 := by omega
  have hlt : t.length ≤ 140737488351232 := by omega
  clear hM hs' hz ht' hzt
  by_cases h4 : 4000 < s.length ∨ 4000 < t.length
  · have h4' : (4000 : Int) < (s.length : Int) ∨ (¬ (4000 : Int) < (s.length : Int) ∧ (4000 : Int) < (t.length : Int)) := by omega
    clear h4
    rcases h4' with h4 | ⟨h4, h5⟩
    all_goals
      go_enter Try.func7, Try.ntmps7
      go_wp2_with fail
      refine (worksB HB0).mono ?_
      rintro e w1 ⟨rfl, h1⟩
      go_wp2_with fail
      refine (worksB h1).mono ?_
      rintro e w2 ⟨rfl, h2⟩
      go_wp2
      go_ret
      exact ⟨rfl, h2.1⟩
  · have h4a : s.length ≤ 4000 := by omega
    have h4b : t.length ≤ 4000 := by omega
    have i4a : ¬ (4000 : Int) < (s.length : Int) := by omega
    have i4b : ¬ (4000 : Int) < (t.length : Int) := by omega
    clear h4
    obtain ⟨x, hx⟩ : ∃ x, x = stuffL s := ⟨_, rfl⟩
    obtain ⟨y, hy⟩ : ∃ x, x = stuffL t := ⟨_, rfl⟩
    obtain ⟨z, hz⟩ : ∃ x, x = stuffL (s ++ t) := ⟨_, rfl⟩
    obtain ⟨ex, hex⟩ : ∃ x, x = stuffE s := ⟨_, rfl⟩
    obtain ⟨ey, hey⟩ : ∃ x, x = stuffE t := ⟨_, rfl⟩
    obtain ⟨ez, hez⟩ : ∃ x, x = stuffE (s ++ t) := ⟨_, rfl⟩
    have HS := Lib.hid (fun (w1 : World) (h : BL w w1) => stuffB h s (by omega) hx.symm hex.symm)
    have HT := Lib.hid (fun (w1 : World) (h : BL w w1) => stuffB h t (by omega) hy.symm hey.symm)
    have HU := Lib.hid (fun (w1 : World) (h : BL w w1) => stuffB h (s ++ t) (by simp; omega) hz.symm hez.symm)
    rcases stuff_ways s with ⟨h0, he⟩ | ⟨h0, he, hx0⟩
    · obtain rfl : ex = 0 := by omega
      rcases stuff_ways t with ⟨k0, ke⟩ | ⟨k0, ke, ky0⟩
      · obtain rfl : ey = 0 := by omega
        obtain ⟨r0, r1, r2⟩ := stuff_two h0 k0
        obtain rfl : ez = 0 := by rw [hez]; unfold stuffE; rw [if_pos r0]
        have hxl : 3 ≤ x.length ∧ x.length ≤ 10000 := by have := stuff_len h0; rw [← hx] at this; have := items_count s; omega
        have hyl : y.length ≤ 10000 := by have := stuff_size t; rw [← hy] at this; omega
        obtain ⟨hx1, hx2⟩ := hxl
        rw [← hx, ← hy, ← hz] at r1
        obtain ⟨n, hn⟩ : ∃ n, n = dotsL s := ⟨_, rfl⟩
        obtain ⟨m, hm⟩ : ∃ n, n = dotsL t := ⟨_, rfl⟩
        obtain ⟨k, hk⟩ : ∃ n, n = dotsL (s ++ t) := ⟨_, rfl⟩
        have hnl : n ≤ 4000 := by have := items_count s; omega
        have hml : m ≤ 4000 := by have := items_count t; omega
        have HD1 := Lib.hid (fun (w1 : World) (h : BL w w1) => dotsB h s (by omega) hn.symm)
        have HD2 := Lib.hid (fun (w1 : World) (h : BL w w1) => dotsB h t (by omega) hm.symm)
        have HD3 := Lib.hid (fun (w1 : World) (h : BL w w1) => dotsB h (s ++ t) (by simp; omega) hk.symm)
        have hkk : k = n + m := by rw [hk, hn, hm, r2]
        have i8 : (z == (str (x.take (x.length - 3)) ++ str y).toList) = true := by rw [str_append]; simp [r1]
        have I9 := Lib.hid (show ((k : Int) == (n : Int) + (m : Int)) = true by simp; omega)
        have eX : (str x).extract 0 (x.length - 3) = str (x.take (x.length - 3)) := by rw [str_extract]; rfl
        clear h0 he k0 ke r0 r1 r2 hn hm hk hkk hx hy hz hex hey hez
        go_enter Try.func7, Try.ntmps7
        go_wp2_with fail
        refine (worksB HB0).mono ?_
        rintro e w1 ⟨rfl, h1⟩
        go_wp2_with fail
        refine (HS.out w1 h1).mono ?_
        rintro e w2 ⟨rfl, h2⟩
        go_wp2_with fail
        refine (HT.out w2 h2).mono ?_
        rintro e w3 ⟨rfl, h3⟩
        go_wp2_with fail
        rw [str_append]
        refine (HU.out w3 h3).mono ?_
        rintro e w4 ⟨rfl, h4⟩
        go_wp2_with fail
        rw [str_append]
        refine (HD3.out w4 h4).mono ?_
        rintro e w5 ⟨rfl, h5⟩
        go_wp2_with fail
        refine (HD1.out w5 h5).mono ?_
        rintro e w6 ⟨rfl, h6⟩
        go_wp2_with fail
        refine (HD2.out w6 h6).mono ?_
        rintro e w7 ⟨rfl, h7⟩
        go_wp2
        go_ret
        exact ⟨congrArg (fun q => Ending.returned (Value.bool q)) I9.out, h7.1⟩
      · have r0 : restL (s ++ t) ≠ [] := by rw [(cut_two h0 t).2]; exact k0
        obtain rfl : ey = 4 := by omega
        obtain rfl : ez = 4 := by rw [hez]; unfold stuffE; rw [if_neg r0]
        clear h0 he k0 ke ky0 r0 hx hy hz hex hey hez
        go_enter Try.func7, Try.ntmps7
        go_wp2_with fail
        refine (worksB HB0).mono ?_
        rintro e w1 ⟨rfl, h1⟩
        go_wp2_with fail
        refine (HS.out w1 h1).mono ?_
        rintro e w2 ⟨rfl, h2⟩
        go_wp2_with fail
        refine (HT.out w2 h2).mono ?_
        rintro e w3 ⟨rfl, h3⟩
        go_wp2_with fail
        rw [str_append]
        refine (HU.out w3 h3).mono ?_
        rintro e w4 ⟨rfl, h4⟩
        go_wp2
        go_ret
        exact ⟨rfl, h4.1⟩
    · obtain rfl : ex = 4 := by omega
      clear h0 he hx0 hx hy hz hex hey hez
      go_enter Try.func7, Try.ntmps7
      go_wp2_with fail
      refine (worksB HB0).mono ?_
      rintro e w1 ⟨rfl, h1⟩
      go_wp2_with fail
      refine (HS.out w1 h1).mono ?_
      rintro e w2 ⟨rfl, h2⟩
      go_wp2_with fail
      refine (HT.out w2 h2).mono ?_
      rintro e w3 ⟨rfl, h3⟩
      go_wp2_with fail
      rw [str_append]
      refine (HU.out w3 h3).mono ?_
      rintro e w4 ⟨rfl, h4⟩
      go_wp2
      go_ret
      exact ⟨rfl, h4.1⟩
end Go.Proofs.Ytjbjbbbhcncfnaa
