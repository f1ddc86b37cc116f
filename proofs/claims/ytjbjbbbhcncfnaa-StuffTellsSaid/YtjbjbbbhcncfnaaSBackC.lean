/-
  The walk of StuffBack.
-/
import Derived.Test.YtjbjbbbhcncfnaaSLongC
namespace Go.Proofs.Ytjbjbbbhcncfnaa
open Go Go.RowKit Go.Shelf
set_option maxRecDepth 100000

/-- How a text that may be sent ends, as the law asks it. -/
def endsB (s : List UInt8) : Bool := s.isEmpty || (decide (1 < s.length) && (s.drop (s.length - 2)) == [13, 10])
theorem ends_is (s : List UInt8) : endsB s = decide (restL s = []) := by
  have h := rest_end s
  unfold endsB
  by_cases hr : restL s = []
  · rw [decide_eq_true hr]
    rcases h.1 hr with rfl | ⟨h1, h2⟩
    · rfl
    · rw [h2]; simp; omega
  · rw [decide_eq_false hr]
    have h1 : s ≠ [] := fun e => hr (h.2 (.inl e))
    have h2 : ¬ (2 ≤ s.length ∧ s.drop (s.length - 2) = [13, 10]) := fun e => hr (h.2 (.inr e))
    have h3 : s.isEmpty = false := by simpa using h1
    rw [h3]
    by_cases hl : 2 ≤ s.length
    · have h4 : ¬ s.drop (s.length - 2) = [13, 10] := fun e => h2 ⟨hl, e⟩
      simp [h4]
    · simp; omega

theorem str_append (a b : List UInt8) : str a ++ str b = str (a ++ b) := by
  apply ByteArray.ext
  simp [str]

set_option maxHeartbeats 16000000 in
theorem stuffBack_walk (sb tb : ByteArray) (hz : sb.size ≤ 140737488351232) (hzt : tb.size ≤ 140737488351232) (w : World) (hM : ML w) :
    Calls Try.prog 5 #[.string sb, .string tb] w fun e w' => e = .returned (.bool true) ∧ Below w.heap.size w w' := by
  obtain ⟨s, rfl, hs'⟩ := to_str sb
  obtain ⟨t, rfl, ht'⟩ := to_str tb
  have HB0 := BL.start hM
  have hl : s.length ≤ 140737488351232 := by omega
  have hlt : t.length ≤ 140737488351232 := by omega
  clear hM hs' hz ht' hzt
  by_cases h4 : 4000 < s.length ∨ 4000 < t.length
  · have h4' : (4000 : Int) < (s.length : Int) ∨ (¬ (4000 : Int) < (s.length : Int) ∧ (4000 : Int) < (t.length : Int)) := by omega
    clear h4
    rcases h4' with h4 | ⟨h4, h5⟩
    all_goals
      go_enter Try.func5, Try.ntmps5
      go_wp2_with fail
      refine (worksB HB0).mono ?_
      rintro e w1 ⟨rfl, h1⟩
      go_wp2_with fail
      refine (worksB h1).mono ?_
      rintro e w2 ⟨rfl, h2⟩
      go_wp2
      go_ret
      exact ⟨rfl, h2.1⟩
  · have h4a : s.length ≤ 4000 := by omega
    have h4b : t.length ≤ 4000 := by omega
    have i4a : ¬ (4000 : Int) < (s.length : Int) := by omega
    have i4b : ¬ (4000 : Int) < (t.length : Int) := by omega
    clear h4
    have HT : (∃ n : Int, (∀ (w1 : World), BL w w1 → Calls Try.prog 10 #[.string (str t)] w1 fun r w' => r = .returned (.tuple #[.string (str []), .string (str []), .int .i64 n]) ∧ BL w w') ∧ n ≠ 0) ∨
        (∃ a b y, (∀ (w1 : World), BL w w1 → Calls Try.prog 10 #[.string (str t)] w1 fun r w' => r = .returned (.tuple #[.string (str a), .string (str b), .int .i64 0]) ∧ BL w w') ∧
          (∀ (w1 : World), BL w w1 → Calls Try.prog 9 #[.string (str a)] w1 fun r w' => r = .returned (.tuple #[.string (str y), .int .i64 0]) ∧ BL w w') ∧ y ++ b = t) := by
      by_cases he : unsE t = 0
      · have hu := uns_len t
        obtain ⟨q1, q2⟩ := back_stuff he
        exact .inr ⟨unsT t, unsR t, stuffL (unsT t), fun w1 h => unstuffB h t (by omega) rfl rfl he, fun w1 h => stuffB h (unsT t) (by omega) rfl (by unfold stuffE; rw [if_pos q1]), q2⟩
      · obtain ⟨q1, q2⟩ := uns_no_text he
        exact .inl ⟨unsE t, fun w1 h => unstuffB h t (by omega) q1 q2 rfl, he⟩
    have HT := Lib.hid HT
    obtain ⟨x, hx⟩ : ∃ x, x = stuffL s := ⟨_, rfl⟩
    obtain ⟨ee, hee⟩ : ∃ ee, ee = stuffE s := ⟨_, rfl⟩
    have HS := Lib.hid (fun (w1 : World) (h : BL w w1) => stuffB h s (by omega) hx.symm hee.symm)
    rcases stuff_ways s with ⟨h0, he⟩ | ⟨h0, he, hx0⟩
    · have hu := stuff_back h0 t
      rw [← hx] at hu
      have HX := Lib.hid (fun (w1 : World) (h : BL w w1) => unstuffB h (x ++ t) (by have := stuff_len h0; rw [← hx] at this; have := items_count s; simp; omega) hu.1 hu.2.1 hu.2.2)
      obtain rfl : ee = 0 := by omega
      have hx3 : x.length ≤ 10000 := by have := stuff_len h0; rw [← hx] at this; have := items_count s; omega
      rcases (rest_end s).1 h0 with h1 | ⟨h1, h2⟩
      · clear hu h0 he hx hee
        subst h1
        go_enter Try.func5, Try.ntmps5
        go_wp2_with fail
        refine (worksB HB0).mono ?_
        rintro e w1 ⟨rfl, h1⟩
        go_wp2_with fail
        refine (HS.out w1 h1).mono ?_
        rintro e w2 ⟨rfl, h2⟩
        go_wp2_with fail
        rw [str_append]
        refine (HX.out w2 h2).mono ?_
        rintro e w3 ⟨rfl, h3⟩
        rcases HT.out with ⟨n, t1, t2⟩ | ⟨a, b, y, t1, t2, t3⟩
        · have i8 : (n == 0) = false := by simpa using t2
          have T1 := Lib.hid t1
          clear t1 t2
          go_wp2_with fail
          refine (T1.out w3 h3).mono ?_
          rintro e w8 ⟨rfl, h8⟩
          go_wp2
          go_ret
          exact ⟨rfl, h8.1⟩
        · have i6 : y.length ≤ 4000 := by have := congrArg List.length t3; simp at this; omega
          have i7 : b.length ≤ 4000 := by have := congrArg List.length t3; simp at this; omega
          have I8 := Lib.hid (show ((str y ++ str b).toList == t) = true by rw [str_append]; simpa using t3)
          have T1 := Lib.hid t1
          have T2 := Lib.hid t2
          clear t1 t2 t3
          go_wp2_with fail
          refine (T1.out w3 h3).mono ?_
          rintro e w8 ⟨rfl, h8⟩
          go_wp2_with fail
          refine (T2.out w8 h8).mono ?_
          rintro e w9 ⟨rfl, h9⟩
          go_wp2
          go_ret
          exact ⟨congrArg (fun q => Ending.returned (Value.bool q)) I8.out, h9.1⟩
      · have e2 : (str s).extract (s.length - 2) s.length = str [13, 10] := by rw [str_extract, List.take_of_length_le (Nat.le_refl _), h2]
        have i1 : (1 : Int) < (s.length : Int) := by omega
        have i2 : s.isEmpty = false := by cases s with | nil => simp at h1 | cons => rfl
        clear hu h0 he hx hee
        go_enter Try.func5, Try.ntmps5
        go_wp2_with fail
        refine (worksB HB0).mono ?_
        rintro e w1 ⟨rfl, h1⟩
        go_wp2_with fail
        refine (HS.out w1 h1).mono ?_
        rintro e w2 ⟨rfl, h2⟩
        go_wp2_with fail
        rw [str_append]
        refine (HX.out w2 h2).mono ?_
        rintro e w3 ⟨rfl, h3⟩
        rcases HT.out with ⟨n, t1, t2⟩ | ⟨a, b, y, t1, t2, t3⟩
        · have i8 : (n == 0) = false := by simpa using t2
          have T1 := Lib.hid t1
          clear t1 t2
          go_wp2_with fail
          refine (T1.out w3 h3).mono ?_
          rintro e w8 ⟨rfl, h8⟩
          go_wp2
          go_ret
          exact ⟨rfl, h8.1⟩
        · have i6 : y.length ≤ 4000 := by have := congrArg List.length t3; simp at this; omega
          have i7 : b.length ≤ 4000 := by have := congrArg List.length t3; simp at this; omega
          have I8 := Lib.hid (show ((str y ++ str b).toList == t) = true by rw [str_append]; simpa using t3)
          have T1 := Lib.hid t1
          have T2 := Lib.hid t2
          clear t1 t2 t3
          go_wp2_with fail
          refine (T1.out w3 h3).mono ?_
          rintro e w8 ⟨rfl, h8⟩
          go_wp2_with fail
          refine (T2.out w8 h8).mono ?_
          rintro e w9 ⟨rfl, h9⟩
          go_wp2
          go_ret
          exact ⟨congrArg (fun q => Ending.returned (Value.bool q)) I8.out, h9.1⟩
    · have h1 : s.isEmpty = false := by cases s with | nil => exact absurd rfl h0 | cons => rfl
      obtain rfl : ee = 4 := by omega
      rw [hx0] at hx
      subst hx
      by_cases h2 : 2 ≤ s.length
      · obtain ⟨d, hd⟩ : ∃ d, d = s.drop (s.length - 2) := ⟨_, rfl⟩
        have e2 : (str s).extract (s.length - 2) s.length = str d := by rw [str_extract, List.take_of_length_le (Nat.le_refl _), hd]
        have i1 : (1 : Int) < (s.length : Int) := by omega
        have i3 : (d == [13, 10]) = false := by
          have : ¬ d = [13, 10] := fun e => h0 ((rest_end s).2 (.inr ⟨h2, by rw [← hd]; exact e⟩))
          simpa using this
        clear h0 he hx0 hee hd
        go_enter Try.func5, Try.ntmps5
        go_wp2_with fail
        refine (worksB HB0).mono ?_
        rintro e w1 ⟨rfl, h1⟩
        go_wp2_with fail
        refine (HS.out w1 h1).mono ?_
        rintro e w2 ⟨rfl, h2⟩
        rcases HT.out with ⟨n, t1, t2⟩ | ⟨a, b, y, t1, t2, t3⟩
        · have i8 : (n == 0) = false := by simpa using t2
          have T1 := Lib.hid t1
          clear t1 t2
          go_wp2_with fail
          refine (T1.out w2 h2).mono ?_
          rintro e w8 ⟨rfl, h8⟩
          go_wp2
          go_ret
          exact ⟨rfl, h8.1⟩
        · have i6 : y.length ≤ 4000 := by have := congrArg List.length t3; simp at this; omega
          have i7 : b.length ≤ 4000 := by have := congrArg List.length t3; simp at this; omega
          have I8 := Lib.hid (show ((str y ++ str b).toList == t) = true by rw [str_append]; simpa using t3)
          have T1 := Lib.hid t1
          have T2 := Lib.hid t2
          clear t1 t2 t3
          go_wp2_with fail
          refine (T1.out w2 h2).mono ?_
          rintro e w8 ⟨rfl, h8⟩
          go_wp2_with fail
          refine (T2.out w8 h8).mono ?_
          rintro e w9 ⟨rfl, h9⟩
          go_wp2
          go_ret
          exact ⟨congrArg (fun q => Ending.returned (Value.bool q)) I8.out, h9.1⟩
      · have i1 : ¬ (1 : Int) < (s.length : Int) := by omega
        clear h0 he hx0 hee
        go_enter Try.func5, Try.ntmps5
        go_wp2_with fail
        refine (worksB HB0).mono ?_
        rintro e w1 ⟨rfl, h1⟩
        go_wp2_with fail
        refine (HS.out w1 h1).mono ?_
        rintro e w2 ⟨rfl, h2⟩
        rcases HT.out with ⟨n, t1, t2⟩ | ⟨a, b, y, t1, t2, t3⟩
        · have i8 : (n == 0) = false := by simpa using t2
          have T1 := Lib.hid t1
          clear t1 t2
          go_wp2_with fail
          refine (T1.out w2 h2).mono ?_
          rintro e w8 ⟨rfl, h8⟩
          go_wp2
          go_ret
          exact ⟨rfl, h8.1⟩
        · have i6 : y.length ≤ 4000 := by have := congrArg List.length t3; simp at this; omega
          have i7 : b.length ≤ 4000 := by have := congrArg List.length t3; simp at this; omega
          have I8 := Lib.hid (show ((str y ++ str b).toList == t) = true by rw [str_append]; simpa using t3)
          have T1 := Lib.hid t1
          have T2 := Lib.hid t2
          clear t1 t2 t3
          go_wp2_with fail
          refine (T1.out w2 h2).mono ?_
          rintro e w8 ⟨rfl, h8⟩
          go_wp2_with fail
          refine (T2.out w8 h8).mono ?_
          rintro e w9 ⟨rfl, h9⟩
          go_wp2
          go_ret
          exact ⟨congrArg (fun q => Ending.returned (Value.bool q)) I8.out, h9.1⟩
end Go.Proofs.Ytjbjbbbhcncfnaa
