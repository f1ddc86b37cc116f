/-
  The walk of StuffLong, of a text of 1048576 bytes at most.
-/
import Derived.Test.YtjbjbbbhcncfnaaSWork
namespace Go.Proofs.Ytjbjbbbhcncfnaa
open Go Go.RowKit Go.Shelf
set_option maxRecDepth 100000

theorem stuff_ways (s : List UInt8) : (restL s = [] ∧ stuffE s = 0) ∨ (restL s ≠ [] ∧ stuffE s = 4 ∧ stuffL s = []) := by
  by_cases h : restL s = []
  · exact .inl ⟨h, by unfold stuffE; rw [if_pos h]⟩
  · exact .inr ⟨h, by unfold stuffE; rw [if_neg h], by unfold stuffL; rw [if_neg h]⟩

theorem place_in (a : Int) (n : Nat) (h0 : 0 < n) (hn : n ≤ 10000000) : ∃ p : Nat, wrap64 ((IntKind.u64.wrap a).tmod (n : Int)) = (p : Int) ∧ p < n := by
  obtain ⟨u, hu⟩ : ∃ u : Nat, IntKind.u64.wrap a = (u : Int) := ⟨(a % 18446744073709551616).toNat, by
    have h1 : IntKind.u64.wrap a = a % 18446744073709551616 := by unfold IntKind.wrap; simp [IntKind.bits, IntKind.signed]
    omega⟩
  have hm : u % n < n := Nat.mod_lt _ h0
  refine ⟨u % n, ?_, hm⟩
  rw [hu, show ((u : Int).tmod (n : Int)) = ((u % n : Nat) : Int) from rfl]
  exact IntWalk.wrap64_in _ ⟨by omega, by omega⟩

theorem items_count (s : List UInt8) : dotsL s ≤ s.length := by
  unfold dotsL
  have h1 := List.countP_le_length (p := dotB) (l := (itemsL s).map (·.1))
  have h2 := items_len s
  rw [List.length_map] at h1
  omega

set_option maxHeartbeats 16000000 in
theorem stuffLong_walk (sb : ByteArray) (a : Int) (hz : sb.size ≤ 1048576) (w : World) (hM : ML w) :
    Calls Try.prog 6 #[.string sb, .int .i64 a] w fun e w' => e = .returned (.bool true) ∧ Below w.heap.size w w' := by
  obtain ⟨s, rfl, hs'⟩ := to_str sb
  have HB0 := BL.start hM
  have hl : s.length ≤ 1048576 := by omega
  clear hM hs' hz
  rcases stuff_ways s with ⟨h0, he⟩ | ⟨h0, he, hx⟩
  · obtain ⟨x, hx⟩ : ∃ x, x = stuffL s := ⟨_, rfl⟩
    have HS := Lib.hid (stuffB HB0 s (by omega) hx.symm he)
    by_cases h4 : 4000 < s.length
    · have h4' : (4000 : Int) < (s.length : Int) := by omega
      clear h0 he hx h4
      go_enter Try.func6, Try.ntmps6
      go_wp2_with fail
      refine HS.out.mono ?_
      rintro e w1 ⟨rfl, h1⟩
      go_wp2_with fail
      refine (worksB h1).mono ?_
      rintro e w2 ⟨rfl, h2⟩
      go_wp2_with fail
      refine (worksB h2).mono ?_
      rintro e w3 ⟨rfl, h3⟩
      go_wp2
      go_ret
      exact ⟨rfl, h3.1⟩
    · have hxl : x.length = s.length + dotsL s + 3 := by rw [hx]; exact stuff_len h0
      have hnl := items_count s
      obtain ⟨n, hn⟩ : ∃ n, n = dotsL s := ⟨_, rfl⟩
      rw [← hn] at hxl hnl
      have hx1 : 3 ≤ x.length := by omega
      have hx2 : x.length ≤ 10000 := by omega
      obtain ⟨p, hp, hpl⟩ := place_in a x.length (by omega) (by omega)
      have hW := fun (w1 : World) (h : BL w w1) => wholeB h x (by omega) (b := true) (by rw [hx]; exact stuff_whole h0)
      have hP := fun (w1 : World) (h : BL w w1) => wholeB h (x.take p) (by simp; omega) (b := false) (by rw [hx]; exact not_whole h0 (by rw [← hx]; exact hpl))
      have hQ := fun (w1 : World) (h : BL w w1) => wholeB h (x.take (x.length - 1)) (by simp; omega) (b := false) (by rw [hx]; exact not_whole h0 (by rw [← hx]; omega))
      have hD := fun (w1 : World) (h : BL w w1) => dotsB h s (by omega) hn.symm
      have HW := Lib.hid hW
      have HP := Lib.hid hP
      have HQ := Lib.hid hQ
      have HD := Lib.hid hD
      have hT : (((x.length : Nat) : Int) = (s.length : Int) + (n : Int) + 3) = True := by simp; omega
      have HPP := Lib.hid hp
      have HTB := Lib.hid (show (((x.length : Nat) : Int) == (s.length : Int) + (n : Int) + 3) = true by simp; omega)
      have hl4 : ¬ (4000 : Int) < (s.length : Int) := by omega
      have eP : (str x).extract 0 p = str (x.take p) := by rw [str_extract]; rfl
      have eQ : (str x).extract 0 (x.length - 1) = str (x.take (x.length - 1)) := by rw [str_extract]; rfl
      clear hW hP hQ hD hp hxl hn hx h0 he h4
      go_enter Try.func6, Try.ntmps6
      go_wp2_with fail
      refine HS.out.mono ?_
      rintro e w1 ⟨rfl, h1⟩
      go_wp2_with fail
      refine (worksB h1).mono ?_
      rintro e w2 ⟨rfl, h2⟩
      go_wp2_with fail
      rw [HPP.out]
      refine (HD.out _ h2).mono ?_
      rintro e w3 ⟨rfl, h3⟩
      go_wp2_with fail
      refine (HW.out _ h3).mono ?_
      rintro e w4 ⟨rfl, h4⟩
      go_wp2_with fail
      refine (HP.out _ h4).mono ?_
      rintro e w5 ⟨rfl, h5⟩
      go_wp2_with fail
      refine (HQ.out _ h5).mono ?_
      rintro e w6 ⟨rfl, h6⟩
      go_wp2
      go_ret
      exact ⟨congrArg (fun b => Ending.returned (Value.bool b)) HTB.out, h6.1⟩
  · have HS := Lib.hid (stuffB HB0 s (by omega) hx he)
    have HH : (4000 : Int) < (s.length : Int) ∨ ¬ (4000 : Int) < (s.length : Int) := Classical.em _
    clear h0 he hx
    rcases HH with h4 | h4
    all_goals
      go_enter Try.func6, Try.ntmps6
      go_wp2_with fail
      refine HS.out.mono ?_
      rintro e w1 ⟨rfl, h1⟩
      go_wp2_with fail
      refine (worksB h1).mono ?_
      rintro e w2 ⟨rfl, h2⟩
      go_wp2_with fail
      refine (worksB h2).mono ?_
      rintro e w3 ⟨rfl, h3⟩
      go_wp2
      go_ret
      exact ⟨rfl, h3.1⟩
end Go.Proofs.Ytjbjbbbhcncfnaa
