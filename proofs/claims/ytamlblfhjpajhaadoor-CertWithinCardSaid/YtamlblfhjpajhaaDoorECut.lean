/-
  The contracts of cutNumber, cutLength.
-/
import Derived.OwnWalk
import Derived.Test.YtamlblfhjpajhaaDoorEInts
namespace Go.Proofs.YtamlblfhjpajhaaDoor
set_option linter.unusedSimpArgs false
set_option linter.unusedVariables false
open Go Go.RowKit
set_option maxRecDepth 100000

theorem numI_numF (n : Nat) (l : List UInt8) : numI (n : Int) l = (numF n l : Nat) := by
  induction l generalizing n with
  | nil => rfl
  | cons b l ih =>
    have := ih (n * 256 + b.toNat)
    rw [numF, ← this]
    show numI ((n : Int) * 256 + b.toNat) l = _
    congr 1
/-- What cutLength tells. -/
def clV : Rd (Nat × List UInt8) → Value
  | .ok (n, r) => .tuple #[.int .i64 (n : Int), sv r, .int .i64 0]
  | .er e => .tuple #[.int .i64 0, sv [], .int .i64 (e : Int)]

set_option maxHeartbeats 4000000 in
theorem cutNumber_any {w : World} (s : List UInt8) (many : Nat) (least : UInt8) (hm : many ≤ 2) (hs : s.length ≤ 9223372036854775807) :
    Calls Tryd.prog 89 #[sv s, .int .i64 many, .int .u8 (least.toNat : Int)] w fun e w' => e = .returned (clV (cutNum s many least.toNat)) ∧ Below w.heap.size w w' := by
  have hsz := str_size s
  have HE0 : s.length = 0 → s.isEmpty = true := fun h => by rw [List.length_eq_zero_iff.1 h]; rfl
  by_cases h0 : 0 < s.length
  · obtain ⟨b, hb⟩ : ∃ b, b = s.getD 0 0 := ⟨_, rfl⟩
    have hx : (str s)[0]'(by rw [hsz]; exact h0) = b := by rw [str_getD s 0 h0, hb]
    have hem : s.isEmpty = false := by cases s with
      | nil => cases h0
      | cons _ _ => rfl
    by_cases h1 : b.toNat < least.toNat
    · have HC := Lib.hid (show cutNum s many least.toNat = .er 4 by unfold cutNum; rw [if_pos ⟨h0, by rw [← hb]; exact h1⟩])
      clear HE0 hb hs hm
      go_enter Tryd.func89, Tryd.ntmps89
      go_wp2_with fail
      go_ret3
      rw [HC.out]
      exact ⟨rfl, Below.refl _ _⟩
    · have h1' : decide ((b.toNat : Int) < (least.toNat : Int)) = false := by rw [decide_eq_false_iff_not]; omega
      by_cases h2 : s.length < many
      · have HC := Lib.hid (show cutNum s many least.toNat = .er 8 by unfold cutNum; rw [if_neg (fun h => h1 (by rw [hb]; exact h.2)), if_pos h2])
        clear HE0 hb hs hm
        go_enter Tryd.func89, Tryd.ntmps89
        go_wp2_with fail
        go_ret3
        rw [HC.out]
        exact ⟨rfl, Below.refl _ _⟩
      · have HC := Lib.hid (show cutNum s many least.toNat = .ok (numF 0 (s.take many), s.drop many) by unfold cutNum; rw [if_neg (fun h => h1 (by rw [hb]; exact h.2)), if_neg h2])
        have h3 : many ≤ s.length := by omega
        have HNU := Lib.hid (fun W => @number_any W 0 0 (s.take many) (by unfold fits; decide) (by rw [List.length_take]; omega))
        rw [show numI 0 (s.take many) = ((numF 0 (s.take many) : Nat) : Int) from numI_numF 0 _] at HNU
        have he1 : (str s).extract 0 many = str (s.take many) := by rw [str_extract]; simp
        have he2 : (str s).extract many s.length = str (s.drop many) := by rw [str_extract]; simp
        clear HE0 hb hs hm
        go_enter Tryd.func89, Tryd.ntmps89
        go_wp2_with fail
        go_region_with (go_at_call 47; refine (HNU.out _).mono ?_; rintro e w1 ⟨rfl, rfl⟩)
        all_goals
          go_wp2_with fail
          go_ret3
          rw [HC.out]
          exact ⟨rfl, (Below.refl _ _).drew⟩
  · obtain rfl : s = [] := List.length_eq_zero_iff.1 (by omega)
    by_cases h2 : many = 0
    · subst h2
      have HC := Lib.hid (show cutNum [] 0 least.toNat = .ok (0, []) by unfold cutNum; rw [if_neg (by simp), if_neg (by simp)]; rfl)
      have HNU := Lib.hid (fun W => @number_any W 0 0 [] (by unfold fits; decide) (by simp))
      clear HE0 hs hm h0
      go_enter Tryd.func89, Tryd.ntmps89
      go_wp2_with fail
      go_region_with (go_at_call 47; refine (HNU.out _).mono ?_; rintro e w1 ⟨rfl, rfl⟩)
      all_goals
        go_wp2_with fail
        go_ret3
        rw [HC.out]
        exact ⟨rfl, (Below.refl _ _).drew⟩
    · have HC := Lib.hid (show cutNum [] many least.toNat = .er 8 by unfold cutNum; rw [if_neg (by simp), if_pos (by simp; omega)])
      have h3 : 0 < many := by omega
      clear HE0 hs hm h0 h2
      go_enter Tryd.func89, Tryd.ntmps89
      go_wp2_with fail
      go_ret3
      rw [HC.out]
      exact ⟨rfl, Below.refl _ _⟩

end Go.Proofs.YtamlblfhjpajhaaDoor
