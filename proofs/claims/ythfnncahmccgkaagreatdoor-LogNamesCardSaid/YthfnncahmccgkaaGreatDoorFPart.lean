/-
  Package frame's part.
-/
import Derived.Test.YthfnncahmccgkaaGreatDoorFRow
import Derived.Test.YthfnncahmccgkaaGreatDoorFGtM
namespace Go.Proofs.YthfnncahmccgkaaGreatDoor
set_option linter.unusedSimpArgs false
set_option linter.unusedVariables false
open Go Go.RowKit
set_option maxRecDepth 100000

def partT (l : List (List UInt8)) (i : Nat) (a p : Int) : List UInt8 := if partB l i a p then bodL (l.getD i []) else []
theorem partB_at {l : List (List UInt8)} {i : Nat} {a p : Int} (h : i < l.length) : partB l i a p = (isB (l.getD i []) && decide ((agL (l.getD i []) : Int) = a) && decide ((plL (l.getD i []) : Int) = p + i)) := by
  unfold partB
  rw [List.getD_eq_getElem?_getD, List.getElem?_eq_getElem h]
  rfl
theorem partB_out {l : List (List UInt8)} {i : Nat} {a p : Int} (h : ¬ i < l.length) : partB l i a p = false := by
  unfold partB
  rw [List.getElem?_eq_none (by omega)]
theorem wrap64_high {z : Int} (h0 : 9223372036854775807 < z) (h1 : z < 18446744073709551616) : wrap64 z < 0 := by unfold wrap64; omega

set_option maxHeartbeats 4000000 in
theorem part_any {w : World} (l : List (List UInt8)) (A : Option Addr) (c i : Nat) (a p : Int) (ht : Tx w A l) (hx : ∀ x ∈ l, x.length ≤ 9223372036854775807) (hl : l.length ≤ 140737488351232) (hi : i < 1000000000)
    (hp0 : -9223372036854775808 ≤ p) (hp1 : p ≤ 9223372036854775807) :
    Calls Tryz.prog 83 #[.slice A l.length c, .int .i64 i, .int .i64 a, .int .i64 p] w fun e w' => e = .returned (.tuple #[sv (partT l i a p), .bool (partB l i a p)]) ∧ Below w.heap.size w w' := by
  by_cases hlt : i < l.length
  · obtain ⟨b, o, rfl, hc⟩ := ht.cell hlt
    have hB := partB_at (a := a) (p := p) hlt
    have hxl : (l.getD i []).length ≤ 9223372036854775807 := by
      rw [List.getD_eq_getElem?_getD, List.getElem?_eq_getElem hlt]
      exact hx _ (List.getElem_mem hlt)
    have HT := Lib.hid (show partT l i a p = if partB l i a p then bodL (l.getD i []) else [] from rfl)
    obtain ⟨x, hxe⟩ : ∃ x, x = l.getD i [] := ⟨_, rfl⟩
    rw [← hxe] at hc hB hxl HT
    have GE := fun W => @get_any W x hxl
    obtain ⟨ag, hag⟩ : ∃ n, n = agL x := ⟨_, rfl⟩
    obtain ⟨pl, hpl⟩ : ∃ n, n = plL x := ⟨_, rfl⟩
    obtain ⟨bo, hbo⟩ : ∃ n, n = bodL x := ⟨_, rfl⟩
    rw [← hag, ← hpl] at hB GE
    rw [← hbo] at GE HT
    have hplt : pl < 4294967296 := by rw [hpl]; unfold plL; split; exact plN_lt _; omega
    have hlt' : ¬ ((l.length : Int) ≤ (i : Int)) := by omega
    have hgi : (i : Int) < (l.length : Int) := by omega
    clear hag hpl hbo hxe hxl hx ht
    cases his : isB x with
    | false =>
      rw [his] at GE hB
      have HF := Lib.hid (show partB l i a p = false by rw [hB]; simp)
      have HG := Lib.hid (show partT l i a p = [] by rw [HT.out, HF.out]; rfl)
      clear hB his
      go_enter Tryz.func83, Tryz.ntmps83
      go_wp2_with (go_at_call 62; refine (GE _).mono ?_; rintro e w9 ⟨rfl, hb9⟩)
      go_ret2
      exact ⟨by rw [HF.out, HG.out]; rfl, hb9⟩
    | true =>
      rw [his] at GE hB
      by_cases h1 : (ag : Int) = a
      · have h1' : ((ag : Int) != a) = false := by rw [h1]; simp
        by_cases h2 : (pl : Int) = p + i
        · have h2' : ((pl : Int) != p + i) = false := by rw [h2]; simp
          have hov : p + i ≤ 9223372036854775807 := by omega
          have hov2 : -9223372036854775808 ≤ p + i := by omega
          have HF := Lib.hid (show partB l i a p = true by rw [hB]; simp [h1, h2])
          have HG := Lib.hid (show partT l i a p = bo by rw [HT.out, HF.out]; rfl)
          clear hB his
          go_enter Tryz.func83, Tryz.ntmps83
          go_wp2_with (go_at_call 62; refine (GE _).mono ?_; rintro e w9 ⟨rfl, hb9⟩)
          go_ret2
          exact ⟨by rw [HF.out, HG.out]; rfl, hb9⟩
        · have HF := Lib.hid (show partB l i a p = false by rw [hB]; simp [h2])
          have HG := Lib.hid (show partT l i a p = [] by rw [HT.out, HF.out]; rfl)
          clear hB his
          by_cases hov : p + i ≤ 9223372036854775807
          · have h2' : ((pl : Int) != p + i) = true := by rw [bne_iff_ne]; exact h2
            have hov2 : -9223372036854775808 ≤ p + i := by omega
            clear h2
            go_enter Tryz.func83, Tryz.ntmps83
            go_wp2_with (go_at_call 62; refine (GE _).mono ?_; rintro e w9 ⟨rfl, hb9⟩)
            go_ret2
            exact ⟨by rw [HF.out, HG.out]; rfl, hb9⟩
          · have hw := wrap64_high (z := p + i) (by omega) (by omega)
            have h2' : ((pl : Int) != wrap64 (p + i)) = true := by rw [bne_iff_ne]; omega
            clear h2
            go_enter Tryz.func83, Tryz.ntmps83
            go_wp2_with (go_at_call 62; refine (GE _).mono ?_; rintro e w9 ⟨rfl, hb9⟩)
            go_ret2
            exact ⟨by rw [HF.out, HG.out]; rfl, hb9⟩
      · have h1' : ((ag : Int) != a) = true := by rw [bne_iff_ne]; exact h1
        have HF := Lib.hid (show partB l i a p = false by rw [hB]; simp [h1])
        have HG := Lib.hid (show partT l i a p = [] by rw [HT.out, HF.out]; rfl)
        clear hB his h1
        go_enter Tryz.func83, Tryz.ntmps83
        go_wp2_with (go_at_call 62; refine (GE _).mono ?_; rintro e w9 ⟨rfl, hb9⟩)
        go_ret2
        exact ⟨by rw [HF.out, HG.out]; rfl, hb9⟩
  · have hge : (l.length : Int) ≤ (i : Int) := by omega
    have HF := Lib.hid (show partB l i a p = false from partB_out hlt)
    have HG := Lib.hid (show partT l i a p = [] by rw [partT, HF.out]; rfl)
    clear ht hx
    go_enter Tryz.func83, Tryz.ntmps83
    go_wp2_with fail
    go_ret2
    exact ⟨by rw [HF.out, HG.out]; rfl, Below.refl _ _⟩
end Go.Proofs.YthfnncahmccgkaaGreatDoor
