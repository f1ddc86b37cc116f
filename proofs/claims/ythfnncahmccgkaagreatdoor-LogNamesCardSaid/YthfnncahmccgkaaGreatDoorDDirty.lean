/-
  (*Disk).Dirty: the dirty sectors, rising, in a row of the call's own.
-/
import Derived.Test.YthfnncahmccgkaaGreatDoorDShelf
import Derived.Test.YthfnncahmccgkaaGreatDoorDProg
namespace Go.Proofs.YthfnncahmccgkaaGreatDoor
open Go Go.RowKit Go.Maps Go.Sort Go.Shelf
set_option maxRecDepth 100000
set_option linter.unusedSimpArgs false
set_option linter.unusedVariables false

/-- The dirty sectors' numbers. -/
def dL (wet : List Bool) : List Int := (dirtyL wet).map (fun i : Nat => (i : Int))
theorem dL_length (wet : List Bool) : (dL wet).length = (dirtyL wet).length := by simp [dL]
theorem dL_sorted (wet : List Bool) : (dL wet).Pairwise (fun a b => a < b) := by
  unfold dL dirtyL
  rw [List.pairwise_map]
  have : (List.range wet.length).Pairwise (fun a b => a < b) := List.pairwise_lt_range
  exact (this.filter _).imp (fun h => by omega)
theorem dL_mergeSort {ss : List Int} {wet : List Bool} (h : ss.Perm (dL wet)) : ss.mergeSort (fun x y => decide (x ≤ y)) = dL wet := by
  have tr : ∀ a b c : Int, leI a b = true → leI b c = true → leI a c = true := fun a b c h1 h2 => by simp only [leI, decide_eq_true_eq] at *; exact Int.le_trans h1 h2
  have to : ∀ a b : Int, (leI a b || leI b a) = true := fun a b => by simp only [leI, Bool.or_eq_true, decide_eq_true_eq]; exact Int.le_total a b
  refine List.Perm.eq_of_pairwise (le := fun a b => leI a b = true) (fun a b _ _ h1 h2 => ?_) (List.pairwise_mergeSort tr to ss) ((dL_sorted wet).imp (fun h => by simp [leI]; omega)) ((List.mergeSort_perm ss leI).trans h)
  simp only [leI, decide_eq_true_eq] at h1 h2
  exact Int.le_antisymm h1 h2
theorem dirF_some {S : DS} (h : S.Ok) (k : Int) : (dirF S k).isSome = true ↔ k ∈ dL S.wet := by
  unfold dirF dL
  rw [List.mem_map]
  constructor
  · intro hk
    split at hk
    · rename_i hc
      exact ⟨k.toNat, mem_dirtyL.2 ⟨by rw [h.hw]; omega, hc.2.2⟩, by omega⟩
    · cases hk
  · rintro ⟨i, hi, rfl⟩
    obtain ⟨h1, h2⟩ := mem_dirtyL.1 hi
    rw [h.hw] at h1
    rw [if_pos ⟨by omega, by omega, by simpa using h2⟩]
    rfl

set_option maxHeartbeats 1000000 in
theorem dirty_any {w : World} {p bl bd : Nat} {S : DS} (h : PD w p bl bd S) : Calls Tryz.prog 44 #[dp p] w fun e w' =>
    ∃ v, e = .returned v ∧ w'.ownsRow w.heap.size 3 1 v (dL S.wet).length ((dL S.wet).map encZ) ∧ Below w.heap.size w w' := by
  obtain ⟨c0, c1, c2, c3, c4, c5⟩ := h.cells
  have hok := h.ok
  obtain ⟨D, hown, hD, hK⟩ := h.dir
  have hkm := MP.keys_mem hown
  have hperm : (intKeys D).Perm (dL S.wet) := by
    refine (List.perm_ext_iff_of_nodup hkm.1 ((dL_sorted S.wet).imp (fun h => by omega))).2 fun k => ?_
    rw [hkm.2, mp_has hD, dirF_some hok]
  have hsz : Maps.size D ≤ 1024 := hown.size_le
  have hbl := hown.lt
  refine (callsIn_wide (n := 6)).1 ?_
  have hseq : SeqGives Fence.wide 2 Tryz.prog 91 #[.pointer (some ⟨w.heap.size, 0, none⟩)] encZ (fun ss => ss.Perm (intKeys D)) (Maps.size D) (w.alloc (.cells #[.map (some bd)] 85)) :=
    AnyZI.keys_gives (ρ := Tryz.keysA_ren) { Tryz.keysA with } Fence.wide _ trivial rfl (by omega) w.heap.size bd 1024 D _ (by simp) (by simp) (by
      obtain ⟨es, clock, hb, Ft, hs, hD⟩ := hown
      exact ⟨es, clock, (Below.heap_alloc _ _ bd hbl).trans hb, Ft, hs, hD⟩)
  have cK : ∀ mb W, CallsIn Fence.wide 5 Tryz.prog 68 #[.map mb] W fun e w' => e = .returned (.func (.func 91) #[] #[.pointer (some ⟨W.heap.size, 0, none⟩)]) ∧ w' = W.alloc (.cells #[.map mb] 85) := fun mb W => AnyZI.keys_in Tryz.keysA Fence.wide 5 trivial rfl mb W
  have cS := AnyZI.sorted_in Tryz.sortedA Fence.wide 5 trivial trivial trivial trivial rfl (by omega) (sortsA _) (enters_of Tryz.func90 (by kernel_rfl) rfl) 91 #[.pointer (some ⟨w.heap.size, 0, none⟩)] trivial (enters_of Tryz.func91 (by kernel_rfl) rfl) _ _ (by unfold maxLen; omega) (by omega) _ hseq
  change CallsIn _ _ Tryz.prog 67 _ _ _ at cS
  have hfK : Fence.wide.fn 68 := trivial
  have hfS : Fence.wide.fn 67 := trivial
  have HP := Lib.hid hperm
  clear hperm hkm hK hD hok h hsz
  refine callsIn_of_wp Tryz.func44 rfl trivial ?_ rfl
  simp only [Tryz.ntmps44, List.size_toArray, List.length_cons, List.length_nil, Nat.reduceAdd, Nat.reduceSub, Array.replicate_succ, Array.replicate_zero, List.push_toArray, List.append_toArray, List.nil_append, List.cons_append]
  gi_wp2_with (first
    | (gi_at_call 68; refine (cK _ _).mono ?_; rintro e w' ⟨rfl, rfl⟩)
    | (gi_at_call 67; refine cS.mono ?_; rintro e w' ⟨v, ss, rfl, hS, hrow, hnil, hb⟩))
  go_ret
  have hl := hS.length_eq
  have h2 := hS.trans HP.out
  rw [dL_mergeSort h2, h2.length_eq] at hrow
  exact ⟨v, rfl, ownsRow_base_a hrow (by simp), ((Below.refl _ w).alloc (Nat.le_refl _) _).trans (hb.mono (by simp))⟩
end Go.Proofs.YthfnncahmccgkaaGreatDoor
