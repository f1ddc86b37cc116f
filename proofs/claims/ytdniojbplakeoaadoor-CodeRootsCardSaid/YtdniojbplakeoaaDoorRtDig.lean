/-
  Contracts of the reference's numbers of many digits: digit, above, digits.
-/
import Derived.Test.YtdniojbplakeoaaDoorRtBase
import Derived.Deep.AppendLies
import Derived.Laws.OwnMore
import Derived.Lib.BufferRead
import Derived.Test.YtdniojbplakeoaaDoorRtPure
namespace Go.Proofs.YtdniojbplakeoaaDoor
open Go Go.RowKit Go.Shelf
set_option maxRecDepth 100000

/-- A row of digits, wherever it lies. -/
def UR (W : World) (v : Value) (ds : List Nat) : Prop :=
  ∃ A c, v = .slice A ds.length c ∧ (ds = [] ∨ ∃ b, A = some ⟨b, 0, none⟩ ∧ b < W.heap.size ∧ ∀ k, ∀ h : k < ds.length, W.cell? ⟨b, k, none⟩ = some (.int .u64 (ds[k] : Int)))
theorem UR.below {W W' : World} {v : Value} {ds : List Nat} (h : UR W v ds) (hb : Below W.heap.size W W') : UR W' v ds := by
  obtain ⟨A, c, e, h⟩ := h
  exact ⟨A, c, e, h.imp id fun ⟨b, e, hl, hc⟩ => ⟨b, e, Nat.lt_of_lt_of_le hl hb.size, fun k hk => (hb.cell (p := ⟨b, k, none⟩) hl).trans (hc k hk)⟩⟩

theorem digit_any (ds : List Nat) (v : Value) (i : Nat) (w : World) (h : UR w v ds) : Calls Tryd.prog 73 #[v, .int .i64 (i : Int)] w fun e w' => e = .returned (.int .u64 (ds.getD i 0 : Nat)) ∧ w = w' := by
  obtain ⟨A, c, rfl, h⟩ := h
  by_cases hi : i < ds.length
  · obtain ⟨b, rfl, hl, hc⟩ : ∃ b, A = some ⟨b, 0, none⟩ ∧ b < w.heap.size ∧ ∀ k, ∀ h : k < ds.length, w.cell? ⟨b, k, none⟩ = some (.int .u64 (ds[k] : Int)) := by
      rcases h with rfl | h
      · simp at hi
      · exact h
    obtain ⟨d, hd⟩ : ∃ d, d = ds[i] := ⟨_, rfl⟩
    have q := hc i hi
    rw [← hd] at q
    have HD := Lib.hid (show ds.getD i 0 = d by rw [hd]; simp [List.getD, List.getElem?_eq_getElem hi])
    clear h hc hd
    go_enter Tryd.func73, Tryd.ntmps73
    go_wp2_with fail
    go_ret
    rw [HD.out]
    exact ⟨rfl, rfl⟩
  · have HD := Lib.hid (show ds.getD i 0 = 0 by simp [List.getD, List.getElem?_eq_none (show ds.length ≤ i by omega)])
    clear h
    go_enter Tryd.func73, Tryd.ntmps73
    go_wp2_with fail
    go_ret
    rw [HD.out]
    exact ⟨rfl, rfl⟩

set_option maxHeartbeats 2000000 in
theorem above_any (a b : List Nat) (u v : Value) (w : World) (ha : UR w u a) (hb : UR w v b) (la : ∀ d ∈ a, d ≤ 65535) (lb : ∀ d ∈ b, d ≤ 65535) (na : a.length ≤ 1000) (nb : b.length ≤ 1000) :
    Calls Tryd.prog 61 #[u, v] w fun e w' => e = .returned (.bool (decide (val b < val a))) ∧ w = w' := by
  have HA := Lib.hid (fun i => digit_any a u i w ha)
  have HB := Lib.hid (fun i => digit_any b v i w hb)
  have HLA := Lib.hid la; have HLB := Lib.hid lb
  have HV := Lib.hid (show low a (a.length + b.length + 1) = val a ∧ low b (a.length + b.length + 1) = val b from ⟨low_all a _ (by omega), low_all b _ (by omega)⟩)
  obtain ⟨A, c, rfl, -⟩ := ha
  obtain ⟨B, d, rfl, -⟩ := hb
  clear la lb
  go_enter Tryd.func61, Tryd.ntmps61
  go_wp2_with fail
  go_loopw [5] (fun i wr => ∃ k : Nat, k ≤ a.length + b.length + 1 ∧ i = .int .i64 ((k : Int) - 1) ∧ wr = w ∧ ∀ j, k ≤ j → j < a.length + b.length + 1 → a.getD j 0 = b.getD j 0) (fun i _ => (intOf i + 1).toNat)
  case atStart => exact ⟨a.length + b.length + 1, by omega, by go_num, rfl, fun j h1 h2 => by omega⟩
  case round =>
    obtain ⟨k, hk, rfl, rfl, he⟩ := hrel
    have HE := Lib.hid he
    clear he
    rcases Nat.eq_zero_or_pos k with rfl | hp
    · have HF := Lib.hid (show decide (val b < val a) = false by
        rw [← HV.out.1, ← HV.out.2, same_all a b _ (fun j hj => HE.out j (by omega) hj)]; simp)
      go_wp2_with fail
      go_ret
      rw [HF.out]
      exact ⟨rfl, rfl⟩
    · obtain ⟨i, rfl⟩ : ∃ i, k = i + 1 := ⟨k - 1, by omega⟩
      obtain ⟨x, hx⟩ : ∃ x, x = a.getD i 0 := ⟨_, rfl⟩
      obtain ⟨y, hy⟩ : ∃ y, y = b.getD i 0 := ⟨_, rfl⟩
      have ca := HA.out i
      have cb := HB.out i
      rw [← hx] at ca
      rw [← hy] at cb
      have CA := Lib.hid ca; have CB := Lib.hid cb
      have HXX := Lib.hid hx; have HYY := Lib.hid hy
      have ei : (((i + 1 : Nat) : Int) - 1) = (i : Int) := by omega
      rw [ei]
      clear ca cb hx hy ei hp
      by_cases hxy : x = y
      · subst hxy
        go_wp2_with fail
        refine (CA.out).mono ?_
        rintro e w1 ⟨rfl, rfl⟩
        go_wp2_with fail
        refine (CB.out).mono ?_
        rintro e w1 ⟨rfl, rfl⟩
        go_wp2_with fail
        go_roundw
        case rel => exact ⟨i, by omega, by go_num, trivial, fun j h1 h2 => by
          rcases Nat.eq_or_lt_of_le h1 with rfl | h1
          · rw [← HXX.out, ← HYY.out]
          · exact HE.out j h1 h2⟩
        case measure => simp [intOf]
      · have hne : ((x : Int) != (y : Int)) = true := by simp; omega
        have HF := Lib.hid (show decide (val b < val a) = decide (y < x) by
          rw [← HV.out.1, ← HV.out.2]
          rcases Nat.lt_or_gt_of_ne hxy with h | h
          · have := above_at b a HLA.out i (a.length + b.length + 1) (by omega) (fun j h1 h2 => (HE.out j h1 h2).symm) (by rw [← HXX.out, ← HYY.out]; exact h)
            rw [decide_eq_false (by omega), decide_eq_false (by omega)]
          · have := above_at a b HLB.out i (a.length + b.length + 1) (by omega) (fun j h1 h2 => HE.out j h1 h2) (by rw [← HXX.out, ← HYY.out]; exact h)
            rw [decide_eq_true (by omega), decide_eq_true (by omega)])
        go_wp2_with fail
        refine (CA.out).mono ?_
        rintro e w1 ⟨rfl, rfl⟩
        go_wp2_with fail
        refine (CB.out).mono ?_
        rintro e w1 ⟨rfl, rfl⟩
        go_wp2_with fail
        refine (CA.out).mono ?_
        rintro e w1 ⟨rfl, rfl⟩
        go_wp2_with fail
        refine (CB.out).mono ?_
        rintro e w1 ⟨rfl, rfl⟩
        go_wp2_with fail
        go_ret
        rw [HF.out]
        exact ⟨rfl, rfl⟩

/-- The four digits of a number. -/
def digs (n : Nat) : List Nat := [n % 65536, n / 65536 % 65536, n / 65536 / 65536 % 65536, n / 65536 / 65536 / 65536]
theorem digs_val (n : Nat) : val (digs n) = n := by simp only [digs, val]; omega
theorem digs_le (n : Nat) (h : n < 18446744073709551616) : ∀ d ∈ digs n, d ≤ 65535 := by
  intro d hd
  simp only [digs, List.mem_cons, List.mem_nil_iff, or_false] at hd
  rcases hd with rfl | rfl | rfl | rfl <;> omega
theorem digits_any (n : Nat) (w : World) (h : n < 18446744073709551616) : Calls Tryd.prog 59 #[.int .u64 (n : Int)] w fun e w' => ∃ v, e = .returned v ∧ UR w' v (digs n) ∧ Below w.heap.size w w' := by
  go_enter Tryd.func59, Tryd.ntmps59
  go_wp2_with fail
  go_ret
  refine ⟨_, rfl, ⟨some ⟨w.heap.size, 0, none⟩, 4, rfl, .inr ⟨w.heap.size, rfl, by simp, fun k hk => ?_⟩⟩, below_alloc _ _⟩
  rw [cellAt (heap_alloc_new w _)]
  match k, hk with
  | 0, _ => rfl
  | 1, _ => rfl
  | 2, _ => rfl
  | 3, _ => rfl
end Go.Proofs.YtdniojbplakeoaaDoor
