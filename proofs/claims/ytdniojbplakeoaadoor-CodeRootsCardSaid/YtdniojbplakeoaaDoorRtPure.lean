/-
  Numbers as digits of 16 bits, the least first: what a row of digits is worth.
-/
namespace Go.Proofs.YtdniojbplakeoaaDoor

def val : List Nat → Nat
  | [] => 0
  | d :: ds => d + 65536 * val ds

theorem val_set : ∀ (l : List Nat) (i : Nat) (h : i < l.length) (x : Nat), val (l.set i x) + l[i] * 65536 ^ i = val l + x * 65536 ^ i
  | d :: ds, 0, _, x => by simp [val]; omega
  | d :: ds, i + 1, h, x => by
    have ih := val_set ds i (by simpa using h) x
    simp only [List.set_cons_succ, val, List.getElem_cons_succ, Nat.pow_succ]
    have e1 : ds[i]'(by simpa using h) * (65536 ^ i * 65536) = 65536 * (ds[i]'(by simpa using h) * 65536 ^ i) := by rw [← Nat.mul_assoc, Nat.mul_comm]
    have e2 : x * (65536 ^ i * 65536) = 65536 * (x * 65536 ^ i) := by rw [← Nat.mul_assoc, Nat.mul_comm]
    rw [e1, e2]
    omega
theorem le_val : ∀ (l : List Nat) (i : Nat) (h : i < l.length), l[i] * 65536 ^ i ≤ val l
  | d :: ds, 0, _ => by simp [val]
  | d :: ds, i + 1, h => by
    have ih := le_val ds i (by simpa using h)
    simp only [val, List.getElem_cons_succ, Nat.pow_succ]
    have e1 : ds[i]'(by simpa using h) * (65536 ^ i * 65536) = 65536 * (ds[i]'(by simpa using h) * 65536 ^ i) := by rw [← Nat.mul_assoc, Nat.mul_comm]
    rw [e1]
    omega
theorem val_lt : ∀ (l : List Nat), (∀ d ∈ l, d ≤ 65535) → val l < 65536 ^ l.length
  | [], _ => by simp [val]
  | d :: ds, h => by
    have ih := val_lt ds (fun x hx => h x (List.mem_cons_of_mem _ hx))
    have hd := h d List.mem_cons_self
    simp only [val, List.length_cons, Nat.pow_succ]
    omega
theorem val_append : ∀ (a b : List Nat), val (a ++ b) = val a + 65536 ^ a.length * val b
  | [], b => by simp [val]
  | d :: ds, b => by
    have ih := val_append ds b
    simp only [List.cons_append, val, List.length_cons, Nat.pow_succ, ih]
    have e : 65536 ^ ds.length * 65536 * val b = 65536 * (65536 ^ ds.length * val b) := by rw [Nat.mul_comm (65536 ^ ds.length) 65536, Nat.mul_assoc]
    rw [e]
    omega
theorem val_take_succ (l : List Nat) (i : Nat) (h : i < l.length) : val (l.take (i + 1)) = val (l.take i) + l[i] * 65536 ^ i := by
  rw [List.take_succ_eq_append_getElem h, val_append, List.length_take, Nat.min_eq_left (by omega)]
  simp [val, Nat.mul_comm]
theorem val_zeros (n : Nat) : val (List.replicate n 0) = 0 := by
  induction n with
  | zero => rfl
  | succ n ih => rw [List.replicate_succ, val, ih]
/-- The digits below i. -/
def low (l : List Nat) (i : Nat) : Nat := val (l.take i)
theorem low_succ (l : List Nat) (i : Nat) : low l (i + 1) = low l i + l.getD i 0 * 65536 ^ i := by
  unfold low
  by_cases h : i < l.length
  · rw [val_take_succ l i h]; simp [List.getD, List.getElem?_eq_getElem h]
  · rw [List.take_of_length_le (by omega), List.take_of_length_le (by omega)]
    simp [List.getD, List.getElem?_eq_none (show l.length ≤ i by omega)]
theorem low_all (l : List Nat) (n : Nat) (h : l.length ≤ n) : low l n = val l := by unfold low; rw [List.take_of_length_le h]
theorem low_lt (l : List Nat) (hl : ∀ d ∈ l, d ≤ 65535) (i : Nat) : low l i < 65536 ^ i := by
  unfold low
  have h := val_lt (l.take i) (fun d hd => hl d (List.mem_of_mem_take hd))
  exact Nat.lt_of_lt_of_le h (Nat.pow_le_pow_right (by decide) (by rw [List.length_take]; omega))
/-- Where the digits above i are the same, the digit at i tells. -/
theorem above_at (a b : List Nat) (hb : ∀ d ∈ b, d ≤ 65535) (i n : Nat) (hi : i < n) (he : ∀ j, i < j → j < n → a.getD j 0 = b.getD j 0) (h : b.getD i 0 < a.getD i 0) : low b n < low a n := by
  have key : ∀ m, i < m → m ≤ n → low b m < low a m := by
    intro m
    induction m with
    | zero => intro h; omega
    | succ m ih =>
      intro h1 h2
      rw [low_succ, low_succ]
      rcases Nat.lt_or_ge i m with h3 | h3
      · rw [he m h3 (by omega)]
        have := ih h3 (by omega)
        omega
      · obtain rfl : i = m := by omega
        have hl := low_lt b hb i
        have hm : (b.getD i 0 + 1) * 65536 ^ i ≤ a.getD i 0 * 65536 ^ i := Nat.mul_le_mul_right _ h
        rw [Nat.add_mul] at hm
        omega
  exact key n hi (Nat.le_refl _)
theorem same_all (a b : List Nat) (n : Nat) (he : ∀ j, j < n → a.getD j 0 = b.getD j 0) : low a n = low b n := by
  induction n with
  | zero => simp [low, val]
  | succ n ih => rw [low_succ, low_succ, he n (by omega), ih (fun j hj => he j (by omega))]
end Go.Proofs.YtdniojbplakeoaaDoor
