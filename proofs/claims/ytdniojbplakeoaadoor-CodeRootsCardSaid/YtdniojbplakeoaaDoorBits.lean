/-
  Plain functions on lists of bits: what is gathered of them in groups of k ('emit'), what is left ('rest'); hexadecimal and base64 by their bits, there and back.
  No program is imported here; no condition.
-/
import Derived.Lib.Bytealg
import Derived.Lib.Strings
namespace Go.Proofs.YtdniojbplakeoaaDoor

/-- The n lower bits of v, the upper ones first. -/
def bitsN : Nat → Nat → List Bool
  | 0, _ => []
  | n + 1, v => v.testBit n :: bitsN n v

/-- The number of bits, the upper ones first. -/
def num : List Bool → Nat
  | [] => 0
  | b :: l => b.toNat * 2 ^ l.length + num l

theorem bitsN_length (n v : Nat) : (bitsN n v).length = n := by
  induction n with
  | zero => rfl
  | succ n ih => simp [bitsN, ih]

theorem num_append (a b : List Bool) : num (a ++ b) = num a * 2 ^ b.length + num b := by
  induction a with
  | nil => simp [num]
  | cons x a ih =>
    rw [List.cons_append, num, num, ih, List.length_append, Nat.pow_add, Nat.add_mul, Nat.mul_assoc, Nat.add_assoc]

theorem num_lt (l : List Bool) : num l < 2 ^ l.length := by
  induction l with
  | nil => simp [num]
  | cons b l ih =>
    rw [num, List.length_cons, Nat.pow_succ]
    cases b <;> simp <;> omega

theorem num_bitsN (n v : Nat) : num (bitsN n v) = v % 2 ^ n := by
  induction n with
  | zero => simp [bitsN, num, Nat.mod_one]
  | succ n ih =>
    rw [bitsN, num, ih, bitsN_length, Nat.pow_succ, Nat.mod_mul]
    rw [Nat.toNat_testBit, Nat.mul_comm (2 ^ n), Nat.add_comm]

theorem num_bitsN_lt {n v : Nat} (h : v < 2 ^ n) : num (bitsN n v) = v := by
  rw [num_bitsN, Nat.mod_eq_of_lt h]

theorem num_inj : ∀ {a b : List Bool}, a.length = b.length → num a = num b → a = b
  | [], [], _, _ => rfl
  | [], _ :: _, h, _ => by simp at h
  | _ :: _, [], h, _ => by simp at h
  | x :: a, y :: b, h, e => by
    have hl : a.length = b.length := by simpa using h
    have ha := num_lt a
    have hb := num_lt b
    rw [num, num, hl] at e
    rw [hl] at ha
    have hx : x = y ∧ num a = num b := by
      cases x <;> cases y <;> simp at e ⊢ <;> omega
    rw [hx.1, num_inj hl hx.2]

theorem bitsN_num (l : List Bool) : bitsN l.length (num l) = l :=
  num_inj (bitsN_length _ _) (num_bitsN_lt (num_lt l))

theorem num_false {l : List Bool} : num l = 0 ↔ l = List.replicate l.length false := by
  constructor
  · intro h
    refine num_inj (by simp) ?_
    rw [h]
    generalize l.length = n
    induction n with
    | zero => rfl
    | succ n ih => simp [List.replicate_succ, num, ← ih]
  · intro h
    rw [h]
    generalize l.length = n
    induction n with
    | zero => rfl
    | succ n ih => simp [List.replicate_succ, num, ih]

/-- n groups of k bits. -/
def emitN (k : Nat) : Nat → List Bool → List Nat
  | 0, _ => []
  | n + 1, l => num (l.take k) :: emitN k n (l.drop k)

/-- All groups of k bits that are whole; what is left. -/
def emit (k : Nat) (l : List Bool) : List Nat := emitN k (l.length / k) l
def rest (k : Nat) (l : List Bool) : List Bool := l.drop (l.length / k * k)

theorem emitN_length (k n : Nat) (l : List Bool) : (emitN k n l).length = n := by
  induction n generalizing l with
  | zero => rfl
  | succ n ih => simp [emitN, ih]

theorem emit_length (k : Nat) (l : List Bool) : (emit k l).length = l.length / k := emitN_length _ _ _

theorem emitN_snoc (k n : Nat) (l : List Bool) : emitN k (n + 1) l = emitN k n l ++ [num ((l.drop (n * k)).take k)] := by
  induction n generalizing l with
  | zero => simp [emitN]
  | succ n ih =>
    rw [emitN, ih, emitN, List.cons_append, List.drop_drop]
    congr 5
    rw [Nat.succ_mul, Nat.add_comm]

theorem emit_short {k : Nat} {l : List Bool} (h : l.length < k) : emit k l = [] ∧ rest k l = l := by
  unfold emit rest
  rw [Nat.div_eq_of_lt h]
  simp [emitN]

theorem emit_step {k : Nat} {a l : List Bool} (h : a.length = k) (hk : 0 < k) : emit k (a ++ l) = num a :: emit k l ∧ rest k (a ++ l) = rest k l := by
  unfold emit rest
  have e : (a ++ l).length / k = l.length / k + 1 := by
    rw [List.length_append, h, Nat.add_comm, Nat.add_div_right _ hk]
  rw [e, emitN]
  refine ⟨?_, ?_⟩
  · rw [List.take_left' h, List.drop_left' h]
  · rw [Nat.succ_mul, Nat.add_comm, ← List.drop_drop, List.drop_left' h]

/-- By groups: one is taken off, or too few are there. -/
theorem emit_induct {k : Nat} (hk : 0 < k) {P : List Bool → Prop} (h0 : ∀ l, l.length < k → P l) (h1 : ∀ a l, a.length = k → P l → P (a ++ l)) (l : List Bool) : P l := by
  generalize hn : l.length = n
  induction n using Nat.strongRecOn generalizing l with
  | _ n ih =>
    by_cases h : l.length < k
    · exact h0 l h
    · have e : l = l.take k ++ l.drop k := (List.take_append_drop k l).symm
      rw [e]
      exact h1 _ _ (by rw [List.length_take]; omega) (ih (l.drop k).length (by rw [List.length_drop]; omega) _ rfl)

theorem rest_lt {k : Nat} (hk : 0 < k) (l : List Bool) : (rest k l).length < k := by
  refine emit_induct hk (P := fun l => (rest k l).length < k) (fun l h => ?_) (fun a l ha h => ?_) l
  · rw [(emit_short h).2]; exact h
  · rw [(emit_step ha hk).2]; exact h

theorem emit_append {k : Nat} (hk : 0 < k) (l m : List Bool) : emit k (l ++ m) = emit k l ++ emit k (rest k l ++ m) ∧ rest k (l ++ m) = rest k (rest k l ++ m) := by
  refine emit_induct hk (P := fun l => emit k (l ++ m) = emit k l ++ emit k (rest k l ++ m) ∧ rest k (l ++ m) = rest k (rest k l ++ m)) (fun l h => ?_) (fun a l ha h => ?_) l
  · rw [(emit_short h).1, (emit_short h).2]; simp
  · rw [List.append_assoc, (emit_step ha hk).1, (emit_step ha hk).2, (emit_step ha hk).1, (emit_step ha hk).2, h.1, h.2]; simp

theorem rest_length {k : Nat} (hk : 0 < k) (l : List Bool) : (rest k l).length = l.length % k := by
  refine emit_induct hk (P := fun l => (rest k l).length = l.length % k) (fun l h => ?_) (fun a l ha h => ?_) l
  · rw [(emit_short h).2, Nat.mod_eq_of_lt h]
  · rw [(emit_step ha hk).2, h, List.length_append, ha]; simp

theorem rest_nil {k : Nat} (hk : 0 < k) {l : List Bool} (h : l.length % k = 0) : rest k l = [] :=
  List.eq_nil_of_length_eq_zero (by rw [rest_length hk, h])

/-- Numbers, k bits each, one behind the other. -/
def bitsK (k : Nat) (l : List Nat) : List Bool := l.flatMap (bitsN k)

theorem bitsK_length (k : Nat) (l : List Nat) : (bitsK k l).length = k * l.length := by
  induction l with
  | nil => rfl
  | cons x l ih =>
    rw [bitsK, List.flatMap_cons, List.length_append, bitsN_length, ← bitsK, ih, List.length_cons, Nat.mul_succ]; omega

theorem bitsK_append (k : Nat) (a b : List Nat) : bitsK k (a ++ b) = bitsK k a ++ bitsK k b := by simp [bitsK]
theorem bitsK_one (k a : Nat) : bitsK k [a] = bitsN k a := by simp [bitsK]

theorem emit_bitsK {k : Nat} (hk : 0 < k) {l : List Nat} (h : ∀ x ∈ l, x < 2 ^ k) (m : List Bool) : emit k (bitsK k l ++ m) = l ++ emit k m ∧ rest k (bitsK k l ++ m) = rest k m := by
  induction l with
  | nil => simp [bitsK]
  | cons x l ih =>
    have i := ih (fun y hy => h y (List.mem_cons_of_mem _ hy))
    rw [bitsK, List.flatMap_cons, ← bitsK, List.append_assoc, (emit_step (bitsN_length k x) hk).1, (emit_step (bitsN_length k x) hk).2, i.1, i.2, num_bitsN_lt (h x (by simp))]
    simp

theorem emit_lt (k : Nat) (hk : 0 < k) (l : List Bool) : ∀ x ∈ emit k l, x < 2 ^ k := by
  refine emit_induct hk (P := fun l => ∀ x ∈ emit k l, x < 2 ^ k) (fun l h => ?_) (fun a l ha h => ?_) l
  · rw [(emit_short h).1]; simp
  · rw [(emit_step ha hk).1]
    intro x hx
    rcases List.mem_cons.1 hx with rfl | hx
    · have := num_lt a; rwa [ha] at this
    · exact h x hx

theorem bitsK_emit {k : Nat} (hk : 0 < k) (l : List Bool) : bitsK k (emit k l) ++ rest k l = l := by
  refine emit_induct hk (P := fun l => bitsK k (emit k l) ++ rest k l = l) (fun l h => ?_) (fun a l ha h => ?_) l
  · rw [(emit_short h).1, (emit_short h).2]; rfl
  · rw [(emit_step ha hk).1, (emit_step ha hk).2, bitsK, List.flatMap_cons, ← bitsK, List.append_assoc, h]
    congr 1
    have := bitsN_num a
    rwa [ha] at this

/-! ### Bytes -/

def nats (s : List UInt8) : List Nat := s.map UInt8.toNat
theorem nats_lt (s : List UInt8) : ∀ x ∈ nats s, x < 2 ^ 8 := by
  intro x hx
  obtain ⟨c, _, rfl⟩ := List.mem_map.1 hx
  exact c.toNat_lt
theorem nats_append (a b : List UInt8) : nats (a ++ b) = nats a ++ nats b := List.map_append
theorem nats_length (a : List UInt8) : (nats a).length = a.length := List.length_map _
theorem ofNat_nats (s : List UInt8) : (nats s).map UInt8.ofNat = s := by
  rw [nats, List.map_map]
  conv => rhs; rw [← List.map_id s]
  apply List.map_congr_left
  intro c _
  simp

theorem nats_ofNat {l : List Nat} (h : ∀ x ∈ l, x < 2 ^ 8) : nats (l.map UInt8.ofNat) = l := by
  rw [nats, List.map_map]
  conv => rhs; rw [← List.map_id l]
  apply List.map_congr_left
  intro x hx
  simp [Nat.mod_eq_of_lt (h x hx)]

def bits8 (s : List UInt8) : List Bool := bitsK 8 (nats s)
theorem bits8_length (s : List UInt8) : (bits8 s).length = 8 * s.length := by rw [bits8, bitsK_length, nats_length]
theorem bits8_append (a b : List UInt8) : bits8 (a ++ b) = bits8 a ++ bits8 b := by rw [bits8, nats_append, bitsK_append]; rfl

/-- Bits as bytes. -/
def bytesOf (l : List Bool) : List UInt8 := (emit 8 l).map UInt8.ofNat
theorem bytesOf_bits8 (s : List UInt8) (m : List Bool) (h : m.length < 8) : bytesOf (bits8 s ++ m) = s := by
  unfold bytesOf bits8
  rw [(emit_bitsK (by decide) (nats_lt s) m).1, (emit_short h).1, List.append_nil, ofNat_nats]
theorem bits8_bytesOf (l : List Bool) : bits8 (bytesOf l) ++ rest 8 l = l := by
  unfold bytesOf bits8
  rw [nats_ofNat (emit_lt 8 (by decide) l)]
  exact bitsK_emit (by decide) l

/-! ### Signs -/

def sixteen : List UInt8 := [48, 49, 50, 51, 52, 53, 54, 55, 56, 57, 97, 98, 99, 100, 101, 102]
def letters : List UInt8 := [65, 66, 67, 68, 69, 70, 71, 72, 73, 74, 75, 76, 77, 78, 79, 80, 81, 82, 83, 84, 85, 86, 87, 88, 89, 90, 97, 98, 99, 100, 101, 102, 103, 104, 105, 106, 107, 108, 109, 110, 111, 112, 113, 114, 115, 116, 117, 118, 119, 120, 121, 122, 48, 49, 50, 51, 52, 53, 54, 55, 56, 57, 43, 47]

/-- Signs of k bits: 2 to the k of them, no two the same. -/
structure Signs (k : Nat) (S : List UInt8) : Prop where
  pos : 0 < k
  le : k ≤ 8
  length : S.length = 2 ^ k
  index : ∀ i, i < 2 ^ k → Lib.indexByte S (S.getD i 0) = i

theorem signs16 : Signs 4 sixteen := ⟨by decide, by decide, by decide, by decide⟩
theorem signs64 : Signs 6 letters := ⟨by decide, by decide, by decide +kernel, by decide +kernel⟩

/-- The signs of the groups of k bits. -/
def spellL (k : Nat) (S : List UInt8) (l : List Bool) : List UInt8 := (emit k l).map (S.getD · 0)

/-- The place of each sign. -/
def idx (S s : List UInt8) : List Nat := s.map fun c => (Lib.indexByte S c).toNat
/-- Is each one of the signs? -/
def allIn (S s : List UInt8) : Prop := ∀ c ∈ s, 0 ≤ Lib.indexByte S c

theorem idx_append (S a b : List UInt8) : idx S (a ++ b) = idx S a ++ idx S b := List.map_append
theorem idx_length (S a : List UInt8) : (idx S a).length = a.length := List.length_map _
theorem spellL_length (k : Nat) (S : List UInt8) (l : List Bool) : (spellL k S l).length = l.length / k := by rw [spellL, List.length_map, emit_length]

theorem indexByte_lt (S : List UInt8) (c : UInt8) : Lib.indexByte S c < S.length := by
  induction S with
  | nil => simp [Lib.indexByte]
  | cons x S ih =>
    simp only [Lib.indexByte, List.length_cons]
    repeat' split
    all_goals omega

theorem indexByte_get (S : List UInt8) (c : UInt8) (h : 0 ≤ Lib.indexByte S c) : S.getD (Lib.indexByte S c).toNat 0 = c := by
  induction S with
  | nil => simp [Lib.indexByte] at h
  | cons x S ih =>
    simp only [Lib.indexByte] at h ⊢
    split
    · rename_i e; simpa using e
    · rename_i e
      rw [if_neg e] at h
      split
      · rename_i e'
        rw [if_pos e'] at h
        omega
      · rename_i e'
        rw [if_neg e'] at h
        have hg := Lib.indexByte_ge S c
        have hne : Lib.indexByte S c ≠ -1 := by simpa using e'
        have := ih (by omega)
        rw [show (Lib.indexByte S c + 1).toNat = (Lib.indexByte S c).toNat + 1 by omega]
        simpa using this

theorem idx_spell {k : Nat} {S : List UInt8} (h : Signs k S) {l : List Nat} (hl : ∀ x ∈ l, x < 2 ^ k) : idx S (l.map (S.getD · 0)) = l ∧ allIn S (l.map (S.getD · 0)) := by
  constructor
  · rw [idx, List.map_map]
    conv => rhs; rw [← List.map_id l]
    apply List.map_congr_left
    intro x hx
    have := h.index x (hl x hx)
    simp only [Function.comp_apply, id]
    omega
  · intro c hc
    obtain ⟨x, hx, rfl⟩ := List.mem_map.1 hc
    have := h.index x (hl x hx)
    omega

theorem spell_idx {S s : List UInt8} (h : allIn S s) : (idx S s).map (S.getD · 0) = s := by
  rw [idx, List.map_map]
  conv => rhs; rw [← List.map_id s]
  apply List.map_congr_left
  intro c hc
  exact indexByte_get S c (h c hc)

theorem idx_lt {k : Nat} {S : List UInt8} (h : Signs k S) (s : List UInt8) : ∀ x ∈ idx S s, x < 2 ^ k := by
  intro x hx
  obtain ⟨c, _, rfl⟩ := List.mem_map.1 hx
  have := indexByte_lt S c
  have h0 : 0 < 2 ^ k := Nat.two_pow_pos k
  rw [h.length] at this
  omega

end Go.Proofs.YtdniojbplakeoaaDoor
