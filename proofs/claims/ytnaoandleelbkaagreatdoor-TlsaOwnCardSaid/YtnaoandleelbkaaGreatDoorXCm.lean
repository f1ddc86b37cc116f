/-
  Plain functions on lists of bits: what is gathered of them in groups of k ('emit'), what is left ('rest'); hexadecimal and base64 by their bits, there and back.
  No program is imported here; no condition.
  Plain functions on lists of bytes: hexadecimal and base64, written and read; what was written is read as it was, what is read, written, is the text; the same by the reference's way of reading.
  No program is imported here; no condition.
-/
import Derived.Lib.Bytealg
import Derived.Lib.Strings
namespace Go.Proofs.YtnaoandleelbkaaGreatDoor.Hx

/-- The n lower bits of v, the upper ones first. -/
def bitsN : Nat → Nat → List Bool
  | 0, _ => []
  | n + 1, v => v.testBit n :: bitsN n v

/-- The number of bits, the upper ones first. -/
def num : List Bool → Nat
  | [] => 0
  | b :: l => b.toNat * 2 ^ l.length + num l

theorem bitsN_length (n v : Nat) : (bitsN n v).length = n := by
  induction n with
  | zero => rfl
  | succ n ih => simp [bitsN, ih]

theorem num_append (a b : List Bool) : num (a ++ b) = num a * 2 ^ b.length + num b := by
  induction a with
  | nil => simp [num]
  | cons x a ih =>
    rw [List.cons_append, num, num, ih, List.length_append, Nat.pow_add, Nat.add_mul, Nat.mul_assoc, Nat.add_assoc]

theorem num_lt (l : List Bool) : num l < 2 ^ l.length := by
  induction l with
  | nil => simp [num]
  | cons b l ih =>
    rw [num, List.length_cons, Nat.pow_succ]
    cases b <;> simp <;> omega

theorem num_bitsN (n v : Nat) : num (bitsN n v) = v % 2 ^ n := by
  induction n with
  | zero => simp [bitsN, num, Nat.mod_one]
  | succ n ih =>
    rw [bitsN, num, ih, bitsN_length, Nat.pow_succ, Nat.mod_mul]
    rw [Nat.toNat_testBit, Nat.mul_comm (2 ^ n), Nat.add_comm]

theorem num_bitsN_lt {n v : Nat} (h : v < 2 ^ n) : num (bitsN n v) = v := by
  rw [num_bitsN, Nat.mod_eq_of_lt h]

theorem num_inj : ∀ {a b : List Bool}, a.length = b.length → num a = num b → a = b
  | [], [], _, _ => rfl
  | [], _ :: _, h, _ => by simp at h
  | _ :: _, [], h, _ => by simp at h
  | x :: a, y :: b, h, e => by
    have hl : a.length = b.length := by simpa using h
    have ha := num_lt a
    have hb := num_lt b
    rw [num, num, hl] at e
    rw [hl] at ha
    have hx : x = y ∧ num a = num b := by
      cases x <;> cases y <;> simp at e ⊢ <;> omega
    rw [hx.1, num_inj hl hx.2]

theorem bitsN_num (l : List Bool) : bitsN l.length (num l) = l :=
  num_inj (bitsN_length _ _) (num_bitsN_lt (num_lt l))

theorem num_false {l : List Bool} : num l = 0 ↔ l = List.replicate l.length false := by
  constructor
  · intro h
    refine num_inj (by simp) ?_
    rw [h]
    generalize l.length = n
    induction n with
    | zero => rfl
    | succ n ih => simp [List.replicate_succ, num, ← ih]
  · intro h
    rw [h]
    generalize l.length = n
    induction n with
    | zero => rfl
    | succ n ih => simp [List.replicate_succ, num, ih]

/-- n groups of k bits. -/
def emitN (k : Nat) : Nat → List Bool → List Nat
  | 0, _ => []
  | n + 1, l => num (l.take k) :: emitN k n (l.drop k)

/-- All groups of k bits that are whole; what is left. -/
def emit (k : Nat) (l : List Bool) : List Nat := emitN k (l.length / k) l
def rest (k : Nat) (l : List Bool) : List Bool := l.drop (l.length / k * k)

theorem emitN_length (k n : Nat) (l : List Bool) : (emitN k n l).length = n := by
  induction n generalizing l with
  | zero => rfl
  | succ n ih => simp [emitN, ih]

theorem emit_length (k : Nat) (l : List Bool) : (emit k l).length = l.length / k := emitN_length _ _ _

theorem emitN_snoc (k n : Nat) (l : List Bool) : emitN k (n + 1) l = emitN k n l ++ [num ((l.drop (n * k)).take k)] := by
  induction n generalizing l with
  | zero => simp [emitN]
  | succ n ih =>
    rw [emitN, ih, emitN, List.cons_append, List.drop_drop]
    congr 5
    rw [Nat.succ_mul, Nat.add_comm]

theorem emit_short {k : Nat} {l : List Bool} (h : l.length < k) : emit k l = [] ∧ rest k l = l := by
  unfold emit rest
  rw [Nat.div_eq_of_lt h]
  simp [emitN]

theorem emit_step {k : Nat} {a l : List Bool} (h : a.length = k) (hk : 0 < k) : emit k (a ++ l) = num a :: emit k l ∧ rest k (a ++ l) = rest k l := by
  unfold emit rest
  have e : (a ++ l).length / k = l.length / k + 1 := by
    rw [List.length_append, h, Nat.add_comm, Nat.add_div_right _ hk]
  rw [e, emitN]
  refine ⟨?_, ?_⟩
  · rw [List.take_left' h, List.drop_left' h]
  · rw [Nat.succ_mul, Nat.add_comm, ← List.drop_drop, List.drop_left' h]

/-- By groups: one is taken off, or too few are there. -/
theorem emit_induct {k : Nat} (hk : 0 < k) {P : List Bool → Prop} (h0 : ∀ l, l.length < k → P l) (h1 : ∀ a l, a.length = k → P l → P (a ++ l)) (l : List Bool) : P l := by
  generalize hn : l.length = n
  induction n using Nat.strongRecOn generalizing l with
  | _ n ih =>
    by_cases h : l.length < k
    · exact h0 l h
    · have e : l = l.take k ++ l.drop k := (List.take_append_drop k l).symm
      rw [e]
      exact h1 _ _ (by rw [List.length_take]; omega) (ih (l.drop k).length (by rw [List.length_drop]; omega) _ rfl)

theorem rest_lt {k : Nat} (hk : 0 < k) (l : List Bool) : (rest k l).length < k := by
  refine emit_induct hk (P := fun l => (rest k l).length < k) (fun l h => ?_) (fun a l ha h => ?_) l
  · rw [(emit_short h).2]; exact h
  · rw [(emit_step ha hk).2]; exact h

theorem emit_append {k : Nat} (hk : 0 < k) (l m : List Bool) : emit k (l ++ m) = emit k l ++ emit k (rest k l ++ m) ∧ rest k (l ++ m) = rest k (rest k l ++ m) := by
  refine emit_induct hk (P := fun l => emit k (l ++ m) = emit k l ++ emit k (rest k l ++ m) ∧ rest k (l ++ m) = rest k (rest k l ++ m)) (fun l h => ?_) (fun a l ha h => ?_) l
  · rw [(emit_short h).1, (emit_short h).2]; simp
  · rw [List.append_assoc, (emit_step ha hk).1, (emit_step ha hk).2, (emit_step ha hk).1, (emit_step ha hk).2, h.1, h.2]; simp

theorem rest_length {k : Nat} (hk : 0 < k) (l : List Bool) : (rest k l).length = l.length % k := by
  refine emit_induct hk (P := fun l => (rest k l).length = l.length % k) (fun l h => ?_) (fun a l ha h => ?_) l
  · rw [(emit_short h).2, Nat.mod_eq_of_lt h]
  · rw [(emit_step ha hk).2, h, List.length_append, ha]; simp

theorem rest_nil {k : Nat} (hk : 0 < k) {l : List Bool} (h : l.length % k = 0) : rest k l = [] :=
  List.eq_nil_of_length_eq_zero (by rw [rest_length hk, h])

/-- Numbers, k bits each, one behind the other. -/
def bitsK (k : Nat) (l : List Nat) : List Bool := l.flatMap (bitsN k)

theorem bitsK_length (k : Nat) (l : List Nat) : (bitsK k l).length = k * l.length := by
  induction l with
  | nil => rfl
  | cons x l ih =>
    rw [bitsK, List.flatMap_cons, List.length_append, bitsN_length, ← bitsK, ih, List.length_cons, Nat.mul_succ]; omega

theorem bitsK_append (k : Nat) (a b : List Nat) : bitsK k (a ++ b) = bitsK k a ++ bitsK k b := by simp [bitsK]
theorem bitsK_one (k a : Nat) : bitsK k [a] = bitsN k a := by simp [bitsK]

theorem emit_bitsK {k : Nat} (hk : 0 < k) {l : List Nat} (h : ∀ x ∈ l, x < 2 ^ k) (m : List Bool) : emit k (bitsK k l ++ m) = l ++ emit k m ∧ rest k (bitsK k l ++ m) = rest k m := by
  induction l with
  | nil => simp [bitsK]
  | cons x l ih =>
    have i := ih (fun y hy => h y (List.mem_cons_of_mem _ hy))
    rw [bitsK, List.flatMap_cons, ← bitsK, List.append_assoc, (emit_step (bitsN_length k x) hk).1, (emit_step (bitsN_length k x) hk).2, i.1, i.2, num_bitsN_lt (h x (by simp))]
    simp

theorem emit_lt (k : Nat) (hk : 0 < k) (l : List Bool) : ∀ x ∈ emit k l, x < 2 ^ k := by
  refine emit_induct hk (P := fun l => ∀ x ∈ emit k l, x < 2 ^ k) (fun l h => ?_) (fun a l ha h => ?_) l
  · rw [(emit_short h).1]; simp
  · rw [(emit_step ha hk).1]
    intro x hx
    rcases List.mem_cons.1 hx with rfl | hx
    · have := num_lt a; rwa [ha] at this
    · exact h x hx

theorem bitsK_emit {k : Nat} (hk : 0 < k) (l : List Bool) : bitsK k (emit k l) ++ rest k l = l := by
  refine emit_induct hk (P := fun l => bitsK k (emit k l) ++ rest k l = l) (fun l h => ?_) (fun a l ha h => ?_) l
  · rw [(emit_short h).1, (emit_short h).2]; rfl
  · rw [(emit_step ha hk).1, (emit_step ha hk).2, bitsK, List.flatMap_cons, ← bitsK, List.append_assoc, h]
    congr 1
    have := bitsN_num a
    rwa [ha] at this

/-! ### Bytes -/

def nats (s : List UInt8) : List Nat := s.map UInt8.toNat
theorem nats_lt (s : List UInt8) : ∀ x ∈ nats s, x < 2 ^ 8 := by
  intro x hx
  obtain ⟨c, _, rfl⟩ := List.mem_map.1 hx
  exact c.toNat_lt
theorem nats_append (a b : List UInt8) : nats (a ++ b) = nats a ++ nats b := List.map_append
theorem nats_length (a : List UInt8) : (nats a).length = a.length := List.length_map _
theorem ofNat_nats (s : List UInt8) : (nats s).map UInt8.ofNat = s := by
  rw [nats, List.map_map]
  conv => rhs; rw [← List.map_id s]
  apply List.map_congr_left
  intro c _
  simp

theorem nats_ofNat {l : List Nat} (h : ∀ x ∈ l, x < 2 ^ 8) : nats (l.map UInt8.ofNat) = l := by
  rw [nats, List.map_map]
  conv => rhs; rw [← List.map_id l]
  apply List.map_congr_left
  intro x hx
  simp [Nat.mod_eq_of_lt (h x hx)]

def bits8 (s : List UInt8) : List Bool := bitsK 8 (nats s)
theorem bits8_length (s : List UInt8) : (bits8 s).length = 8 * s.length := by rw [bits8, bitsK_length, nats_length]
theorem bits8_append (a b : List UInt8) : bits8 (a ++ b) = bits8 a ++ bits8 b := by rw [bits8, nats_append, bitsK_append]; rfl

/-- Bits as bytes. -/
def bytesOf (l : List Bool) : List UInt8 := (emit 8 l).map UInt8.ofNat
theorem bytesOf_bits8 (s : List UInt8) (m : List Bool) (h : m.length < 8) : bytesOf (bits8 s ++ m) = s := by
  unfold bytesOf bits8
  rw [(emit_bitsK (by decide) (nats_lt s) m).1, (emit_short h).1, List.append_nil, ofNat_nats]
theorem bits8_bytesOf (l : List Bool) : bits8 (bytesOf l) ++ rest 8 l = l := by
  unfold bytesOf bits8
  rw [nats_ofNat (emit_lt 8 (by decide) l)]
  exact bitsK_emit (by decide) l

/-! ### Signs -/

def sixteen : List UInt8 := [48, 49, 50, 51, 52, 53, 54, 55, 56, 57, 97, 98, 99, 100, 101, 102]
def letters : List UInt8 := [65, 66, 67, 68, 206, 70, 71, 72, 73, 74, 75, 76, 77, 78, 79, 80, 81, 82, 83, 84, 85, 86, 87, 88, 89, 90, 97, 98, 99, 100, 101, 102, 103, 104, 105, 106, 107, 108, 109, 110, 111, 112, 113, 114, 115, 116, 117, 118, 119, 120, 121, 122, 48, 49, 50, 51, 52, 53, 54, 55, 56, 57, 43, 47]

/-- Signs of k bits: 2 to the k of them, no two the same. -/
structure Signs (k : Nat) (S : List UInt8) : Prop where
  pos : 0 < k
  le : k ≤ 8
  length : S.length = 2 ^ k
  index : ∀ i, i < 2 ^ k → Lib.indexByte S (S.getD i 0) = i

theorem signs16 : Signs 4 sixteen := ⟨by decide, by decide, by decide, by decide⟩
theorem signs64 : Signs 6 letters := ⟨by decide, by decide, by decide +kernel, by decide +kernel⟩

/-- The signs of the groups of k bits. -/
def spellL (k : Nat) (S : List UInt8) (l : List Bool) : List UInt8 := (emit k l).map (S.getD · 0)

/-- The place of each sign. -/
def idx (S s : List UInt8) : List Nat := s.map fun c => (Lib.indexByte S c).toNat
/-- Is each one of the signs? -/
def allIn (S s : List UInt8) : Prop := ∀ c ∈ s, 0 ≤ Lib.indexByte S c

theorem idx_append (S a b : List UInt8) : idx S (a ++ b) = idx S a ++ idx S b := List.map_append
theorem idx_length (S a : List UInt8) : (idx S a).length = a.length := List.length_map _
theorem spellL_length (k : Nat) (S : List UInt8) (l : List Bool) : (spellL k S l).length = l.length / k := by rw [spellL, List.length_map, emit_length]

theorem indexByte_lt (S : List UInt8) (c : UInt8) : Lib.indexByte S c < S.length := by
  induction S with
  | nil => simp [Lib.indexByte]
  | cons x S ih =>
    simp only [Lib.indexByte, List.length_cons]
    repeat' split
    all_goals omega

theorem indexByte_get (S : List UInt8) (c : UInt8) (h : 0 ≤ Lib.indexByte S c) : S.getD (Lib.indexByte S c).toNat 0 = c := by
  induction S with
  | nil => simp [Lib.indexByte] at h
  | cons x S ih =>
    simp only [Lib.indexByte] at h ⊢
    split
    · rename_i e; simpa using e
    · rename_i e
      rw [if_neg e] at h
      split
      · rename_i e'
        rw [if_pos e'] at h
        omega
      · rename_i e'
        rw [if_neg e'] at h
        have hg := Lib.indexByte_ge S c
        have hne : Lib.indexByte S c ≠ -1 := by simpa using e'
        have := ih (by omega)
        rw [show (Lib.indexByte S c + 1).toNat = (Lib.indexByte S c).toNat + 1 by omega]
        simpa using this

theorem idx_spell {k : Nat} {S : List UInt8} (h : Signs k S) {l : List Nat} (hl : ∀ x ∈ l, x < 2 ^ k) : idx S (l.map (S.getD · 0)) = l ∧ allIn S (l.map (S.getD · 0)) := by
  constructor
  · rw [idx, List.map_map]
    conv => rhs; rw [← List.map_id l]
    apply List.map_congr_left
    intro x hx
    have := h.index x (hl x hx)
    simp only [Function.comp_apply, id]
    omega
  · intro c hc
    obtain ⟨x, hx, rfl⟩ := List.mem_map.1 hc
    have := h.index x (hl x hx)
    omega

theorem spell_idx {S s : List UInt8} (h : allIn S s) : (idx S s).map (S.getD · 0) = s := by
  rw [idx, List.map_map]
  conv => rhs; rw [← List.map_id s]
  apply List.map_congr_left
  intro c hc
  exact indexByte_get S c (h c hc)

theorem idx_lt {k : Nat} {S : List UInt8} (h : Signs k S) (s : List UInt8) : ∀ x ∈ idx S s, x < 2 ^ k := by
  intro x hx
  obtain ⟨c, _, rfl⟩ := List.mem_map.1 hx
  have := indexByte_lt S c
  have h0 : 0 < 2 ^ k := Nat.two_pow_pos k
  rw [h.length] at this
  omega

end Go.Proofs.YtnaoandleelbkaaGreatDoor.Hx

namespace Go.Proofs.YtnaoandleelbkaaGreatDoor.Hx

/-- With as few bits 0 behind as make groups of k. -/
def padded (k : Nat) (l : List Bool) : List Bool := l ++ List.replicate ((k - l.length % k) % k) false

def hexL (s : List UInt8) : List UInt8 := spellL 4 sixteen (bits8 s)
def b64T (s : List UInt8) : List UInt8 := spellL 6 letters (padded 6 (bits8 s))
def fill (n : Nat) : List UInt8 := List.replicate ((4 - n % 4) % 4) 61
def b64L (s : List UInt8) : List UInt8 := b64T s ++ fill (b64T s).length

instance (S s : List UInt8) : Decidable (allIn S s) := inferInstanceAs (Decidable (∀ c ∈ s, 0 ≤ Lib.indexByte S c))

def unspellL (k : Nat) (S s : List UInt8) : Option (List UInt8) :=
  if allIn S s ∧ num (rest 8 (bitsK k (idx S s))) = 0 then some (bytesOf (bitsK k (idx S s))) else none
def unhexL (s : List UInt8) : Option (List UInt8) := if s.length % 2 = 0 then unspellL 4 sixteen s else none
def trim2 (s : List UInt8) : List UInt8 := Lib.trimSuffix (Lib.trimSuffix s [61]) [61]
def unb64L (s : List UInt8) : Option (List UInt8) := if s.length % 4 = 0 then unspellL 6 letters (trim2 s) else none

theorem spell_all {k : Nat} {S : List UInt8} (h : Signs k S) (l : List Bool) : idx S (spellL k S l) = emit k l ∧ allIn S (spellL k S l) :=
  idx_spell h (emit_lt k h.pos l)

theorem padded_length {k : Nat} (hk : 0 < k) (l : List Bool) : (padded k l).length % k = 0 ∧ (padded k l).length = l.length + (k - l.length % k) % k := by
  have e : (padded k l).length = l.length + (k - l.length % k) % k := by simp [padded]
  refine ⟨?_, e⟩
  rw [e]
  have h := Nat.mod_lt l.length hk
  have h2 := Nat.div_add_mod l.length k
  by_cases h0 : l.length % k = 0
  · rw [h0, Nat.sub_zero, Nat.mod_self, Nat.add_zero, h0]
  · rw [Nat.mod_eq_of_lt (show k - l.length % k < k by omega)]
    rw [show l.length + (k - l.length % k) = k * (l.length / k) + k by omega]
    simp

theorem hex_length (s : List UInt8) : (hexL s).length = 2 * s.length := by
  rw [hexL, spellL_length, bits8_length]; omega

theorem b64T_length (s : List UInt8) : (b64T s).length = (8 * s.length + 5) / 6 := by
  rw [b64T, spellL_length, (padded_length (by decide) _).2, bits8_length]; omega

theorem fill_length (n : Nat) : (fill n).length = (4 - n % 4) % 4 := by simp [fill]

theorem b64_length (s : List UInt8) : (b64L s).length = 4 * ((s.length + 2) / 3) := by
  rw [b64L, List.length_append, fill_length, b64T_length]; omega

theorem unhex_hex (s : List UInt8) : unhexL (hexL s) = some s := by
  have h1 := spell_all signs16 (bits8 s)
  have hm : (bits8 s).length % 4 = 0 := by rw [bits8_length]; omega
  have e : bitsK 4 (emit 4 (bits8 s)) = bits8 s := by
    have := bitsK_emit (k := 4) (by decide) (bits8 s)
    rwa [rest_nil (by decide) hm, List.append_nil] at this
  have hr : rest 8 (bits8 s) = [] := rest_nil (by decide) (by rw [bits8_length]; omega)
  rw [unhexL, if_pos (by rw [hex_length]; omega), unspellL, hexL, h1.1, e, hr]
  rw [if_pos ⟨h1.2, rfl⟩]
  have := bytesOf_bits8 s [] (by decide)
  rw [List.append_nil] at this
  rw [this]

theorem hex_unhex {t x : List UInt8} (h : unhexL t = some x) : hexL x = t := by
  unfold unhexL unspellL at h
  split at h
  · rename_i h2
    split at h
    · rename_i h1
      cases h
      have hl : (bitsK 4 (idx sixteen t)).length % 8 = 0 := by rw [bitsK_length, idx_length]; omega
      have e := bits8_bytesOf (bitsK 4 (idx sixteen t))
      rw [rest_nil (by decide) hl, List.append_nil] at e
      rw [hexL, e, spellL]
      have := (emit_bitsK (k := 4) (by decide) (idx_lt signs16 t) []).1
      rw [List.append_nil, (emit_short (by decide : ([] : List Bool).length < 4)).1, List.append_nil] at this
      rw [this]
      exact spell_idx h1.1
    · cases h
  · cases h

theorem trim_one {s : List UInt8} (h : s.getLast? = some 61) : Lib.trimSuffix s [61] = s.dropLast := by
  obtain ⟨l, rfl⟩ : ∃ l, s = l ++ [61] := by
    rw [List.getLast?_eq_some_iff] at h
    exact h
  simp [Lib.trimSuffix, Lib.hasSuffix]

theorem trim_none {s : List UInt8} (h : s.getLast? ≠ some 61) : Lib.trimSuffix s [61] = s := by
  unfold Lib.trimSuffix Lib.hasSuffix
  rw [if_neg]
  rw [List.isSuffixOf_iff_suffix]
  rintro ⟨l, rfl⟩
  simp at h

theorem no_fill : Lib.indexByte letters 61 = -1 := by decide +kernel

theorem not_fill {s : List UInt8} (h : allIn letters s) : s.getLast? ≠ some 61 := by
  intro e
  have := h 61 (List.mem_of_getLast? e)
  rw [no_fill] at this
  omega

theorem trim2_of {s : List UInt8} (h : allIn letters s) {f : Nat} (hf : f ≤ 2) : trim2 (s ++ List.replicate f 61) = s := by
  unfold trim2
  rcases (show f = 0 ∨ f = 1 ∨ f = 2 by omega) with rfl | rfl | rfl
  · rw [List.replicate_zero, List.append_nil, trim_none (not_fill h), trim_none (not_fill h)]
  · have a : Lib.trimSuffix (s ++ List.replicate 1 61) [61] = s := by rw [trim_one (by simp)]; simp
    rw [a, trim_none (not_fill h)]
  · have a : Lib.trimSuffix (s ++ List.replicate 2 61) [61] = s ++ [61] := by
      rw [show s ++ List.replicate 2 61 = (s ++ [61]) ++ [61] by simp [List.replicate_succ], trim_one (by simp), List.dropLast_concat]
    have b : Lib.trimSuffix (s ++ [61]) [61] = s := by rw [trim_one (by simp), List.dropLast_concat]
    rw [a, b]

/-- What two are taken off of: it, and as many = behind. -/
theorem trim2_put (s : List UInt8) : ∃ f, f ≤ 2 ∧ s = trim2 s ++ List.replicate f 61 := by
  unfold trim2
  by_cases h : s.getLast? = some 61
  · obtain ⟨l, rfl⟩ := List.getLast?_eq_some_iff.1 h
    rw [trim_one h, List.dropLast_concat]
    by_cases h' : l.getLast? = some 61
    · obtain ⟨m, rfl⟩ := List.getLast?_eq_some_iff.1 h'
      rw [trim_one h', List.dropLast_concat]
      exact ⟨2, by decide, by simp [List.replicate_succ]⟩
    · rw [trim_none h']
      exact ⟨1, by decide, by simp⟩
  · rw [trim_none h, trim_none h]
    exact ⟨0, by decide, by simp⟩

theorem unb64_b64 (s : List UInt8) : unb64L (b64L s) = some s := by
  have h1 := spell_all signs64 (padded 6 (bits8 s))
  have hm := padded_length (k := 6) (by decide) (bits8 s)
  have e : bitsK 6 (emit 6 (padded 6 (bits8 s))) = padded 6 (bits8 s) := by
    have := bitsK_emit (k := 6) (by decide) (padded 6 (bits8 s))
    rwa [rest_nil (by decide) hm.1, List.append_nil] at this
  have ht : trim2 (b64L s) = b64T s := trim2_of h1.2 (by rw [b64T_length]; omega)
  have hb := bits8_length s
  rw [unb64L, if_pos (by rw [b64_length]; omega), ht, unspellL, b64T, h1.1, e]
  have hr : rest 8 (padded 6 (bits8 s)) = List.replicate ((6 - (bits8 s).length % 6) % 6) false := by
    rw [padded, bits8, (emit_bitsK (by decide) (nats_lt s) _).2, (emit_short _).2]
    rw [List.length_replicate]; omega
  rw [if_pos ⟨h1.2, by rw [hr, num_false]; simp⟩]
  rw [padded, bytesOf_bits8 s _ (by rw [List.length_replicate]; omega)]

theorem b64_unb64 {t x : List UInt8} (h : unb64L t = some x) : b64L x = t := by
  unfold unb64L unspellL at h
  split at h
  · rename_i h4
    split at h
    · rename_i h1
      cases h
      obtain ⟨f, hf, ht⟩ := trim2_put t
      obtain ⟨u, hu⟩ : ∃ u, u = trim2 t := ⟨_, rfl⟩
      rw [← hu] at h1 ht
      rw [← hu]
      have hl : (bitsK 6 (idx letters u)).length = 6 * u.length := by rw [bitsK_length, idx_length]
      have hlt : t.length = u.length + f := by rw [ht]; simp
      have e := bits8_bytesOf (bitsK 6 (idx letters u))
      obtain ⟨x, hx⟩ : ∃ x, x = bytesOf (bitsK 6 (idx letters u)) := ⟨_, rfl⟩
      rw [← hx] at e ⊢
      have hr := rest_length (k := 8) (by decide) (bitsK 6 (idx letters u))
      have hz := num_false.1 h1.2
      rw [hr, hl] at hz
      have hxl : 8 * x.length + 6 * u.length % 8 = 6 * u.length := by
        have := congrArg List.length e
        rw [List.length_append, bits8_length, hr, hl] at this
        exact this
      have hp : padded 6 (bits8 x) = bitsK 6 (idx letters u) := by
        rw [← e, hz, padded, bits8_length]
        congr 2
        have h3 : u.length % 4 = 0 ∨ u.length % 4 = 2 ∨ u.length % 4 = 3 := by omega
        have h5 := Nat.div_add_mod u.length 4
        generalize u.length / 4 = q at h5
        generalize x.length = n at hxl ⊢
        clear e hx hz hr hl h4 hlt ht
        rcases h3 with h3 | h3 | h3
        · rw [h3] at h5
          rw [← h5] at hxl ⊢
          obtain rfl : n = 3 * q := by omega
          omega
        · rw [h3] at h5
          rw [← h5] at hxl ⊢
          obtain rfl : n = 3 * q + 1 := by omega
          omega
        · rw [h3] at h5
          rw [← h5] at hxl ⊢
          obtain rfl : n = 3 * q + 2 := by omega
          omega
      have hT : b64T x = u := by
        rw [b64T, hp, spellL]
        have := (emit_bitsK (k := 6) (by decide) (idx_lt signs64 u) []).1
        rw [List.append_nil, (emit_short (by decide : ([] : List Bool).length < 6)).1, List.append_nil] at this
        rw [this]
        exact spell_idx h1.1
      rw [b64L, hT, ht, fill]
      congr 2
      omega
    · cases h
  · cases h

/-! ### By the reference -/

/-- A whole number's lowest byte. -/
def toB (z : Int) : UInt8 := UInt8.ofNat (z % 256).toNat

def unhexR : List UInt8 → List UInt8
  | a :: b :: t => toB (16 * Lib.indexByte sixteen a + Lib.indexByte sixteen b) :: unhexR t
  | _ => []

theorem hex_one : ∀ c : Fin 256, emit 4 (bitsN 8 c.val) = [c.val / 16, c.val % 16] ∧ rest 4 (bitsN 8 c.val) = [] := by decide +kernel
theorem dig_of : ∀ c : Fin 256, toB (16 * Lib.indexByte sixteen (sixteen.getD (c.val / 16) 0) + Lib.indexByte sixteen (sixteen.getD (c.val % 16) 0)) = UInt8.ofNat c.val := by decide +kernel

theorem hexL_nil : hexL [] = [] := rfl
theorem hexL_cons (c : UInt8) (s : List UInt8) : hexL (c :: s) = sixteen.getD (c.toNat / 16) 0 :: sixteen.getD (c.toNat % 16) 0 :: hexL s := by
  have e : bits8 (c :: s) = bitsN 8 c.toNat ++ bits8 s := by simp [bits8, nats, bitsK]
  have h := hex_one ⟨c.toNat, c.toNat_lt⟩
  rw [hexL, spellL, e, (emit_append (by decide) _ _).1, h.1, h.2]
  simp [hexL, spellL]

theorem hexL_append (a b : List UInt8) : hexL (a ++ b) = hexL a ++ hexL b := by
  induction a with
  | nil => rfl
  | cons c a ih => rw [List.cons_append, hexL_cons, hexL_cons, ih]; rfl

theorem unhexR_hex (s : List UInt8) : unhexR (hexL s) = s := by
  induction s with
  | nil => rfl
  | cons c s ih =>
    rw [hexL_cons, unhexR, ih, dig_of ⟨c.toNat, c.toNat_lt⟩]
    simp

theorem unhex_ref (s : List UInt8) : unhexL s = if hexL (unhexR s) = s then some (unhexR s) else none := by
  split
  · rename_i h
    conv => lhs; rw [← h]
    exact unhex_hex _
  · rename_i h
    cases e : unhexL s with
    | none => rfl
    | some x =>
      exfalso
      apply h
      have := hex_unhex e
      rw [← this, unhexR_hex]

def unb64R (s : List UInt8) : List UInt8 := bytesOf (bitsK 6 (idx letters (s.filter fun c => decide (0 ≤ Lib.indexByte letters c))))

theorem unb64R_b64 (s : List UInt8) : unb64R (b64L s) = s := by
  have h1 := spell_all signs64 (padded 6 (bits8 s))
  have hm := padded_length (k := 6) (by decide) (bits8 s)
  have e : bitsK 6 (emit 6 (padded 6 (bits8 s))) = padded 6 (bits8 s) := by
    have := bitsK_emit (k := 6) (by decide) (padded 6 (bits8 s))
    rwa [rest_nil (by decide) hm.1, List.append_nil] at this
  have ef : (b64L s).filter (fun c => decide (0 ≤ Lib.indexByte letters c)) = b64T s := by
    rw [b64L, List.filter_append, List.filter_eq_self.2 (fun c hc => by simpa using h1.2 c hc), fill, List.filter_replicate]
    rw [if_neg (by rw [no_fill]; decide), List.append_nil]
  rw [unb64R, ef, b64T, h1.1, e, padded, bytesOf_bits8]
  rw [List.length_replicate]; omega

theorem unb64_ref (s : List UInt8) : unb64L s = if b64L (unb64R s) = s then some (unb64R s) else none := by
  split
  · rename_i h
    conv => lhs; rw [← h]
    exact unb64_b64 _
  · rename_i h
    cases e : unb64L s with
    | none => rfl
    | some x =>
      exfalso
      apply h
      have := b64_unb64 e
      rw [← this, unb64R_b64]

/-- Of bytes whose number is three's multiple: that of them, and then that of what is behind. -/
theorem b64_append (a b : List UInt8) (h : a.length % 3 = 0) : b64L (a ++ b) = b64L a ++ b64L b := by
  have ha : (bits8 a).length % 6 = 0 := by rw [bits8_length]; omega
  have e : padded 6 (bits8 (a ++ b)) = bits8 a ++ padded 6 (bits8 b) := by
    rw [padded, bits8_append, List.length_append, List.append_assoc, padded, Nat.add_mod, ha, Nat.zero_add, Nat.mod_mod]
  have e0 : padded 6 (bits8 a) = bits8 a := by rw [padded, ha]; simp
  have hT : b64T (a ++ b) = b64T a ++ b64T b := by
    rw [b64T, e, b64T, e0, b64T, spellL, (emit_append (by decide) _ _).1, rest_nil (by decide) ha, List.nil_append, List.map_append]; rfl
  have hl : (b64T a).length % 4 = 0 := by rw [b64T_length]; omega
  have hf : fill (b64T a).length = [] := by rw [fill, hl]; rfl
  rw [b64L, hT, b64L, hf, b64L, List.append_nil, List.append_assoc]
  congr 2
  rw [fill, fill, List.length_append, Nat.add_mod, hl, Nat.zero_add, Nat.mod_mod]

end Go.Proofs.YtnaoandleelbkaaGreatDoor.Hx
