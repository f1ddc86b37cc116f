/-
  Plain functions on lists of bytes: hexadecimal and base64, written and read; what was written is read as it was, what is read, written, is the text; the same by the reference's way of reading.
  No program is imported here; no condition.
-/
import Derived.Test.YtdniojbplakeoaaDoorBits
namespace Go.Proofs.YtdniojbplakeoaaDoor

/-- With as few bits 0 behind as make groups of k. -/
def padded (k : Nat) (l : List Bool) : List Bool := l ++ List.replicate ((k - l.length % k) % k) false

def hexL (s : List UInt8) : List UInt8 := spellL 4 sixteen (bits8 s)
def b64T (s : List UInt8) : List UInt8 := spellL 6 letters (padded 6 (bits8 s))
def fill (n : Nat) : List UInt8 := List.replicate ((4 - n % 4) % 4) 61
def b64L (s : List UInt8) : List UInt8 := b64T s ++ fill (b64T s).length

instance (S s : List UInt8) : Decidable (allIn S s) := inferInstanceAs (Decidable (∀ c ∈ s, 0 ≤ Lib.indexByte S c))

def unspellL (k : Nat) (S s : List UInt8) : Option (List UInt8) :=
  if allIn S s ∧ num (rest 8 (bitsK k (idx S s))) = 0 then some (bytesOf (bitsK k (idx S s))) else none
def unhexL (s : List UInt8) : Option (List UInt8) := if s.length % 2 = 0 then unspellL 4 sixteen s else none
def trim2 (s : List UInt8) : List UInt8 := Lib.trimSuffix (Lib.trimSuffix s [61]) [61]
def unb64L (s : List UInt8) : Option (List UInt8) := if s.length % 4 = 0 then unspellL 6 letters (trim2 s) else none

theorem spell_all {k : Nat} {S : List UInt8} (h : Signs k S) (l : List Bool) : idx S (spellL k S l) = emit k l ∧ allIn S (spellL k S l) :=
  idx_spell h (emit_lt k h.pos l)

theorem padded_length {k : Nat} (hk : 0 < k) (l : List Bool) : (padded k l).length % k = 0 ∧ (padded k l).length = l.length + (k - l.length % k) % k := by
  have e : (padded k l).length = l.length + (k - l.length % k) % k := by simp [padded]
  refine ⟨?_, e⟩
  rw [e]
  have h := Nat.mod_lt l.length hk
  have h2 := Nat.div_add_mod l.length k
  by_cases h0 : l.length % k = 0
  · rw [h0, Nat.sub_zero, Nat.mod_self, Nat.add_zero, h0]
  · rw [Nat.mod_eq_of_lt (show k - l.length % k < k by omega)]
    rw [show l.length + (k - l.length % k) = k * (l.length / k) + k by omega]
    simp

theorem hex_length (s : List UInt8) : (hexL s).length = 2 * s.length := by
  rw [hexL, spellL_length, bits8_length]; omega

theorem b64T_length (s : List UInt8) : (b64T s).length = (8 * s.length + 5) / 6 := by
  rw [b64T, spellL_length, (padded_length (by decide) _).2, bits8_length]; omega

theorem fill_length (n : Nat) : (fill n).length = (4 - n % 4) % 4 := by simp [fill]

theorem b64_length (s : List UInt8) : (b64L s).length = 4 * ((s.length + 2) / 3) := by
  rw [b64L, List.length_append, fill_length, b64T_length]; omega

theorem unhex_hex (s : List UInt8) : unhexL (hexL s) = some s := by
  have h1 := spell_all signs16 (bits8 s)
  have hm : (bits8 s).length % 4 = 0 := by rw [bits8_length]; omega
  have e : bitsK 4 (emit 4 (bits8 s)) = bits8 s := by
    have := bitsK_emit (k := 4) (by decide) (bits8 s)
    rwa [rest_nil (by decide) hm, List.append_nil] at this
  have hr : rest 8 (bits8 s) = [] := rest_nil (by decide) (by rw [bits8_length]; omega)
  rw [unhexL, if_pos (by rw [hex_length]; omega), unspellL, hexL, h1.1, e, hr]
  rw [if_pos ⟨h1.2, rfl⟩]
  have := bytesOf_bits8 s [] (by decide)
  rw [List.append_nil] at this
  rw [this]

theorem hex_unhex {t x : List UInt8} (h : unhexL t = some x) : hexL x = t := by
  unfold unhexL unspellL at h
  split at h
  · rename_i h2
    split at h
    · rename_i h1
      cases h
      have hl : (bitsK 4 (idx sixteen t)).length % 8 = 0 := by rw [bitsK_length, idx_length]; omega
      have e := bits8_bytesOf (bitsK 4 (idx sixteen t))
      rw [rest_nil (by decide) hl, List.append_nil] at e
      rw [hexL, e, spellL]
      have := (emit_bitsK (k := 4) (by decide) (idx_lt signs16 t) []).1
      rw [List.append_nil, (emit_short (by decide : ([] : List Bool).length < 4)).1, List.append_nil] at this
      rw [this]
      exact spell_idx h1.1
    · cases h
  · cases h

theorem trim_one {s : List UInt8} (h : s.getLast? = some 61) : Lib.trimSuffix s [61] = s.dropLast := by
  obtain ⟨l, rfl⟩ : ∃ l, s = l ++ [61] := by
    rw [List.getLast?_eq_some_iff] at h
    exact h
  simp [Lib.trimSuffix, Lib.hasSuffix]

theorem trim_none {s : List UInt8} (h : s.getLast? ≠ some 61) : Lib.trimSuffix s [61] = s := by
  unfold Lib.trimSuffix Lib.hasSuffix
  rw [if_neg]
  rw [List.isSuffixOf_iff_suffix]
  rintro ⟨l, rfl⟩
  simp at h

theorem no_fill : Lib.indexByte letters 61 = -1 := by decide +kernel

theorem not_fill {s : List UInt8} (h : allIn letters s) : s.getLast? ≠ some 61 := by
  intro e
  have := h 61 (List.mem_of_getLast? e)
  rw [no_fill] at this
  omega

theorem trim2_of {s : List UInt8} (h : allIn letters s) {f : Nat} (hf : f ≤ 2) : trim2 (s ++ List.replicate f 61) = s := by
  unfold trim2
  rcases (show f = 0 ∨ f = 1 ∨ f = 2 by omega) with rfl | rfl | rfl
  · rw [List.replicate_zero, List.append_nil, trim_none (not_fill h), trim_none (not_fill h)]
  · have a : Lib.trimSuffix (s ++ List.replicate 1 61) [61] = s := by rw [trim_one (by simp)]; simp
    rw [a, trim_none (not_fill h)]
  · have a : Lib.trimSuffix (s ++ List.replicate 2 61) [61] = s ++ [61] := by
      rw [show s ++ List.replicate 2 61 = (s ++ [61]) ++ [61] by simp [List.replicate_succ], trim_one (by simp), List.dropLast_concat]
    have b : Lib.trimSuffix (s ++ [61]) [61] = s := by rw [trim_one (by simp), List.dropLast_concat]
    rw [a, b]

/-- What two are taken off of: it, and as many = behind. -/
theorem trim2_put (s : List UInt8) : ∃ f, f ≤ 2 ∧ s = trim2 s ++ List.replicate f 61 := by
  unfold trim2
  by_cases h : s.getLast? = some 61
  · obtain ⟨l, rfl⟩ := List.getLast?_eq_some_iff.1 h
    rw [trim_one h, List.dropLast_concat]
    by_cases h' : l.getLast? = some 61
    · obtain ⟨m, rfl⟩ := List.getLast?_eq_some_iff.1 h'
      rw [trim_one h', List.dropLast_concat]
      exact ⟨2, by decide, by simp [List.replicate_succ]⟩
    · rw [trim_none h']
      exact ⟨1, by decide, by simp⟩
  · rw [trim_none h, trim_none h]
    exact ⟨0, by decide, by simp⟩

theorem unb64_b64 (s : List UInt8) : unb64L (b64L s) = some s := by
  have h1 := spell_all signs64 (padded 6 (bits8 s))
  have hm := padded_length (k := 6) (by decide) (bits8 s)
  have e : bitsK 6 (emit 6 (padded 6 (bits8 s))) = padded 6 (bits8 s) := by
    have := bitsK_emit (k := 6) (by decide) (padded 6 (bits8 s))
    rwa [rest_nil (by decide) hm.1, List.append_nil] at this
  have ht : trim2 (b64L s) = b64T s := trim2_of h1.2 (by rw [b64T_length]; omega)
  have hb := bits8_length s
  rw [unb64L, if_pos (by rw [b64_length]; omega), ht, unspellL, b64T, h1.1, e]
  have hr : rest 8 (padded 6 (bits8 s)) = List.replicate ((6 - (bits8 s).length % 6) % 6) false := by
    rw [padded, bits8, (emit_bitsK (by decide) (nats_lt s) _).2, (emit_short _).2]
    rw [List.length_replicate]; omega
  rw [if_pos ⟨h1.2, by rw [hr, num_false]; simp⟩]
  rw [padded, bytesOf_bits8 s _ (by rw [List.length_replicate]; omega)]

theorem b64_unb64 {t x : List UInt8} (h : unb64L t = some x) : b64L x = t := by
  unfold unb64L unspellL at h
  split at h
  · rename_i h4
    split at h
    · rename_i h1
      cases h
      obtain ⟨f, hf, ht⟩ := trim2_put t
      obtain ⟨u, hu⟩ : ∃ u, u = trim2 t := ⟨_, rfl⟩
      rw [← hu] at h1 ht
      rw [← hu]
      have hl : (bitsK 6 (idx letters u)).length = 6 * u.length := by rw [bitsK_length, idx_length]
      have hlt : t.length = u.length + f := by rw [ht]; simp
      have e := bits8_bytesOf (bitsK 6 (idx letters u))
      obtain ⟨x, hx⟩ : ∃ x, x = bytesOf (bitsK 6 (idx letters u)) := ⟨_, rfl⟩
      rw [← hx] at e ⊢
      have hr := rest_length (k := 8) (by decide) (bitsK 6 (idx letters u))
      have hz := num_false.1 h1.2
      rw [hr, hl] at hz
      have hxl : 8 * x.length + 6 * u.length % 8 = 6 * u.length := by
        have := congrArg List.length e
        rw [List.length_append, bits8_length, hr, hl] at this
        exact this
      have hp : padded 6 (bits8 x) = bitsK 6 (idx letters u) := by
        rw [← e, hz, padded, bits8_length]
        congr 2
        have h3 : u.length % 4 = 0 ∨ u.length % 4 = 2 ∨ u.length % 4 = 3 := by omega
        have h5 := Nat.div_add_mod u.length 4
        generalize u.length / 4 = q at h5
        generalize x.length = n at hxl ⊢
        clear e hx hz hr hl h4 hlt ht
        rcases h3 with h3 | h3 | h3
        · rw [h3] at h5
          rw [← h5] at hxl ⊢
          obtain rfl : n = 3 * q := by omega
          omega
        · rw [h3] at h5
          rw [← h5] at hxl ⊢
          obtain rfl : n = 3 * q + 1 := by omega
          omega
        · rw [h3] at h5
          rw [← h5] at hxl ⊢
          obtain rfl : n = 3 * q + 2 := by omega
          omega
      have hT : b64T x = u := by
        rw [b64T, hp, spellL]
        have := (emit_bitsK (k := 6) (by decide) (idx_lt signs64 u) []).1
        rw [List.append_nil, (emit_short (by decide : ([] : List Bool).length < 6)).1, List.append_nil] at this
        rw [this]
        exact spell_idx h1.1
      rw [b64L, hT, ht, fill]
      congr 2
      omega
    · cases h
  · cases h

/-! ### By the reference -/

/-- A whole number's lowest byte. -/
def toB (z : Int) : UInt8 := UInt8.ofNat (z % 256).toNat

def unhexR : List UInt8 → List UInt8
  | a :: b :: t => toB (16 * Lib.indexByte sixteen a + Lib.indexByte sixteen b) :: unhexR t
  | _ => []

theorem hex_one : ∀ c : Fin 256, emit 4 (bitsN 8 c.val) = [c.val / 16, c.val % 16] ∧ rest 4 (bitsN 8 c.val) = [] := by decide +kernel
theorem dig_of : ∀ c : Fin 256, toB (16 * Lib.indexByte sixteen (sixteen.getD (c.val / 16) 0) + Lib.indexByte sixteen (sixteen.getD (c.val % 16) 0)) = UInt8.ofNat c.val := by decide +kernel

theorem hexL_nil : hexL [] = [] := rfl
theorem hexL_cons (c : UInt8) (s : List UInt8) : hexL (c :: s) = sixteen.getD (c.toNat / 16) 0 :: sixteen.getD (c.toNat % 16) 0 :: hexL s := by
  have e : bits8 (c :: s) = bitsN 8 c.toNat ++ bits8 s := by simp [bits8, nats, bitsK]
  have h := hex_one ⟨c.toNat, c.toNat_lt⟩
  rw [hexL, spellL, e, (emit_append (by decide) _ _).1, h.1, h.2]
  simp [hexL, spellL]

theorem hexL_append (a b : List UInt8) : hexL (a ++ b) = hexL a ++ hexL b := by
  induction a with
  | nil => rfl
  | cons c a ih => rw [List.cons_append, hexL_cons, hexL_cons, ih]; rfl

theorem unhexR_hex (s : List UInt8) : unhexR (hexL s) = s := by
  induction s with
  | nil => rfl
  | cons c s ih =>
    rw [hexL_cons, unhexR, ih, dig_of ⟨c.toNat, c.toNat_lt⟩]
    simp

theorem unhex_ref (s : List UInt8) : unhexL s = if hexL (unhexR s) = s then some (unhexR s) else none := by
  split
  · rename_i h
    conv => lhs; rw [← h]
    exact unhex_hex _
  · rename_i h
    cases e : unhexL s with
    | none => rfl
    | some x =>
      exfalso
      apply h
      have := hex_unhex e
      rw [← this, unhexR_hex]

def unb64R (s : List UInt8) : List UInt8 := bytesOf (bitsK 6 (idx letters (s.filter fun c => decide (0 ≤ Lib.indexByte letters c))))

theorem unb64R_b64 (s : List UInt8) : unb64R (b64L s) = s := by
  have h1 := spell_all signs64 (padded 6 (bits8 s))
  have hm := padded_length (k := 6) (by decide) (bits8 s)
  have e : bitsK 6 (emit 6 (padded 6 (bits8 s))) = padded 6 (bits8 s) := by
    have := bitsK_emit (k := 6) (by decide) (padded 6 (bits8 s))
    rwa [rest_nil (by decide) hm.1, List.append_nil] at this
  have ef : (b64L s).filter (fun c => decide (0 ≤ Lib.indexByte letters c)) = b64T s := by
    rw [b64L, List.filter_append, List.filter_eq_self.2 (fun c hc => by simpa using h1.2 c hc), fill, List.filter_replicate]
    rw [if_neg (by rw [no_fill]; decide), List.append_nil]
  rw [unb64R, ef, b64T, h1.1, e, padded, bytesOf_bits8]
  rw [List.length_replicate]; omega

theorem unb64_ref (s : List UInt8) : unb64L s = if b64L (unb64R s) = s then some (unb64R s) else none := by
  split
  · rename_i h
    conv => lhs; rw [← h]
    exact unb64_b64 _
  · rename_i h
    cases e : unb64L s with
    | none => rfl
    | some x =>
      exfalso
      apply h
      have := b64_unb64 e
      rw [← this, unb64R_b64]

/-- Of bytes whose number is three's multiple: that of them, and then that of what is behind. -/
theorem b64_append (a b : List UInt8) (h : a.length % 3 = 0) : b64L (a ++ b) = b64L a ++ b64L b := by
  have ha : (bits8 a).length % 6 = 0 := by rw [bits8_length]; omega
  have e : padded 6 (bits8 (a ++ b)) = bits8 a ++ padded 6 (bits8 b) := by
    rw [padded, bits8_append, List.length_append, List.append_assoc, padded, Nat.add_mod, ha, Nat.zero_add, Nat.mod_mod]
  have e0 : padded 6 (bits8 a) = bits8 a := by rw [padded, ha]; simp
  have hT : b64T (a ++ b) = b64T a ++ b64T b := by
    rw [b64T, e, b64T, e0, b64T, spellL, (emit_append (by decide) _ _).1, rest_nil (by decide) ha, List.nil_append, List.map_append]; rfl
  have hl : (b64T a).length % 4 = 0 := by rw [b64T_length]; omega
  have hf : fill (b64T a).length = [] := by rw [fill, hl]; rfl
  rw [b64L, hT, b64L, hf, b64L, List.append_nil, List.append_assoc]
  congr 2
  rw [fill, fill, List.length_append, Nat.add_mod, hl, Nat.zero_add, Nat.mod_mod]

end Go.Proofs.YtdniojbplakeoaaDoor
