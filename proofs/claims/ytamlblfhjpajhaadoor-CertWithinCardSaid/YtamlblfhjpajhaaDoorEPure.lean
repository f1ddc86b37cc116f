/-
  Things in things, plainly: lengths, tags, what is put and what is cut.
-/
import Derived.Test.YtamlblfhjpajhaaDoorBase
namespace Go.Proofs.YtamlblfhjpajhaaDoor
open Go Go.RowKit

set_option maxRecDepth 100000
set_option linter.unusedSimpArgs false
set_option linter.unusedVariables false

/-- Whether there is such a tag. -/
def tagB (t : UInt8) : Bool := t.toNat % 32 != 31
/-- A length's bytes. -/
def lenL (n : Nat) : List UInt8 := if n ≤ 127 then [UInt8.ofNat n] else if n ≤ 255 then [129, UInt8.ofNat n] else [130, UInt8.ofNat (n / 256), UInt8.ofNat n]
/-- A thing: its tag, its value. -/
abbrev Tv := UInt8 × List UInt8
/-- Put's error's number. -/
def putE (t : UInt8) (v : List UInt8) : Nat := if tagB t = false then 4 else if 65535 < v.length then 40 else 0
def putT (t : UInt8) (v : List UInt8) : List UInt8 := t :: (lenL v.length ++ v)
def putL (t : UInt8) (v : List UInt8) : List UInt8 := if putE t v = 0 then putT t v else []

/-- What is read, or the error's number. -/
inductive Rd (α : Type) where
  | ok (a : α)
  | er (e : Nat)
/-- The number that these bytes tell, the great end first, behind n. -/
def numF (n : Nat) : List UInt8 → Nat
  | [] => n
  | b :: l => numF (n * 256 + b.toNat) l
def cutNum (s : List UInt8) (many least : Nat) : Rd (Nat × List UInt8) :=
  if 0 < s.length ∧ (s.getD 0 0).toNat < least then .er 4 else if s.length < many then .er 8 else .ok (numF 0 (s.take many), s.drop many)
def cutLen : List UInt8 → Rd (Nat × List UInt8)
  | [] => .er 8
  | b :: r => if b.toNat ≤ 127 then .ok (b.toNat, r) else if b = 129 then cutNum r 1 128 else if b = 130 then cutNum r 2 1 else .er 4
def cutP : List UInt8 → Rd (Tv × List UInt8)
  | [] => .er 8
  | t :: r => if tagB t = false then .er 4 else match cutLen r with
    | .er e => .er e
    | .ok (n, q) => if q.length < n then .er 8 else .ok ((t, q.take n), q.drop n)

theorem cutLen_cons (b : UInt8) (r : List UInt8) : cutLen (b :: r) = if b.toNat ≤ 127 then .ok (b.toNat, r) else if b = 129 then cutNum r 1 128 else if b = 130 then cutNum r 2 1 else .er 4 := rfl
theorem cutP_cons (t : UInt8) (r : List UInt8) : cutP (t :: r) = if tagB t = false then .er 4 else match cutLen r with
    | .er e => .er e
    | .ok (n, q) => if q.length < n then .er 8 else .ok ((t, q.take n), q.drop n) := rfl
theorem u8_ofNat_toNat (n : Nat) (h : n < 256) : (UInt8.ofNat n).toNat = n := by simp; omega
theorem lenL_length (n : Nat) : 1 ≤ (lenL n).length ∧ (lenL n).length ≤ 3 := by
  unfold lenL; split
  · simp
  · split <;> simp
theorem putT_length (t : UInt8) (v : List UInt8) : (putT t v).length = 1 + (lenL v.length).length + v.length := by simp [putT]; omega

theorem cutLen_len (n : Nat) (hn : n ≤ 65535) (q : List UInt8) : cutLen (lenL n ++ q) = .ok (n, q) := by
  unfold lenL
  by_cases h1 : n ≤ 127
  · rw [if_pos h1]
    show cutLen (UInt8.ofNat n :: q) = _
    rw [cutLen_cons]
    rw [u8_ofNat_toNat n (by omega), if_pos h1]
  · rw [if_neg h1]
    by_cases h2 : n ≤ 255
    · rw [if_pos h2]
      show cutLen (129 :: UInt8.ofNat n :: q) = _
      rw [cutLen_cons]
      rw [if_neg (by decide), if_pos rfl]
      unfold cutNum
      have e : ((UInt8.ofNat n :: q).getD 0 0).toNat = n := u8_ofNat_toNat n (by omega)
      rw [if_neg (by rw [e]; omega), if_neg (by simp)]
      simp only [List.take_succ_cons, List.take_zero, List.drop_succ_cons, List.drop_zero, numF]
      rw [u8_ofNat_toNat n (by omega)]; simp
    · rw [if_neg h2]
      show cutLen (130 :: UInt8.ofNat (n / 256) :: UInt8.ofNat n :: q) = _
      rw [cutLen_cons]
      rw [if_neg (by decide), if_neg (by decide), if_pos rfl]
      unfold cutNum
      have e : ((UInt8.ofNat (n / 256) :: UInt8.ofNat n :: q).getD 0 0).toNat = n / 256 := u8_ofNat_toNat _ (by omega)
      rw [if_neg (by rw [e]; omega), if_neg (by simp)]
      simp only [List.take_succ_cons, List.take_zero, List.drop_succ_cons, List.drop_zero, numF]
      rw [u8_ofNat_toNat _ (by omega)]
      have : (UInt8.ofNat n).toNat = n % 256 := by simp
      rw [this]
      congr 2
      omega
theorem cutP_put (t : UInt8) (v s : List UInt8) (ht : tagB t = true) (hv : v.length ≤ 65535) : cutP (putT t v ++ s) = .ok ((t, v), s) := by
  show cutP (t :: ((lenL v.length ++ v) ++ s)) = _
  rw [cutP_cons]
  rw [if_neg (by simp [ht]), List.append_assoc, cutLen_len _ hv]
  simp

theorem u8_eq {a b : UInt8} (h : a.toNat = b.toNat) : a = b := UInt8.toNat_inj.1 h
theorem ofNat_toNat8 (b : UInt8) : UInt8.ofNat b.toNat = b := by simp
theorem cutLen_ok {s q : List UInt8} {n : Nat} (h : cutLen s = .ok (n, q)) : n ≤ 65535 ∧ s = lenL n ++ q := by
  cases s with
  | nil => simp [cutLen] at h
  | cons b r =>
    rw [cutLen_cons] at h
    have hb := b.toNat_lt
    split at h
    · next h1 =>
      simp only [Rd.ok.injEq, Prod.mk.injEq] at h
      obtain ⟨rfl, rfl⟩ := h
      refine ⟨by omega, ?_⟩
      unfold lenL
      rw [if_pos h1, ofNat_toNat8]; rfl
    · split at h
      · next _ h2 =>
        subst h2
        unfold cutNum at h
        split at h
        · simp at h
        · next h3 =>
          split at h
          · simp at h
          · next h4 =>
            simp only [Rd.ok.injEq, Prod.mk.injEq] at h
            cases r with
            | nil => simp at h4
            | cons x r =>
              simp at h3 h
              obtain ⟨rfl, rfl⟩ := h
              have hx := x.toNat_lt
              simp only [numF, Nat.zero_mul, Nat.zero_add]
              refine ⟨by omega, ?_⟩
              unfold lenL
              rw [if_neg (by omega), if_pos (by omega), ofNat_toNat8]; rfl
      · split at h
        · next _ _ h2 =>
          subst h2
          unfold cutNum at h
          split at h
          · simp at h
          · next h3 =>
            split at h
            · simp at h
            · next h4 =>
              simp only [Rd.ok.injEq, Prod.mk.injEq] at h
              match r, h3, h4, h with
              | [], _, h4, _ => simp at h4
              | [_], _, h4, _ => simp at h4
              | x :: y :: r, h3, _, h =>
                simp at h3 h
                obtain ⟨rfl, rfl⟩ := h
                have hx := x.toNat_lt
                have hy := y.toNat_lt
                simp only [numF, Nat.zero_mul, Nat.zero_add]
                have hx1 : 1 ≤ x.toNat := by omega
                refine ⟨by omega, ?_⟩
                unfold lenL
                rw [if_neg (by omega), if_neg (by omega), show (x.toNat * 256 + y.toNat) / 256 = x.toNat by omega, ofNat_toNat8]
                congr 3
                apply u8_eq
                simp
        · simp at h
theorem cutP_ok {s r v : List UInt8} {t : UInt8} (h : cutP s = .ok ((t, v), r)) : tagB t = true ∧ v.length ≤ 65535 ∧ s = putT t v ++ r := by
  cases s with
  | nil => simp [cutP] at h
  | cons b q =>
    rw [cutP_cons] at h
    split at h
    · simp at h
    · next h1 =>
      cases hc : cutLen q with
      | er e => rw [hc] at h; simp at h
      | ok p =>
        obtain ⟨n, q2⟩ := p
        rw [hc] at h
        simp only at h
        split at h
        · simp at h
        · next h2 =>
          simp only [Rd.ok.injEq, Prod.mk.injEq] at h
          obtain ⟨⟨rfl, rfl⟩, rfl⟩ := h
          obtain ⟨hn, rfl⟩ := cutLen_ok hc
          have hl : (q2.take n).length = n := by simp; omega
          refine ⟨by simpa using h1, by omega, ?_⟩
          unfold putT
          rw [hl]
          simp
/-- Errors are 4 or 8. -/
theorem cutNum_er {s : List UInt8} {m l e : Nat} (h : cutNum s m l = .er e) : e = 4 ∨ e = 8 := by
  unfold cutNum at h
  split at h
  · simp at h; omega
  · split at h
    · simp at h; omega
    · simp at h
theorem cutLen_er {s : List UInt8} {e : Nat} (h : cutLen s = .er e) : e = 4 ∨ e = 8 := by
  cases s with
  | nil => simp [cutLen] at h; omega
  | cons b r =>
    rw [cutLen_cons] at h
    split at h
    · simp at h
    · split at h
      · exact cutNum_er h
      · split at h
        · exact cutNum_er h
        · simp at h; omega
theorem cutP_er {s : List UInt8} {e : Nat} (h : cutP s = .er e) : e = 4 ∨ e = 8 := by
  cases s with
  | nil => simp [cutP] at h; omega
  | cons b q =>
    rw [cutP_cons] at h
    split at h
    · simp at h; omega
    · cases hc : cutLen q with
      | er e => rw [hc] at h; simp at h; subst h; exact cutLen_er hc
      | ok p =>
        rw [hc] at h
        simp only at h
        split at h
        · simp at h; omega
        · simp at h

/-- A thing's bytes, cut within, are short. -/
theorem cutLen_short (n : Nat) (hn : n ≤ 65535) (k : Nat) (hk : k < (lenL n).length) : cutLen ((lenL n).take k) = .er 8 := by
  unfold lenL at hk ⊢
  by_cases h1 : n ≤ 127
  · rw [if_pos h1] at hk ⊢
    simp at hk; subst hk; rfl
  · rw [if_neg h1] at hk ⊢
    by_cases h2 : n ≤ 255
    · rw [if_pos h2] at hk ⊢
      simp at hk
      rcases (by omega : k = 0 ∨ k = 1) with rfl | rfl <;> rfl
    · rw [if_neg h2] at hk ⊢
      simp at hk
      rcases (by omega : k = 0 ∨ k = 1 ∨ k = 2) with rfl | rfl | rfl
      · rfl
      · rfl
      · show cutLen [130, UInt8.ofNat (n / 256)] = _
        rw [cutLen_cons]
        rw [if_neg (by decide), if_neg (by decide), if_pos rfl]
        unfold cutNum
        have e : ([UInt8.ofNat (n / 256)].getD 0 0).toNat = n / 256 := u8_ofNat_toNat _ (by omega)
        rw [if_neg (by rw [e]; omega), if_pos (by simp)]
theorem cutP_short (t : UInt8) (v : List UInt8) (ht : tagB t = true) (hv : v.length ≤ 65535) (k : Nat) (hk : k < (putT t v).length) : cutP ((putT t v).take k) = .er 8 := by
  cases k with
  | zero => rfl
  | succ k =>
    unfold putT
    rw [List.take_succ_cons]
    rw [cutP_cons]
    rw [if_neg (by simp [ht])]
    rw [putT_length] at hk
    by_cases h : k < (lenL v.length).length
    · rw [List.take_append_of_le_length (by omega), cutLen_short _ hv _ h]
    · have e : (lenL v.length ++ v).take k = lenL v.length ++ v.take (k - (lenL v.length).length) := by
        rw [List.take_append, List.take_of_length_le (by omega)]
      rw [e, cutLen_len _ hv]
      simp only
      rw [if_pos (by simp; omega)]

/-- Two things' bytes. -/
theorem put_begins {t u : UInt8} {v x : List UInt8} (ht : tagB t = true) (hv : v.length ≤ 65535) (hu : tagB u = true) (hx : x.length ≤ 65535) (h : putT t v <+: putT u x) : t = u ∧ v = x := by
  obtain ⟨s, hs⟩ := h
  have h1 := cutP_put t v s ht hv
  have h2 := cutP_put u x [] hu hx
  rw [hs] at h1
  rw [List.append_nil] at h2
  rw [h1] at h2
  simp only [Rd.ok.injEq, Prod.mk.injEq] at h2
  exact h2.1
end Go.Proofs.YtamlblfhjpajhaaDoor
