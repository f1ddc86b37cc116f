/-
  Records' texts, plainly.
  Records of keys, plainly: which are usable, what is made of a certificate's bytes, which chains are matched.
-/
import Derived.Lib.Split
import Derived.Test.YtnaoandleelbkaaGreatDoorXCm
import Derived.Test.YtnaoandleelbkaaGreatDoorTNm
import Derived.Test.YtnaoandleelbkaaGreatDoorJPm
import Derived.Test.YtnaoandleelbkaaGreatDoorZSm
namespace Go.Proofs.YtnaoandleelbkaaGreatDoor
open Go Go.RowKit
set_option maxRecDepth 100000
set_option linter.unusedSimpArgs false
set_option linter.unusedVariables false

/-- A record. -/
structure Rc where
  us : Nat
  se : Nat
  ma : Nat
  da : List UInt8
theorem rc_eq {a b : Rc} (h1 : a.us = b.us) (h2 : a.se = b.se) (h3 : a.ma = b.ma) (h4 : a.da = b.da) : a = b := by
  cases a; cases b; simp_all
/-- Its numbers are bytes. -/
def byteR (r : Rc) : Prop := r.us < 256 ∧ r.se < 256 ∧ r.ma < 256

theorem index_blank : ∀ (a b : List UInt8), (32 : UInt8) ∉ a → Lib.index (a ++ 32 :: b) [32] = (a.length : Int)
  | [], b, _ => by simp [Lib.index, List.isPrefixOf]
  | c :: a, b, h => by
    have h1 : (32 : UInt8) ∉ a := fun e => h (List.mem_cons_of_mem _ e)
    have h2 : ((32 : UInt8) == c) = false := by simp; intro e; exact h (by simp [e])
    have ih := index_blank a b h1
    simp only [List.cons_append, Lib.index, List.isPrefixOf, h2, Bool.false_and, Bool.false_eq_true, if_false, ih]
    rw [if_neg (by simp)]
    simp
theorem index_noblank : ∀ (s : List UInt8), (32 : UInt8) ∉ s → Lib.index s [32] = -1
  | [], _ => by simp [Lib.index]
  | c :: a, h => by
    have h1 : (32 : UInt8) ∉ a := fun e => h (List.mem_cons_of_mem _ e)
    have h2 : ((32 : UInt8) == c) = false := by simp; intro e; exact h (by simp [e])
    simp only [Lib.index, List.isPrefixOf, h2, Bool.false_and, Bool.false_eq_true, if_false, index_noblank a h1]
    simp
theorem split_hit (k : Nat) (a b : List UInt8) (h : (32 : UInt8) ∉ a) : Lib.splitK [32] 0 (k + 1) (a ++ 32 :: b) = a :: Lib.splitK [32] 0 k b := by
  rw [show Lib.splitK [32] 0 (k + 1) (a ++ 32 :: b) = if Lib.index (a ++ 32 :: b) [32] == -1 then [a ++ 32 :: b] else (a ++ 32 :: b).take ((Lib.index (a ++ 32 :: b) [32]).toNat + 0) :: Lib.splitK [32] 0 k ((a ++ 32 :: b).drop ((Lib.index (a ++ 32 :: b) [32]).toNat + 1)) from rfl]
  rw [index_blank a b h, if_neg (by simp), Int.toNat_natCast, Nat.add_zero, List.take_left' rfl, ← List.drop_drop, List.drop_left' rfl]
  rfl
theorem blank_cases (s : List UInt8) : (32 : UInt8) ∉ s ∨ ∃ a b, s = a ++ 32 :: b ∧ (32 : UInt8) ∉ a := by
  induction s with
  | nil => exact .inl (by simp)
  | cons c s ih =>
    by_cases hc : c = 32
    · exact .inr ⟨[], s, by simp [hc], by simp⟩
    · rcases ih with h | ⟨a, b, rfl, h⟩
      · exact .inl (by simp only [List.mem_cons, not_or]; exact ⟨fun e => hc e.symm, h⟩)
      · exact .inr ⟨c :: a, b, rfl, by simp only [List.mem_cons, not_or]; exact ⟨fun e => hc e.symm, h⟩⟩
theorem split_miss (k : Nat) (s : List UInt8) (h : (32 : UInt8) ∉ s) : Lib.splitK [32] 0 k s = [s] := by
  cases k with
  | zero => rfl
  | succ k => unfold Lib.splitK; rw [index_noblank s h]; rfl
theorem split_cons {k : Nat} {s a : List UInt8} {r : List (List UInt8)} (h : Lib.splitK [32] 0 k s = a :: r) (hr : r ≠ []) : ∃ k' b, k = k' + 1 ∧ s = a ++ 32 :: b ∧ (32 : UInt8) ∉ a ∧ Lib.splitK [32] 0 k' b = r := by
  cases k with
  | zero => simp [Lib.splitK] at h; exact absurd h.2 hr
  | succ k =>
    rcases blank_cases s with h1 | ⟨a', b, rfl, h1⟩
    · rw [split_miss _ _ h1] at h
      simp only [List.cons.injEq] at h
      exact absurd h.2.symm hr
    · rw [split_hit k a' b h1] at h
      simp only [List.cons.injEq] at h
      obtain ⟨rfl, h⟩ := h
      exact ⟨k, b, rfl, rfl, h1, h⟩
theorem split_four {s a b c d : List UInt8} (h : Lib.splitN s [32] 4 = [a, b, c, d]) : s = a ++ 32 :: (b ++ 32 :: (c ++ 32 :: d)) := by
  unfold Lib.splitN at h
  obtain ⟨k1, s1, _, rfl, _, h⟩ := split_cons h (by simp)
  obtain ⟨k2, s2, _, rfl, _, h⟩ := split_cons h (by simp)
  obtain ⟨k3, s3, _, rfl, _, h⟩ := split_cons h (by simp)
  have : s3 = d := by
    cases k3 with
    | zero => simpa [Lib.splitK] using h
    | succ k =>
      rcases blank_cases s3 with h1 | ⟨a', b', rfl, h1⟩
      · rw [split_miss _ _ h1] at h; simpa using h
      · rw [split_hit k a' b' h1] at h
        simp only [List.cons.injEq] at h
        obtain ⟨_, h⟩ := h
        have : Lib.splitK [32] 0 k b' ≠ [] := by cases k with
          | zero => simp [Lib.splitK]
          | succ k => unfold Lib.splitK; split <;> simp
        exact absurd h this
  rw [this]
theorem four_split {a b c d : List UInt8} (ha : (32 : UInt8) ∉ a) (hb : (32 : UInt8) ∉ b) (hc : (32 : UInt8) ∉ c) : Lib.splitN (a ++ 32 :: (b ++ 32 :: (c ++ 32 :: d))) [32] 4 = [a, b, c, d] := by
  unfold Lib.splitN
  rw [show min 4 ((a ++ 32 :: (b ++ 32 :: (c ++ 32 :: d))).length + 1) - 1 = 2 + 1 by simp only [List.length_append, List.length_cons]; omega, split_hit 2 _ _ ha, split_hit 1 _ _ hb, split_hit 0 _ _ hc]
  rfl

/-- A number's text, of a byte. -/
def numU (s : List UInt8) : Option Nat := if Nx.isNumB s = true ∧ Nx.valR s ≤ 255 then some (Nx.valR s) else none
/-- Data of a text. -/
def dataT (s : List UInt8) : Option (List UInt8) := if s = [45] then some [] else if s = [] then none else Hx.unhexL s
def textD (d : List UInt8) : List UInt8 := if d = [] then [45] else Hx.hexL d
def showR (r : Rc) : List UInt8 := Lib.decDigits r.us ++ 32 :: (Lib.decDigits r.se ++ 32 :: (Lib.decDigits r.ma ++ 32 :: textD r.da))
def parse4 (a b c d : List UInt8) : Option Rc :=
  match numU a, numU b, numU c, dataT d with
  | some u, some s, some m, some x => some ⟨u, s, m, x⟩
  | _, _, _, _ => none
def parseR (t : List UInt8) : Option Rc :=
  match Lib.splitN t [32] 4 with
  | [a, b, c, d] => parse4 a b c d
  | _ => none
theorem num_dec {n : Nat} (h : n < 256) : numU (Lib.decDigits n) = some n := by
  unfold numU
  rw [(Nx.dec_all n).2, if_pos ⟨Nx.dec_isNum n, by omega⟩]
theorem dec_num {s : List UInt8} {n : Nat} (h : numU s = some n) : Lib.decDigits n = s ∧ n < 256 := by
  unfold numU at h
  split at h
  · next h1 =>
    simp only [Option.some.injEq] at h
    subst h
    exact ⟨Nx.dec_val h1.1, by omega⟩
  · cases h
theorem dec_noblank (n : Nat) : (32 : UInt8) ∉ Lib.decDigits n := fun h => by
  have := List.all_eq_true.1 (Nx.dec_all n).1 _ h
  revert this; decide
theorem data_text (d : List UInt8) : dataT (textD d) = some d := by
  unfold dataT textD
  by_cases h : d = []
  · subst h; rfl
  · have hl := Hx.hex_length d
    have hp : 0 < d.length := List.length_pos_iff.2 h
    rw [if_neg h, if_neg (fun e => by rw [e] at hl; simp at hl; omega), if_neg (fun e => by rw [e] at hl; simp at hl; omega), Hx.unhex_hex]
theorem text_data {s x : List UInt8} (h : dataT s = some x) : textD x = s := by
  unfold dataT at h
  unfold textD
  split at h
  · next h1 =>
    simp only [Option.some.injEq] at h
    subst h; subst h1; rfl
  · split at h
    · cases h
    · next h1 h2 =>
      have := Hx.hex_unhex h
      have hx : x ≠ [] := fun e => by subst e; exact h2 (by rw [← this]; rfl)
      rw [if_neg hx, this]
theorem parse_show {r : Rc} (h : byteR r) : parseR (showR r) = some r := by
  unfold parseR showR
  rw [four_split (dec_noblank _) (dec_noblank _) (dec_noblank _)]
  simp only [parse4, num_dec h.1, num_dec h.2.1, num_dec h.2.2, data_text]
theorem parse4_some {a b c d : List UInt8} {r : Rc} (h : parse4 a b c d = some r) : numU a = some r.us ∧ numU b = some r.se ∧ numU c = some r.ma ∧ dataT d = some r.da := by
  unfold parse4 at h
  split at h
  · next h1 h2 h3 h4 =>
    simp only [Option.some.injEq] at h
    subst h
    exact ⟨h1, h2, h3, h4⟩
  · cases h
theorem parse_cases (t : List UInt8) : (∃ a b c d, Lib.splitN t [32] 4 = [a, b, c, d] ∧ parseR t = parse4 a b c d) ∨ ((Lib.splitN t [32] 4).length ≠ 4 ∧ parseR t = none) := by
  unfold parseR
  split
  · next a b c d h => exact .inl ⟨a, b, c, d, h, rfl⟩
  · next h =>
    refine .inr ⟨fun e => ?_, rfl⟩
    match hl : Lib.splitN t [32] 4, e with
    | [a, b, c, d], _ => exact h a b c d hl
theorem show_parse {t : List UInt8} {r : Rc} (h : parseR t = some r) : showR r = t ∧ byteR r := by
  rcases parse_cases t with ⟨a, b, c, d, h1, h2⟩ | ⟨_, h2⟩
  · rw [h2] at h
    obtain ⟨p1, p2, p3, p4⟩ := parse4_some h
    rw [split_four h1]
    unfold showR
    rw [(dec_num p1).1, (dec_num p2).1, (dec_num p3).1, text_data p4]
    exact ⟨rfl, (dec_num p1).2, (dec_num p2).2, (dec_num p3).2⟩
  · rw [h2] at h; cases h
end Go.Proofs.YtnaoandleelbkaaGreatDoor

namespace Go.Proofs.YtnaoandleelbkaaGreatDoor
open Go Go.RowKit
set_option maxRecDepth 100000
set_option linter.unusedSimpArgs false
set_option linter.unusedVariables false

def numB (u s m : Nat) : Bool := (u == 2 || u == 3) && decide (s < 2) && decide (m < 2)
def usableB (r : Rc) : Bool := if r.ma == 1 then numB r.us r.se r.ma && r.da.length == 32 else numB r.us r.se r.ma && (!r.da.isEmpty) && decide (r.da.length ≤ 512)
def takeD (s : Nat) (x : List UInt8) (c : Ct) : List UInt8 := if s = 0 then x else spkiL c.key
def makeD (s m : Nat) (x : List UInt8) (c : Ct) : List UInt8 := if m = 0 then takeD s x c else sumP (takeD s x c)
def dataR (u s m : Nat) (x : List UInt8) : List UInt8 := match decO x with
  | some c => if numB u s m then makeD s m x c else []
  | none => []
def makeR (u s m : Nat) (x : List UInt8) : Rc := ⟨u, s, m, dataR u s m x⟩
def ofB (r : Rc) (x : List UInt8) : Bool := usableB r && r.da == dataR r.us r.se r.ma x
def vouchL (chain : List (List UInt8)) (host : List UInt8) (now : Int) : List (List UInt8) :=
  if goodN (chainT chain) now = 0 ∨ hostB (ctAt (chainT chain) 0) host = false then [] else (chain.take (goodN (chainT chain) now)).drop 1
def matchR (r : Rc) (chain : List (List UInt8)) (host : List UInt8) (now : Int) : Bool := (if r.us = 3 then chain.take 1 else vouchL chain host now).any (ofB r)
def usablesL (l : List Rc) : List Rc := (l.take 4).filter usableB
def anyR (l : List Rc) (chain : List (List UInt8)) (host : List UInt8) (now : Int) : Bool := (usablesL l).any fun r => matchR r chain host now

theorem sumP_len (s : List UInt8) : (sumP s).length = 32 := by
  have h : ∀ l : List W32, (l.flatMap wordB).length = 4 * l.length := by
    intro l
    induction l with
    | nil => rfl
    | cons x l ih => rw [List.flatMap_cons, List.length_append, ih, wordB_length, List.length_cons]; omega
  unfold sumP
  rw [h]; rfl
theorem numB_iff {u s m : Nat} : numB u s m = true ↔ (u = 2 ∨ u = 3) ∧ s < 2 ∧ m < 2 := by
  unfold numB
  simp [and_assoc]
theorem key_lens {c : Ct} (h : mayC c = true) : 1 ≤ c.key.length ∧ c.key.length ≤ 64 := by
  unfold mayC keyB at h
  simp only [Bool.and_eq_true, decide_eq_true_eq] at h
  exact h.1.1.1.1
theorem spki_form {c : Ct} (h : mayC c = true) : spkiL c.key = formL c.key := by
  unfold spkiL
  have := key_lens h
  rw [if_pos (by unfold keyB; simp; omega)]
theorem form_lens {k : List UInt8} (h : k.length ≤ 64) : 0 < (formL k).length ∧ (formL k).length ≤ 512 := by
  rw [form_length h]; omega
theorem dec_len0 {x : List UInt8} {c : Ct} (h : decO x = some c) : 0 < x.length := by
  obtain ⟨_, hm, he, hl, _⟩ := decO_some h
  obtain ⟨a, b, hw⟩ := form_in c
  rw [← hl, (encE_zero he).2.2, hw]
  have := form_length (key_lens hm).2
  simp only [List.length_append]; omega
theorem make_len {s m : Nat} {x : List UInt8} {c : Ct} (h : decO x = some c) (hm : m < 2) : 0 < (makeD s m x c).length ∧ (makeD s m x c).length ≤ 512 ∧ (m = 1 → (makeD s m x c).length = 32) := by
  obtain ⟨h1, h2, _⟩ := decO_some h
  have ht : 0 < (takeD s x c).length ∧ (takeD s x c).length ≤ 512 := by
    unfold takeD
    split
    · exact ⟨dec_len0 h, h1⟩
    · rw [spki_form h2]; exact form_lens (key_lens h2).2
  unfold makeD
  split
  · next h0 => exact ⟨ht.1, ht.2, fun e => by omega⟩
  · rw [sumP_len]; exact ⟨by omega, by omega, fun _ => rfl⟩
theorem usable_num {r : Rc} (h : usableB r = true) : numB r.us r.se r.ma = true ∧ r.da ≠ [] := by
  unfold usableB at h
  split at h
  · simp only [Bool.and_eq_true, beq_iff_eq] at h
    exact ⟨h.1, fun e => by rw [e] at h; simp at h⟩
  · simp only [Bool.and_eq_true, Bool.not_eq_true', List.isEmpty_eq_false_iff] at h
    exact ⟨h.1.1, h.1.2⟩
theorem usable_make (u s m : Nat) (x : List UInt8) : usableB (makeR u s m x) = ((decO x).isSome && numB u s m) := by
  unfold makeR dataR usableB
  cases hd : decO x with
  | none => simp
  | some c =>
    cases hn : numB u s m with
    | false => simp
    | true =>
      obtain ⟨_, _, hm⟩ := numB_iff.1 hn
      obtain ⟨l1, l2, l3⟩ := make_len (s := s) hd hm
      simp only [hn, if_true, Bool.true_and, Option.isSome_some]
      split
      · next h1 => simp only [beq_iff_eq] at h1; simp [l3 h1]
      · have : makeD s m x c ≠ [] := fun e => by rw [e] at l1; simp at l1
        simp [l2, this]
theorem of_iff {r : Rc} {x : List UInt8} : ofB r x = true ↔ usableB r = true ∧ r.da = dataR r.us r.se r.ma x := by
  unfold ofB
  simp
theorem of_some {r : Rc} {x : List UInt8} (h : ofB r x = true) : ∃ c, decO x = some c ∧ r.da = makeD r.se r.ma x c := by
  obtain ⟨h1, h2⟩ := of_iff.1 h
  obtain ⟨h3, h4⟩ := usable_num h1
  unfold dataR at h2
  cases hd : decO x with
  | none => rw [hd] at h2; exact absurd h2 h4
  | some c =>
    rw [hd] at h2
    simp only [h3, if_true] at h2
    exact ⟨c, rfl, h2⟩
theorem of_not {r : Rc} {x : List UInt8} (h : usableB r = false) : ofB r x = false := by unfold ofB; rw [h]; rfl
theorem of_made {u s m : Nat} {x y : List UInt8} {a : Ct} (ha : decO x = some a) (hn : numB u s m = true) : ofB (makeR u s m x) y = (makeD s m x a == dataR u s m y) := by
  unfold ofB
  rw [usable_make, ha, hn]
  unfold makeR
  simp only [Option.isSome_some, Bool.true_and]
  rw [show dataR u s m x = makeD s m x a by unfold dataR; rw [ha]; simp [hn]]
/-- What is made of bytes is theirs; of others just if these are the same, or what is taken is. -/
theorem made_facts {u s m : Nat} {x y : List UInt8} {a : Ct} (ha : decO x = some a) (hn : numB u s m = true) :
    ofB (makeR u s m x) x = true ∧ (decO y = none → ofB (makeR u s m x) y = false) ∧
    ∀ b, decO y = some b → (m = 0 → ofB (makeR u s m x) y = (decide (x = y) || (s == 1 && decide (a.key = b.key)))) ∧ ((x = y ∨ (s = 1 ∧ a.key = b.key)) → ofB (makeR u s m x) y = true) := by
  obtain ⟨_, hs2, hm2⟩ := numB_iff.1 hn
  obtain ⟨l1, _, _⟩ := make_len (s := s) ha hm2
  have hdx : ∀ {z : List UInt8} {d : Ct}, decO z = some d → dataR u s m z = makeD s m z d := fun hz => by unfold dataR; rw [hz]; simp [hn]
  refine ⟨by rw [of_made ha hn, hdx ha]; simp, fun hy => ?_, fun b hb => ⟨fun hm => ?_, fun h => ?_⟩⟩
  · rw [of_made ha hn, show dataR u s m y = [] by unfold dataR; rw [hy]]
    simp only [beq_eq_false_iff_ne, ne_eq]
    intro e; rw [e] at l1; simp at l1
  · subst hm
    rw [of_made ha hn, hdx hb]
    have hka := (decO_some ha).2.1
    have hkb := (decO_some hb).2.1
    have he : (makeD s 0 x a = makeD s 0 y b) ↔ (x = y ∨ (s = 1 ∧ a.key = b.key)) := by
      unfold makeD takeD
      simp only [if_true]
      by_cases h0 : s = 0
      · subst h0; simp
      · have h1 : s = 1 := by omega
        subst h1
        simp only [Nat.one_ne_zero, if_false, true_and]
        rw [spki_form hka, spki_form hkb]
        constructor
        · intro h; exact .inr (form_inj (key_lens hka).2 (key_lens hkb).2 h)
        · rintro (h | h)
          · subst h; rw [ha] at hb; cases hb; rfl
          · rw [h]
    rw [Bool.eq_iff_iff]
    simp only [beq_iff_eq, he, Bool.or_eq_true, Bool.and_eq_true, decide_eq_true_eq]
  · rw [of_made ha hn, hdx hb]
    have he : takeD s x a = takeD s y b := by
      rcases h with rfl | ⟨rfl, hk⟩
      · rw [ha] at hb; cases hb; rfl
      · unfold takeD; simp [hk]
    unfold makeD
    rw [he]; simp

theorem take_one (chain : List (List UInt8)) : (chain.take 1).take 1 = chain.take 1 := by rw [List.take_take]; rfl
/-- Of Usage 3 the first one alone counts. -/
theorem match_own {r : Rc} (h : r.us = 3) (chain : List (List UInt8)) (host other : List UInt8) (now then_ : Int) :
    matchR r chain host now = matchR r (chain.take 1) other then_ ∧ matchR r chain host now = (decide (0 < chain.length) && ofB r (chain.getD 0 [])) := by
  unfold matchR
  rw [if_pos h, if_pos h, take_one]
  refine ⟨rfl, ?_⟩
  cases chain with
  | nil => rfl
  | cons s l => simp
theorem vouch_one (chain : List (List UInt8)) (host : List UInt8) (now : Int) : vouchL (chain.take 1) host now = [] := by
  unfold vouchL
  split
  · rfl
  · have h1 : (chain.take 1).take (goodN (chainT (chain.take 1)) now) = chain.take (min (goodN (chainT (chain.take 1)) now) 1) := by rw [List.take_take]
    rw [h1]
    refine List.drop_eq_nil_of_le ?_
    rw [List.length_take]; omega
theorem match_one {r : Rc} (h : r.us ≠ 3) (chain : List (List UInt8)) (host : List UInt8) (now : Int) : matchR r (chain.take 1) host now = false := by
  unfold matchR
  rw [if_neg h, vouch_one]; rfl
theorem match_none {r : Rc} (h : usableB r = false) (chain : List (List UInt8)) (host : List UInt8) (now : Int) : matchR r chain host now = false := by
  unfold matchR
  rw [List.any_eq_false]
  intro x _
  rw [of_not h]; simp
theorem match_usage {r : Rc} (h2 : r.us ≠ 2) (h3 : r.us ≠ 3) (chain : List (List UInt8)) (host : List UInt8) (now : Int) : matchR r chain host now = false := by
  refine match_none ?_ _ _ _
  cases h : usableB r with
  | false => rfl
  | true =>
    have := (numB_iff.1 (usable_num h).1).1
    omega
theorem readL_take (chain : List (List UInt8)) : ∀ k, k < (readL chain).length → k < chain.length := fun k hk => Nat.lt_of_lt_of_le hk (readL_len chain)
/-- Of others: what a match says of the first two, and of more behind. -/
theorem match_other {r : Rc} (h : r.us ≠ 3) {chain : List (List UInt8)} {host : List UInt8} {now : Int} (hm : matchR r chain host now = true) :
    1 < (chainT chain).length ∧ hostB (ctAt (chainT chain) 0) host = true ∧ dateB (ctAt (chainT chain) 0) now = true ∧ linkedB ((chainT chain).take 2) = true ∧
    ∀ more, matchR r ((chain ++ more).take (max chain.length 4)) host now = true := by
  unfold matchR at hm
  rw [if_neg h, List.any_eq_true] at hm
  obtain ⟨x, hx, ho⟩ := hm
  unfold vouchL at hx
  split at hx
  · cases hx
  · next hg =>
    simp only [not_or, Bool.not_eq_false] at hg
    obtain ⟨hg0, hh⟩ := hg
    obtain ⟨n, hn⟩ : ∃ n, n = goodN (chainT chain) now := ⟨_, rfl⟩
    rw [← hn] at hx hg0
    have hlen := good_le (chainT chain) now
    rw [← hn] at hlen
    obtain ⟨i, hi, hxi⟩ := List.getElem_of_mem hx
    rw [List.length_drop, List.length_take] at hi
    have h1 : 1 < goodN (chainT chain) now := by omega
    obtain ⟨g1, g2, g3⟩ := good_lt.1 h1
    refine ⟨g1, hh, g2 0 (by omega), ?_, fun more => ?_⟩
    · rw [linked_iff]
      intro k hk
      rw [List.length_take] at hk
      obtain rfl : k = 0 := by omega
      rw [ctAt_take (by omega), ctAt_take (by omega)]
      exact g3 0 (by omega)
    · obtain ⟨full, hf⟩ : ∃ full, full = (chain ++ more).take (max chain.length 4) := ⟨_, rfl⟩
      rw [← hf]
      have hc : ∃ m, chainT full = chainT chain ++ m := by
        have : full.take 4 = (chain ++ more).take 4 := by rw [hf, List.take_take]; congr 1; omega
        unfold chainT
        rw [this]
        exact chainT_app chain more
      obtain ⟨m, hc⟩ := hc
      have hle : n ≤ goodN (chainT full) now := by
        rcases Nat.lt_or_ge (n - 1) (goodN (chainT full) now) with h | h
        · omega
        · have := good_lt.1 (show n - 1 < goodN (chainT chain) now by omega)
          obtain ⟨q1, q2, q3⟩ := this
          have : n - 1 < goodN (chainT full) now := by
            rw [hc]
            refine good_lt.2 ⟨by rw [List.length_append]; omega, fun k hk => ?_, fun k hk => ?_⟩
            · rw [ctAt_app (by omega)]; exact q2 k hk
            · rw [ctAt_app (by omega), ctAt_app (by omega)]; exact q3 k hk
          omega
      have hcl : n ≤ chain.length := by
        have := readL_len (chain.take 4)
        rw [List.length_take] at this
        unfold chainT at hlen
        omega
      unfold matchR
      rw [if_neg h, List.any_eq_true]
      refine ⟨x, ?_, ho⟩
      unfold vouchL
      rw [if_neg (by
        rw [hc, ctAt_app (by omega), not_or]
        exact ⟨by rw [← hc]; omega, by rw [hh]; simp⟩)]
      have e1 : full.take n = chain.take n := by
        rw [hf, List.take_take, Nat.min_eq_left (by omega), List.take_append_of_le_length hcl]
      obtain ⟨t, ht⟩ : full.take n <+: full.take (goodN (chainT full) now) := List.take_prefix_take_left hle
      rw [← ht, List.drop_append, e1]
      refine List.mem_append_left _ ?_
      rw [← hxi]
      exact List.getElem_mem _

theorem usables_le (l : List Rc) : (usablesL l).length ≤ 4 := by
  unfold usablesL
  have := List.length_filter_le usableB (l.take 4)
  rw [List.length_take] at this
  omega
theorem usables_twice (l : List Rc) : usablesL (usablesL l) = usablesL l := by
  have h := usables_le l
  show ((usablesL l).take 4).filter usableB = usablesL l
  rw [List.take_of_length_le h]
  unfold usablesL
  rw [List.filter_filter]; simp
theorem any_more {l : List Rc} {r : Rc} {chain : List (List UInt8)} {host : List UInt8} {now : Int} : anyR (l ++ [r]) chain host now = (anyR l chain host now || (decide (l.length < 4) && (usableB r && matchR r chain host now))) := by
  unfold anyR usablesL
  rw [List.take_append]
  by_cases h : l.length < 4
  · rw [List.filter_append, List.any_append]
    congr 1
    rw [List.take_of_length_le (show [r].length ≤ 4 - l.length by simp; omega)]
    simp only [h, decide_true, Bool.true_and]
    cases hu : usableB r with
    | false => simp [List.filter, hu]
    | true => simp [List.filter, hu]
  · rw [show 4 - l.length = 0 by omega]
    simp [h]
end Go.Proofs.YtnaoandleelbkaaGreatDoor
