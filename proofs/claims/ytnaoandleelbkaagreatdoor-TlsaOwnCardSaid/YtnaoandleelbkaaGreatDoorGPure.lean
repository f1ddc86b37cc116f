/-
  Certificates, plainly: what may be, its bytes, what is read of bytes; what was encoded is decoded, and back.
-/
import Derived.Test.YtnaoandleelbkaaGreatDoorEPm
import Derived.Test.YtnaoandleelbkaaGreatDoorNPm
namespace Go.Proofs.YtnaoandleelbkaaGreatDoor
open Go Go.RowKit
set_option maxRecDepth 100000
set_option linter.unusedSimpArgs false
set_option linter.unusedVariables false

/-- A certificate. -/
structure Ct where
  key : List UInt8
  sig : List UInt8
  names : List (List UInt8)
  fr : Int
  un : Int
  ca : Bool

def keyB (s : List UInt8) : Bool := decide (1 ≤ s.length ∧ s.length ≤ 64)
def timeB (n : Int) : Bool := decide (0 ≤ n ∧ n ≤ 1099511627776)
def mayC (c : Ct) : Bool := keyB c.key && (c.sig.length == 32) && c.names.all patL && timeB c.fr && timeB c.un
/-- A key's form. -/
def formL (k : List UInt8) : List UInt8 := putT 48 (putT 4 k)
def spkiL (k : List UInt8) : List UInt8 := if keyB k then formL k else []
def nameT (n : List UInt8) : Tv := (130, n)
def namesL (ns : List (List UInt8)) : List UInt8 := putsL (ns.map nameT)
def caL (b : Bool) : List UInt8 := if b then [255] else [0]
def caB (s : List UInt8) : Bool := s == [255] || s == [0]
/-- What a certificate's bytes have. -/
def partsC (c : Ct) : List Tv := [(48, putT 4 c.key), (4, c.sig), (48, namesL c.names), (2, intL c.fr), (2, intL c.un), (1, caL c.ca)]
def rowC (c : Ct) : List UInt8 := putsL (partsC c)
def writeC (c : Ct) : List UInt8 := putT 48 (rowC c)
def fewB (c : Ct) : Bool := mayC c && decide (c.names.length ≤ 64)
def encE (c : Ct) : Nat := if fewB c = false then 4 else if 512 < (writeC c).length then 40 else 0
def encL (c : Ct) : List UInt8 := if encE c = 0 then writeC c else []

/-- The one thing that a text is. -/
def aloneO (s : List UInt8) (t : UInt8) : Option (List UInt8) := match cutP s with
  | .ok ((u, v), r) => if r = [] ∧ u = t then some v else none
  | .er _ => none
def namesO (s : List UInt8) : Option (List (List UInt8)) := match allR s with
  | .ok l => if l.all (fun x => x.1 == 130) then some (l.map (·.2)) else none
  | .er _ => none
def it0 : Tv := (0, [])
def tagsC : List UInt8 := [48, 4, 48, 2, 2, 1]
/-- The certificate that six things tell. -/
def ofItems (l : List Tv) : Option Ct :=
  match aloneO (l.getD 0 it0).2 4, namesO (l.getD 2 it0).2 with
  | some k, some ns => if readB (l.getD 3 it0).2 && readB (l.getD 4 it0).2 && caB (l.getD 5 it0).2 then some ⟨k, (l.getD 1 it0).2, ns, valL (l.getD 3 it0).2, valL (l.getD 4 it0).2, (l.getD 5 it0).2 == [255]⟩ else none
  | _, _ => none
def readC (s : List UInt8) : Option Ct := match aloneO s 48 with
  | none => none
  | some row => match allR row with
    | .er _ => none
    | .ok l => if l.map (·.1) = tagsC then ofItems l else none
def decO (s : List UInt8) : Option Ct := if 512 < s.length then none else match readC s with
  | some c => if mayC c then some c else none
  | none => none
def decE (s : List UInt8) : Nat := if 512 < s.length then 40 else if (decO s).isSome then 0 else 4

theorem keyB_iff {s : List UInt8} : keyB s = true ↔ 1 ≤ s.length ∧ s.length ≤ 64 := by unfold keyB; simp
theorem timeB_iff {n : Int} : timeB n = true ↔ 0 ≤ n ∧ n ≤ 1099511627776 := by unfold timeB; simp
theorem tag48 : tagB 48 = true := by decide
theorem tag4 : tagB 4 = true := by decide
theorem tag130 : tagB 130 = true := by decide
theorem tag2 : tagB 2 = true := by decide
theorem tag1 : tagB 1 = true := by decide
theorem pat_len {s : List UInt8} (h : patL s = true) : s.length ≤ 255 := by
  unfold patL at h
  have := may_len h
  unfold bareL at this
  split at this
  · rw [List.length_drop] at this; omega
  · omega
theorem caL_length (b : Bool) : (caL b).length = 1 := by cases b <;> rfl
theorem caB_caL (b : Bool) : caB (caL b) = true := by cases b <;> rfl
theorem caL_is (b : Bool) : (caL b == [255]) = b := by cases b <;> rfl
theorem caL_of {s : List UInt8} (h : caB s = true) : caL (s == [255]) = s := by
  unfold caB at h
  simp only [Bool.or_eq_true, beq_iff_eq] at h
  rcases h with rfl | rfl <;> rfl

theorem mayC_iff {c : Ct} : mayC c = true ↔ (1 ≤ c.key.length ∧ c.key.length ≤ 64) ∧ c.sig.length = 32 ∧ (∀ n ∈ c.names, patL n = true) ∧ (0 ≤ c.fr ∧ c.fr ≤ 1099511627776) ∧ (0 ≤ c.un ∧ c.un ≤ 1099511627776) := by
  unfold mayC
  simp only [Bool.and_eq_true, keyB_iff, timeB_iff, beq_iff_eq, List.all_eq_true]
  constructor
  · rintro ⟨⟨⟨⟨h1, h2⟩, h3⟩, h4⟩, h5⟩; exact ⟨h1, h2, h3, h4, h5⟩
  · rintro ⟨h1, h2, h3, h4, h5⟩; exact ⟨⟨⟨⟨h1, h2⟩, h3⟩, h4⟩, h5⟩
theorem fewB_iff {c : Ct} : fewB c = true ↔ mayC c = true ∧ c.names.length ≤ 64 := by unfold fewB; simp

theorem putsL_le (l : List Tv) (m : Nat) (h : ∀ x ∈ l, x.2.length ≤ m) : (putsL l).length ≤ l.length * (m + 4) := by
  induction l with
  | nil => simp [putsL]
  | cons x l ih =>
    have h1 := h x (by simp)
    have h2 := ih (fun y hy => h y (by simp [hy]))
    have h3 := putT_length x.1 x.2
    have h4 := lenL_length x.2.length
    simp only [putsL, List.length_append, List.length_cons]
    have : (l.length + 1) * (m + 4) = l.length * (m + 4) + (m + 4) := by rw [Nat.add_mul]; omega
    omega
theorem putT_le (t : UInt8) (v : List UInt8) : v.length + 2 ≤ (putT t v).length ∧ (putT t v).length ≤ v.length + 4 := by
  have h3 := putT_length t v
  have h4 := lenL_length v.length
  omega
theorem putT_ge (t : UInt8) (v : List UInt8) : v.length + 2 ≤ (putT t v).length := (putT_le t v).1
theorem putT_most (t : UInt8) (v : List UInt8) : (putT t v).length ≤ v.length + 4 := (putT_le t v).2
theorem names_good {ns : List (List UInt8)} (h : ∀ n ∈ ns, patL n = true) : ∀ x ∈ ns.map nameT, goodT x := by
  intro x hx
  obtain ⟨n, hn, rfl⟩ := List.mem_map.1 hx
  have := pat_len (h n hn)
  exact ⟨tag130, by show n.length ≤ 65535; omega⟩
theorem names_le {ns : List (List UInt8)} (h : ∀ n ∈ ns, patL n = true) (hl : ns.length ≤ 64) : (namesL ns).length ≤ 16576 := by
  have := putsL_le (ns.map nameT) 255 (fun x hx => by
    obtain ⟨n, hn, rfl⟩ := List.mem_map.1 hx
    exact pat_len (h n hn))
  rw [List.length_map] at this
  show (putsL (ns.map nameT)).length ≤ _
  omega
theorem parts_good {c : Ct} (h : fewB c = true) : ∀ x ∈ partsC c, goodT x := by
  obtain ⟨hm, hl⟩ := fewB_iff.1 h
  obtain ⟨⟨_, h1⟩, h2, h3, _, _⟩ := mayC_iff.1 hm
  have h4 := names_le h3 hl
  have h5 := putT_most 4 c.key
  have h6 := intL_length c.fr
  have h7 := intL_length c.un
  have h8 := caL_length c.ca
  intro x hx
  simp only [partsC, List.mem_cons, List.not_mem_nil, or_false] at hx
  rcases hx with rfl | rfl | rfl | rfl | rfl | rfl
  · exact ⟨tag48, by show (putT 4 c.key).length ≤ _; omega⟩
  · exact ⟨tag4, by show c.sig.length ≤ _; omega⟩
  · exact ⟨tag48, by show (namesL c.names).length ≤ _; omega⟩
  · exact ⟨tag2, by show (intL c.fr).length ≤ _; omega⟩
  · exact ⟨tag2, by show (intL c.un).length ≤ _; omega⟩
  · exact ⟨tag1, by show (caL c.ca).length ≤ _; omega⟩
theorem row_le {c : Ct} (h : fewB c = true) : (rowC c).length ≤ 17000 := by
  obtain ⟨hm, hl⟩ := fewB_iff.1 h
  obtain ⟨⟨_, h1⟩, h2, h3, _, _⟩ := mayC_iff.1 hm
  have h4 := names_le h3 hl
  have h5 := putT_most 4 c.key
  have h6 := intL_length c.fr
  have h7 := intL_length c.un
  have h8 := caL_length c.ca
  have a1 := putT_most 48 (putT 4 c.key)
  have a2 := putT_most 4 c.sig
  have a3 := putT_most 48 (namesL c.names)
  have a4 := putT_most 2 (intL c.fr)
  have a5 := putT_most 2 (intL c.un)
  have a6 := putT_most 1 (caL c.ca)
  simp only [rowC, partsC, putsL, List.length_append, List.length_nil]
  omega

theorem alone_put (t : UInt8) (v : List UInt8) (ht : tagB t = true) (hv : v.length ≤ 65535) : aloneO (putT t v) t = some v := by
  have := cutP_put t v [] ht hv
  rw [List.append_nil] at this
  unfold aloneO; rw [this]; simp
theorem alone_some {s v : List UInt8} {t : UInt8} (h : aloneO s t = some v) : s = putT t v ∧ v.length ≤ 65535 ∧ tagB t = true := by
  unfold aloneO at h
  cases hc : cutP s with
  | er e => rw [hc] at h; simp at h
  | ok p =>
    obtain ⟨⟨u, x⟩, r⟩ := p
    rw [hc] at h
    simp only at h
    split at h
    · next hr =>
      obtain ⟨rfl, rfl⟩ := hr
      simp only [Option.some.injEq] at h
      subst h
      obtain ⟨h1, h2, h3⟩ := cutP_ok hc
      exact ⟨by rw [h3]; simp, h2, h1⟩
    · simp at h
theorem names_put {ns : List (List UInt8)} (h : ∀ n ∈ ns, patL n = true) (hl : ns.length ≤ 64) : namesO (namesL ns) = some ns := by
  unfold namesO namesL
  rw [allR_puts _ (names_good h), if_pos (by simpa using hl)]
  simp only
  rw [if_pos (by simp [nameT])]
  simp [nameT, Function.comp_def]

/-- What All tells was put so. -/
theorem seqL_put (f : Nat) (s : List UInt8) (hf : s.length ≤ f) (h : okS (seqL s)) : s = putsL ((seqL s).map (·.1)) := by
  induction f generalizing s with
  | zero =>
    obtain rfl : s = [] := List.length_eq_zero_iff.1 (by omega)
    rfl
  | succ f ih =>
    by_cases h0 : s = []
    · subst h0; rfl
    · cases hc : cutP s with
      | er e =>
        rw [seqL_er h0 hc] at h
        have := h ((0, []), e) (by simp)
        simp only at this
        have := cutP_er hc
        omega
      | ok p =>
        obtain ⟨⟨t, v⟩, r⟩ := p
        have h1 := cutP_shorter hc
        obtain ⟨_, _, h2⟩ := cutP_ok hc
        rw [seqL_ok hc] at h ⊢
        have h3 := ih r (by omega) (fun x hx => h x (by simp [hx]))
        show s = putT t v ++ putsL ((seqL r).map (·.1))
        rw [← h3]; exact h2
theorem allOf_ok {q : List (Tv × Nat)} {acc l : List Tv} (h : allOf q acc = .ok l) (ha : acc.length ≤ 64) : okS q ∧ l = acc ++ q.map (·.1) ∧ l.length ≤ 64 := by
  induction q generalizing acc with
  | nil =>
    simp only [allOf, Rd.ok.injEq] at h
    subst h
    exact ⟨fun x hx => (by cases hx), by simp, ha⟩
  | cons x q ih =>
    obtain ⟨x, e⟩ := x
    simp only [allOf] at h
    split at h
    · simp at h
    · next he =>
      split at h
      · simp at h
      · next hn =>
        obtain ⟨h1, h2, h3⟩ := ih h (by simp; omega)
        refine ⟨fun y hy => ?_, by rw [h2]; simp, h3⟩
        rcases List.mem_cons.1 hy with rfl | hy
        · simpa using he
        · exact h1 y hy
theorem allR_ok {s : List UInt8} {l : List Tv} (h : allR s = .ok l) : s = putsL l ∧ l.length ≤ 64 := by
  obtain ⟨h1, h2, h3⟩ := allOf_ok (q := seqL s) (acc := []) h (by simp)
  rw [List.nil_append] at h2
  exact ⟨by rw [h2]; exact seqL_put s.length s (Nat.le_refl _) h1, h3⟩
theorem names_some {s : List UInt8} {ns : List (List UInt8)} (h : namesO s = some ns) : s = namesL ns ∧ ns.length ≤ 64 := by
  unfold namesO at h
  cases ha : allR s with
  | er e => rw [ha] at h; simp at h
  | ok l =>
    rw [ha] at h
    simp only at h
    split at h
    · next ht =>
      simp only [Option.some.injEq] at h
      subst h
      obtain ⟨h1, h2⟩ := allR_ok ha
      refine ⟨?_, by simpa using h2⟩
      rw [h1]
      unfold namesL
      rw [List.map_map]
      congr 1
      conv => lhs; rw [← List.map_id l]
      refine List.map_congr_left fun x hx => ?_
      have := List.all_eq_true.1 ht x hx
      obtain ⟨t, v⟩ := x
      simp only [beq_iff_eq] at this
      subst this; rfl
    · simp at h

theorem time_int {n : Int} (h : 0 ≤ n ∧ n ≤ 1099511627776) : -9223372036854775808 ≤ n ∧ n < 9223372036854775808 := by omega
/-- What was written is read. -/
theorem read_write {c : Ct} (h : fewB c = true) : readC (writeC c) = some c := by
  obtain ⟨hm, hl⟩ := fewB_iff.1 h
  obtain ⟨⟨_, h1⟩, h2, h3, h4, h5⟩ := mayC_iff.1 hm
  have hr := row_le h
  unfold readC
  rw [show writeC c = putT 48 (rowC c) from rfl, alone_put 48 (rowC c) tag48 (by omega)]
  simp only
  rw [show rowC c = putsL (partsC c) from rfl, allR_puts _ (parts_good h), if_pos (by simp [partsC])]
  simp only
  rw [if_pos (by rfl)]
  have e1 : aloneO (putT 4 c.key) 4 = some c.key := alone_put 4 c.key tag4 (by omega)
  have e2 : namesO (namesL c.names) = some c.names := names_put h3 hl
  have e3 := readB_intL (time_int h4)
  have e4 := readB_intL (time_int h5)
  have e5 := valL_intL (time_int h4)
  have e6 := valL_intL (time_int h5)
  unfold ofItems partsC
  simp only [List.getD_cons_zero, List.getD_cons_succ, e1, e2, e3, e4, e5, e6, caB_caL, caL_is, Bool.and_self, if_true]
theorem readB_val {s : List UInt8} (h : readB s = true) : intL (valL s) = s := by
  unfold readB at h
  simp only [Bool.and_eq_true, beq_iff_eq] at h
  exact h.2
theorem six {l : List Tv} (h : l.map (·.1) = tagsC) : ∃ a b c d e f, l = [(48, a), (4, b), (48, c), (2, d), (2, e), (1, f)] := by
  match l, h with
  | [(_, a), (_, b), (_, c), (_, d), (_, e), (_, f)], h =>
    simp only [tagsC, List.map_cons, List.map_nil, List.cons.injEq, and_true] at h
    obtain ⟨rfl, rfl, rfl, rfl, rfl, rfl⟩ := h
    exact ⟨a, b, c, d, e, f, rfl⟩
  | [], h => simp [tagsC] at h
  | [_], h => simp [tagsC] at h
  | [_, _], h => simp [tagsC] at h
  | [_, _, _], h => simp [tagsC] at h
  | [_, _, _, _], h => simp [tagsC] at h
  | [_, _, _, _, _], h => simp [tagsC] at h
  | _ :: _ :: _ :: _ :: _ :: _ :: _ :: _, h => simp [tagsC] at h
/-- What is read was written so. -/
theorem write_read {s : List UInt8} {c : Ct} (h : readC s = some c) : writeC c = s ∧ c.names.length ≤ 64 := by
  unfold readC at h
  cases ha : aloneO s 48 with
  | none => rw [ha] at h; simp at h
  | some row =>
    rw [ha] at h
    simp only at h
    cases hb : allR row with
    | er e => rw [hb] at h; simp at h
    | ok l =>
      rw [hb] at h
      simp only at h
      split at h
      · next ht =>
        obtain ⟨x0, x1, x2, x3, x4, x5, rfl⟩ := six ht
        obtain ⟨hs, _, _⟩ := alone_some ha
        obtain ⟨hr, _⟩ := allR_ok hb
        unfold ofItems at h
        simp only [List.getD_cons_zero, List.getD_cons_succ] at h
        cases hk : aloneO x0 4 with
        | none => rw [hk] at h; simp at h
        | some k =>
          cases hn : namesO x2 with
          | none => rw [hk, hn] at h; simp at h
          | some ns =>
            rw [hk, hn] at h
            simp only at h
            split at h
            · next hc =>
              simp only [Option.some.injEq] at h
              subst h
              simp only [Bool.and_eq_true] at hc
              obtain ⟨⟨h3, h4⟩, h5⟩ := hc
              obtain ⟨e0, _, _⟩ := alone_some hk
              obtain ⟨e2, hle⟩ := names_some hn
              refine ⟨?_, hle⟩
              rw [hs, hr]
              unfold writeC rowC partsC
              simp only
              rw [readB_val h3, readB_val h4, caL_of h5, ← e0, ← e2]
            · simp at h
      · simp at h

/-! ### What follows -/
theorem encE_cases (c : Ct) : encE c = 4 ∨ encE c = 40 ∨ encE c = 0 := by
  unfold encE; split
  · exact .inl rfl
  · split
    · exact .inr (.inl rfl)
    · exact .inr (.inr rfl)
theorem encE_zero {c : Ct} (h : encE c = 0) : fewB c = true ∧ (writeC c).length ≤ 512 ∧ encL c = writeC c := by
  have h' := h
  unfold encE at h'
  split at h'
  · omega
  · next h1 =>
    split at h'
    · omega
    · exact ⟨by simpa using h1, by omega, by unfold encL; rw [if_pos h]⟩
theorem encE_not {c : Ct} (h : encE c ≠ 0) : encL c = [] := by unfold encL; rw [if_neg h]
theorem encL_le (c : Ct) : (encL c).length ≤ 512 := by
  by_cases h : encE c = 0
  · rw [(encE_zero h).2.2]; exact (encE_zero h).2.1
  · rw [encE_not h]; simp
theorem encE_form {c : Ct} : encE c = 4 ↔ (mayC c = false ∨ 64 < c.names.length) := by
  unfold encE
  constructor
  · intro h
    split at h
    · next h1 =>
      unfold fewB at h1
      simp only [Bool.and_eq_false_iff, decide_eq_false_iff_not] at h1
      rcases h1 with h1 | h1
      · exact .inl h1
      · exact .inr (by omega)
    · split at h <;> omega
  · intro h
    rw [if_pos]
    unfold fewB
    simp only [Bool.and_eq_false_iff, decide_eq_false_iff_not]
    rcases h with h | h
    · exact .inl h
    · exact .inr (by omega)
theorem dec_enc {c : Ct} (h : encE c = 0) : decO (encL c) = some c ∧ decE (encL c) = 0 := by
  obtain ⟨h1, h2, h3⟩ := encE_zero h
  have h4 := (fewB_iff.1 h1).1
  have e : decO (encL c) = some c := by
    unfold decO
    rw [h3, if_neg (by omega), read_write h1]
    simp only
    rw [if_pos h4]
  refine ⟨e, ?_⟩
  unfold decE
  rw [e, if_neg (by have := encL_le c; omega)]; rfl
theorem decO_some {s : List UInt8} {c : Ct} (h : decO s = some c) : s.length ≤ 512 ∧ mayC c = true ∧ encE c = 0 ∧ encL c = s ∧ decE s = 0 := by
  have h' := h
  unfold decO at h
  split at h
  · simp at h
  · next hl =>
    cases hr : readC s with
    | none => rw [hr] at h; simp at h
    | some d =>
      rw [hr] at h
      simp only at h
      split at h
      · next hm =>
        simp only [Option.some.injEq] at h
        subst h
        obtain ⟨h1, h2⟩ := write_read hr
        have h3 : fewB d = true := fewB_iff.2 ⟨hm, h2⟩
        have h4 : encE d = 0 := by unfold encE; rw [if_neg (by rw [h3]; simp), h1, if_neg (by omega)]
        refine ⟨by omega, hm, h4, by rw [(encE_zero h4).2.2, h1], ?_⟩
        unfold decE
        rw [h', if_neg (by omega)]; rfl
      · simp at h
theorem decE_zero {s : List UInt8} (h : decE s = 0) : ∃ c, decO s = some c := by
  unfold decE at h
  split at h
  · omega
  · split at h
    · next h1 => exact Option.isSome_iff_exists.1 h1
    · omega
theorem decE_not {s : List UInt8} (h : decE s ≠ 0) : decO s = none := by
  cases h2 : decO s with
  | none => rfl
  | some c => exact absurd (decO_some h2).2.2.2.2 h
theorem encL_inj {c d : Ct} (hc : encE c = 0) (hd : encE d = 0) (h : encL c = encL d) : c = d := by
  have h1 := (dec_enc hc).1
  have h2 := (dec_enc hd).1
  rw [h, h2] at h1
  simpa using h1.symm
/-- A proper beginning, or more behind, is none's. -/
theorem dec_cut {c : Ct} (h : encE c = 0) (k : Nat) (hk : k < (encL c).length) : decE ((encL c).take k) = 4 := by
  obtain ⟨h1, h2, h3⟩ := encE_zero h
  have hr := row_le h1
  have hs : cutP ((encL c).take k) = .er 8 := by
    rw [h3] at hk ⊢
    exact cutP_short 48 (rowC c) tag48 (by omega) k hk
  have hn : readC ((encL c).take k) = none := by unfold readC aloneO; rw [hs]
  unfold decE decO
  rw [hn]
  have := encL_le c
  rw [if_neg (by rw [List.length_take]; omega)]
  simp
theorem dec_more {c : Ct} (h : encE c = 0) (m : List UInt8) : decE (encL c ++ m) = 0 ↔ m = [] := by
  constructor
  · intro hd
    obtain ⟨d, hd⟩ := decE_zero hd
    obtain ⟨_, _, h4, h5, _⟩ := decO_some hd
    obtain ⟨h1, h2, h3⟩ := encE_zero h
    obtain ⟨g1, g2, g3⟩ := encE_zero h4
    have hr := row_le h1
    have hq := row_le g1
    have a1 := cutP_put 48 (rowC c) m tag48 (by omega)
    have a2 := cutP_put 48 (rowC d) [] tag48 (by omega)
    rw [List.append_nil] at a2
    rw [h3, show encL d = putT 48 (rowC d) from g3] at h5
    rw [show putT 48 (rowC c) = writeC c from rfl, ← h5, a2] at a1
    simp only [Rd.ok.injEq, Prod.mk.injEq] at a1
    exact a1.2.symm
  · rintro rfl
    rw [List.append_nil]
    exact (dec_enc h).2
/-- A name more. -/
def addN (c : Ct) (n : List UInt8) : Ct := { c with names := c.names ++ [n] }
theorem lenL_mono {m n : Nat} (h : m ≤ n) : (lenL m).length ≤ (lenL n).length := by
  unfold lenL
  split
  · split
    · simp
    · split <;> simp
  · split
    · rw [if_neg (by omega)]; split <;> simp
    · rw [if_neg (by omega), if_neg (by omega)]; simp
theorem putT_grow {t : UInt8} {v x : List UInt8} {n : Nat} (h : v.length + n ≤ x.length) : (putT t v).length + n ≤ (putT t x).length := by
  rw [putT_length, putT_length]
  have := lenL_mono (show v.length ≤ x.length by omega)
  omega
theorem write_more (c : Ct) (n : List UInt8) : (writeC c).length + (n.length + 2) ≤ (writeC (addN c n)).length := by
  unfold writeC
  refine putT_grow ?_
  have h1 : (namesL c.names).length + (n.length + 2) ≤ (namesL (c.names ++ [n])).length := by
    unfold namesL
    rw [List.map_append, putsL_app, List.length_append]
    have := putT_ge 130 n
    show _ ≤ _ + (putT 130 n ++ []).length
    rw [List.append_nil]; omega
  have h2 := putT_grow (t := 48) h1
  simp only [rowC, partsC, putsL, addN, List.length_append, List.length_nil] at h2 ⊢
  omega
/-- A key's form stands in its certificate's bytes. -/
theorem form_in (c : Ct) : ∃ a b, writeC c = a ++ formL c.key ++ b := by
  refine ⟨48 :: lenL (rowC c).length, putsL (partsC c).tail, ?_⟩
  show 48 :: (lenL (rowC c).length ++ (formL c.key ++ putsL (partsC c).tail)) = _
  simp
theorem form_inj {j k : List UInt8} (hj : j.length ≤ 64) (hk : k.length ≤ 64) (h : formL j = formL k) : j = k := by
  have p1 := putT_most 4 j
  have p2 := putT_most 4 k
  have a1 := alone_put 48 (putT 4 j) tag48 (by omega)
  have a2 := alone_put 48 (putT 4 k) tag48 (by omega)
  rw [show putT 48 (putT 4 j) = putT 48 (putT 4 k) from h, a2] at a1
  have b1 := alone_put 4 j tag4 (by omega)
  have b2 := alone_put 4 k tag4 (by omega)
  simp only [Option.some.injEq] at a1
  rw [← a1, b2] at b1
  simpa using b1.symm
theorem form_length {k : List UInt8} (hk : k.length ≤ 64) : (formL k).length = k.length + 4 := by
  have h1 : (putT 4 k).length = k.length + 2 := by rw [putT_length]; unfold lenL; rw [if_pos (by omega)]; simp; omega
  unfold formL
  rw [putT_length, h1]; unfold lenL; rw [if_pos (by omega)]; simp; omega
end Go.Proofs.YtnaoandleelbkaaGreatDoor
