/-
  The contracts of package name's Parent, Match; of counts.
  Chains of certificates, plainly: whose one is, its dates, links, anchors, what is read, and how it is judged.
  Rows of certificates; the laid words of the world; dates and links of certificates as values.
  The contracts of Host, and of what it calls: a closure over the host, the library's search by a function.
-/
import Derived.Test.YtnaoandleelbkaaGreatDoorNJm
import Derived.Test.YtnaoandleelbkaaGreatDoorGRow
import Derived.Test.YtnaoandleelbkaaGreatDoorGLm
import Derived.Test.YtnaoandleelbkaaGreatDoorEPut
import Derived.Deep.RegionHeld3
namespace Go.Proofs.YtnaoandleelbkaaGreatDoor
set_option linter.unusedSimpArgs false
set_option linter.unusedVariables false
open Go Go.RowKit Go.Shelf
set_option maxRecDepth 100000

theorem below_of_drewN {w w' : World} {n : Nat} (h : Below (w.drewN n).heap.size (w.drewN n) w') : Below w.heap.size w w' := ⟨h.os, h.tape, h.output, h.size, h.block⟩
/-- What Parent and Under tell. -/
def optV (r : Option (List UInt8)) : Value := match r with
  | some a => .tuple #[sv a, .bool true]
  | none => .tuple #[sv [], .bool false]

set_option maxHeartbeats 1000000 in
theorem parent_any (s : List UInt8) (w : World) (hs : s.length ≤ 1000000) (hM : ML w) : Calls Tryz.prog 145 #[.string (str s)] w fun e w' => e = .returned (optV (parentL s)) ∧ Below w.heap.size w w' := by
  have HM := Lib.hid hM
  clear hM
  cases hm : mayL s with
  | false =>
    have HF := Lib.hid (parent_not hm)
    have HY := Lib.hid hm
    clear hm
    go_enter Tryz.func145, Tryz.ntmps145
    go_wp2_with fail
    refine (may_any s _ hs HM.out).mono ?_
    rintro e w2 ⟨rfl, hb2⟩
    rw [HY.out]
    have HB2 := Lib.hid hb2
    clear hb2
    go_wp2_with fail
    go_ret2
    rw [HF.out]
    exact ⟨rfl, HB2.out⟩
  | true =>
    have hl := may_len hm
    have HY := Lib.hid hm
    clear hm
    rcases dot_cases s with ⟨h1, h2, h3⟩ | ⟨a, t, h1, h2, h3, h4⟩
    · have HF := Lib.hid (show parentL s = none by unfold parentL; rw [h1]; simp)
      have HC := Lib.hid (cut_nodot h2)
      clear h1 h2 h3
      go_enter Tryz.func145, Tryz.ntmps145
      go_wp2_with fail
      refine (may_any s _ hs HM.out).mono ?_
      rintro e w2 ⟨rfl, hb2⟩
      rw [HY.out]
      have HB2 := Lib.hid hb2
      clear hb2
      go_wp2_with fail
      refine (cutd_call s _ hs (HM.out.step HB2.out) HC.out).mono ?_
      rintro e w3 ⟨rfl, n, rfl⟩
      go_wp2_with fail
      refine (clone_any (str []) _ (by decide)).mono ?_
      rintro e w4 ⟨rfl, hb4⟩
      have HB4 := Lib.hid hb4
      clear hb4
      go_wp2_with fail
      go_ret2
      rw [HF.out]
      exact ⟨rfl, HB2.out.trans ((below_of_drewN HB4.out).mono HB2.out.size)⟩
    · have HF := Lib.hid (show parentL s = some t by unfold parentL; rw [h3, h4, HY.out]; rfl)
      have htl : t.length ≤ s.length := by rw [h1]; simp; omega
      have HC := Lib.hid (show Lib.cut s [46] = (a, t, true) by rw [h1]; exact cut_dot t h2)
      clear h1 h2 h3 h4
      go_enter Tryz.func145, Tryz.ntmps145
      go_wp2_with fail
      refine (may_any s _ hs HM.out).mono ?_
      rintro e w2 ⟨rfl, hb2⟩
      rw [HY.out]
      have HB2 := Lib.hid hb2
      clear hb2
      go_wp2_with fail
      refine (cutd_call s _ hs (HM.out.step HB2.out) HC.out).mono ?_
      rintro e w3 ⟨rfl, n, rfl⟩
      go_wp2_with fail
      refine (clone_any (str t) _ (by simp [ByteArray.size]; omega)).mono ?_
      rintro e w4 ⟨rfl, hb4⟩
      have HB4 := Lib.hid hb4
      clear hb4
      go_wp2_with fail
      go_ret2
      rw [HF.out]
      exact ⟨rfl, HB2.out.trans ((below_of_drewN HB4.out).mono HB2.out.size)⟩

set_option maxHeartbeats 1000000 in
theorem match_any (p s : List UInt8) (w : World) (_hp : p.length ≤ 1000000) (hs : s.length ≤ 1000000) (hM : ML w) : Calls Tryz.prog 91 #[.string (str p), .string (str s)] w fun e w' => e = .returned (.bool (matchL p s)) ∧ Below w.heap.size w w' := by
  have HM := Lib.hid hM
  clear hM
  cases hm : mayL s with
  | false =>
    have HF := Lib.hid (show matchL p s = false by unfold matchL; rw [hm]; rfl)
    have HY := Lib.hid hm
    clear hm
    go_enter Tryz.func91, Tryz.ntmps91
    go_wp2_with fail
    refine (may_any s _ hs HM.out).mono ?_
    rintro e w2 ⟨rfl, hb2⟩
    rw [HY.out]
    have HB2 := Lib.hid hb2
    clear hb2
    go_wp2_with fail
    go_ret
    rw [HF.out]
    exact ⟨rfl, HB2.out⟩
  | true =>
    have HY := Lib.hid hm
    have hcut : ∀ W, Calls Tryz.prog 142 #[.string (str p), .string { data := #[42, 46] }] W fun e w' => e = .returned (.tuple #[sv (bareL p), .bool (starred p)]) ∧ w' = W := fun W => by
      have hc := Tryz.strings_CutPrefix (str p) { data := #[42, 46] } W
      have e1 : (str p).data.toList = p := by simp
      have e2 : (⟨#[42, 46]⟩ : ByteArray).data.toList = [42, 46] := rfl
      rw [e1, e2] at hc
      exact hc
    have HC := Lib.hid hcut
    clear hcut
    cases hst : starred p with
    | false =>
      have hbare : bareL p = p := by unfold bareL; rw [hst]; rfl
      rw [hst, hbare] at HC
      have HF := Lib.hid (show matchL p s = (p == s) by unfold matchL; rw [hm, hst]; rfl)
      clear hm hst hbare
      go_enter Tryz.func91, Tryz.ntmps91
      go_wp2_with fail
      refine (may_any s _ hs HM.out).mono ?_
      rintro e w2 ⟨rfl, hb2⟩
      rw [HY.out]
      have HB2 := Lib.hid hb2
      clear hb2
      go_wp2_with fail
      refine (HC.out _).mono ?_
      rintro e w1 ⟨rfl, rfl⟩
      go_wp2_with fail
      go_ret
      rw [HF.out]
      exact ⟨rfl, HB2.out⟩
    | true =>
      have hbare : bareL p = p.drop 2 := by unfold bareL; rw [hst]; rfl
      rw [hst, hbare] at HC
      have HF := Lib.hid (match_starred (s := s) hst)
      clear hm hst hbare
      obtain ⟨q, hq⟩ : ∃ q, q = p.drop 2 := ⟨_, rfl⟩
      rw [← hq] at HF HC
      cases hpa : parentL s with
      | none =>
        rw [hpa] at HF
        have HP := Lib.hid hpa
        clear hpa hq
        go_enter Tryz.func91, Tryz.ntmps91
        go_wp2_with fail
        refine (may_any s _ hs HM.out).mono ?_
        rintro e w2 ⟨rfl, hb2⟩
        rw [HY.out]
        have HB2 := Lib.hid hb2
        clear hb2
        go_wp2_with fail
        refine (HC.out _).mono ?_
        rintro e w1 ⟨rfl, rfl⟩
        go_wp2_with fail
        refine (parent_any s _ hs (HM.out.step HB2.out)).mono ?_
        rintro e w3 ⟨rfl, hb3⟩
        have HB3 := Lib.hid (HB2.out.trans (hb3.mono HB2.out.size))
        clear hb3
        rw [HP.out]
        unfold optV
        go_wp2_with fail
        go_ret
        rw [HF.out]
        exact ⟨rfl, HB3.out⟩
      | some t =>
        rw [hpa] at HF
        have HP := Lib.hid hpa
        clear hpa hq
        go_enter Tryz.func91, Tryz.ntmps91
        go_wp2_with fail
        refine (may_any s _ hs HM.out).mono ?_
        rintro e w2 ⟨rfl, hb2⟩
        rw [HY.out]
        have HB2 := Lib.hid hb2
        clear hb2
        go_wp2_with fail
        refine (HC.out _).mono ?_
        rintro e w1 ⟨rfl, rfl⟩
        go_wp2_with fail
        refine (parent_any s _ hs (HM.out.step HB2.out)).mono ?_
        rintro e w3 ⟨rfl, hb3⟩
        have HB3 := Lib.hid (HB2.out.trans (hb3.mono HB2.out.size))
        clear hb3
        rw [HP.out]
        unfold optV
        go_wp2_with fail
        go_ret
        rw [HF.out, show (some t == some q) = (q == t) by rw [Option.some_beq_some, BEq.comm]]
        exact ⟨rfl, HB3.out⟩

def countsB (n : List UInt8) : Bool := !starred n || decide (2 ≤ (labelsL (n.drop 2)).length)
set_option maxHeartbeats 1000000 in
theorem counts_any (s : List UInt8) (w : World) (hs : s.length ≤ 1000000) (hM : ML w) : Calls Tryz.prog 90 #[sv s] w fun e w' => e = .returned (.bool (countsB s)) ∧ Below w.heap.size w w' := by
  have HM := Lib.hid hM
  have hcut : ∀ W, Calls Tryz.prog 142 #[.string (str s), .string { data := #[42, 46] }] W fun e w' => e = .returned (.tuple #[sv (bareL s), .bool (starred s)]) ∧ w' = W := fun W => by
    have hc := Tryz.strings_CutPrefix (str s) { data := #[42, 46] } W
    have e1 : (str s).data.toList = s := by simp
    have e2 : (⟨#[42, 46]⟩ : ByteArray).data.toList = [42, 46] := rfl
    rw [e1, e2] at hc
    exact hc
  cases hst : starred s with
  | false =>
    rw [hst] at hcut
    have HC := Lib.hid hcut
    have HF := Lib.hid (show countsB s = true by unfold countsB; rw [hst]; rfl)
    clear hM hcut hst
    go_enter Tryz.func90, Tryz.ntmps90
    go_wp2_with (go_at_call 142; refine (HC.out _).mono ?_; rintro e w1 ⟨rfl, rfl⟩)
    go_ret
    rw [HF.out]
    exact ⟨rfl, Below.refl _ _⟩
  | true =>
    have hbare : bareL s = s.drop 2 := by unfold bareL; rw [hst]; rfl
    rw [hst, hbare] at hcut
    have HC := Lib.hid hcut
    have hl : (s.drop 2).length ≤ 1000000 := by rw [List.length_drop]; omega
    have HF := Lib.hid (show countsB s = decide (2 ≤ (labelsL (s.drop 2)).length) by unfold countsB; rw [hst]; rfl)
    have HL := Lib.hid (fun W (h : ML W) => labels_call (s.drop 2) W hl h)
    obtain ⟨n, hn⟩ : ∃ n, n = (labelsL (s.drop 2)).length := ⟨_, rfl⟩
    rw [← hn] at HF
    have HN := Lib.hid hn
    obtain ⟨t, ht⟩ : ∃ t, t = s.drop 2 := ⟨_, rfl⟩
    rw [← ht] at HC HL HN
    clear hM hcut hst hbare hl hn ht
    go_enter Tryz.func90, Tryz.ntmps90
    go_wp2_with (first
      | (go_at_call 142; refine (HC.out _).mono ?_; rintro e w1 ⟨rfl, rfl⟩)
      | (go_at_call 143; refine (HL.out _ HM.out).mono ?_; rintro e w1 ⟨v, rfl, hv⟩; have hb := hv.1; obtain ⟨A, cp, rfl⟩ := hv.form; rw [List.length_map, ← HN.out]; clear hv))
    go_ret
    rw [HF.out, ← decide_eq_decide.2 (show ((2 : Int) ≤ (n : Int)) ↔ 2 ≤ n by omega)]
    exact ⟨rfl, hb⟩
end Go.Proofs.YtnaoandleelbkaaGreatDoor

namespace Go.Proofs.YtnaoandleelbkaaGreatDoor
open Go Go.RowKit
set_option maxRecDepth 100000
set_option linter.unusedSimpArgs false
set_option linter.unusedVariables false

def ownsB (host n : List UInt8) : Bool := countsB n && matchL n host
def hostB (c : Ct) (host : List UInt8) : Bool := c.names.any (ownsB host)
def dateB (c : Ct) (now : Int) : Bool := decide (c.fr ≤ now) && decide (now ≤ c.un)
def linkB (c d : Ct) : Bool := d.ca && c.sig == digestL d.key
def ctAt (l : List Ct) (k : Nat) : Ct := l.getD k ct0
def linkedB : List Ct → Bool
  | [] => true
  | [_] => true
  | c :: d :: r => linkB c d && linkedB (d :: r)
def moreN (now : Int) : List Ct → Nat
  | [] => 0
  | [_] => 0
  | c :: d :: r => if dateB d now && linkB c d then 1 + moreN now (d :: r) else 0
def goodN (l : List Ct) (now : Int) : Nat := if l = [] then 0 else if dateB (ctAt l 0) now then 1 + moreN now l else 0
def anchB (l : List Ct) (now : Int) (an : List (List UInt8)) : Bool := (l.take (goodN l now)).any fun c => an.contains c.sig
def readL : List (List UInt8) → List Ct
  | [] => []
  | s :: r => match decO s with
    | some c => c :: readL r
    | none => []
def chainT (chain : List (List UInt8)) : List Ct := readL (chain.take 4)
def judgeN (chain : List (List UInt8)) (host : List UInt8) (now : Int) (an : List (List UInt8)) : Nat :=
  if chainT chain = [] then 3 else if dateB (ctAt (chainT chain) 0) now = false then 1 else if hostB (ctAt (chainT chain) 0) host = false then 2 else if anchB (chainT chain) now an = false then 3 else 0

theorem ctAt_zero (c : Ct) (l : List Ct) : ctAt (c :: l) 0 = c := rfl
theorem ctAt_succ (c : Ct) (l : List Ct) (k : Nat) : ctAt (c :: l) (k + 1) = ctAt l k := rfl
theorem ctAt_mem {l : List Ct} {k : Nat} (h : k < l.length) : ctAt l k ∈ l := by
  unfold ctAt
  rw [List.getD_eq_getElem?_getD, List.getElem?_eq_getElem h]
  exact List.getElem_mem h
theorem ctAt_app {l m : List Ct} {k : Nat} (h : k < l.length) : ctAt (l ++ m) k = ctAt l k := by
  unfold ctAt
  rw [List.getD_eq_getElem?_getD, List.getD_eq_getElem?_getD, List.getElem?_append_left h]
theorem ctAt_take {l : List Ct} {k n : Nat} (h : k < n) : ctAt (l.take n) k = ctAt l k := by
  unfold ctAt
  rw [List.getD_eq_getElem?_getD, List.getD_eq_getElem?_getD, List.getElem?_take_of_lt h]

theorem linked_iff : ∀ (l : List Ct), linkedB l = true ↔ ∀ k, k + 1 < l.length → linkB (ctAt l k) (ctAt l (k + 1)) = true
  | [] => by simp [linkedB]
  | [_] => by simp [linkedB]
  | c :: d :: r => by
    have ih := linked_iff (d :: r)
    simp only [linkedB, Bool.and_eq_true, ih]
    constructor
    · rintro ⟨h1, h2⟩ k hk
      cases k with
      | zero => exact h1
      | succ k => exact h2 k (by simpa using hk)
    · intro h
      exact ⟨h 0 (by simp), fun k hk => h (k + 1) (by simpa using hk)⟩
theorem more_lt {now : Int} : ∀ (l : List Ct) (i : Nat), i < moreN now l ↔ i + 1 < l.length ∧ (∀ k, k < i + 1 → dateB (ctAt l (k + 1)) now = true) ∧ ∀ k, k < i + 1 → linkB (ctAt l k) (ctAt l (k + 1)) = true
  | [], i => by simp [moreN]
  | [_], i => by simp [moreN]
  | c :: d :: r, i => by
    have ih := more_lt (now := now) (d :: r)
    unfold moreN
    split
    · next h =>
      rw [Bool.and_eq_true] at h
      cases i with
      | zero =>
        refine ⟨fun _ => ⟨by simp, fun k hk => ?_, fun k hk => ?_⟩, fun _ => by omega⟩
        · obtain rfl : k = 0 := by omega
          exact h.1
        · obtain rfl : k = 0 := by omega
          exact h.2
      | succ i =>
        rw [show (i + 1 < 1 + moreN now (d :: r)) ↔ i < moreN now (d :: r) by omega, ih i]
        constructor
        · rintro ⟨h1, h2, h3⟩
          refine ⟨by simpa using h1, fun k hk => ?_, fun k hk => ?_⟩
          · cases k with
            | zero => exact h.1
            | succ k => exact h2 k (by omega)
          · cases k with
            | zero => exact h.2
            | succ k => exact h3 k (by omega)
        · rintro ⟨h1, h2, h3⟩
          exact ⟨by simpa using h1, fun k hk => h2 (k + 1) (by omega), fun k hk => h3 (k + 1) (by omega)⟩
    · next h =>
      constructor
      · intro h; omega
      · rintro ⟨_, h2, h3⟩
        exact absurd (by rw [Bool.and_eq_true]; exact ⟨h2 0 (by omega), h3 0 (by omega)⟩) h
theorem good_lt {l : List Ct} {now : Int} {i : Nat} : i < goodN l now ↔ i < l.length ∧ (∀ k, k ≤ i → dateB (ctAt l k) now = true) ∧ ∀ k, k < i → linkB (ctAt l k) (ctAt l (k + 1)) = true := by
  unfold goodN
  split
  · next h => subst h; simp
  · next h =>
    split
    · next hd =>
      cases i with
      | zero =>
        refine ⟨fun _ => ⟨List.length_pos_iff.2 h, fun k hk => ?_, fun k hk => by omega⟩, fun _ => by omega⟩
        obtain rfl : k = 0 := by omega
        exact hd
      | succ i =>
        rw [show (i + 1 < 1 + moreN now l) ↔ i < moreN now l by omega, more_lt]
        constructor
        · rintro ⟨h1, h2, h3⟩
          refine ⟨h1, fun k hk => ?_, fun k hk => h3 k hk⟩
          cases k with
          | zero => exact hd
          | succ k => exact h2 k (by omega)
        · rintro ⟨h1, h2, h3⟩
          exact ⟨h1, fun k hk => h2 (k + 1) (by omega), fun k hk => h3 k hk⟩
    · next hd =>
      constructor
      · intro h; omega
      · rintro ⟨_, h2, _⟩
        exact absurd (h2 0 (by omega)) hd
theorem good_le (l : List Ct) (now : Int) : goodN l now ≤ l.length := by
  rcases Nat.lt_or_ge l.length (goodN l now) with h | h
  · exact absurd (good_lt.1 h).1 (by omega)
  · exact h
theorem more_le (l : List Ct) (now : Int) : moreN now l + 1 ≤ l.length ∨ moreN now l = 0 := by
  rcases Nat.eq_zero_or_pos (moreN now l) with h | h
  · exact .inr h
  · have := ((more_lt (now := now) l (moreN now l - 1)).1 (by omega)).1
    exact .inl (by omega)
/-- Anchored: by the words. -/
def AnchI (l : List Ct) (now : Int) (an : List (List UInt8)) (i : Nat) : Prop :=
  i < l.length ∧ (∀ k, k ≤ i → dateB (ctAt l k) now = true) ∧ (∀ k, k < i → linkB (ctAt l k) (ctAt l (k + 1)) = true) ∧ (ctAt l i).sig ∈ an
theorem anch_iff {l : List Ct} {now : Int} {an : List (List UInt8)} : anchB l now an = true ↔ ∃ i, AnchI l now an i := by
  unfold anchB
  rw [List.any_eq_true]
  constructor
  · rintro ⟨c, hc, ha⟩
    obtain ⟨i, hi, rfl⟩ := List.getElem_of_mem hc
    rw [List.length_take] at hi
    obtain ⟨h1, h2, h3⟩ := good_lt.1 (show i < goodN l now by omega)
    refine ⟨i, h1, h2, h3, ?_⟩
    have e : ctAt l i = (l.take (goodN l now))[i]'(by rw [List.length_take]; omega) := by
      rw [List.getElem_take]
      unfold ctAt
      rw [List.getD_eq_getElem?_getD, List.getElem?_eq_getElem h1]; rfl
    rw [e]
    simpa using ha
  · rintro ⟨i, h1, h2, h3, h4⟩
    have hg := good_lt.2 ⟨h1, h2, h3⟩
    refine ⟨ctAt l i, ?_, by simpa using h4⟩
    rw [← ctAt_take hg]
    exact ctAt_mem (by rw [List.length_take]; omega)
theorem anch_anchors {l : List Ct} {now : Int} {an bs : List (List UInt8)} (h : anchB l now an = true) (hs : ∀ x ∈ an, x ∈ bs) : anchB l now bs = true := by
  obtain ⟨i, h1, h2, h3, h4⟩ := anch_iff.1 h
  exact anch_iff.2 ⟨i, h1, h2, h3, hs _ h4⟩
theorem anch_app {l m : List Ct} {now : Int} {an : List (List UInt8)} (h : anchB l now an = true) : anchB (l ++ m) now an = true := by
  obtain ⟨i, h1, h2, h3, h4⟩ := anch_iff.1 h
  refine anch_iff.2 ⟨i, by rw [List.length_append]; omega, fun k hk => ?_, fun k hk => ?_, ?_⟩
  · rw [ctAt_app (by omega)]; exact h2 k hk
  · rw [ctAt_app (by omega), ctAt_app (by omega)]; exact h3 k hk
  · rw [ctAt_app (by omega)]; exact h4
theorem date_between {c : Ct} {a b d : Int} (h1 : a ≤ b) (h2 : b ≤ d) (ha : dateB c a = true) (hd : dateB c d = true) : dateB c b = true := by
  unfold dateB at *
  simp only [Bool.and_eq_true, decide_eq_true_eq] at *
  omega
theorem anch_between {l : List Ct} {a b d : Int} {an : List (List UInt8)} (h1 : a ≤ b) (h2 : b ≤ d) (ha : anchB l a an = true) (hd : anchB l d an = true) : anchB l b an = true := by
  obtain ⟨i, i1, i2, i3, i4⟩ := anch_iff.1 ha
  obtain ⟨j, j1, j2, j3, j4⟩ := anch_iff.1 hd
  rcases Nat.le_total i j with h | h
  · exact anch_iff.2 ⟨i, i1, fun k hk => date_between h1 h2 (i2 k hk) (j2 k (by omega)), i3, i4⟩
  · exact anch_iff.2 ⟨j, j1, fun k hk => date_between h1 h2 (i2 k (by omega)) (j2 k hk), j3, j4⟩

theorem readL_app (a b : List (List UInt8)) : ∃ m, readL (a ++ b) = readL a ++ m := by
  induction a with
  | nil => exact ⟨_, rfl⟩
  | cons s a ih =>
    obtain ⟨m, hm⟩ := ih
    simp only [List.cons_append, readL]
    cases decO s with
    | none => exact ⟨[], rfl⟩
    | some c => exact ⟨m, by simp [hm]⟩
theorem chainT_app (a b : List (List UInt8)) : ∃ m, chainT (a ++ b) = chainT a ++ m := by
  unfold chainT
  rw [List.take_append]
  exact readL_app _ _
theorem readL_len (a : List (List UInt8)) : (readL a).length ≤ a.length := by
  induction a with
  | nil => exact Nat.le_refl _
  | cons s a ih =>
    simp only [readL]
    cases decO s with
    | none => simp
    | some c => simp; omega
theorem chainT_len (a : List (List UInt8)) : (chainT a).length ≤ 4 := by
  have := readL_len (a.take 4)
  rw [List.length_take] at this
  unfold chainT; omega
theorem readL_mem {a : List (List UInt8)} {c : Ct} (h : c ∈ readL a) : ∃ s ∈ a, decO s = some c := by
  induction a with
  | nil => simp [readL] at h
  | cons s a ih =>
    simp only [readL] at h
    cases hd : decO s with
    | none => rw [hd] at h; simp at h
    | some d =>
      rw [hd] at h
      simp only [List.mem_cons] at h
      rcases h with rfl | h
      · exact ⟨s, by simp, hd⟩
      · obtain ⟨t, h1, h2⟩ := ih h
        exact ⟨t, by simp [h1], h2⟩

theorem judge_right {chain : List (List UInt8)} {host : List UInt8} {now : Int} {an : List (List UInt8)} : judgeN chain host now an = 0 ↔
    chainT chain ≠ [] ∧ dateB (ctAt (chainT chain) 0) now = true ∧ hostB (ctAt (chainT chain) 0) host = true ∧ anchB (chainT chain) now an = true := by
  unfold judgeN
  split
  · next h => simp [h]
  · next h =>
    split
    · next h1 => simp [h1]
    · next h1 =>
      split
      · next h2 => simp [h2]
      · next h2 =>
        split
        · next h3 => simp [h3]
        · next h3 =>
          simp only [Bool.not_eq_false] at h1 h2 h3
          simp [h, h1, h2, h3]
theorem judge_le (chain : List (List UInt8)) (host : List UInt8) (now : Int) (an : List (List UInt8)) : judgeN chain host now an ≤ 3 := by
  unfold judgeN
  repeat' split
  all_goals omega
theorem judge_expired {chain : List (List UInt8)} {host : List UInt8} {now : Int} {an : List (List UInt8)} (h : chainT chain ≠ []) : judgeN chain host now an = 1 ↔ dateB (ctAt (chainT chain) 0) now = false := by
  unfold judgeN
  rw [if_neg h]
  split
  · next h1 => simp [h1]
  · next h1 =>
    repeat' split
    all_goals simp [h1]
theorem judge_app {chain more : List (List UInt8)} {host : List UInt8} {now : Int} {an : List (List UInt8)} (h : judgeN chain host now an = 0) : judgeN (chain ++ more) host now an = 0 := by
  obtain ⟨h1, h2, h3, h4⟩ := judge_right.1 h
  obtain ⟨m, hm⟩ := chainT_app chain more
  have hp := List.length_pos_iff.2 h1
  refine judge_right.2 ⟨?_, ?_, ?_, ?_⟩
  · rw [hm]; simp [h1]
  · rw [hm, ctAt_app hp]; exact h2
  · rw [hm, ctAt_app hp]; exact h3
  · rw [hm]; exact anch_app h4
theorem judge_anchors {chain : List (List UInt8)} {host : List UInt8} {now : Int} {an bs : List (List UInt8)} (h : judgeN chain host now an = 0) (hs : ∀ x ∈ an, x ∈ bs) : judgeN chain host now bs = 0 := by
  obtain ⟨h1, h2, h3, h4⟩ := judge_right.1 h
  exact judge_right.2 ⟨h1, h2, h3, anch_anchors h4 hs⟩
theorem judge_between {chain : List (List UInt8)} {host : List UInt8} {a b d : Int} {an : List (List UInt8)} (h1 : a ≤ b) (h2 : b ≤ d) (ha : judgeN chain host a an = 0) (hd : judgeN chain host d an = 0) : judgeN chain host b an = 0 := by
  obtain ⟨a1, a2, a3, a4⟩ := judge_right.1 ha
  obtain ⟨_, d2, _, d4⟩ := judge_right.1 hd
  exact judge_right.2 ⟨a1, date_between h1 h2 a2 d2, a3, anch_between h1 h2 a4 d4⟩
end Go.Proofs.YtnaoandleelbkaaGreatDoor

namespace Go.Proofs.YtnaoandleelbkaaGreatDoor
set_option linter.unusedSimpArgs false
set_option linter.unusedVariables false
open Go Go.RowKit
set_option maxRecDepth 100000

/-- All laid variables are as their texts lay them. -/
structure GA (w : World) : Prop where
  gl : GL w
  lw : LWc w
theorem GA.below {w w' : World} (h : GA w) (hb : Below w.heap.size w w') : GA w' := ⟨h.gl.below hb, h.lw.below hb⟩
theorem GA.ml {w : World} (h : GA w) : ML w := h.gl.ml
/-- Behind w, with the laid variables as they are. -/
def Ga (w W : World) : Prop := Below w.heap.size w W ∧ GA W
theorem Ga.start {w : World} (h : GA w) : Ga w w := ⟨Below.refl _ _, h⟩
theorem Ga.step {w W W' : World} (h : Ga w W) (hb : Below W.heap.size W W') : Ga w W' := ⟨h.1.trans (hb.mono h.1.size), h.2.below hb⟩
theorem Ga.alloc {w W : World} (h : Ga w W) (o : Obj) : Ga w (W.alloc o) := h.step (below_alloc _ _)
theorem Ga.drew {w W : World} (h : Ga w W) : Ga w W.drew := h.step (Below.refl _ W).drew

/-- A certificate's six cells. -/
structure CC (w : World) (g o : Nat) (c : Ct) (nv : Value) : Prop where
  c0 : w.cell? ⟨g, o, none⟩ = some (sv c.key)
  c1 : w.cell? ⟨g, o + 1, none⟩ = some (sv c.sig)
  c2 : w.cell? ⟨g, o + 2, none⟩ = some nv
  c3 : w.cell? ⟨g, o + 3, none⟩ = some (.int .i64 c.fr)
  c4 : w.cell? ⟨g, o + 4, none⟩ = some (.int .i64 c.un)
  c5 : w.cell? ⟨g, o + 5, none⟩ = some (.bool c.ca)
theorem CC.below {w w' : World} {g o n : Nat} {c : Ct} {nv : Value} (h : CC w g o c nv) (hb : Below n w w') (hg : g < n) : CC w' g o c nv :=
  ⟨(hb.cell (p := ⟨g, o, none⟩) hg).trans h.c0, (hb.cell (p := ⟨g, o + 1, none⟩) hg).trans h.c1, (hb.cell (p := ⟨g, o + 2, none⟩) hg).trans h.c2,
    (hb.cell (p := ⟨g, o + 3, none⟩) hg).trans h.c3, (hb.cell (p := ⟨g, o + 4, none⟩) hg).trans h.c4, (hb.cell (p := ⟨g, o + 5, none⟩) hg).trans h.c5⟩
/-- A row of certificates: its cells, and each one's names. -/
def CR (w : World) (A : Option Addr) (l : List Ct) (nv : Nat → Value) : Prop :=
  0 < l.length → ∃ g off, A = some ⟨g, off, none⟩ ∧ g < w.heap.size ∧ ∀ j, j < l.length → CC w g (off + j * 6) (ctAt l j) (nv j) ∧ SX w (nv j) (ctAt l j).names
theorem CR.nil (w : World) (A : Option Addr) (nv : Nat → Value) : CR w A [] nv := fun h => absurd h (by decide)
theorem CR.step {w w' : World} {A : Option Addr} {l : List Ct} {nv : Nat → Value} (h : CR w A l nv) (hb : Below w.heap.size w w') : CR w' A l nv := fun hp => by
  obtain ⟨g, off, e, hl, hc⟩ := h hp
  exact ⟨g, off, e, Nat.lt_of_lt_of_le hl hb.size, fun j hj => ⟨(hc j hj).1.below hb hl, (hc j hj).2.step hb⟩⟩
theorem CR.at {w : World} {A : Option Addr} {l : List Ct} {nv : Nat → Value} {k : Nat} (h : CR w A l nv) (hk : k < l.length) :
    ∃ g off, A = some ⟨g, off, none⟩ ∧ g < w.heap.size ∧ CC w g (off + k * 6) (ctAt l k) (nv k) ∧ SX w (nv k) (ctAt l k).names := by
  obtain ⟨g, off, e, hl, hc⟩ := h (by omega)
  exact ⟨g, off, e, hl, (hc k hk).1, (hc k hk).2⟩
theorem CR.sx {w : World} {A : Option Addr} {l : List Ct} {nv : Nat → Value} {k : Nat} (h : CR w A l nv) (hk : k < l.length) : SX w (nv k) (ctAt l k).names := by
  obtain ⟨g, off, e, hl, hc⟩ := h (by omega)
  exact (hc k hk).2
theorem CR.take {w : World} {A : Option Addr} {l : List Ct} {nv : Nat → Value} (h : CR w A l nv) (n : Nat) : CR w A (l.take n) nv := fun hp => by
  rw [List.length_take] at hp
  obtain ⟨g, off, e, hl, hc⟩ := h (by omega)
  refine ⟨g, off, e, hl, fun j hj => ?_⟩
  rw [List.length_take] at hj
  rw [ctAt_take (by omega)]
  exact hc j (by omega)
theorem CR.drop {w : World} {A : Option Addr} {l : List Ct} {nv : Nat → Value} (h : CR w A l nv) {i : Nat} (hi : i < l.length) :
    ∃ g off, A = some ⟨g, off, none⟩ ∧ CR w (some ⟨g, off + i * 6, none⟩) (l.drop i) (fun j => nv (i + j)) := by
  obtain ⟨g, off, e, hl, hc⟩ := h (by omega)
  refine ⟨g, off, e, fun hp => ⟨g, off + i * 6, rfl, hl, fun j hj => ?_⟩⟩
  rw [List.length_drop] at hj
  have e1 : ctAt (l.drop i) j = ctAt l (i + j) := by
    unfold ctAt
    rw [List.getD_eq_getElem?_getD, List.getD_eq_getElem?_getD, List.getElem?_drop]
  rw [e1, show off + i * 6 + j * 6 = off + (i + j) * 6 by omega]
  exact hc (i + j) (by omega)
/-- Certificates that are not too long. -/
def shortR (l : List Ct) : Prop := l.length ≤ 1000000 ∧ ∀ c ∈ l, shortC c
theorem shortR.at {l : List Ct} (h : shortR l) {k : Nat} (hk : k < l.length) : shortC (ctAt l k) := h.2 _ (ctAt_mem hk)
theorem shortR.take {l : List Ct} (h : shortR l) (n : Nat) : shortR (l.take n) := ⟨by rw [List.length_take]; exact Nat.le_trans (Nat.min_le_right _ _) h.1, fun c hc => h.2 c (List.mem_of_mem_take hc)⟩

set_option maxHeartbeats 2000000 in
theorem dates_any {w : World} (c : Ct) (A : Option Addr) (m cp : Nat) (now : Int) :
    Calls Tryz.prog 39 #[certV c (.slice A m cp), .int .i64 now] w fun e w' => e = .returned (.bool (dateB c now)) ∧ Below w.heap.size w w' := by
  obtain ⟨key, sig, names, fr, un, ca⟩ := c
  unfold certV
  by_cases h1 : fr ≤ now
  · have HF := Lib.hid (show dateB ⟨key, sig, names, fr, un, ca⟩ now = decide (now ≤ un) by unfold dateB; simp [h1])
    have h1' : decide (fr ≤ now) = true := by simp [h1]
    go_enter Tryz.func39, Tryz.ntmps39
    go_wp2_with fail
    go_ret
    rw [HF.out]
    exact ⟨rfl, below_alloc _ _⟩
  · have HF := Lib.hid (show dateB ⟨key, sig, names, fr, un, ca⟩ now = false by unfold dateB; simp [h1])
    have h1' : decide (fr ≤ now) = false := by simp [h1]
    go_enter Tryz.func39, Tryz.ntmps39
    go_wp2_with fail
    go_ret
    rw [HF.out]
    exact ⟨rfl, below_alloc _ _⟩
set_option maxHeartbeats 2000000 in
theorem isLink_any {w : World} (c d : Ct) (A B : Option Addr) (m n cp dp : Nat) (hk : d.key.length ≤ 9223372036854775807) (hw : GA w) :
    Calls Tryz.prog 83 #[certV c (.slice A m cp), certV d (.slice B n dp)] w fun e w' => e = .returned (.bool (linkB c d)) ∧ Below w.heap.size w w' := by
  obtain ⟨key, sig, names, fr, un, ca⟩ := c
  obtain ⟨key2, sig2, names2, fr2, un2, ca2⟩ := d
  simp only at hk
  unfold certV
  have hg : Ga w ((w.alloc (cellsC ⟨key, sig, names, fr, un, ca⟩ (.slice A m cp))).alloc (cellsC ⟨key2, sig2, names2, fr2, un2, ca2⟩ (.slice B n dp))) := ((Ga.start hw).alloc _).alloc _
  cases ca2 with
  | false =>
    have HF := Lib.hid (show linkB ⟨key, sig, names, fr, un, ca⟩ ⟨key2, sig2, names2, fr2, un2, false⟩ = false by unfold linkB; simp)
    have HG := Lib.hid hg.1
    clear hw hg
    go_enter Tryz.func83, Tryz.ntmps83
    go_wp2_with fail
    go_quiet (fail)
    go_wp2_with fail
    go_ret
    rw [HF.out]
    exact ⟨rfl, by first | exact HG.out | exact below_drewNC HG.out _⟩
  | true =>
    have HF := Lib.hid (show linkB ⟨key, sig, names, fr, un, ca⟩ ⟨key2, sig2, names2, fr2, un2, true⟩ = (sig == digestL key2) by unfold linkB; simp)
    have HS := Lib.hid (show Ga w ((w.alloc (cellsC ⟨key, sig, names, fr, un, ca⟩ (.slice A m cp))).alloc (cellsC ⟨key2, sig2, names2, fr2, un2, true⟩ (.slice B n dp))).drew ∧ CB ((w.alloc (cellsC ⟨key, sig, names, fr, un, ca⟩ (.slice A m cp))).alloc (cellsC ⟨key2, sig2, names2, fr2, un2, true⟩ (.slice B n dp))).drew w.heap.size ⟨key, sig, names, fr, un, ca⟩ (.slice A m cp) ∧ CB ((w.alloc (cellsC ⟨key, sig, names, fr, un, ca⟩ (.slice A m cp))).alloc (cellsC ⟨key2, sig2, names2, fr2, un2, true⟩ (.slice B n dp))).drew (w.heap.size + 1) ⟨key2, sig2, names2, fr2, un2, true⟩ (.slice B n dp) from
      ⟨hg.drew, ((CB.new w _ _).step (below_alloc _ _)).step (Below.refl _ _).drew, by rw [← World.size_alloc w (cellsC ⟨key, sig, names, fr, un, ca⟩ (.slice A m cp))]; exact (CB.new _ _ _).step (Below.refl _ _).drew⟩)
    have HD := Lib.hid (fun W (h : GA W) => @digest_any W key2 hk h.lw)
    clear hw hg
    obtain ⟨t, ht⟩ : ∃ t, t = digestL key2 := ⟨_, rfl⟩
    rw [← ht] at HF HD
    clear ht
    go_enter Tryz.func83, Tryz.ntmps83
    go_wp2_with fail
    refine wp_region_held_drew (S := fun W => Ga w W ∧ CB W w.heap.size ⟨key, sig, names, fr, un, ca⟩ (.slice A m cp) ∧ CB W (w.heap.size + 1) ⟨key2, sig2, names2, fr2, un2, true⟩ (.slice B n dp)) (by kernel_rfl) HS.out (fun hHeld => ?_)
    refine wpAnyH_take (i := 0) (v := ?vv0_1) rfl (by kernel_rfl) (by kernel_rfl) (by kernel_rfl) (fun _ _ _ h => h) (Or.inl ⟨by rfl, ?hy0_1⟩) (by assumption) ?rest0_1
    case hy0_1 => (intro w' hSw; (try dsimp only at hSw); go_simp; try with_reducible rfl)
    try simp only [List.getElem_toArray, List.getElem_cons_zero, List.getElem_cons_succ, Act.put, List.setIfInBounds_toArray, List.set_cons_zero, List.set_cons_succ]
    refine wpAnyH_take (i := 1) (v := .bool true) rfl (by kernel_rfl) (by kernel_rfl) (by kernel_rfl) (fun _ _ _ h => h) (Or.inl ⟨by rfl, fun w' hSw => exec_load1 w' rfl rfl hSw.2.2.c5 Tryz.underlying4 rfl⟩) (by assumption) ?_
    try simp only [List.getElem_toArray, List.getElem_cons_zero, List.getElem_cons_succ, Act.put, List.setIfInBounds_toArray, List.set_cons_zero, List.set_cons_succ]
    refine wpAnyH_take (i := 2) (v := ?vv2_1) rfl (by kernel_rfl) (by kernel_rfl) (by kernel_rfl) (fun _ _ _ h => h) (Or.inl ⟨by rfl, ?hy2_1⟩) (by assumption) ?rest2_1
    case hy2_1 => (intro w' hSw; (try dsimp only at hSw); go_simp; try with_reducible rfl)
    try simp only [List.getElem_toArray, List.getElem_cons_zero, List.getElem_cons_succ, Act.put, List.setIfInBounds_toArray, List.set_cons_zero, List.set_cons_succ]
    refine wpAnyH_take (i := 3) (v := ?vv3_1) rfl (by kernel_rfl) (by kernel_rfl) (by kernel_rfl) (fun _ _ _ h => h) (Or.inl ⟨by rfl, ?hy3_1⟩) (by assumption) ?rest3_1
    case hy3_1 => (intro w' hSw; (try dsimp only at hSw); go_simp; try with_reducible rfl)
    try simp only [List.getElem_toArray, List.getElem_cons_zero, List.getElem_cons_succ, Act.put, List.setIfInBounds_toArray, List.set_cons_zero, List.set_cons_succ]
    refine wpAnyH_take (i := 4) (v := sv sig) rfl (by kernel_rfl) (by kernel_rfl) (by kernel_rfl) (fun _ _ _ h => h) (Or.inl ⟨by rfl, fun w' hSw => exec_load1 w' rfl rfl hSw.2.1.c1 Tryz.underlying9 rfl⟩) (by assumption) ?_
    try simp only [List.getElem_toArray, List.getElem_cons_zero, List.getElem_cons_succ, Act.put, List.setIfInBounds_toArray, List.set_cons_zero, List.set_cons_succ]
    refine wpAnyH_take (i := 5) (v := ?vv5_1) rfl (by kernel_rfl) (by kernel_rfl) (by kernel_rfl) (fun _ _ _ h => h) (Or.inl ⟨by rfl, ?hy5_1⟩) (by assumption) ?rest5_1
    case hy5_1 => (intro w' hSw; (try dsimp only at hSw); go_simp; try with_reducible rfl)
    try simp only [List.getElem_toArray, List.getElem_cons_zero, List.getElem_cons_succ, Act.put, List.setIfInBounds_toArray, List.set_cons_zero, List.set_cons_succ]
    refine wpAnyH_take (i := 6) (v := sv key2) rfl (by kernel_rfl) (by kernel_rfl) (by kernel_rfl) (fun _ _ _ h => h) (Or.inl ⟨by rfl, fun w' hSw => exec_load1 w' rfl rfl hSw.2.2.c0 Tryz.underlying9 rfl⟩) (by assumption) ?_
    try simp only [List.getElem_toArray, List.getElem_cons_zero, List.getElem_cons_succ, Act.put, List.setIfInBounds_toArray, List.set_cons_zero, List.set_cons_succ]
    refine wpAnyH_ready (rs := [7]) (by kernel_rfl) (by simp) ?_
    refine AllReadyH.cons rfl (fun K hK => ?_) AllReadyH.nil
    go_simp
    go_at_call 16
    refine (HD.out _ hHeld.1.2).mono ?_
    rintro e w9 ⟨rfl, hb9⟩
    have HS9 := Lib.hid (show Ga w w9 ∧ CB w9 w.heap.size ⟨key, sig, names, fr, un, ca⟩ (.slice A m cp) ∧ CB w9 (w.heap.size + 1) ⟨key2, sig2, names2, fr2, un2, true⟩ (.slice B n dp) from ⟨hHeld.1.step hb9, hHeld.2.1.step hb9, hHeld.2.2.step hb9⟩)
    clear hb9
    refine hK.out _ _ HS9.out (fun hHeld => ?_)
    clear hK K
    try simp only [List.getElem_toArray, List.getElem_cons_zero, List.getElem_cons_succ, Act.put, List.setIfInBounds_toArray, List.set_cons_zero, List.set_cons_succ]
    refine wpAnyH_take (i := 8) (v := ?vv8_1) rfl (by kernel_rfl) (by kernel_rfl) (by kernel_rfl) (fun _ _ _ h => h) (Or.inl ⟨by rfl, ?hy8_1⟩) (by assumption) ?rest8_1
    case hy8_1 => (intro w' hSw; (try dsimp only at hSw); go_simp; try with_reducible rfl)
    try simp only [List.getElem_toArray, List.getElem_cons_zero, List.getElem_cons_succ, Act.put, List.setIfInBounds_toArray, List.set_cons_zero, List.set_cons_succ]
    refine wpAnyH_take (i := 9) (v := ?vv9_1) rfl (by kernel_rfl) (by kernel_rfl) (by kernel_rfl) (fun _ _ _ h => h) (Or.inl ⟨by rfl, ?hy9_1⟩) (by assumption) ?rest9_1
    case hy9_1 => (intro w' hSw; (try dsimp only at hSw); go_simp; try with_reducible rfl)
    try simp only [List.getElem_toArray, List.getElem_cons_zero, List.getElem_cons_succ, Act.put, List.setIfInBounds_toArray, List.set_cons_zero, List.set_cons_succ]
    refine wpAnyH_take (i := 10) (v := ?vv10_1) rfl (by kernel_rfl) (by kernel_rfl) (by kernel_rfl) (fun _ _ _ h => h) (Or.inl ⟨by rfl, ?hy10_1⟩) (by assumption) ?rest10_1
    case hy10_1 => (intro w' hSw; (try dsimp only at hSw); go_simp; try with_reducible rfl)
    try simp only [List.getElem_toArray, List.getElem_cons_zero, List.getElem_cons_succ, Act.put, List.setIfInBounds_toArray, List.set_cons_zero, List.set_cons_succ]
    refine wpAnyH_done (by kernel_rfl) ?_ _
    go_wp2_with fail
    go_ret
    rw [HF.out]
    exact ⟨rfl, HS9.out.1.1⟩
end Go.Proofs.YtnaoandleelbkaaGreatDoor

namespace Go.Proofs.YtnaoandleelbkaaGreatDoor
set_option linter.unusedSimpArgs false
set_option linter.unusedVariables false
open Go Go.RowKit
set_option maxRecDepth 100000

/-- A box with a text. -/
def SBx (W : World) (k : Nat) (s : List UInt8) : Prop := W.heap[k]? = some (.cells #[sv s] 9 (0, 0))
theorem SBx.lt {W : World} {k : Nat} {s : List UInt8} (h : SBx W k s) : k < W.heap.size := lt_of_blk h
theorem SBx.new (W : World) (s : List UInt8) : SBx (W.alloc (.cells #[sv s] 9)) W.heap.size s := heap_alloc_new W _
theorem SBx.step {W W' : World} {k : Nat} {s : List UInt8} (h : SBx W k s) (hb : Below W.heap.size W W') : SBx W' k s := (hb.block k h.lt).trans h
theorem SBx.cell {W : World} {k : Nat} {s : List UInt8} (h : SBx W k s) : W.cell? ⟨k, 0, none⟩ = some (sv s) := by rw [cellAt h]; rfl

set_option maxHeartbeats 2000000 in
theorem host1_any {w : World} (n host : List UInt8) (k : Nat) (hn : n.length ≤ 1000000) (hh : host.length ≤ 1000000) (hk : SBx w k host) (hM : ML w) :
    Calls Tryz.prog 89 #[sv n, .pointer (some ⟨k, 0, none⟩)] w fun e w' => e = .returned (.bool (ownsB host n)) ∧ Below w.heap.size w w' := by
  have HC := Lib.hid (fun W (h : ML W) => counts_any n W hn h)
  have HM := Lib.hid hM
  have HK := Lib.hid hk
  cases hc : countsB n with
  | false =>
    have HF := Lib.hid (show ownsB host n = false by unfold ownsB; rw [hc]; rfl)
    rw [hc] at HC
    clear hM hk hc
    go_enter Tryz.func89, Tryz.ntmps89
    go_wp2_with (go_at_call 90; refine (HC.out _ HM.out).mono ?_; rintro e w1 ⟨rfl, hb⟩)
    go_ret
    rw [HF.out]
    exact ⟨rfl, hb⟩
  | true =>
    have HF := Lib.hid (show ownsB host n = matchL n host by unfold ownsB; rw [hc]; rfl)
    have HMA := Lib.hid (fun W (h : ML W) => match_any n host W hn hh h)
    rw [hc] at HC
    obtain ⟨b, hb⟩ : ∃ b, b = matchL n host := ⟨_, rfl⟩
    rw [← hb] at HF HMA
    clear hM hk hc hb
    go_enter Tryz.func89, Tryz.ntmps89
    go_wp2_with (first
      | (go_at_call 90; refine (HC.out _ HM.out).mono ?_; rintro e w1 ⟨rfl, hb1⟩; have c0 := (HK.out.step hb1).cell; have HB1 := Lib.hid hb1; have HM1 := Lib.hid (HM.out.step hb1); clear hb1)
      | (go_at_call 91; refine (HMA.out _ HM1.out).mono ?_; rintro e w2 ⟨rfl, hb2⟩))
    go_ret
    rw [HF.out]
    exact ⟨rfl, HB1.out.trans (hb2.mono HB1.out.size)⟩

/-- The place of the first one that does, or -1. -/
def idxI {α : Type} (p : α → Bool) (xs : List α) : Int := if xs.any p then (xs.findIdx p : Int) else -1
theorem idxI_ge {α : Type} (p : α → Bool) (xs : List α) : decide ((0 : Int) ≤ idxI p xs) = xs.any p := by
  unfold idxI
  cases xs.any p with
  | true => simp
  | false => simp
theorem any_take {p : List UInt8 → Bool} {xs : List (List UInt8)} {k : Nat} (hk : k < xs.length) : (xs.take (k + 1)).any p = ((xs.take k).any p || p (xs.getD k [])) := by
  rw [take_text hk, List.any_append]; simp
theorem idx_at {α : Type} {p : α → Bool} {xs : List α} {k : Nat} (hk : k < xs.length) (h0 : (xs.take k).any p = false) (h1 : p xs[k] = true) : idxI p xs = (k : Int) := by
  have h : xs.any p = true := List.any_eq_true.2 ⟨xs[k], List.getElem_mem hk, h1⟩
  unfold idxI
  rw [if_pos h]
  congr 1
  refine (List.findIdx_eq hk).2 ⟨h1, fun j hj => ?_⟩
  have := List.any_eq_false.1 h0 xs[j] (List.mem_take_iff_getElem.2 ⟨j, by omega, rfl⟩)
  simpa using this
set_option maxHeartbeats 4000000 in
/-- Over texts: a function that keeps what lies. -/
theorem indexS_any {N : Nat} {caps : Array Value} (he : ∀ args w, (callFunc N args).run Tryz.prog w = .ok (.enter N args) w) {p : List UInt8 → Bool} {w : World} (Inv : World → Prop)
    (hstep : ∀ x W, x.length ≤ 1000000 → Inv W → Below w.heap.size w W → Calls Tryz.prog N (#[sv x] ++ caps) W fun e w' => e = .returned (.bool (p x)) ∧ Inv w' ∧ Below w.heap.size w w')
    (xs : List (List UInt8)) (A : Option Addr) (c : Nat) (hx : SX w (.slice A xs.length c) xs) (hl : ∀ n ∈ xs, n.length ≤ 1000000) (hn : xs.length ≤ 1000000) (h0 : Inv w) :
    Calls Tryz.prog 141 #[.slice A xs.length c, .func (.func N) #[] caps] w fun e w' => e = .returned (.int .i64 (idxI p xs)) ∧ Inv w' ∧ Below w.heap.size w w' := by
  have HS := Lib.hid hstep
  have HX := Lib.hid hx
  have HL := Lib.hid hl
  have H0 := Lib.hid h0
  clear hstep hx hl h0
  go_enter Tryz.func141, Tryz.ntmps141
  go_wp2_with fail
  go_loopw [8] (fun i wr => ∃ k : Nat, k ≤ xs.length ∧ i = .int .i64 k ∧ (xs.take k).any p = false ∧ Inv wr ∧ Below w.heap.size w wr) (fun i _ => xs.length - (intOf i).toNat)
  case atStart => exact ⟨0, Nat.zero_le _, rfl, rfl, H0.out, Below.refl _ _⟩
  case round =>
    obtain ⟨k, hk, rfl, hall, hi, hb⟩ := hrel
    have HA := Lib.hid hall
    have HI := Lib.hid hi
    have HB := Lib.hid hb
    clear hall hi hb
    by_cases hlt : k < xs.length
    · obtain ⟨g, off, rfl, _, c0⟩ := (HX.out.step HB.out).at hlt
      have hlt' : (k : Int) < (xs.length : Int) := by omega
      have hal := any_take (p := p) hlt
      rw [HA.out, Bool.false_or] at hal
      have HXL := Lib.hid (HL.out _ (mem_getD hlt))
      have hgx : xs[k] = xs.getD k [] := by rw [List.getD_eq_getElem?_getD, List.getElem?_eq_getElem hlt]; rfl
      have hat : p (xs.getD k []) = true → idxI p xs = (k : Int) := fun h => idx_at hlt HA.out (by rw [hgx]; exact h)
      obtain ⟨x, hxe⟩ : ∃ x, x = xs.getD k [] := ⟨_, rfl⟩
      rw [← hxe] at c0 hal HXL hat
      have HST := Lib.hid (HS.out x wr HXL.out HI.out HB.out)
      clear hgx hxe
      cases hp : p x with
      | false =>
        rw [hp] at hal HST
        have HAL := Lib.hid hal
        clear hal hp hat
        go_wp2_with (go_at_fn N; refine HST.out.mono ?_; rintro e w1 ⟨rfl, hi1, hb1⟩; have HI1 := Lib.hid hi1; have HB1 := Lib.hid hb1; clear hi1 hb1)
        go_roundw
        case rel => exact ⟨k + 1, by omega, by go_num, HAL.out, HI1.out, HB1.out⟩
        case measure => simp [intOf]; omega
      | true =>
        rw [hp] at HST
        have HAT := Lib.hid (hat hp)
        clear hal hp hat
        go_wp2_with (go_at_fn N; refine HST.out.mono ?_; rintro e w1 ⟨rfl, hi1, hb1⟩; have HI1 := Lib.hid hi1; have HB1 := Lib.hid hb1; clear hi1 hb1)
        go_ret
        rw [HAT.out]
        exact ⟨rfl, HI1.out, HB1.out⟩
    · obtain rfl : k = xs.length := by omega
      rw [List.take_length] at HA
      have HF := Lib.hid (show idxI p xs = -1 by unfold idxI; rw [HA.out]; rfl)
      go_wp2_with fail
      go_ret
      rw [HF.out]
      exact ⟨rfl, HI.out, HB.out⟩
set_option maxHeartbeats 4000000 in
theorem host_any {w : World} (c : Ct) (A : Option Addr) (cp : Nat) (host : List UInt8) (hx : SX w (.slice A c.names.length cp) c.names) (hs : shortC c) (hh : host.length ≤ 1000000) (hM : ML w) :
    Calls Tryz.prog 38 #[certV c (.slice A c.names.length cp), sv host] w fun e w' => e = .returned (.bool (hostB c host)) ∧ Below w.heap.size w w' := by
  obtain ⟨key, sig, names, fr, un, ca⟩ := c
  obtain ⟨s1, s2, s3, s4⟩ := hs
  simp only at s3 s4 hx
  have hb0 : Below w.heap.size w ((w.alloc (cellsC ⟨key, sig, names, fr, un, ca⟩ (.slice A names.length cp))).alloc (.cells #[sv host] 9)) := (below_alloc _ _).trans ((below_alloc _ _).mono (by simp))
  have hsb : SBx ((w.alloc (cellsC ⟨key, sig, names, fr, un, ca⟩ (.slice A names.length cp))).alloc (.cells #[sv host] 9)) (w.heap.size + 1) host := by
    rw [← World.size_alloc w (cellsC ⟨key, sig, names, fr, un, ca⟩ (.slice A names.length cp))]; exact SBx.new _ _
  obtain ⟨W, hW⟩ : ∃ W, W = (w.alloc (cellsC ⟨key, sig, names, fr, un, ca⟩ (.slice A names.length cp))).alloc (.cells #[sv host] 9) := ⟨_, rfl⟩
  rw [← hW] at hb0 hsb
  have HIX := Lib.hid (indexS_any (N := 89) (caps := #[.pointer (some ⟨w.heap.size + 1, 0, none⟩)]) (enters_of Tryz.func89 (by kernel_rfl) rfl) (p := ownsB host) (w := W) (fun W' => Below W.heap.size W W')
    (fun x W' hxl hi hb => (host1_any x host (w.heap.size + 1) hxl hh (hsb.step hi) ((hM.step hb0).step hi)).mono fun e w' ⟨h1, h2⟩ => ⟨h1, hi.trans (h2.mono hi.size), hb.trans (h2.mono hb.size)⟩)
    names A cp (hx.step hb0) s4 s3 (Below.refl _ _))
  have HB := Lib.hid hb0
  have HW := Lib.hid hW
  have HG := Lib.hid (idxI_ge (ownsB host) names)
  show Calls Tryz.prog 38 #[.agg #[sv key, sv sig, .slice A names.length cp, .int .i64 fr, .int .i64 un, .bool ca], sv host] w fun e w' => e = .returned (.bool (names.any (ownsB host))) ∧ Below w.heap.size w w'
  obtain ⟨z, hz⟩ : ∃ z, z = idxI (ownsB host) names := ⟨_, rfl⟩
  obtain ⟨b, hb⟩ : ∃ b, b = names.any (ownsB host) := ⟨_, rfl⟩
  rw [← hz, ← hb] at HG
  rw [← hz] at HIX
  rw [← hb]
  have HCF := Lib.hid (show Calls Tryz.prog 88 #[.slice A names.length cp, .func (.func 89) #[] #[.pointer (some ⟨w.heap.size + 1, 0, none⟩)]] W (fun e w' => e = .returned (.bool b) ∧ Below W.heap.size W w') by
    clear hM hx hW hb0 hsb hz hb HB HW s1 s2 s3 s4 hh
    go_enter Tryz.func88, Tryz.ntmps88
    go_wp2_with (go_at_call 141; refine HIX.out.mono ?_; rintro e w1 ⟨rfl, _, hb1⟩)
    go_ret
    rw [← HG.out]
    exact ⟨rfl, hb1⟩)
  clear hM hx hW hb0 hsb hz hb s1 s2 s3 s4 hh HIX HG
  go_enter Tryz.func38, Tryz.ntmps38
  go_wp2_with fail
  rw [← HW.out]
  go_wp2_with (go_at_call 88; refine HCF.out.mono ?_; rintro e w1 ⟨rfl, hb1⟩)
  go_ret
  exact ⟨rfl, HB.out.trans (hb1.mono HB.out.size)⟩
end Go.Proofs.YtnaoandleelbkaaGreatDoor
