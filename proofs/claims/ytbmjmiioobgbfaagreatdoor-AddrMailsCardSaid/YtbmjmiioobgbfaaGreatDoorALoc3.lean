/-
  The contracts of package addr's isQuoted, isLocal; what the library's cuts are at one byte.
-/
import Derived.Laws.EntriesVeiled
import Derived.Laws.Rows
import Derived.Test.YtbmjmiioobgbfaaGreatDoorALoc2
namespace Go.Proofs.YtbmjmiioobgbfaaGreatDoor
open Go Go.RowKit Go.Shelf
set_option maxRecDepth 100000

theorem has_suf (l : List UInt8) (c : UInt8) : Lib.hasSuffix l [c] = (l.getLast? == some c) := by
  unfold Lib.hasSuffix
  rw [Bool.eq_iff_iff, List.isSuffixOf_iff_suffix, beq_iff_eq]
  constructor
  · rintro ⟨t, rfl⟩; simp
  · intro h
    obtain ⟨t, rfl⟩ := List.getLast?_eq_some_iff.1 h
    exact ⟨t, rfl⟩
theorem trim_suf (l : List UInt8) (c : UInt8) : Lib.trimSuffix l [c] = if l.getLast? = some c then l.dropLast else l := by
  unfold Lib.trimSuffix
  rw [has_suf]
  by_cases h : l.getLast? = some c
  · rw [if_pos h, if_pos (by simpa using h)]
    simp [List.dropLast_eq_take]
  · rw [if_neg h, if_neg (by simpa using h)]
theorem has_pre (l : List UInt8) (c : UInt8) : Lib.hasPrefix l [c] = (l.head? == some c) := by
  unfold Lib.hasPrefix
  cases l with
  | nil => simp [List.isPrefixOf]
  | cons x t =>
    rw [Bool.eq_iff_iff]
    simp [List.isPrefixOf]
    exact eq_comm
theorem trim_pre (l : List UInt8) (c : UInt8) : Lib.trimPrefix l [c] = if l.head? = some c then l.tail else l := by
  unfold Lib.trimPrefix
  rw [has_pre]
  by_cases h : l.head? = some c
  · rw [if_pos h, if_pos (by simpa using h)]
    simp
  · rw [if_neg h, if_neg (by simpa using h)]

/-- What is cut off at the front, and was there one? -/
def preV (l : List UInt8) (c : UInt8) : Value := .tuple #[sv (if l.head? = some c then l.tail else l), .bool (l.head? == some c)]
def sufV (l : List UInt8) (c : UInt8) : Value := .tuple #[sv (if l.getLast? = some c then l.dropLast else l), .bool (l.getLast? == some c)]
theorem cutpre_any (l : List UInt8) (c : UInt8) (w : World) : Calls Tryz.prog 74 #[sv l, .string ⟨#[c]⟩] w fun e w' => e = .returned (preV l c) ∧ w = w' := by
  have := Tryz.strings_CutPrefix (str l) ⟨#[c]⟩ w
  have e1 : (str l).data.toList = l := by simp
  have e2 : (⟨#[c]⟩ : ByteArray).data.toList = [c] := rfl
  rw [e1, e2, trim_pre, has_pre] at this
  exact this.mono fun _ _ ⟨h1, h2⟩ => ⟨h1, h2.symm⟩
theorem cutsuf_any (l : List UInt8) (c : UInt8) (w : World) (hl : l.length ≤ 140737488351232) : Calls Tryz.prog 75 #[sv l, .string ⟨#[c]⟩] w fun e w' => e = .returned (sufV l c) ∧ w = w' := by
  have := Tryz.strings_CutSuffix (str l) ⟨#[c]⟩ w (by simp [ByteArray.size]; omega)
  have e1 : (str l).data.toList = l := by simp
  have e2 : (⟨#[c]⟩ : ByteArray).data.toList = [c] := rfl
  rw [e1, e2, trim_suf, has_suf] at this
  exact this.mono fun _ _ ⟨h1, h2⟩ => ⟨h1, h2.symm⟩

/-- The three ways of a text about which two marks are to stand. -/
theorem marks (s : List UInt8) (c d : UInt8) :
    (s.head? ≠ some c ∧ preV s c = .tuple #[sv s, .bool false]) ∨
    (∃ t, s = c :: t ∧ preV s c = .tuple #[sv t, .bool true] ∧ t.getLast? ≠ some d ∧ sufV t d = .tuple #[sv t, .bool false]) ∨
    (∃ t, s = c :: (t ++ [d]) ∧ preV s c = .tuple #[sv (t ++ [d]), .bool true] ∧ sufV (t ++ [d]) d = .tuple #[sv t, .bool true]) := by
  by_cases h : s.head? = some c
  · cases s with
    | nil => simp at h
    | cons x t =>
      simp only [List.head?_cons, Option.some.injEq] at h
      subst h
      by_cases h2 : t.getLast? = some d
      · obtain ⟨u, rfl⟩ := List.getLast?_eq_some_iff.1 h2
        refine .inr (.inr ⟨u, rfl, ?_, ?_⟩)
        · unfold preV; simp
        · unfold sufV; simp
      · refine .inr (.inl ⟨t, rfl, ?_, h2, ?_⟩)
        · unfold preV; simp
        · unfold sufV; rw [if_neg h2]; simp [h2]
  · refine .inl ⟨h, ?_⟩
    unfold preV; rw [if_neg h]; simp [h]

theorem quoted_no1 {s : List UInt8} (h : s.head? ≠ some 34) : quotedL s = false := by
  unfold quotedL
  have : (s.head? == some 34) = false := by simpa using h
  rw [this]; rfl
theorem quoted_no2 {t : List UInt8} (h : t.getLast? ≠ some 34) : quotedL (34 :: t) = false := by
  cases t with
  | nil => rfl
  | cons x u =>
    unfold quotedL
    have : ((34 :: x :: u).getLast? == some 34) = false := by
      rw [List.getLast?_cons_cons]; simpa using h
    rw [this]; simp
theorem quoted_in (t : List UInt8) : quotedL (34 :: (t ++ [34])) = quotF false t := by
  unfold quotedL
  simp [List.getLast?_cons]

set_option maxHeartbeats 2000000 in
theorem isQuoted_any (s : List UInt8) (w : World) (hs : s.length ≤ 1000000) : Calls Tryz.prog 110 #[sv s] w fun e w' => e = .returned (.bool (quotedL s)) ∧ Below w.heap.size w w' := by
  rcases marks s 34 34 with ⟨h, hp⟩ | ⟨t, rfl, hp, h, hq⟩ | ⟨t, rfl, hp, hq⟩
  · have HF := Lib.hid (quoted_no1 h)
    have HP := Lib.hid hp
    have HB := Lib.hid ((Below.refl w.heap.size w).alloc (Nat.le_refl _) (.cells #[.bool false] 4))
    clear h hp
    obtain ⟨u, hu⟩ : ∃ u, u = sufV s 34 := ⟨_, rfl⟩
    have HU := Lib.hid hu
    clear hu
    have hsh : ∃ x b, u = .tuple #[sv x, .bool b] := ⟨_, _, HU.out⟩
    obtain ⟨x, b, rfl⟩ := hsh
    go_enter Tryz.func110, Tryz.ntmps110
    go_wp2_with fail
    refine (cutpre_any s 34 _).mono ?_
    rintro e w1 ⟨rfl, rfl⟩
    rw [HP.out]
    go_wp2_with fail
    refine (cutsuf_any s 34 _ (by omega)).mono ?_
    rintro e w1 ⟨rfl, rfl⟩
    rw [← HU.out]
    go_wp2_with fail
    go_ret
    rw [HF.out]
    exact ⟨rfl, HB.out⟩
  · have HF := Lib.hid (quoted_no2 h)
    have HP := Lib.hid hp
    have HQ := Lib.hid hq
    have HB := Lib.hid ((Below.refl w.heap.size w).alloc (Nat.le_refl _) (.cells #[.bool false] 4))
    have ht : t.length ≤ 1000000 := by simp at hs; omega
    obtain ⟨s, hs'⟩ : ∃ s, s = 34 :: t := ⟨_, rfl⟩
    rw [← hs'] at HF HP ⊢
    clear h hp hq hs hs'
    go_enter Tryz.func110, Tryz.ntmps110
    go_wp2_with fail
    refine (cutpre_any s 34 _).mono ?_
    rintro e w1 ⟨rfl, rfl⟩
    rw [HP.out]
    go_wp2_with fail
    refine (cutsuf_any t 34 _ (by omega)).mono ?_
    rintro e w1 ⟨rfl, rfl⟩
    rw [HQ.out]
    go_wp2_with fail
    go_ret
    rw [HF.out]
    exact ⟨rfl, HB.out⟩
  · have HR := Lib.hid ((quoted_in t).trans (quotF_run false t))
    have HP := Lib.hid hp
    have HQ := Lib.hid hq
    have HB := Lib.hid ((Below.refl w.heap.size w).alloc (Nat.le_refl _) (.cells #[.bool false] 4))
    have ht : t.length ≤ 1000000 := by simp at hs; omega
    have htl : (t ++ [34]).length ≤ 1000000 := by simp at hs ⊢; omega
    obtain ⟨s, hs'⟩ : ∃ s, s = 34 :: (t ++ [34]) := ⟨_, rfl⟩
    obtain ⟨v, hv'⟩ : ∃ v, v = t ++ [34] := ⟨_, rfl⟩
    rw [← hs'] at HR HP ⊢
    rw [← hv'] at HP HQ htl
    clear hp hq hs hs' hv'
    obtain ⟨r1, h1⟩ : ∃ r, r = (runF okQ nxQ false t).1 := ⟨_, rfl⟩
    obtain ⟨r2, h2⟩ : ∃ r, r = (runF okQ nxQ false t).2 := ⟨_, rfl⟩
    rw [← h1, ← h2] at HR
    have H1 := Lib.hid h1
    have H2 := Lib.hid h2
    clear h1 h2
    have HE := Lib.hid (fun (w1 : World) (k : Nat) (h0 : Bx w1 k (.bool false) 4) => each_any (ok := okQ) (nx := nxQ) (N := 148) (caps := #[.pointer (some ⟨k, 0, none⟩)]) (enters_of Tryz.func148 (by kernel_rfl) rfl) (BoxB w1 k)
      (fun st b W hI => (quot1_any k st b W hI.1).mono fun _ _ ⟨e1, e2, e3⟩ => ⟨e1, e2, hI.2.trans e3⟩) t ht false w1 ⟨h0, Below.refl _ _⟩)
    cases r1 with
    | false =>
      go_enter Tryz.func110, Tryz.ntmps110
      go_wp2_with fail
      refine (cutpre_any s 34 _).mono ?_
      rintro e w1 ⟨rfl, rfl⟩
      rw [HP.out]
      go_wp2_with fail
      refine (cutsuf_any v 34 _ (by omega)).mono ?_
      rintro e w1 ⟨rfl, rfl⟩
      rw [HQ.out]
      go_wp2_with fail
      refine (HE.out _ _ (Bx.new _ _ _)).mono ?_
      rintro e w2 ⟨rfl, hb⟩
      rw [← H1.out]
      rw [← H2.out] at hb
      have HB2 := Lib.hid hb.2
      clear hb
      go_wp2_with fail
      go_ret
      rw [HR.out]
      exact ⟨rfl, HB.out.trans HB2.out⟩
    | true =>
      go_enter Tryz.func110, Tryz.ntmps110
      go_wp2_with fail
      refine (cutpre_any s 34 _).mono ?_
      rintro e w1 ⟨rfl, rfl⟩
      rw [HP.out]
      go_wp2_with fail
      refine (cutsuf_any v 34 _ (by omega)).mono ?_
      rintro e w1 ⟨rfl, rfl⟩
      rw [HQ.out]
      go_wp2_with fail
      refine (HE.out _ _ (Bx.new _ _ _)).mono ?_
      rintro e w2 ⟨rfl, hb⟩
      rw [← H1.out]
      rw [← H2.out] at hb
      have c0 := hb.1.cell
      have HB2 := Lib.hid hb.2
      clear hb
      go_wp2_with fail
      go_ret
      rw [HR.out]
      exact ⟨rfl, HB.out.trans HB2.out⟩

/-- What is known at the loop's head. -/
def LocAt (s : List UInt8) (i : Value) : Prop := i = .int .i64 0 ∨ (i = .int .i64 1 ∧ atomsL s = false) ∨ (i = .int .i64 2 ∧ localL s = false)

set_option maxHeartbeats 2000000 in
theorem isLocal_any (s : List UInt8) (w : World) (hs : s.length ≤ 140737488351232) : Calls Tryz.prog 71 #[sv s] w fun e w' => e = .returned (.bool (localL s)) ∧ Below w.heap.size w w' := by
  by_cases h64 : 64 < s.length
  · have HF := Lib.hid (show localL s = false by unfold localL; rw [decide_eq_false (by omega)]; rfl)
    go_enter Tryz.func71, Tryz.ntmps71
    go_wp2
    go_ret
    rw [HF.out]
    exact ⟨rfl, by first | exact Below.refl _ _ | exact (Below.refl _ _).alloc (Nat.le_refl _) _⟩
  have h64' : s.length ≤ 64 := by omega
  have hs2 : s.length ≤ 1000000 := by omega
  clear h64 hs
  have HL := Lib.hid (show localL s = (atomsL s || quotedL s) by unfold localL; rw [decide_eq_true h64']; rfl)
  have HB := Lib.hid ((Below.refl w.heap.size w).alloc (Nat.le_refl _) (.cells #[.func (.func 109) #[] #[], .func (.func 110) #[] #[]] 134))
  have i0 : ∀ w, (Instr.index 134 (.agg #[.func (.func 109) #[] #[], .func (.func 110) #[] #[]]) (.int .i64 0)).run Tryz.prog w = .ok (.func (.func 109) #[] #[]) w := fun _ => by kernel_rfl
  have i1 : ∀ w, (Instr.index 134 (.agg #[.func (.func 109) #[] #[], .func (.func 110) #[] #[]]) (.int .i64 1)).run Tryz.prog w = .ok (.func (.func 110) #[] #[]) w := fun _ => by kernel_rfl
  go_enter Tryz.func71, Tryz.ntmps71
  go_wp2_with (refine wpList_load_row rfl 134 (.tmp 3) rfl w.heap.size rfl 134 #[.func (.func 109) #[] #[], .func (.func 110) #[] #[]] (0, 0) _ (heap_alloc_new _ _) Tryz.underlying134 rfl (by kernel_rfl) ?_)
  obtain ⟨w1, hw1⟩ : ∃ w1, w1 = w.alloc (.cells #[.func (.func 109) #[] #[], .func (.func 110) #[] #[]] 134) := ⟨_, rfl⟩
  rw [← hw1] at HB ⊢
  clear hw1
  go_loopw [5, 11] (fun _ i wr => Below w.heap.size w wr ∧ LocAt s i) (fun _ i _ => 2 - (intOf i).toNat)
  case atStart => exact ⟨HB.out, .inl rfl⟩
  case round =>
    obtain ⟨hb, rfl | ⟨rfl, ha⟩ | ⟨rfl, hl⟩⟩ := hrel
    · have HBR := Lib.hid hb
      clear hb
      cases ha : atomsL s with
      | true =>
        have HA := Lib.hid ha
        clear ha
        go_wp2_with (go_at_call 109; refine (isAtoms_any _ _ hs2).mono ?_; rintro e w2 ⟨rfl, hb2⟩; rw [HA.out]; have HB2 := Lib.hid hb2; clear hb2)
        go_ret
        rw [HL.out, HA.out]
        exact ⟨rfl, HBR.out.trans (HB2.out.mono HBR.out.size)⟩
      | false =>
        have HA := Lib.hid ha
        clear ha
        go_wp2_with (go_at_call 109; refine (isAtoms_any _ _ hs2).mono ?_; rintro e w2 ⟨rfl, hb2⟩; rw [HA.out]; have HB2 := Lib.hid hb2; clear hb2)
        go_roundw
        case rel => exact ⟨HBR.out.trans (HB2.out.mono HBR.out.size), .inr (.inl ⟨rfl, HA.out⟩)⟩
        case measure => simp [intOf]
    · have HBR := Lib.hid hb
      have HA := Lib.hid ha
      clear hb ha
      cases hq : quotedL s with
      | true =>
        have HQ := Lib.hid hq
        clear hq
        go_wp2_with (go_at_call 110; refine (isQuoted_any _ _ hs2).mono ?_; rintro e w2 ⟨rfl, hb2⟩; rw [HQ.out]; have HB2 := Lib.hid hb2; clear hb2)
        go_ret
        rw [HL.out, HA.out, HQ.out]
        exact ⟨rfl, HBR.out.trans (HB2.out.mono HBR.out.size)⟩
      | false =>
        have HQ := Lib.hid hq
        clear hq
        go_wp2_with (go_at_call 110; refine (isQuoted_any _ _ hs2).mono ?_; rintro e w2 ⟨rfl, hb2⟩; rw [HQ.out]; have HB2 := Lib.hid hb2; clear hb2)
        go_roundw
        case rel => exact ⟨HBR.out.trans (HB2.out.mono HBR.out.size), .inr (.inr ⟨rfl, by rw [HL.out, HA.out, HQ.out]; rfl⟩)⟩
        case measure => simp [intOf]
    · have HBR := Lib.hid hb
      have HF := Lib.hid hl
      clear hb hl
      go_wp2
      go_ret
      rw [HF.out]
      exact ⟨rfl, HBR.out⟩
end Go.Proofs.YtbmjmiioobgbfaaGreatDoor
