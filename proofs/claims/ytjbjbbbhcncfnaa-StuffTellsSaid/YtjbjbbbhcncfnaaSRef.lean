/-
  The reference's Stuff, Unstuff, Dots, Whole: they are the plain functions.
-/
import Derived.Test.YtjbjbbbhcncfnaaSRNext
import Derived.Test.YtjbjbbbhcncfnaaSPartsC
namespace Go.Proofs.Ytjbjbbbhcncfnaa
open Go Go.RowKit Go.Shelf
set_option maxRecDepth 100000
set_option linter.unusedSimpArgs false
set_option linter.unusedVariables false

/-- Between two lines: these lines have come, t is left. -/
def Come (s : List UInt8) (P : List (List UInt8)) (t : List UInt8) : Prop := s = joinL P ++ t ∧ cutL s = P ++ cutL t ∧ restL s = restL t
theorem Come.start (s : List UInt8) : Come s [] s := ⟨rfl, rfl, rfl⟩
theorem Come.next {s : List UInt8} {P : List (List UInt8)} {a r : List UInt8} (h : Come s P (a ++ 13 :: 10 :: r)) (ha : NoCL (a ++ [13])) : Come s (P ++ [a]) r := by
  obtain ⟨h1, h2, h3⟩ := h
  refine ⟨?_, ?_, ?_⟩
  · rw [h1, joinL_append]; simp [joinL]
  · rw [h2, (cut_cons r ha).1]; simp
  · rw [h3, (cut_cons r ha).2]
theorem Come.len {s : List UInt8} {P : List (List UInt8)} {t : List UInt8} (h : Come s P t) : (joinL P).length + t.length = s.length ∧ 2 * P.length ≤ s.length := by
  have e := congrArg List.length h.1
  rw [List.length_append] at e
  have key : ∀ xs : List (List UInt8), 2 * xs.length ≤ (joinL xs).length := by
    intro xs
    induction xs with
    | nil => exact Nat.le_refl _
    | cons x xs ih => rw [joinL_cons]; simp only [List.length_append, List.length_cons]; omega
  have := key P
  omega
theorem Come.lines {s : List UInt8} {P : List (List UInt8)} {t : List UInt8} (h : Come s P t) : (itemsL s).map (·.1) = P ++ (itemsL t).map (·.1) := by
  unfold itemsL
  rw [h.2.1, h.2.2]
  simp [Function.comp_def]

/-- A line's first byte. -/
theorem first_byte (a : List UInt8) : ∃ c : Nat, (∀ h : 0 < (str (a ++ [13, 10])).size, ((str (a ++ [13, 10]))[0]'h).toNat = c) ∧ (((c : Nat) : Int) == 46) = dotB a := by
  cases a with
  | nil => exact ⟨13, fun h => rfl, rfl⟩
  | cons x t =>
    refine ⟨x.toNat, fun h => rfl, ?_⟩
    unfold dotB
    simp only [List.head?_cons]
    by_cases hx : x = 46
    · subst hx; rfl
    · have h1 : x.toNat ≠ 46 := fun e => hx (UInt8.toNat_inj.1 (by rw [e]; rfl))
      rw [show ((x.toNat : Int) == 46) = false from by rw [beq_eq_false_iff_ne]; omega]
      symm
      simpa using hx

theorem len_undL (xs : List (List UInt8)) : (joinL (xs.map undL)).length ≤ (joinL xs).length := by
  induction xs with
  | nil => exact Nat.le_refl _
  | cons x xs ih =>
    rw [List.map_cons, joinL_cons, joinL_cons]
    simp only [List.length_append, List.length_cons]
    have : (undL x).length ≤ x.length := by
      unfold undL
      split
      · simp
      · exact Nat.le_refl _
    omega

set_option maxHeartbeats 4000000 in
theorem rstuff_any (s : List UInt8) (w : World) (hs : s.length ≤ 200000) :
    Calls Try.prog 13 #[.string (str s)] w fun e w' => e = .returned (.tuple #[.string (str (stuffL s)), .int .i64 (stuffE s)]) ∧ Below w.heap.size w w' := by
  go_enter Try.func13, Try.ntmps13
  go_wp2_with fail
  go_loopw [0, 4] (fun tv ov wr => ∃ (P : List (List UInt8)) (t o : List UInt8), tv = sv t ∧ ov = sv o ∧ Come s P t ∧ o = joinL (P.map dotd) ∧ Below w.heap.size w wr) (fun tv _ _ => match tv with | .string x => x.size | _ => 0)
  case atStart => exact ⟨[], s, [], rfl, rfl, Come.start s, rfl, Below.refl _ _⟩
  case round =>
    obtain ⟨P, t, o, rfl, rfl, hc, ho, hb⟩ := hrel
    obtain ⟨l1, l2⟩ := hc.len
    have ol : o.length ≤ 400000 := by rw [ho, len_dotd]; have := List.countP_le_length (p := dotB) (l := P); omega
    have HC := Lib.hid hc
    have HO := Lib.hid ho
    have HB := Lib.hid hb
    clear hc ho hb
    by_cases h0 : t = []
    · subst h0
      have HE := Lib.hid (show stuffL s = o ++ [46, 13, 10] ∧ stuffE s = 0 by
        obtain ⟨_, c2, c3⟩ := HC.out
        have e : restL s = [] := by rw [c3]; rfl
        unfold stuffL stuffE
        rw [if_pos e, if_pos e, c2, HO.out]
        exact ⟨by simp [cut_nil.1], rfl⟩)
      clear l1 l2
      go_wp2
      go_ret2
      rw [HE.out.1, HE.out.2, ← str_append]
      exact ⟨rfl, HB.out⟩
    · have ht0 : t.isEmpty = false := by cases t with | nil => exact absurd rfl h0 | cons => rfl
      have hnx := next_any t wr (by omega)
      have HNX := Lib.hid hnx
      clear hnx
      go_wp2_with fail
      refine HNX.out.mono ?_
      rintro e w1 ⟨hb1, (⟨a, r, rfl, ha, rfl⟩ | ⟨hn, rfl⟩)⟩
      · obtain ⟨c, hc1, hc2⟩ := first_byte a
        have HN := Lib.hid (HC.out.next ha)
        have hal : a.length + 2 + r.length ≤ 200000 := by simp at l1; omega
        have hsz : (str (a ++ [13, 10])).size = a.length + 2 := by simp [ByteArray.size]
        have HB1 := Lib.hid (HB.out.trans (hb1.mono HB.out.size))
        have hc3 := hc1 (by rw [hsz]; omega)
        clear hb1 ha HNX HC hc1 l1 h0
        cases hd : dotB a with
        | true =>
          rw [hd] at hc2
          have HO2 := Lib.hid (show str o ++ str [46] ++ str (a ++ [13, 10]) = str (joinL ((P ++ [a]).map dotd)) by
            rw [str_append, str_append, HO.out, List.map_append, joinL_append]
            simp [joinL, dotd, hd])
          go_wp2
          go_roundw
          case rel => exact ⟨P ++ [a], r, joinL ((P ++ [a]).map dotd), rfl, congrArg Value.string HO2.out, HN.out, rfl, HB1.out⟩
          case measure => simp [ByteArray.size]; omega
        | false =>
          rw [hd] at hc2
          have HO2 := Lib.hid (show str o ++ str (a ++ [13, 10]) = str (joinL ((P ++ [a]).map dotd)) by
            rw [str_append, HO.out, List.map_append, joinL_append]
            simp [joinL, dotd, hd])
          go_wp2
          go_roundw
          case rel => exact ⟨P ++ [a], r, joinL ((P ++ [a]).map dotd), rfl, congrArg Value.string HO2.out, HN.out, rfl, HB1.out⟩
          case measure => simp [ByteArray.size]; omega
      · have HE := Lib.hid (show stuffL s = [] ∧ stuffE s = 4 by
          obtain ⟨_, c2, c3⟩ := HC.out
          have e : restL s ≠ [] := by rw [c3, (cut_none hn).2]; exact h0
          unfold stuffL stuffE
          rw [if_neg e, if_neg e]
          exact ⟨rfl, rfl⟩)
        have HB1 := Lib.hid (HB.out.trans (hb1.mono HB.out.size))
        clear hb1 hn HNX HC l1 h0
        go_wp2
        go_ret2
        rw [HE.out.1, HE.out.2]
        exact ⟨rfl, HB1.out⟩

set_option maxHeartbeats 4000000 in
theorem rdots_any (s : List UInt8) (w : World) (hs : s.length ≤ 200000) :
    Calls Try.prog 15 #[.string (str s)] w fun e w' => e = .returned (.int .i64 (dotsL s : Int)) ∧ Below w.heap.size w w' := by
  go_enter Try.func15, Try.ntmps15
  go_wp2_with fail
  go_loopw [0, 3] (fun tv nv wr => ∃ (P : List (List UInt8)) (t : List UInt8) (n : Nat), tv = sv t ∧ nv = .int .i64 (n : Int) ∧ (itemsL s).map (·.1) = P ++ (itemsL t).map (·.1) ∧ t.length ≤ s.length ∧ n = P.countP dotB ∧ n ≤ s.length ∧ Below w.heap.size w wr) (fun tv _ _ => match tv with | .string x => x.size | _ => 0)
  case atStart => exact ⟨[], s, 0, rfl, rfl, rfl, Nat.le_refl _, rfl, Nat.zero_le _, Below.refl _ _⟩
  case round =>
    obtain ⟨P, t, n, rfl, rfl, hc, hl, hn, hnl, hb⟩ := hrel
    have HC := Lib.hid hc
    have HN := Lib.hid hn
    have HB := Lib.hid hb
    have hup : ∀ x r, (itemsL t).map (·.1) = x :: r → dotB x = true → n + 1 ≤ s.length := fun x r e hx => by
      have h1 := items_len s
      have h2 := congrArg (fun l => List.countP dotB l) hc
      simp only [List.countP_append, e, List.countP_cons, hx, if_true] at h2
      have h3 := List.countP_le_length (p := dotB) (l := (itemsL s).map (·.1))
      rw [List.length_map] at h3
      omega
    have HU := Lib.hid hup
    clear hc hn hb hup
    by_cases h0 : t = []
    · subst h0
      have HE := Lib.hid (show n = dotsL s by unfold dotsL; rw [HC.out, HN.out]; simp [itemsL, cut_nil])
      go_wp2
      go_ret
      rw [← HE.out]
      exact ⟨rfl, HB.out⟩
    · have ht0 : t.isEmpty = false := by cases t with | nil => exact absurd rfl h0 | cons => rfl
      have HNX := Lib.hid (next_any t wr (by omega))
      go_wp2_with fail
      refine HNX.out.mono ?_
      rintro e w1 ⟨hb1, (⟨a, r, rfl, ha, rfl⟩ | ⟨hno, rfl⟩)⟩
      · obtain ⟨c, hc1, hc2⟩ := first_byte a
        have hit : (itemsL (a ++ 13 :: 10 :: r)).map (·.1) = a :: (itemsL r).map (·.1) := by unfold itemsL; rw [(cut_cons r ha).1, (cut_cons r ha).2]; rfl
        have HI := Lib.hid (show (itemsL s).map (·.1) = (P ++ [a]) ++ (itemsL r).map (·.1) by rw [HC.out, hit]; simp)
        have hal : a.length + 2 + r.length ≤ s.length := by simp at hl; omega
        have hsz : (str (a ++ [13, 10])).size = a.length + 2 := by simp [ByteArray.size]
        have HB1 := Lib.hid (HB.out.trans (hb1.mono HB.out.size))
        have hc3 := hc1 (by rw [hsz]; omega)
        have HUP := Lib.hid (HU.out _ _ hit)
        clear hb1 ha HNX hc1 hl h0 hit
        cases hd : dotB a with
        | true =>
          rw [hd] at hc2
          have hn1 := HUP.out hd
          have HO2 := Lib.hid (show n + 1 = (P ++ [a]).countP dotB by rw [List.countP_append, ← HN.out]; simp [hd])
          go_wp2
          go_roundw
          case rel => exact ⟨P ++ [a], r, n + 1, rfl, by go_num, HI.out, by omega, HO2.out, hn1, HB1.out⟩
          case measure => simp [ByteArray.size]; omega
        | false =>
          rw [hd] at hc2
          have HO2 := Lib.hid (show n = (P ++ [a]).countP dotB by rw [List.countP_append, ← HN.out]; simp [hd])
          go_wp2
          go_roundw
          case rel => exact ⟨P ++ [a], r, n, rfl, by go_num, HI.out, by omega, HO2.out, hnl, HB1.out⟩
          case measure => simp [ByteArray.size]; omega
      · cases t with
        | nil => exact absurd rfl h0
        | cons x t =>
        have hit : (itemsL (x :: t)).map (·.1) = [x :: t] := by unfold itemsL; rw [(cut_none hno).1, (cut_none hno).2]; rfl
        have HI := Lib.hid (show (itemsL s).map (·.1) = (P ++ [x :: t]) ++ (itemsL []).map (·.1) by rw [HC.out, hit]; simp [itemsL, cut_nil])
        have HB1 := Lib.hid (HB.out.trans (hb1.mono HB.out.size))
        obtain ⟨c, hc⟩ : ∃ c, x.toNat = c := ⟨_, rfl⟩
        have hc3 : ∀ h : 0 < (str (x :: t)).size, ((str (x :: t))[0]'h).toNat = c := fun h => hc
        have hc3 := hc3 (by simp [ByteArray.size])
        have HUP := Lib.hid (HU.out _ _ hit)
        have hc2 : ((c : Int) == 46) = dotB (x :: t) := by
          unfold dotB
          simp only [List.head?_cons]
          by_cases hx : x = 46
          · subst hx; subst hc; rfl
          · have h1 : c ≠ 46 := fun e => hx (UInt8.toNat_inj.1 (by rw [hc, e]; rfl))
            rw [show ((c : Int) == 46) = false from by rw [beq_eq_false_iff_ne]; omega]
            symm
            simpa using hx
        clear hb1 hno HNX h0 hit hc
        cases hd : dotB (x :: t) with
        | true =>
          rw [hd] at hc2
          have hn1 := HUP.out hd
          have HO2 := Lib.hid (show n + 1 = (P ++ [x :: t]).countP dotB by rw [List.countP_append, ← HN.out]; simp [hd])
          go_wp2
          go_roundw
          case rel => exact ⟨P ++ [x :: t], [], n + 1, rfl, by go_num, HI.out, by simp, HO2.out, hn1, HB1.out⟩
          case measure => simp [ByteArray.size]
        | false =>
          rw [hd] at hc2
          have HO2 := Lib.hid (show n = (P ++ [x :: t]).countP dotB by rw [List.countP_append, ← HN.out]; simp [hd])
          go_wp2
          go_roundw
          case rel => exact ⟨P ++ [x :: t], [], n, rfl, by go_num, HI.out, by simp, HO2.out, hnl, HB1.out⟩
          case measure => simp [ByteArray.size]

theorem end_line (a : List UInt8) : ((a ++ [13, 10]) == [46, 13, 10]) = (a == [46]) := by
  rw [Bool.eq_iff_iff, beq_iff_eq, beq_iff_eq]
  constructor
  · intro h
    have := congrArg (fun l => l.dropLast.dropLast) h
    rw [show a ++ [13, 10] = (a ++ [13]) ++ [10] by simp] at this
    simpa using this
  · rintro rfl; rfl

set_option maxHeartbeats 4000000 in
theorem rwhole_any (s : List UInt8) (w : World) (hs : s.length ≤ 200000) :
    Calls Try.prog 16 #[.string (str s)] w fun e w' => e = .returned (.bool (wholeL s)) ∧ Below w.heap.size w w' := by
  go_enter Try.func16, Try.ntmps16
  go_wp2_with fail
  go_loopw [0] (fun tv wr => ∃ (P : List (List UInt8)) (t : List UInt8), tv = sv t ∧ cutL s = P ++ cutL t ∧ t.length ≤ s.length ∧ P.contains [46] = false ∧ Below w.heap.size w wr) (fun tv _ => match tv with | .string x => x.size | _ => 0)
  case atStart => exact ⟨[], s, rfl, rfl, Nat.le_refl _, rfl, Below.refl _ _⟩
  case round =>
    obtain ⟨P, t, rfl, hc, hl, hn, hb⟩ := hrel
    have HC := Lib.hid hc
    have HN := Lib.hid hn
    have HB := Lib.hid hb
    clear hc hn hb
    by_cases h0 : t = []
    · subst h0
      have HE := Lib.hid (show false = wholeL s by unfold wholeL; rw [HC.out, cut_nil.1, List.append_nil, HN.out])
      go_wp2
      go_ret
      rw [← HE.out]
      exact ⟨rfl, HB.out⟩
    · have ht0 : t.isEmpty = false := by cases t with | nil => exact absurd rfl h0 | cons => rfl
      have HNX := Lib.hid (next_any t wr (by omega))
      go_wp2_with fail
      refine HNX.out.mono ?_
      rintro e w1 ⟨hb1, (⟨a, r, rfl, ha, rfl⟩ | ⟨hno, rfl⟩)⟩
      · have HI := Lib.hid (show cutL s = (P ++ [a]) ++ cutL r by rw [HC.out, (cut_cons r ha).1]; simp)
        have hal : a.length + 2 + r.length ≤ s.length := by simp at hl; omega
        have HB1 := Lib.hid (HB.out.trans (hb1.mono HB.out.size))
        have he := end_line a
        clear hb1 ha HNX hl h0
        cases hd : (a == [46]) with
        | true =>
          rw [hd] at he
          have HE := Lib.hid (show true = wholeL s by
            obtain rfl : a = [46] := by simpa using hd
            unfold wholeL; rw [HI.out]; simp)
          go_wp2
          go_ret
          rw [← HE.out]
          exact ⟨rfl, HB1.out⟩
        | false =>
          rw [hd] at he
          have HO2 := Lib.hid (show (P ++ [a]).contains [46] = false by
            have h1 := HN.out
            have h2 : ¬ a = [46] := by simpa using hd
            simp only [List.contains_eq_mem, decide_eq_false_iff_not, List.mem_append, List.mem_singleton, not_or] at h1 ⊢
            exact ⟨h1, fun e => h2 e.symm⟩)
          go_wp2
          go_roundw
          case rel => exact ⟨P ++ [a], r, rfl, HI.out, by omega, HO2.out, HB1.out⟩
          case measure => simp [ByteArray.size]; omega
      · have HI := Lib.hid (show cutL s = P ++ cutL [] by rw [HC.out, (cut_none hno).1, cut_nil.1])
        have HB1 := Lib.hid (HB.out.trans (hb1.mono HB.out.size))
        have htl : 0 < t.length := List.length_pos_iff.2 h0
        clear hb1 hno HNX h0
        go_wp2
        go_roundw
        case rel => exact ⟨P, [], rfl, HI.out, by simp, HN.out, HB1.out⟩
        case measure => simp [ByteArray.size]; omega
end Go.Proofs.Ytjbjbbbhcncfnaa
