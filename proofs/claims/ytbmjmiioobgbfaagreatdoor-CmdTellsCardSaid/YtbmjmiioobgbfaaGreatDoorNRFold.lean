/-
  The contract of the reference's Fold.
-/
import Derived.Laws.NewBlocks
import Derived.Test.YtbmjmiioobgbfaaGreatDoorNW
import Derived.Test.YtbmjmiioobgbfaaGreatDoorNFold
namespace Go.Proofs.YtbmjmiioobgbfaaGreatDoor
set_option linter.unusedSimpArgs false
set_option linter.unusedVariables false
open Go Go.RowKit
set_option maxRecDepth 100000

/-- 'string([]byte{b})', the slice just built. -/
theorem run_one (W : World) (b : UInt8) (x : Int) (hx : x = (b.toNat : Int)) : (convert 87 9 (.slice (some ⟨W.heap.size, 0, none⟩) 1 1)).run Tryz.prog (W.alloc (.cells #[.int .u8 x] 5)) = .ok (.string (str [b])) (W.alloc (.cells #[.int .u8 x] 5)) := by
  subst hx
  refine run_convert_bytes_back _ 87 9 5 ⟨W.heap.size, 0, none⟩ 1 [b] Tryz.underlying87 Tryz.underlying5 Tryz.underlying9 (fun j hj => ?_)
  obtain rfl : j = 0 := by simpa using hj
  show (W.alloc (.cells #[.int .u8 b.toNat] 5)).cell? ⟨W.heap.size, 0, none⟩ = _
  rw [World.cell?_alloc_mark]; rfl

theorem map_next {s : List UInt8} {k : Nat} (hk : k < s.length) {x : UInt8} (hx : smallC (s.getD k 0) = x) : (s.take k).map smallC ++ [x] = (s.take (k + 1)).map smallC := by
  rw [List.take_succ_eq_append_getElem hk, List.map_append, ← hx, getD_str s k hk]; rfl

theorem undot_cases (s : List UInt8) : (∃ t, s = t ++ [46] ∧ undot s = t) ∨ (undot s = s ∧ (s = [] ∨ (0 < s.length ∧ s.getD (s.length - 1) 0 ≠ 46))) := by
  by_cases h : s.getLast? = some 46
  · obtain ⟨t, rfl⟩ := List.getLast?_eq_some_iff.1 h
    exact .inl ⟨t, rfl, undot_dot t⟩
  · refine .inr ⟨by unfold undot; rw [if_neg h], ?_⟩
    cases s with
    | nil => exact .inl rfl
    | cons c r =>
      refine .inr ⟨by simp, fun e => h ?_⟩
      rw [List.getLast?_eq_getElem?, List.getElem?_eq_getElem (by simp), ← getD_str _ _ (by simp), e]

set_option maxHeartbeats 4000000 in
theorem rfold_dot (s t : List UInt8) (hst : s = t ++ [46]) (w : World) (hs : s.length ≤ 1000000) : Calls Tryz.prog 80 #[.string (str s)] w fun e w' => e = .returned (foldV (foldL s)) ∧ Below w.heap.size w w' := by
  have HU := Lib.hid (show undot s = t by rw [hst]; exact undot_dot t)
  have HSL := Lib.hid (show s.length = t.length + 1 by rw [hst]; simp)
  have hp : 0 < s.length := by have := HSL.out; omega
  have hcs : (((str s)[s.length - 1]'(by simp [ByteArray.size]; omega)).toNat) = 46 := by
    rw [str_getD s _ (by omega), hst]; simp
  have E := Lib.hid (show (str s).extract 0 (s.length - 1) = str t by rw [str_extract, hst]; simp)
  clear hst
  by_cases h253 : 253 < t.length
  · have HF := Lib.hid (show foldL s = none by
      unfold foldL; rw [HU.out, if_neg]
      rw [not_may_long (by rw [List.length_map]; exact h253)]; simp)
    have hb : 254 < s.length := by have := HSL.out; omega
    clear h253
    go_enter Tryz.func80, Tryz.ntmps80
    go_wp2_with fail
    go_ret2
    rw [HF.out]
    exact ⟨rfl, Below.refl _ _⟩
  have h253' : t.length ≤ 253 := by omega
  have hb : s.length ≤ 254 := by have := HSL.out; omega
  clear h253
  have HB := Lib.hid (Below.refl w.heap.size w)
  go_enter Tryz.func80, Tryz.ntmps80
  go_wp2_with fail
  rw [E.out]
  go_loopw [4, 5] (fun o i wr => ∃ k : Nat, k ≤ t.length ∧ i = .int .i64 k ∧ o = sv ((t.take k).map smallC) ∧ Below w.heap.size w wr) (fun _ i _ => t.length - (intOf i).toNat)
  case atStart => exact ⟨0, Nat.zero_le _, rfl, rfl, HB.out⟩
  case round =>
    obtain ⟨k, hk, rfl, rfl, hbl⟩ := hrel
    have HL := Lib.hid hbl
    have hml : ((t.take k).map smallC).length ≤ 253 := by simp; omega
    clear hbl
    obtain ⟨o, ho⟩ : ∃ o, o = (t.take k).map smallC := ⟨_, rfl⟩
    rw [← ho] at hml ⊢
    have HO := Lib.hid ho
    clear ho
    by_cases hlt : k < t.length
    · obtain ⟨c, hc⟩ : ∃ c, (t.getD k 0).toNat = c := ⟨_, rfl⟩
      have hcs : (((str t)[k]'(by simpa [ByteArray.size] using hlt)).toNat) = c := by rw [str_getD t k hlt, hc]
      have hc256 : c < 256 := by rw [← hc]; exact UInt8.toNat_lt _
      have HL2 := Lib.hid (fun o => HL.out.alloc HL.out.size o)
      by_cases h : 65 ≤ c ∧ c ≤ 90
      · obtain ⟨h1, h2⟩ := h
        obtain ⟨e1, e2⟩ := smallC_great hc h1 h2
        obtain ⟨x, hx⟩ : ∃ x, x = UInt8.ofNat (c + 32) := ⟨_, rfl⟩
        rw [← hx] at e1 e2
        have HN := Lib.hid (map_next hlt e1)
        have hone := fun W => run_one W x ((c : Int) + 32) (by rw [e2]; omega)
        clear hc e1 e2 hx
        go_wp2_with fail
        go_roundw
        case rel => exact ⟨k + 1, by omega, by go_num, by rw [str_append, HO.out, HN.out], HL2.out _⟩
        case measure => simp [intOf]; omega
      · obtain ⟨x, hx⟩ : ∃ x, x = t.getD k 0 := ⟨_, rfl⟩
        have HN := Lib.hid (map_next (x := x) hlt (by rw [smallC_other hc (by omega), hx]))
        have hone := fun W => run_one W x (c : Int) (by rw [hx, hc])
        rcases (show c < 65 ∨ 90 < c by omega) with h' | h'
        all_goals
          clear hc h hx
          go_wp2_with fail
          go_roundw
          case rel => exact ⟨k + 1, by omega, by go_num, by rw [str_append, HO.out, HN.out], HL2.out _⟩
          case measure => simp [intOf]; omega
    · obtain rfl : k = t.length := by omega
      rw [List.take_of_length_le (Nat.le_refl _)] at HO
      cases hm : mayL o with
      | true =>
        have HF := Lib.hid (show foldL s = some o by unfold foldL; rw [HU.out, ← HO.out, if_pos hm])
        have HM := Lib.hid hm
        clear hm
        go_wp2_with fail
        refine (rmay_any o _ (by omega)).mono ?_
        rintro e w2 ⟨rfl, hb2⟩
        rw [HM.out]
        have HB2 := Lib.hid (HL.out.trans (hb2.mono HL.out.size))
        clear hb2
        go_wp2_with fail
        go_ret2
        rw [HF.out]
        exact ⟨rfl, HB2.out⟩
      | false =>
        have HF := Lib.hid (show foldL s = none by unfold foldL; rw [HU.out, ← HO.out, if_neg (by rw [hm]; simp)])
        have HM := Lib.hid hm
        clear hm
        go_wp2_with fail
        refine (rmay_any o _ (by omega)).mono ?_
        rintro e w2 ⟨rfl, hb2⟩
        rw [HM.out]
        have HB2 := Lib.hid (HL.out.trans (hb2.mono HL.out.size))
        clear hb2
        go_wp2_with fail
        go_ret2
        rw [HF.out]
        exact ⟨rfl, HB2.out⟩

set_option maxHeartbeats 4000000 in
theorem rfold_plain (s : List UInt8) (hu : undot s = s) (hp : 0 < s.length) (hl : s.getD (s.length - 1) 0 ≠ 46) (w : World) (hs : s.length ≤ 1000000) : Calls Tryz.prog 80 #[.string (str s)] w fun e w' => e = .returned (foldV (foldL s)) ∧ Below w.heap.size w w' := by
  have HU := Lib.hid hu
  have hcs : ((((str s)[s.length - 1]'(by simp [ByteArray.size]; omega)).toNat : Int) == 46) = false := by
    rw [str_getD s _ (by omega), beq_eq_false_iff_ne]
    intro e
    exact hl (UInt8.toNat_inj.1 (by have : (46 : UInt8).toNat = 46 := rfl; omega))
  clear hu hl
  by_cases h253 : 253 < s.length
  · have HF := Lib.hid (show foldL s = none by
      unfold foldL; rw [HU.out, if_neg]
      rw [not_may_long (by rw [List.length_map]; exact h253)]; simp)
    have hb : 253 < s.length := by omega
    clear h253
    go_enter Tryz.func80, Tryz.ntmps80
    go_wp2_with fail
    go_ret2
    rw [HF.out]
    exact ⟨rfl, Below.refl _ _⟩
  have h253' : s.length ≤ 253 := by omega
  have hb : s.length ≤ 253 := by omega
  clear h253
  have HB := Lib.hid (Below.refl w.heap.size w)
  go_enter Tryz.func80, Tryz.ntmps80
  go_wp2_with fail
  go_loopw [4, 5] (fun o i wr => ∃ k : Nat, k ≤ s.length ∧ i = .int .i64 k ∧ o = sv ((s.take k).map smallC) ∧ Below w.heap.size w wr) (fun _ i _ => s.length - (intOf i).toNat)
  case atStart => exact ⟨0, Nat.zero_le _, rfl, rfl, HB.out⟩
  case round =>
    obtain ⟨k, hk, rfl, rfl, hbl⟩ := hrel
    have HL := Lib.hid hbl
    have hml : ((s.take k).map smallC).length ≤ 253 := by simp; omega
    clear hbl
    obtain ⟨o, ho⟩ : ∃ o, o = (s.take k).map smallC := ⟨_, rfl⟩
    rw [← ho] at hml ⊢
    have HO := Lib.hid ho
    clear ho
    by_cases hlt : k < s.length
    · obtain ⟨c, hc⟩ : ∃ c, (s.getD k 0).toNat = c := ⟨_, rfl⟩
      have hcs : (((str s)[k]'(by simpa [ByteArray.size] using hlt)).toNat) = c := by rw [str_getD s k hlt, hc]
      have hc256 : c < 256 := by rw [← hc]; exact UInt8.toNat_lt _
      have HL2 := Lib.hid (fun o => HL.out.alloc HL.out.size o)
      by_cases h : 65 ≤ c ∧ c ≤ 90
      · obtain ⟨h1, h2⟩ := h
        obtain ⟨e1, e2⟩ := smallC_great hc h1 h2
        obtain ⟨x, hx⟩ : ∃ x, x = UInt8.ofNat (c + 32) := ⟨_, rfl⟩
        rw [← hx] at e1 e2
        have HN := Lib.hid (map_next hlt e1)
        have hone := fun W => run_one W x ((c : Int) + 32) (by rw [e2]; omega)
        clear hc e1 e2 hx
        go_wp2_with fail
        go_roundw
        case rel => exact ⟨k + 1, by omega, by go_num, by rw [str_append, HO.out, HN.out], HL2.out _⟩
        case measure => simp [intOf]; omega
      · obtain ⟨x, hx⟩ : ∃ x, x = s.getD k 0 := ⟨_, rfl⟩
        have HN := Lib.hid (map_next (x := x) hlt (by rw [smallC_other hc (by omega), hx]))
        have hone := fun W => run_one W x (c : Int) (by rw [hx, hc])
        rcases (show c < 65 ∨ 90 < c by omega) with h' | h'
        all_goals
          clear hc h hx
          go_wp2_with fail
          go_roundw
          case rel => exact ⟨k + 1, by omega, by go_num, by rw [str_append, HO.out, HN.out], HL2.out _⟩
          case measure => simp [intOf]; omega
    · obtain rfl : k = s.length := by omega
      rw [List.take_of_length_le (Nat.le_refl _)] at HO
      cases hm : mayL o with
      | true =>
        have HF := Lib.hid (show foldL s = some o by unfold foldL; rw [HU.out, ← HO.out, if_pos hm])
        have HM := Lib.hid hm
        clear hm
        go_wp2_with fail
        refine (rmay_any o _ (by omega)).mono ?_
        rintro e w2 ⟨rfl, hb2⟩
        rw [HM.out]
        have HB2 := Lib.hid (HL.out.trans (hb2.mono HL.out.size))
        clear hb2
        go_wp2_with fail
        go_ret2
        rw [HF.out]
        exact ⟨rfl, HB2.out⟩
      | false =>
        have HF := Lib.hid (show foldL s = none by unfold foldL; rw [HU.out, ← HO.out, if_neg (by rw [hm]; simp)])
        have HM := Lib.hid hm
        clear hm
        go_wp2_with fail
        refine (rmay_any o _ (by omega)).mono ?_
        rintro e w2 ⟨rfl, hb2⟩
        rw [HM.out]
        have HB2 := Lib.hid (HL.out.trans (hb2.mono HL.out.size))
        clear hb2
        go_wp2_with fail
        go_ret2
        rw [HF.out]
        exact ⟨rfl, HB2.out⟩

theorem rfold_any (s : List UInt8) (w : World) (hs : s.length ≤ 1000000) : Calls Tryz.prog 80 #[.string (str s)] w fun e w' => e = .returned (foldV (foldL s)) ∧ Below w.heap.size w w' := by
  rcases undot_cases s with ⟨t, h, _⟩ | ⟨h1, h2 | ⟨h2, h3⟩⟩
  · exact rfold_dot s t h w hs
  · subst h2
    go_enter Tryz.func80, Tryz.ntmps80
    go_wp2_with fail
    go_loopw [4, 5] (fun o i wr => i = .int .i64 0 ∧ o = sv [] ∧ Below w.heap.size w wr) (fun _ _ _ => 0)
    case atStart => exact ⟨rfl, rfl, Below.refl _ _⟩
    case round =>
      obtain ⟨rfl, rfl, hbl⟩ := hrel
      have HL := Lib.hid hbl
      clear hbl
      go_wp2_with fail
      refine (rmay_any [] _ (by simp)).mono ?_
      rintro e w2 ⟨rfl, hb2⟩
      have HB2 := Lib.hid (HL.out.trans (hb2.mono HL.out.size))
      clear hb2
      rw [show mayL [] = false by decide]
      go_wp2_with fail
      go_ret2
      exact ⟨rfl, HB2.out⟩
  · exact rfold_plain s h1 h2 h3 w hs
end Go.Proofs.YtbmjmiioobgbfaaGreatDoor
