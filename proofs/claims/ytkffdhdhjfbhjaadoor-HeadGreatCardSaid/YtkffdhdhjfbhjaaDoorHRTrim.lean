/-
  The contract of the reference's Trim; a store into a row of fields.
-/
import Derived.Test.YtkffdhdhjfbhjaaDoorHPureR
namespace Go.Proofs.YtkffdhdhjfbhjaaDoor
set_option linter.unusedSimpArgs false
set_option linter.unusedVariables false
open Go Go.RowKit Go.Shelf
set_option maxRecDepth 100000

def lenS (v : Value) : Nat := match v with | .string s => s.size | _ => 0

theorem rtL_snoc (p : UInt8 → Bool) (c : UInt8) (l : List UInt8) : rtL p (l ++ [c]) = if p c then rtL p l else l ++ [c] := by
  unfold rtL
  rw [List.reverse_append]
  by_cases h : p c = true
  · simp [h]
  · simp [h]

set_option maxHeartbeats 4000000 in
theorem rtrim_any (s : List UInt8) (w : World) (hs : s.length ≤ 1000000) :
    Calls Tryd.prog 44 #[sv s] w fun e w' => e = .returned (sv (trimL s)) ∧ Below w.heap.size w w' := by
  obtain ⟨r, hr⟩ : ∃ r, r = trimL s := ⟨_, rfl⟩
  rw [← hr]
  rw [trimL_is] at hr
  have HR := Lib.hid hr
  have HB := Lib.hid (Below.refl w.heap.size w)
  clear hr
  go_enter Tryd.func44, Tryd.ntmps44
  go_wp2_with fail
  go_loopw [0] (fun x wr => ∃ t : List UInt8, x = sv t ∧ t.length ≤ s.length ∧ t.dropWhile onB = s.dropWhile onB ∧ Below w.heap.size w wr) (fun x _ => lenS x)
  case atStart => exact ⟨s, rfl, Nat.le_refl _, rfl, HB.out⟩
  case round =>
    obtain ⟨t, rfl, htl, htd, hbl⟩ := hrel
    have HT := Lib.hid htd
    have HL := Lib.hid hbl
    clear htd hbl
    have out : ∀ (R : List UInt8), (t = [] ∨ ∃ c l, t = c :: l ∧ onB c = false) → s.dropWhile onB = t := by
      intro _ h
      rw [← HT.out]
      rcases h with rfl | ⟨c, l, rfl, hc⟩
      · rfl
      · rw [List.dropWhile_cons_of_neg (by simpa using hc)]
    have OUT := Lib.hid (out [])
    clear out
    cases t with
    | cons c l =>
      have h0 : (((str (c :: l))[0]'(by simp [ByteArray.size])).toNat) = c.toNat := rfl
      have HBL := Lib.hid (blank_any c c.toNat rfl wr)
      cases hc : onB c with
      | true =>
        rw [hc] at HBL
        have HN := Lib.hid (show l.dropWhile onB = s.dropWhile onB by rw [← HT.out, List.dropWhile_cons_of_pos hc])
        have E1 := Lib.hid (show (str (c :: l)).extract 1 (l.length + 1) = str l by rw [str_extract]; simp)
        clear hc
        go_wp2_with fail
        refine HBL.out.mono ?_
        rintro e w2 ⟨rfl, rfl⟩
        go_wp2_with fail
        rw [E1.out]
        go_roundw
        case rel => exact ⟨l, rfl, by simp at htl; omega, HN.out, HL.out⟩
        case measure => simp [lenS, ByteArray.size]
      | false =>
        rw [hc] at HBL
        have HO := Lib.hid (OUT.out (.inr ⟨c, l, rfl, hc⟩))
        clear hc
        go_wp2_with fail
        refine HBL.out.mono ?_
        rintro e w2 ⟨rfl, rfl⟩
        go_wp2_with fail
        go_loopw [0] (fun x wr => ∃ u : List UInt8, x = sv u ∧ u.length ≤ 1000000 ∧ rtL onB u = r ∧ Below w.heap.size w wr) (fun x _ => lenS x)
        case atStart => exact ⟨_, rfl, by omega, by rw [HR.out, HO.out], HL.out⟩
        case round =>
          obtain ⟨u, rfl, hul, hud, hbl⟩ := hrel
          have HU := Lib.hid hud
          have HM := Lib.hid hbl
          clear hud hbl
          rcases List.eq_nil_or_concat u with rfl | ⟨v, c, rfl⟩
          · have HE := Lib.hid (show ([] : List UInt8) = r from HU.out)
            go_wp2_with fail
            go_ret
            rw [← HE.out]
            exact ⟨rfl, HM.out⟩
          · rw [List.concat_eq_append] at *
            have hvl : (v ++ [c]).length = v.length + 1 := by simp
            have h0 : (((str (v ++ [c]))[v.length]'(by simp [ByteArray.size])).toNat) = c.toNat := by
              show ((v ++ [c])[v.length]'(by simp)).toNat = c.toNat
              rw [List.getElem_append_right (by omega)]
              simp
            have HBL := Lib.hid (blank_any c c.toNat rfl wr)
            have HUS := Lib.hid (rtL_snoc onB c v)
            cases hc : onB c with
            | true =>
              rw [hc] at HBL
              have HN := Lib.hid (show rtL onB v = r by rw [← HU.out, HUS.out, if_pos hc])
              have E1 := Lib.hid (show (str (v ++ [c])).extract 0 v.length = str v by rw [str_extract]; simp)
              clear hc
              go_wp2_with fail
              refine HBL.out.mono ?_
              rintro e w2 ⟨rfl, rfl⟩
              go_wp2_with fail
              rw [E1.out]
              go_roundw
              case rel => exact ⟨v, rfl, by omega, HN.out, HM.out⟩
              case measure => simp [lenS, ByteArray.size]
            | false =>
              rw [hc] at HBL
              have HN := Lib.hid (show v ++ [c] = r by rw [← HU.out, HUS.out, if_neg (by simp [hc])])
              clear hc
              go_wp2_with fail
              refine HBL.out.mono ?_
              rintro e w2 ⟨rfl, rfl⟩
              go_wp2_with fail
              go_ret
              rw [← HN.out]
              exact ⟨rfl, HM.out⟩
    | nil =>
      have HO := Lib.hid (OUT.out (.inl rfl))
      go_wp2_with fail
      go_loopw [0] (fun x wr => ∃ u : List UInt8, x = sv u ∧ u.length ≤ 1000000 ∧ rtL onB u = r ∧ Below w.heap.size w wr) (fun x _ => lenS x)
      case atStart => exact ⟨_, rfl, by simp, by rw [HR.out, HO.out], HL.out⟩
      case round =>
        obtain ⟨u, rfl, hul, hud, hbl⟩ := hrel
        have HU := Lib.hid hud
        have HM := Lib.hid hbl
        clear hud hbl
        rcases List.eq_nil_or_concat u with rfl | ⟨v, c, rfl⟩
        · have HE := Lib.hid (show ([] : List UInt8) = r from HU.out)
          go_wp2_with fail
          go_ret
          rw [← HE.out]
          exact ⟨rfl, HM.out⟩
        · rw [List.concat_eq_append] at *
          have hvl : (v ++ [c]).length = v.length + 1 := by simp
          have h0 : (((str (v ++ [c]))[v.length]'(by simp [ByteArray.size])).toNat) = c.toNat := by
            show ((v ++ [c])[v.length]'(by simp)).toNat = c.toNat
            rw [List.getElem_append_right (by omega)]
            simp
          have HBL := Lib.hid (blank_any c c.toNat rfl wr)
          have HUS := Lib.hid (rtL_snoc onB c v)
          cases hc : onB c with
          | true =>
            rw [hc] at HBL
            have HN := Lib.hid (show rtL onB v = r by rw [← HU.out, HUS.out, if_pos hc])
            have E1 := Lib.hid (show (str (v ++ [c])).extract 0 v.length = str v by rw [str_extract]; simp)
            clear hc
            go_wp2_with fail
            refine HBL.out.mono ?_
            rintro e w2 ⟨rfl, rfl⟩
            go_wp2_with fail
            rw [E1.out]
            go_roundw
            case rel => exact ⟨v, rfl, by omega, HN.out, HM.out⟩
            case measure => simp [lenS, ByteArray.size]
          | false =>
            rw [hc] at HBL
            have HN := Lib.hid (show v ++ [c] = r by rw [← HU.out, HUS.out, if_neg (by simp [hc])])
            clear hc
            go_wp2_with fail
            refine HBL.out.mono ?_
            rintro e w2 ⟨rfl, rfl⟩
            go_wp2_with fail
            go_ret
            rw [← HN.out]
            exact ⟨rfl, HM.out⟩
end Go.Proofs.YtkffdhdhjfbhjaaDoor
