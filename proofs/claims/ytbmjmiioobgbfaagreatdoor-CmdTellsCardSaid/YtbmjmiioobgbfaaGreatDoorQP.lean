/-
  The reference's params (layer 7): what is so of the parameters that a text begins by.
  The reference's params (layer 7): it is the plain function.
  The reference's Parse (layer 7): what is so of the plain function, in the reference's order.
  The reference's Parse (layer 7): it is the plain function.
-/
import Derived.Test.YtbmjmiioobgbfaaGreatDoorQG
import Derived.Deep.CutRange
import Derived.Deep.RegionLaw
import Derived.Test.YtbmjmiioobgbfaaGreatDoorKParse
namespace Go.Proofs.YtbmjmiioobgbfaaGreatDoor
open Go Go.RowKit Go.Shelf
set_option maxRecDepth 100000
set_option linter.unusedSimpArgs false
set_option linter.unusedVariables false

/-- What the reference makes of a word. -/
def wordQ (a : List UInt8) : PM := (gr (untilB a 61), (a.drop (untilB a 61).length).tail)
theorem wordQ_plain {a : List UInt8} (h : ∀ c ∈ a, c ≠ 61) : wordQ a = (gr a, []) := by
  unfold wordQ
  rw [until_all h]
  simp
theorem wordQ_eq {n v : List UInt8} (h : ∀ c ∈ n, c ≠ 61) : wordQ (n ++ 61 :: v) = (gr n, v) := by
  unfold wordQ
  rw [until_at h]
  simp
theorem wordP_yes {a : List UInt8} (h : pL (wordQ a) = true) (hv : a.contains 61 = true → (wordQ a).2 ≠ []) : wordP a = some (wordQ a) := by
  unfold wordP
  have e1 : pL (gr (untilB a 61), (a.drop (untilB a 61).length).tail) = true := h
  rw [e1, Bool.true_and]
  rcases until_cases 61 a with ⟨h1, h2⟩ | ⟨n, t, rfl, h1, h2⟩
  · have hc : a.contains 61 = false := by
      rw [Bool.eq_false_iff]; intro e; exact h1 61 (by simpa using e) rfl
    rw [h2, hc]
    simp
    unfold wordQ
    rw [h2]; simp
  · have hc : (n ++ 61 :: t).contains 61 = true := by simp
    have := hv hc
    rw [wordQ_eq h1] at this ⊢
    rw [h2, hc]
    simp
    cases t with
    | nil => simp at this
    | cons => simp
theorem wordP_no {a : List UInt8} (h : pL (wordQ a) = false) : wordP a = none := by
  unfold wordP
  have e1 : pL (gr (untilB a 61), (a.drop (untilB a 61).length).tail) = false := h
  rw [e1]
  rfl
theorem wordP_empty {n : List UInt8} (h : ∀ c ∈ n, c ≠ 61) : wordP (n ++ [61]) = none := by
  rw [wordP_eq h]
  simp
/-- The text's word, and where it ends. -/
def wEnd (S : List UInt8) : Nat := (untilB S.tail 32).length + 1
def wOf (S : List UInt8) : List UInt8 := untilB S.tail 32
theorem until_len (b : UInt8) : ∀ t : List UInt8, (untilB t b).length ≤ t.length ∧ t.take (untilB t b).length = untilB t b
  | [] => ⟨Nat.le_refl _, rfl⟩
  | c :: t => by
    have ih := until_len b t
    unfold untilB at ih ⊢
    rw [List.takeWhile_cons]
    split
    · simp only [List.length_cons, List.take_succ_cons]
      exact ⟨by omega, by rw [ih.2]⟩
    · simp
theorem wEnd_le {S : List UInt8} (h : 0 < S.length) : 1 ≤ wEnd S ∧ wEnd S ≤ S.length ∧ (S.take (wEnd S)).drop 1 = wOf S := by
  cases S with
  | nil => simp at h
  | cons c t =>
    have := until_len 32 t
    unfold wEnd wOf
    simp only [List.tail_cons, List.length_cons, List.take_succ_cons, List.drop_succ_cons, List.drop_zero]
    exact ⟨by omega, by omega, this.2⟩
/-- The loop that looks for the word's end stands at e. -/
theorem wEnd_at {S : List UInt8} (h : 0 < S.length) {e : Nat} (he : 1 ≤ e) (hle : e ≤ S.length) (hup : ∀ j, 1 ≤ j → j < e → S.getD j 0 ≠ 32) (hend : e = S.length ∨ S.getD e 0 = 32) : e = wEnd S := by
  cases S with
  | nil => simp at h
  | cons c t =>
    unfold wEnd
    rw [List.tail_cons]
    have hup' : ∀ x ∈ t.take (e - 1), x ≠ 32 := by
      intro x hx
      obtain ⟨j, hj, rfl⟩ := List.getElem_of_mem hx
      rw [List.length_take] at hj
      have := hup (j + 1) (by omega) (by omega)
      rw [List.getD_cons_succ] at this
      rw [List.getElem_take]
      rw [List.getD_eq_getElem?_getD, List.getElem?_eq_getElem (by omega)] at this
      simpa using this
    simp only [List.length_cons] at hle hend
    rcases hend with hend | hend
    · have : t.take (e - 1) = t := List.take_of_length_le (by omega)
      rw [this] at hup'
      rw [until_all hup']; omega
    · rcases Nat.lt_or_ge (e - 1) t.length with hlt | hge
      · have hx : t.getD (e - 1) 0 = 32 := by
          have e1 : e = e - 1 + 1 := by omega
          rw [e1, List.getD_cons_succ] at hend
          exact hend
        have e2 : t = t.take (e - 1) ++ 32 :: t.drop e := by
          have h1 := (List.take_append_drop (e - 1) t).symm
          rw [List.drop_eq_getElem_cons hlt] at h1
          rw [List.getD_eq_getElem?_getD, List.getElem?_eq_getElem hlt] at hx
          simp only [Option.getD_some] at hx
          rw [hx, show e - 1 + 1 = e by omega] at h1
          exact h1
        rw [e2, until_at hup', List.length_take]
        omega
      · have : t.take (e - 1) = t := List.take_of_length_le (by omega)
        rw [this] at hup'
        rw [until_all hup']; omega
theorem wEnd_up {S : List UInt8} (h : 0 < S.length) {j : Nat} (h1 : 1 ≤ j) (h2 : j < wEnd S) : S.getD j 0 ≠ 32 := by
  cases S with
  | nil => simp at h
  | cons c t =>
    unfold wEnd at h2
    rw [List.tail_cons] at h2
    obtain ⟨k, rfl⟩ : ∃ k, j = k + 1 := ⟨j - 1, by omega⟩
    rw [List.getD_cons_succ]
    have hk : k < (untilB t 32).length := by omega
    have hl := (until_len 32 t).1
    have hm : t.getD k 0 ∈ untilB t 32 := by
      rw [← (until_len 32 t).2, List.getD_eq_getElem?_getD, List.getElem?_eq_getElem (by omega)]
      simp only [Option.getD_some]
      rw [List.mem_take_iff_getElem]
      exact ⟨k, by omega, rfl⟩
    rcases until_cases 32 t with ⟨ha, hb⟩ | ⟨a, r, hr, ha, hb⟩
    · rw [hb] at hm; exact ha _ hm
    · rw [hb] at hm; exact ha _ hm
theorem wEnd_byte {S : List UInt8} (h : 0 < S.length) (h2 : wEnd S < S.length) : S.getD (wEnd S) 0 = 32 := by
  cases S with
  | nil => simp at h
  | cons c t =>
    unfold wEnd at h2 ⊢
    rw [List.tail_cons] at h2 ⊢
    rw [List.getD_cons_succ]
    rcases until_cases 32 t with ⟨ha, hb⟩ | ⟨a, r, hr, ha, hb⟩
    · rw [hb] at h2; simp at h2
    · rw [hb, hr]; simp
theorem step_word {S : List UInt8} (h : 0 < S.length) (h0 : S.getD 0 0 = 32) : stepP S = (wordP (wOf S)).map fun p => (p, S.drop (wEnd S)) := by
  cases S with
  | nil => simp at h
  | cons c t =>
    have hc : c = 32 := h0
    subst hc
    rw [stepP_cons, if_pos rfl]
    rfl
theorem step_not {S : List UInt8} (h : 0 < S.length) (h0 : S.getD 0 0 ≠ 32) : stepP S = none := by
  cases S with
  | nil => simp at h
  | cons c t => rw [stepP_cons, if_neg (show ¬ c = 32 from h0)]
end Go.Proofs.YtbmjmiioobgbfaaGreatDoor

namespace Go.Proofs.YtbmjmiioobgbfaaGreatDoor
open Go Go.RowKit Go.Shelf
set_option maxRecDepth 100000
set_option linter.unusedSimpArgs false
set_option linter.unusedVariables false

def szV : Value → Nat
  | .string b => b.size
  | _ => 0
/-- The answer of params. -/
def PsPost (w : World) (s : List UInt8) (e : Ending) (w' : World) : Prop :=
  Below w.heap.size w w' ∧ (((parsP s).2 ≠ [] ∧ e = .returned (.tuple #[.slice none 0 0, .bool false])) ∨ ((parsP s).2 = [] ∧ ∃ A c, e = .returned (.tuple #[.slice A (parsP s).1.length c, .bool true]) ∧ PR w' (.slice A (parsP s).1.length c) (parsP s).1))

theorem two_of {W : World} {g : Nat} {x y : Value} {T : TypeId} (h : W.heap[g]? = some (.cells #[x, y] T (0, 0))) : W.cell? ⟨g, 0, none⟩ = some x ∧ W.cell? ⟨g, 1, none⟩ = some y := ⟨by rw [cellAt h]; rfl, by rw [cellAt h]; rfl⟩
/-- two_cells -/
theorem two_cells : True := trivial

set_option maxHeartbeats 16000000 in
theorem rparams_any (s : List UInt8) (w : World) (hs : s.length ≤ 1000) : Calls Tryz.prog 67 #[sv s] w (PsPost w s) := by
  go_enter Tryz.func67, Tryz.ntmps67
  go_wp2_with fail
  go_loopw [0, 4] (fun x out W => ∃ S L, x = sv S ∧ S.length + L.length ≤ s.length ∧ parsP s = (L ++ (parsP S).1, (parsP S).2) ∧ Below w.heap.size w W ∧ PO 95 w.heap.size W out L) (fun x _ _ => szV x)
  case atStart => exact ⟨s, [], rfl, by simp, rfl, Below.refl _ _, PO.nil _ _ _⟩
  case round =>
    obtain ⟨S, L, rfl, hl, hp, hb, ho⟩ := hrel
    obtain ⟨A, cc, rfl⟩ := ho.form
    have HP := Lib.hid hp
    have HB := Lib.hid hb
    have HO := Lib.hid ho
    clear hp hb ho
    by_cases hS : S = []
    · subst hS
      have HF := Lib.hid (show parsP s = (L, []) by rw [HP.out, show parsP ([] : List UInt8) = ([], []) from rfl, List.append_nil])
      go_wp2_with fail
      go_ret2
      refine ⟨HB.out, .inr ?_⟩
      rw [HF.out]
      exact ⟨rfl, _, _, rfl, HO.out.pr⟩
    · have hS0 : 0 < S.length := List.length_pos_iff.2 hS
      have hne : S.isEmpty = false := by cases S with | nil => exact absurd rfl hS | cons => rfl
      obtain ⟨b, hb0⟩ : ∃ b, (S.getD 0 0).toNat = b := ⟨_, rfl⟩
      have hcs : (((str S)[0]'(by simpa [ByteArray.size] using hS0)).toNat) = b := by rw [str_getD S 0 hS0, hb0]
      have i0 : (0 : Int) < (S.length : Int) := by omega
      by_cases h32 : b = 32
      · subst h32
        have hc32 : S.getD 0 0 = 32 := by
          have := UInt8.toNat_inj.1 (show (S.getD 0 0).toNat = (32 : UInt8).toNat from hb0)
          exact this
        have HST := Lib.hid (step_word hS0 hc32)
        obtain ⟨E, hE⟩ : ∃ E, E = wEnd S := ⟨_, rfl⟩
        obtain ⟨a, ha⟩ : ∃ a, a = wOf S := ⟨_, rfl⟩
        obtain ⟨w1, w2, w3⟩ := wEnd_le hS0
        rw [← hE] at w1 w2 w3 HST
        rw [← ha] at w3 HST
        have HUP := Lib.hid (show ∀ j, 1 ≤ j → j < E → S.getD j 0 ≠ 32 from fun j h1 h2 => wEnd_up hS0 h1 (by rw [← hE]; exact h2))
        have HEN := Lib.hid (show E < S.length → S.getD E 0 = 32 from fun h => by rw [hE]; exact wEnd_byte hS0 (by rw [← hE]; exact h))
        clear hE ha hb0 hc32
        go_wp2_with fail
        have HEX := Lib.hid (show E = S.length ∨ (E < S.length ∧ S.getD E 0 = 32) by
          by_cases h : E = S.length
          · exact .inl h
          · refine .inr ⟨by omega, HEN.out (by omega)⟩)
        go_loopw [5] (fun v W => ∃ e : Nat, v = .int .i64 (e : Int) ∧ 1 ≤ e ∧ e ≤ E ∧ W = wr) (fun v _ => E - (intOf v).toNat)
        case atStart => exact ⟨1, rfl, Nat.le_refl _, w1, rfl⟩
        case round =>
          obtain ⟨e, rfl, he1, hel, rfl⟩ := hrel
          by_cases hlt : e < E
          · obtain ⟨x, hx⟩ : ∃ x, (S.getD e 0).toNat = x := ⟨_, rfl⟩
            have hes : e < S.length := by omega
            have hxs : (((str S)[e]'(by simpa [ByteArray.size] using hes)).toNat) = x := by rw [str_getD S e hes, hx]
            have ie : (e : Int) < (S.length : Int) := by omega
            have hx32 : x ≠ 32 := fun h => HUP.out e he1 hlt (UInt8.toNat_inj.1 (show (S.getD e 0).toNat = (32 : UInt8).toNat by rw [hx, h]; rfl))
            have i2 : ((x : Int) != 32) = true := by simp; omega
            clear hx
            go_wp2_with fail
            go_roundw
            case rel => exact ⟨e + 1, by go_num, by omega, by omega, by first | rfl | trivial⟩
            case measure => simp [intOf]; omega
          · obtain rfl : e = E := by omega
            have HBY := Lib.hid (show ∀ j, 1 ≤ j → j < e → S.getD j 0 = a.getD (j - 1) 0 from fun j h1 h2 => by
              rw [← w3, List.getD_eq_getElem?_getD, List.getD_eq_getElem?_getD, List.getElem?_drop, List.getElem?_take]
              rw [show 1 + (j - 1) = j by omega, if_pos h2])
            have hal : a.length = e - 1 := by rw [← w3, List.length_drop, List.length_take]; omega
            rcases HEX.out with h | ⟨h, hx⟩
            · have ie : ¬ (e : Int) < (S.length : Int) := by omega
              clear h
              have HA61 := Lib.hid (until_cases 61 a)
              have k1 : (1 : Int) ≤ (e : Int) := by omega
              have k2 : (e : Int) ≤ (S.length : Int) := by omega
              have hx1 : (str S).extract 1 e = str a := by rw [str_extract, w3]
              have HG := Lib.hid (fun W => rGreat_any a W (by omega))
              go_wp2_with fail
              refine (HG.out _).mono ?_
              rintro e4 w4 ⟨rfl, hb4⟩
              obtain ⟨W5, hW5⟩ : ∃ W, W = w4.alloc (.cells #[sv (gr a), sv []] 95) := ⟨_, rfl⟩
              obtain ⟨pb, hpb⟩ : ∃ g, g = w4.heap.size := ⟨_, rfl⟩
              have h45 : Below wr.heap.size wr W5 := by rw [hW5]; exact hb4.alloc hb4.size _
              have HPB := Lib.hid (show W5.heap[pb]? = some (.cells #[sv (gr a), sv []] 95 (0, 0)) by rw [hW5, hpb]; exact heap_alloc_new w4 _)
              have HB5 := Lib.hid (HB.out.trans (h45.mono HB.out.size))
              have HO5 := Lib.hid (HO.out.below h45)
              have HPN := Lib.hid (show w.heap.size ≤ pb ∧ ∀ g, (Value.slice A L.length cc).ownBlock = some g → g ≠ pb by
                refine ⟨by rw [hpb]; have := hb4.size; have := HB.out.size; omega, fun g hg h => ?_⟩
                have := (HO.out.lt hg).2
                have := hb4.size
                omega)
              clear hx1 h45 hb4 HG
              go_wp2_with fail
              rw [← hpb]
              rw [← hW5]
              clear hW5 hpb
              rcases HA61.out with ⟨hno, -⟩ | ⟨n, v, hav, hno, -⟩
              · obtain ⟨q, hq⟩ : ∃ q, q = wordQ a := ⟨_, rfl⟩
                have hq2 : q = (gr a, []) := by rw [hq, wordQ_plain hno]
                have HQ := Lib.hid hq
                have HV := Lib.hid (show a.contains 61 = true → q.2 ≠ [] from fun h => absurd rfl (hno 61 (by simpa using h)))
                have HMP := Lib.hid (fun W => rmayp_any q W (by rw [hq2]; simp [gr]; omega) (by rw [hq2]; simp))
                have HNO := Lib.hid (show ∀ j, 1 ≤ j → j < e → S.getD j 0 ≠ 61 from fun j h1 h2 h3 => hno 61 (by
                  rw [HBY.out j h1 h2] at h3
                  rw [← h3, List.getD_eq_getElem?_getD, List.getElem?_eq_getElem (by omega)]
                  exact List.getElem_mem _) rfl)
                have HQ1 := Lib.hid (show q.1 = gr a ∧ q.2 = [] by rw [hq2]; exact ⟨rfl, rfl⟩)
                rw [← HQ1.out.1, ← HQ1.out.2] at HPB
                clear hno hq hq2
                go_loopw [7] (fun v W => ∃ i : Nat, v = .int .i64 (i : Int) ∧ 1 ≤ i ∧ i ≤ e ∧ W = W5) (fun v _ => e - (intOf v).toNat)
                case atStart => exact ⟨1, rfl, Nat.le_refl _, w1, rfl⟩
                case round =>
                  obtain ⟨i, rfl, hi1, hil, rfl⟩ := hrel
                  by_cases hie : i < e
                  · obtain ⟨x, hx⟩ : ∃ x, (S.getD i 0).toNat = x := ⟨_, rfl⟩
                    have hes : i < S.length := by omega
                    have hxs : (((str S)[i]'(by simpa [ByteArray.size] using hes)).toNat) = x := by rw [str_getD S i hes, hx]
                    have ie : (i : Int) < (S.length : Int) := by omega
                    have ie2 : (i : Int) < (e : Int) := by omega
                    have hx61 : x ≠ 61 := fun h => HNO.out i hi1 hie (UInt8.toNat_inj.1 (show (S.getD i 0).toNat = (61 : UInt8).toNat by rw [hx, h]; rfl))
                    have i2 : ((x : Int) == 61) = false := by rw [beq_eq_false_iff_ne]; omega
                    clear hx
                    go_wp2_with fail
                    go_roundw
                    case rel => exact ⟨i + 1, by go_num, by omega, by omega, by first | rfl | trivial⟩
                    case measure => simp [intOf]; omega
                  · obtain rfl : i = e := by omega
                    obtain ⟨p0, p1⟩ := (two_of HPB.out)
                    have lp := lt_of_blk HPB.out
                    go_wp2_with fail
                    refine (HMP.out _).mono ?_
                    rintro e6 w6 ⟨rfl, hb6⟩
                    have HB6 := Lib.hid (HB5.out.trans (hb6.mono HB5.out.size))
                    have HO6 := Lib.hid (HO5.out.below hb6)
                    have hp6 := blk_below HPB.out hb6
                    clear hb6 p0 p1 lp
                    cases hpl : pL q with
                    | false =>
                      have HF := Lib.hid (show parsP s = (L, S) by rw [HP.out, parsP_none (by rw [HST.out, wordP_no (by rw [← HQ.out]; exact hpl)]; rfl), List.append_nil])
                      clear hp6
                      go_wp2_with fail
                      go_ret2
                      exact ⟨HB6.out, .inl ⟨by rw [HF.out]; exact hS, rfl⟩⟩
                    | true =>
                      have HF := Lib.hid (show parsP s = ((L ++ [q]) ++ (parsP (S.drop i)).1, (parsP (S.drop i)).2) by
                        rw [HP.out, parsP_some (by rw [HST.out, wordP_yes (by rw [← HQ.out]; exact hpl) (by rw [← HQ.out]; exact HV.out), ← HQ.out]; rfl), List.append_assoc]; rfl)
                      obtain ⟨p0, p1⟩ := (two_of hp6)
                      have lp := lt_of_blk hp6
                      obtain ⟨g7, cap7, w7, hrun, hpo, hgr, hor⟩ := po_append Tryz.underlying59 info_rparam (by decide) HO6.out HB6.out.size (by omega) q.1 q.2
                      have HRUN := Lib.hid hrun
                      have HB7 := Lib.hid (HB6.out.alloc HB6.out.size (.cells #[sv q.1, sv q.2] 95) |>.grown hgr (by simp only [World.size_alloc]; have := HB6.out.size; omega) (fun k hk => (HO6.out.lt hk).1))
                      have HO7 := Lib.hid hpo
                      clear hrun hpo hgr hor
                      have hx2 : (str S).extract i S.length = str (S.drop i) := by rw [str_extract, List.take_of_length_le (Nat.le_refl _)]
                      go_wp2_with (at_builtin; refine wpList_app rfl (.tmp 55) (.tmp 57) 59 rfl rfl rfl HRUN.out ?_)
                      go_roundw
                      case rel => exact ⟨S.drop i, L ++ [q], rfl, by simp only [List.length_drop, List.length_append, List.length_cons, List.length_nil]; omega, HF.out, HB7.out, by simpa using HO7.out⟩
                      case measure => simp [szV, ByteArray.size]; omega
              · obtain ⟨q, hq⟩ : ∃ q, q = wordQ a := ⟨_, rfl⟩
                have hq2 : q = (gr n, v) := by rw [hq, hav, wordQ_eq hno]
                have HQ := Lib.hid hq
                have HMP := Lib.hid (fun W => rmayp_any q W (by rw [hq2]; simp [gr]; have := congrArg List.length hav; simp at this; omega) (by rw [hq2]; have := congrArg List.length hav; simp at this; show v.length ≤ 1000000; omega))
                have HQ1 := Lib.hid (show q.1 = gr n ∧ q.2 = v by rw [hq2]; exact ⟨rfl, rfl⟩)
                have HWE := Lib.hid (show v = [] → wordP a = none from fun h => by rw [hav, h]; exact wordP_empty hno)
                have HQA := Lib.hid (show a.length = n.length + 1 + v.length by rw [hav]; simp; omega)
                obtain ⟨I, hI⟩ : ∃ I, I = n.length + 1 := ⟨_, rfl⟩
                have HNO := Lib.hid (show ∀ j, 1 ≤ j → j < I → S.getD j 0 ≠ 61 from fun j h1 h2 h3 => hno 61 (by
                  rw [HBY.out j h1 (by have := HQA.out; omega), hav, List.getD_eq_getElem?_getD, List.getElem?_append_left (by omega), List.getElem?_eq_getElem (by omega)] at h3
                  rw [← h3]
                  exact List.getElem_mem _) rfl)
                have hI61 : S.getD I 0 = 61 := by
                  rw [HBY.out I (by omega) (by have := HQA.out; omega), hav, hI]
                  simp
                have hIe : I < e := by have := HQA.out; omega
                have hIe1 : I + 1 ≤ e := hIe
                have hxn : (str S).extract 1 I = str n := by
                  rw [str_extract]
                  have : (S.take I).drop 1 = n := by
                    have h1 : (S.take I).drop 1 = ((S.take e).drop 1).take (I - 1) := by
                      rw [List.drop_take, List.drop_take, List.take_take]
                      rw [show min (I - 1) (e - 1) = I - 1 by omega]
                    rw [h1, w3, hav, hI]
                    simp
                  rw [this]
                have hxv : (str S).extract (I + 1) e = str v := by
                  rw [str_extract]
                  have : (S.take e).drop (I + 1) = v := by
                    have h1 : (S.take e).drop (I + 1) = ((S.take e).drop 1).drop I := by rw [List.drop_drop, Nat.add_comm]
                    rw [h1, w3, hav, hI]
                    simp
                  rw [this]
                have HXN := Lib.hid hxn
                have HXV := Lib.hid hxv
                have HIB := Lib.hid hI61
                have HGN := Lib.hid (fun W => rGreat_any n W (by have := HQA.out; omega))
                have hI1 : 1 ≤ I := by omega
                clear hno hq hq2 hav hI hxn hxv hI61
                go_loopw [7] (fun v W => ∃ i : Nat, v = .int .i64 (i : Int) ∧ 1 ≤ i ∧ i ≤ I ∧ W = W5) (fun v _ => I - (intOf v).toNat)
                case atStart => exact ⟨1, rfl, Nat.le_refl _, hI1, rfl⟩
                case round =>
                  obtain ⟨i, rfl, hi1, hil, rfl⟩ := hrel
                  by_cases hie : i < I
                  · obtain ⟨x, hx⟩ : ∃ x, (S.getD i 0).toNat = x := ⟨_, rfl⟩
                    have hes : i < S.length := by omega
                    have hxs : (((str S)[i]'(by simpa [ByteArray.size] using hes)).toNat) = x := by rw [str_getD S i hes, hx]
                    have ie : (i : Int) < (S.length : Int) := by omega
                    have ie2 : (i : Int) < (e : Int) := by omega
                    have hx61 : x ≠ 61 := fun h => HNO.out i hi1 hie (UInt8.toNat_inj.1 (show (S.getD i 0).toNat = (61 : UInt8).toNat by rw [hx, h]; rfl))
                    have i2 : ((x : Int) == 61) = false := by rw [beq_eq_false_iff_ne]; omega
                    clear hx
                    go_wp2_with fail
                    go_roundw
                    case rel => exact ⟨i + 1, by go_num, by omega, by omega, by first | rfl | trivial⟩
                    case measure => simp [intOf]; omega
                  · obtain rfl : i = I := by omega
                    have hes : i < S.length := by omega
                    have hxs : (((str S)[i]'(by simpa [ByteArray.size] using hes)).toNat) = 61 := by rw [str_getD S i hes, HIB.out]; rfl
                    have ie : (i : Int) < (S.length : Int) := by omega
                    have ie2 : (i : Int) < (e : Int) := by omega
                    clear hie
                    go_wp2_with fail
                    go_cut [] from 39 to 48 (fun W => Below w.heap.size w W ∧ PO 95 w.heap.size W (.slice A L.length cc) L ∧ W.heap[pb]? = some (.cells #[sv q.1, sv q.2] 95 (0, 0)))
                    case first =>
                      have b1 : (1 : Int) ≤ (i : Int) := by omega
                      have b2 : (i : Int) ≤ (S.length : Int) := by omega
                      have b3 : (i : Int) + 1 ≤ (e : Int) := by omega
                      have b4 : ((i : Int) + 1).toNat = i + 1 := by omega
                      have b5 : (0 : Int) ≤ (i : Int) + 1 := by omega
                      have s0 : IntKind.i64.wrap ((i : Int) + 1) = (i : Int) + 1 := IntWalk.i64_in _ (by omega)
                      have x1 := HXN.out
                      have x2 := HXV.out
                      go_region_law (go_simp; go_at_call 65; with_reducible refine (HGN.out _).mono ?_; rintro e7 w7 ⟨rfl, hb7⟩; have hbx : Below wr.heap.size wr w7 := (by first | exact hb7 | exact ((Below.refl _ wr).drew).trans (hb7.mono (Nat.le_refl _)) | exact ((Below.refl _ wr).drew.drew).trans (hb7.mono (Nat.le_refl _))); have hp7 := blk_below HPB.out hbx; obtain ⟨y0, y1⟩ := two_of hp7; have f0 := freeAt hp7 0; have f1 := freeAt hp7 1; have l7 := lt_of_blk hp7)
                      all_goals (try go_wp2)
                      all_goals go_meet
                      all_goals (case rel => exact ⟨((HB5.out.trans (hbx.mono HB5.out.size)).setCell (p := ⟨pb, 0, none⟩) HPN.out.1 _).setCell (p := ⟨pb, 1, none⟩) HPN.out.1 _, ((HO5.out.below hbx).set HPN.out.2 _).set HPN.out.2 _, by simp [World.setCell, Array.getElem?_modify, hp7, HQ1.out.1, HQ1.out.2]⟩)
                    case rest =>
                      obtain ⟨hbc, hoc, hpc⟩ := hcut
                      have HPB := Lib.hid hpc
                      have HB5 := Lib.hid hbc
                      have HO5 := Lib.hid hoc
                      clear hbc hoc hpc
                      obtain ⟨p0, p1⟩ := two_of HPB.out
                      have lp := lt_of_blk HPB.out
                      by_cases hv : q.2 = []
                      · have HF := Lib.hid (show parsP s = (L, S) by rw [HP.out, parsP_none (by rw [HST.out, HWE.out (by rw [← HQ1.out.2]; exact hv)]; rfl), List.append_nil])
                        rw [hv] at p1
                        clear hv
                        go_wp2_with fail
                        go_ret2
                        exact ⟨HB5.out, .inl ⟨by rw [HF.out]; exact hS, rfl⟩⟩
                      · have hve : q.2.isEmpty = false := by cases hq : q.2 with | nil => exact absurd hq hv | cons => rfl
                        have hvb : (q.2 == []) = false := by cases hq : q.2 with | nil => exact absurd hq hv | cons => rfl
                        have HV := Lib.hid (show a.contains 61 = true → q.2 ≠ [] from fun _ => hv)
                        clear hv
                        go_wp2_with fail
                        refine (HMP.out _).mono ?_
                        rintro e6 w6 ⟨rfl, hb6⟩
                        have HB6 := Lib.hid (HB5.out.trans (hb6.mono HB5.out.size))
                        have HO6 := Lib.hid (HO5.out.below hb6)
                        have hp6 := blk_below HPB.out hb6
                        clear hb6 p0 p1 lp
                        cases hpl : pL q with
                        | false =>
                          have HF := Lib.hid (show parsP s = (L, S) by rw [HP.out, parsP_none (by rw [HST.out, wordP_no (by rw [← HQ.out]; exact hpl)]; rfl), List.append_nil])
                          clear hp6
                          go_wp2_with fail
                          go_ret2
                          exact ⟨HB6.out, .inl ⟨by rw [HF.out]; exact hS, rfl⟩⟩
                        | true =>
                          have HF := Lib.hid (show parsP s = ((L ++ [q]) ++ (parsP (S.drop e)).1, (parsP (S.drop e)).2) by
                            rw [HP.out, parsP_some (by rw [HST.out, wordP_yes (by rw [← HQ.out]; exact hpl) (by rw [← HQ.out]; exact HV.out), ← HQ.out]; rfl), List.append_assoc]; rfl)
                          obtain ⟨p0, p1⟩ := (two_of hp6)
                          have lp := lt_of_blk hp6
                          obtain ⟨g7, cap7, w7, hrun, hpo, hgr, hor⟩ := po_append Tryz.underlying59 info_rparam (by decide) HO6.out HB6.out.size (by omega) q.1 q.2
                          have HRUN := Lib.hid hrun
                          have HB7 := Lib.hid (HB6.out.alloc HB6.out.size (.cells #[sv q.1, sv q.2] 95) |>.grown hgr (by simp only [World.size_alloc]; have := HB6.out.size; omega) (fun k hk => (HO6.out.lt hk).1))
                          have HO7 := Lib.hid hpo
                          clear hrun hpo hgr hor
                          have hx2 : (str S).extract e S.length = str (S.drop e) := by rw [str_extract, List.take_of_length_le (Nat.le_refl _)]
                          go_wp2_with (at_builtin; refine wpList_app rfl (.tmp 55) (.tmp 57) 59 rfl rfl rfl HRUN.out ?_)
                          go_roundw
                          case rel => exact ⟨S.drop e, L ++ [q], rfl, by simp only [List.length_drop, List.length_append, List.length_cons, List.length_nil]; omega, HF.out, HB7.out, by simpa using HO7.out⟩
                          case measure => simp [szV, ByteArray.size]; omega
            · have hxs : (((str S)[e]'(by simpa [ByteArray.size] using h)).toNat) = 32 := by rw [str_getD S e h, hx]; rfl
              have ie : (e : Int) < (S.length : Int) := by omega
              clear hx
              have HA61 := Lib.hid (until_cases 61 a)
              have k1 : (1 : Int) ≤ (e : Int) := by omega
              have k2 : (e : Int) ≤ (S.length : Int) := by omega
              have hx1 : (str S).extract 1 e = str a := by rw [str_extract, w3]
              have HG := Lib.hid (fun W => rGreat_any a W (by omega))
              go_wp2_with fail
              refine (HG.out _).mono ?_
              rintro e4 w4 ⟨rfl, hb4⟩
              obtain ⟨W5, hW5⟩ : ∃ W, W = w4.alloc (.cells #[sv (gr a), sv []] 95) := ⟨_, rfl⟩
              obtain ⟨pb, hpb⟩ : ∃ g, g = w4.heap.size := ⟨_, rfl⟩
              have h45 : Below wr.heap.size wr W5 := by rw [hW5]; exact hb4.alloc hb4.size _
              have HPB := Lib.hid (show W5.heap[pb]? = some (.cells #[sv (gr a), sv []] 95 (0, 0)) by rw [hW5, hpb]; exact heap_alloc_new w4 _)
              have HB5 := Lib.hid (HB.out.trans (h45.mono HB.out.size))
              have HO5 := Lib.hid (HO.out.below h45)
              have HPN := Lib.hid (show w.heap.size ≤ pb ∧ ∀ g, (Value.slice A L.length cc).ownBlock = some g → g ≠ pb by
                refine ⟨by rw [hpb]; have := hb4.size; have := HB.out.size; omega, fun g hg h => ?_⟩
                have := (HO.out.lt hg).2
                have := hb4.size
                omega)
              clear hx1 h45 hb4 HG
              go_wp2_with fail
              rw [← hpb]
              rw [← hW5]
              clear hW5 hpb
              rcases HA61.out with ⟨hno, -⟩ | ⟨n, v, hav, hno, -⟩
              · obtain ⟨q, hq⟩ : ∃ q, q = wordQ a := ⟨_, rfl⟩
                have hq2 : q = (gr a, []) := by rw [hq, wordQ_plain hno]
                have HQ := Lib.hid hq
                have HV := Lib.hid (show a.contains 61 = true → q.2 ≠ [] from fun h => absurd rfl (hno 61 (by simpa using h)))
                have HMP := Lib.hid (fun W => rmayp_any q W (by rw [hq2]; simp [gr]; omega) (by rw [hq2]; simp))
                have HNO := Lib.hid (show ∀ j, 1 ≤ j → j < e → S.getD j 0 ≠ 61 from fun j h1 h2 h3 => hno 61 (by
                  rw [HBY.out j h1 h2] at h3
                  rw [← h3, List.getD_eq_getElem?_getD, List.getElem?_eq_getElem (by omega)]
                  exact List.getElem_mem _) rfl)
                have HQ1 := Lib.hid (show q.1 = gr a ∧ q.2 = [] by rw [hq2]; exact ⟨rfl, rfl⟩)
                rw [← HQ1.out.1, ← HQ1.out.2] at HPB
                clear hno hq hq2
                go_loopw [7] (fun v W => ∃ i : Nat, v = .int .i64 (i : Int) ∧ 1 ≤ i ∧ i ≤ e ∧ W = W5) (fun v _ => e - (intOf v).toNat)
                case atStart => exact ⟨1, rfl, Nat.le_refl _, w1, rfl⟩
                case round =>
                  obtain ⟨i, rfl, hi1, hil, rfl⟩ := hrel
                  by_cases hie : i < e
                  · obtain ⟨x, hx⟩ : ∃ x, (S.getD i 0).toNat = x := ⟨_, rfl⟩
                    have hes : i < S.length := by omega
                    have hxs : (((str S)[i]'(by simpa [ByteArray.size] using hes)).toNat) = x := by rw [str_getD S i hes, hx]
                    have ie : (i : Int) < (S.length : Int) := by omega
                    have ie2 : (i : Int) < (e : Int) := by omega
                    have hx61 : x ≠ 61 := fun h => HNO.out i hi1 hie (UInt8.toNat_inj.1 (show (S.getD i 0).toNat = (61 : UInt8).toNat by rw [hx, h]; rfl))
                    have i2 : ((x : Int) == 61) = false := by rw [beq_eq_false_iff_ne]; omega
                    clear hx
                    go_wp2_with fail
                    go_roundw
                    case rel => exact ⟨i + 1, by go_num, by omega, by omega, by first | rfl | trivial⟩
                    case measure => simp [intOf]; omega
                  · obtain rfl : i = e := by omega
                    obtain ⟨p0, p1⟩ := (two_of HPB.out)
                    have lp := lt_of_blk HPB.out
                    go_wp2_with fail
                    refine (HMP.out _).mono ?_
                    rintro e6 w6 ⟨rfl, hb6⟩
                    have HB6 := Lib.hid (HB5.out.trans (hb6.mono HB5.out.size))
                    have HO6 := Lib.hid (HO5.out.below hb6)
                    have hp6 := blk_below HPB.out hb6
                    clear hb6 p0 p1 lp
                    cases hpl : pL q with
                    | false =>
                      have HF := Lib.hid (show parsP s = (L, S) by rw [HP.out, parsP_none (by rw [HST.out, wordP_no (by rw [← HQ.out]; exact hpl)]; rfl), List.append_nil])
                      clear hp6
                      go_wp2_with fail
                      go_ret2
                      exact ⟨HB6.out, .inl ⟨by rw [HF.out]; exact hS, rfl⟩⟩
                    | true =>
                      have HF := Lib.hid (show parsP s = ((L ++ [q]) ++ (parsP (S.drop i)).1, (parsP (S.drop i)).2) by
                        rw [HP.out, parsP_some (by rw [HST.out, wordP_yes (by rw [← HQ.out]; exact hpl) (by rw [← HQ.out]; exact HV.out), ← HQ.out]; rfl), List.append_assoc]; rfl)
                      obtain ⟨p0, p1⟩ := (two_of hp6)
                      have lp := lt_of_blk hp6
                      obtain ⟨g7, cap7, w7, hrun, hpo, hgr, hor⟩ := po_append Tryz.underlying59 info_rparam (by decide) HO6.out HB6.out.size (by omega) q.1 q.2
                      have HRUN := Lib.hid hrun
                      have HB7 := Lib.hid (HB6.out.alloc HB6.out.size (.cells #[sv q.1, sv q.2] 95) |>.grown hgr (by simp only [World.size_alloc]; have := HB6.out.size; omega) (fun k hk => (HO6.out.lt hk).1))
                      have HO7 := Lib.hid hpo
                      clear hrun hpo hgr hor
                      have hx2 : (str S).extract i S.length = str (S.drop i) := by rw [str_extract, List.take_of_length_le (Nat.le_refl _)]
                      go_wp2_with (at_builtin; refine wpList_app rfl (.tmp 55) (.tmp 57) 59 rfl rfl rfl HRUN.out ?_)
                      go_roundw
                      case rel => exact ⟨S.drop i, L ++ [q], rfl, by simp only [List.length_drop, List.length_append, List.length_cons, List.length_nil]; omega, HF.out, HB7.out, by simpa using HO7.out⟩
                      case measure => simp [szV, ByteArray.size]; omega
              · obtain ⟨q, hq⟩ : ∃ q, q = wordQ a := ⟨_, rfl⟩
                have hq2 : q = (gr n, v) := by rw [hq, hav, wordQ_eq hno]
                have HQ := Lib.hid hq
                have HMP := Lib.hid (fun W => rmayp_any q W (by rw [hq2]; simp [gr]; have := congrArg List.length hav; simp at this; omega) (by rw [hq2]; have := congrArg List.length hav; simp at this; show v.length ≤ 1000000; omega))
                have HQ1 := Lib.hid (show q.1 = gr n ∧ q.2 = v by rw [hq2]; exact ⟨rfl, rfl⟩)
                have HWE := Lib.hid (show v = [] → wordP a = none from fun h => by rw [hav, h]; exact wordP_empty hno)
                have HQA := Lib.hid (show a.length = n.length + 1 + v.length by rw [hav]; simp; omega)
                obtain ⟨I, hI⟩ : ∃ I, I = n.length + 1 := ⟨_, rfl⟩
                have HNO := Lib.hid (show ∀ j, 1 ≤ j → j < I → S.getD j 0 ≠ 61 from fun j h1 h2 h3 => hno 61 (by
                  rw [HBY.out j h1 (by have := HQA.out; omega), hav, List.getD_eq_getElem?_getD, List.getElem?_append_left (by omega), List.getElem?_eq_getElem (by omega)] at h3
                  rw [← h3]
                  exact List.getElem_mem _) rfl)
                have hI61 : S.getD I 0 = 61 := by
                  rw [HBY.out I (by omega) (by have := HQA.out; omega), hav, hI]
                  simp
                have hIe : I < e := by have := HQA.out; omega
                have hIe1 : I + 1 ≤ e := hIe
                have hxn : (str S).extract 1 I = str n := by
                  rw [str_extract]
                  have : (S.take I).drop 1 = n := by
                    have h1 : (S.take I).drop 1 = ((S.take e).drop 1).take (I - 1) := by
                      rw [List.drop_take, List.drop_take, List.take_take]
                      rw [show min (I - 1) (e - 1) = I - 1 by omega]
                    rw [h1, w3, hav, hI]
                    simp
                  rw [this]
                have hxv : (str S).extract (I + 1) e = str v := by
                  rw [str_extract]
                  have : (S.take e).drop (I + 1) = v := by
                    have h1 : (S.take e).drop (I + 1) = ((S.take e).drop 1).drop I := by rw [List.drop_drop, Nat.add_comm]
                    rw [h1, w3, hav, hI]
                    simp
                  rw [this]
                have HXN := Lib.hid hxn
                have HXV := Lib.hid hxv
                have HIB := Lib.hid hI61
                have HGN := Lib.hid (fun W => rGreat_any n W (by have := HQA.out; omega))
                have hI1 : 1 ≤ I := by omega
                clear hno hq hq2 hav hI hxn hxv hI61
                go_loopw [7] (fun v W => ∃ i : Nat, v = .int .i64 (i : Int) ∧ 1 ≤ i ∧ i ≤ I ∧ W = W5) (fun v _ => I - (intOf v).toNat)
                case atStart => exact ⟨1, rfl, Nat.le_refl _, hI1, rfl⟩
                case round =>
                  obtain ⟨i, rfl, hi1, hil, rfl⟩ := hrel
                  by_cases hie : i < I
                  · obtain ⟨x, hx⟩ : ∃ x, (S.getD i 0).toNat = x := ⟨_, rfl⟩
                    have hes : i < S.length := by omega
                    have hxs : (((str S)[i]'(by simpa [ByteArray.size] using hes)).toNat) = x := by rw [str_getD S i hes, hx]
                    have ie : (i : Int) < (S.length : Int) := by omega
                    have ie2 : (i : Int) < (e : Int) := by omega
                    have hx61 : x ≠ 61 := fun h => HNO.out i hi1 hie (UInt8.toNat_inj.1 (show (S.getD i 0).toNat = (61 : UInt8).toNat by rw [hx, h]; rfl))
                    have i2 : ((x : Int) == 61) = false := by rw [beq_eq_false_iff_ne]; omega
                    clear hx
                    go_wp2_with fail
                    go_roundw
                    case rel => exact ⟨i + 1, by go_num, by omega, by omega, by first | rfl | trivial⟩
                    case measure => simp [intOf]; omega
                  · obtain rfl : i = I := by omega
                    have hes : i < S.length := by omega
                    have hxs : (((str S)[i]'(by simpa [ByteArray.size] using hes)).toNat) = 61 := by rw [str_getD S i hes, HIB.out]; rfl
                    have ie : (i : Int) < (S.length : Int) := by omega
                    have ie2 : (i : Int) < (e : Int) := by omega
                    clear hie
                    go_wp2_with fail
                    go_cut [] from 39 to 48 (fun W => Below w.heap.size w W ∧ PO 95 w.heap.size W (.slice A L.length cc) L ∧ W.heap[pb]? = some (.cells #[sv q.1, sv q.2] 95 (0, 0)))
                    case first =>
                      have b1 : (1 : Int) ≤ (i : Int) := by omega
                      have b2 : (i : Int) ≤ (S.length : Int) := by omega
                      have b3 : (i : Int) + 1 ≤ (e : Int) := by omega
                      have b4 : ((i : Int) + 1).toNat = i + 1 := by omega
                      have b5 : (0 : Int) ≤ (i : Int) + 1 := by omega
                      have s0 : IntKind.i64.wrap ((i : Int) + 1) = (i : Int) + 1 := IntWalk.i64_in _ (by omega)
                      have x1 := HXN.out
                      have x2 := HXV.out
                      go_region_law (go_simp; go_at_call 65; with_reducible refine (HGN.out _).mono ?_; rintro e7 w7 ⟨rfl, hb7⟩; have hbx : Below wr.heap.size wr w7 := (by first | exact hb7 | exact ((Below.refl _ wr).drew).trans (hb7.mono (Nat.le_refl _)) | exact ((Below.refl _ wr).drew.drew).trans (hb7.mono (Nat.le_refl _))); have hp7 := blk_below HPB.out hbx; obtain ⟨y0, y1⟩ := two_of hp7; have f0 := freeAt hp7 0; have f1 := freeAt hp7 1; have l7 := lt_of_blk hp7)
                      all_goals (try go_wp2)
                      all_goals go_meet
                      all_goals (case rel => exact ⟨((HB5.out.trans (hbx.mono HB5.out.size)).setCell (p := ⟨pb, 0, none⟩) HPN.out.1 _).setCell (p := ⟨pb, 1, none⟩) HPN.out.1 _, ((HO5.out.below hbx).set HPN.out.2 _).set HPN.out.2 _, by simp [World.setCell, Array.getElem?_modify, hp7, HQ1.out.1, HQ1.out.2]⟩)
                    case rest =>
                      obtain ⟨hbc, hoc, hpc⟩ := hcut
                      have HPB := Lib.hid hpc
                      have HB5 := Lib.hid hbc
                      have HO5 := Lib.hid hoc
                      clear hbc hoc hpc
                      obtain ⟨p0, p1⟩ := two_of HPB.out
                      have lp := lt_of_blk HPB.out
                      by_cases hv : q.2 = []
                      · have HF := Lib.hid (show parsP s = (L, S) by rw [HP.out, parsP_none (by rw [HST.out, HWE.out (by rw [← HQ1.out.2]; exact hv)]; rfl), List.append_nil])
                        rw [hv] at p1
                        clear hv
                        go_wp2_with fail
                        go_ret2
                        exact ⟨HB5.out, .inl ⟨by rw [HF.out]; exact hS, rfl⟩⟩
                      · have hve : q.2.isEmpty = false := by cases hq : q.2 with | nil => exact absurd hq hv | cons => rfl
                        have hvb : (q.2 == []) = false := by cases hq : q.2 with | nil => exact absurd hq hv | cons => rfl
                        have HV := Lib.hid (show a.contains 61 = true → q.2 ≠ [] from fun _ => hv)
                        clear hv
                        go_wp2_with fail
                        refine (HMP.out _).mono ?_
                        rintro e6 w6 ⟨rfl, hb6⟩
                        have HB6 := Lib.hid (HB5.out.trans (hb6.mono HB5.out.size))
                        have HO6 := Lib.hid (HO5.out.below hb6)
                        have hp6 := blk_below HPB.out hb6
                        clear hb6 p0 p1 lp
                        cases hpl : pL q with
                        | false =>
                          have HF := Lib.hid (show parsP s = (L, S) by rw [HP.out, parsP_none (by rw [HST.out, wordP_no (by rw [← HQ.out]; exact hpl)]; rfl), List.append_nil])
                          clear hp6
                          go_wp2_with fail
                          go_ret2
                          exact ⟨HB6.out, .inl ⟨by rw [HF.out]; exact hS, rfl⟩⟩
                        | true =>
                          have HF := Lib.hid (show parsP s = ((L ++ [q]) ++ (parsP (S.drop e)).1, (parsP (S.drop e)).2) by
                            rw [HP.out, parsP_some (by rw [HST.out, wordP_yes (by rw [← HQ.out]; exact hpl) (by rw [← HQ.out]; exact HV.out), ← HQ.out]; rfl), List.append_assoc]; rfl)
                          obtain ⟨p0, p1⟩ := (two_of hp6)
                          have lp := lt_of_blk hp6
                          obtain ⟨g7, cap7, w7, hrun, hpo, hgr, hor⟩ := po_append Tryz.underlying59 info_rparam (by decide) HO6.out HB6.out.size (by omega) q.1 q.2
                          have HRUN := Lib.hid hrun
                          have HB7 := Lib.hid (HB6.out.alloc HB6.out.size (.cells #[sv q.1, sv q.2] 95) |>.grown hgr (by simp only [World.size_alloc]; have := HB6.out.size; omega) (fun k hk => (HO6.out.lt hk).1))
                          have HO7 := Lib.hid hpo
                          clear hrun hpo hgr hor
                          have hx2 : (str S).extract e S.length = str (S.drop e) := by rw [str_extract, List.take_of_length_le (Nat.le_refl _)]
                          go_wp2_with (at_builtin; refine wpList_app rfl (.tmp 55) (.tmp 57) 59 rfl rfl rfl HRUN.out ?_)
                          go_roundw
                          case rel => exact ⟨S.drop e, L ++ [q], rfl, by simp only [List.length_drop, List.length_append, List.length_cons, List.length_nil]; omega, HF.out, HB7.out, by simpa using HO7.out⟩
                          case measure => simp [szV, ByteArray.size]; omega
      · have i1 : ((b : Int) != 32) = true := by simp; omega
        have HST := Lib.hid (step_not hS0 (fun e => h32 (by rw [← hb0, e]; rfl)))
        have HF := Lib.hid (show parsP s = (L, S) by rw [HP.out, parsP_none HST.out, List.append_nil])
        clear hb0
        go_wp2_with fail
        go_ret2
        exact ⟨HB.out, .inl ⟨by rw [HF.out]; exact hS, rfl⟩⟩
end Go.Proofs.YtbmjmiioobgbfaaGreatDoor

namespace Go.Proofs.YtbmjmiioobgbfaaGreatDoor
open Go Go.RowKit Go.Shelf
set_option maxRecDepth 100000
set_option linter.unusedSimpArgs false
set_option linter.unusedVariables false

theorem rparse_long {l : List UInt8} (h : 510 < l.length) : parseK l = (cm0, 40) := by unfold parseK; rw [if_pos h]
theorem rparse_noverb {l : List UInt8} (h : ¬ 510 < l.length) (hv : ∀ v, 1 ≤ v → v ≤ 6 → hdAt l v = false) : parseK l = (cm0, 4) := by
  unfold parseK readK
  rw [if_neg h, cutH_none hv]
  simp [pathV, mayK]
theorem rhdAt_short {l : List UInt8} {v : Nat} (hv : 1 ≤ v ∧ v ≤ 6) (h : l.length < (hdL v).length) : hdAt l v = false := by
  cases e : hdAt l v with
  | false => rfl
  | true => have := (hdAt_first hv e).2; omega
theorem rparse_plain {l : List UInt8} (h : ¬ 510 < l.length) {v : Nat} (hv : 1 ≤ v ∧ v ≤ 6) (ha : hdAt l v = true) (hp : v ≠ 3 ∧ v ≠ 4) : parseK l = if mayK ⟨v, l.drop (hdL v).length, []⟩ then (⟨v, l.drop (hdL v).length, []⟩, 0) else (cm0, 4) := by
  unfold parseK readK
  rw [if_neg h, cutH_of hv ha]
  obtain ⟨R, hR⟩ : ∃ R, R = l.drop (hdL v).length := ⟨_, rfl⟩
  rw [← hR]
  rcases (show v = 1 ∨ v = 2 ∨ v = 5 ∨ v = 6 by omega) with rfl | rfl | rfl | rfl
  · simp
  all_goals
    cases R with
    | nil => simp [pathV, mayK]
    | cons c t => simp [pathV, mayK]
theorem rparse_path {l : List UInt8} (h : ¬ 510 < l.length) {v : Nat} (hv : v = 3 ∨ v = 4) (ha : hdAt l v = true) : parseK l = match cutP (l.drop (hdL v).length) with
    | none => (cm0, 4)
    | some (a, b) => if (parsP b).2.isEmpty && mayK ⟨v, a, (parsP b).1⟩ then (⟨v, a, (parsP b).1⟩, 0) else (cm0, 4) := by
  unfold parseK readK
  rw [if_neg h, cutH_of (by omega) ha]
  have hp : pathV v = true := by rcases hv with rfl | rfl <;> rfl
  have h1 : ¬ v = 1 := by omega
  simp only [if_neg h1, hp, if_true]
  cases hc : cutP (l.drop (hdL v).length) with
  | none => simp [mayK]
  | some x => rfl
theorem rpath_at {s a : List UInt8} {i : Nat} (hi : i < s.length) (h : unpathL (s.take (i + 1)) = some a) : cutP s = some (a, s.drop (i + 1)) := by
  cases hc : cutP s with
  | none =>
    have := cutPF_none hc i (Nat.zero_le _) (by omega)
    rw [this] at h; cases h
  | some x =>
    obtain ⟨a', r⟩ := x
    obtain ⟨j, _, hj, h1, h2, h3⟩ := cutPF_some hc
    rcases Nat.lt_trichotomy j i with hlt | rfl | hlt
    · exact absurd (unpath_one h1 h hlt hi) (fun h => h)
    · rw [h] at h1
      injection h1 with h1
      rw [h1, h2]
    · have := h3 i (Nat.zero_le _) hlt
      rw [this] at h; cases h
theorem rpath_no {s : List UInt8} (h : ∀ i, i < s.length → unpathL (s.take (i + 1)) = none) : cutP s = none := by
  cases hc : cutP s with
  | none => rfl
  | some x =>
    obtain ⟨a', r⟩ := x
    obtain ⟨j, _, hj, h1, h2, h3⟩ := cutPF_some hc
    rw [h j (by omega)] at h1; cases h1
end Go.Proofs.YtbmjmiioobgbfaaGreatDoor

namespace Go.Proofs.YtbmjmiioobgbfaaGreatDoor
open Go Go.RowKit Go.Shelf
set_option maxRecDepth 100000
set_option linter.unusedSimpArgs false
set_option linter.unusedVariables false

theorem unpath_le {s a : List UInt8} (h : unpathL s = some a) : a.length ≤ s.length := by
  unfold unpathL at h
  split at h
  · injection h with h
    rw [← h]
    simp only [List.length_dropLast, List.length_tail]
    omega
  · cases h
theorem c3r {W : World} {g : Nat} {x y z : Value} (h : W.heap[g]? = some (.cells #[x, y, z] 61 (0, 0))) : W.cell? ⟨g, 0, none⟩ = some x ∧ W.cell? ⟨g, 1, none⟩ = some y ∧ W.cell? ⟨g, 2, none⟩ = some z :=
  ⟨by rw [cellAt h]; rfl, by rw [cellAt h]; rfl, by rw [cellAt h]; rfl⟩
/-- The answer's box is there, with nothing in it. -/
def ZR (w W : World) : Prop := Below w.heap.size w W ∧ W.heap[w.heap.size]? = some (.cells zC 61 (0, 0))
theorem ZR.start (w : World) : ZR w (w.alloc (.cells zC 61)) := ⟨below_alloc _ _, heap_alloc_new _ _⟩
theorem ZR.step {w W W' : World} (h : ZR w W) (hb : Below W.heap.size W W') : ZR w W' := ⟨h.1.trans (hb.mono h.1.size), blk_below h.2 hb⟩
theorem ZR.all {w W : World} (h : ZR w W) : (W.cell? ⟨w.heap.size, 0, none⟩ = some (.int .u8 0) ∧ W.cell? ⟨w.heap.size, 1, none⟩ = some (sv []) ∧ W.cell? ⟨w.heap.size, 2, none⟩ = some (.slice none 0 0) ∧ W.frozen? ⟨w.heap.size, 0, none⟩ = false ∧ W.frozen? ⟨w.heap.size, 1, none⟩ = false ∧ W.frozen? ⟨w.heap.size, 2, none⟩ = false) ∧ w.heap.size < W.heap.size :=
  ⟨z3R h.2, lt_of_blk h.2⟩
theorem zr_ne {w W : World} (h : ZR w W) {A : Option Addr} {n c : Nat} {ps : List PM} (hp : PR W (.slice A n c) ps) : ∀ x, PR ((W.setCell ⟨w.heap.size, x, none⟩ (.int .u8 0))) (.slice A n c) ps ∧ True := by
  intro x
  refine ⟨?_, trivial⟩
  obtain ⟨A', c', e, hh⟩ := hp
  refine ⟨A', c', e, fun h0 => ?_⟩
  obtain ⟨g, off, e2, hl, hc⟩ := hh h0
  have hne : g ≠ w.heap.size := by
    rintro rfl
    obtain ⟨⟨z0, z1, z2, _⟩, _⟩ := h.all
    obtain ⟨c0, c1⟩ := hc 0 h0
    rw [cellAt h.2] at c0 c1
    simp only [Nat.zero_mul, Nat.add_zero] at c0 c1
    match off, c0, c1 with
    | 0, c0, _ => cases c0
    | 1, _, c1 => cases c1
    | 2, c0, _ => cases c0
    | k + 3, c0, _ => simp at c0
  refine ⟨g, off, e2, by simpa using hl, fun j hj => ⟨?_, ?_⟩⟩
  · rw [World.cell?_setCell_other _ _ _ _ (by intro e; injection e with e; exact hne e.symm)]; exact (hc j hj).1
  · rw [World.cell?_setCell_other _ _ _ _ (by intro e; injection e with e; exact hne e.symm)]; exact (hc j hj).2
theorem pr_off {w W : World} (h : ZR w W) {A : Option Addr} {n c : Nat} {ps : List PM} (hp : PR W (.slice A n c) ps) (x y z : Value) : PR (((W.setCell ⟨w.heap.size, 0, none⟩ x).setCell ⟨w.heap.size, 1, none⟩ y).setCell ⟨w.heap.size, 2, none⟩ z) (.slice A n c) ps := by
  obtain ⟨A', c', e, hh⟩ := hp
  refine ⟨A', c', e, fun h0 => ?_⟩
  obtain ⟨g, off, e2, hl, hc⟩ := hh h0
  have hne : g ≠ w.heap.size := by
    rintro rfl
    obtain ⟨c0, c1⟩ := hc 0 h0
    rw [cellAt h.2] at c0 c1
    simp only [Nat.zero_mul, Nat.add_zero] at c0 c1
    match off, c0, c1 with
    | 0, c0, _ => cases c0
    | 1, _, c1 => cases c1
    | 2, c0, _ => cases c0
    | k + 3, c0, _ => simp at c0
  have key : ∀ (V : World) (a : Nat) (v : Value) (o : Nat), (V.setCell ⟨w.heap.size, a, none⟩ v).cell? ⟨g, o, none⟩ = V.cell? ⟨g, o, none⟩ := fun V a v o => World.cell?_setCell_other _ _ _ _ (by intro e; injection e with e; exact hne e.symm)
  refine ⟨g, off, e2, by simpa using hl, fun j hj => ⟨?_, ?_⟩⟩
  · rw [key, key, key]; exact (hc j hj).1
  · rw [key, key, key]; exact (hc j hj).2
theorem rq_made {w W : World} {f : Func} {p q : Tmp} {tmps : Array Value} {r : Cm × Nat} {A : Option Addr} {k : Nat} (hres : f.results = #[.cell p 61, .tmp q]) (hz : ZR w W)
    (hpo : PR W (.slice A r.1.ps.length k) r.1.ps) (hp : tmps.getD p undef = .pointer (some ⟨w.heap.size, 0, none⟩)) (hu : tmps.getD q undef = .int .i64 (r.2 : Int)) :
    bodyPost Tryz.prog f (MqPost w r) .ret { tmps := tmps, defers := [] } (((W.setCell ⟨w.heap.size, 0, none⟩ (.int .u8 (r.1.verb : Int))).setCell ⟨w.heap.size, 1, none⟩ (sv r.1.arg)).setCell ⟨w.heap.size, 2, none⟩ (.slice A r.1.ps.length k)) := by
  have hh : (((W.setCell ⟨w.heap.size, 0, none⟩ (.int .u8 (r.1.verb : Int))).setCell ⟨w.heap.size, 1, none⟩ (sv r.1.arg)).setCell ⟨w.heap.size, 2, none⟩ (.slice A r.1.ps.length k)).heap[w.heap.size]? = some (.cells #[.int .u8 (r.1.verb : Int), sv r.1.arg, .slice A r.1.ps.length k] 61 (0, 0)) := by
    simp [World.setCell, Array.getElem?_modify, hz.2]
  have hb3 := ((hz.1.setCell (p := ⟨w.heap.size, 0, none⟩) (Nat.le_refl _) (.int .u8 (r.1.verb : Int))).setCell (p := ⟨w.heap.size, 1, none⟩) (Nat.le_refl _) (sv r.1.arg)).setCell (p := ⟨w.heap.size, 2, none⟩) (Nat.le_refl _) (.slice A r.1.ps.length k)
  refine bodyPost_ret (v := .tuple #[cmV r.1 (.slice A r.1.ps.length k), .int .i64 (r.2 : Int)]) ?_ rfl ⟨_, rfl, hb3, pr_off hz hpo _ _ _⟩
  rw [results_row_tmp (p := p) (u := q) (fr := (0, 0)) hres tmps _ w.heap.size 61 _ _ hp hh Tryz.underlying61 rfl (by kernel_rfl), hu]

theorem rq_zero {w W : World} {f : Func} {p q : Tmp} {tmps : Array Value} {n : Nat} (hres : f.results = #[.cell p 61, .tmp q]) (hz : ZR w W)
    (hp : tmps.getD p undef = .pointer (some ⟨w.heap.size, 0, none⟩)) (hu : tmps.getD q undef = .int .i64 (n : Int)) :
    bodyPost Tryz.prog f (MqPost w (cm0, n)) .ret { tmps := tmps, defers := [] } W := by
  refine bodyPost_ret (v := .tuple #[.agg zC, .int .i64 (n : Int)]) ?_ rfl ⟨.slice none 0 0, rfl, hz.1, PR.nil _ _ _⟩
  rw [results_row_tmp (p := p) (u := q) (fr := (0, 0)) hres tmps _ w.heap.size 61 zC _ hp hz.2 Tryz.underlying61 rfl (by kernel_rfl), hu]

set_option maxHeartbeats 16000000 in
theorem rparseK_any (line : List UInt8) (w : World) (hl : line.length ≤ 1000000) : Calls Tryz.prog 33 #[sv line] w (MqPost w (parseK line)) := by
  have HZ0 := Lib.hid (ZR.start w)
  by_cases h510 : 510 < line.length
  · have i1 : (510 : Int) < (line.length : Int) := by omega
    have HR := Lib.hid (rparse_long h510)
    obtain ⟨⟨z0, z1, z2, z3, z4, z5⟩, z6⟩ := HZ0.out.all
    clear h510
    go_enter Tryz.func33, Tryz.ntmps33
    go_wp2_with fail
    rw [HR.out]
    exact rq_zero (n := 40) Tryz.results33 HZ0.out rfl rfl
  · have i1 : ¬ (510 : Int) < (line.length : Int) := by omega
    have H5 := Lib.hid h510
    clear h510
    go_enter Tryz.func33, Tryz.ntmps33
    go_wp2_with fail
    go_loopw [4] (fun x W => ∃ v : Nat, x = .int .u8 (v : Int) ∧ 1 ≤ v ∧ v ≤ 7 ∧ (∀ u, 1 ≤ u → u < v → hdAt line u = false) ∧ ZR w W) (fun x _ => 7 - (intOf x).toNat)
    case atStart => exact ⟨1, rfl, Nat.le_refl _, by omega, fun u h1 h2 => absurd h2 (by omega), HZ0.out⟩
    case round =>
      obtain ⟨v, rfl, hv1, hv7, hup, hz⟩ := hrel
      have HUP := Lib.hid hup
      have HZ := Lib.hid hz
      clear hup hz
      obtain ⟨⟨z0, z1, z2, z3, z4, z5⟩, z6⟩ := HZ.out.all
      by_cases hv6 : v ≤ 6
      · have j6 : (v : Int) ≤ 6 := by omega
        have HW := Lib.hid (fun W => rword_any v hv1 hv6 W)
        have HNX := Lib.hid (show hdAt line v = false → ∀ u, 1 ≤ u → u < v + 1 → hdAt line u = false from fun h u h1 h2 => by
          by_cases e : u = v
          · rw [e]; exact h
          · exact HUP.out u h1 (by omega))
        have s0 : IntKind.u8.wrap ((v : Int) + 1) = (v : Int) + 1 := by
          rcases (show v = 1 ∨ v = 2 ∨ v = 3 ∨ v = 4 ∨ v = 5 ∨ v = 6 by omega) with rfl | rfl | rfl | rfl | rfl | rfl <;> rfl
        have HLT := Lib.hid (fun h => @rhdAt_short line v ⟨hv1, hv6⟩ h)
        have HAT := Lib.hid (show hdAt line v = (gr (line.take (hdL v).length) == hdL v) from rfl)
        have HPL := Lib.hid (fun h h2 => @rparse_plain line H5.out v ⟨hv1, hv6⟩ h h2)
        have HPP := Lib.hid (fun h2 h => @rparse_path line H5.out v h2 h)
        obtain ⟨H, hH⟩ : ∃ H, H = hdL v := ⟨_, rfl⟩
        have hHl : H.length ≤ 10 := by rw [hH]; exact hd_len v hv1 hv6
        rw [← hH] at HW HLT HAT HPL HPP
        clear hH
        go_wp2_with fail
        refine (HW.out _).mono ?_
        rintro e w1 ⟨rfl, hb1⟩
        have HZ1 := Lib.hid (HZ.out.step hb1)
        obtain ⟨⟨z0, z1, z2, z3, z4, z5⟩, z6⟩ := HZ1.out.all
        clear hb1 HW
        by_cases hs : line.length < H.length
        · have hsi : (line.length : Int) < (H.length : Int) := by omega
          have HN := Lib.hid (HNX.out (HLT.out hs))
          go_wp2_with fail
          go_roundw
          case rel => exact ⟨v + 1, by go_num, by omega, by omega, HN.out, HZ1.out⟩
          case measure => simp [intOf]; omega
        · have hsi : ¬ (line.length : Int) < (H.length : Int) := by omega
          have hsl : (H.length : Int) ≤ (line.length : Int) := by omega
          obtain ⟨T, hT⟩ : ∃ T, T = line.take H.length := ⟨_, rfl⟩
          have hx1 : (str line).extract 0 H.length = str T := by rw [str_extract, List.drop_zero, hT]
          have HG := Lib.hid (fun W => rGreat_any T W (by rw [hT, List.length_take]; omega))
          rw [← hT] at HAT
          obtain ⟨G, hG⟩ : ∃ G, G = gr T := ⟨_, rfl⟩
          rw [← hG] at HG HAT
          clear hT hG
          go_wp2_with fail
          refine (HG.out _).mono ?_
          rintro e w2 ⟨rfl, hb2⟩
          have HZ2 := Lib.hid (HZ1.out.step hb2)
          obtain ⟨⟨z0, z1, z2, z3, z4, z5⟩, z6⟩ := HZ2.out.all
          clear hb2 HG hx1
          by_cases hg : G = H
          · have hgb : (G == H) = true := by simp [hg]
            have hA := HAT.out
            rw [hg, beq_self_eq_true] at hA
            have HAV := Lib.hid hA
            obtain ⟨R, hR⟩ : ∃ R, R = line.drop H.length := ⟨_, rfl⟩
            have hx2 : (str line).extract H.length line.length = str R := by rw [str_extract, List.take_of_length_le (Nat.le_refl _), hR]
            have hRl : R.length ≤ 510 := by rw [hR, List.length_drop]; have := H5.out; omega
            rw [← hR] at HPL HPP
            clear hg hA hR
            by_cases hpv : v ≠ 3 ∧ v ≠ 4
            · have n3 : ((v : Int) != 3) = true := by simp; omega
              have n4 : ((v : Int) != 4) = true := by simp; omega
              have HPK := Lib.hid (HPL.out HAV.out hpv)
              have HM := Lib.hid (fun W => rmayK_any ⟨v, R, []⟩ (.slice none 0 0) W (PR.nil _ _ _) (by show v < 256; omega) (by show R.length ≤ 1000000; omega) (by simp) (by simp))
              obtain ⟨m, hm⟩ : ∃ m, m = mayK ⟨v, R, []⟩ := ⟨_, rfl⟩
              rw [← hm] at HM HPK
              clear hm
              go_wp2_with fail
              refine (HM.out _).mono ?_
              rintro e w3 ⟨rfl, hb3⟩
              have HZ3 := Lib.hid ((HZ2.out.step (below_alloc _ _)).step hb3)
              have hc3 := blk_below (heap_alloc_new w2 _) hb3
              obtain ⟨p0, p1, p2⟩ := c3r hc3
              have lp := lt_of_blk hc3
              obtain ⟨⟨z0, z1, z2, z3, z4, z5⟩, z6⟩ := HZ3.out.all
              clear hb3 hc3 hx2
              cases m with
              | true =>
                have HR := Lib.hid (show parseK line = (⟨v, R, []⟩, 0) by rw [HPK.out]; rfl)
                go_wp2_with fail
                rw [HR.out]
                exact rq_made (r := (⟨v, R, []⟩, 0)) Tryz.results33 HZ3.out (PR.nil _ _ _) rfl rfl
              | false =>
                have HR := Lib.hid (show parseK line = (cm0, 4) by rw [HPK.out]; rfl)
                go_wp2_with fail
                rw [HR.out]
                exact rq_made (r := (cm0, 4)) Tryz.results33 HZ3.out (PR.nil _ _ _) rfl rfl
            · have hv34 : v = 3 ∨ v = 4 := by omega
              have HPV := Lib.hid (HPP.out hv34 HAV.out)
              clear hpv
              rcases hv34 with rfl | rfl
              · go_wp2_with fail
                clear hx2 z0 z1 z2 z3 z4 z5 z6
                go_loopw [8] (fun x W => ∃ i : Nat, x = .int .i64 (i : Int) ∧ i ≤ R.length ∧ ((∀ k, k < i → unpathL (R.take (k + 1)) = none) ∨ parseK line = (cm0, 4)) ∧ ZR w W) (fun x _ => R.length - (intOf x).toNat)
                case atStart => exact ⟨0, rfl, Nat.zero_le _, .inl (fun k h => absurd h (by omega)), HZ2.out⟩
                case round =>
                  obtain ⟨i, rfl, hil, hno, hz⟩ := hrel
                  have HNO := Lib.hid hno
                  have HZ3 := Lib.hid hz
                  clear hno hz
                  by_cases hlt : i < R.length
                  · have ie : (i : Int) < (R.length : Int) := by omega
                    have s1 : IntKind.i64.wrap ((i : Int) + 1) = (i : Int) + 1 := IntWalk.i64_in _ (by omega)
                    have b3 : (i : Int) + 1 ≤ (R.length : Int) := by omega
                    have b4 : ((i : Int) + 1).toNat = i + 1 := by omega
                    have b5 : (0 : Int) ≤ (i : Int) + 1 := by omega
                    obtain ⟨P, hP⟩ : ∃ P, P = R.take (i + 1) := ⟨_, rfl⟩
                    have hx3 : (str R).extract 0 (i + 1) = str P := by rw [str_extract, List.drop_zero, hP]
                    have HU := Lib.hid (fun W => runpath4_any P W (by rw [hP, List.length_take]; omega))
                    have HPA := Lib.hid (fun a => @rpath_at R a i hlt)
                    have HUL := Lib.hid (fun a => @unpath_le P a)
                    have hPl : P.length ≤ 510 := by rw [hP, List.length_take]; omega
                    obtain ⟨u, hu⟩ : ∃ u, u = unpathL P := ⟨_, rfl⟩
                    rw [← hP, ← hu] at HPA
                    rw [← hu] at HU HUL
                    have HNN := Lib.hid (show u = none → (∀ k, k < i + 1 → unpathL (R.take (k + 1)) = none) ∨ parseK line = (cm0, 4) from fun h => by
                      rcases HNO.out with h1 | h1
                      · refine .inl fun k hk => ?_
                        by_cases e : k = i
                        · rw [e, ← hP, ← hu, h]
                        · exact h1 k (by omega)
                      · exact .inr h1)
                    clear hP hu
                    go_wp2_with fail
                    refine (HU.out _).mono ?_
                    rintro e w3 ⟨he, hb3⟩
                    have HZ4 := Lib.hid (HZ3.out.step hb3)
                    clear hb3 hx3
                    cases u with
                    | none =>
                      replace he : e = .returned (.tuple #[sv [], .int .i64 4]) := he
                      subst he
                      have HN2 := Lib.hid (HNN.out rfl)
                      go_wp2_with fail
                      go_roundw
                      case rel => exact ⟨i + 1, by go_num, by omega, HN2.out, HZ4.out⟩
                      case measure => simp [intOf]; omega
                    | some a =>
                      replace he : e = .returned (.tuple #[sv a, .int .i64 0]) := he
                      subst he
                      have hal := HUL.out a rfl
                      have HCP := Lib.hid (HPA.out a rfl)
                      obtain ⟨B, hB⟩ : ∃ B, B = R.drop (i + 1) := ⟨_, rfl⟩
                      have hx4 : (str R).extract (i + 1) R.length = str B := by rw [str_extract, List.take_of_length_le (Nat.le_refl _), hB]
                      have hBl : B.length ≤ 510 := by rw [hB, List.length_drop]; omega
                      rw [← hB] at HCP
                      have HPQ := Lib.hid (fun W => rparams_any B W (by omega))
                      have HSM := Lib.hid (parsP_small B.length B (Nat.le_refl _))
                      have HPV2 := Lib.hid (show parseK line = if (parsP B).2.isEmpty && mayK ⟨3, a, (parsP B).1⟩ then (⟨3, a, (parsP B).1⟩, 0) else (cm0, 4) by rw [HPV.out, HCP.out])
                      clear hB HNN HPA HUL
                      go_wp2_with fail
                      refine (HPQ.out _).mono ?_
                      rintro e w4 ⟨hb4, hcase⟩
                      have HZ5 := Lib.hid (HZ4.out.step hb4)
                      clear hb4 hx4
                      rcases hcase with ⟨hne, rfl⟩ | ⟨heq, A, cp, rfl, hpr⟩
                      · have HR4 := Lib.hid (show parseK line = (cm0, 4) by
                          rw [HPV2.out]
                          have : (parsP B).2.isEmpty = false := by cases h : (parsP B).2 with | nil => exact absurd h hne | cons => rfl
                          rw [this]; rfl)
                        clear hne
                        go_wp2_with fail
                        go_roundw
                        case rel => exact ⟨i + 1, by go_num, by omega, .inr HR4.out, HZ5.out.step (below_alloc _ _)⟩
                        case measure => simp [intOf]; omega
                      · have hsm := HSM.out
                        have hpk := HPV2.out
                        rw [heq] at hpk
                        obtain ⟨L, hL⟩ : ∃ L, L = (parsP B).1 := ⟨_, rfl⟩
                        rw [← hL] at hpr hsm hpk
                        obtain ⟨m, hm⟩ : ∃ m, m = mayK ⟨3, a, L⟩ := ⟨_, rfl⟩
                        rw [← hm] at hpk
                        have HPK := Lib.hid hpk
                        have HM := Lib.hid (fun W (h : PR W (.slice A L.length cp) L) => rmayK_any ⟨3, a, L⟩ (.slice A L.length cp) W h (by show 3 < 256; omega) (by show a.length ≤ 1000000; omega) (by show L.length ≤ 1000000; have := hsm.1; omega) (fun p hp => by have := hsm.2 p hp; omega))
                        rw [← hm] at HM
                        have HPR := Lib.hid hpr
                        rw [← hL]
                        clear hL hm hpk hsm hpr heq HSM HPV2
                        go_wp2_with fail
                        refine (HM.out _ (HPR.out.step (below_alloc _ _))).mono ?_
                        rintro e w5 ⟨rfl, hb5⟩
                        have HZ6 := Lib.hid ((HZ5.out.step (below_alloc _ _)).step hb5)
                        have hc5 := blk_below (heap_alloc_new w4 _) hb5
                        have HPR5 := Lib.hid ((HPR.out.step (below_alloc _ _)).step hb5)
                        obtain ⟨p0, p1, p2⟩ := c3r hc5
                        have lp := lt_of_blk hc5
                        obtain ⟨⟨z0, z1, z2, z3, z4, z5⟩, z6⟩ := HZ6.out.all
                        clear hb5 hc5
                        cases m with
                        | true =>
                          have HR := Lib.hid (show parseK line = (⟨3, a, L⟩, 0) by rw [HPK.out]; rfl)
                          go_wp2_with fail
                          rw [HR.out]
                          exact rq_made (r := (⟨3, a, L⟩, 0)) Tryz.results33 HZ6.out HPR5.out rfl rfl
                        | false =>
                          have HR := Lib.hid (show parseK line = (cm0, 4) by rw [HPK.out]; rfl)
                          go_wp2_with fail
                          go_roundw
                          case rel => exact ⟨i + 1, by go_num, by omega, .inr HR.out, HZ6.out⟩
                          case measure => simp [intOf]; omega
                  · obtain rfl : i = R.length := by omega
                    have HR := Lib.hid (show parseK line = (cm0, 4) by
                      rcases HNO.out with h | h
                      · rw [HPV.out, rpath_no h]
                      · exact h)
                    obtain ⟨⟨z0, z1, z2, z3, z4, z5⟩, z6⟩ := HZ3.out.all
                    clear hlt hil
                    go_wp2_with fail
                    rw [HR.out]
                    exact rq_made (r := (cm0, 4)) Tryz.results33 HZ3.out (PR.nil _ _ _) rfl rfl
              · go_wp2_with fail
                clear hx2 z0 z1 z2 z3 z4 z5 z6
                go_loopw [8] (fun x W => ∃ i : Nat, x = .int .i64 (i : Int) ∧ i ≤ R.length ∧ ((∀ k, k < i → unpathL (R.take (k + 1)) = none) ∨ parseK line = (cm0, 4)) ∧ ZR w W) (fun x _ => R.length - (intOf x).toNat)
                case atStart => exact ⟨0, rfl, Nat.zero_le _, .inl (fun k h => absurd h (by omega)), HZ2.out⟩
                case round =>
                  obtain ⟨i, rfl, hil, hno, hz⟩ := hrel
                  have HNO := Lib.hid hno
                  have HZ3 := Lib.hid hz
                  clear hno hz
                  by_cases hlt : i < R.length
                  · have ie : (i : Int) < (R.length : Int) := by omega
                    have s1 : IntKind.i64.wrap ((i : Int) + 1) = (i : Int) + 1 := IntWalk.i64_in _ (by omega)
                    have b3 : (i : Int) + 1 ≤ (R.length : Int) := by omega
                    have b4 : ((i : Int) + 1).toNat = i + 1 := by omega
                    have b5 : (0 : Int) ≤ (i : Int) + 1 := by omega
                    obtain ⟨P, hP⟩ : ∃ P, P = R.take (i + 1) := ⟨_, rfl⟩
                    have hx3 : (str R).extract 0 (i + 1) = str P := by rw [str_extract, List.drop_zero, hP]
                    have HU := Lib.hid (fun W => runpath4_any P W (by rw [hP, List.length_take]; omega))
                    have HPA := Lib.hid (fun a => @rpath_at R a i hlt)
                    have HUL := Lib.hid (fun a => @unpath_le P a)
                    have hPl : P.length ≤ 510 := by rw [hP, List.length_take]; omega
                    obtain ⟨u, hu⟩ : ∃ u, u = unpathL P := ⟨_, rfl⟩
                    rw [← hP, ← hu] at HPA
                    rw [← hu] at HU HUL
                    have HNN := Lib.hid (show u = none → (∀ k, k < i + 1 → unpathL (R.take (k + 1)) = none) ∨ parseK line = (cm0, 4) from fun h => by
                      rcases HNO.out with h1 | h1
                      · refine .inl fun k hk => ?_
                        by_cases e : k = i
                        · rw [e, ← hP, ← hu, h]
                        · exact h1 k (by omega)
                      · exact .inr h1)
                    clear hP hu
                    go_wp2_with fail
                    refine (HU.out _).mono ?_
                    rintro e w3 ⟨he, hb3⟩
                    have HZ4 := Lib.hid (HZ3.out.step hb3)
                    clear hb3 hx3
                    cases u with
                    | none =>
                      replace he : e = .returned (.tuple #[sv [], .int .i64 4]) := he
                      subst he
                      have HN2 := Lib.hid (HNN.out rfl)
                      go_wp2_with fail
                      go_roundw
                      case rel => exact ⟨i + 1, by go_num, by omega, HN2.out, HZ4.out⟩
                      case measure => simp [intOf]; omega
                    | some a =>
                      replace he : e = .returned (.tuple #[sv a, .int .i64 0]) := he
                      subst he
                      have hal := HUL.out a rfl
                      have HCP := Lib.hid (HPA.out a rfl)
                      obtain ⟨B, hB⟩ : ∃ B, B = R.drop (i + 1) := ⟨_, rfl⟩
                      have hx4 : (str R).extract (i + 1) R.length = str B := by rw [str_extract, List.take_of_length_le (Nat.le_refl _), hB]
                      have hBl : B.length ≤ 510 := by rw [hB, List.length_drop]; omega
                      rw [← hB] at HCP
                      have HPQ := Lib.hid (fun W => rparams_any B W (by omega))
                      have HSM := Lib.hid (parsP_small B.length B (Nat.le_refl _))
                      have HPV2 := Lib.hid (show parseK line = if (parsP B).2.isEmpty && mayK ⟨4, a, (parsP B).1⟩ then (⟨4, a, (parsP B).1⟩, 0) else (cm0, 4) by rw [HPV.out, HCP.out])
                      clear hB HNN HPA HUL
                      go_wp2_with fail
                      refine (HPQ.out _).mono ?_
                      rintro e w4 ⟨hb4, hcase⟩
                      have HZ5 := Lib.hid (HZ4.out.step hb4)
                      clear hb4 hx4
                      rcases hcase with ⟨hne, rfl⟩ | ⟨heq, A, cp, rfl, hpr⟩
                      · have HR4 := Lib.hid (show parseK line = (cm0, 4) by
                          rw [HPV2.out]
                          have : (parsP B).2.isEmpty = false := by cases h : (parsP B).2 with | nil => exact absurd h hne | cons => rfl
                          rw [this]; rfl)
                        clear hne
                        go_wp2_with fail
                        go_roundw
                        case rel => exact ⟨i + 1, by go_num, by omega, .inr HR4.out, HZ5.out.step (below_alloc _ _)⟩
                        case measure => simp [intOf]; omega
                      · have hsm := HSM.out
                        have hpk := HPV2.out
                        rw [heq] at hpk
                        obtain ⟨L, hL⟩ : ∃ L, L = (parsP B).1 := ⟨_, rfl⟩
                        rw [← hL] at hpr hsm hpk
                        obtain ⟨m, hm⟩ : ∃ m, m = mayK ⟨4, a, L⟩ := ⟨_, rfl⟩
                        rw [← hm] at hpk
                        have HPK := Lib.hid hpk
                        have HM := Lib.hid (fun W (h : PR W (.slice A L.length cp) L) => rmayK_any ⟨4, a, L⟩ (.slice A L.length cp) W h (by show 4 < 256; omega) (by show a.length ≤ 1000000; omega) (by show L.length ≤ 1000000; have := hsm.1; omega) (fun p hp => by have := hsm.2 p hp; omega))
                        rw [← hm] at HM
                        have HPR := Lib.hid hpr
                        rw [← hL]
                        clear hL hm hpk hsm hpr heq HSM HPV2
                        go_wp2_with fail
                        refine (HM.out _ (HPR.out.step (below_alloc _ _))).mono ?_
                        rintro e w5 ⟨rfl, hb5⟩
                        have HZ6 := Lib.hid ((HZ5.out.step (below_alloc _ _)).step hb5)
                        have hc5 := blk_below (heap_alloc_new w4 _) hb5
                        have HPR5 := Lib.hid ((HPR.out.step (below_alloc _ _)).step hb5)
                        obtain ⟨p0, p1, p2⟩ := c3r hc5
                        have lp := lt_of_blk hc5
                        obtain ⟨⟨z0, z1, z2, z3, z4, z5⟩, z6⟩ := HZ6.out.all
                        clear hb5 hc5
                        cases m with
                        | true =>
                          have HR := Lib.hid (show parseK line = (⟨4, a, L⟩, 0) by rw [HPK.out]; rfl)
                          go_wp2_with fail
                          rw [HR.out]
                          exact rq_made (r := (⟨4, a, L⟩, 0)) Tryz.results33 HZ6.out HPR5.out rfl rfl
                        | false =>
                          have HR := Lib.hid (show parseK line = (cm0, 4) by rw [HPK.out]; rfl)
                          go_wp2_with fail
                          go_roundw
                          case rel => exact ⟨i + 1, by go_num, by omega, .inr HR.out, HZ6.out⟩
                          case measure => simp [intOf]; omega
                  · obtain rfl : i = R.length := by omega
                    have HR := Lib.hid (show parseK line = (cm0, 4) by
                      rcases HNO.out with h | h
                      · rw [HPV.out, rpath_no h]
                      · exact h)
                    obtain ⟨⟨z0, z1, z2, z3, z4, z5⟩, z6⟩ := HZ3.out.all
                    clear hlt hil
                    go_wp2_with fail
                    rw [HR.out]
                    exact rq_made (r := (cm0, 4)) Tryz.results33 HZ3.out (PR.nil _ _ _) rfl rfl
          · have hgb : (G == H) = false := by simp [hg]
            have HN := Lib.hid (HNX.out (by rw [HAT.out, beq_eq_false_iff_ne]; exact hg))
            clear hg
            go_wp2_with fail
            go_roundw
            case rel => exact ⟨v + 1, by go_num, by omega, by omega, HN.out, HZ2.out⟩
            case measure => simp [intOf]; omega
      · obtain rfl : v = 7 := by omega
        have HR := Lib.hid (rparse_noverb H5.out (fun u h1 h2 => HUP.out u h1 (by omega)))
        go_wp2_with fail
        rw [HR.out]
        exact rq_made (r := (cm0, 4)) Tryz.results33 HZ.out (PR.nil _ _ _) rfl rfl
end Go.Proofs.YtbmjmiioobgbfaaGreatDoor
