/-
  The walk of NameParts.
-/
import Derived.IntWalk
import Derived.Test.YtnlmlhjegjphiaaDoorNRCmp
import Derived.Test.YtnlmlhjegjphiaaDoorNMatchesC
namespace Go.Proofs.YtnlmlhjegjphiaaDoor
open Go Go.RowKit
set_option maxRecDepth 100000

/-- Block g begins by these texts. -/
def TextsAt (w : World) (g : Nat) (xs : List (List UInt8)) : Prop := g < w.heap.size ∧ ∀ j, j < xs.length → w.cell? ⟨g, j, none⟩ = some (sv (xs.getD j []))
theorem TextsAt.step {w w' : World} {g : Nat} {xs : List (List UInt8)} (h : TextsAt w g xs) (hb : Below w.heap.size w w') : TextsAt w' g xs :=
  ⟨Nat.lt_of_lt_of_le h.1 hb.size, fun j hj => (hb.cell (p := ⟨g, j, none⟩) h.1).trans (h.2 j hj)⟩
theorem gv_texts {w0 w : World} {v : Value} {xs : List (List UInt8)} (h : GV 9 w0 v (xs.map sv) w) (hp : 0 < xs.length) : ∃ g c, v = .slice (some ⟨g, 0, none⟩) xs.length c ∧ TextsAt w g xs := by
  have h' : GT w0 v xs w := h
  obtain ⟨A, c, rfl⟩ := h'.form
  obtain ⟨g, rfl, _, hl, hc, _⟩ := h'.cell hp
  exact ⟨g, c, rfl, hl, hc⟩

/-- A contract, with the step that it makes. -/
theorem bls {w0 w : World} {f : Nat} {args : Array Value} {α : Type} {V : α → Value} {x y : α} (h : Calls Tryd.prog f args w fun e w' => e = .returned (V x) ∧ Below w.heap.size w w') (e : x = y) (hb : BL w0 w) :
    Calls Tryd.prog f args w fun e w' => e = .returned (V y) ∧ Below w.heap.size w w' ∧ BL w0 w' := by
  subst e
  exact h.mono fun _ _ ⟨h1, h2⟩ => ⟨h1, h2, hb.step h2⟩

theorem joinD_snoc : ∀ (l : List (List UInt8)) (x : List UInt8), l ≠ [] → joinD (l ++ [x]) = joinD l ++ 46 :: x
  | [], _, h => absurd rfl h
  | [a], x, _ => rfl
  | a :: b :: r, x, _ => by
    have ih := joinD_snoc (b :: r) x (by simp)
    show joinD (a :: b :: (r ++ [x])) = _
    rw [joinD_cons a (by simp), joinD_cons a (by simp)]
    have : joinD (b :: (r ++ [x])) = joinD (b :: r) ++ 46 :: x := ih
    rw [this]; simp
theorem joinD_len {l : List (List UInt8)} (h : ∀ x ∈ l, x.length ≤ 253) : (joinD l).length ≤ 254 * l.length := by
  induction l with
  | nil => simp [joinD]
  | cons a r ih =>
    have ih := ih fun x hx => h x (by simp [hx])
    have ha := h a (by simp)
    cases r with
    | nil => simp [joinD]; omega
    | cons b r =>
      rw [joinD_cons a (by simp)]
      simp at ih ⊢
      omega

theorem app_x (x : List UInt8) : str x ++ (⟨#[46, 120]⟩ : ByteArray) = str (x ++ [46, 120]) := by
  apply ByteArray.ext
  simp [str, ByteArray.data_append]
theorem app_dot' (x : List UInt8) : str x ++ (⟨#[46]⟩ : ByteArray) = str (x ++ [46]) := by
  apply ByteArray.ext
  simp [str, ByteArray.data_append]

theorem nameParts_long (s : List UInt8) (w : World) (hs : s.length ≤ 140737488351232) (h : 5000 < s.length) (hM : ML w) :
    Calls Tryd.prog 7 #[.string (str s)] w fun e w' => e = .returned (.bool true) ∧ Below w.heap.size w w' := by
  have B0 := BL.start hM
  have h' : (5000 : Int) < (s.length : Int) := by omega
  clear hM h
  go_enter Tryd.func7, Tryd.ntmps7
  go_wp2_with fail
  refine (awake_bl _ B0).mono ?_
  rintro e w1 ⟨rfl, B1⟩
  have HB := Lib.hid B1.below
  go_wp2
  go_ret
  exact ⟨rfl, HB.out⟩

theorem nameParts_not (s : List UInt8) (w : World) (hs : s.length ≤ 5000) (hm : mayL s = false) (hM : ML w) :
    Calls Tryd.prog 7 #[.string (str s)] w fun e w' => e = .returned (.bool true) ∧ Below w.heap.size w w' := by
  have B0 := BL.start hM
  have HQ := Lib.hid hm
  have HL := Lib.hid (show labelsL s = [] by unfold labelsL; rw [hm]; rfl)
  clear hM hm
  go_enter Tryd.func7, Tryd.ntmps7
  go_wp2_with fail
  refine (awake_bl _ B0).mono ?_
  rintro e w1 ⟨rfl, B1⟩
  go_wp2_with fail
  refine (bl_labels (by omega) B1).mono ?_
  rintro e w2 ⟨v, rfl, hg, B2⟩
  rw [HL.out] at hg
  obtain ⟨A, c, rfl⟩ := hg.form
  clear hg
  go_wp2_with fail
  refine (bl_may HQ.out (by omega) B2).mono ?_
  rintro e w3 ⟨rfl, B3⟩
  have HB := Lib.hid B3.below
  go_wp2_with fail
  go_ret
  exact ⟨rfl, HB.out⟩

/-- All but the last walk, for a name. -/
theorem nameParts_yes (s : List UInt8) (w : World) (hm : mayL s = true) (hM : ML w) :
    Calls Tryd.prog 7 #[.string (str s)] w fun e w' => e = .returned (.bool true) ∧ Below w.heap.size w w' := by
  have B0 := BL.start hM
  have hs := may_len hm
  have HQ := Lib.hid hm
  obtain ⟨L, hL⟩ : ∃ L, L = labelsL s := ⟨_, rfl⟩
  have hLc : L = cutD s := by rw [hL]; unfold labelsL; rw [if_pos hm]
  have hpos : 0 < L.length := by rw [hLc]; exact List.length_pos_iff.2 (cutD_ne s)
  have hlen : L.length ≤ 254 := by have := cutD_len s; rw [← hLc] at this; omega
  have hlab : ∀ k, k < L.length → isLab (L.getD k []) = true := fun k hk => (may_iff.1 hm).2.1 _ (by rw [← hLc, List.getD_eq_getElem?_getD, List.getElem?_eq_getElem hk]; exact List.getElem_mem hk)
  have hjoin : joinD L = s := by rw [hLc]; exact joinD_cutD _ s (Nat.le_refl _)
  have hJl : ∀ k, (joinD (L.take k)).length ≤ 64516 := fun k => by
    have := joinD_len (l := L.take k) (fun x hx => by
      have hx' : x ∈ cutD s := by rw [← hLc]; exact List.mem_of_mem_take hx
      have := cutD_part _ s (Nat.le_refl _) hx'
      omega)
    have h2 : (L.take k).length ≤ 254 := by rw [List.length_take]; omega
    omega
  have HL := Lib.hid hL
  have HLab := Lib.hid hlab
  have HJ := Lib.hid hjoin
  have HJl := Lib.hid hJl
  have HLC := Lib.hid hLc
  clear hM hm hL hlab hjoin hJl hLc
  go_enter Tryd.func7, Tryd.ntmps7
  go_wp2_with fail
  refine (awake_bl _ B0).mono ?_
  rintro e w1 ⟨rfl, B1⟩
  go_wp2_with fail
  refine (bl_labels (by omega) B1).mono ?_
  rintro e w2 ⟨v, rfl, hg, B2⟩
  rw [← HL.out] at hg
  obtain ⟨g, c, rfl, ht⟩ := gv_texts hg hpos
  have HT := Lib.hid ht
  clear hg ht
  go_wp2_with fail
  refine (bls (V := .bool) (may_any s _ (by omega) B2.ml) HQ.out B2).mono ?_
  rintro e w3 ⟨rfl, hb3, B3⟩
  have HT3 := Lib.hid (HT.out.step hb3)
  clear hb3
  go_wp2_with fail
  go_loopw [4, 5] (fun a i wr => ∃ k : Nat, k ≤ L.length ∧ i = .int .i64 k ∧ a = sv (joinD (L.take k)) ∧ TextsAt wr g L ∧ BL w wr) (fun _ i _ => L.length - (intOf i).toNat)
  case atStart => exact ⟨0, Nat.zero_le _, rfl, rfl, HT3.out, B3⟩
  case round =>
    obtain ⟨k, hk, rfl, rfl, htk, Bk⟩ := hrel
    have HTK := Lib.hid htk
    clear htk
    obtain ⟨J, hJ⟩ : ∃ J, J = joinD (L.take k) := ⟨_, rfl⟩
    have hJn : J.length ≤ 64516 := by rw [hJ]; exact HJl.out k
    rw [← hJ]
    have HJK := Lib.hid hJ
    clear hJ
    by_cases hlt : k < L.length
    · obtain ⟨x, hx⟩ : ∃ x, x = L.getD k [] := ⟨_, rfl⟩
      have hc : wr.cell? ⟨g, k, none⟩ = some (sv x) := by rw [hx]; exact HTK.out.2 k hlt
      have hxl := HLab.out k hlt
      rw [← hx] at hxl
      have hxn : x.length ≤ 63 := (isLab_all hxl).2.1
      have HXM := Lib.hid (lab_may hxl)
      have HX := Lib.hid hx
      clear hx hxl
      by_cases k0 : k = 0
      · have HN := Lib.hid (show J ++ x = joinD (L.take (k + 1)) by
          rw [HJK.out, HX.out, k0]
          cases hLL : L with
          | nil => rw [hLL] at hpos; simp at hpos
          | cons a r => simp [joinD])
        have e0 : decide (0 < k) = false := decide_eq_false (by omega)
        clear k0
        go_wp2_with fail
        rw [app_x]
        refine (bls (V := .bool) (may_any _ _ (by simp; omega) Bk.ml) HXM.out Bk).mono ?_
        rintro e w4 ⟨rfl, hb4, B4⟩
        have HT4 := Lib.hid (HTK.out.step hb4)
        clear hb4
        go_wp2_with fail
        go_roundw
        case rel => exact ⟨k + 1, by omega, by go_num, by rw [str_append, HN.out], HT4.out, B4⟩
        case measure => simp [intOf]; omega
      · have HN := Lib.hid (show J ++ [46] ++ x = joinD (L.take (k + 1)) by
          rw [HJK.out, HX.out, List.take_succ_eq_append_getElem hlt, joinD_snoc _ _ (by intro e; have h := congrArg List.length e; simp only [List.length_take, List.length_nil] at h; omega)]
          rw [List.getD_eq_getElem?_getD, List.getElem?_eq_getElem hlt]
          simp)
        have e0 : decide (0 < k) = true := decide_eq_true (by omega)
        clear k0
        go_wp2_with fail
        rw [app_x]
        refine (bls (V := .bool) (may_any _ _ (by simp; omega) Bk.ml) HXM.out Bk).mono ?_
        rintro e w4 ⟨rfl, hb4, B4⟩
        have HT4 := Lib.hid (HTK.out.step hb4)
        clear hb4
        go_wp2_with fail
        go_roundw
        case rel => exact ⟨k + 1, by omega, by go_num, by rw [app_dot', str_append, HN.out], HT4.out, B4⟩
        case measure => simp [intOf]; omega
    · obtain rfl : k = L.length := by omega
      rw [List.take_of_length_le (Nat.le_refl _), HJ.out] at HJK
      obtain rfl : J = s := HJK.out
      cases hpa : parentL J with
      | none =>
        have h1 : (L.length : Int) ≤ 1 := by
          have h2 := parent_none hpa HQ.out
          rw [← HL.out] at h2
          rw [h2]; simp
        have h1' : (L.length : Int) - 1 = 0 := by omega
        have e1 : ((0 : Int) != (L.length : Int) - 1) = false := by rw [h1']; rfl
        have HP := Lib.hid hpa
        clear hpa h1'
        go_wp2_with fail
        refine (bl_parent HP.out (by omega) Bk).mono ?_
        rintro e w4 ⟨rfl, B4⟩
        unfold optV
        go_wp2_with fail
        refine (bl_labels (x := []) (by simp) B4).mono ?_
        rintro e w5 ⟨u, rfl, hg, B5⟩
        rw [show labelsL [] = [] by decide] at hg
        obtain ⟨A, c2, rfl⟩ := hg.form
        clear hg
        go_wp2_with fail
        go_loopw [9] (fun i wr => i = .int .i64 0 ∧ BL w wr) (fun _ _ => 0)
        case atStart => exact ⟨rfl, B5⟩
        case round =>
          obtain ⟨rfl, Bz⟩ := hrel
          have HB := Lib.hid Bz.below
          go_wp2_with fail
          go_ret
          exact ⟨rfl, HB.out⟩
      | some p =>
        have hp := parent_labels hpa
        rw [← HL.out] at hp
        obtain ⟨_, hp2, hp3⟩ := hp
        have hpl : p.length ≤ 253 := may_len (parent_may hpa)
        obtain ⟨R, hR⟩ : ∃ R, R = labelsL p := ⟨_, rfl⟩
        rw [← hR] at hp2
        have hRl : R.length + 1 = L.length := by rw [hp2, List.length_tail]; omega
        have hRL : ∀ k, k < R.length → R.getD k [] = L.getD (k + 1) [] := fun k hk => by
          rw [hp2, List.getD_eq_getElem?_getD, List.getD_eq_getElem?_getD, List.getElem?_tail]
        have h1 : (1 : Int) < (L.length : Int) := by omega
        have e1 : ((R.length : Int) != (L.length : Int) - 1) = false := by rw [← hRl]; simp
        have hRp : 0 < R.length := by omega
        have HP := Lib.hid hpa
        have HRE := Lib.hid hR
        have HRl := Lib.hid hRl
        have HRL := Lib.hid hRL
        clear hpa hR hRl hRL hp2 hp3
        go_wp2_with fail
        refine (bls (V := optV) (parent_any _ _ (by omega) Bk.ml) HP.out Bk).mono ?_
        rintro e w4 ⟨rfl, hb4, B4⟩
        have HT4 := Lib.hid (HTK.out.step hb4)
        clear hb4
        unfold optV
        go_wp2_with fail
        refine (bl_labels (x := p) (by omega) B4).mono ?_
        rintro e w5 ⟨u, rfl, hg, B5⟩
        have HT5 := Lib.hid (HT4.out.step hg.1)
        rw [← HRE.out] at hg
        obtain ⟨g2, c2, rfl, ht2⟩ := gv_texts hg hRp
        have HR5 := Lib.hid ht2
        clear hg ht2
        go_wp2_with fail
        go_loopw [9] (fun i wr => ∃ k : Nat, k ≤ R.length ∧ i = .int .i64 k ∧ TextsAt wr g L ∧ TextsAt wr g2 R ∧ BL w wr) (fun i _ => R.length - (intOf i).toNat)
        case atStart => exact ⟨0, Nat.zero_le _, rfl, HT5.out, HR5.out, B5⟩
        case round =>
          obtain ⟨k, hk, rfl, htl, htr, Bz⟩ := hrel
          have HTL := Lib.hid htl
          have HTR := Lib.hid htr
          clear htl htr
          by_cases hlt : k < R.length
          · obtain ⟨x, hx⟩ : ∃ x, x = R.getD k [] := ⟨_, rfl⟩
            have hRl := HRl.out
            have hc2 : wr.cell? ⟨g2, k, none⟩ = some (sv x) := by rw [hx]; exact HTR.out.2 k hlt
            have hc1 : wr.cell? ⟨g, k + 1, none⟩ = some (sv x) := by rw [hx, HRL.out k hlt]; exact HTL.out.2 (k + 1) (by omega)
            have hkL : k + 1 < L.length := by omega
            have hwr : IntKind.i64.wrap ((k : Int) + 1) = (k : Int) + 1 := IntWalk.i64_in _ (by omega)
            have h0k : 0 ≤ (k : Int) + 1 := by omega
            have htn : ((k : Int) + 1).toNat = k + 1 := by omega
            have hlk : (k : Int) + 1 < (L.length : Int) := by omega
            have HWR := Lib.hid hRl
            clear hx hRl
            go_wp2_with fail
            go_quiet (fail)
            clear hwr h0k htn hlk
            go_wp2_with fail
            go_roundw
            case rel => exact ⟨k + 1, by omega, by go_num, HTL.out, HTR.out, Bz.drewN _⟩
            case measure => simp [intOf]; omega
          · obtain rfl : k = R.length := by omega
            have HB := Lib.hid Bz.below
            go_wp2_with fail
            go_ret
            exact ⟨rfl, HB.out⟩

theorem nameParts_walk (s : ByteArray) (hs : s.data.size ≤ 140737488351232) (w : World) (hM : ML w) :
    Calls Tryd.prog 7 #[.string s] w fun e w' => e = .returned (.bool true) ∧ Below w.heap.size w w' := by
  obtain ⟨s, rfl, _⟩ := to_str s
  have hs' : s.length ≤ 140737488351232 := by simpa using hs
  by_cases h : 5000 < s.length
  · exact nameParts_long s w hs' h hM
  · cases hm : mayL s with
    | true => exact nameParts_yes s w hm hM
    | false => exact nameParts_not s w (by omega) hm hM
end Go.Proofs.YtnlmlhjegjphiaaDoor
