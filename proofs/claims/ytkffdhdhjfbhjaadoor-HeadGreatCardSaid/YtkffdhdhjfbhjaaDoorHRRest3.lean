/-
  The reference's Plain, Hops, Body, Show.
-/
import Derived.Test.YtkffdhdhjfbhjaaDoorHRRest2
namespace Go.Proofs.YtkffdhdhjfbhjaaDoor
set_option linter.unusedSimpArgs false
set_option linter.unusedVariables false
open Go Go.RowKit Go.Shelf
set_option maxRecDepth 100000

set_option maxHeartbeats 2000000 in
theorem colon_same (s : List UInt8) (w : World) (hs : s.length ≤ 1000000) :
    Calls Tryd.prog 43 #[sv s] w fun e w' => e = .returned (.int .i64 (colL s : Int)) ∧ w' = w := by
  have HB := Lib.hid (rfl : w = w)
  go_enter Tryd.func43, Tryd.ntmps43
  go_wp2_with fail
  go_loopw [3] (fun i wr => ∃ k : Nat, k ≤ s.length ∧ i = .int .i64 k ∧ (∀ j, j < k → okN (s.getD j 0) = true) ∧ wr = w) (fun i _ => s.length - (intOf i).toNat)
  case atStart => exact ⟨0, Nat.zero_le _, rfl, fun j hj => absurd hj (by omega), rfl⟩
  case round =>
    obtain ⟨k, hk, rfl, ht, hbl⟩ := hrel
    have HT := Lib.hid ht
    have HL := Lib.hid hbl
    clear ht hbl
    by_cases hlt : k < s.length
    · obtain ⟨x, hx⟩ : ∃ x, (s.getD k 0).toNat = x := ⟨_, rfl⟩
      have hxs : (((str s)[k]'(by simpa [ByteArray.size] using hlt)).toNat) = x := by rw [str_getD s k hlt, hx]
      have hget : s[k]? = some (s.getD k 0) := by rw [List.getElem?_eq_getElem hlt, getD_str s k hlt]
      have HF := Lib.hid (fun h => show colL s = 0 by
        have hn : okN (s.getD k 0) = false := okN_no hx (h.elim .inl fun h => .inr (.inl h))
        unfold colL
        rw [col_hit HT.out hlt hn]
        dsimp only
        rw [if_neg]
        rw [hget]
        intro e
        have e' : s.getD k 0 = 58 := by simpa using e
        rw [e'] at hx
        have : x = 58 := hx.symm
        omega : x ≤ 32 ∨ 126 < x → colL s = 0)
      have HC := Lib.hid (fun (h : x = 58) => show colL s = k by
        have hn : okN (s.getD k 0) = false := okN_no hx (.inr (.inr h))
        unfold colL
        rw [col_hit HT.out hlt hn]
        dsimp only
        rw [if_pos]
        rw [hget]
        congr 1
        exact UInt8.toNat_inj.1 (by rw [hx, h]; rfl))
      have HY := Lib.hid (fun h1 h2 h3 => upto_next HT.out (okN_yes hx h1 h2 h3))
      clear hx hget
      by_cases h3 : x = 58
      · subst h3
        go_wp2_with fail
        go_ret
        rw [HC.out trivial]
        exact ⟨rfl, HL.out⟩
      · have e3 : ((x : Int) == 58) = false := by rw [beq_eq_false_iff_ne]; omega
        by_cases h1 : x ≤ 32
        · have e1 : (x : Int) < 33 := by omega
          go_wp2_with fail
          go_ret
          rw [HF.out (.inl h1)]
          exact ⟨rfl, HL.out⟩
        · have e1 : ¬ (x : Int) < 33 := by omega
          by_cases h2 : 126 < x
          · go_wp2_with fail
            go_ret
            rw [HF.out (.inr h2)]
            exact ⟨rfl, HL.out⟩
          · go_wp2_with fail
            go_roundw
            case rel => exact ⟨k + 1, by omega, by go_num, HY.out (by omega) (by omega) h3, HL.out⟩
            case measure => simp [intOf]; omega
    · obtain rfl : k = s.length := by omega
      have HE := Lib.hid (show colL s = 0 by
        unfold colL
        rw [col_all HT.out]
        dsimp only
        rw [if_neg]
        rw [List.getElem?_eq_none (Nat.le_refl _)]
        simp)
      go_wp2_with fail
      go_ret
      rw [HE.out]
      exact ⟨rfl, HL.out⟩
set_option maxHeartbeats 4000000 in
theorem rtrim_same (s : List UInt8) (w : World) (hs : s.length ≤ 1000000) :
    Calls Tryd.prog 44 #[sv s] w fun e w' => e = .returned (sv (trimL s)) ∧ w' = w := by
  obtain ⟨r, hr⟩ : ∃ r, r = trimL s := ⟨_, rfl⟩
  rw [← hr]
  rw [trimL_is] at hr
  have HR := Lib.hid hr
  have HB := Lib.hid (rfl : w = w)
  clear hr
  go_enter Tryd.func44, Tryd.ntmps44
  go_wp2_with fail
  go_loopw [0] (fun x wr => ∃ t : List UInt8, x = sv t ∧ t.length ≤ s.length ∧ t.dropWhile onB = s.dropWhile onB ∧ wr = w) (fun x _ => lenS x)
  case atStart => exact ⟨s, rfl, Nat.le_refl _, rfl, rfl⟩
  case round =>
    obtain ⟨t, rfl, htl, htd, hbl⟩ := hrel
    have HT := Lib.hid htd
    have HL := Lib.hid hbl
    clear htd hbl
    have out : ∀ (R : List UInt8), (t = [] ∨ ∃ c l, t = c :: l ∧ onB c = false) → s.dropWhile onB = t := by
      intro _ h
      rw [← HT.out]
      rcases h with rfl | ⟨c, l, rfl, hc⟩
      · rfl
      · rw [List.dropWhile_cons_of_neg (by simpa using hc)]
    have OUT := Lib.hid (out [])
    clear out
    cases t with
    | cons c l =>
      have h0 : (((str (c :: l))[0]'(by simp [ByteArray.size])).toNat) = c.toNat := rfl
      have HBL := Lib.hid (blank_any c c.toNat rfl wr)
      cases hc : onB c with
      | true =>
        rw [hc] at HBL
        have HN := Lib.hid (show l.dropWhile onB = s.dropWhile onB by rw [← HT.out, List.dropWhile_cons_of_pos hc])
        have E1 := Lib.hid (show (str (c :: l)).extract 1 (l.length + 1) = str l by rw [str_extract]; simp)
        clear hc
        go_wp2_with fail
        refine HBL.out.mono ?_
        rintro e w2 ⟨rfl, rfl⟩
        go_wp2_with fail
        rw [E1.out]
        go_roundw
        case rel => exact ⟨l, rfl, by simp at htl; omega, HN.out, HL.out⟩
        case measure => simp [lenS, ByteArray.size]
      | false =>
        rw [hc] at HBL
        have HO := Lib.hid (OUT.out (.inr ⟨c, l, rfl, hc⟩))
        clear hc
        go_wp2_with fail
        refine HBL.out.mono ?_
        rintro e w2 ⟨rfl, rfl⟩
        go_wp2_with fail
        go_loopw [0] (fun x wr => ∃ u : List UInt8, x = sv u ∧ u.length ≤ 1000000 ∧ rtL onB u = r ∧ wr = w) (fun x _ => lenS x)
        case atStart => exact ⟨_, rfl, by omega, by rw [HR.out, HO.out], HL.out⟩
        case round =>
          obtain ⟨u, rfl, hul, hud, hbl⟩ := hrel
          have HU := Lib.hid hud
          have HM := Lib.hid hbl
          clear hud hbl
          rcases List.eq_nil_or_concat u with rfl | ⟨v, c, rfl⟩
          · have HE := Lib.hid (show ([] : List UInt8) = r from HU.out)
            go_wp2_with fail
            go_ret
            rw [← HE.out]
            exact ⟨rfl, HM.out⟩
          · rw [List.concat_eq_append] at *
            have hvl : (v ++ [c]).length = v.length + 1 := by simp
            have h0 : (((str (v ++ [c]))[v.length]'(by simp [ByteArray.size])).toNat) = c.toNat := by
              show ((v ++ [c])[v.length]'(by simp)).toNat = c.toNat
              rw [List.getElem_append_right (by omega)]
              simp
            have HBL := Lib.hid (blank_any c c.toNat rfl wr)
            have HUS := Lib.hid (rtL_snoc onB c v)
            cases hc : onB c with
            | true =>
              rw [hc] at HBL
              have HN := Lib.hid (show rtL onB v = r by rw [← HU.out, HUS.out, if_pos hc])
              have E1 := Lib.hid (show (str (v ++ [c])).extract 0 v.length = str v by rw [str_extract]; simp)
              clear hc
              go_wp2_with fail
              refine HBL.out.mono ?_
              rintro e w2 ⟨rfl, rfl⟩
              go_wp2_with fail
              rw [E1.out]
              go_roundw
              case rel => exact ⟨v, rfl, by omega, HN.out, HM.out⟩
              case measure => simp [lenS, ByteArray.size]
            | false =>
              rw [hc] at HBL
              have HN := Lib.hid (show v ++ [c] = r by rw [← HU.out, HUS.out, if_neg (by simp [hc])])
              clear hc
              go_wp2_with fail
              refine HBL.out.mono ?_
              rintro e w2 ⟨rfl, rfl⟩
              go_wp2_with fail
              go_ret
              rw [← HN.out]
              exact ⟨rfl, HM.out⟩
    | nil =>
      have HO := Lib.hid (OUT.out (.inl rfl))
      go_wp2_with fail
      go_loopw [0] (fun x wr => ∃ u : List UInt8, x = sv u ∧ u.length ≤ 1000000 ∧ rtL onB u = r ∧ wr = w) (fun x _ => lenS x)
      case atStart => exact ⟨_, rfl, by simp, by rw [HR.out, HO.out], HL.out⟩
      case round =>
        obtain ⟨u, rfl, hul, hud, hbl⟩ := hrel
        have HU := Lib.hid hud
        have HM := Lib.hid hbl
        clear hud hbl
        rcases List.eq_nil_or_concat u with rfl | ⟨v, c, rfl⟩
        · have HE := Lib.hid (show ([] : List UInt8) = r from HU.out)
          go_wp2_with fail
          go_ret
          rw [← HE.out]
          exact ⟨rfl, HM.out⟩
        · rw [List.concat_eq_append] at *
          have hvl : (v ++ [c]).length = v.length + 1 := by simp
          have h0 : (((str (v ++ [c]))[v.length]'(by simp [ByteArray.size])).toNat) = c.toNat := by
            show ((v ++ [c])[v.length]'(by simp)).toNat = c.toNat
            rw [List.getElem_append_right (by omega)]
            simp
          have HBL := Lib.hid (blank_any c c.toNat rfl wr)
          have HUS := Lib.hid (rtL_snoc onB c v)
          cases hc : onB c with
          | true =>
            rw [hc] at HBL
            have HN := Lib.hid (show rtL onB v = r by rw [← HU.out, HUS.out, if_pos hc])
            have E1 := Lib.hid (show (str (v ++ [c])).extract 0 v.length = str v by rw [str_extract]; simp)
            clear hc
            go_wp2_with fail
            refine HBL.out.mono ?_
            rintro e w2 ⟨rfl, rfl⟩
            go_wp2_with fail
            rw [E1.out]
            go_roundw
            case rel => exact ⟨v, rfl, by omega, HN.out, HM.out⟩
            case measure => simp [lenS, ByteArray.size]
          | false =>
            rw [hc] at HBL
            have HN := Lib.hid (show v ++ [c] = r by rw [← HU.out, HUS.out, if_neg (by simp [hc])])
            clear hc
            go_wp2_with fail
            refine HBL.out.mono ?_
            rintro e w2 ⟨rfl, rfl⟩
            go_wp2_with fail
            go_ret
            rw [← HN.out]
            exact ⟨rfl, HM.out⟩

theorem like_map {a n m : List UInt8} (h : n.map smallB = m.map smallB) : likeB a n = likeB a m := by unfold likeB; rw [h]
theorem getL_map {n m : List UInt8} (s : List UInt8) (h : n.map smallB = m.map smallB) : getL s n = getL s m := by
  unfold getL
  congr 1
  congr 1
  funext f
  exact like_map h
def reqS : List UInt8 := [116, 108, 115, 45, 114, 101, 113, 117, 105, 114, 101, 100]
def recS : List UInt8 := [114, 101, 99, 101, 105, 118, 101, 100]
theorem reqS_is : reqS.map smallB = reqL.map smallB := by decide +kernel
theorem recS_is : recS.map smallB = recL.map smallB := by decide +kernel
theorem no_is : ([110, 111] : List UInt8).map smallB = ([78, 111] : List UInt8).map smallB := by decide +kernel

set_option maxHeartbeats 2000000 in
theorem rhops_any (s : List UInt8) (w : World) (hs : s.length ≤ 50000) :
    Calls Tryd.prog 27 #[sv s] w fun e w' => e = .returned (.int .i64 (hopsL s : Int)) ∧ Below w.heap.size w w' := by
  have HG := Lib.hid (rget_any s recS w hs (by decide))
  obtain ⟨n, hn⟩ : ∃ n, n = hopsL s := ⟨_, rfl⟩
  have HN := Lib.hid (show (getL s recS).length = n by rw [hn, getL_map s recS_is]; rfl)
  rw [← hn]
  clear hn
  go_enter Tryd.func27, Tryd.ntmps27
  go_wp2_with (go_at_call 22; refine HG.out.mono ?_; rintro e w1 ⟨v, rfl, hb1, ho⟩; obtain ⟨A, c, rfl⟩ := ho.form; rw [HN.out])
  go_ret
  exact ⟨rfl, hb1⟩

set_option maxHeartbeats 2000000 in
theorem rplain_any (s : List UInt8) (w : World) (hs : s.length ≤ 50000) :
    Calls Tryd.prog 26 #[sv s] w fun e w' => e = .returned (.bool (plainL s)) ∧ Below w.heap.size w w' := by
  have HG := Lib.hid (rget_any s reqS w hs (by decide))
  obtain ⟨vs, hvs⟩ : ∃ vs, vs = getL s reqL := ⟨_, rfl⟩
  have hvl : ∀ v ∈ vs, v.length ≤ 1000000 := by rw [hvs]; intro v hv; have := get_len_le s reqL v hv; omega
  have HP := Lib.hid (show plainL s = onlyB vs by rw [hvs]; rfl)
  rw [getL_map s reqS_is, ← hvs] at HG
  clear hvs
  cases vs with
  | nil =>
    go_enter Tryd.func26, Tryd.ntmps26
    go_wp2_with (go_at_call 22; refine HG.out.mono ?_; rintro e w1 ⟨v, rfl, hb1, ho⟩; obtain ⟨A, c, rfl⟩ := ho.form)
    go_ret
    rw [HP.out]
    exact ⟨rfl, hb1⟩
  | cons v r =>
    cases r with
    | cons u r =>
      have hne : (((r.length + 1 + 1 : Nat) : Int) == 1) = false := by rw [beq_eq_false_iff_ne]; omega
      go_enter Tryd.func26, Tryd.ntmps26
      go_wp2_with (go_at_call 22; refine HG.out.mono ?_; rintro e w1 ⟨v, rfl, hb1, ho⟩; obtain ⟨A, c, rfl⟩ := ho.form)
      go_ret
      rw [HP.out]
      exact ⟨rfl, hb1⟩
    | nil =>
      have HL := Lib.hid (fun w => rlike_any v [110, 111] w (hvl v (by simp)) (by decide))
      obtain ⟨b, hb⟩ : ∃ b, b = likeB v [110, 111] := ⟨_, rfl⟩
      rw [← hb] at HL
      have HP2 := Lib.hid (show plainL s = b by rw [HP.out, hb, like_map no_is]; rfl)
      clear hb HP hvl
      go_enter Tryd.func26, Tryd.ntmps26
      go_wp2_with (go_at_call 22; refine HG.out.mono ?_; rintro e w1 ⟨v, rfl, hb1, ho⟩; obtain ⟨A, c, rfl⟩ := ho.form; obtain ⟨g, rfl, hc0⟩ := Ows.cell0 ho 0 (Nat.lt_succ_self 0); have HB1 := Lib.hid hb1; clear ho hb1)
      refine (HL.out _).mono ?_
      rintro e w2 ⟨rfl, hb2⟩
      have HB2 := Lib.hid (HB1.out.trans (hb2.mono HB1.out.size))
      clear hb2
      go_wp2_with fail
      go_ret
      rw [HP2.out]
      exact ⟨rfl, HB2.out⟩

set_option maxHeartbeats 2000000 in
theorem rbody_any (s : List UInt8) (w : World) (hs : s.length ≤ 50000) :
    Calls Tryd.prog 23 #[sv s] w fun e w' => e = .returned (sv (bodyL s)) ∧ Below w.heap.size w w' := by
  have HC := Lib.hid (rcut_any s w hs)
  obtain ⟨hj, hcl, _⟩ := cut_len s
  have HBD := Lib.hid (fun k => body_at (s := s) (k := k))
  have HJC := Lib.hid (join_cut s)
  obtain ⟨rs, hrs⟩ : ∃ rs, rs = restL s := ⟨_, rfl⟩
  obtain ⟨xs, hxs⟩ : ∃ xs, xs = cutL s := ⟨_, rfl⟩
  rw [← hxs, ← hrs] at hj HC HJC
  rw [← hxs] at hcl
  simp only [← hxs, ← hrs] at HBD
  clear hxs hrs
  go_enter Tryd.func23, Tryd.ntmps23
  go_wp2_with (go_at_call 41; refine HC.out.mono ?_; rintro e w1 ⟨v, rfl, hb1, hsl⟩; obtain ⟨A, c, rfl⟩ := hsl.form)
  have HB1 := Lib.hid hb1
  have HO := Lib.hid hsl
  clear hb1 hsl
  go_loopw [3, 6] (fun a i wr => ∃ k : Nat, k ≤ xs.length ∧ i = .int .i64 k ∧ a = .int .i64 ((joinL (xs.take k)).length : Int) ∧ wr = w1 ∧ ∀ j, j < k → ∀ h : j < xs.length, neB xs[j] = true) (fun _ i _ => xs.length - (intOf i).toNat)
  case atStart => exact ⟨0, Nat.zero_le _, rfl, rfl, rfl, fun j hj => absurd hj (by omega)⟩
  case round =>
    obtain ⟨k, hk, rfl, rfl, rfl, hne⟩ := hrel
    have HN := Lib.hid hne
    clear hne
    by_cases hlt : k < xs.length
    · obtain ⟨g, rfl, c0⟩ := HO.out.cell0 k hlt
      have htk : joinL (xs.take (k + 1)) = joinL (xs.take k) ++ xs[k] ++ [13, 10] := by rw [List.take_succ_eq_append_getElem hlt, joinL_snoc]
      have hjl := joinL_take_le xs (k + 1)
      obtain ⟨x, hx⟩ : ∃ x, x = xs[k] := ⟨_, rfl⟩
      rw [← hx] at c0 htk
      have htl : (joinL (xs.take (k + 1))).length = (joinL (xs.take k)).length + x.length + 2 := by rw [htk]; simp; omega
      obtain ⟨a, ha⟩ : ∃ a, a = (joinL (xs.take k)).length := ⟨_, rfl⟩
      rw [← ha] at htl ⊢
      have hk1 : (0 : Int) ≤ (k : Int) := by omega
      have hk2 : (k : Int) < (xs.length : Int) := by omega
      have HTL := Lib.hid htl
      have ha2 : a + x.length + 2 ≤ s.length := by omega
      have HSP := Lib.hid (show s.drop (a + x.length + 2) = joinL (xs.drop (k + 1)) ++ rs by
        rw [← htl, ← HJC.out]
        have e : joinL xs = joinL (xs.take (k + 1)) ++ joinL (xs.drop (k + 1)) := by rw [← joinL_append, List.take_append_drop]
        rw [e, List.append_assoc, List.drop_append_of_le_length (Nat.le_refl _), List.drop_length, List.nil_append])
      clear htk ha hjl htl
      by_cases hx0 : x = []
      · have HB := Lib.hid (show bodyL s = s.drop (a + 2) by
          have hkk : k = (xs.takeWhile neB).length := (tw_upto HN.out hk (fun _ => by rw [← hx, hx0]; rfl)).symm
          have := HSP.out
          rw [hx0] at this
          rw [(HBD.out k hkk).2 hlt]
          simpa using this.symm)
        subst hx0
        have e1 : (str s).extract (a + 2) s.length = str (s.drop (a + 2)) := by rw [str_extract, List.take_of_length_le (Nat.le_refl _)]
        have ha3 : a + 2 ≤ s.length := by simpa using ha2
        have E1 := Lib.hid e1
        clear hx e1
        go_wp2_with fail
        rw [E1.out]
        go_ret
        rw [HB.out]
        exact ⟨rfl, HB1.out⟩
      · have HNX := Lib.hid (show ∀ j, j < k + 1 → ∀ h : j < xs.length, neB xs[j] = true from fun j hj h => by
          by_cases e : j = k
          · subst e; rw [← hx]; simpa [neB] using hx0
          · exact HN.out j (by omega) h)
        have hxe : x.isEmpty = false := by simpa using hx0
        have e0 : (x == []) = false := by simpa using hx0
        clear hx
        go_wp2_with fail
        go_roundw
        case rel => exact ⟨k + 1, by omega, by go_num, by rw [HTL.out]; go_num, by first | rfl | trivial, HNX.out⟩
        case measure => simp [intOf]; omega
    · obtain rfl : k = xs.length := by omega
      have HB := Lib.hid (show bodyL s = [] by
        have hkk : xs.length = (xs.takeWhile neB).length := (tw_upto HN.out hk (fun h => absurd h (by omega))).symm
        exact (HBD.out _ hkk).1 (by omega))
      go_wp2_with fail
      go_ret
      rw [HB.out]
      exact ⟨rfl, HB1.out⟩
end Go.Proofs.YtkffdhdhjfbhjaaDoor
