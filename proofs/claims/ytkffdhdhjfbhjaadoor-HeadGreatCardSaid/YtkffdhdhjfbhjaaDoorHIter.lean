/-
  The iterator over a text's fields: what it hands over, each behind those ahead.
-/
import Derived.RangeFuncFrom
import Derived.Test.YtkffdhdhjfbhjaaDoorHGo
namespace Go.Proofs.YtkffdhdhjfbhjaaDoor
set_option linter.unusedSimpArgs false
set_option linter.unusedVariables false
open Go Go.RowKit Go.Shelf
set_option maxRecDepth 100000
attribute [local go_sem] Oper.semAt_some

/-- What the body of a loop keeps. -/
structure Keeps (Kp : World → World → Prop) (Free : World → Nat → Prop) (n₀ : Nat) : Prop where
  keep : ∀ {A B : World} {k : Nat} {cs : Array Value} {t : TypeId} {fr : Nat × Nat}, Kp A B → A.heap[k]? = some (.cells cs t fr) → Free A k → B.heap[k]? = A.heap[k]? ∧ Free B k
  below : ∀ {A B : World}, Kp A B → Below n₀ A B

theorem SL.kept {Kp : World → World → Prop} {Free : World → Nat → Prop} {n₀ : Nat} (hK : Keeps Kp Free n₀) {A B : World} {v : Value} {xs : List (List UInt8)} (h : SL Free A v xs) (hk : Kp A B) : SL Free B v xs := by
  rcases h with h | ⟨g, o, c, e, h1, h2, ⟨cur, fr, h3, h4⟩, h5⟩
  · exact .inl h
  · obtain ⟨k1, k2⟩ := hK.keep hk h3 h5
    exact .inr ⟨g, o, c, e, h1, h2, ⟨cur, fr, k1.trans h3, h4⟩, k2⟩

/-- What the iterator hands over. -/
abbrev FI := { f : FP // f.1.length ≤ 1000000 ∧ f.2.length ≤ 1000000 }
def valsF (l : List FI) : List FP := l.map (·.1)
theorem valsF_snoc (l : List FI) (x : FI) : valsF (l ++ [x]) = valsF l ++ [x.1] := by simp [valsF]

theorem fields_call (s : ByteArray) (w : World) :
    Calls Tryd.prog 40 #[.string s] w fun e w' => e = .returned (.func (.func 54) #[] #[.pointer (some ⟨w.heap.size, 0, none⟩)]) ∧ w' = w.alloc (.cells #[.string s] 9) := by
  go_enter Tryd.func40, Tryd.ntmps40
  go_wp2
  go_ret
  exact ⟨rfl, rfl⟩

theorem flat_len (xs : List (List UInt8)) : xs.flatten.length + 2 * xs.length = (joinL xs).length := by
  induction xs with
  | nil => rfl
  | cons x xs ih => rw [joinL_cons]; simp only [List.flatten_cons, List.length_append, List.length_cons]; omega

theorem head_len (s : List UInt8) : (headL s).flatten.length + 2 * (headL s).length ≤ s.length := by
  have h1 := (cut_len s).1
  rw [flat_len]
  have h2 : cutL s = headL s ++ (cutL s).dropWhile neB := (List.takeWhile_append_dropWhile).symm
  rw [h2, joinL_append, List.length_append] at h1
  omega
theorem head_ne (s : List UInt8) : ∀ x ∈ headL s, x ≠ [] := by
  intro x hx e
  subst e
  have : ∀ l : List (List UInt8), [] ∉ l.takeWhile neB := by
    intro l
    induction l with
    | nil => simp
    | cons c l ih =>
      by_cases hc : neB c = true
      · rw [List.takeWhile_cons_of_pos hc]
        intro h
        rcases List.mem_cons.1 h with h | h
        · rw [← h] at hc; cases hc
        · exact ih h
      · rw [List.takeWhile_cons_of_neg hc]; simp
  exact this _ hx

def lenV (v : Value) : Nat := match v with | .slice _ n _ => n | _ => 0

theorem sl_from {Free : World → Nat → Prop} {W : World} {g o c k : Nat} {xs : List (List UInt8)} (hk : k ≤ xs.length) (hc : xs.length ≤ c) (hcm : c ≤ maxLen) (ht : TX W g o xs) (hf : Free W g) :
    ∃ o', (if c = k then (some ⟨g, o, none⟩ : Option Addr) else some ⟨g, o + k, none⟩) = some ⟨g, o', none⟩ ∧ TX W g o' (xs.drop k) ∧ SL Free W (.slice (some ⟨g, o', none⟩) (xs.length - k) (c - k)) (xs.drop k) := by
  have hl : (xs.drop k).length = xs.length - k := List.length_drop
  by_cases e : c = k
  · refine ⟨o, by rw [if_pos e], ?_, ?_⟩
    · have : xs.drop k = [] := List.drop_of_length_le (by omega)
      rw [this]
      obtain ⟨cur, fr, hg, _⟩ := ht
      exact ⟨cur, fr, hg, fun j hj => absurd hj (by simp)⟩
    · have h0 : xs.drop k = [] := List.drop_of_length_le (by omega)
      obtain ⟨cur, fr, hg, _⟩ := ht
      refine .inr ⟨g, o, c - k, by rw [hl], by omega, by omega, ⟨cur, fr, hg, fun j hj => ?_⟩, hf⟩
      rw [h0] at hj; simp at hj
  · exact ⟨o + k, by rw [if_neg e], ht.drop k, .inr ⟨g, o + k, c - k, by rw [hl], by omega, by omega, ht.drop k, hf⟩⟩

theorem sl_tail {Free : World → Nat → Prop} {W : World} {g o c k : Nat} {xs : List (List UInt8)} (h : SL Free W (.slice (some ⟨g, o, none⟩) xs.length c) xs) (h0 : xs ≠ []) (hk : k ≤ xs.length) :
    SL Free W (.slice (if c = k then (some ⟨g, o, none⟩ : Option Addr) else some ⟨g, o + k, none⟩) (xs.length - k) (c - k)) (xs.drop k) := by
  rcases h with ⟨_, h⟩ | ⟨g', o', c', e, h1, h2, h3, h4⟩
  · exact absurd h h0
  · obtain ⟨⟨rfl, rfl⟩, rfl⟩ : (g = g' ∧ o = o') ∧ c = c' := by simpa using e
    obtain ⟨o1, e1, h5, h6⟩ := sl_from hk h1 h2 h3 h4
    rw [e1]
    exact h6

set_option maxHeartbeats 4000000 in
theorem fields1_in (l Bs n₀ : Nat) (s0 : List UInt8) (hs : s0.length ≤ 1000000) (hn0 : 0 < n₀) (Kp : World → World → Prop) (Free : World → Nat → Prop) (hKp : Keeps Kp Free n₀)
    (J Jx : List FI → World → Prop) (W : World) (hJ : AbidesFrom W.heap.size J) (hFr : ∀ W' k, Below W.heap.size W W' → W.heap.size ≤ k → Free W' k)
    (hKB : ∀ A B : World, W.heap.size ≤ A.heap.size → Below A.heap.size A B → Kp A B)
    (hY : ∀ pre x W1, J pre W1 → valsF (pre ++ [x]) <+: fieldsL s0 → YieldAt Fence.wide 1 Tryd.prog l #[fv x.1] W1 fun e W' =>
      (e = .returned (.bool true) ∧ J (pre ++ [x]) W' ∧ Kp W1 W' ∧ W1.heap.size ≤ W'.heap.size) ∨ (e = .returned (.bool false) ∧ Jx (pre ++ [x]) W'))
    (hM : ML W) (hB : W.cell? ⟨Bs, 0, none⟩ = some (sv s0)) (h0 : J [] W) :
    CallsIn Fence.wide 2 Tryd.prog 54 #[.func (.yield l) #[] #[], .pointer (some ⟨Bs, 0, none⟩)] W fun e W' => (∃ v, e = .returned v) ∧ ((∃ xs, valsF xs = fieldsL s0 ∧ J xs W') ∨ (∃ pre, valsF pre <+: fieldsL s0 ∧ Jx pre W')) := by
  have hJb : ∀ pre A B, J pre A → Below A.heap.size A B → J pre B := fun pre A B h hb => hJ _ _ _ none h ⟨hb.os, hb.tape, hb.output, hb.size, fun k hk _ => hb.block k hk⟩ (fun r e => by cases e)
  have hhd := Lib.hid (headLines_any s0 W hs hM)
  have hlen := head_len s0
  obtain ⟨L, hL⟩ : ∃ L, L = headL s0 := ⟨_, rfl⟩
  have hLn : ∀ x ∈ L, x ≠ [] := by rw [hL]; exact head_ne s0
  have hF : fieldsL s0 = fl L := by rw [hL]; rfl
  rw [← hL] at hhd hlen
  rw [hF] at hY ⊢
  have HYY := Lib.hid hY
  have HJB := Lib.hid hJb
  have HFR := Lib.hid hFr
  have HLN := Lib.hid hLn
  have HM0 := Lib.hid hM
  have HKB := Lib.hid hKB
  have HJ0 := Lib.hid h0
  clear hJ hJb hY h0 hFr hL hLn hF hM hKB
  refine callsIn_of_wp Tryd.func54 rfl trivial ?_ rfl
  simp only [Tryd.ntmps54, List.size_toArray, List.length_cons, List.length_nil, Nat.reduceAdd, Nat.reduceSub, Array.replicate_succ, Array.replicate_zero, List.push_toArray, List.append_toArray, List.nil_append, List.cons_append]
  gi_wp2_with (refine ⟨trivial, ?_⟩; gi_at_call 55; refine (callsIn_wide.2 hhd.out).mono ?_; rintro e w2 ⟨v, rfl, hb2, hrow⟩)
  have HM2 := Lib.hid (HM0.out.step hb2)
  have HJ2 := Lib.hid (HJB.out _ _ _ HJ0.out hb2)
  have HS2 := Lib.hid (hrow.free fun g hg => HFR.out _ _ hb2 hg)
  have HZ2 := Lib.hid hb2.size
  clear hrow hb2 hB
  gi_loopw [3, 4, 5, 6, 7, 8] (fun v _ _ _ _ _ wr => ∃ (m : Nat) (pre : List FI), m ≤ L.length ∧ SL Free wr v (L.drop m) ∧ valsF pre ++ fl (L.drop m) = fl L ∧ J pre wr ∧ ML wr ∧ W.heap.size ≤ wr.heap.size) (fun v _ _ _ _ _ _ => lenV v)
  case atStart => exact ⟨0, [], Nat.zero_le _, HS2.out, rfl, HJ2.out, HM2.out, HZ2.out⟩
  case round =>
    obtain ⟨m, pre, hm, hsl, hpre, hj, hml, hsz⟩ := hrel
    obtain ⟨R, hR⟩ : ∃ R, R = L.drop m := ⟨_, rfl⟩
    rw [← hR] at hsl hpre
    have hRl : R.flatten.length + 2 * R.length ≤ 1000000 := by
      have h1 : L.flatten.length = (L.take m).flatten.length + R.flatten.length := by
        rw [hR, ← List.length_append, ← List.flatten_append, List.take_append_drop]
      have h2 : R.length ≤ L.length := by rw [hR, List.length_drop]; omega
      omega
    have hRm : m + R.length = L.length := by rw [hR, List.length_drop]; omega
    have hRn : ∀ x ∈ R, x ≠ [] := fun x hx => HLN.out x (by rw [hR] at hx; exact List.mem_of_mem_drop hx)
    have HP := Lib.hid hpre
    have HJ := Lib.hid hj
    have HM := Lib.hid hml
    have HSL := Lib.hid hsl
    have HZ := Lib.hid hsz
    have HR := Lib.hid hR
    have HRN := Lib.hid hRn
    clear hpre hj hml hsl hsz hR hRn
    cases R with
    | nil =>
      have HF := Lib.hid (show valsF pre = fl L by have := HP.out; rw [fl_nil, List.append_nil] at this; exact this)
      obtain ⟨A, c, hv⟩ := HSL.out.form
      subst hv
      gi_wp2
      go_end0
      exact ⟨⟨_, rfl⟩, .inl ⟨pre, HF.out, HJ.out⟩⟩
    | cons x r =>
      obtain ⟨g, o, c, hv, hc, hcm, htx, hfr⟩ : ∃ g o c, u3 = .slice (some ⟨g, o, none⟩) (x :: r).length c ∧ (x :: r).length ≤ c ∧ c ≤ maxLen ∧ TX wr g o (x :: r) ∧ Free wr g := by
        rcases HSL.out with ⟨_, h⟩ | h
        · cases h
        · exact h
      subst hv
      simp only [List.flatten_cons, List.length_append, List.length_cons] at hRl hRm hc
      have c0 : wr.cell? ⟨g, o, none⟩ = some (sv x) := htx.cell 0 (by simp)
      have HTX := Lib.hid htx
      have HFRE := Lib.hid hfr
      have HBG := Lib.hid (begins_any x wr (by omega) HM.out)
      clear htx hfr
      cases hb : beginB x with
      | none =>
        have HF := Lib.hid (show valsF pre = fl L by have := HP.out; rw [fl_none r hb, List.append_nil] at this; exact this)
        have hbv : ∃ a b, beginsV x = .tuple #[a, b, .bool false] := by
          refine ⟨_, _, show beginsV x = .tuple #[sv (Lib.cut x [58]).1, sv (Lib.cut x [58]).2.1, .bool false] from ?_⟩
          unfold beginsV
          unfold beginB at hb
          dsimp only at hb
          cases hh : ((Lib.cut x [58]).2.2 && nameB (Lib.cut x [58]).1) with
          | false => rfl
          | true => rw [hh] at hb; cases hb
        obtain ⟨a, b, hbv⟩ := hbv
        rw [hbv] at HBG
        clear hb hbv
        gi_wp2_with (refine ⟨trivial, ?_⟩; gi_at_call 56; refine (callsIn_wide.2 HBG.out).mono ?_; rintro e w3 ⟨rfl, hb3⟩)
        have HJ3 := Lib.hid (HJB.out _ _ _ HJ.out hb3)
        clear hb3
        gi_wp2
        refine bodyPost_ret (results_none rfl _ _ _) rfl ?_
        exact ⟨⟨_, rfl⟩, .inl ⟨pre, HF.out, HJ3.out⟩⟩
      | some p =>
        obtain ⟨n, f⟩ := p
        obtain ⟨hbv, hnl, hfl⟩ : beginsV x = .tuple #[sv n, sv f, .bool true] ∧ n.length ≤ x.length ∧ f.length ≤ x.length := by
          have h1 := cut58_le x
          unfold beginsV
          unfold beginB at hb
          dsimp only at hb
          cases hh : ((Lib.cut x [58]).2.2 && nameB (Lib.cut x [58]).1) with
          | false => rw [hh] at hb; cases hb
          | true =>
            rw [hh] at hb
            have hb' : (Lib.cut x [58]).1 = n ∧ (Lib.cut x [58]).2.1 = f := by simpa using hb
            rw [hb'.1, hb'.2] at h1 ⊢
            exact ⟨rfl, h1⟩
        have hn1 : n.length ≤ 1000000 := by omega
        obtain ⟨more, hmore⟩ : ∃ more, more = r.takeWhile goesB := ⟨_, rfl⟩
        have hmf : more.flatten.length ≤ r.flatten.length := by rw [hmore]; have := flatten_take_le goesB r; omega
        have hmr : more.length ≤ r.length := by rw [hmore]; exact tw_le _ _
        have hdw : (x :: r).drop (1 + more.length) = r.dropWhile goesB := by
          rw [Nat.add_comm, List.drop_succ_cons, hmore]
          conv => lhs; rw [← List.takeWhile_append_dropWhile (p := goesB) (l := r)]
          rw [List.drop_append_of_le_length (by rw [List.takeWhile_append_dropWhile]; exact Nat.le_refl _)]
          simp
        obtain ⟨val, hval⟩ : ∃ val, val = trimL (f ++ more.flatten) := ⟨_, rfl⟩
        have hvl : val.length ≤ 1000000 := by rw [hval]; have := trimL_le (f ++ more.flatten); rw [List.length_append] at this; omega
        have hnext : valsF (pre ++ [⟨(n, val), hn1, hvl⟩]) ++ fl (L.drop (m + (1 + more.length))) = fl L := by
          have h1 := HP.out
          rw [fl_some r hb, ← hmore, ← hval] at h1
          rw [← List.drop_drop, ← HR.out, hdw, valsF_snoc, List.append_assoc]
          exact h1
        have HNX := Lib.hid hnext
        have HPF := Lib.hid (show valsF (pre ++ [⟨(n, val), hn1, hvl⟩]) <+: fl L from ⟨_, hnext⟩)
        have HRD := Lib.hid (show (x :: r).drop (1 + more.length) = L.drop (m + (1 + more.length)) by rw [HR.out, List.drop_drop])
        rw [hbv] at HBG
        have HMO := Lib.hid hmore
        have HVA := Lib.hid hval
        have hcm' : c ≤ 9223372036854775807 := hcm
        clear hb hbv hmore hval hnext hdw
        gi_wp2_with (refine ⟨trivial, ?_⟩; gi_at_call 56; refine (callsIn_wide.2 HBG.out).mono ?_; rintro e w3 ⟨rfl, hb3⟩)
        all_goals
          have hT3 : TX w3 g o (x :: r) := HTX.out.below hb3 HTX.out.lt
          have HT1 := Lib.hid (show TX w3 g (o + 1) r from hT3.drop 1)
          have HT0 := Lib.hid (show c = 1 → TX w3 g o r from fun e => by
            obtain rfl : r = [] := List.eq_nil_of_length_eq_zero (by omega)
            obtain ⟨cur, fr, hg, _⟩ := hT3
            exact ⟨cur, fr, hg, fun j hj => absurd hj (by simp)⟩)
          have HB3 := Lib.hid hb3
          have HGO := Lib.hid (fun o1 c1 (h : TX w3 g o1 r) (h1 : r.length ≤ c1) (h2 : c1 ≤ maxLen) => goingOn_any g o1 c1 r w3 (by omega) h1 h2 h (fun y hy => HRN.out y (List.mem_cons_of_mem _ hy)))
          clear hb3 hT3
          refine ⟨trivial, ?_⟩
          refine (callsIn_wide.2 (HGO.out _ _ (by first | exact HT1.out | exact HT0.out (by assumption)) (by omega) (by omega))).mono ?_
          rintro e w4 ⟨rfl, hb4⟩
          rw [← HMO.out]
          have hT1 : TX w4 g (o + 1) more := by
            have := HT1.out.below hb4 HT1.out.lt
            have h2 := this.take more.length
            rwa [show r.take more.length = more by rw [HMO.out]; exact (takeWhile_eq_take _ _).symm] at h2
          have hT0 : c = 1 → TX w4 g o more := fun e => by
            have := (HT0.out e).below hb4 (HT0.out e).lt
            have h2 := this.take more.length
            rwa [show r.take more.length = more by rw [HMO.out]; exact (takeWhile_eq_take _ _).symm] at h2
          have HTA := Lib.hid hT1
          have HTB := Lib.hid hT0
          have HB4 := Lib.hid (HB3.out.trans (hb4.mono HB3.out.size))
          clear hb4 hT1 hT0 HGO HT1 HT0
          have HJN := Lib.hid (fun o1 c1 (h : TX w4 g o1 more) (h1 : more.length ≤ c1) => join0_any g o1 c1 more w4 (by omega) h1 h (by omega))
          gi_wp2
          refine ⟨trivial, ?_⟩
          refine (callsIn_wide.2 (HJN.out _ _ (by first | exact HTA.out | exact HTB.out (by assumption)) (by omega))).mono ?_
          rintro e w5 ⟨rfl, hb5⟩
          have HB5 := Lib.hid (HB4.out.trans (hb5.mono HB4.out.size))
          clear hb5 HJN
          obtain ⟨mf, hme⟩ : ∃ mf, mf = more.flatten := ⟨_, rfl⟩
          have hml : mf.length ≤ 1000000 - f.length := by rw [hme]; omega
          have HTR := Lib.hid (trim_any (f ++ more.flatten) w5 (by rw [List.length_append]; omega))
          rw [← HVA.out] at HTR
          rw [← hme] at HTR ⊢
          clear hme
          have eadd : str f ++ str mf = str (f ++ mf) := by apply ByteArray.ext; simp
          have hadd : ¬ 9223372036854775807 < f.length + mf.length := by omega
          have EADD := Lib.hid eadd
          clear eadd
          gi_wp2
          refine ⟨trivial, ?_⟩
          rw [EADD.out]
          refine (callsIn_wide.2 HTR.out).mono ?_
          rintro e w6 ⟨rfl, hb6⟩
          have HB6 := Lib.hid (HB5.out.trans (hb6.mono HB5.out.size))
          clear hb6
          have HJ6 := Lib.hid (HJB.out _ _ _ HJ.out HB6.out)
          have HS6 := Lib.hid (HSL.out.kept hKp (HKB.out _ _ HZ.out HB6.out))
          have HM6 := Lib.hid (HM.out.step HB6.out)
          have HZ6 := Lib.hid (Nat.le_trans HZ.out HB6.out.size)
          gi_wp2
          obtain ⟨fn, tmps, assign, body, hy, hR⟩ := HYY.out pre ⟨(n, val), hn1, hvl⟩ w6 HJ6.out HPF.out
          dsimp only at hy
          rw [hy]
          gi_wp2
          refine hR.mono ?_
          rintro e W3 (⟨rfl, hJ3, hk3, hz3⟩ | ⟨rfl, hJ3⟩)
          · have HJ3 := Lib.hid hJ3
            have HM3 := Lib.hid (HM6.out.below (hKp.below hk3) hn0)
            have HS3 := Lib.hid (HS6.out.kept hKp hk3)
            have HZ3 := Lib.hid (Nat.le_trans HZ6.out hz3)
            clear hJ3 hk3 hz3 hR hy
            gi_wp2
            all_goals
              have hlt : lenV (.slice (some ⟨g, o, none⟩) (x :: r).length c) = r.length + 1 := rfl
              have t := sl_tail (k := 1 + more.length) HS3.out (by simp) (by rw [List.length_cons]; omega)
              rw [HRD.out] at t
              refine ⟨⟨m + (1 + more.length), pre ++ [⟨(n, val), hn1, hvl⟩], by omega, ?_, HNX.out, HJ3.out, HM3.out, HZ3.out⟩, by rw [hlt]; show r.length + 1 - (1 + more.length) < r.length + 1; omega⟩
              first
              | exact t
              | (rw [if_pos (show c = 1 + more.length by omega)] at t
                 rw [show c = 1 by assumption] at t
                 exact t)
          · have HJ3 := Lib.hid hJ3
            clear hJ3
            gi_wp2
            refine bodyPost_ret (results_none rfl _ _ _) rfl ?_
            exact ⟨⟨_, rfl⟩, .inr ⟨_, HPF.out, HJ3.out⟩⟩
end Go.Proofs.YtkffdhdhjfbhjaaDoor
