/-
  The contract of head.Body.
-/
import Derived.Test.YtkffdhdhjfbhjaaDoorHFields
namespace Go.Proofs.YtkffdhdhjfbhjaaDoor
set_option linter.unusedSimpArgs false
set_option linter.unusedVariables false
open Go Go.RowKit Go.Shelf
set_option maxRecDepth 100000

theorem SL.sr {Free : World → Nat → Prop} {W : World} {v : Value} {xs : List (List UInt8)} (h : SL Free W v xs) : SR W v xs := by
  rcases h with ⟨rfl, rfl⟩ | ⟨g, o, c, rfl, h1, h2, h3, _⟩
  · exact ⟨none, 0, rfl, .inl rfl⟩
  · exact ⟨_, _, rfl, .inr ⟨g, o, rfl, fun k hk => h3.cell k hk⟩⟩

theorem body_at {s : List UInt8} {k : Nat} (hk : k = ((cutL s).takeWhile neB).length) : (¬ k < (cutL s).length → bodyL s = []) ∧ (k < (cutL s).length → bodyL s = joinL ((cutL s).drop (k + 1)) ++ restL s) := by
  have e : (cutL s).dropWhile neB = (cutL s).drop k := by
    rw [hk]
    conv => rhs; rw [← List.takeWhile_append_dropWhile (p := neB) (l := cutL s)]
    rw [List.drop_append_of_le_length (by rw [List.takeWhile_append_dropWhile]; exact Nat.le_refl _)]
    simp
  constructor
  · intro h
    unfold bodyL
    rw [e, List.drop_of_length_le (by omega)]
  · intro h
    unfold bodyL
    rw [e, List.drop_eq_getElem_cons h]

theorem joinL_drop_le (xs : List (List UInt8)) (k : Nat) : (joinL (xs.drop k)).length ≤ (joinL xs).length := by
  have e : joinL xs = joinL (xs.take k) ++ joinL (xs.drop k) := by
    rw [← joinL_append, List.take_append_drop]
  rw [e, List.length_append]
  omega

set_option maxHeartbeats 2000000 in
theorem body_any (s : List UInt8) (w : World) (hs : s.length ≤ 1000000) (hM : ML w) :
    Calls Tryd.prog 11 #[sv s] w fun e w' => e = .returned (sv (bodyL s)) ∧ Below w.heap.size w w' := by
  have HC := Lib.hid (cut_sl s w (by omega) hM)
  obtain ⟨hj, hcl, _⟩ := cut_len s
  obtain ⟨kk, hkk⟩ : ∃ k, k = ((cutL s).takeWhile neB).length := ⟨_, rfl⟩
  have hbd := body_at hkk
  have hix : ixL (cutL s) = if kk < (cutL s).length then (kk : Int) else -1 := by unfold ixL; rw [hkk]
  obtain ⟨xs, hxs⟩ : ∃ xs, xs = cutL s := ⟨_, rfl⟩
  obtain ⟨rs, hrs⟩ : ∃ rs, rs = restL s := ⟨_, rfl⟩
  rw [← hxs, ← hrs] at hj HC
  rw [← hxs] at hcl hix hbd
  rw [← hrs] at hbd
  have HBD := Lib.hid hbd
  clear hM hkk hxs hrs hbd
  go_enter Tryd.func11, Tryd.ntmps11
  go_wp2_with (go_at_call 31; refine HC.out.mono ?_; rintro e w1 ⟨v, rfl, hb1, hsl⟩)
  have HB1 := Lib.hid hb1
  have HSL := Lib.hid hsl
  clear hb1 hsl
  have HI := Lib.hid (index_sl HSL.out (by omega))
  obtain ⟨A, c, rfl⟩ := HSL.out.form
  by_cases hlt : kk < xs.length
  · rw [if_pos hlt] at hix
    rw [hix] at HI
    obtain ⟨g, o, c', e, hc, hcm, htx, hfr⟩ : ∃ g o c', Value.slice A xs.length c = .slice (some ⟨g, o, none⟩) xs.length c' ∧ xs.length ≤ c' ∧ c' ≤ maxLen ∧ TX w1 g o xs ∧ FB w.heap.size w1 g := by
      rcases HSL.out with ⟨_, h⟩ | h
      · subst h; simp at hlt
      · exact h
    obtain ⟨rfl, rfl⟩ : A = some ⟨g, o, none⟩ ∧ c = c' := by simpa using e
    have hcm' : c ≤ 9223372036854775807 := hcm
    have hne : xs ≠ [] := by intro h; rw [h] at hlt; simp at hlt
    have t := sl_tail (k := kk + 1) HSL.out hne (by omega)
    have hjl := joinL_drop_le xs (kk + 1)
    have HBO := Lib.hid (HBD.out.2 hlt)
    obtain ⟨ds, hds⟩ : ∃ ds, ds = xs.drop (kk + 1) := ⟨_, rfl⟩
    have hdl : ds.length = xs.length - (kk + 1) := by rw [hds, List.length_drop]
    rw [← hds] at t hjl HBO
    obtain ⟨jl, hjle⟩ : ∃ jl, jl = joinL ds := ⟨_, rfl⟩
    have HJ := Lib.hid (join_any ds _ w1 t.sr (by omega) (by omega))
    rw [← hjle] at HJ hjl HBO
    have eadd : str jl ++ str rs = str (jl ++ rs) := by apply ByteArray.ext; simp
    have hadd : ¬ 9223372036854775807 < jl.length + rs.length := by omega
    have EADD := Lib.hid eadd
    clear e htx hix hds hdl hjle t eadd
    by_cases hck : c = kk + 1
    · subst hck
      rw [if_pos rfl, Nat.sub_self, show xs.length - (kk + 1) = 0 by omega] at HJ
      go_wp2_with (go_at_call 32; refine HI.out.mono ?_; rintro e w2 ⟨rfl, hw⟩; obtain rfl := hw.symm)
      refine HJ.out.mono ?_
      rintro e w2 ⟨rfl, hb2⟩
      have HB2 := Lib.hid (HB1.out.trans (hb2.mono HB1.out.size))
      clear hb2
      go_wp2_with fail
      go_ret
      rw [HBO.out, EADD.out]
      exact ⟨rfl, HB2.out⟩
    · rw [if_neg hck] at HJ
      go_wp2_with (go_at_call 32; refine HI.out.mono ?_; rintro e w2 ⟨rfl, hw⟩; obtain rfl := hw.symm)
      refine HJ.out.mono ?_
      rintro e w2 ⟨rfl, hb2⟩
      have HB2 := Lib.hid (HB1.out.trans (hb2.mono HB1.out.size))
      clear hb2
      go_wp2_with fail
      go_ret
      rw [HBO.out, EADD.out]
      exact ⟨rfl, HB2.out⟩
  · rw [if_neg hlt] at hix
    rw [hix] at HI
    have HBO := Lib.hid (HBD.out.1 hlt)
    clear hix hlt
    go_wp2_with (go_at_call 32; refine HI.out.mono ?_; rintro e w2 ⟨rfl, hw⟩; obtain rfl := hw.symm)
    go_ret
    rw [HBO.out]
    exact ⟨rfl, HB1.out⟩
end Go.Proofs.YtkffdhdhjfbhjaaDoor
