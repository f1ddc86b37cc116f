/-
  The reference's Get, Body, Show, Plain, Hops; the rows' comparison (mailroomref01.Same).
-/
import Derived.Test.YtkffdhdhjfbhjaaDoorHRRest
namespace Go.Proofs.YtkffdhdhjfbhjaaDoor
set_option linter.unusedSimpArgs false
set_option linter.unusedVariables false
open Go Go.RowKit Go.Shelf
set_option maxRecDepth 100000

def RowIs (w : World) (v : Value) (xs : List (List UInt8)) : Prop :=
  ∃ A c, v = .slice A xs.length c ∧ (0 < xs.length → ∃ g, A = some ⟨g, 0, none⟩ ∧ g < w.heap.size ∧ (∀ j, j < xs.length → w.cell? ⟨g, j, none⟩ = some (sv (xs.getD j []))) ∧ ∀ j, j < xs.length → w.frozen? ⟨g, j, none⟩ = false)
theorem Ows.row {W : World} {base : Nat} {v : Value} {xs : List (List UInt8)} (h : Ows W base v xs) : RowIs W v xs := by
  obtain ⟨A, c, rfl⟩ := h.form
  refine ⟨A, c, rfl, fun hp => ?_⟩
  obtain ⟨g, rfl, c0⟩ := h.cell0 0 hp
  refine ⟨g, rfl, block_lt_of_cell c0, fun j hj => ?_, fun j hj => ?_⟩
  · obtain ⟨g', e, c1⟩ := h.cell0 j hj
    obtain rfl : g = g' := by simpa using e
    rw [c1, List.getD_eq_getElem?_getD, List.getElem?_eq_getElem hj]; rfl
  · rcases h.2 with ⟨e, h0⟩ | ⟨g', cap, cur, e, hb, hg, _⟩
    · omega
    · obtain ⟨rfl, _⟩ : g = g' ∧ c = cap := by simpa using e
      exact freeAt hg j
theorem rows_next {xs ys : List (List UInt8)} {k : Nat} (ha : ∀ j, j < k → xs.getD j [] = ys.getD j []) (h : xs.getD k [] = ys.getD k []) : ∀ j, j < k + 1 → xs.getD j [] = ys.getD j [] := by
  intro j hj
  by_cases e : j = k
  · rw [e]; exact h
  · exact ha j (by omega)
theorem rows_eq {xs ys : List (List UInt8)} (hl : xs.length = ys.length) (ha : ∀ j, j < xs.length → xs.getD j [] = ys.getD j []) : xs = ys := by
  refine List.ext_getElem hl fun j h1 h2 => ?_
  have := ha j h1
  rwa [List.getD_eq_getElem?_getD, List.getD_eq_getElem?_getD, List.getElem?_eq_getElem h1, List.getElem?_eq_getElem h2] at this


set_option maxHeartbeats 4000000 in
theorem same01_any (xs ys : List (List UInt8)) (v u : Value) (w : World) (hx : RowIs w v xs) (hy : RowIs w u ys) (hxl : xs.length ≤ 1000000) (hyl : ys.length ≤ 1000000) :
    Calls Tryd.prog 21 #[v, u] w fun e w' => e = .returned (.bool (xs == ys)) ∧ Below w.heap.size w w' := by
  obtain ⟨A, c, rfl, hx⟩ := hx
  obtain ⟨B, d, rfl, hy⟩ := hy
  by_cases hl : xs.length = ys.length
  · have hne : ((xs.length : Int) != (ys.length : Int)) = false := by rw [hl]; simp
    have HX := Lib.hid hx
    have HY := Lib.hid hy
    have HLL := Lib.hid hl
    have HB := Lib.hid (Below.refl w.heap.size w)
    clear hx hy hl
    go_enter Tryd.func21, Tryd.ntmps21
    go_wp2_with fail
    go_loopw [5] (fun i wr => ∃ k : Nat, k ≤ xs.length ∧ i = .int .i64 k ∧ (∀ j, j < k → xs.getD j [] = ys.getD j []) ∧ Below w.heap.size w wr) (fun i _ => xs.length - (intOf i).toNat)
    case atStart => exact ⟨0, Nat.zero_le _, rfl, fun j hj => absurd hj (by omega), HB.out⟩
    case round =>
      obtain ⟨k, hk, rfl, ha, hbl⟩ := hrel
      have HA := Lib.hid ha
      have HL := Lib.hid hbl
      clear ha hbl
      by_cases hlt : k < xs.length
      · have hlt2 : k < ys.length := by have := HLL.out; omega
        obtain ⟨g, rfl, hg, hc, _⟩ := HX.out (by omega)
        obtain ⟨g2, rfl, hg2, hc2, _⟩ := HY.out (by omega)
        obtain ⟨x, hxe⟩ : ∃ x, x = xs.getD k [] := ⟨_, rfl⟩
        obtain ⟨y, hye⟩ : ∃ y, y = ys.getD k [] := ⟨_, rfl⟩
        have c1 : wr.cell? ⟨g, k, none⟩ = some (sv x) := by rw [hxe]; exact (HL.out.cell (p := ⟨g, k, none⟩) hg).trans (hc k hlt)
        have c2 : wr.cell? ⟨g2, k, none⟩ = some (sv y) := by rw [hye]; exact (HL.out.cell (p := ⟨g2, k, none⟩) hg2).trans (hc2 k hlt2)
        have HXE := Lib.hid hxe
        have HYE := Lib.hid hye
        clear hxe hye hc hc2
        by_cases hxy : x = y
        · have HN := Lib.hid (rows_next HA.out (by rw [← HXE.out, ← HYE.out, hxy]))
          subst hxy
          go_wp2_with fail
          go_quiet (fail)
          go_wp2_with fail
          go_roundw
          case rel => exact ⟨k + 1, by omega, by go_num, HN.out, below_drewN HL.out _⟩
          case measure => simp [intOf]; omega
        · have HF := Lib.hid (show (xs == ys) = false by
            rw [beq_eq_false_iff_ne]; intro e; exact hxy (by rw [HXE.out, HYE.out, e]))
          have e1 : (x == y) = false := by simpa using hxy
          have e2 : (x != y) = true := by simpa using hxy
          have HXY := Lib.hid hxy
          clear hxy
          go_wp2_with fail
          go_quiet (fail)
          go_wp2_with fail
          go_ret
          rw [HF.out]
          exact ⟨rfl, below_drewN HL.out _⟩
      · obtain rfl : k = xs.length := by omega
        have HE := Lib.hid (show (xs == ys) = true by rw [beq_iff_eq]; exact rows_eq HLL.out HA.out)
        go_wp2_with fail
        go_ret
        rw [HE.out]
        exact ⟨rfl, HL.out⟩
  · have hne : ((xs.length : Int) != (ys.length : Int)) = true := by rw [bne_iff_ne]; omega
    have HF := Lib.hid (show (xs == ys) = false by rw [beq_eq_false_iff_ne]; intro e; exact hl (by rw [e]))
    clear hx hy hl
    go_enter Tryd.func21, Tryd.ntmps21
    go_wp2_with fail
    go_ret
    rw [HF.out]
    exact ⟨rfl, Below.refl _ _⟩

/-! ### Get -/
theorem cF_take {out : List FP} {k : Nat} (nm : List UInt8) (h : k < out.length) : ((out.take (k + 1)).filter fun f => likeB f.1 nm).map (·.2) = ((out.take k).filter fun f => likeB f.1 nm).map (·.2) ++ (if likeB (out.getD k pm0).1 nm then [(out.getD k pm0).2] else []) := by
  have hg : out.getD k pm0 = out[k] := by rw [List.getD_eq_getElem?_getD, List.getElem?_eq_getElem h]; rfl
  rw [List.take_succ_eq_append_getElem h, List.filter_append, List.map_append, hg]
  congr 1
  by_cases hc : likeB out[k].1 nm = true
  · simp [List.filter, hc]
  · simp [List.filter, hc]

theorem name_len (s : List UInt8) : ∀ f ∈ fieldsL s, f.1.length ≤ s.length := by
  have key : ∀ (k : Nat) (ls : List (List UInt8)), ∀ f ∈ flN k ls, f.1.length ≤ ls.flatten.length := by
    intro k
    induction k with
    | zero => intro ls f hf; simp [flN] at hf
    | succ k ih =>
      intro ls f hf
      cases ls with
      | nil => simp [flN] at hf
      | cons l r =>
        simp only [flN] at hf
        cases hb : beginB l with
        | none => rw [hb] at hf; simp at hf
        | some p =>
          rw [hb] at hf
          have h2 := flatten_take_le goesB r
          simp only [List.flatten_cons, List.length_append]
          rcases List.mem_cons.1 hf with rfl | hf
          · have h3 : p.1.length ≤ l.length := by
              have h4 := (cut58_le l).1
              unfold beginB at hb
              dsimp only at hb
              split at hb
              · have : (Lib.cut l [58]).1 = p.1 := by cases hb; rfl
                rw [this] at h4; exact h4
              · cases hb
            dsimp only
            omega
          · have := ih _ f hf
            omega
  intro f hf
  have h1 := key _ _ f hf
  have h2 := head_len s
  omega

set_option maxHeartbeats 4000000 in
theorem rget_any (s nm : List UInt8) (w : World) (hs : s.length ≤ 50000) (hn : nm.length ≤ 1000000) :
    Calls Tryd.prog 22 #[sv s, sv nm] w fun e w' => ∃ v, e = .returned v ∧ Below w.heap.size w w' ∧ Ows w' w.heap.size v (getL s nm) := by
  have HF := Lib.hid (rfields_any s w hs)
  have hfl := fields_len s
  have hnl := name_len s
  have HG := Lib.hid (get_cF s nm)
  unfold cF at HG
  obtain ⟨ps, hps⟩ : ∃ ps, ps = fieldsL s := ⟨_, rfl⟩
  rw [← hps] at HF hfl hnl HG
  clear hps
  go_enter Tryd.func22, Tryd.ntmps22
  go_wp2_with (go_at_call 20; refine HF.out.mono ?_; rintro e w1 ⟨v, rfl, hb1, ho⟩; obtain ⟨A, c, rfl⟩ := ho.form)
  have HB1 := Lib.hid hb1
  have HO := Lib.hid ho.pr
  clear hb1 ho
  go_loopw [5, 7] (fun u i wr => ∃ k : Nat, k ≤ ps.length ∧ i = .int .i64 k ∧ Ows wr w1.heap.size u (((ps.take k).filter fun f => likeB f.1 nm).map (·.2)) ∧ Below w1.heap.size w1 wr) (fun _ i _ => ps.length - (intOf i).toNat)
  case atStart => exact ⟨0, Nat.zero_le _, rfl, World.ownsRow_nil _ _ _ _, Below.refl _ _⟩
  case round =>
    obtain ⟨k, hk, rfl, hpo, hbl⟩ := hrel
    obtain ⟨rs, hrs⟩ : ∃ rs, rs = ((ps.take k).filter fun f => likeB f.1 nm).map (·.2) := ⟨_, rfl⟩
    have hrl : rs.length ≤ ps.length := by
      rw [hrs, List.length_map]
      have h1 := List.length_filter_le (fun f : FP => likeB f.1 nm) (ps.take k)
      rw [List.length_take] at h1
      omega
    rw [← hrs] at hpo
    have HP := Lib.hid hpo
    have HL := Lib.hid hbl
    have HRS := Lib.hid hrs
    obtain ⟨B, d, rfl⟩ := HP.out.form
    clear hpo hbl hrs
    by_cases hlt : k < ps.length
    · obtain ⟨g, o, rfl, hg, a0, a1⟩ := PR.at (HO.out.step HL.out) hlt
      have htk := cF_take nm hlt
      obtain ⟨p, hp⟩ : ∃ p, p = ps.getD k pm0 := ⟨_, rfl⟩
      have hpn : p.1.length ≤ 1000000 := by
        have : p ∈ ps := by rw [hp, List.getD_eq_getElem?_getD, List.getElem?_eq_getElem hlt]; exact List.getElem_mem hlt
        have := hnl p this
        omega
      rw [← hp] at a0 a1 htk
      rw [← HRS.out] at htk
      have HTK := Lib.hid htk
      have HLK := Lib.hid (rlike_any p.1 nm wr hpn hn)
      have hk1 : (0 : Int) ≤ (k : Int) := by omega
      have hk2 : (k : Int) < (ps.length : Int) := by omega
      clear hp htk
      cases hc : likeB p.1 nm with
      | false =>
        rw [hc] at HLK HTK
        clear hc
        go_wp2_with fail
        refine HLK.out.mono ?_
        rintro e w2 ⟨rfl, hb2⟩
        have H2 := Lib.hid (HP.out.below hb2)
        have B2 := Lib.hid (HL.out.trans (hb2.mono HL.out.size))
        clear hb2
        go_wp2_with fail
        go_roundw
        case rel => exact ⟨k + 1, by omega, by go_num, by rw [HTK.out]; simpa using H2.out, B2.out⟩
        case measure => simp [intOf]; omega
      | true =>
        rw [hc] at HLK HTK
        clear hc
        have KK := Lib.hid (show ∀ W, Below wr.heap.size wr W → W.cell? ⟨g, o + k * 2 + 1, none⟩ = some (sv p.2) from fun W hW => (hW.cell (p := ⟨g, o + k * 2 + 1, none⟩) hg).trans a1)
        have AP := Lib.hid (show ∀ W, Below wr.heap.size wr W → ∃ g cap w2, (Builtin.append_ #[24, 24] 24 #[.slice B rs.length d, .slice (some ⟨W.heap.size, 0, none⟩) 1 1]).run Tryd.prog (W.alloc (.cells #[sv p.2] 9)) = .ok (.slice (some ⟨g, 0, none⟩) (rs.length + 1) cap) w2 ∧ Ows w2 w1.heap.size (.slice (some ⟨g, 0, none⟩) (rs.length + 1) cap) (rs ++ [p.2]) ∧ Below w1.heap.size w1 w2 from fun W hW => by
          have hb := HL.out.trans (hW.mono HL.out.size)
          have ho := HP.out.below hW
          obtain ⟨g, cap, w2, q1, q2, q3, q4, q5⟩ := append_two W w1.heap.size _ rs p.2 ho hb.size (by omega)
          exact ⟨g, cap, w2, q1, q2, hb.grown q3 hb.size fun j e => by
            rcases ho.2 with ⟨e2, _⟩ | ⟨g', cap', cur, e2, hb', _⟩
            · rw [e2] at e; simp [Value.ownBlock] at e
            · rw [e2] at e
              obtain rfl : g' = j := by simpa [Value.ownBlock] using e
              exact hb'⟩)
        go_wp2_with (first
          | (go_at_call 24; refine HLK.out.mono ?_; rintro e w2 ⟨rfl, hb2⟩; have z1 := KK.out _ hb2; obtain ⟨g4, cap4, w5, hr4, ho4, hb4⟩ := AP.out _ hb2; have HR := Lib.hid hr4; have HO4 := Lib.hid ho4; have HB4 := Lib.hid hb4; clear hb2 hr4 ho4 hb4)
          | (at_builtin; refine wpList_append_run rfl (.tmp 23) (.tmp 29) 24 rfl rfl rfl HR.out ?_))
        go_roundw
        case rel => exact ⟨k + 1, by omega, by go_num, by rw [HTK.out]; simpa using HO4.out, HB4.out⟩
        case measure => simp [intOf]; omega
    · obtain rfl : k = ps.length := by omega
      have HE := Lib.hid (show Ows wr w1.heap.size (.slice B rs.length d) (getL s nm) by
        have := HP.out
        have e2 := HRS.out
        rw [List.take_of_length_le (Nat.le_refl _)] at e2
        rw [HG.out, ← e2]; exact this)
      go_wp2_with fail
      go_ret
      exact ⟨_, rfl, HB1.out.trans (HL.out.mono HB1.out.size), HE.out.lower HB1.out.size⟩
end Go.Proofs.YtkffdhdhjfbhjaaDoor
