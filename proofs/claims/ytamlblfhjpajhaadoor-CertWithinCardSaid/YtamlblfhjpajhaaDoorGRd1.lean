/-
  The contracts of alone, cmp.Or, readNames.
-/
import Derived.Test.YtamlblfhjpajhaaDoorEAll
import Derived.Test.YtamlblfhjpajhaaDoorGLeaf
namespace Go.Proofs.YtamlblfhjpajhaaDoor
set_option linter.unusedSimpArgs false
set_option linter.unusedVariables false
open Go Go.RowKit
set_option maxRecDepth 100000

theorem stepApp {P : Program} {ops : Array Oper} {rest : List Oper} {o : Oper} {a : Act} {w w' : World} {Q : Exit → Act → World → Prop} {v v' xv : Value}
    (hg : o.guard = none) (s x : Operand) (t : TypeId) (hop : o.op = Op.call { callee := Callee.builtin Builtin.append, args := #[s, x], argTypes := #[t, t] }) (hs : a.eval s = v) (hx : a.eval x = xv)
    (hrun : (Builtin.append_ #[t, t] o.type #[v, xv]).run P w = .ok v' w') (hK : wpList P ops Q rest (a.put o.dst v') w') : wpList P ops Q (o :: rest) a w :=
  wpList_plain hg fun K hK' => by
    unfold Oper.wp execOp
    simp only [hop, resolve, invoke, builtin, Sem.run_bind, Sem.run_pure, Result.andThen_ok, List.map_toArray, List.map_cons, List.map_nil, hs, hx, hrun]
    exact hK' _ _ hK

/-! ### alone -/
set_option maxHeartbeats 4000000 in
theorem alone_yes {w : World} (s v : List UInt8) (z : Int) (t : UInt8) (hz : z = (t.toNat : Int)) (hs : s.length ≤ 281474976710656) (h : aloneO s t = some v) :
    Calls Tryd.prog 29 #[sv s, .int .u8 z] w fun e w' => e = .returned (.tuple #[sv v, .int .i64 0]) ∧ Below w.heap.size w w' := by
  have hc : cutP s = .ok ((t, v), []) := by
    unfold aloneO at h
    cases hc : cutP s with
    | er e => rw [hc] at h; simp at h
    | ok p =>
      obtain ⟨⟨u, x⟩, r⟩ := p
      rw [hc] at h
      simp only at h
      split at h
      · next hr =>
        obtain ⟨rfl, rfl⟩ := hr
        simp only [Option.some.injEq] at h
        rw [h]
      · simp at h
  have hg := fun W => @get_any W s hs
  rw [hc] at hg
  have HG := Lib.hid (fun W => show Calls Tryd.prog 45 #[sv s] W (fun e w' => e = .returned (.tuple #[.agg #[.int .u8 z, sv v], sv [], .int .i64 0]) ∧ Below W.heap.size W w') by rw [hz]; exact hg W)
  clear hg hc h hs hz
  go_enter Tryd.func29, Tryd.ntmps29
  go_wp2_with (go_at_call 45; refine (HG.out _).mono ?_; rintro e w1 ⟨rfl, hb1⟩)
  go_ret2
  exact ⟨rfl, hb1.trans ((below_alloc _ _).mono hb1.size)⟩
set_option maxHeartbeats 4000000 in
theorem alone_no {w : World} (s : List UInt8) (z : Int) (t : UInt8) (hz : z = (t.toNat : Int)) (hs : s.length ≤ 281474976710656) (h : aloneO s t = none) :
    Calls Tryd.prog 29 #[sv s, .int .u8 z] w fun e w' => e = .returned (.tuple #[sv [], .int .i64 4]) ∧ Below w.heap.size w w' := by
  have hg := fun W => @get_any W s hs
  cases hc : cutP s with
  | er x =>
    have hx := cutP_er hc
    have hx0 : ((x : Int) != 0) = true := by rw [bne_iff_ne]; omega
    rw [hc] at hg
    have HG := Lib.hid (fun W => show Calls Tryd.prog 45 #[sv s] W (fun e w' => e = .returned (.tuple #[.agg #[.int .u8 0, sv []], sv [], .int .i64 (x : Int)]) ∧ Below W.heap.size W w') from hg W)
    have hx1 : ¬ x = 0 := by omega
    clear hg hc h hs hz hx
    go_enter Tryd.func29, Tryd.ntmps29
    go_wp2_with (go_at_call 45; refine (HG.out _).mono ?_; rintro e w1 ⟨rfl, hb1⟩)
    go_ret2
    exact ⟨rfl, hb1.trans ((below_alloc _ _).mono hb1.size)⟩
  | ok p =>
    obtain ⟨⟨u, x⟩, r⟩ := p
    rw [hc] at hg
    have HG := Lib.hid (fun W => show Calls Tryd.prog 45 #[sv s] W (fun e w' => e = .returned (.tuple #[.agg #[.int .u8 (u.toNat : Int), sv x], sv r, .int .i64 0]) ∧ Below W.heap.size W w') from hg W)
    unfold aloneO at h
    rw [hc] at h
    simp only at h
    cases r with
    | cons b r =>
      have hne : (b :: r).isEmpty = false := rfl
      obtain ⟨q, hq⟩ : ∃ q, q = b :: r := ⟨_, rfl⟩
      rw [← hq] at HG hne
      have hq2 : ¬ q = [] := by rw [hq]; simp
      clear hg hc h hs hz hq
      go_enter Tryd.func29, Tryd.ntmps29
      go_wp2_with (go_at_call 45; refine (HG.out _).mono ?_; rintro e w1 ⟨rfl, hb1⟩)
      go_ret2
      exact ⟨rfl, hb1.trans ((below_alloc _ _).mono hb1.size)⟩
    | nil =>
      have hut : ¬ u = t := by
        intro e
        rw [if_pos ⟨rfl, e⟩] at h
        simp at h
      have hu : ¬ (u.toNat : Int) = z := by
        rw [hz]
        intro e
        exact hut (u8_eq (by omega))
      clear hg hc h hs hz hut
      go_enter Tryd.func29, Tryd.ntmps29
      go_wp2_with (go_at_call 45; refine (HG.out _).mono ?_; rintro e w1 ⟨rfl, hb1⟩)
      go_ret2
      exact ⟨rfl, hb1.trans ((below_alloc _ _).mono hb1.size)⟩

/-! ### cmp.Or -/
def orZ : List Int → Int
  | [] => 0
  | z :: l => if z = 0 then orZ l else z
theorem orZ_zero {l : List Int} (h : ∀ z ∈ l, z = 0) : orZ l = 0 := by
  induction l with
  | nil => rfl
  | cons z l ih => unfold orZ; rw [if_pos (h z (by simp)), ih fun y hy => h y (by simp [hy])]
theorem orZ_not {l : List Int} {k : Nat} (hk : k < l.length) (h : ∀ z ∈ l.take k, z = 0) (h2 : l.getD k 0 ≠ 0) : orZ l = l.getD k 0 := by
  induction l generalizing k with
  | nil => simp at hk
  | cons z l ih =>
    cases k with
    | zero => unfold orZ; rw [if_neg (by simpa using h2)]; rfl
    | succ k =>
      unfold orZ
      rw [if_pos (h z (by simp))]
      exact ih (by simpa using hk) (fun y hy => h y (by simp [hy])) (by simpa using h2)
set_option maxHeartbeats 4000000 in
theorem or_any {w : World} (zs : List Int) (g c : Nat) (hl : zs.length ≤ 1000) (hg : w.heap[g]? = some (.cells (zs.map fun z => Value.int .i64 z).toArray 27 (0, 0))) :
    Calls Tryd.prog 35 #[.slice (some ⟨g, 0, none⟩) zs.length c] w fun e w' => e = .returned (.int .i64 (orZ zs)) ∧ w = w' := by
  have HC := Lib.hid (show ∀ j, j < zs.length → w.cell? ⟨g, j, none⟩ = some (.int .i64 (zs.getD j 0)) by
    intro j hj
    rw [cellAt hg]
    simp [List.getD_eq_getElem?_getD, hj])
  clear hg
  go_enter Tryd.func35, Tryd.ntmps35
  go_wp2_with fail
  go_loop [8] (fun i => ∃ k : Nat, k ≤ zs.length ∧ i = .int .i64 k ∧ ∀ z ∈ zs.take k, z = 0) (fun i => zs.length - (intOf i).toNat)
  case atStart => exact ⟨0, Nat.zero_le _, rfl, fun z hz => (by simp at hz)⟩
  case round =>
    obtain ⟨k, hk, rfl, hall⟩ := hrel
    by_cases hlt : k < zs.length
    · have c0 := HC.out k hlt
      have hlt' : (k : Int) < (zs.length : Int) := by omega
      have HT := Lib.hid (show zs.take (k + 1) = zs.take k ++ [zs.getD k 0] by
        rw [List.take_succ_eq_append_getElem hlt, List.getD_eq_getElem?_getD, List.getElem?_eq_getElem hlt]; rfl)
      have HN := Lib.hid (fun h2 => orZ_not hlt hall h2)
      have HA := Lib.hid hall
      obtain ⟨x, hx⟩ : ∃ x, x = zs.getD k 0 := ⟨_, rfl⟩
      rw [← hx] at c0 HT HN
      clear hx hall
      by_cases h0 : x = 0
      · subst h0
        clear HN
        go_wp2_with fail
        go_round
        case rel =>
          refine ⟨k + 1, by omega, by go_num, fun z hz => ?_⟩
          rw [HT.out] at hz
          rcases List.mem_append.1 hz with hz | hz
          · exact HA.out z hz
          · exact List.mem_singleton.1 hz
        case measure => simp [intOf]; omega
      · have hx0 : (x != 0) = true := by rw [bne_iff_ne]; exact h0
        go_wp2_with fail
        go_ret
        rw [HN.out h0]
        exact ⟨rfl, rfl⟩
    · obtain rfl : k = zs.length := by omega
      rw [List.take_length] at hall
      have HZ := Lib.hid (orZ_zero hall)
      clear hall
      go_wp2_with fail
      go_ret
      rw [HZ.out]
      exact ⟨rfl, rfl⟩

/-! ### readNames -/
theorem vals_take {l : List Tv} {k : Nat} (hk : k < l.length) : (l.take (k + 1)).map (·.2) = (l.take k).map (·.2) ++ [(l.getD k pm0).2] := by
  rw [List.take_succ_eq_append_getElem hk, List.getD_eq_getElem?_getD, List.getElem?_eq_getElem hk, List.map_append]; rfl
theorem names_yes {s : List UInt8} {l : List Tv} (h : allR s = .ok l) (h2 : ∀ x ∈ l, x.1 = 130) : namesO s = some (l.map (·.2)) := by
  unfold namesO
  rw [h]
  simp only
  rw [if_pos (List.all_eq_true.2 fun x hx => by simpa using h2 x hx)]
theorem names_not {s : List UInt8} {l : List Tv} (h : allR s = .ok l) {x : Tv} (hx : x ∈ l) (h2 : ¬ x.1 = 130) : namesO s = none := by
  unfold namesO
  rw [h]
  simp only
  rw [if_neg (fun e => h2 (by simpa using List.all_eq_true.1 e x hx))]
/-- What readNames tells. -/
def NamesPost (w : World) (r : Option (List (List UInt8))) (e : Ending) (w' : World) : Prop := Below w.heap.size w w' ∧ match r with
  | some ns => ∃ v, e = .returned (.tuple #[v, .int .i64 0]) ∧ TW w.heap.size w' v ns
  | none => ∃ n : Int, n ≠ 0 ∧ e = .returned (.tuple #[.slice none 0 0, .int .i64 n])
set_option maxHeartbeats 8000000 in
theorem readNames_any {w : World} (s : List UInt8) (hs : s.length ≤ 1000000) : Calls Tryd.prog 32 #[sv s] w (NamesPost w (namesO s)) := by
  have ha := all_any s w (by omega)
  cases hr : allR s with
  | er n =>
    have hn0 : n ≠ 0 := by
      intro e
      subst e
      unfold allR at hr
      have : ∀ (q : List (Tv × Nat)) (acc : List Tv), allOf q acc = .er 0 → False := by
        intro q
        induction q with
        | nil => intro acc h; simp [allOf] at h
        | cons x q ih =>
          intro acc h
          obtain ⟨x, e⟩ := x
          simp only [allOf] at h
          split at h
          · next he => simp at h; exact he h
          · split at h
            · simp at h
            · exact ih _ h
      exact this _ _ hr
    rw [hr] at ha
    have HN := Lib.hid (show namesO s = none by unfold namesO; rw [hr])
    have hn1 : ((n : Int) != 0) = true := by rw [bne_iff_ne]; omega
    have HN0 := Lib.hid (show (n : Int) ≠ 0 by omega)
    have HA := Lib.hid (show Calls Tryd.prog 30 #[sv s] w (fun e w' => e = .returned (.tuple #[.slice none 0 0, .int .i64 (n : Int)]) ∧ Below w.heap.size w w') from ha)
    clear ha hr
    go_enter Tryd.func32, Tryd.ntmps32
    go_wp2_with (go_at_call 30; refine HA.out.mono ?_; rintro e w1 ⟨rfl, hb1⟩)
    go_ret2
    rw [HN.out]
    exact ⟨hb1, _, HN0.out, rfl⟩
  | ok l =>
    rw [hr] at ha
    have HA := Lib.hid (show Calls Tryd.prog 30 #[sv s] w (fun e w' => ∃ v, e = .returned (.tuple #[v, .int .i64 0]) ∧ TO 58 w.heap.size w' v l ∧ Below w.heap.size w w') from ha)
    have HR := Lib.hid hr
    have hl64 := (allR_ok hr).2
    clear ha hr
    go_enter Tryd.func32, Tryd.ntmps32
    go_wp2_with (go_at_call 30; refine HA.out.mono ?_; rintro e w1 ⟨v, rfl, hto, hb1⟩; obtain ⟨A0, cp0, rfl⟩ := hto.form; have HTO := Lib.hid hto.pr; have HB1 := Lib.hid hb1; clear hto hb1)
    go_loopw [6, 19] (fun v i wr => ∃ k : Nat, k ≤ l.length ∧ i = .int .i64 k ∧ (∀ x ∈ l.take k, x.1 = 130) ∧ TW w1.heap.size wr v ((l.take k).map (·.2)) ∧ Below w1.heap.size w1 wr) (fun _ i _ => l.length - (intOf i).toNat)
    case atStart => exact ⟨0, Nat.zero_le _, rfl, fun x hx => (by simp at hx), TW.nil _ _, Below.refl _ _⟩
    case round =>
      obtain ⟨k, hk, rfl, hall, htw, hb⟩ := hrel
      by_cases hlt : k < l.length
      · obtain ⟨g, off, rfl, hgl, c0, c1⟩ := (HTO.out.step hb).at hlt
        have hkl : ((l.take k).map (·.2)).length = k := by rw [List.length_map, List.length_take]; omega
        have hmem : l.getD k pm0 ∈ l := by rw [List.getD_eq_getElem?_getD, List.getElem?_eq_getElem hlt]; exact List.getElem_mem hlt
        have HV := Lib.hid (vals_take hlt)
        have HTK := Lib.hid (show l.take (k + 1) = l.take k ++ [l.getD k pm0] by rw [List.take_succ_eq_append_getElem hlt, List.getD_eq_getElem?_getD, List.getElem?_eq_getElem hlt]; rfl)
        obtain ⟨x, hx⟩ : ∃ x, x = l.getD k pm0 := ⟨_, rfl⟩
        rw [← hx] at c0 c1 hmem HV HTK
        obtain ⟨A1, cp1, rfl⟩ := htw.form
        have hlt' : (k : Int) < (l.length : Int) := by omega
        have HALL := Lib.hid hall
        obtain ⟨t, v⟩ := x
        simp only at c0 c1 HV HTK
        by_cases ht : t = 130
        · obtain ⟨g2, cap2, w2, hrun, htw2, hbb⟩ := tw_app (W := wr.alloc (.cells #[.int .u8 130, sv v] 58)) (htw.below (below_alloc _ _)) (hb.trans ((below_alloc _ _).mono hb.size)) (by omega) v
          rw [hkl] at hrun htw2 ⊢
          rw [World.size_alloc] at hrun
          subst ht
          have c0' : wr.cell? ⟨g, off + k * 2, none⟩ = some (.int .u8 130) := c0
          have HRUN := Lib.hid hrun
          have HTW := Lib.hid (show TW w1.heap.size w2 _ ((l.take (k + 1)).map (·.2)) by rw [HV.out]; exact htw2)
          have HBB := Lib.hid hbb
          clear hrun htw2 hbb htw hb hall hx hmem c0
          go_wp2_with (at_builtin; refine stepApp rfl _ _ 22 rfl rfl rfl HRUN.out ?_)
          go_roundw
          case rel =>
            refine ⟨k + 1, by omega, by go_num, fun y hy => ?_, HTW.out, HBB.out⟩
            rw [HTK.out] at hy
            rcases List.mem_append.1 hy with hy | hy
            · exact HALL.out y hy
            · rw [List.mem_singleton.1 hy]
          case measure => simp [intOf]; omega
        · have HN := Lib.hid (names_not HR.out hmem ht)
          have ht2 : ¬ (t.toNat : Int) = 130 := fun e => ht (u8_eq (by show t.toNat = 130; omega))
          have HB := Lib.hid (HB1.out.trans (hb.mono HB1.out.size))
          clear hall htw hx hmem ht hb
          go_wp2_with fail
          go_ret2
          rw [HN.out]
          exact ⟨HB.out.trans ((below_alloc _ _).mono HB.out.size), 4, by decide, rfl⟩
      · obtain rfl : k = l.length := by omega
        rw [List.take_length] at htw hall
        have HN := Lib.hid (names_yes HR.out hall)
        have HT := Lib.hid (htw.lower HB1.out.size)
        have HB := Lib.hid (HB1.out.trans (hb.mono HB1.out.size))
        obtain ⟨A1, cp1, rfl⟩ := htw.form
        clear htw hb hall
        go_wp2_with fail
        go_ret2
        rw [HN.out]
        exact ⟨HB.out, _, rfl, HT.out⟩
end Go.Proofs.YtamlblfhjpajhaaDoor
