/-
  The contracts of alone, cmp.Or, readNames.
  The contract of tagsOf; two arrays of tags, held against each other.
-/
import Derived.Test.YtnaoandleelbkaaGreatDoorEIm
import Derived.Test.YtnaoandleelbkaaGreatDoorGLm
import Derived.ChangeKeysEq
namespace Go.Proofs.YtnaoandleelbkaaGreatDoor
set_option linter.unusedSimpArgs false
set_option linter.unusedVariables false
open Go Go.RowKit
set_option maxRecDepth 100000

theorem stepApp {P : Program} {ops : Array Oper} {rest : List Oper} {o : Oper} {a : Act} {w w' : World} {Q : Exit → Act → World → Prop} {v v' xv : Value}
    (hg : o.guard = none) (s x : Operand) (t : TypeId) (hop : o.op = Op.call { callee := Callee.builtin Builtin.append, args := #[s, x], argTypes := #[t, t] }) (hs : a.eval s = v) (hx : a.eval x = xv)
    (hrun : (Builtin.append_ #[t, t] o.type #[v, xv]).run P w = .ok v' w') (hK : wpList P ops Q rest (a.put o.dst v') w') : wpList P ops Q (o :: rest) a w :=
  wpList_plain hg fun K hK' => by
    unfold Oper.wp execOp
    simp only [hop, resolve, invoke, builtin, Sem.run_bind, Sem.run_pure, Result.andThen_ok, List.map_toArray, List.map_cons, List.map_nil, hs, hx, hrun]
    exact hK' _ _ hK

/-! ### alone -/
set_option maxHeartbeats 4000000 in
theorem alone_yes {w : World} (s v : List UInt8) (z : Int) (t : UInt8) (hz : z = (t.toNat : Int)) (hs : s.length ≤ 281474976710656) (h : aloneO s t = some v) :
    Calls Tryz.prog 124 #[sv s, .int .u8 z] w fun e w' => e = .returned (.tuple #[sv v, .int .i64 0]) ∧ Below w.heap.size w w' := by
  have hc : cutP s = .ok ((t, v), []) := by
    unfold aloneO at h
    cases hc : cutP s with
    | er e => rw [hc] at h; simp at h
    | ok p =>
      obtain ⟨⟨u, x⟩, r⟩ := p
      rw [hc] at h
      simp only at h
      split at h
      · next hr =>
        obtain ⟨rfl, rfl⟩ := hr
        simp only [Option.some.injEq] at h
        rw [h]
      · simp at h
  have hg := fun W => @get_any W s hs
  rw [hc] at hg
  have HG := Lib.hid (fun W => show Calls Tryz.prog 172 #[sv s] W (fun e w' => e = .returned (.tuple #[.agg #[.int .u8 z, sv v], sv [], .int .i64 0]) ∧ Below W.heap.size W w') by rw [hz]; exact hg W)
  clear hg hc h hs hz
  go_enter Tryz.func124, Tryz.ntmps124
  go_wp2_with (go_at_call 172; refine (HG.out _).mono ?_; rintro e w1 ⟨rfl, hb1⟩)
  go_ret2
  exact ⟨rfl, hb1.trans ((below_alloc _ _).mono hb1.size)⟩
set_option maxHeartbeats 4000000 in
theorem alone_no {w : World} (s : List UInt8) (z : Int) (t : UInt8) (hz : z = (t.toNat : Int)) (hs : s.length ≤ 281474976710656) (h : aloneO s t = none) :
    Calls Tryz.prog 124 #[sv s, .int .u8 z] w fun e w' => e = .returned (.tuple #[sv [], .int .i64 4]) ∧ Below w.heap.size w w' := by
  have hg := fun W => @get_any W s hs
  cases hc : cutP s with
  | er x =>
    have hx := cutP_er hc
    have hx0 : ((x : Int) != 0) = true := by rw [bne_iff_ne]; omega
    rw [hc] at hg
    have HG := Lib.hid (fun W => show Calls Tryz.prog 172 #[sv s] W (fun e w' => e = .returned (.tuple #[.agg #[.int .u8 0, sv []], sv [], .int .i64 (x : Int)]) ∧ Below W.heap.size W w') from hg W)
    have hx1 : ¬ x = 0 := by omega
    clear hg hc h hs hz hx
    go_enter Tryz.func124, Tryz.ntmps124
    go_wp2_with (go_at_call 172; refine (HG.out _).mono ?_; rintro e w1 ⟨rfl, hb1⟩)
    go_ret2
    exact ⟨rfl, hb1.trans ((below_alloc _ _).mono hb1.size)⟩
  | ok p =>
    obtain ⟨⟨u, x⟩, r⟩ := p
    rw [hc] at hg
    have HG := Lib.hid (fun W => show Calls Tryz.prog 172 #[sv s] W (fun e w' => e = .returned (.tuple #[.agg #[.int .u8 (u.toNat : Int), sv x], sv r, .int .i64 0]) ∧ Below W.heap.size W w') from hg W)
    unfold aloneO at h
    rw [hc] at h
    simp only at h
    cases r with
    | cons b r =>
      have hne : (b :: r).isEmpty = false := rfl
      obtain ⟨q, hq⟩ : ∃ q, q = b :: r := ⟨_, rfl⟩
      rw [← hq] at HG hne
      have hq2 : ¬ q = [] := by rw [hq]; simp
      clear hg hc h hs hz hq
      go_enter Tryz.func124, Tryz.ntmps124
      go_wp2_with (go_at_call 172; refine (HG.out _).mono ?_; rintro e w1 ⟨rfl, hb1⟩)
      go_ret2
      exact ⟨rfl, hb1.trans ((below_alloc _ _).mono hb1.size)⟩
    | nil =>
      have hut : ¬ u = t := by
        intro e
        rw [if_pos ⟨rfl, e⟩] at h
        simp at h
      have hu : ¬ (u.toNat : Int) = z := by
        rw [hz]
        intro e
        exact hut (u8_eq (by omega))
      clear hg hc h hs hz hut
      go_enter Tryz.func124, Tryz.ntmps124
      go_wp2_with (go_at_call 172; refine (HG.out _).mono ?_; rintro e w1 ⟨rfl, hb1⟩)
      go_ret2
      exact ⟨rfl, hb1.trans ((below_alloc _ _).mono hb1.size)⟩

/-! ### cmp.Or -/
def orZ : List Int → Int
  | [] => 0
  | z :: l => if z = 0 then orZ l else z
theorem orZ_zero {l : List Int} (h : ∀ z ∈ l, z = 0) : orZ l = 0 := by
  induction l with
  | nil => rfl
  | cons z l ih => unfold orZ; rw [if_pos (h z (by simp)), ih fun y hy => h y (by simp [hy])]
theorem orZ_not {l : List Int} {k : Nat} (hk : k < l.length) (h : ∀ z ∈ l.take k, z = 0) (h2 : l.getD k 0 ≠ 0) : orZ l = l.getD k 0 := by
  induction l generalizing k with
  | nil => simp at hk
  | cons z l ih =>
    cases k with
    | zero => unfold orZ; rw [if_neg (by simpa using h2)]; rfl
    | succ k =>
      unfold orZ
      rw [if_pos (h z (by simp))]
      exact ih (by simpa using hk) (fun y hy => h y (by simp [hy])) (by simpa using h2)
set_option maxHeartbeats 4000000 in
theorem or_any {w : World} (zs : List Int) (g c : Nat) (hl : zs.length ≤ 1000) (hg : w.heap[g]? = some (.cells (zs.map fun z => Value.int .i64 z).toArray 30 (0, 0))) :
    Calls Tryz.prog 108 #[.slice (some ⟨g, 0, none⟩) zs.length c] w fun e w' => e = .returned (.int .i64 (orZ zs)) ∧ w = w' := by
  have HC := Lib.hid (show ∀ j, j < zs.length → w.cell? ⟨g, j, none⟩ = some (.int .i64 (zs.getD j 0)) by
    intro j hj
    rw [cellAt hg]
    simp [List.getD_eq_getElem?_getD, hj])
  clear hg
  go_enter Tryz.func108, Tryz.ntmps108
  go_wp2_with fail
  go_loop [8] (fun i => ∃ k : Nat, k ≤ zs.length ∧ i = .int .i64 k ∧ ∀ z ∈ zs.take k, z = 0) (fun i => zs.length - (intOf i).toNat)
  case atStart => exact ⟨0, Nat.zero_le _, rfl, fun z hz => (by simp at hz)⟩
  case round =>
    obtain ⟨k, hk, rfl, hall⟩ := hrel
    by_cases hlt : k < zs.length
    · have c0 := HC.out k hlt
      have hlt' : (k : Int) < (zs.length : Int) := by omega
      have HT := Lib.hid (show zs.take (k + 1) = zs.take k ++ [zs.getD k 0] by
        rw [List.take_succ_eq_append_getElem hlt, List.getD_eq_getElem?_getD, List.getElem?_eq_getElem hlt]; rfl)
      have HN := Lib.hid (fun h2 => orZ_not hlt hall h2)
      have HA := Lib.hid hall
      obtain ⟨x, hx⟩ : ∃ x, x = zs.getD k 0 := ⟨_, rfl⟩
      rw [← hx] at c0 HT HN
      clear hx hall
      by_cases h0 : x = 0
      · subst h0
        clear HN
        go_wp2_with fail
        go_round
        case rel =>
          refine ⟨k + 1, by omega, by go_num, fun z hz => ?_⟩
          rw [HT.out] at hz
          rcases List.mem_append.1 hz with hz | hz
          · exact HA.out z hz
          · exact List.mem_singleton.1 hz
        case measure => simp [intOf]; omega
      · have hx0 : (x != 0) = true := by rw [bne_iff_ne]; exact h0
        go_wp2_with fail
        go_ret
        rw [HN.out h0]
        exact ⟨rfl, rfl⟩
    · obtain rfl : k = zs.length := by omega
      rw [List.take_length] at hall
      have HZ := Lib.hid (orZ_zero hall)
      clear hall
      go_wp2_with fail
      go_ret
      rw [HZ.out]
      exact ⟨rfl, rfl⟩

/-! ### readNames -/
theorem vals_take {l : List Tv} {k : Nat} (hk : k < l.length) : (l.take (k + 1)).map (·.2) = (l.take k).map (·.2) ++ [(l.getD k pm0).2] := by
  rw [List.take_succ_eq_append_getElem hk, List.getD_eq_getElem?_getD, List.getElem?_eq_getElem hk, List.map_append]; rfl
theorem names_yes {s : List UInt8} {l : List Tv} (h : allR s = .ok l) (h2 : ∀ x ∈ l, x.1 = 130) : namesO s = some (l.map (·.2)) := by
  unfold namesO
  rw [h]
  simp only
  rw [if_pos (List.all_eq_true.2 fun x hx => by simpa using h2 x hx)]
theorem names_not {s : List UInt8} {l : List Tv} (h : allR s = .ok l) {x : Tv} (hx : x ∈ l) (h2 : ¬ x.1 = 130) : namesO s = none := by
  unfold namesO
  rw [h]
  simp only
  rw [if_neg (fun e => h2 (by simpa using List.all_eq_true.1 e x hx))]
/-- What readNames tells. -/
def NamesPost (w : World) (r : Option (List (List UInt8))) (e : Ending) (w' : World) : Prop := Below w.heap.size w w' ∧ match r with
  | some ns => ∃ v, e = .returned (.tuple #[v, .int .i64 0]) ∧ TW w.heap.size w' v ns
  | none => ∃ n : Int, n ≠ 0 ∧ e = .returned (.tuple #[.slice none 0 0, .int .i64 n])
set_option maxHeartbeats 8000000 in
theorem readNames_any {w : World} (s : List UInt8) (hs : s.length ≤ 1000000) : Calls Tryz.prog 127 #[sv s] w (NamesPost w (namesO s)) := by
  have ha := all_any s w (by omega)
  cases hr : allR s with
  | er n =>
    have hn0 : n ≠ 0 := by
      intro e
      subst e
      unfold allR at hr
      have : ∀ (q : List (Tv × Nat)) (acc : List Tv), allOf q acc = .er 0 → False := by
        intro q
        induction q with
        | nil => intro acc h; simp [allOf] at h
        | cons x q ih =>
          intro acc h
          obtain ⟨x, e⟩ := x
          simp only [allOf] at h
          split at h
          · next he => simp at h; exact he h
          · split at h
            · simp at h
            · exact ih _ h
      exact this _ _ hr
    rw [hr] at ha
    have HN := Lib.hid (show namesO s = none by unfold namesO; rw [hr])
    have hn1 : ((n : Int) != 0) = true := by rw [bne_iff_ne]; omega
    have HN0 := Lib.hid (show (n : Int) ≠ 0 by omega)
    have HA := Lib.hid (show Calls Tryz.prog 125 #[sv s] w (fun e w' => e = .returned (.tuple #[.slice none 0 0, .int .i64 (n : Int)]) ∧ Below w.heap.size w w') from ha)
    clear ha hr
    go_enter Tryz.func127, Tryz.ntmps127
    go_wp2_with (go_at_call 125; refine HA.out.mono ?_; rintro e w1 ⟨rfl, hb1⟩)
    go_ret2
    rw [HN.out]
    exact ⟨hb1, _, HN0.out, rfl⟩
  | ok l =>
    rw [hr] at ha
    have HA := Lib.hid (show Calls Tryz.prog 125 #[sv s] w (fun e w' => ∃ v, e = .returned (.tuple #[v, .int .i64 0]) ∧ TO 143 w.heap.size w' v l ∧ Below w.heap.size w w') from ha)
    have HR := Lib.hid hr
    have hl64 := (allR_ok hr).2
    clear ha hr
    go_enter Tryz.func127, Tryz.ntmps127
    go_wp2_with (go_at_call 125; refine HA.out.mono ?_; rintro e w1 ⟨v, rfl, hto, hb1⟩; obtain ⟨A0, cp0, rfl⟩ := hto.form; have HTO := Lib.hid hto.pr; have HB1 := Lib.hid hb1; clear hto hb1)
    go_loopw [6, 19] (fun v i wr => ∃ k : Nat, k ≤ l.length ∧ i = .int .i64 k ∧ (∀ x ∈ l.take k, x.1 = 130) ∧ TW w1.heap.size wr v ((l.take k).map (·.2)) ∧ Below w1.heap.size w1 wr) (fun _ i _ => l.length - (intOf i).toNat)
    case atStart => exact ⟨0, Nat.zero_le _, rfl, fun x hx => (by simp at hx), TW.nil _ _, Below.refl _ _⟩
    case round =>
      obtain ⟨k, hk, rfl, hall, htw, hb⟩ := hrel
      by_cases hlt : k < l.length
      · obtain ⟨g, off, rfl, hgl, c0, c1⟩ := (HTO.out.step hb).at hlt
        have hkl : ((l.take k).map (·.2)).length = k := by rw [List.length_map, List.length_take]; omega
        have hmem : l.getD k pm0 ∈ l := by rw [List.getD_eq_getElem?_getD, List.getElem?_eq_getElem hlt]; exact List.getElem_mem hlt
        have HV := Lib.hid (vals_take hlt)
        have HTK := Lib.hid (show l.take (k + 1) = l.take k ++ [l.getD k pm0] by rw [List.take_succ_eq_append_getElem hlt, List.getD_eq_getElem?_getD, List.getElem?_eq_getElem hlt]; rfl)
        obtain ⟨x, hx⟩ : ∃ x, x = l.getD k pm0 := ⟨_, rfl⟩
        rw [← hx] at c0 c1 hmem HV HTK
        obtain ⟨A1, cp1, rfl⟩ := htw.form
        have hlt' : (k : Int) < (l.length : Int) := by omega
        have HALL := Lib.hid hall
        obtain ⟨t, v⟩ := x
        simp only at c0 c1 HV HTK
        by_cases ht : t = 130
        · obtain ⟨g2, cap2, w2, hrun, htw2, hbb⟩ := tw_app (W := wr.alloc (.cells #[.int .u8 130, sv v] 143)) (htw.below (below_alloc _ _)) (hb.trans ((below_alloc _ _).mono hb.size)) (by omega) v
          rw [hkl] at hrun htw2 ⊢
          rw [World.size_alloc] at hrun
          subst ht
          have c0' : wr.cell? ⟨g, off + k * 2, none⟩ = some (.int .u8 130) := c0
          have HRUN := Lib.hid hrun
          have HTW := Lib.hid (show TW w1.heap.size w2 _ ((l.take (k + 1)).map (·.2)) by rw [HV.out]; exact htw2)
          have HBB := Lib.hid hbb
          clear hrun htw2 hbb htw hb hall hx hmem c0
          go_wp2_with (at_builtin; refine stepApp rfl _ _ 25 rfl rfl rfl HRUN.out ?_)
          go_roundw
          case rel =>
            refine ⟨k + 1, by omega, by go_num, fun y hy => ?_, HTW.out, HBB.out⟩
            rw [HTK.out] at hy
            rcases List.mem_append.1 hy with hy | hy
            · exact HALL.out y hy
            · rw [List.mem_singleton.1 hy]
          case measure => simp [intOf]; omega
        · have HN := Lib.hid (names_not HR.out hmem ht)
          have ht2 : ¬ (t.toNat : Int) = 130 := fun e => ht (u8_eq (by show t.toNat = 130; omega))
          have HB := Lib.hid (HB1.out.trans (hb.mono HB1.out.size))
          clear hall htw hx hmem ht hb
          go_wp2_with fail
          go_ret2
          rw [HN.out]
          exact ⟨HB.out.trans ((below_alloc _ _).mono HB.out.size), 4, by decide, rfl⟩
      · obtain rfl : k = l.length := by omega
        rw [List.take_length] at htw hall
        have HN := Lib.hid (names_yes HR.out hall)
        have HT := Lib.hid (htw.lower HB1.out.size)
        have HB := Lib.hid (HB1.out.trans (hb.mono HB1.out.size))
        obtain ⟨A1, cp1, rfl⟩ := htw.form
        clear htw hb hall
        go_wp2_with fail
        go_ret2
        rw [HN.out]
        exact ⟨HB.out, _, rfl, HT.out⟩
end Go.Proofs.YtnaoandleelbkaaGreatDoor

namespace Go.Proofs.YtnaoandleelbkaaGreatDoor
set_option linter.unusedSimpArgs false
set_option linter.unusedVariables false
open Go Go.RowKit
set_option maxRecDepth 100000

theorem keyU8 : Tryz.prog.plainKey 5 = true := by kernel_rfl
theorem cellsU8 : Tryz.prog.cellsOf 5 = 1 := by kernel_rfl
abbrev arrV (l : List UInt8) : Value := .agg (cellsOf l).toArray
theorem eq_byte (d : Nat) (a b : UInt8) (w : World) : (Op.equalIn (d + 1) 5 (bv a) (bv b)).run Tryz.prog w = .ok (a == b) w := by
  simp only [Op.equalIn, Sem.run_bind, run_underlying Tryz.underlying5, Result.andThen_ok, bv]
  simp
  rw [Bool.eq_iff_iff, beq_iff_eq, beq_iff_eq, ← UInt8.toNat_inj]
  omega
theorem eqItems_byte (d : Nat) (A B : List UInt8) (w : World) : ∀ is : List Nat, (∀ i ∈ is, i < A.length ∧ i < B.length) →
    (Op.eqItems (d + 1) 5 1 (cellsOf A).toArray (cellsOf B).toArray is).run Tryz.prog w = .ok (is.all fun i => A.getD i 0 == B.getD i 0) w
  | [], _ => by simp [Op.eqItems]
  | i :: is, h => by
    obtain ⟨h1, h2⟩ := h i (by simp)
    have e1 : (part 5 (cellsOf A).toArray (i * 1)).run Tryz.prog w = .ok (bv (A.getD i 0)) w := run_part_plain w keyU8 (by simp [cellsOf, List.getD_eq_getElem?_getD, h1])
    have e2 : (part 5 (cellsOf B).toArray (i * 1)).run Tryz.prog w = .ok (bv (B.getD i 0)) w := run_part_plain w keyU8 (by simp [cellsOf, List.getD_eq_getElem?_getD, h2])
    have ih := eqItems_byte d A B w is (fun j hj => h j (by simp [hj]))
    simp only [Op.eqItems, Sem.run_bind, e1, e2, eq_byte, Result.andThen_ok]
    cases hc : A.getD i 0 == B.getD i 0 with
    | true => simp only [Bool.not_true, Bool.false_eq_true, if_false, ih, List.all_cons, hc, Bool.true_and]
    | false => simp only [Bool.not_false, if_true, Sem.run_pure, List.all_cons, hc, Bool.false_and]
theorem eq_tags {A B : List UInt8} (hA : A.length = 6) (hB : B.length = 6) (w : World) : (Op.equal 146 (arrV A) (arrV B)).run Tryz.prog w = .ok (A == B) w := by
  obtain ⟨i, hi⟩ := info_of_underlying (P := Tryz.prog) Tryz.underlying5
  have h := run_equalIn_array (P := Tryz.prog) w 9999 (cellsOf A).toArray (cellsOf B).toArray Tryz.underlying146 hi
  rw [cellsU8] at h
  have h2 := eqItems_byte 9998 A B w (List.range 6) (fun i hi => by simp at hi; omega)
  have h3 : (List.range 6).all (fun i => A.getD i 0 == B.getD i 0) = (A == B) := by
    rw [Bool.eq_iff_iff, List.all_eq_true, beq_iff_eq]
    constructor
    · intro h
      refine List.ext_getElem (by omega) fun j h1 h2 => ?_
      have := h j (by simp; omega)
      rw [beq_iff_eq, getD_str _ _ h1, getD_str _ _ h2] at this
      exact this
    · rintro rfl; simp
  rw [h3] at h2
  exact h.trans h2
theorem neq_tags {A B : List UInt8} (hA : A.length = 6) (hB : B.length = 6) (w : World) : (Go.binOp .neq 146 (arrV A) (arrV B)).run Tryz.prog w = .ok (.bool (A != B)) w := by
  have h := eq_tags hA hB w
  simp only [Go.binOp, Sem.run_bind, h, Result.andThen_ok, Sem.run_pure]
  rfl

/-- The first k tags, and 0s. -/
def mixT (l : List Tv) (k : Nat) : List UInt8 := (l.take k).map (·.1) ++ List.replicate (6 - k) 0
theorem mixT_length (l : List Tv) (k : Nat) (hl : l.length = 6) (hk : k ≤ 6) : (mixT l k).length = 6 := by simp [mixT, hl]; omega
theorem mixT_set (l : List Tv) (k : Nat) (hl : l.length = 6) (hk : k < 6) : (mixT l k).set k (l.getD k pm0).1 = mixT l (k + 1) := by
  have h1 : ((l.take k).map (·.1)).length = k := by simp [hl]; omega
  unfold mixT
  rw [List.set_append_right _ _ (by omega), h1, Nat.sub_self, show 6 - k = (6 - (k + 1)) + 1 by omega, List.replicate_succ, List.set_cons_zero, List.take_succ_eq_append_getElem (by omega), List.map_append, List.append_assoc, List.getD_eq_getElem?_getD, List.getElem?_eq_getElem (by omega)]
  rfl
theorem mixT_all (l : List Tv) (hl : l.length = 6) : mixT l 6 = l.map (·.1) := by
  unfold mixT
  rw [List.take_of_length_le (by omega)]; simp
/-- What tagsOf tells. -/
def tagsOfL (l : List Tv) : List UInt8 := if l.length = 6 then l.map (·.1) else List.replicate 6 0
theorem tagsOf_length (l : List Tv) : (tagsOfL l).length = 6 := by
  unfold tagsOfL
  split
  · next h => simpa using h
  · simp
theorem tagsOf_iff (l : List Tv) : (tagsOfL l != tagsC) = !decide (l.map (·.1) = tagsC) := by
  unfold tagsOfL
  split
  · rw [Bool.eq_iff_iff]; simp
  · next h =>
    have h2 : ¬ l.map (·.1) = tagsC := fun e => h (by have := congrArg List.length e; simpa [tagsC] using this)
    simp only [h2, decide_false, Bool.not_false]
    decide
theorem cells_all1 (l : List UInt8) : (cellsOf l).toArray.all (·.oneCell') = true := by simp [cellsOf, bv, Value.oneCell']
theorem cells_size (l : List UInt8) : (cellsOf l).toArray.size = l.length := by simp [cellsOf]
theorem below_setRowT {n g : Nat} {w w' : World} (h : Below n w w') (hg : n ≤ g) (A : Array Value) : Below n w (w'.setRow g A) := by
  refine ⟨h.os, h.tape, h.output, by simpa using h.size, fun k hk => ?_⟩
  rw [← h.block k hk]
  simp only [World.setRow, Array.getElem?_modify]
  rw [if_neg (by omega)]
theorem zeros6 : ∀ (T : TypeId), (.cells #[.int .u8 0, .int .u8 0, .int .u8 0, .int .u8 0, .int .u8 0, .int .u8 0] T : Obj) = .cells (cellsOf (List.replicate 6 0)).toArray T := fun T => rfl
set_option maxHeartbeats 8000000 in
theorem tagsOf_any {w : World} (l : List Tv) (A : Option Addr) (c : Nat) (hR : TR w (.slice A l.length c) l) (hl : l.length ≤ 1000000) :
    Calls Tryz.prog 126 #[.slice A l.length c] w fun e w' => e = .returned (arrV (tagsOfL l)) ∧ Below w.heap.size w w' := by
  have HR := Lib.hid hR
  clear hR
  obtain ⟨wa, hwa⟩ : ∃ wa, wa = (w.alloc (.cells #[.int .u8 0, .int .u8 0, .int .u8 0, .int .u8 0, .int .u8 0, .int .u8 0] 146)).alloc (.cells #[.int .u8 0, .int .u8 0, .int .u8 0, .int .u8 0, .int .u8 0, .int .u8 0] 146) := ⟨_, rfl⟩
  have HBA := Lib.hid (show Below w.heap.size w wa by rw [hwa]; exact (below_alloc _ _).trans ((below_alloc _ _).mono (by simp)))
  have HA0 := Lib.hid (show AB wa w.heap.size 146 (List.replicate 6 0) by rw [hwa]; exact heap_alloc2_old w _ _)
  have HA1 := Lib.hid (show AB wa (w.heap.size + 1) 146 (List.replicate 6 0) by rw [hwa]; exact heap_alloc2_new w _ _)
  have HWA := Lib.hid hwa
  clear hwa
  have fin : ∀ (W : World) (T : List UInt8), T.length = 6 → AB W (w.heap.size + 1) 146 T → AB W w.heap.size 146 (List.replicate 6 0) → Below w.heap.size w W → T = tagsOfL l →
      ∀ (t0 : Value) (tm : Array Value), tm.getD 2 undef = .pointer (some ⟨w.heap.size, 0, none⟩) → bodyPost Tryz.prog Tryz.f126 (fun e w' => e = .returned (arrV (tagsOfL l)) ∧ Below w.heap.size w w') .ret { tmps := tm, defers := [] } (W.setRow w.heap.size (cellsOf T).toArray) := by
    intro W T hT h1 h0 hb he t0 tm htm
    refine bodyPost_ret (results_cell_row (p := 2) (by kernel_rfl) _ _ w.heap.size 146 (cellsOf T).toArray (0, 0) _ htm (setRow_heap W w.heap.size _ _ 146 (0, 0) h0) Tryz.underlying146 rfl (by rw [cells_size, hT]; kernel_rfl)) rfl ⟨by rw [← he], below_setRowT hb (Nat.le_refl _) _⟩
  have FIN := Lib.hid fin
  clear fin
  by_cases h6 : l.length = 6
  · have HL6 := Lib.hid h6
    have HIN := Lib.hid (show l.length = 6 → tagsOfL l = l.map (·.1) from fun h => by unfold tagsOfL; rw [if_pos h])
    rw [h6]
    have HR6 := Lib.hid (show TR w (.slice A 6 c) l by rw [← h6]; exact HR.out)
    clear h6 HR hl
    go_enter Tryz.func126, Tryz.ntmps126
    go_wp2_with fail
    rw [← HWA.out]
    go_loopw [12] (fun i wr => ∃ k : Nat, k ≤ 6 ∧ i = .int .i64 k ∧ AB wr (w.heap.size + 1) 146 (mixT l k) ∧ AB wr w.heap.size 146 (List.replicate 6 0) ∧ Below w.heap.size w wr) (fun i _ => 6 - (intOf i).toNat)
    case atStart => exact ⟨0, Nat.zero_le _, rfl, HA1.out, HA0.out, HBA.out⟩
    case round =>
      obtain ⟨k, hk, rfl, h1, h0, hb⟩ := hrel
      by_cases hlt : k < 6
      · obtain ⟨g, off, rfl, hgl, c0, c1⟩ := (HR6.out.step hb).at (show k < l.length by rw [HL6.out]; exact hlt)
        have HS := Lib.hid (mixT_set l k HL6.out hlt)
        have hml := mixT_length l k HL6.out (by omega)
        obtain ⟨x, hx⟩ : ∃ x, x = l.getD k pm0 := ⟨_, rfl⟩
        rw [← hx] at c0 c1 HS
        obtain ⟨t, v⟩ := x
        simp only at c0 c1 HS
        have hlt' : (k : Int) < 6 := by omega
        -- the box of the thing, and the array's cell behind it
        have hbx := below_alloc wr (.cells #[.int .u8 (t.toNat : Int), sv v] 143)
        have g1 : AB (wr.alloc (.cells #[.int .u8 (t.toNat : Int), sv v] 143)) (w.heap.size + 1) 146 (mixT l k) := h1.below hbx h1.lt
        have d0 := g1.cell (j := k) (by omega)
        have f0 := g1.free k
        have HG1 := Lib.hid (g1.set k t)
        have HG0 := Lib.hid (show AB ((wr.alloc (.cells #[.int .u8 (t.toNat : Int), sv v] 143)).setCell ⟨w.heap.size + 1, k, none⟩ (bv t)) w.heap.size 146 (List.replicate 6 0) from
          (heap_setCell_other _ ⟨w.heap.size + 1, k, none⟩ w.heap.size _ (by simp)).trans (h0.below hbx h0.lt))
        have HB := Lib.hid (show Below w.heap.size w ((wr.alloc (.cells #[.int .u8 (t.toNat : Int), sv v] 143)).setCell ⟨w.heap.size + 1, k, none⟩ (bv t)) from
          (hb.trans (hbx.mono hb.size)).setCell (p := ⟨w.heap.size + 1, k, none⟩) (by simp) _)
        clear hbx g1 h1 h0 hb hx hml
        go_wp2_with fail
        go_roundw
        case rel => exact ⟨k + 1, by omega, by go_num, by rw [← HS.out]; exact HG1.out, HG0.out, HB.out⟩
        case measure => simp [intOf]; omega
      · obtain rfl : k = 6 := by omega
        have hml := mixT_length l 6 HL6.out (Nat.le_refl _)
        rw [mixT_all l HL6.out] at h1 hml
        have HT := Lib.hid (HIN.out HL6.out).symm
        obtain ⟨T, hT⟩ : ∃ T, T = l.map (·.1) := ⟨_, rfl⟩
        rw [← hT] at h1 hml HT
        have H1 := Lib.hid h1
        have H0 := Lib.hid h0
        have HB := Lib.hid hb
        have HML := Lib.hid hml
        have HI := Lib.hid (show (Tryz.prog.info? 146).map (·.size) = some (cellsOf T).toArray.size by rw [cells_size, hml]; kernel_rfl)
        have HSZ := Lib.hid (show (cellsOf (List.replicate 6 0)).toArray.size = (cellsOf T).toArray.size by rw [cells_size, cells_size, hml]; rfl)
        rw [show ((6 : Nat) : Int) = 6 from rfl]
        clear h1 h0 hb hml hT
        go_wp2_with (first | (refine wpList_load_row rfl 146 (.tmp 3) rfl (w.heap.size + 1) rfl 146 (cellsOf T).toArray (0, 0) _ H1.out Tryz.underlying146 rfl HI.out ?_; refine wpList_store_row rfl 146 (.tmp 2) (.tmp 22) rfl w.heap.size (cellsOf T).toArray rfl rfl 146 _ H0.out HI.out HSZ.out (cells_all1 T) ?_))
        exact FIN.out _ T HML.out H1.out H0.out HB.out HT.out undef _ rfl
  · have HT := Lib.hid (show List.replicate 6 0 = tagsOfL l by unfold tagsOfL; rw [if_neg h6])
    have h6' : ¬ (l.length : Int) = 6 := by omega
    clear h6 HR
    go_enter Tryz.func126, Tryz.ntmps126
    go_wp2_with fail
    rw [← HWA.out]
    exact bodyPost_ret (results_cell_row (p := 2) (by kernel_rfl) _ _ w.heap.size 146 (cellsOf (List.replicate 6 0)).toArray (0, 0) _ rfl HA0.out Tryz.underlying146 rfl (by rw [cells_size]; kernel_rfl)) rfl ⟨by rw [← HT.out], HBA.out⟩
end Go.Proofs.YtnaoandleelbkaaGreatDoor
