/-
  LogPower.
-/
import Derived.Test.YthfnncahmccgkaaGreatDoorLPowB
import Derived.Test.YthfnncahmccgkaaGreatDoorLThereC
namespace Go.Proofs.YthfnncahmccgkaaGreatDoor
open Go Go.RowKit Go.Maps
set_option maxRecDepth 100000
set_option linter.unusedSimpArgs false
set_option linter.unusedVariables false

theorem Obs.less {w0 w : World} {os : List Ob} {o : Ob} (h : Obs w0 w (os ++ [o])) : Obs w0 w os :=
  h.sub (fun j => j) (fun _ _ _ _ h => h) (fun j u hj => by rw [List.getElem?_append_left (List.getElem?_eq_some_iff.1 hj).1]; exact hj)
theorem wp_builtin2_runL {P : Program} {o : Oper} {a : Act} {w : World} {K : Act → World → Prop} {Q : Exit → Act → World → Prop} (b : Builtin) (f : Array TypeId → TypeId → Array Value → Sem Value) (d s : Operand) (t t' : TypeId)
    (ho : o.op = .call { callee := .builtin b, args := #[d, s], argTypes := #[t, t'] }) (hb : ∀ ty args cs, builtin b #[t, t'] ty cs args = (do pure (.value (← f #[t, t'] ty args)))) (v u : Value) (hd : a.eval d = v) (hs : a.eval s = u) {v' : Value} {w' : World}
    (hr : (f #[t, t'] o.type #[v, u]).run P w = .ok v' w') (h : K (a.put o.dst v') w') : o.wp P a w K Q := by
  unfold Oper.wp execOp
  simp only [ho, resolve, invoke, hb, Sem.run_bind, Sem.run_pure, Result.andThen_ok, List.map_toArray, List.map_cons, List.map_nil, hd, hs, hr]
  exact h
theorem pu_tx {W : World} {A : Option Addr} {n c : Nat} {xs : List (List UInt8)} (h : (puOb (.slice A n c) xs).P W) : Tx W A xs := by
  obtain ⟨A', c', e, hT⟩ := pu_form h
  cases e
  exact hT
theorem pu_lit {w0 W : World} {os : List Ob} (h : Obs w0 W os) : Obs w0 (W.alloc (.cells #[] 9)) (os ++ [puOb (.slice (some ⟨W.heap.size, 0, none⟩) 0 0) []]) :=
  h.add _ ⟨by simp [txs], .inr ⟨W.heap.size, 0, #[], rfl, Nat.zero_le _, heap_alloc_new W _, Nat.le_refl _, by decide, rfl, by simp [txs]⟩⟩ (puOb_stays _ _) (below_alloc W _) (fun b hb => by
    simp only [puOb, Value.ownBlock] at hb
    simp at hb
    subst hb
    exact ⟨Nat.le_refl _, by simp⟩)
theorem tx_lit {w0 W : World} {os : List Ob} (h : Obs w0 W os) (x : List UInt8) : Obs w0 (W.alloc (.cells #[sv x] 9)) (os ++ [txOb (some ⟨W.heap.size, 0, none⟩) [x]]) :=
  h.add _ (TB.tx (xs := [x]) (heap_alloc_new W _)) (txOb_stays _ _) (below_alloc W _) (fun b hb => by
    simp [txOb] at hb
    subst hb
    exact ⟨Nat.le_refl _, by simp⟩)
/-- 'append(put, ys...)', whoever owns ys. -/
theorem pu_apps {w0 W : World} {os : List Ob} (h : Obs w0 W os) (i : Nat) {v : Value} {xs ys : List (List UInt8)} (hi : os[i]? = some (puOb v xs)) {A : Option Addr} (hy : Tx W A ys) (c : Nat) (hp : 0 < ys.length) (hl : xs.length + ys.length ≤ 1000000) :
    ∃ v' W', (Builtin.append_ #[26, 26] 26 #[v, .slice A ys.length c]).run Tryz.prog W = .ok v' W' ∧ Obs w0 W' (os.set i (puOb v' (xs ++ ys))) := by
  have hown : W.ownsRow 0 9 1 v xs.length (txs xs) := h.get hi
  obtain ⟨j, hj, hz0, hz1, hz2⟩ := info_parts info9t
  rcases hy with rfl | ⟨b, o, rfl, hlt, hc⟩
  · simp at hp
  obtain ⟨g', cap', W', h1, h2, h3, h4, h5⟩ := run_append_lies (P := Tryz.prog) W 26 26 0 9 j _ 1 16 Tryz.underlying26 hj hz0 hz1 hz2 rfl (by decide) v xs.length (txs xs) hown ⟨b, o, none⟩ ys.length c (txs ys) (by simp [txs_length]) (fun j u hu => by
      have hj : j < ys.length := by have := (List.getElem?_eq_some_iff.1 hu).1; simpa [txs_length] using this
      rw [Go.WideShapes.add_plain, hc j hj, ← hu, txs, List.getElem?_map, List.getElem?_eq_getElem hj]
      rfl) (by
      intro u hu
      obtain ⟨y, _, rfl⟩ := List.mem_map.1 hu
      rfl) hp (by unfold maxLen; omega) (by omega) (Nat.zero_le _) _ rfl
  refine ⟨_, W', h1, h.turn i hi (puOb _ _) ?_ (puOb_stays _ _) (Kp.grown (Kp.refl _ _) h3 (fun k e hk => ?_)) (fun b hb => ?_)⟩
  · show W'.ownsRow 0 _ 1 _ (xs ++ ys).length (txs (xs ++ ys))
    rw [List.length_append, show txs (xs ++ ys) = txs xs ++ txs ys from List.map_append]
    exact h2
  · simp only [puOb]
    rw [e]; simp
  · simp only [puOb, Value.ownBlock] at hb
    simp at hb
    subst hb
    refine ⟨?_, h5⟩
    rcases h4 with h4 | h4
    · left
      simp only [puOb]
      rw [h4]; simp
    · right
      rw [h4]
      exact Nat.le_refl _
/-- A law's numbers lie below what the disk has. -/
theorem ir_apart {w W : World} {os : List Ob} {A : Option Addr} {K : List Int} (h : IR w A K) (hO : Obs w W os) {i : Nat} {o : Ob} (hi : os[i]? = some o) : ∀ a, A = some a → K ≠ [] → a.block ∉ o.fp := by
  intro a ha hne hm
  have hK : 0 < K.length := List.length_pos_iff.2 hne
  obtain ⟨b, o', e, hb, _⟩ := h 0 hK
  rw [ha] at e
  cases e
  have := ((hO.this i o hi).2.1 _ hm).1
  exact absurd hb (Nat.not_lt.2 this)
set_option maxHeartbeats 32000000 in
theorem logPower_walk {w : World} {n half after : Int} (hn : -9223372036854775808 ≤ n ∧ n ≤ 9223372036854775807) {A : Option Addr} {c : Nat} {l : List S2} (hl : S2At w A l) (hll : l.length ≤ 9223372036854775807)
    (hh : -9223372036854775808 ≤ half ∧ half ≤ 9223372036854775807) {B : Option Addr} {d : Nat} {xs : List (List UInt8)} (hx : Tx w B xs) (hxl : xs.length ≤ 140737488351232) (hxx : ∀ x ∈ xs, x.length ≤ 9223372036854775807) (hxd : xs.length ≤ d)
    (ha : -9223372036854775808 ≤ after ∧ after ≤ 9223372036854775807) {E : Option Addr} {f : Nat} {K : List Int} (hK : IR w E K) (hKl : K.length ≤ 9223372036854775807) :
    Calls Tryz.prog 6 #[.int .i64 n, .slice A l.length c, .int .i64 half, .slice B xs.length d, .int .i64 after, .slice E K.length f] w fun e w' => e = .returned (.bool true) ∧ Below w.heap.size w w' := by
  have LO := Lib.hid (fun W (hb : Below w.heap.size w W) => long12_any (hl.below hb) hll (c := c))
  have HL := Lib.hid hl
  have HX := Lib.hid hx
  have HIK := Lib.hid hK
  have MA := Lib.hid (fun W (hb : Below w.heap.size w W) (h1 : xs.length ≤ 1000) => many12_any (hx.below hb) h1 hxx (c := d))
  have W3 : Hid (∀ W, Below w.heap.size w W → Calls Tryz.prog 10 #[] W fun e w' => e = .returned (.bool true) ∧ Below w.heap.size w w') := Lib.hid (fun W hW => works12_any.mono fun e w' h => ⟨h.1, hW.trans (h.2.mono hW.size)⟩)
  clear hl hx hxx hK
  generalize hkn : K.length = kn at hKl ⊢
  have HKN := Lib.hid hkn
  clear hkn
  go_enter Tryz.func6, Tryz.ntmps6
  go_wp2_with fail
  refine works12_any.mono ?_
  rintro e w1 ⟨rfl, hb1⟩
  have HB1 := Lib.hid hb1
  clear hb1
  go_wp2_with fail
  refine (LO.out _ HB1.out).mono ?_
  rintro e w2 ⟨b1, rfl, hs1, hb2⟩
  have HB2 := Lib.hid (HB1.out.trans (hb2.mono HB1.out.size))
  clear hb2
  cases b1 with
  | true =>
    clear hs1
    go_wp2_with fail
    refine (W3.out _ HB2.out).mono ?_
    rintro e w3 ⟨rfl, hb3⟩
    go_wp2_with fail
    go_ret
    exact ⟨rfl, hb3⟩
  | false =>
    have HSH := Lib.hid (hs1 rfl)
    clear hs1
    by_cases hn1 : n < 2
    · go_wp2_with fail
      refine (W3.out _ HB2.out).mono ?_
      rintro e w3 ⟨rfl, hb3⟩
      go_wp2_with fail
      go_ret
      exact ⟨rfl, hb3⟩
    by_cases hn2 : 40 < n
    · go_wp2_with fail
      refine (W3.out _ HB2.out).mono ?_
      rintro e w3 ⟨rfl, hb3⟩
      go_wp2_with fail
      go_ret
      exact ⟨rfl, hb3⟩
    by_cases hx30 : 30 < xs.length
    · have hx30' : (30 : Int) < (xs.length : Int) := by omega
      go_wp2_with fail
      refine (W3.out _ HB2.out).mono ?_
      rintro e w3 ⟨rfl, hb3⟩
      go_wp2_with fail
      go_ret
      exact ⟨rfl, hb3⟩
    have hx30' : ¬ (30 : Int) < (xs.length : Int) := by omega
    go_wp2_with fail
    refine (MA.out _ HB2.out (by omega)).mono ?_
    rintro e w4 ⟨b2, rfl, hs2, hb4⟩
    have HB4 := Lib.hid (HB2.out.trans (hb4.mono HB2.out.size))
    clear hb4
    cases b2 with
    | true =>
      clear hs2
      go_wp2_with fail
      refine (W3.out _ HB4.out).mono ?_
      rintro e w3 ⟨rfl, hb3⟩
      go_wp2_with fail
      go_ret
      exact ⟨rfl, hb3⟩
    | false =>
      have HFW := Lib.hid (hs2 rfl)
      clear hs2 MA LO
      by_cases hx0 : xs.length = 0
      · go_wp2_with fail
        refine (W3.out _ HB4.out).mono ?_
        rintro e w3 ⟨rfl, hb3⟩
        go_wp2_with fail
        go_ret
        exact ⟨rfl, hb3⟩
      have hx0i : ((xs.length : Int) == 0) = false := by rw [beq_eq_false_iff_ne]; omega
      by_cases hkb : 1000 < kn
      · have hkbi : (1000 : Int) < (kn : Int) := by omega
        go_wp2_with fail
        refine (W3.out _ HB4.out).mono ?_
        rintro e w3 ⟨rfl, hb3⟩
        go_wp2_with fail
        go_ret
        exact ⟨rfl, hb3⟩
      have hkbi : ¬ (1000 : Int) < (kn : Int) := by omega
      have hk1000 : kn ≤ 1000 := by omega
      clear W3 hkb
      obtain ⟨N, rfl⟩ : ∃ N : Nat, n = N := ⟨n.toNat, by omega⟩
      have hN1 : 2 ≤ N := by omega
      have hN40 : N ≤ 40 := by omega
      have NW := Lib.hid (show Calls Tryz.prog 14 #[.int .i64 (N : Int)] w4 (fun e w' => ∃ p bl bd, e = .returned (.tuple #[dp p, .int .i64 0]) ∧ Obs w w' [pdOb p bl bd (DS.new N)]) from new_o ((Obs.start w).step HB4.out) (n := N) (by omega) (by omega))
      have hNl : (DS.new N).was.length = N := by simp [DS.new]
      have RW := Lib.hid (fun W p bl bd (hO : Obs w W [pdOb p bl bd (DS.new N)]) => raw_any hO (c := c) HL.out HSH.out (n := N) ⟨rfl, Int.le_refl _, hNl⟩ (by omega) (by show 0 ≤ 1000; decide))
      obtain ⟨u, k, hu, hu0, hu1, hmod, hk2, hkh⟩ := half_mod half hh
      have hkh2 := hkh.symm
      clear hkh
      have hwk : IntKind.i64.wrap (k : Int) = (k : Int) := IntWalk.i64_in _ (by omega)
      obtain ⟨u3, hu3⟩ : ∃ u3, u3 = IntKind.u64.wrap after := ⟨_, rfl⟩
      have hu3b : 0 ≤ u3 ∧ u3 < 18446744073709551616 := by rw [hu3, IntKind.wrap_u64]; omega
      have HU3 := Lib.hid hu3b
      have HU3E := Lib.hid hu3.symm
      have TP := Lib.hid (fun W p bl bd S (os : List Ob) (hO : Obs w W (pdOb p bl bd S :: os)) (hon : S.off = false) => show Calls Tryz.prog 15 #[dp p] W (fun e w' => ∃ t0 : Nat, e = .returned (.int .i64 (t0 : Int)) ∧ Obs w w' (pdOb p bl bd S :: os) ∧ t0 = topL S.now ∧ t0 < 4294967296) from (top12_any (hO.get (i := 0) rfl)).mono fun e w' h => ⟨topL S.now, by rw [h.1, topZ, hon, if_neg (by simp)], hO.step h.2, rfl, by rw [topL_eq]; exact topM_lt _⟩)
      clear hu3 hu3b hNl hxl hh ha hn hn1 hn2 hx30
      have hx30 : xs.length ≤ 30 := by omega
      go_wp2_with (first
        | (go_at_call 14; with_reducible refine NW.out.mono ?_; rintro e w4 ⟨p, bl, bd, rfl, hO4⟩)
        | (go_at_call 28; with_reducible refine (RW.out _ p bl bd hO4).mono ?_; rintro e w5 ⟨rfl, S0, hO5, hon0, hops0⟩))
      refine (sync_o hO5 0 rfl (by omega)).mono ?_
      rintro e w5 ⟨rfl, hO5s⟩
      obtain ⟨hon, hops1, _, hdry, _⟩ := hon0.sync (PD.ok (hO5.get (i := 0) rfl))
      obtain ⟨S, hS⟩ : ∃ S, S = S0.sync := ⟨_, rfl⟩
      replace hO5 : Obs w w5 [pdOb p bl bd S] := by rw [hS]; exact hO5s
      have hops : S.ops ≤ 200001 := by rw [hS]; omega
      rw [← hS] at hon hdry
      have HON := Lib.hid hon
      have HDRY := Lib.hid hdry
      have HOPS := Lib.hid hops
      generalize S0.offE = oe
      clear hO5s hS hops1 hdry hops0 hon0 hops
      go_wp2_with fail
      refine (TP.out _ _ _ _ _ _ hO5 hon.on).mono ?_
      rintro e w6 ⟨t0, rfl, hO6, ht0, ht1⟩
      have HO6 := Lib.hid hO6
      have HT0 := Lib.hid ht0
      obtain ⟨AG, hAG⟩ : ∃ AG : Nat, AG = t0 + 1 := ⟨_, rfl⟩
      have hwt : IntKind.i64.wrap ((t0 : Int) + 1) = (AG : Int) := by rw [IntWalk.i64_in _ (by omega)]; omega
      have HAG := Lib.hid hAG
      have hAGp : 1 ≤ AG := by omega
      clear hO4 hO5 hO6 hon ht0 RW NW hAG hu1
      by_cases hA : 4294967296 ≤ AG
      · have hAi : (4294967296 : Int) ≤ (AG : Int) := by omega
        go_wp2_with fail
        go_ret
        exact ⟨rfl, HO6.out.bel⟩
      have hAi : ¬ (4294967296 : Int) ≤ (AG : Int) := by omega
      have hAj : decide ((4294967296 : Int) ≤ (AG : Int)) = false := decide_eq_false hAi
      have HA := Lib.hid hA
      clear hA hAi ht1
      obtain ⟨k', hk'⟩ : ∃ k' : Nat, k' = 1 - k := ⟨_, rfl⟩
      have hk'2 : k' < 2 := by omega
      have hw1k : IntKind.i64.wrap (1 - (k : Int)) = (k' : Int) := by rw [IntWalk.i64_in _ (by omega)]; omega
      have HK' := Lib.hid hk'
      have SE := Lib.hid (fun W p bl bd S (os : List Ob) (hO : Obs w W (pdOb p bl bd S :: os)) (ho : S.off = false) => show Calls Tryz.prog 29 #[dp p, .int .i64 (k' : Int)] W (fun e w' => ∃ A c, e = .returned (.slice A (hsec S k').length c) ∧ (hsec S k').length ≤ c ∧ Obs w w' (pdOb p bl bd S :: os ++ [txOb A (hsec S k')])) from (sectors12_any (hO.get (i := 0) rfl) ho hk'2).mono fun e w' ⟨v, he, hro⟩ => by
        obtain ⟨A, c, rfl, hc, hO'⟩ := hO.addRo hro
        exact ⟨A, c, he, hc, hO'⟩)
      have HSO := Lib.hid (PD.ok (HO6.out.get (i := 0) rfl))
      have hso : S.off = false := HON.out.on
      obtain ⟨b, o, rfl, c0⟩ := (HX.out.below HO6.out.bel).cell (k := 0) (by omega)
      clear c0
      have HXC := Lib.hid (fun W (hb : Below w.heap.size w W) j (hj : j < xs.length) => show W.cell? ⟨b, o + j, none⟩ = some (sv (xs.getD j [])) from by
        obtain ⟨b', o', e, hc⟩ := (HX.out.below hb).cell (k := j) hj
        cases e
        exact hc)
      have hmay : mayH (k : Int) (AG : Int) = true := by have := HAG.out; have := HA.out; simp only [mayH, decide_eq_true_eq]; omega
      have HMAY := Lib.hid hmay
      have hol : (hsec S k').length ≤ 1000000 := by rw [hsec_length HSO.out hk'2, HON.out.len]; omega
      have SE1 := Lib.hid (SE.out _ p bl bd S [] HO6.out hso)
      have hst := LI.start HSO.out hso HON.out.lf (half := (k : Int)) (age := (AG : Int)) hmay (by rw [← HT0.out]; have := HAG.out; omega)
      rw [Int.toNat_natCast, ← hk'] at hst
      have HBG := Lib.hid (fun x => LI.begin HSO.out hso HON.out.lf (half := (k : Int)) (age := (AG : Int)) hmay (by rw [← HT0.out]; have := HAG.out; omega) x)
      obtain ⟨oth, hot⟩ : ∃ oth, oth = hsec S k' := ⟨_, rfl⟩
      rw [← hot] at SE1 hol hst
      have HOTH := Lib.hid hot
      have HST := Lib.hid hst
      clear hot hst hmay hk' hso
      go_wp2_with (go_at_call 29; with_reducible refine SE1.out.mono ?_; rintro e w7 ⟨A0, cc0, rfl, hcc0, hO7⟩)
      have HO7 := Lib.hid (show Obs w w7 [pdOb p bl bd S, txOb A0 oth] from hO7)
      clear hO7
      go_loopw [17, 18, 19, 20, 21] (fun v gx jx a1 a2 W => ∃ j : Nat, jx = .int .i64 (j : Int) ∧ j < xs.length ∧
          ((j = 0 ∧ v = .slice none 0 0 ∧ gx = .pointer none ∧ Obs w W [pdOb p bl bd S, txOb A0 oth]) ∨
           (1 ≤ j ∧ ∃ T q lg put, gx = dp q ∧ Obs w W [pdOb p bl bd T, txOb A0 oth, lgOb q p lg, puOb v put] ∧ LI T lg put oth ∧ Dry T ∧ lg.half = k ∧ lg.age = AG ∧ put ≠ [] ∧ put.length ≤ j ∧ T.ops ≤ 300000 + j * 1000 ∧ T.was.length = N))) (fun _ _ jx _ _ _ => 40 - (RowKit.intOf jx).toNat)
      case atStart => exact ⟨0, rfl, by omega, .inl ⟨rfl, rfl, rfl, HO7.out⟩⟩
      case round =>
        clear HO7
        obtain ⟨j, rfl, hjx, hcase⟩ := hrel
        have hji : (j : Int) < (xs.length : Int) := by omega
        have hj0 : (0 : Int) ≤ (j : Int) := by omega
        have hwj : IntKind.i64.wrap ((j : Int) + 1) = (j : Int) + 1 := IntWalk.i64_in _ (by omega)
        have hwl : IntKind.i64.wrap ((xs.length : Int) - 1) = (xs.length : Int) - 1 := IntWalk.i64_in _ (by omega)
        obtain ⟨x, hxe⟩ : ∃ x, x = xs.getD j [] := ⟨_, rfl⟩
        have HXE := Lib.hid hxe
        have hxl : x.length ≤ 9000 := by rw [hxe]; exact HFW.out j
        have CX := Lib.hid (fun W (hb : Below w.heap.size w W) => show W.cell? ⟨b, o + j, none⟩ = some (sv x) from by rw [hxe]; exact HXC.out W hb j hjx)
        have hszx : (str x).size = x.length := by show x.toArray.size = _; simp
        obtain ⟨m, hm⟩ : ∃ m : Nat, m = manyN x.length := ⟨_, rfl⟩
        have HMX := Lib.hid hm
        have hmb : m ≤ 100 := by rw [hm]; have := manyN_lt x.length; omega
        have hm1 : 1 ≤ m := by rw [hm]; exact manyN_pos _
        have MN := Lib.hid (fun W => many_nat W x.length (by omega))
        rw [← hm] at MN
        obtain ⟨r, hr⟩ : ∃ r : Nat, u3 % (m : Int) = (r : Int) := ⟨(u3 % (m : Int)).toNat, by have := Int.emod_nonneg u3 (show (m : Int) ≠ 0 by omega); omega⟩
        have hrm : r < m := by have := Int.emod_lt_of_pos u3 (show (0 : Int) < (m : Int) by omega); omega
        have hu30 : 0 ≤ u3 := HU3.out.1
        have hu3e := HU3E.out
        have hmw : IntKind.u64.wrap (m : Int) = (m : Int) := by rw [IntKind.wrap_u64]; omega
        have hm0 : ((m : Int) == 0) = false := by rw [beq_eq_false_iff_ne]; omega
        have hrw : IntKind.i64.wrap (r : Int) = (r : Int) := IntWalk.i64_in _ (by omega)
        obtain ⟨kk, hkk⟩ : ∃ kk : Nat, kk = 1 + r := ⟨_, rfl⟩
        have hrw2 : IntKind.i64.wrap (1 + (r : Int)) = (kk : Int) := by rw [IntWalk.i64_in _ (by omega)]; omega
        have HKK := Lib.hid (show 1 ≤ kk ∧ kk ≤ m by omega)
        clear hxe hm hkk
        rcases hcase with ⟨hj00, rfl, rfl, hO⟩ | ⟨hj1, T, q, lg, put, rfl, hO, hli, hdry, hlh, hla, hpn, hpl, hops, hTn⟩
        · subst hj00
          have HO := Lib.hid hO
          have hbg := HBG.out x
          rw [Int.toNat_natCast, Int.toNat_natCast, HON.out.len, ← HMX.out, ← HK'.out, ← HOTH.out] at hbg
          have C0 := Lib.hid (fun W (hb : Below w.heap.size w W) => show W.cell? ⟨b, o, none⟩ = some (sv x) from CX.out W hb)
          have d0 := C0.out _ hO.bel
          have FA := Lib.hid (show Calls Tryz.prog 18 #[dp p, .int .i64 (kk : Int)] wr (fun e w' => e = .returned (.tuple #[]) ∧ Obs w w' [pdOb p bl bd (S.fail (kk : Int)), txOb A0 oth]) from fail_o hO 0 rfl (by have := HKK.out; omega))
          rw [show ((0 : Nat) : Int) = 0 from rfl] at *
          by_cases hlast : xs.length = 1
          · rw [hlast] at hji hwl hx0i
            have hwl0 : IntKind.i64.wrap ((xs.length : Int) - 1) = 0 := by rw [hlast]; rfl
            have hlen1 : (xs.length : Int) = 1 := by omega
            by_cases hfit : m ≤ N / 2
            · as_aux_lemma =>
              obtain ⟨hE, hoff, hpw⟩ := pow_beg HST.out HDRY.out HMAY.out (s := x) (by rw [← HMX.out, HON.out.len]; exact hfit) HKK.out.1 (by rw [← HMX.out]; exact HKK.out.2) K
              have BG := Lib.hid (fun W (hO : Obs w W [pdOb p bl bd (S.fail (kk : Int)), txOb A0 oth]) => show Calls Tryz.prog 7 #[dp p, .int .i64 (k : Int), .int .i64 (AG : Int), sv x] W (fun e w' => ∃ (v : Value) (z : Int), e = .returned (.tuple #[v, .int .i64 z]) ∧ (z == 41) = false ∧ Obs w w' [pdOb p bl bd (begS (S.fail (kk : Int)) (k : Int) (AG : Int) x), txOb A0 oth]) from (begin_o hO 0 rfl (show S.ops < _ by have := HOPS.out; omega) (k : Int) (AG : Int) x (by omega)).mono fun e w' ⟨v, he, hc⟩ => ⟨v, _, he, by rw [beq_eq_false_iff_ne]; exact hE, hc.elim (fun h => by obtain ⟨_, _, _, h⟩ := h; exact Obs.less (os := [_, _]) h) (fun h => h.2.2)⟩)
              generalize begS (S.fail (kk : Int)) (k : Int) (AG : Int) x = T2 at BG hoff hpw
              have ON := Lib.hid (fun W os (hO : Obs w W (pdOb p bl bd T2 :: os)) => show Calls Tryz.prog 33 #[dp p] W (fun e w' => e = .returned (.bool false) ∧ Obs w w' (pdOb p bl bd T2 :: os)) from by have := on_o hO 0 rfl; rwa [hoff] at this)
              have BT := Lib.hid (fun W os (hO : Obs w W (pdOb p bl bd T2 :: os)) => show Calls Tryz.prog 19 #[dp p, .slice E kn f] W (fun e w' => e = .returned (.int .i64 0) ∧ Obs w w' (pdOb p bl bd (T2.boot K) :: os)) from by
                have := boot_o hO 0 rfl (ck := f) (HIK.out.below hO.bel) (show ∀ a, E = some a → K ≠ [] → a.block ∉ [p, bl, bd] from ir_apart HIK.out hO (i := 0) rfl) (by rw [HKN.out]; omega)
                rw [HKN.out, show T2.bootE = 0 by unfold DS.bootE; rw [hoff]; rfl] at this
                exact this)
              have hnh : (newL (k : Int) (AG : Int)).half = k := Int.toNat_natCast k
              have hna : (newL (k : Int) (AG : Int)).age = AG := Int.toNat_natCast AG
              have hon3 := hpw.on
              have htop3 := hpw.top
              have hoth3 := hpw.other
              have hnone := hpw.none rfl
              rw [hnh] at hoth3 hnone
              rw [hna] at htop3 hnone
              rw [← HK'.out] at hoth3
              generalize T2.boot K = T3 at BT hon3 htop3 hoth3 hnone
              have TPB := Lib.hid (fun W os (hO : Obs w W (pdOb p bl bd T3 :: os)) => show Calls Tryz.prog 15 #[dp p] W (fun e w' => ∃ t1 : Int, e = .returned (.int .i64 t1) ∧ decide ((AG : Int) < t1) = false ∧ Obs w w' (pdOb p bl bd T3 :: os)) from (TP.out W p bl bd T3 os hO hon3).mono fun e w' ⟨t1, he, hO', h1, _⟩ => ⟨(t1 : Int), he, decide_eq_false (by omega), hO'⟩)
              have SE2 := Lib.hid (fun W os (hO : Obs w W (pdOb p bl bd T3 :: os)) => show Calls Tryz.prog 29 #[dp p, .int .i64 (k' : Int)] W (fun e w' => ∃ A c, e = .returned (.slice A oth.length c) ∧ Obs w w' (pdOb p bl bd T3 :: os ++ [txOb A oth])) from (by have := SE.out W p bl bd T3 os hO hon3; rw [hoth3] at this; exact this.mono fun e w' ⟨A, c, he, _, hO'⟩ => ⟨A, c, he, hO'⟩))
              have SM := Lib.hid (fun W A1 c1 (hO : Obs w W [pdOb p bl bd T3, txOb A0 oth, txOb A1 oth]) => show Calls Tryz.prog 31 #[.slice A1 oth.length c1, .slice A0 oth.length cc0] W (fun e w' => e = .returned (.bool true) ∧ Obs w w' [pdOb p bl bd T3, txOb A0 oth, txOb A1 oth]) from (same12_any oth oth A1 A0 c1 cc0 (hO.get (i := 2) rfl) (hO.get (i := 1) rfl) hol hol).mono fun e w' h => ⟨by rw [h.1]; simp, hO.step h.2⟩)
              have SC := fun W A1 (hO : Obs w W [pdOb p bl bd T3, txOb A0 oth, txOb A1 oth]) => scan_o hO 0 rfl (k : Int)
              unfold ScPost at SC
              clear hO hbg hfit hE hoff hpw hnh hna hon3 htop3 hoth3
              rcases hnone with h5 | ⟨h0, ⟨hsa, hsl⟩ | hlt⟩
              · as_aux_lemma =>
                rw [h5] at SC
                have SC := Lib.hid (fun W A1 (hO : Obs w W [pdOb p bl bd T3, txOb A0 oth, txOb A1 oth]) => show Calls Tryz.prog 8 #[dp p, .int .i64 (k : Int)] W (fun e w' => ∃ (a : Int) (v : Value), e = .returned (.tuple #[.int .i64 a, v, .int .i64 5]) ∧ Below w.heap.size w w') from (SC W A1 hO).mono fun e w' ⟨v, he, hro⟩ => ⟨_, v, he, (hO.step hro.below).bel⟩)
                clear h5
                go_wp2_with (first
                  | (go_at_call 30; with_reducible refine (MN.out _).mono ?_; rintro e w8 ⟨rfl, rfl⟩)
                  | (go_at_call 18; with_reducible refine FA.out.mono ?_; rintro e y1 ⟨rfl, hO1⟩; have d1 := C0.out _ hO1.bel)
                  | (go_at_call 7; with_reducible refine (BG.out _ hO1).mono ?_; rintro e y2 ⟨v2, z2, rfl, hz2, hO2⟩)
                  | (go_at_call 33; with_reducible refine (ON.out _ _ hO2).mono ?_; rintro e y3 ⟨rfl, hO3⟩)
                  | (go_at_call 19; with_reducible refine (BT.out _ _ hO3).mono ?_; rintro e y4 ⟨rfl, hO4⟩)
                  | (go_at_call 15; with_reducible refine (TPB.out _ _ hO4).mono ?_; rintro e y5 ⟨t1, rfl, ht1, hO5⟩)
                  | (go_at_call 29; with_reducible refine (SE2.out _ _ hO5).mono ?_; rintro e y6 ⟨A1, c1, rfl, hO6⟩)
                  | (go_at_call 31; with_reducible refine (SM.out _ _ _ hO6).mono ?_; rintro e y7 ⟨rfl, hO7⟩)
                  | (go_at_call 8; with_reducible refine (SC.out _ _ hO7).mono ?_; rintro e y8 ⟨a8, v8, rfl, hb8⟩))
                go_ret
                exact ⟨rfl, hb8⟩
              · as_aux_lemma =>
                rw [h0, hsa, hsl] at SC
                have hd1 : (1 : Int) ≤ (d : Int) := by omega
                have SC := Lib.hid (fun W A1 (hO : Obs w W [pdOb p bl bd T3, txOb A0 oth, txOb A1 oth]) => show Calls Tryz.prog 8 #[dp p, .int .i64 (k : Int)] W (fun e w' => ∃ A2 c2, e = .returned (.tuple #[.int .i64 (AG : Int), .slice A2 1 c2, .int .i64 0]) ∧ Obs w w' [pdOb p bl bd T3, txOb A0 oth, txOb A1 oth, txOb A2 [x]]) from (SC W A1 hO).mono fun e w' ⟨v, he, hro⟩ => by
                  obtain ⟨A2, c2, rfl, _, hO'⟩ := hO.addRo hro
                  exact ⟨A2, c2, he, hO'⟩)
                have SM2 := Lib.hid (fun W A1 A2 c2 (hO : Obs w W [pdOb p bl bd T3, txOb A0 oth, txOb A1 oth, txOb A2 [x]]) => show Calls Tryz.prog 31 #[.slice A2 1 c2, .slice (some ⟨b, o, none⟩) 1 d] W (fun e w' => e = .returned (.bool true) ∧ Below w.heap.size w w') from by
                  have hc := C0.out W hO.bel
                  refine (same12_any [x] [x] A2 (some ⟨b, o, none⟩) c2 d (hO.get (i := 3) rfl) (.inr ⟨b, o, rfl, block_lt_of_cell hc, fun i hi => ?_⟩) (by simp) (by simp)).mono fun e w' h => ⟨by rw [h.1]; simp, (hO.step h.2).bel⟩
                  obtain rfl : i = 0 := by simpa using hi
                  exact hc)
                clear h0 hsa hsl
                go_wp2_with (first
                  | (go_at_call 30; with_reducible refine (MN.out _).mono ?_; rintro e w8 ⟨rfl, rfl⟩)
                  | (go_at_call 18; with_reducible refine FA.out.mono ?_; rintro e y1 ⟨rfl, hO1⟩; have d1 := C0.out _ hO1.bel)
                  | (go_at_call 7; with_reducible refine (BG.out _ hO1).mono ?_; rintro e y2 ⟨v2, z2, rfl, hz2, hO2⟩)
                  | (go_at_call 33; with_reducible refine (ON.out _ _ hO2).mono ?_; rintro e y3 ⟨rfl, hO3⟩)
                  | (go_at_call 19; with_reducible refine (BT.out _ _ hO3).mono ?_; rintro e y4 ⟨rfl, hO4⟩)
                  | (go_at_call 15; with_reducible refine (TPB.out _ _ hO4).mono ?_; rintro e y5 ⟨t1, rfl, ht1, hO5⟩)
                  | (go_at_call 29; with_reducible refine (SE2.out _ _ hO5).mono ?_; rintro e y6 ⟨A1, c1, rfl, hO6⟩)
                  | (go_at_call 31; with_reducible refine (SM2.out _ _ _ _ hO8).mono ?_; rintro e y9 ⟨rfl, hb9⟩)
                  | (go_at_call 31; with_reducible refine (SM.out _ _ _ hO6).mono ?_; rintro e y7 ⟨rfl, hO7⟩)
                  | (go_at_call 8; with_reducible refine (SC.out _ _ hO7).mono ?_; rintro e y8 ⟨A2, c2, rfl, hO8⟩))
                go_ret
                exact ⟨rfl, hb9⟩
              · as_aux_lemma =>
                rw [h0] at SC
                have SC := Lib.hid (fun W A1 (hO : Obs w W [pdOb p bl bd T3, txOb A0 oth, txOb A1 oth]) => show Calls Tryz.prog 8 #[dp p, .int .i64 (k : Int)] W (fun e w' => ∃ (a : Int) (v : Value), e = .returned (.tuple #[.int .i64 a, v, .int .i64 0]) ∧ (a == (AG : Int)) = false ∧ a < (AG : Int) ∧ Below w.heap.size w w') from (SC W A1 hO).mono fun e w' ⟨v, he, hro⟩ => ⟨_, v, he, by rw [beq_eq_false_iff_ne]; omega, by omega, (hO.step hro.below).bel⟩)
                clear h0 hlt
                go_wp2_with (first
                  | (go_at_call 30; with_reducible refine (MN.out _).mono ?_; rintro e w8 ⟨rfl, rfl⟩)
                  | (go_at_call 18; with_reducible refine FA.out.mono ?_; rintro e y1 ⟨rfl, hO1⟩; have d1 := C0.out _ hO1.bel)
                  | (go_at_call 7; with_reducible refine (BG.out _ hO1).mono ?_; rintro e y2 ⟨v2, z2, rfl, hz2, hO2⟩)
                  | (go_at_call 33; with_reducible refine (ON.out _ _ hO2).mono ?_; rintro e y3 ⟨rfl, hO3⟩)
                  | (go_at_call 19; with_reducible refine (BT.out _ _ hO3).mono ?_; rintro e y4 ⟨rfl, hO4⟩)
                  | (go_at_call 15; with_reducible refine (TPB.out _ _ hO4).mono ?_; rintro e y5 ⟨t1, rfl, ht1, hO5⟩)
                  | (go_at_call 29; with_reducible refine (SE2.out _ _ hO5).mono ?_; rintro e y6 ⟨A1, c1, rfl, hO6⟩)
                  | (go_at_call 31; with_reducible refine (SM.out _ _ _ hO6).mono ?_; rintro e y7 ⟨rfl, hO7⟩)
                  | (go_at_call 8; with_reducible refine (SC.out _ _ hO7).mono ?_; rintro e y8 ⟨a8, v8, rfl, hne8, hlt8, hb8⟩))
                go_ret
                exact ⟨by simp [hlt8], hb8⟩
            · as_aux_lemma =>
              have BG := Lib.hid (fun W (hO : Obs w W [pdOb p bl bd (S.fail (kk : Int)), txOb A0 oth]) => show Calls Tryz.prog 7 #[dp p, .int .i64 (k : Int), .int .i64 (AG : Int), sv x] W (fun e w' => ∃ v, e = .returned (.tuple #[v, .int .i64 41]) ∧ Below w.heap.size w w') from (begin_o hO 0 rfl (show S.ops < _ by have := HOPS.out; omega) (k : Int) (AG : Int) x (by omega)).mono fun e w' ⟨v, he, hc⟩ => ⟨v, by rw [he, pow_beg_full HMAY.out (by rw [← HMX.out, HON.out.len]; exact hfit)], by rcases hc with ⟨_, _, _, h⟩ | ⟨_, _, h⟩ <;> exact h.bel⟩)
              clear hO hbg hfit
              go_wp2_with (first
                | (go_at_call 30; with_reducible refine (MN.out _).mono ?_; rintro e w8 ⟨rfl, rfl⟩)
                | (go_at_call 18; with_reducible refine FA.out.mono ?_; rintro e y1 ⟨rfl, hO1⟩; have d1 := C0.out _ hO1.bel)
                | (go_at_call 7; with_reducible refine (BG.out _ hO1).mono ?_; rintro e y2 ⟨v2, rfl, hb2⟩))
              go_ret
              exact ⟨rfl, hb2⟩
          · have hli1 : ((0 : Int) == (xs.length : Int) - 1) = false := by rw [beq_eq_false_iff_ne]; omega
            rcases hbg with ⟨f1, f2, f3, f4, f5, f6, f7, f8, f9⟩ | ⟨f1, f2, f3⟩
            · as_aux_lemma =>
              have BG := Lib.hid (show Calls Tryz.prog 7 #[dp p, .int .i64 (k : Int), .int .i64 (AG : Int), sv x] wr (fun e w' => ∃ q, e = .returned (.tuple #[dp q, .int .i64 0]) ∧ Obs w w' [pdOb p bl bd (begS S (k : Int) (AG : Int) x), txOb A0 oth, lgOb q p (lwrL S (newL (k : Int) (AG : Int)) x)]) from begin_ok_o hO 0 rfl (by have := HOPS.out; omega) (k : Int) (AG : Int) x (by omega) f2)
              have hTn : (begS S (k : Int) (AG : Int) x).was.length = N := by rw [f9]; exact HON.out.len
              have hTo : (begS S (k : Int) (AG : Int) x).ops ≤ 299000 := by rw [f7]; have := HOPS.out; omega
              generalize begS S (k : Int) (AG : Int) x = T0 at BG hTn hTo f3
              generalize lwrL S (newL (k : Int) (AG : Int)) x = lg0 at BG f3 f4 f5
              have HS0 := Lib.hid f3.sync
              have HTN := Lib.hid hTn
              have HTO := Lib.hid hTo
              have HLH := Lib.hid f4
              have HLA := Lib.hid f5
              have HJ1 := Lib.hid (show 1 < xs.length by omega)
              have SY := Lib.hid (fun W q v (hO : Obs w W [pdOb p bl bd T0, txOb A0 oth, lgOb q p lg0, puOb v [x]]) => show Calls Tryz.prog 32 #[dp p] W (fun e w' => e = .returned (.int .i64 T0.offE) ∧ Obs w w' [pdOb p bl bd T0.sync, txOb A0 oth, lgOb q p lg0, puOb v [x]]) from sync_o hO 0 rfl (by omega))
              generalize T0.offE = oe2 at SY
              clear f1 f2 f3 f4 f5 f6 f7 f8 f9 hO hTn hTo FA
              go_wp2_with (first
                | (go_at_call 7; with_reducible refine BG.out.mono ?_; rintro e y2 ⟨q, rfl, hO2⟩; have d2 := C0.out _ hO2.bel; have HO2 := Lib.hid hO2)
                | (go_at_call 32; with_reducible refine (SY.out _ _ _ HOP.out).mono ?_; rintro e y3 ⟨rfl, hO3⟩; have HO3 := Lib.hid hO3)
                | (at_builtin; obtain ⟨v0, W0, hr0, hOP⟩ := pu_app (puOb_nil HO2.out) 3 rfl x (by simp); refine wpList_builtin2_runF _ rfl .append Builtin.append_ _ _ _ _ rfl (fun _ _ _ => rfl) _ _ rfl rfl hr0 ?_; have HOP := Lib.hid (show Obs w W0 [pdOb p bl bd T0, txOb A0 oth, lgOb q p lg0, puOb v0 [x]] from hOP); clear hr0 hOP))
              go_roundw
              case rel => exact ⟨1, by go_num, HJ1.out, .inr ⟨Nat.le_refl _, T0.sync, q, lg0, [x], rfl, HO3.out, HS0.out.1, HS0.out.2.1, HLH.out, HLA.out, by simp, by simp, by have := HS0.out.2.2.1; have := HTO.out; omega, by rw [HS0.out.2.2.2.1]; exact HTN.out⟩⟩
              case measure => simp [RowKit.intOf]
            · as_aux_lemma =>
              have BG := Lib.hid (show Calls Tryz.prog 7 #[dp p, .int .i64 (k : Int), .int .i64 (AG : Int), sv x] wr (fun e w' => e = .returned (.tuple #[.pointer none, .int .i64 41]) ∧ Obs w w' [pdOb p bl bd S, txOb A0 oth]) from by
                have := begin_no_o hO 0 rfl (by have := HOPS.out; omega) (k : Int) (AG : Int) x (by omega) f2 (by decide)
                rw [f3] at this
                exact this)
              clear f1 f2 f3 hO
              go_wp2_with (go_at_call 7; with_reducible refine BG.out.mono ?_; rintro e y2 ⟨rfl, hO2⟩)
              go_ret
              exact ⟨rfl, hO2.bel⟩
        · have HO := Lib.hid hO
          have HLI := Lib.hid hli
          have HDT := Lib.hid hdry
          have HLH := Lib.hid hlh
          have HLA := Lib.hid hla
          have HPN := Lib.hid hpn
          have HPL := Lib.hid hpl
          have d0 := CX.out _ hO.bel
          have hj0i : ((j : Int) == 0) = false := by rw [beq_eq_false_iff_ne]; omega
          by_cases hlast : j = xs.length - 1
          · have hli1 : ((j : Int) == (xs.length : Int) - 1) = true := by simp; omega
            have FA := Lib.hid (show Calls Tryz.prog 18 #[dp p, .int .i64 (kk : Int)] wr (fun e w' => e = .returned (.tuple #[]) ∧ Obs w w' [pdOb p bl bd (T.fail (kk : Int)), txOb A0 oth, lgOb q p lg, puOb u17 put]) from fail_o hO 0 rfl (by have := HKK.out; omega))
            have AD := Lib.hid (fun W (hO : Obs w W [pdOb p bl bd (T.fail (kk : Int)), txOb A0 oth, lgOb q p lg, puOb u17 put]) => show Calls Tryz.prog 11 #[dp q, sv x] W (fun e w' => e = .returned (.int .i64 (addE (T.fail (kk : Int)) lg x)) ∧ Obs w w' [pdOb p bl bd (addS (T.fail (kk : Int)) lg x), txOb A0 oth, lgOb q p (addL (T.fail (kk : Int)) lg x), puOb u17 put]) from add_o hO 0 rfl 2 (by decide) rfl hli.lo (show T.ops < _ by omega) x (by omega))
            by_cases hfit : m ≤ N / 2 - lg.used
            · as_aux_lemma =>
              obtain ⟨hoff, hpw⟩ := pow_add hli hdry (s := x) (by rw [← HMX.out, hTn]; exact hfit) HKK.out.1 (by rw [← HMX.out]; exact HKK.out.2) K
              generalize addS (T.fail (kk : Int)) lg x = T2 at AD hoff hpw
              generalize addE (T.fail (kk : Int)) lg x = z2 at AD
              generalize addL (T.fail (kk : Int)) lg x = lg2 at AD
              have ON := Lib.hid (fun W os (hO : Obs w W (pdOb p bl bd T2 :: os)) => show Calls Tryz.prog 33 #[dp p] W (fun e w' => e = .returned (.bool false) ∧ Obs w w' (pdOb p bl bd T2 :: os)) from by have := on_o hO 0 rfl; rwa [hoff] at this)
              have BT := Lib.hid (fun W os (hO : Obs w W (pdOb p bl bd T2 :: os)) => show Calls Tryz.prog 19 #[dp p, .slice E kn f] W (fun e w' => e = .returned (.int .i64 0) ∧ Obs w w' (pdOb p bl bd (T2.boot K) :: os)) from by
                have := boot_o hO 0 rfl (ck := f) (HIK.out.below hO.bel) (show ∀ a, E = some a → K ≠ [] → a.block ∉ [p, bl, bd] from ir_apart HIK.out hO (i := 0) rfl) (by rw [HKN.out]; omega)
                rw [HKN.out, show T2.bootE = 0 by unfold DS.bootE; rw [hoff]; rfl] at this
                exact this)
              have hon3 := hpw.on
              have htop3 := hpw.top
              have hoth3 := hpw.other
              have hsome := hpw.some hpn
              rw [hlh] at hoth3
              rw [hlh, hla] at hsome
              rw [hla] at htop3
              rw [← HK'.out] at hoth3
              generalize T2.boot K = T3 at BT hon3 htop3 hoth3 hsome
              have TPB := Lib.hid (fun W os (hO : Obs w W (pdOb p bl bd T3 :: os)) => show Calls Tryz.prog 15 #[dp p] W (fun e w' => ∃ t1 : Int, e = .returned (.int .i64 t1) ∧ decide ((AG : Int) < t1) = false ∧ Obs w w' (pdOb p bl bd T3 :: os)) from (TP.out W p bl bd T3 os hO hon3).mono fun e w' ⟨t1, he, hO', h1, _⟩ => ⟨(t1 : Int), he, decide_eq_false (by omega), hO'⟩)
              have SE2 := Lib.hid (fun W os (hO : Obs w W (pdOb p bl bd T3 :: os)) => show Calls Tryz.prog 29 #[dp p, .int .i64 (k' : Int)] W (fun e w' => ∃ A c, e = .returned (.slice A oth.length c) ∧ Obs w w' (pdOb p bl bd T3 :: os ++ [txOb A oth])) from (by have := SE.out W p bl bd T3 os hO hon3; rw [hoth3] at this; exact this.mono fun e w' ⟨A, c, he, _, hO'⟩ => ⟨A, c, he, hO'⟩))
              obtain ⟨A3, c3, rfl, hT3⟩ := pu_form (hO.get (i := 3) rfl)
              have hplen : (0 : Int) < (put.length : Int) := by have := List.length_pos_iff.2 hpn; omega
              have SM := Lib.hid (fun W A1 c1 lg' (hO : Obs w W [pdOb p bl bd T3, txOb A0 oth, lgOb q p lg', puOb (.slice A3 put.length c3) put, txOb A1 oth]) => show Calls Tryz.prog 31 #[.slice A1 oth.length c1, .slice A0 oth.length cc0] W (fun e w' => e = .returned (.bool true) ∧ Obs w w' [pdOb p bl bd T3, txOb A0 oth, lgOb q p lg', puOb (.slice A3 put.length c3) put, txOb A1 oth]) from (same12_any oth oth A1 A0 c1 cc0 (hO.get (i := 4) rfl) (hO.get (i := 1) rfl) hol hol).mono fun e w' h => ⟨by rw [h.1]; simp, hO.step h.2⟩)
              have HS := fun W A1 lg' (hO : Obs w W [pdOb p bl bd T3, txOb A0 oth, lgOb q p lg', puOb (.slice A3 put.length c3) put, txOb A1 oth]) => show Calls Tryz.prog 20 #[dp p, .int .i64 (k : Int), .int .i64 (AG : Int), .slice A3 put.length c3] W (fun e w' => e = .returned (.bool (hasB T3 (k : Int) (AG : Int) put)) ∧ Obs w w' [pdOb p bl bd T3, txOb A0 oth, lgOb q p lg', puOb (.slice A3 put.length c3) put, txOb A1 oth]) from by
                obtain ⟨A', c', e, hT⟩ := pu_form (hO.get (i := 3) rfl)
                cases e
                exact (has12_any (hO.get (i := 0) rfl) (k : Int) (AG : Int) (c := c3) hT (by omega)).mono fun e w' h => ⟨h.1, hO.step h.2⟩
              clear hO hli hdry hlh hla hpn hpl hops hTn hT3 hfit hoff hpw hon3 htop3 hoth3
              by_cases hhas : HasB T3 (k : Int) (AG : Int) put
              · as_aux_lemma =>
                rw [hasB_true hhas] at HS
                have HS := Lib.hid HS
                clear hsome hhas hlast
                go_wp2_with (first
                  | (go_at_call 30; with_reducible refine (MN.out _).mono ?_; rintro e w8 ⟨rfl, rfl⟩)
                  | (go_at_call 18; with_reducible refine FA.out.mono ?_; rintro e y1 ⟨rfl, hO1⟩; have d1 := CX.out _ hO1.bel)
                  | (go_at_call 11; with_reducible refine (AD.out _ hO1).mono ?_; rintro e y2 ⟨rfl, hO2⟩)
                  | (go_at_call 33; with_reducible refine (ON.out _ _ hO2).mono ?_; rintro e y3 ⟨rfl, hO3⟩)
                  | (go_at_call 19; with_reducible refine (BT.out _ _ hO3).mono ?_; rintro e y4 ⟨rfl, hO4⟩)
                  | (go_at_call 15; with_reducible refine (TPB.out _ _ hO4).mono ?_; rintro e y5 ⟨t1, rfl, ht1, hO5⟩)
                  | (go_at_call 29; with_reducible refine (SE2.out _ _ hO5).mono ?_; rintro e y6 ⟨A1, c1, rfl, hO6⟩)
                  | (go_at_call 31; with_reducible refine (SM.out _ _ _ _ hO6).mono ?_; rintro e y7 ⟨rfl, hO7⟩))
                have HO7 := Lib.hid hO7
                clear hO7
                refine wp_region_held_drew (S := fun W => Below w.heap.size w W) (by kernel_rfl) HO7.out.drew.bel (fun hHeld => ?_)
                refine wpAnyH_take (i := 0) (v := ?vv0_1) rfl (by kernel_rfl) (by kernel_rfl) (by kernel_rfl) (fun _ _ _ h => h) (Or.inl ⟨by rfl, ?hy0_1⟩) (by assumption) ?rest0_1
                case hy0_1 => (intro w' hSw; (try dsimp only at hSw); go_simp; try with_reducible rfl)
                try simp only [List.getElem_toArray, List.getElem_cons_zero, List.getElem_cons_succ, Act.put, List.setIfInBounds_toArray, List.set_cons_zero, List.set_cons_succ]
                refine wpAnyH_take (i := 1) (v := ?vv1_1) rfl (by kernel_rfl) (by kernel_rfl) (by kernel_rfl) (fun _ _ _ h => h) (Or.inl ⟨by rfl, ?hy1_1⟩) (by assumption) ?rest1_1
                case hy1_1 => (intro w' hSw; (try dsimp only at hSw); go_simp; try with_reducible rfl)
                try simp only [List.getElem_toArray, List.getElem_cons_zero, List.getElem_cons_succ, Act.put, List.setIfInBounds_toArray, List.set_cons_zero, List.set_cons_succ]
                refine wpAnyH_take (i := 2) (v := ?vv2_1) rfl (by kernel_rfl) (by kernel_rfl) (by kernel_rfl) (fun _ _ _ h => h) (Or.inl ⟨by rfl, ?hy2_1⟩) (by assumption) ?rest2_1
                case hy2_1 => (intro w' hSw; (try dsimp only at hSw); go_simp; try with_reducible rfl)
                try simp only [List.getElem_toArray, List.getElem_cons_zero, List.getElem_cons_succ, Act.put, List.setIfInBounds_toArray, List.set_cons_zero, List.set_cons_succ]
                refine wpAnyH_take (i := 3) (v := ?vv3_1) rfl (by kernel_rfl) (by kernel_rfl) (by kernel_rfl) (fun _ _ _ h => h) (Or.inl ⟨by rfl, ?hy3_1⟩) (by assumption) ?rest3_1
                case hy3_1 => (intro w' hSw; (try dsimp only at hSw); go_simp; try with_reducible rfl)
                try simp only [List.getElem_toArray, List.getElem_cons_zero, List.getElem_cons_succ, Act.put, List.setIfInBounds_toArray, List.set_cons_zero, List.set_cons_succ]
                refine wpAnyH_ready (rs := [4]) (by kernel_rfl) (by simp) ?_
                refine AllReadyH.cons rfl (fun K hK => ?_) AllReadyH.nil
                go_simp
                go_at_call 20
                refine (HS.out _ _ _ HO7.out.drew).mono ?_
                rintro e1 wb ⟨rfl, hOb⟩
                refine hK.out _ _ hOb.bel (fun hHeld => ?_)
                clear hK K
                try simp only [List.getElem_toArray, List.getElem_cons_zero, List.getElem_cons_succ, Act.put, List.setIfInBounds_toArray, List.set_cons_zero, List.set_cons_succ]
                refine wpAnyH_take (i := 5) (v := ?vv5_1) rfl (by kernel_rfl) (by kernel_rfl) (by kernel_rfl) (fun _ _ _ h => h) (Or.inl ⟨by rfl, ?hy5_1⟩) (by assumption) ?rest5_1
                case hy5_1 => (intro w' hSw; (try dsimp only at hSw); go_simp; try with_reducible rfl)
                try simp only [List.getElem_toArray, List.getElem_cons_zero, List.getElem_cons_succ, Act.put, List.setIfInBounds_toArray, List.set_cons_zero, List.set_cons_succ]
                refine wpAnyH_take (i := 6) (v := undef) rfl (by kernel_rfl) (by kernel_rfl) (by kernel_rfl) (fun _ _ _ h => h) (Or.inr ⟨by rfl, rfl⟩) (by assumption) ?_
                try simp only [List.getElem_toArray, List.getElem_cons_zero, List.getElem_cons_succ, Act.put, List.setIfInBounds_toArray, List.set_cons_zero, List.set_cons_succ]
                refine wpAnyH_take (i := 7) (v := undef) rfl (by kernel_rfl) (by kernel_rfl) (by kernel_rfl) (fun _ _ _ h => h) (Or.inr ⟨by rfl, rfl⟩) (by assumption) ?_
                try simp only [List.getElem_toArray, List.getElem_cons_zero, List.getElem_cons_succ, Act.put, List.setIfInBounds_toArray, List.set_cons_zero, List.set_cons_succ]
                refine wpAnyH_take (i := 8) (v := undef) rfl (by kernel_rfl) (by kernel_rfl) (by kernel_rfl) (fun _ _ _ h => h) (Or.inr ⟨by rfl, rfl⟩) (by assumption) ?_
                try simp only [List.getElem_toArray, List.getElem_cons_zero, List.getElem_cons_succ, Act.put, List.setIfInBounds_toArray, List.set_cons_zero, List.set_cons_succ]
                refine wpAnyH_take (i := 9) (v := undef) rfl (by kernel_rfl) (by kernel_rfl) (by kernel_rfl) (fun _ _ _ h => h) (Or.inr ⟨by rfl, rfl⟩) (by assumption) ?_
                try simp only [List.getElem_toArray, List.getElem_cons_zero, List.getElem_cons_succ, Act.put, List.setIfInBounds_toArray, List.set_cons_zero, List.set_cons_succ]
                refine wpAnyH_take (i := 10) (v := undef) rfl (by kernel_rfl) (by kernel_rfl) (by kernel_rfl) (fun _ _ _ h => h) (Or.inr ⟨by rfl, rfl⟩) (by assumption) ?_
                try simp only [List.getElem_toArray, List.getElem_cons_zero, List.getElem_cons_succ, Act.put, List.setIfInBounds_toArray, List.set_cons_zero, List.set_cons_succ]
                refine wpAnyH_take (i := 11) (v := undef) rfl (by kernel_rfl) (by kernel_rfl) (by kernel_rfl) (fun _ _ _ h => h) (Or.inr ⟨by rfl, rfl⟩) (by assumption) ?_
                try simp only [List.getElem_toArray, List.getElem_cons_zero, List.getElem_cons_succ, Act.put, List.setIfInBounds_toArray, List.set_cons_zero, List.set_cons_succ]
                refine wpAnyH_take (i := 12) (v := undef) rfl (by kernel_rfl) (by kernel_rfl) (by kernel_rfl) (fun _ _ _ h => h) (Or.inr ⟨by rfl, rfl⟩) (by assumption) ?_
                try simp only [List.getElem_toArray, List.getElem_cons_zero, List.getElem_cons_succ, Act.put, List.setIfInBounds_toArray, List.set_cons_zero, List.set_cons_succ]
                refine wpAnyH_take (i := 13) (v := undef) rfl (by kernel_rfl) (by kernel_rfl) (by kernel_rfl) (fun _ _ _ h => h) (Or.inr ⟨by rfl, rfl⟩) (by assumption) ?_
                try simp only [List.getElem_toArray, List.getElem_cons_zero, List.getElem_cons_succ, Act.put, List.setIfInBounds_toArray, List.set_cons_zero, List.set_cons_succ]
                refine wpAnyH_take (i := 14) (v := undef) rfl (by kernel_rfl) (by kernel_rfl) (by kernel_rfl) (fun _ _ _ h => h) (Or.inr ⟨by rfl, rfl⟩) (by assumption) ?_
                try simp only [List.getElem_toArray, List.getElem_cons_zero, List.getElem_cons_succ, Act.put, List.setIfInBounds_toArray, List.set_cons_zero, List.set_cons_succ]
                refine wpAnyH_take (i := 15) (v := undef) rfl (by kernel_rfl) (by kernel_rfl) (by kernel_rfl) (fun _ _ _ h => h) (Or.inr ⟨by rfl, rfl⟩) (by assumption) ?_
                try simp only [List.getElem_toArray, List.getElem_cons_zero, List.getElem_cons_succ, Act.put, List.setIfInBounds_toArray, List.set_cons_zero, List.set_cons_succ]
                refine wpAnyH_take (i := 16) (v := undef) rfl (by kernel_rfl) (by kernel_rfl) (by kernel_rfl) (fun _ _ _ h => h) (Or.inr ⟨by rfl, rfl⟩) (by assumption) ?_
                try simp only [List.getElem_toArray, List.getElem_cons_zero, List.getElem_cons_succ, Act.put, List.setIfInBounds_toArray, List.set_cons_zero, List.set_cons_succ]
                refine wpAnyH_take (i := 17) (v := undef) rfl (by kernel_rfl) (by kernel_rfl) (by kernel_rfl) (fun _ _ _ h => h) (Or.inr ⟨by rfl, rfl⟩) (by assumption) ?_
                try simp only [List.getElem_toArray, List.getElem_cons_zero, List.getElem_cons_succ, Act.put, List.setIfInBounds_toArray, List.set_cons_zero, List.set_cons_succ]
                refine wpAnyH_take (i := 18) (v := undef) rfl (by kernel_rfl) (by kernel_rfl) (by kernel_rfl) (fun _ _ _ h => h) (Or.inr ⟨by rfl, rfl⟩) (by assumption) ?_
                try simp only [List.getElem_toArray, List.getElem_cons_zero, List.getElem_cons_succ, Act.put, List.setIfInBounds_toArray, List.set_cons_zero, List.set_cons_succ]
                refine wpAnyH_take (i := 19) (v := undef) rfl (by kernel_rfl) (by kernel_rfl) (by kernel_rfl) (fun _ _ _ h => h) (Or.inr ⟨by rfl, rfl⟩) (by assumption) ?_
                try simp only [List.getElem_toArray, List.getElem_cons_zero, List.getElem_cons_succ, Act.put, List.setIfInBounds_toArray, List.set_cons_zero, List.set_cons_succ]
                refine wpAnyH_take (i := 20) (v := undef) rfl (by kernel_rfl) (by kernel_rfl) (by kernel_rfl) (fun _ _ _ h => h) (Or.inr ⟨by rfl, rfl⟩) (by assumption) ?_
                try simp only [List.getElem_toArray, List.getElem_cons_zero, List.getElem_cons_succ, Act.put, List.setIfInBounds_toArray, List.set_cons_zero, List.set_cons_succ]
                refine wpAnyH_take (i := 21) (v := ?vv21_1) rfl (by kernel_rfl) (by kernel_rfl) (by kernel_rfl) (fun _ _ _ h => h) (Or.inl ⟨by rfl, ?hy21_1⟩) (by assumption) ?rest21_1
                case hy21_1 => (intro w' hSw; (try dsimp only at hSw); go_simp; try with_reducible rfl)
                try simp only [List.getElem_toArray, List.getElem_cons_zero, List.getElem_cons_succ, Act.put, List.setIfInBounds_toArray, List.set_cons_zero, List.set_cons_succ]
                refine wpAnyH_take (i := 22) (v := ?vv22_1) rfl (by kernel_rfl) (by kernel_rfl) (by kernel_rfl) (fun _ _ _ h => h) (Or.inl ⟨by rfl, ?hy22_1⟩) (by assumption) ?rest22_1
                case hy22_1 => (intro w' hSw; (try dsimp only at hSw); go_simp; try with_reducible rfl)
                try simp only [List.getElem_toArray, List.getElem_cons_zero, List.getElem_cons_succ, Act.put, List.setIfInBounds_toArray, List.set_cons_zero, List.set_cons_succ]
                refine wpAnyH_done (by kernel_rfl) ?_ _
                go_wp2_with fail
                go_ret
                exact ⟨rfl, hOb.bel⟩
              · as_aux_lemma =>
                rw [hasB_false hhas] at HS
                have HS := Lib.hid HS
                have hhas2 := hsome.resolve_left hhas
                obtain ⟨P, hP⟩ : ∃ P, P = put ++ [x] := ⟨_, rfl⟩
                rw [← hP] at hhas2
                have HP := Lib.hid hP
                have hPl : P.length ≤ 1000000 := by rw [hP, List.length_append, List.length_singleton]; have := HPL.out; omega
                have HS5 := Lib.hid (fun W A5 c5 (hPD : PD W p bl bd T3) (hT : Tx W A5 P) => show Calls Tryz.prog 20 #[dp p, .int .i64 (k : Int), .int .i64 (AG : Int), .slice A5 P.length c5] W (fun e w' => e = .returned (.bool true) ∧ Below W.heap.size W w') from (has12_any hPD (k : Int) (AG : Int) (c := c5) hT hPl).mono fun e w' h => ⟨by rw [h.1, hasB_true hhas2], h.2⟩)
                have hpb : put.length ≤ 1000 := by have := HPL.out; omega
                have hwlj : IntKind.i64.wrap ((xs.length : Int) - 1) = (j : Int) := by rw [IntWalk.i64_in _ (by omega)]; omega
                have hjj : ((j : Int) == (j : Int)) = true := by simp
                clear hsome hhas hhas2 hP hPl hwl hli1 hlast
                go_wp2_with (first
                  | (go_at_call 30; with_reducible refine (MN.out _).mono ?_; rintro e w8 ⟨rfl, rfl⟩)
                  | (go_at_call 18; with_reducible refine FA.out.mono ?_; rintro e y1 ⟨rfl, hO1⟩; have d1 := CX.out _ hO1.bel)
                  | (go_at_call 11; with_reducible refine (AD.out _ hO1).mono ?_; rintro e y2 ⟨rfl, hO2⟩)
                  | (go_at_call 33; with_reducible refine (ON.out _ _ hO2).mono ?_; rintro e y3 ⟨rfl, hO3⟩)
                  | (go_at_call 19; with_reducible refine (BT.out _ _ hO3).mono ?_; rintro e y4 ⟨rfl, hO4⟩)
                  | (go_at_call 15; with_reducible refine (TPB.out _ _ hO4).mono ?_; rintro e y5 ⟨t1, rfl, ht1, hO5⟩)
                  | (go_at_call 29; with_reducible refine (SE2.out _ _ hO5).mono ?_; rintro e y6 ⟨A1, c1, rfl, hO6⟩)
                  | (go_at_call 31; with_reducible refine (SM.out _ _ _ _ hO6).mono ?_; rintro e y7 ⟨rfl, hO7⟩))
                have HO7 := Lib.hid hO7
                clear hO7
                refine wp_region_held_drew (S := fun W => Below w.heap.size w W) (by kernel_rfl) HO7.out.drew.bel (fun hHeld => ?_)
                refine wpAnyH_take (i := 0) (v := ?vv0_2) rfl (by kernel_rfl) (by kernel_rfl) (by kernel_rfl) (fun _ _ _ h => h) (Or.inl ⟨by rfl, ?hy0_2⟩) (by assumption) ?rest0_2
                case hy0_2 => (intro w' hSw; (try dsimp only at hSw); go_simp; try with_reducible rfl)
                try simp only [List.getElem_toArray, List.getElem_cons_zero, List.getElem_cons_succ, Act.put, List.setIfInBounds_toArray, List.set_cons_zero, List.set_cons_succ]
                refine wpAnyH_take (i := 1) (v := ?vv1_2) rfl (by kernel_rfl) (by kernel_rfl) (by kernel_rfl) (fun _ _ _ h => h) (Or.inl ⟨by rfl, ?hy1_2⟩) (by assumption) ?rest1_2
                case hy1_2 => (intro w' hSw; (try dsimp only at hSw); go_simp; try with_reducible rfl)
                try simp only [List.getElem_toArray, List.getElem_cons_zero, List.getElem_cons_succ, Act.put, List.setIfInBounds_toArray, List.set_cons_zero, List.set_cons_succ]
                refine wpAnyH_take (i := 2) (v := ?vv2_2) rfl (by kernel_rfl) (by kernel_rfl) (by kernel_rfl) (fun _ _ _ h => h) (Or.inl ⟨by rfl, ?hy2_2⟩) (by assumption) ?rest2_2
                case hy2_2 => (intro w' hSw; (try dsimp only at hSw); go_simp; try with_reducible rfl)
                try simp only [List.getElem_toArray, List.getElem_cons_zero, List.getElem_cons_succ, Act.put, List.setIfInBounds_toArray, List.set_cons_zero, List.set_cons_succ]
                refine wpAnyH_take (i := 3) (v := ?vv3_2) rfl (by kernel_rfl) (by kernel_rfl) (by kernel_rfl) (fun _ _ _ h => h) (Or.inl ⟨by rfl, ?hy3_2⟩) (by assumption) ?rest3_2
                case hy3_2 => (intro w' hSw; (try dsimp only at hSw); go_simp; try with_reducible rfl)
                try simp only [List.getElem_toArray, List.getElem_cons_zero, List.getElem_cons_succ, Act.put, List.setIfInBounds_toArray, List.set_cons_zero, List.set_cons_succ]
                refine wpAnyH_ready (rs := [4]) (by kernel_rfl) (by simp) ?_
                refine AllReadyH.cons rfl (fun K hK => ?_) AllReadyH.nil
                go_simp
                go_at_call 20
                refine (HS.out _ _ _ HO7.out.drew).mono ?_
                rintro e1 wb ⟨rfl, hOb⟩
                refine hK.out _ _ hOb.bel (fun hHeld => ?_)
                clear hK K
                try simp only [List.getElem_toArray, List.getElem_cons_zero, List.getElem_cons_succ, Act.put, List.setIfInBounds_toArray, List.set_cons_zero, List.set_cons_succ]
                refine wpAnyH_take (i := 5) (v := ?vv5_2) rfl (by kernel_rfl) (by kernel_rfl) (by kernel_rfl) (fun _ _ _ h => h) (Or.inl ⟨by rfl, ?hy5_2⟩) (by assumption) ?rest5_2
                case hy5_2 => (intro w' hSw; (try dsimp only at hSw); go_simp; try with_reducible rfl)
                try simp only [List.getElem_toArray, List.getElem_cons_zero, List.getElem_cons_succ, Act.put, List.setIfInBounds_toArray, List.set_cons_zero, List.set_cons_succ]
                refine wpAnyH_take (i := 6) (v := ?vv6_2) rfl (by kernel_rfl) (by kernel_rfl) (by kernel_rfl) (fun _ _ _ h => h) (Or.inl ⟨by rfl, ?hy6_2⟩) (by assumption) ?rest6_2
                case hy6_2 => (intro w' hSw; (try dsimp only at hSw); go_simp; try with_reducible rfl)
                try simp only [List.getElem_toArray, List.getElem_cons_zero, List.getElem_cons_succ, Act.put, List.setIfInBounds_toArray, List.set_cons_zero, List.set_cons_succ]
                refine wpAnyH_take (i := 7) (v := ?vv7_2) rfl (by kernel_rfl) (by kernel_rfl) (by kernel_rfl) (fun _ _ _ h => h) (Or.inl ⟨by rfl, ?hy7_2⟩) (by assumption) ?rest7_2
                case hy7_2 => (intro w' hSw; (try dsimp only at hSw); go_simp; try with_reducible rfl)
                try simp only [List.getElem_toArray, List.getElem_cons_zero, List.getElem_cons_succ, Act.put, List.setIfInBounds_toArray, List.set_cons_zero, List.set_cons_succ]
                refine wpAnyH_take (i := 8) (v := ?vv8_2) rfl (by kernel_rfl) (by kernel_rfl) (by kernel_rfl) (fun _ _ _ h => h) (Or.inl ⟨by rfl, ?hy8_2⟩) (by assumption) ?rest8_2
                case hy8_2 => (intro w' hSw; (try dsimp only at hSw); go_simp; try with_reducible rfl)
                try simp only [List.getElem_toArray, List.getElem_cons_zero, List.getElem_cons_succ, Act.put, List.setIfInBounds_toArray, List.set_cons_zero, List.set_cons_succ]
                refine wpAnyH_take (i := 10) (v := ?vv10_2) rfl (by kernel_rfl) (by kernel_rfl) (by kernel_rfl) (fun _ _ _ h => h) (Or.inl ⟨by rfl, ?hy10_2⟩) (by assumption) ?rest10_2
                case hy10_2 => (intro w' hSw; (try dsimp only at hSw); go_simp; try with_reducible rfl)
                try simp only [List.getElem_toArray, List.getElem_cons_zero, List.getElem_cons_succ, Act.put, List.setIfInBounds_toArray, List.set_cons_zero, List.set_cons_succ]
                refine wpAnyH_take (i := 12) (v := ?vv12_2) rfl (by kernel_rfl) (by kernel_rfl) (by kernel_rfl) (fun _ _ _ h => h) (Or.inl ⟨by rfl, ?hy12_2⟩) (by assumption) ?rest12_2
                case hy12_2 => (intro w' hSw; (try dsimp only at hSw); go_simp; try with_reducible rfl)
                try simp only [List.getElem_toArray, List.getElem_cons_zero, List.getElem_cons_succ, Act.put, List.setIfInBounds_toArray, List.set_cons_zero, List.set_cons_succ]
                refine wpAnyH_take (i := 13) (v := ?vv13_2) rfl (by kernel_rfl) (by kernel_rfl) (by kernel_rfl) (fun _ _ _ h => h) (Or.inl ⟨by rfl, ?hy13_2⟩) (by assumption) ?rest13_2
                case hy13_2 => (intro w' hSw; (try dsimp only at hSw); go_simp; try with_reducible rfl)
                try simp only [List.getElem_toArray, List.getElem_cons_zero, List.getElem_cons_succ, Act.put, List.setIfInBounds_toArray, List.set_cons_zero, List.set_cons_succ]
                refine wpAnyH_take (i := 14) (v := ?vv14_2) rfl (by kernel_rfl) (by kernel_rfl) (by kernel_rfl) (fun _ _ _ h => h) (Or.inl ⟨by rfl, ?hy14_2⟩) (by assumption) ?rest14_2
                case hy14_2 => (intro w' hSw; (try dsimp only at hSw); go_simp; try with_reducible rfl)
                try simp only [List.getElem_toArray, List.getElem_cons_zero, List.getElem_cons_succ, Act.put, List.setIfInBounds_toArray, List.set_cons_zero, List.set_cons_succ]
                refine wpAnyH_take (i := 15) (v := ?vv15_2) rfl (by kernel_rfl) (by kernel_rfl) (by kernel_rfl) (fun _ _ _ h => h) (Or.inl ⟨by rfl, ?hy15_2⟩) (by assumption) ?rest15_2
                case hy15_2 => (intro w' hSw; (try dsimp only at hSw); go_simp; try with_reducible rfl)
                try simp only [List.getElem_toArray, List.getElem_cons_zero, List.getElem_cons_succ, Act.put, List.setIfInBounds_toArray, List.set_cons_zero, List.set_cons_succ]
                refine wpAnyH_take (i := 16) (v := ?vv16_2) rfl (by kernel_rfl) (by kernel_rfl) (by kernel_rfl) (fun _ _ _ h => h) (Or.inl ⟨by rfl, ?hy16_2⟩) (by assumption) ?rest16_2
                case hy16_2 => (intro w' hSw; (try dsimp only at hSw); go_simp; try with_reducible rfl)
                try simp only [List.getElem_toArray, List.getElem_cons_zero, List.getElem_cons_succ, Act.put, List.setIfInBounds_toArray, List.set_cons_zero, List.set_cons_succ]
                refine wpAnyH_take (i := 17) (v := sv x) rfl (by kernel_rfl) (by kernel_rfl) (by kernel_rfl) (fun _ _ _ h => h) (Or.inl ⟨by rfl, fun w' hSw => exec_load1 w' rfl rfl (CX.out w' hSw) Tryz.underlying9 rfl⟩) (by assumption) ?_
                try simp only [List.getElem_toArray, List.getElem_cons_zero, List.getElem_cons_succ, Act.put, List.setIfInBounds_toArray, List.set_cons_zero, List.set_cons_succ]
                refine wpAnyH_ready (rs := [9, 18]) (by kernel_rfl) (by simp) ?_
                refine AllReadyH.cons rfl (fun K hK => ?_) (AllReadyH.cons rfl (fun K hK => ?_) AllReadyH.nil)
                · go_simp
                  refine hK.out _ _ (hHeld.alloc hHeld.size _) (fun hHeld => ?_)
                  clear hK K
                  try simp only [List.getElem_toArray, List.getElem_cons_zero, List.getElem_cons_succ, Act.put, List.setIfInBounds_toArray, List.set_cons_zero, List.set_cons_succ]
                  have O9 := pu_lit hOb
                  refine wpAnyH_ready (rs := [11, 18]) (by kernel_rfl) (by simp) ?_
                  refine AllReadyH.cons rfl (fun K hK => ?_) (AllReadyH.cons rfl (fun K hK => ?_) AllReadyH.nil)
                  · obtain ⟨v11, w11, hr11, O11⟩ := pu_apps O9 5 rfl (pu_tx (O9.get (i := 3) rfl)) c3 (by have := List.length_pos_iff.2 HPN.out; omega) (by simp; omega)
                    rw [if_pos (by rfl)]
                    refine wp_builtin2_runL .append Builtin.append_ _ _ _ _ rfl (fun _ _ _ => rfl) _ _ rfl rfl hr11 ?_
                    refine hK.out _ _ O11.bel (fun hHeld => ?_)
                    clear hK K
                    try simp only [List.getElem_toArray, List.getElem_cons_zero, List.getElem_cons_succ, Act.put, List.setIfInBounds_toArray, List.set_cons_zero, List.set_cons_succ]
                    clear hr11
                    refine wpAnyH_ready (rs := [18]) (by kernel_rfl) (by simp) ?_
                    refine AllReadyH.cons rfl (fun K hK => ?_) AllReadyH.nil
                    go_simp
                    refine hK.out _ _ (hHeld.alloc hHeld.size _) (fun hHeld => ?_)
                    clear hK K
                    try simp only [List.getElem_toArray, List.getElem_cons_zero, List.getElem_cons_succ, Act.put, List.setIfInBounds_toArray, List.set_cons_zero, List.set_cons_succ]
                    have O18 := tx_lit O11 x
                    refine wpAnyH_ready (rs := [19]) (by kernel_rfl) (by simp) ?_
                    refine AllReadyH.cons rfl (fun K hK => ?_) AllReadyH.nil
                    obtain ⟨v19, w19, hr19, O19⟩ := pu_apps O18 5 rfl (O18.get (i := 6) rfl) 1 (by simp) (by simp; omega)
                    rw [if_pos (by rfl)]
                    refine wp_builtin2_runL .append Builtin.append_ _ _ _ _ rfl (fun _ _ _ => rfl) _ _ rfl rfl hr19 ?_
                    refine hK.out _ _ O19.bel (fun hHeld => ?_)
                    clear hK K
                    try simp only [List.getElem_toArray, List.getElem_cons_zero, List.getElem_cons_succ, Act.put, List.setIfInBounds_toArray, List.set_cons_zero, List.set_cons_succ]
                    clear hr19
                    obtain ⟨A5, c5, rfl, ht5⟩ := pu_form (O19.get (i := 5) rfl)
                    rw [List.nil_append, ← HP.out] at ht5 O19
                    rw [List.nil_append, ← HP.out]
                    have HPD := Lib.hid (show PD _ p bl bd T3 from O19.get (i := 0) (o := pdOb p bl bd T3) rfl)
                    have HO19 := Lib.hid O19
                    have HT5 := Lib.hid ht5
                    clear O19 ht5 O11 O18 O9 hOb
                    refine wpAnyH_ready (rs := [20]) (by kernel_rfl) (by simp) ?_
                    refine AllReadyH.cons rfl (fun K hK => ?_) AllReadyH.nil
                    go_simp
                    go_at_call 20
                    with_reducible refine (HS5.out _ _ _ HPD.out HT5.out).mono ?_
                    rintro e1 wz ⟨rfl, hbz⟩
                    refine hK.out _ _ ((HO19.out.step hbz).bel) (fun hHeld => ?_)
                    clear hK K
                    try simp only [List.getElem_toArray, List.getElem_cons_zero, List.getElem_cons_succ, Act.put, List.setIfInBounds_toArray, List.set_cons_zero, List.set_cons_succ]
                    refine wpAnyH_take (i := 21) (v := ?vv21_3) rfl (by kernel_rfl) (by kernel_rfl) (by kernel_rfl) (fun _ _ _ h => h) (Or.inl ⟨by rfl, ?hy21_3⟩) (by assumption) ?rest21_3
                    case hy21_3 => (intro w' hSw; (try dsimp only at hSw); go_simp; try with_reducible rfl)
                    try simp only [List.getElem_toArray, List.getElem_cons_zero, List.getElem_cons_succ, Act.put, List.setIfInBounds_toArray, List.set_cons_zero, List.set_cons_succ]
                    refine wpAnyH_take (i := 22) (v := ?vv22_3) rfl (by kernel_rfl) (by kernel_rfl) (by kernel_rfl) (fun _ _ _ h => h) (Or.inl ⟨by rfl, ?hy22_3⟩) (by assumption) ?rest22_3
                    case hy22_3 => (intro w' hSw; (try dsimp only at hSw); go_simp; try with_reducible rfl)
                    try simp only [List.getElem_toArray, List.getElem_cons_zero, List.getElem_cons_succ, Act.put, List.setIfInBounds_toArray, List.set_cons_zero, List.set_cons_succ]
                    refine wpAnyH_done (by kernel_rfl) ?_ _
                    go_wp2_with fail
                    go_ret
                    exact ⟨rfl, (HO19.out.step hbz).bel⟩
                  · go_simp
                    refine hK.out _ _ (hHeld.alloc hHeld.size _) (fun hHeld => ?_)
                    clear hK K
                    try simp only [List.getElem_toArray, List.getElem_cons_zero, List.getElem_cons_succ, Act.put, List.setIfInBounds_toArray, List.set_cons_zero, List.set_cons_succ]
                    have O18 := tx_lit O9 x
                    have hsz18 : (wb.alloc (.cells #[] 9)).heap.size = wb.heap.size + 1 := by simp
                    rw [hsz18] at O18
                    try rw [hsz18]
                    refine wpAnyH_ready (rs := [11]) (by kernel_rfl) (by simp) ?_
                    refine AllReadyH.cons rfl (fun K hK => ?_) AllReadyH.nil
                    obtain ⟨v11, w11, hr11, O11⟩ := pu_apps O18 5 rfl (show Tx _ A3 put from pu_tx (O18.get (i := 3) (o := puOb (.slice A3 put.length c3) put) rfl)) c3 (by have := List.length_pos_iff.2 HPN.out; omega) (by simp; omega)
                    rw [if_pos (by rfl)]
                    refine wp_builtin2_runL .append Builtin.append_ _ _ _ _ rfl (fun _ _ _ => rfl) _ _ rfl rfl hr11 ?_
                    refine hK.out _ _ O11.bel (fun hHeld => ?_)
                    clear hK K
                    try simp only [List.getElem_toArray, List.getElem_cons_zero, List.getElem_cons_succ, Act.put, List.setIfInBounds_toArray, List.set_cons_zero, List.set_cons_succ]
                    clear hr11
                    have t18 : Tx w11 (some ⟨wb.heap.size + 1, 0, none⟩) [x] := O11.get (i := 6) (o := txOb (some ⟨wb.heap.size + 1, 0, none⟩) [x]) rfl
                    refine wpAnyH_ready (rs := [19]) (by kernel_rfl) (by simp) ?_
                    refine AllReadyH.cons rfl (fun K hK => ?_) AllReadyH.nil
                    obtain ⟨v19, w19, hr19, O19⟩ := pu_apps O11 5 rfl (t18) 1 (by simp) (by simp; omega)
                    rw [if_pos (by rfl)]
                    refine wp_builtin2_runL .append Builtin.append_ _ _ _ _ rfl (fun _ _ _ => rfl) _ _ rfl rfl hr19 ?_
                    refine hK.out _ _ O19.bel (fun hHeld => ?_)
                    clear hK K
                    try simp only [List.getElem_toArray, List.getElem_cons_zero, List.getElem_cons_succ, Act.put, List.setIfInBounds_toArray, List.set_cons_zero, List.set_cons_succ]
                    clear hr19
                    obtain ⟨A5, c5, rfl, ht5⟩ := pu_form (O19.get (i := 5) rfl)
                    rw [List.nil_append, ← HP.out] at ht5 O19
                    rw [List.nil_append, ← HP.out]
                    have HPD := Lib.hid (show PD _ p bl bd T3 from O19.get (i := 0) (o := pdOb p bl bd T3) rfl)
                    have HO19 := Lib.hid O19
                    have HT5 := Lib.hid ht5
                    clear O19 ht5 O11 O18 O9 hOb
                    refine wpAnyH_ready (rs := [20]) (by kernel_rfl) (by simp) ?_
                    refine AllReadyH.cons rfl (fun K hK => ?_) AllReadyH.nil
                    go_simp
                    go_at_call 20
                    with_reducible refine (HS5.out _ _ _ HPD.out HT5.out).mono ?_
                    rintro e1 wz ⟨rfl, hbz⟩
                    refine hK.out _ _ ((HO19.out.step hbz).bel) (fun hHeld => ?_)
                    clear hK K
                    try simp only [List.getElem_toArray, List.getElem_cons_zero, List.getElem_cons_succ, Act.put, List.setIfInBounds_toArray, List.set_cons_zero, List.set_cons_succ]
                    refine wpAnyH_take (i := 21) (v := ?vv21_4) rfl (by kernel_rfl) (by kernel_rfl) (by kernel_rfl) (fun _ _ _ h => h) (Or.inl ⟨by rfl, ?hy21_4⟩) (by assumption) ?rest21_4
                    case hy21_4 => (intro w' hSw; (try dsimp only at hSw); go_simp; try with_reducible rfl)
                    try simp only [List.getElem_toArray, List.getElem_cons_zero, List.getElem_cons_succ, Act.put, List.setIfInBounds_toArray, List.set_cons_zero, List.set_cons_succ]
                    refine wpAnyH_take (i := 22) (v := ?vv22_4) rfl (by kernel_rfl) (by kernel_rfl) (by kernel_rfl) (fun _ _ _ h => h) (Or.inl ⟨by rfl, ?hy22_4⟩) (by assumption) ?rest22_4
                    case hy22_4 => (intro w' hSw; (try dsimp only at hSw); go_simp; try with_reducible rfl)
                    try simp only [List.getElem_toArray, List.getElem_cons_zero, List.getElem_cons_succ, Act.put, List.setIfInBounds_toArray, List.set_cons_zero, List.set_cons_succ]
                    refine wpAnyH_done (by kernel_rfl) ?_ _
                    go_wp2_with fail
                    go_ret
                    exact ⟨rfl, (HO19.out.step hbz).bel⟩
                · go_simp
                  refine hK.out _ _ (hHeld.alloc hHeld.size _) (fun hHeld => ?_)
                  clear hK K
                  try simp only [List.getElem_toArray, List.getElem_cons_zero, List.getElem_cons_succ, Act.put, List.setIfInBounds_toArray, List.set_cons_zero, List.set_cons_succ]
                  have O18 := tx_lit hOb x
                  refine wpAnyH_ready (rs := [9]) (by kernel_rfl) (by simp) ?_
                  refine AllReadyH.cons rfl (fun K hK => ?_) AllReadyH.nil
                  go_simp
                  refine hK.out _ _ (hHeld.alloc hHeld.size _) (fun hHeld => ?_)
                  clear hK K
                  try simp only [List.getElem_toArray, List.getElem_cons_zero, List.getElem_cons_succ, Act.put, List.setIfInBounds_toArray, List.set_cons_zero, List.set_cons_succ]
                  have O9 := pu_lit O18
                  have hsz9 : (wb.alloc (.cells #[sv x] 9)).heap.size = wb.heap.size + 1 := by simp
                  rw [hsz9] at O9
                  try rw [hsz9]
                  refine wpAnyH_ready (rs := [11]) (by kernel_rfl) (by simp) ?_
                  refine AllReadyH.cons rfl (fun K hK => ?_) AllReadyH.nil
                  obtain ⟨v11, w11, hr11, O11⟩ := pu_apps O9 6 rfl (show Tx _ A3 put from pu_tx (O9.get (i := 3) (o := puOb (.slice A3 put.length c3) put) rfl)) c3 (by have := List.length_pos_iff.2 HPN.out; omega) (by simp; omega)
                  rw [if_pos (by rfl)]
                  refine wp_builtin2_runL .append Builtin.append_ _ _ _ _ rfl (fun _ _ _ => rfl) _ _ rfl rfl hr11 ?_
                  refine hK.out _ _ O11.bel (fun hHeld => ?_)
                  clear hK K
                  try simp only [List.getElem_toArray, List.getElem_cons_zero, List.getElem_cons_succ, Act.put, List.setIfInBounds_toArray, List.set_cons_zero, List.set_cons_succ]
                  clear hr11
                  have t18 : Tx w11 (some ⟨wb.heap.size, 0, none⟩) [x] := O11.get (i := 5) (o := txOb (some ⟨wb.heap.size, 0, none⟩) [x]) rfl
                  refine wpAnyH_ready (rs := [19]) (by kernel_rfl) (by simp) ?_
                  refine AllReadyH.cons rfl (fun K hK => ?_) AllReadyH.nil
                  obtain ⟨v19, w19, hr19, O19⟩ := pu_apps O11 6 rfl (t18) 1 (by simp) (by simp; omega)
                  rw [if_pos (by rfl)]
                  refine wp_builtin2_runL .append Builtin.append_ _ _ _ _ rfl (fun _ _ _ => rfl) _ _ rfl rfl hr19 ?_
                  refine hK.out _ _ O19.bel (fun hHeld => ?_)
                  clear hK K
                  try simp only [List.getElem_toArray, List.getElem_cons_zero, List.getElem_cons_succ, Act.put, List.setIfInBounds_toArray, List.set_cons_zero, List.set_cons_succ]
                  clear hr19
                  obtain ⟨A5, c5, rfl, ht5⟩ := pu_form (O19.get (i := 6) rfl)
                  rw [List.nil_append, ← HP.out] at ht5 O19
                  rw [List.nil_append, ← HP.out]
                  have HPD := Lib.hid (show PD _ p bl bd T3 from O19.get (i := 0) (o := pdOb p bl bd T3) rfl)
                  have HO19 := Lib.hid O19
                  have HT5 := Lib.hid ht5
                  clear O19 ht5 O11 O18 O9 hOb
                  refine wpAnyH_ready (rs := [20]) (by kernel_rfl) (by simp) ?_
                  refine AllReadyH.cons rfl (fun K hK => ?_) AllReadyH.nil
                  go_simp
                  go_at_call 20
                  with_reducible refine (HS5.out _ _ _ HPD.out HT5.out).mono ?_
                  rintro e1 wz ⟨rfl, hbz⟩
                  refine hK.out _ _ ((HO19.out.step hbz).bel) (fun hHeld => ?_)
                  clear hK K
                  try simp only [List.getElem_toArray, List.getElem_cons_zero, List.getElem_cons_succ, Act.put, List.setIfInBounds_toArray, List.set_cons_zero, List.set_cons_succ]
                  refine wpAnyH_take (i := 21) (v := ?vv21_5) rfl (by kernel_rfl) (by kernel_rfl) (by kernel_rfl) (fun _ _ _ h => h) (Or.inl ⟨by rfl, ?hy21_5⟩) (by assumption) ?rest21_5
                  case hy21_5 => (intro w' hSw; (try dsimp only at hSw); go_simp; try with_reducible rfl)
                  try simp only [List.getElem_toArray, List.getElem_cons_zero, List.getElem_cons_succ, Act.put, List.setIfInBounds_toArray, List.set_cons_zero, List.set_cons_succ]
                  refine wpAnyH_take (i := 22) (v := ?vv22_5) rfl (by kernel_rfl) (by kernel_rfl) (by kernel_rfl) (fun _ _ _ h => h) (Or.inl ⟨by rfl, ?hy22_5⟩) (by assumption) ?rest22_5
                  case hy22_5 => (intro w' hSw; (try dsimp only at hSw); go_simp; try with_reducible rfl)
                  try simp only [List.getElem_toArray, List.getElem_cons_zero, List.getElem_cons_succ, Act.put, List.setIfInBounds_toArray, List.set_cons_zero, List.set_cons_succ]
                  refine wpAnyH_done (by kernel_rfl) ?_ _
                  go_wp2_with fail
                  go_ret
                  exact ⟨rfl, (HO19.out.step hbz).bel⟩
            · as_aux_lemma =>
              have hpf := fun a => pow_add_full hli (s := x) (by rw [← HMX.out, hTn]; exact hfit) a
              rw [(hpf _).1, (hpf _).2] at AD
              have hon2 : (T.fail (kk : Int)).off = false := hli.on
              have ON := Lib.hid (fun W lg' (hO : Obs w W [pdOb p bl bd (T.fail (kk : Int)), txOb A0 oth, lgOb q p lg', puOb u17 put]) => show Calls Tryz.prog 33 #[dp p] W (fun e w' => e = .returned (.bool true) ∧ Obs w w' [pdOb p bl bd (T.fail (kk : Int)), txOb A0 oth, lgOb q p lg', puOb u17 put]) from by have := on_o hO 0 rfl; rwa [hon2] at this)
              obtain ⟨A3, c3, rfl, hT3⟩ := pu_form (hO.get (i := 3) rfl)
              have hplen : (0 : Int) < (put.length : Int) := by have := List.length_pos_iff.2 hpn; omega
              have HS := Lib.hid (fun W lg' (hO : Obs w W [pdOb p bl bd (T.fail (kk : Int)), txOb A0 oth, lgOb q p lg', puOb (.slice A3 put.length c3) put]) => show Calls Tryz.prog 20 #[dp p, .int .i64 (k : Int), .int .i64 (AG : Int), .slice A3 put.length c3] W (fun e w' => e = .returned (.bool true) ∧ Below w.heap.size w w') from by
                obtain ⟨A', c', e, hT⟩ := pu_form (hO.get (i := 3) rfl)
                cases e
                exact (has12_any (hO.get (i := 0) rfl) (k : Int) (AG : Int) (c := c3) hT (by omega)).mono fun e w' h => ⟨by rw [h.1, hasB_true (by have := hli.has hpn; rw [hlh, hla] at this; exact (has_fail _ _ _ _ _).2 this)], (hO.step h.2).bel⟩)
              clear hO hli hdry hlh hla hpn hpl hops hTn hpf hon2 hT3 hfit hlast
              go_wp2_with (first
                | (go_at_call 30; with_reducible refine (MN.out _).mono ?_; rintro e w8 ⟨rfl, rfl⟩)
                | (go_at_call 18; with_reducible refine FA.out.mono ?_; rintro e y1 ⟨rfl, hO1⟩; have d1 := CX.out _ hO1.bel)
                | (go_at_call 11; with_reducible refine (AD.out _ hO1).mono ?_; rintro e y2 ⟨rfl, hO2⟩)
                | (go_at_call 33; with_reducible refine (ON.out _ _ hO2).mono ?_; rintro e y3 ⟨rfl, hO3⟩)
                | (go_at_call 20; with_reducible refine (HS.out _ _ hO3).mono ?_; rintro e y4 ⟨rfl, hb4⟩))
              go_ret
              exact ⟨rfl, hb4⟩
          · have hli1 : ((j : Int) == (xs.length : Int) - 1) = false := by rw [beq_eq_false_iff_ne]; omega
            have hadd := hli.add x
            rw [← HMX.out] at hadd
            have AD := Lib.hid (show Calls Tryz.prog 11 #[dp q, sv x] wr (fun e w' => e = .returned (.int .i64 (addE T lg x)) ∧ Obs w w' [pdOb p bl bd (addS T lg x), txOb A0 oth, lgOb q p (addL T lg x), puOb u17 put]) from add_o hO 0 rfl 2 (by decide) rfl hli.lo (by omega) x (by omega))
            rcases hadd with ⟨f1, f2, f3, f4, f5, f6, f7, f8, f9⟩ | ⟨f1, f2, f3, f4⟩
            · as_aux_lemma =>
              rw [f2] at AD
              have hTn2 : (addS T lg x).was.length = N := by rw [f9]; exact hTn
              have hTo : (addS T lg x).ops ≤ 300000 + (j + 1) * 1000 - 1 := by rw [f7]; omega
              generalize addS T lg x = T2 at AD hTn2 hTo f3
              generalize addL T lg x = lg2 at AD f3 f4 f5
              have HS2 := Lib.hid f3.sync
              have HTN := Lib.hid hTn2
              have HTO := Lib.hid hTo
              have HLH2 := Lib.hid (f4.trans hlh)
              have HLA2 := Lib.hid (f5.trans hla)
              have HJ1 := Lib.hid (show j + 1 < xs.length by omega)
              have SY := Lib.hid (fun W v (hO : Obs w W [pdOb p bl bd T2, txOb A0 oth, lgOb q p lg2, puOb v (put ++ [x])]) => show Calls Tryz.prog 32 #[dp p] W (fun e w' => e = .returned (.int .i64 T2.offE) ∧ Obs w w' [pdOb p bl bd T2.sync, txOb A0 oth, lgOb q p lg2, puOb v (put ++ [x])]) from sync_o hO 0 rfl (by omega))
              generalize T2.offE = oe2 at SY
              clear f1 f2 f3 f4 f5 f6 f7 f8 f9 hO hTn2 hTo hli hdry hlh hla hpn hpl hops hTn hlast
              go_wp2_with (first
                | (go_at_call 11; with_reducible refine AD.out.mono ?_; rintro e y2 ⟨rfl, hO2⟩; have d2 := CX.out _ hO2.bel; have HO2 := Lib.hid hO2)
                | (go_at_call 32; with_reducible refine (SY.out _ _ HOP.out).mono ?_; rintro e y3 ⟨rfl, hO3⟩; have HO3 := Lib.hid hO3)
                | (at_builtin; obtain ⟨v0, W0, hr0, hOP⟩ := pu_app HO2.out 3 rfl x (by have := HPL.out; omega); refine wpList_builtin2_runF _ rfl .append Builtin.append_ _ _ _ _ rfl (fun _ _ _ => rfl) _ _ rfl rfl hr0 ?_; have HOP := Lib.hid (show Obs w W0 [pdOb p bl bd T2, txOb A0 oth, lgOb q p lg2, puOb v0 (put ++ [x])] from hOP); clear hr0 hOP))
              go_roundw
              case rel => exact ⟨j + 1, by go_num, HJ1.out, .inr ⟨by omega, T2.sync, q, lg2, put ++ [x], rfl, HO3.out, HS2.out.1, HS2.out.2.1, HLH2.out, HLA2.out, by simp, by have := HPL.out; simp; omega, by have := HS2.out.2.2.1; have := HTO.out; omega, by rw [HS2.out.2.2.2.1]; exact HTN.out⟩⟩
              case measure => simp [RowKit.intOf]; omega
            · as_aux_lemma =>
              rw [f2, f3, f4] at AD
              have HS2 := Lib.hid hli.sync
              have HTN := Lib.hid hTn
              have HTO := Lib.hid hops
              have HJ1 := Lib.hid (show j + 1 < xs.length by omega)
              have SY := Lib.hid (fun W (hO : Obs w W [pdOb p bl bd T, txOb A0 oth, lgOb q p lg, puOb u17 put]) => show Calls Tryz.prog 32 #[dp p] W (fun e w' => e = .returned (.int .i64 T.offE) ∧ Obs w w' [pdOb p bl bd T.sync, txOb A0 oth, lgOb q p lg, puOb u17 put]) from sync_o hO 0 rfl (by omega))
              generalize T.offE = oe2 at SY
              clear f1 f2 f3 f4 hO hli hdry hlh hla hpn hpl hops hTn hlast
              go_wp2_with (first
                | (go_at_call 11; with_reducible refine AD.out.mono ?_; rintro e y2 ⟨rfl, hO2⟩)
                | (go_at_call 32; with_reducible refine (SY.out _ hO2).mono ?_; rintro e y3 ⟨rfl, hO3⟩; have HO3 := Lib.hid hO3))
              go_roundw
              case rel => exact ⟨j + 1, by go_num, HJ1.out, .inr ⟨by omega, T.sync, q, lg, put, rfl, HO3.out, HS2.out.1, HS2.out.2.1, HLH.out, HLA.out, HPN.out, by have := HPL.out; omega, by have := HS2.out.2.2.1; have := HTO.out; omega, by rw [HS2.out.2.2.2.1]; exact HTN.out⟩⟩
              case measure => simp [RowKit.intOf]; omega
end Go.Proofs.YthfnncahmccgkaaGreatDoor
