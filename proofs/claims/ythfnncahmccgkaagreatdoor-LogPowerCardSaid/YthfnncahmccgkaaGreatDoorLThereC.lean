/-
  LogThere.
-/
import Derived.Test.YthfnncahmccgkaaGreatDoorLThings
namespace Go.Proofs.YthfnncahmccgkaaGreatDoor
open Go Go.RowKit Go.Maps
set_option maxRecDepth 100000
set_option linter.unusedSimpArgs false
set_option linter.unusedVariables false

theorem many_nat (W : World) (z : Nat) (h : z ≤ 9223372036854775807) : Calls Tryz.prog 30 #[.int .i64 (z : Int)] W fun e w' => e = .returned (.int .i64 (manyN z : Nat)) ∧ W = w' := by
  have := @many_top W (z : Int) (by omega) (by omega)
  rwa [manyI_nat] at this
/-- Behind the Begin, and j - 1 Adds. -/
def ThI (w0 W : World) (p bl bd q : Nat) (A0 : Option Addr) (v : Value) (n k age : Nat) (oth : List (List UInt8)) (j : Nat) : Prop :=
  ∃ T lg put, Obs w0 W [pdOb p bl bd T, txOb A0 oth, lgOb q p lg, puOb v put] ∧ LI T lg put oth ∧ lg.half = k ∧ lg.age = age ∧ put ≠ [] ∧ put.length ≤ j ∧ T.ops ≤ 300000 + j * 1000 ∧ T.was.length = n
/-- From New on: a law's disk behind raw. -/
def ThPost (w : World) (e : Ending) (w' : World) : Prop := e = .returned (.bool true) ∧ Below w.heap.size w w'
set_option maxHeartbeats 32000000 in
theorem logThere_walk {w : World} {n half more : Int} (hn : -9223372036854775808 ≤ n ∧ n ≤ 9223372036854775807) {A : Option Addr} {c : Nat} {l : List S2} (hl : S2At w A l) (hll : l.length ≤ 9223372036854775807)
    (hh : -9223372036854775808 ≤ half ∧ half ≤ 9223372036854775807) (hm : -9223372036854775808 ≤ more ∧ more ≤ 9223372036854775807) {B : Option Addr} {d : Nat} {xs : List (List UInt8)} (hx : Tx w B xs) (hxl : xs.length ≤ 140737488351232) (hxx : ∀ x ∈ xs, x.length ≤ 9223372036854775807) :
    Calls Tryz.prog 5 #[.int .i64 n, .slice A l.length c, .int .i64 half, .int .i64 more, .slice B xs.length d] w fun e w' => e = .returned (.bool true) ∧ Below w.heap.size w w' := by
  have LO := Lib.hid (fun W (hb : Below w.heap.size w W) => long12_any (hl.below hb) hll (c := c))
  have HL := Lib.hid hl
  have HX := Lib.hid hx
  have MA := Lib.hid (fun W (hb : Below w.heap.size w W) (h1 : xs.length ≤ 1000) => many12_any (hx.below hb) h1 hxx (c := d))
  have W3 : Hid (∀ W, Below w.heap.size w W → Calls Tryz.prog 10 #[] W fun e w' => e = .returned (.bool true) ∧ Below w.heap.size w w') := Lib.hid (fun W hW => works12_any.mono fun e w' h => ⟨h.1, hW.trans (h.2.mono hW.size)⟩)
  clear hl hx hxx
  go_enter Tryz.func5, Tryz.ntmps5
  go_wp2_with fail
  refine works12_any.mono ?_
  rintro e w1 ⟨rfl, hb1⟩
  have HB1 := Lib.hid hb1
  clear hb1
  go_wp2_with fail
  refine (LO.out _ HB1.out).mono ?_
  rintro e w2 ⟨b1, rfl, hs1, hb2⟩
  have HB2 := Lib.hid (HB1.out.trans (hb2.mono HB1.out.size))
  clear hb2
  cases b1 with
  | true =>
    clear hs1
    go_wp2_with fail
    refine (W3.out _ HB2.out).mono ?_
    rintro e w3 ⟨rfl, hb3⟩
    go_wp2_with fail
    go_ret
    exact ⟨rfl, hb3⟩
  | false =>
    have HSH := Lib.hid (hs1 rfl)
    clear hs1
    by_cases hn1 : n < 1
    · go_wp2_with fail
      refine (W3.out _ HB2.out).mono ?_
      rintro e w3 ⟨rfl, hb3⟩
      go_wp2_with fail
      go_ret
      exact ⟨rfl, hb3⟩
    by_cases hn2 : 40 < n
    · go_wp2_with fail
      refine (W3.out _ HB2.out).mono ?_
      rintro e w3 ⟨rfl, hb3⟩
      go_wp2_with fail
      go_ret
      exact ⟨rfl, hb3⟩
    by_cases hx30 : 30 < xs.length
    · have hx30' : (30 : Int) < (xs.length : Int) := by omega
      go_wp2_with fail
      refine (W3.out _ HB2.out).mono ?_
      rintro e w3 ⟨rfl, hb3⟩
      go_wp2_with fail
      go_ret
      exact ⟨rfl, hb3⟩
    have hx30' : ¬ (30 : Int) < (xs.length : Int) := by omega
    go_wp2_with fail
    refine (MA.out _ HB2.out (by omega)).mono ?_
    rintro e w4 ⟨b2, rfl, hs2, hb4⟩
    have HB4 := Lib.hid (HB2.out.trans (hb4.mono HB2.out.size))
    clear hb4
    cases b2 with
    | true =>
      clear hs2
      go_wp2_with fail
      refine (W3.out _ HB4.out).mono ?_
      rintro e w3 ⟨rfl, hb3⟩
      go_wp2_with fail
      go_ret
      exact ⟨rfl, hb3⟩
    | false =>
      have HFW := Lib.hid (hs2 rfl)
      clear hs2 W3 MA LO
      obtain ⟨N, rfl⟩ : ∃ N : Nat, n = N := ⟨n.toNat, by omega⟩
      have hN1 : 1 ≤ N := by omega
      have hN40 : N ≤ 40 := by omega
      have NW := Lib.hid (show Calls Tryz.prog 14 #[.int .i64 (N : Int)] w4 (fun e w' => ∃ p bl bd, e = .returned (.tuple #[dp p, .int .i64 0]) ∧ Obs w w' [pdOb p bl bd (DS.new N)]) from new_o ((Obs.start w).step HB4.out) (n := N) (by omega) (by omega))
      have hNl : (DS.new N).was.length = N := by simp [DS.new]
      have RW := Lib.hid (fun W p bl bd (hO : Obs w W [pdOb p bl bd (DS.new N)]) => raw_any hO (c := c) HL.out HSH.out (n := N) ⟨rfl, Int.le_refl _, hNl⟩ (by omega) (by show 0 ≤ 1000; decide))
      obtain ⟨u, k, hu, hu0, hu1, hmod, hk2, hkh⟩ := half_mod half hh
      have hkh2 := hkh.symm
      clear hkh
      obtain ⟨u2, hu2⟩ : ∃ u2, u2 = IntKind.u64.wrap more := ⟨_, rfl⟩
      have hu2b : 0 ≤ u2 ∧ u2 < 18446744073709551616 := by rw [hu2, IntKind.wrap_u64]; omega
      obtain ⟨r, hr⟩ : ∃ r : Nat, u2 % 1000 = (r : Int) := ⟨(u2 % 1000).toNat, by omega⟩
      have hu2' := hu2.symm
      have hu20 := hu2b.1
      have hwk : IntKind.i64.wrap (k : Int) = (k : Int) := IntWalk.i64_in _ (by omega)
      have hwr : IntKind.i64.wrap (r : Int) = (r : Int) := IntWalk.i64_in _ (by omega)
      have hr1000 : r < 1000 := by omega
      have TP := Lib.hid (fun W p bl bd S (hO : Obs w W [pdOb p bl bd S]) (hon : On N S) => show Calls Tryz.prog 15 #[dp p] W (fun e w' => ∃ t0 : Nat, e = .returned (.int .i64 (t0 : Int)) ∧ Obs w w' [pdOb p bl bd S] ∧ t0 = topL S.now ∧ t0 < 4294967296) from (top12_any (hO.get (i := 0) rfl)).mono fun e w' h => ⟨topL S.now, by rw [h.1, topZ, hon.on, if_neg (by simp)], hO.step h.2, rfl, by rw [topL_eq]; exact topM_lt _⟩)
      have hc1 : IntKind.i64.wrap (IntKind.u64.wrap more % 1000) = (r : Int) := by rw [← hu2, hr]; exact hwr
      clear hu2 hu2b hNl hxl hh hm hn hn1 hn2 hx30
      have hx30 : xs.length ≤ 30 := by omega
      go_wp2_with (first
        | (go_at_call 14; with_reducible refine NW.out.mono ?_; rintro e w4 ⟨p, bl, bd, rfl, hO4⟩)
        | (go_at_call 28; with_reducible refine (RW.out _ p bl bd hO4).mono ?_; rintro e w5 ⟨rfl, S, hO5, hon, hops⟩))
      refine (TP.out _ _ _ _ _ hO5 hon).mono ?_
      rintro e w6 ⟨t0, rfl, hO6, ht0, ht1⟩
      have HO6 := Lib.hid hO6
      have HON := Lib.hid hon
      have HOPS := Lib.hid hops
      have HT0 := Lib.hid ht0
      have hwt : IntKind.i64.wrap ((t0 : Int) + 1) = (t0 : Int) + 1 := IntWalk.i64_in _ (by omega)
      obtain ⟨AG, hAG⟩ : ∃ AG : Nat, AG = t0 + 1 + r := ⟨_, rfl⟩
      have hwt2 : IntKind.i64.wrap ((t0 : Int) + 1 + (r : Int)) = (AG : Int) := by rw [IntWalk.i64_in _ (by omega)]; omega
      have HAG := Lib.hid hAG
      have hAGp : 1 ≤ AG := by omega
      clear hO4 hO5 hO6 hon hops ht0 TP RW NW hAG hu1
      by_cases hA : 4294967296 ≤ AG
      · have hAi : (4294967296 : Int) ≤ (AG : Int) := by omega
        go_wp2_with fail
        go_ret
        exact ⟨rfl, HO6.out.bel⟩
      have hAi : ¬ (4294967296 : Int) ≤ (AG : Int) := by omega
      by_cases hx0 : xs.length = 0
      · go_wp2_with fail
        go_ret
        exact ⟨rfl, HO6.out.bel⟩
      have hAj : decide ((4294967296 : Int) ≤ (AG : Int)) = false := decide_eq_false hAi
      have HA := Lib.hid hA
      clear hA hAi ht1
      obtain ⟨k', hk'⟩ : ∃ k' : Nat, k' = 1 - k := ⟨_, rfl⟩
      have hk'2 : k' < 2 := by omega
      have hw1k : IntKind.i64.wrap (1 - (k : Int)) = (k' : Int) := by rw [IntWalk.i64_in _ (by omega)]; omega
      have HK' := Lib.hid hk'
      have SE := Lib.hid (fun W p bl bd S (os : List Ob) (hO : Obs w W (pdOb p bl bd S :: os)) (ho : S.off = false) => show Calls Tryz.prog 29 #[dp p, .int .i64 (k' : Int)] W (fun e w' => ∃ A c, e = .returned (.slice A (hsec S k').length c) ∧ (hsec S k').length ≤ c ∧ Obs w w' (pdOb p bl bd S :: os ++ [txOb A (hsec S k')])) from (sectors12_any (hO.get (i := 0) rfl) ho hk'2).mono fun e w' ⟨v, he, hro⟩ => by
        obtain ⟨A, c, rfl, hc, hO'⟩ := hO.addRo hro
        exact ⟨A, c, he, hc, hO'⟩)
      have HF := Lib.hid (fun W => show Calls Tryz.prog 16 #[.int .i64 (N : Int), .int .i64 (k : Int)] W (fun e w' => e = .returned (.tuple #[.int .i64 ((lfst N k : Nat) : Int), .int .i64 ((N / 2 : Nat) : Int)]) ∧ W = w') from by have := @half_any W (N : Int) (k : Int) (by omega); rwa [halfF_nat hk2] at this)
      have HSO := Lib.hid (PD.ok (HO6.out.get (i := 0) rfl))
      have hso : S.off = false := HON.out.on
      obtain ⟨b, o, rfl, c0⟩ := (HX.out.below HO6.out.bel).cell (k := 0) (by omega)
      clear c0
      have HXC := Lib.hid (fun W (hb : Below w.heap.size w W) j (hj : j < xs.length) => show W.cell? ⟨b, o + j, none⟩ = some (sv (xs.getD j [])) from by
        obtain ⟨b', o', e, hc⟩ := (HX.out.below hb).cell (k := j) hj
        cases e
        exact hc)
      obtain ⟨x0, hx0e⟩ : ∃ x0, x0 = xs.getD 0 [] := ⟨_, rfl⟩
      have hxl0 : x0.length ≤ 9000 := by rw [hx0e]; exact HFW.out 0
      have C0 := Lib.hid (fun W (hb : Below w.heap.size w W) => show W.cell? ⟨b, o, none⟩ = some (sv x0) from by rw [hx0e]; exact HXC.out W hb 0 (by omega))
      obtain ⟨M, hM⟩ : ∃ M : Nat, M = N / 2 := ⟨_, rfl⟩
      rw [← hM] at HF
      have HM := Lib.hid hM
      obtain ⟨m0, hm0⟩ : ∃ m0 : Nat, m0 = manyN x0.length := ⟨_, rfl⟩
      have MN0 := Lib.hid (fun W => many_nat W x0.length (by omega))
      rw [← hm0] at MN0
      have hsz0 : (str x0).size = x0.length := by show x0.toArray.size = _; simp
      have hmay : mayH (k : Int) (AG : Int) = true := by have := HAG.out; have := HA.out; simp only [mayH, decide_eq_true_eq]; omega
      have hbg := LI.begin HSO.out hso HON.out.lf (half := (k : Int)) (age := (AG : Int)) hmay (by rw [← HT0.out]; have := HAG.out; omega) x0
      rw [Int.toNat_natCast, Int.toNat_natCast, HON.out.len, ← hM, ← hm0, ← hk'] at hbg
      have hol : (hsec S k').length ≤ 1000000 := by rw [hsec_length HSO.out hk'2, HON.out.len]; omega
      have SE1 := Lib.hid (SE.out _ p bl bd S [] HO6.out hso)
      rcases hbg with ⟨f1, f2, f3, f4, f5, f6, f7, f8, f9⟩ | ⟨f1, f2, f3⟩
      · as_aux_lemma =>
        have hm0i : (m0 : Int) ≤ (M : Int) := by omega
        obtain ⟨oth, hot⟩ : ∃ oth, oth = hsec S k' := ⟨_, rfl⟩
        rw [← hot] at SE1 hol f3
        have BG := Lib.hid (fun W A0 (hO : Obs w W [pdOb p bl bd S, txOb A0 oth]) => show Calls Tryz.prog 7 #[dp p, .int .i64 (k : Int), .int .i64 (AG : Int), sv x0] W (fun e w' => ∃ q, e = .returned (.tuple #[dp q, .int .i64 0]) ∧ Obs w w' [pdOb p bl bd (begS S (k : Int) (AG : Int) x0), txOb A0 oth, lgOb q p (lwrL S (newL (k : Int) (AG : Int)) x0)]) from begin_ok_o hO 0 rfl (by have := HOPS.out; omega) (k : Int) (AG : Int) x0 (by omega) f2)
        have hm0b : m0 ≤ 100 := by rw [hm0]; have := manyN_lt x0.length; omega
        have hTn : (begS S (k : Int) (AG : Int) x0).was.length = N := by rw [f9]; exact HON.out.len
        have hTo : (begS S (k : Int) (AG : Int) x0).ops ≤ 300000 := by rw [f7]; have := HOPS.out; omega
        generalize begS S (k : Int) (AG : Int) x0 = T0 at BG hTn hTo f3
        generalize lwrL S (newL (k : Int) (AG : Int)) x0 = lg0 at BG f3 f4 f5
        have HLI0 := Lib.hid f3
        have HT0n := Lib.hid hTn
        have HT0o := Lib.hid hTo
        have HLH := Lib.hid f4
        have HLA := Lib.hid f5
        clear hot f1 f2 f3 f4 f5 f6 f7 f8 f9 hmay hm0 hx0e hM hso hk' hTn hTo hm0b
        go_wp2_with (first
          | (go_at_call 29; with_reducible refine SE1.out.mono ?_; rintro e w7 ⟨A0, cc0, rfl, hcc0, hO7⟩; have d0 := C0.out _ hO7.bel)
          | (go_at_call 16; with_reducible refine (HF.out _).mono ?_; rintro e w8 ⟨rfl, rfl⟩)
          | (go_at_call 7; with_reducible refine (BG.out _ _ hO7).mono ?_; rintro e w9 ⟨q, rfl, hO9⟩; have d9 := C0.out _ hO9.bel; have HO9 := Lib.hid hO9)
          | (go_at_call 30; with_reducible refine (MN0.out _).mono ?_; rintro e w8 ⟨rfl, rfl⟩)
          | (at_builtin; obtain ⟨v0, W0, hr0, hOP⟩ := pu_app (puOb_nil HO9.out) 3 rfl x0 (by simp); refine wpList_builtin2_runF _ rfl .append Builtin.append_ _ _ _ _ rfl (fun _ _ _ => rfl) _ _ rfl rfl hr0 ?_; clear hr0))
        have HOP := Lib.hid (show Obs w W0 [pdOb p bl bd T0, txOb A0 oth, lgOb q p lg0, puOb v0 [x0]] from hOP)
        clear hOP d0 d9 hO7 hO9
        go_loopw [19, 20, 21, 22, 23, 24] (fun v jx a1 a2 a3 a4 W => ∃ j : Nat, jx = .int .i64 (j : Int) ∧ 1 ≤ j ∧ j ≤ xs.length ∧ ∃ T lg put, Obs w W [pdOb p bl bd T, txOb A0 oth, lgOb q p lg, puOb v put] ∧ LI T lg put oth ∧ lg.half = k ∧ lg.age = AG ∧ put ≠ [] ∧ put.length ≤ j ∧ T.ops ≤ 300000 + j * 1000 ∧ T.was.length = N) (fun _ jx _ _ _ _ _ => 40 - (RowKit.intOf jx).toNat)
        case atStart => exact ⟨1, rfl, by omega, by omega, T0, lg0, [x0], HOP.out, HLI0.out, HLH.out, HLA.out, by simp, by simp, by have := HT0o.out; omega, HT0n.out⟩
        case round =>
          clear HOP
          obtain ⟨j, rfl, hj1, hjx, T, lg, put, hO, hli, hlh, hla, hpn, hpl, hops, hTn⟩ := hrel
          have HO := Lib.hid hO
          have HLI := Lib.hid hli
          have HLH := Lib.hid hlh
          have HLA := Lib.hid hla
          have HPN := Lib.hid hpn
          have HTO := Lib.hid hops
          have HTN := Lib.hid hTn
          have HPL := Lib.hid hpl
          by_cases hj : j < xs.length
          · have hji : (j : Int) < (xs.length : Int) := by omega
            have hj0 : (0 : Int) ≤ (j : Int) := by omega
            have hwj : IntKind.i64.wrap ((j : Int) + 1) = (j : Int) + 1 := IntWalk.i64_in _ (by omega)
            obtain ⟨x, hxe⟩ : ∃ x, x = xs.getD j [] := ⟨_, rfl⟩
            have hxl : x.length ≤ 9000 := by rw [hxe]; exact HFW.out j
            have CX := Lib.hid (fun W (hb : Below w.heap.size w W) => show W.cell? ⟨b, o + j, none⟩ = some (sv x) from by rw [hxe]; exact HXC.out W hb j hj)
            have hszx : (str x).size = x.length := by show x.toArray.size = _; simp
            obtain ⟨m, hm⟩ : ∃ m : Nat, m = manyN x.length := ⟨_, rfl⟩
            have hmb : m ≤ 100 := by rw [hm]; have := manyN_lt x.length; omega
            have MN := Lib.hid (fun W => many_nat W x.length (by omega))
            rw [← hm] at MN
            have hadd := hli.add x
            rw [← hm] at hadd
            obtain ⟨rm, hrm⟩ : ∃ rm : Nat, rm = T.was.length / 2 - lg.used := ⟨_, rfl⟩
            rw [← hrm] at hadd
            have hrmb : rm ≤ 100 := by omega
            have RM := Lib.hid (show Calls Tryz.prog 12 #[dp q] wr (fun e w' => e = .returned (.int .i64 (rm : Nat)) ∧ Obs w w' [pdOb p bl bd T, txOb A0 oth, lgOb q p lg, puOb u19 put]) from by have := room_o hO 0 rfl 2 rfl hli.lo; rwa [← hrm] at this)
            have OP := Lib.hid (fun W (hO : Obs w W [pdOb p bl bd T, txOb A0 oth, lgOb q p lg, puOb u19 put]) => ops_o hO 0 rfl)
            have AD := Lib.hid (fun W (hO : Obs w W [pdOb p bl bd T, txOb A0 oth, lgOb q p lg, puOb u19 put]) => show Calls Tryz.prog 11 #[dp q, sv x] W (fun e w' => e = .returned (.int .i64 (addE T lg x)) ∧ Obs w w' [pdOb p bl bd (addS T lg x), txOb A0 oth, lgOb q p (addL T lg x), puOb u19 put]) from add_o hO 0 rfl 2 (by decide) rfl hli.lo (by omega) x (by omega))
            obtain ⟨op, hop⟩ : ∃ op, op = T.ops := ⟨_, rfl⟩
            rw [← hop] at OP
            have hopb : op ≤ 400000 := by omega
            rcases hadd with ⟨f1, f2, f3, f4, f5, f6, f7, f8, f9⟩ | ⟨f1, f2, f3, f4⟩
            · as_aux_lemma =>
              have hf1 : (m : Int) ≤ (rm : Int) := by omega
              rw [f2] at AD
              have hws : IntKind.i64.wrap ((rm : Int) - (m : Int)) = ((rm - m : Nat) : Int) := by rw [IntWalk.i64_in _ (by omega)]; omega
              have hwo : IntKind.i64.wrap ((op : Int) + (m : Int)) = ((op + m : Nat) : Int) := by rw [IntWalk.i64_in _ (by omega)]; omega
              obtain ⟨rm2, hrm2⟩ : ∃ rm2, rm2 = rm - m := ⟨_, rfl⟩
              obtain ⟨op2, hop2⟩ : ∃ op2, op2 = op + m := ⟨_, rfl⟩
              rw [← hrm2] at hws
              rw [← hop2] at hwo
              have f7' : (addS T lg x).ops = op2 := by rw [f7, hop2, hop]
              have hTn2 : (addS T lg x).was.length = N := by rw [f9]; exact hTn
              have f6' : (addS T lg x).was.length / 2 - (addL T lg x).used = rm2 := by rw [f9, f6, hrm2, hrm]; omega
              generalize addS T lg x = T2 at AD f3 f7' f6' hTn2
              generalize addL T lg x = lg2 at AD f3 f4 f5 f6'
              have RM2 := Lib.hid (fun W (hO : Obs w W [pdOb p bl bd T2, txOb A0 oth, lgOb q p lg2, puOb u19 put]) => show Calls Tryz.prog 12 #[dp q] W (fun e w' => e = .returned (.int .i64 (rm2 : Nat)) ∧ Obs w w' [pdOb p bl bd T2, txOb A0 oth, lgOb q p lg2, puOb u19 put]) from by have := room_o hO 0 rfl 2 rfl f3.lo; rwa [f6'] at this)
              have OP2 := Lib.hid (fun W (hO : Obs w W [pdOb p bl bd T2, txOb A0 oth, lgOb q p lg2, puOb u19 put]) => show Calls Tryz.prog 17 #[dp p] W (fun e w' => e = .returned (.int .i64 (op2 : Nat)) ∧ Obs w w' [pdOb p bl bd T2, txOb A0 oth, lgOb q p lg2, puOb u19 put]) from by have := ops_o hO 0 rfl; rwa [f7'] at this)
              have HLI2 := Lib.hid f3
              have HLH2 := Lib.hid (f4.trans hlh)
              have HLA2 := Lib.hid (f5.trans hla)
              have HTO2 := Lib.hid (show T2.ops ≤ 300000 + (j + 1) * 1000 by rw [f7', hop2]; omega)
              have HTN2 := Lib.hid hTn2
              clear f1 f2 f3 f4 f5 f6 f7 f8 f9 f6' f7' hTn2 hop hrm hm hxe hli hO hlh hla hpn hpl hops hTn hrm2 hop2
              go_wp2_with (first
                | (go_at_call 12; with_reducible refine (RM2.out _ rO3).mono ?_; rintro e y4 ⟨rfl, rO4⟩)
                | (go_at_call 12; with_reducible refine RM.out.mono ?_; rintro e y1 ⟨rfl, rO1⟩)
                | (go_at_call 17; with_reducible refine (OP2.out _ rO4).mono ?_; rintro e y5 ⟨rfl, rO5⟩; have d5 := CX.out _ rO5.bel; have RO5 := Lib.hid rO5)
                | (go_at_call 17; with_reducible refine (OP.out _ rO1).mono ?_; rintro e y2 ⟨rfl, rO2⟩; have d2 := CX.out _ rO2.bel)
                | (go_at_call 11; with_reducible refine (AD.out _ rO2).mono ?_; rintro e y3 ⟨rfl, rO3⟩; have d3 := CX.out _ rO3.bel)
                | (go_at_call 30; with_reducible refine (MN.out _).mono ?_; rintro e w8 ⟨rfl, rfl⟩)
                | (at_builtin; obtain ⟨v0, W0, hr0, hOP⟩ := pu_app RO5.out 3 rfl x (by have := HPL.out; omega); refine wpList_builtin2_runF _ rfl .append Builtin.append_ _ _ _ _ rfl (fun _ _ _ => rfl) _ _ rfl rfl hr0 ?_; have HOP := Lib.hid (show Obs w W0 [pdOb p bl bd T2, txOb A0 oth, lgOb q p lg2, puOb v0 (put ++ [x])] from hOP); clear hr0 hOP))
              go_roundw
              case rel => exact ⟨j + 1, by go_num, by omega, by omega, T2, lg2, put ++ [x], HOP.out, HLI2.out, HLH2.out, HLA2.out, by simp, by have := HPL.out; simp; omega, HTO2.out, HTN2.out⟩
              case measure => simp [RowKit.intOf]; omega
            · as_aux_lemma =>
              have hf1 : ¬ (m : Int) ≤ (rm : Int) := by omega
              rw [f2, f3, f4] at AD
              have RM2 := Lib.hid (fun W (hO : Obs w W [pdOb p bl bd T, txOb A0 oth, lgOb q p lg, puOb u19 put]) => show Calls Tryz.prog 12 #[dp q] W (fun e w' => e = .returned (.int .i64 (rm : Nat)) ∧ Obs w w' [pdOb p bl bd T, txOb A0 oth, lgOb q p lg, puOb u19 put]) from by have := room_o hO 0 rfl 2 rfl hli.lo; rwa [← hrm] at this)
              clear f1 f2 f3 f4 hop hrm hm hxe hli hO hlh hla hpn hpl hops hTn
              go_wp2_with (first
                | (go_at_call 12; with_reducible refine (RM2.out _ rO3).mono ?_; rintro e y4 ⟨rfl, rO4⟩)
                | (go_at_call 12; with_reducible refine RM.out.mono ?_; rintro e y1 ⟨rfl, rO1⟩)
                | (go_at_call 17; with_reducible refine (OP.out _ rO4).mono ?_; rintro e y5 ⟨rfl, rO5⟩; have d5 := CX.out _ rO5.bel; have RO5 := Lib.hid rO5)
                | (go_at_call 17; with_reducible refine (OP.out _ rO1).mono ?_; rintro e y2 ⟨rfl, rO2⟩; have d2 := CX.out _ rO2.bel)
                | (go_at_call 11; with_reducible refine (AD.out _ rO2).mono ?_; rintro e y3 ⟨rfl, rO3⟩; have d3 := CX.out _ rO3.bel)
                | (go_at_call 30; with_reducible refine (MN.out _).mono ?_; rintro e w8 ⟨rfl, rfl⟩))
              go_roundw
              case rel => exact ⟨j + 1, by go_num, by omega, by omega, T, lg, put, RO5.out, HLI.out, HLH.out, HLA.out, HPN.out, by have := HPL.out; omega, by have := HTO.out; omega, HTN.out⟩
              case measure => simp [RowKit.intOf]; omega
          · have hji : ¬ (j : Int) < (xs.length : Int) := by omega
            have hoth : hsec T k' = oth := by rw [HK'.out, ← hlh]; exact hli.other
            have hon2 := hli.on
            have SE2 := Lib.hid (SE.out _ p bl bd T [txOb A0 oth, lgOb q p lg, puOb u19 put] hO hon2)
            rw [hoth] at SE2
            obtain ⟨A3, c3, rfl, hT3⟩ := pu_form (hO.get (i := 3) rfl)
            have SM := Lib.hid (fun W A1 c1 (hO : Obs w W [pdOb p bl bd T, txOb A0 oth, lgOb q p lg, puOb (.slice A3 put.length c3) put, txOb A1 oth]) => show Calls Tryz.prog 31 #[.slice A1 oth.length c1, .slice A0 oth.length cc0] W (fun e w' => e = .returned (.bool true) ∧ Obs w w' [pdOb p bl bd T, txOb A0 oth, lgOb q p lg, puOb (.slice A3 put.length c3) put, txOb A1 oth]) from (same12_any oth oth A1 A0 c1 cc0 (hO.get (i := 4) rfl) (hO.get (i := 1) rfl) hol hol).mono fun e w' h => ⟨by rw [h.1]; simp, hO.step h.2⟩)
            have HS := Lib.hid (fun W os (hO : Obs w W (pdOb p bl bd T :: os)) (hT : Tx W A3 put) => show Calls Tryz.prog 20 #[dp p, .int .i64 (k : Int), .int .i64 (AG : Int), .slice A3 put.length c3] W (fun e w' => e = .returned (.bool true) ∧ Obs w w' (pdOb p bl bd T :: os)) from (has12_any (hO.get (i := 0) rfl) (k : Int) (AG : Int) (c := c3) hT (by omega)).mono fun e w' h => ⟨by rw [h.1, hasB_true (by have := hli.has hpn; rwa [hlh, hla] at this)], hO.step h.2⟩)
            have TP := Lib.hid (fun W os (hO : Obs w W (pdOb p bl bd T :: os)) => show Calls Tryz.prog 15 #[dp p] W (fun e w' => e = .returned (.int .i64 (AG : Int)) ∧ Obs w w' (pdOb p bl bd T :: os)) from (top12_any (hO.get (i := 0) rfl)).mono fun e w' h => ⟨by rw [h.1, topZ, hon2, if_neg (by simp), hli.topIs hpn, hla], hO.step h.2⟩)
            have HT3 := Lib.hid (fun W os (hO : Obs w W (pdOb p bl bd T :: txOb A0 oth :: lgOb q p lg :: puOb (.slice A3 put.length c3) put :: os)) => show Tx W A3 put from by
              obtain ⟨A', c', e, h⟩ := pu_form (hO.get (i := 3) rfl)
              cases e
              exact h)
            clear hoth hon2 hli hO hlh hla hpn hpl hops hTn hT3
            go_wp2_with (first
              | (go_at_call 29; with_reducible refine SE2.out.mono ?_; rintro e y1 ⟨A1, c1, rfl, hc1, hO1⟩)
              | (go_at_call 31; with_reducible refine (SM.out _ _ _ hO1).mono ?_; rintro e y2 ⟨rfl, hO2⟩)
              | (go_at_call 20; with_reducible refine (HS.out _ _ hO2 (HT3.out _ _ hO2)).mono ?_; rintro e y3 ⟨rfl, hO3⟩)
              | (go_at_call 15; with_reducible refine (TP.out _ _ hO3).mono ?_; rintro e y4 ⟨rfl, hO4⟩))
            go_ret
            exact ⟨rfl, hO4.bel⟩
      · have hm0i : ¬ (m0 : Int) ≤ (M : Int) := by omega
        have BG := Lib.hid (fun W A0 (hO : Obs w W [pdOb p bl bd S, txOb A0 (hsec S k')]) => show Calls Tryz.prog 7 #[dp p, .int .i64 (k : Int), .int .i64 (AG : Int), sv x0] W (fun e w' => e = .returned (.tuple #[.pointer none, .int .i64 41]) ∧ Obs w w' [pdOb p bl bd S, txOb A0 (hsec S k')]) from by
          have := begin_no_o hO 0 rfl (by have := HOPS.out; omega) (k : Int) (AG : Int) x0 (by omega) f2 (by decide)
          rw [f3] at this
          exact this)
        have HSOFF := Lib.hid hso
        obtain ⟨oth, hot⟩ : ∃ oth, oth = hsec S k' := ⟨_, rfl⟩
        rw [← hot] at SE1 BG hol
        have HSOF := Lib.hid hot.symm
        clear hot f1 f2 f3 hmay hm0 hx0e hM hso hk'
        go_wp2_with (first
          | (go_at_call 29; with_reducible refine SE1.out.mono ?_; rintro e w7 ⟨A0, cc0, rfl, hcc0, hO7⟩; have d0 := C0.out _ hO7.bel)
          | (go_at_call 16; with_reducible refine (HF.out _).mono ?_; rintro e w8 ⟨rfl, rfl⟩)
          | (go_at_call 7; with_reducible refine (BG.out _ _ hO7).mono ?_; rintro e w9 ⟨rfl, hO9⟩; have d9 := C0.out _ hO9.bel; have HO9 := Lib.hid hO9)
          | (go_at_call 30; with_reducible refine (MN0.out _).mono ?_; rintro e w8 ⟨rfl, rfl⟩))
        go_loopw [19, 20, 21, 22, 23, 24] (fun v jx a1 a2 a3 a4 W => v = .slice none 0 0 ∧ jx = .int .i64 1 ∧ Obs w W [pdOb p bl bd S, txOb A0 oth]) (fun _ _ _ _ _ _ _ => 1)
        case atStart => exact ⟨rfl, rfl, HO9.out⟩
        case round =>
          obtain ⟨rfl, rfl, hOr⟩ := hrel
          have HOR := Lib.hid hOr
          have SM := Lib.hid (fun W A1 c1 (hO : Obs w W [pdOb p bl bd S, txOb A0 oth, txOb A1 oth]) => show Calls Tryz.prog 31 #[.slice A1 oth.length c1, .slice A0 oth.length cc0] W (fun e w' => e = .returned (.bool true) ∧ Obs w w' [pdOb p bl bd S, txOb A0 oth, txOb A1 oth]) from (same12_any oth oth A1 A0 c1 cc0 (hO.get (i := 2) rfl) (hO.get (i := 1) rfl) hol hol).mono fun e w' h => ⟨by rw [h.1]; simp, hO.step h.2⟩)
          have SE2 := Lib.hid (SE.out _ p bl bd S [txOb A0 oth] hOr HSOFF.out)
          rw [HSOF.out] at SE2
          clear hOr
          by_cases h1 : 1 < xs.length
          · have h1i : (1 : Int) < (xs.length : Int) := by omega
            go_wp2_with (first
              | (go_at_call 29; with_reducible refine SE2.out.mono ?_; rintro e y1 ⟨A1, c1, rfl, hc1, hO1⟩)
              | (go_at_call 31; with_reducible refine (SM.out _ _ _ hO1).mono ?_; rintro e y2 ⟨rfl, hO2⟩))
            go_ret
            exact ⟨rfl, hO2.bel⟩
          · have h1i : ¬ (1 : Int) < (xs.length : Int) := by omega
            go_wp2_with (first
              | (go_at_call 29; with_reducible refine SE2.out.mono ?_; rintro e y1 ⟨A1, c1, rfl, hc1, hO1⟩)
              | (go_at_call 31; with_reducible refine (SM.out _ _ _ hO1).mono ?_; rintro e y2 ⟨rfl, hO2⟩))
            go_ret
            exact ⟨rfl, hO2.bel⟩
end Go.Proofs.YthfnncahmccgkaaGreatDoor
