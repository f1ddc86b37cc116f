/-
  ReplyPlays's walk: true for any lines, and any bytes.
-/
import Derived.Deep.QuietTactic
import Derived.BigQuiet
import Derived.Deep.RegionWith
import Derived.Deep.RegionHeld3
import Derived.Test.YtanfonpbnamjmaaDoorYPlayP
namespace Go.Proofs.YtanfonpbnamjmaaDoor
open Go Go.RowKit Go.Shelf
set_option maxRecDepth 100000

theorem plays_long (xs : List (List UInt8)) (v u : Value) (w : World) (hw : LW w) (hx : SR w v xs) (hn : xs.length ≤ 140737488351232) (hl : ∀ x ∈ xs, x.length ≤ 9223372036854775807) (hb : longB xs = true) (Au : Option Addr) (nu cu : Nat) (hu : u = .slice Au nu cu) :
    Calls Tryd.prog 4 #[v, u] w fun e w' => e = .returned (.bool true) ∧ Below w.heap.size w w' := by
  have HL := Lib.hid (long_any xs v w hx hn hl)
  rw [hb] at HL
  have HA := Lib.hid (awake_any w hw)
  obtain ⟨A, c, rfl, _⟩ := hx
  subst hu
  clear hw hl hb
  go_enter Tryd.func4, Tryd.ntmps4
  go_wp2_with fail
  refine (HL.out).mono ?_
  rintro e w1 ⟨rfl, rfl⟩
  go_wp2_with fail
  refine (HA.out).mono ?_
  rintro e w2 ⟨rfl, hb⟩
  have B1 := Lib.hid hb
  clear hb
  go_wp2_with fail
  go_ret
  exact ⟨rfl, B1.out⟩

/-- Bytes that come in. -/
def BR (W : World) (v : Value) (bs : List UInt8) : Prop :=
  ∃ A c, v = .slice A bs.length c ∧ (bs = [] ∨ ∃ b o, A = some ⟨b, o, none⟩ ∧ b < W.heap.size ∧ ∀ k, ∀ h : k < bs.length, W.cell? ⟨b, o + k, none⟩ = some (.int .u8 (bs[k].toNat : Int)))
/-- What a round begins and ends by. -/
def PI (w W : World) (b x : Nat) : Prop := BL w W ∧ ∃ F G raw st, PP w W b F st x G raw st
theorem pp_start {w W1 W2 : World} {b x : Nat} (h1 : Rd w.heap.size W1 b [b] rs0) (hb1 : BL w W1) (hx : x = W1.heap.size) (h2 : W2 = W1.alloc (.cells #[.slice none 0 0, .int .i64 0, sv [], .slice none 0 0, .bool false, .bool false] 37)) : PI w W2 b x := by
  have hb2 : Below W1.heap.size W1 W2 := by rw [h2]; exact below_alloc _ _
  have e1 := h1.lt b (by simp)
  refine ⟨hb1.step hb2, [b], [], [], rs0, h1.below hb2, ⟨by simp, ⟨by rw [hx]; exact hb1.size, by rw [hx]; exact hb1.lw.pos⟩, rfl, fun x h => by simp at h, fun h => absurd rfl h, by decide, fun _ => ⟨rfl, rfl⟩, .slice none 0 0, .slice none 0 0, by rw [h2, hx]; exact heap_alloc_new _ _, RowG.nil _ _, RowG.nil _ _, fun _ => rfl, fun _ => rfl⟩, by simp; omega, fun k e => by simp at e, fun k e => by simp at e⟩
def okl : List UInt8 := [50, 53, 48, 32, 111, 107]
/-- Both, whatever blocks they have: a reader of the program's at c, of the reference's at y, the same of each; a second pair that plays on. -/
def TwoX (w W : World) (c : Nat) (t : RS) (y b x : Nat) : Prop := ∃ H K rawy F G raw s, Two w W c H (takenR t) y K rawy (takenR t) b F s x G raw s
theorem TwoX.of {w W : World} {b x c y : Nat} {F G H K : List Nat} {raw rawy : List (List UInt8)} {s t : RS} (h : Two w W c H (takenR t) y K rawy (takenR t) b F s x G raw s) : TwoX w W c t y b x := ⟨_, _, _, _, _, _, _, h⟩
theorem TwoX.below {w W W' : World} {c y b x : Nat} {t : RS} (h : TwoX w W c t y b x) (hb : Below W.heap.size W W') : TwoX w W' c t y b x := by
  obtain ⟨H, K, ry, F, G, r, s, h⟩ := h
  exact ⟨H, K, ry, F, G, r, s, h.below hb⟩
theorem TwoX.dead {w W : World} {c y b x : Nat} {t : RS} (h : TwoX w W c t y b x) {d : Bool} (hd : t.d = d) : Calls Tryd.prog 22 #[.pointer (some ⟨c, 0, none⟩)] W fun e W' => e = .returned (.bool d) ∧ W' = W := by
  obtain ⟨H, K, ry, F, G, r, s, h⟩ := h
  exact (two_dead h hd).mono fun e W' ⟨h1, h2⟩ => ⟨h1, h2.symm⟩
theorem TwoX.xdead {w W : World} {c y b x : Nat} {t : RS} (h : TwoX w W c t y b x) {d : Bool} (hd : t.d = d) : W.cell? ⟨y, 5, none⟩ = some (.bool d) := by
  obtain ⟨H, K, ry, F, G, r, s, h⟩ := h
  exact h.xdead hd
theorem TwoX.pi {w W : World} {c y b x : Nat} {t : RS} (h : TwoX w W c t y b x) : PI w W b x := by
  obtain ⟨H, K, ry, F, G, r, s, h⟩ := h
  exact ⟨h.bl, F, G, r, s, h.q⟩
theorem lls_len {n : Nat} {w : World} {b : Nat} {F : List Nat} {st : RS} (h : Rd n w b F st) : st.lls.length ≤ 1000000 := by have := h.len.2; omega
theorem two_deadN {w W : World} {b x c y : Nat} {F G H K : List Nat} {raw rawy : List (List UInt8)} {s1 s2 t1 t2 : RS} (h : Two w W b F s1 x G raw s2 c H t1 y K rawy t2) {d : Bool} (hd : s1.d = d) (n : Nat) :
    Calls Tryd.prog 22 #[.pointer (some ⟨b, 0, none⟩)] (W.drewN n) fun e W' => e = .returned (.bool d) ∧ W' = W.drewN n :=
  (two_dead (h.below (below_drewN (Below.refl _ _) n)) hd).mono fun e W' ⟨h1, h2⟩ => ⟨h1, h2.symm⟩
theorem two_told2 {w W : World} {b x c y : Nat} {F G H K S : List Nat} {raw rawy : List (List UInt8)} {s1 s2 t1 t2 : RS} (h : Two w W b F s1 x G raw s2 c H t1 y K rawy t2) {lc : Nat} {lst : List UInt8} {lls : List (List UInt8)} {v u : Value} (hg : Rw w.heap.size W S v lls) (hu : RowIs W u lls) (hl : lls.length ≤ 1000000)
    (hd : (∀ k ∈ S, w.heap.size ≤ k ∧ 4 + 1 ≤ k) ∧ (∀ k ∈ S, k ∉ F) ∧ x ∉ S ∧ (∀ k ∈ G, k ∉ S) ∧ (∀ k ∈ H, k ∉ S) ∧ y ∉ S ∧ (∀ k ∈ K, k ∉ S)) :
    Calls Tryd.prog 25 #[repV lc lst v, repV lc lst u] W fun e W' => e = .returned (.bool true) ∧ Two w W' b F s1 x G raw s2 c H t1 y K rawy t2 ∧ Kp S W W' :=
  (told_any lc lst lls v u W S hg hu hl).mono fun e W' ⟨he, hk⟩ => ⟨he, h.wrote (S0 := S) hk hd.1 hd.2.1 hd.2.2.1 hd.2.2.2.1 hd.2.2.2.2.1 hd.2.2.2.2.2.1 hd.2.2.2.2.2.2, hk⟩
/-- One pair alone. -/
theorem pp_take {w W : World} {b x : Nat} {F G : List Nat} {raw : List (List UInt8)} {st : RS} (h : PP w W b F st x G raw st) (hb : BL w W) :
    Calls Tryd.prog 23 #[.pointer (some ⟨b, 0, none⟩)] W fun e W' => ∃ u F' S, e = .returned (.tuple #[repV st.lc st.lst u, .bool (decide (0 < st.lls.length))]) ∧ PP w W' b F' (takenR st) x G raw st ∧ BL w W' ∧ Rw w.heap.size W' S u st.lls ∧ (∀ k ∈ S, w.heap.size ≤ k ∧ 4 + 1 ≤ k) ∧ x ∉ S :=
  (take_of h.r hb rfl rfl rfl rfl).mono fun e W' ⟨u, F', S, he, hr, hg, hb', hk, hn, _, _, hs⟩ =>
    ⟨u, F', S, he, h.left hk hn hr, hb', hg, fun k e => ⟨(h.r.up k (hs k e)).1, (h.r.up k (hs k e)).2.1⟩, fun e => h.xf (hs _ e)⟩
theorem pp_xtake {w W : World} {b x : Nat} {F G : List Nat} {raw : List (List UInt8)} {s1 st : RS} (h : PP w W b F s1 x G raw st) (hb : BL w W) :
    Calls Tryd.prog 24 #[.pointer (some ⟨x, 0, none⟩)] W fun e W' => ∃ u, e = .returned (.tuple #[repV st.lc st.lst u, .bool (decide (0 < st.lls.length))]) ∧ BL w W' ∧ RowIs W' u st.lls ∧ Kp [x] W W' :=
  (xtake_any h.xr).mono fun e W' ⟨u, he, hx, hu, hk⟩ => ⟨u, he, hb.kp hk (fun k e => by simp at e; subst e; exact h.xr.up), hu.row, hk⟩
theorem bne_self_b (a : Bool) : (a != a) = false := by cases a <;> rfl
theorem bne_self_i (a : Int) : (a != a) = false := by simp

set_option maxHeartbeats 64000000 in
theorem plays_short (xs : List (List UInt8)) (bs : List UInt8) (v u : Value) (w : World) (hw : LW w) (hx : SR w v xs) (hu : BR w u bs) (hn : xs.length ≤ 140737488351232) (hl : ∀ x ∈ xs, x.length ≤ 9223372036854775807) (hb : longB xs = false) :
    Calls Tryd.prog 4 #[v, u] w fun e w' => e = .returned (.bool true) ∧ Below w.heap.size w w' := by
  have HL := Lib.hid (long_any xs v w hx hn hl)
  rw [hb] at HL
  have HX := Lib.hid (show ∀ x ∈ xs, x.length ≤ 1000000 from fun x h => by
    have := bulk_mem h
    unfold longB at hb
    have := of_decide_eq_false hb
    omega)
  have HSR := Lib.hid hx
  have HBR := Lib.hid hu
  have HB := Lib.hid (BL.start hw)
  obtain ⟨A, c, rfl, hxs⟩ := hx
  have HXS := Lib.hid hxs
  obtain ⟨A2, c2, rfl, hus⟩ := hu
  have HUS := Lib.hid hus
  clear hw hl hb hxs hus
  go_enter Tryd.func4, Tryd.ntmps4
  go_wp2_with fail
  refine (HL.out).mono ?_
  rintro e w1 ⟨rfl, rfl⟩
  go_wp2_with fail
  refine (new_of HB.out).mono ?_
  rintro e w3 ⟨b, rfl, -, r, hb, -⟩
  have R3 := Lib.hid r; have B3 := Lib.hid hb
  clear r hb
  go_wp2_with fail
  obtain ⟨x, hx0⟩ : ∃ k, k = w3.heap.size := ⟨_, rfl⟩
  obtain ⟨W0, hW0⟩ : ∃ X, X = w3.alloc (Obj.cells #[.slice none 0 0, .int .i64 0, .string { data := #[] }, .slice none 0 0, .bool false, .bool false] 37) := ⟨_, rfl⟩
  rw [← hx0, ← hW0]
  have H0 := Lib.hid (show PI w W0 b x from pp_start R3.out B3.out hx0 hW0)
  clear hx0 hW0
  go_loopw [4, 7, 8, 9, 10, 11, 12, 13, 14, 15, 16, 17, 18, 19, 20, 21, 22] (fun _ i _ _ _ _ _ _ _ _ _ _ _ _ _ _ _ wr => ∃ k : Nat, k ≤ xs.length ∧ i = .int .i64 k ∧ PI w wr b x) (fun _ i _ _ _ _ _ _ _ _ _ _ _ _ _ _ _ _ => xs.length - (intOf i).toNat)
  case atStart => exact ⟨0, Nat.zero_le _, rfl, H0.out⟩
  case round =>
    obtain ⟨k, hk, rfl, hbl, F, G, raw, st, hpp⟩ := hrel
    by_cases hlt : k < xs.length
    · obtain ⟨s, hs'⟩ : ∃ s, s = xs[k] := ⟨_, rfl⟩
      have hsl : s.length ≤ 1000000 := by rw [hs']; exact HX.out _ (List.getElem_mem hlt)
      have HSL := Lib.hid hsl
      have HCX := Lib.hid (show ∀ W, BL w W → ∀ bb oo, A = some ⟨bb, oo, none⟩ → W.cell? ⟨bb, oo + k, none⟩ = some (sv s) from fun W hb bb oo e => by
        obtain ⟨A', c', e', h⟩ := HSR.out
        simp only [Value.slice.injEq] at e'
        obtain ⟨rfl, _, rfl⟩ := e'
        rcases h with h | ⟨b', o', e2, hl2, hc2⟩
        · rw [h] at hlt; simp at hlt
        · rw [e] at e2
          simp only [Option.some.injEq, Addr.mk.injEq] at e2
          obtain ⟨rfl, rfl, _⟩ := e2
          rw [hs']
          exact (hb.below.cell (p := ⟨bb, oo + k, none⟩) hl2).trans (hc2 k hlt))
      obtain ⟨bb, oo, rfl⟩ : ∃ bb oo, A = some ⟨bb, oo, none⟩ := by
        rcases HXS.out with h | ⟨b', o', e2, _⟩
        · rw [h] at hlt; simp at hlt
        · exact ⟨b', o', e2⟩
      have HP := Lib.hid hpp; have HBL := Lib.hid hbl
      obtain ⟨dn, hdn⟩ : ∃ z, z = doneR st s := ⟨_, rfl⟩
      obtain ⟨er, her⟩ : ∃ z, z = errR st s := ⟨_, rfl⟩
      obtain ⟨sn, hsn⟩ : ∃ z, z = stepR st s := ⟨_, rfl⟩
      obtain ⟨dd, hdd⟩ : ∃ z, z = sn.d := ⟨_, rfl⟩
      have HDN := Lib.hid hdn; have HER := Lib.hid her; have HSN := Lib.hid hsn; have HDD := Lib.hid hdd
      have g1 := bne_self_b dn; have g2 := bne_self_i er; have g3 := bne_self_b dd
      clear hs' hsl hpp hbl hdn her hsn hdd
      go_wp2_with fail
      refine (pp_copy HP.out HBL.out).mono ?_
      rintro e w4 ⟨c', H, rfl, r4, b4, p4, n4, s4, x4, f4, gg4⟩
      have R4 := Lib.hid r4; have B4 := Lib.hid b4; have P4 := Lib.hid p4; have N4 := Lib.hid n4; have S4 := Lib.hid s4; have X4 := Lib.hid x4; have F4 := Lib.hid f4; have G4 := Lib.hid gg4
      clear r4 b4 p4 n4 s4 x4 f4 gg4
      go_wp2_with fail
      refine (pp_xcopy P4.out B4.out R4.out N4.out S4.out X4.out F4.out G4.out).mono ?_
      rintro e w5 ⟨y, rfl, t5⟩
      have T5 := Lib.hid t5
      have q5 := HCX.out _ t5.bl bb oo rfl
      clear t5
      go_wp2_with fail
      refine (two_line T5.out HSL.out HDN.out.symm HER.out.symm HSN.out.symm).mono ?_
      rintro e w6 ⟨F6, rfl, t6⟩
      have T6 := Lib.hid t6
      have q6 := HCX.out _ t6.bl bb oo rfl
      clear t6 q5
      go_wp2_with fail
      refine (two_xline T6.out HSL.out HDN.out.symm HER.out.symm HSN.out.symm).mono ?_
      rintro e w7 ⟨G7, raw7, rfl, t7⟩
      have T7 := Lib.hid t7
      have q7 := t7.xdead HDD.out.symm
      have D7 := Lib.hid (fun n => two_deadN t7 HDD.out.symm n)
      clear t7 q6
      go_wp2_with fail
      go_quiet ((go_at_call 22; exact Calls.quiet_of_same (D7.out _)))
      clear q7
      have TZ := Lib.hid (T7.out.below (below_drewN (Below.refl _ _) nq))
      obtain ⟨wz, hwz⟩ : ∃ z, z = w7.drewN nq := ⟨_, rfl⟩
      rw [← hwz] at TZ ⊢
      clear hwz
      obtain ⟨lc, hlc⟩ : ∃ z, z = sn.lc := ⟨_, rfl⟩
      obtain ⟨lst, hlst⟩ : ∃ z, z = sn.lst := ⟨_, rfl⟩
      obtain ⟨lls, hlls⟩ : ∃ z, z = sn.lls := ⟨_, rfl⟩
      obtain ⟨has, hhas⟩ : ∃ z, z = decide (0 < lls.length) := ⟨_, rfl⟩
      have HLC := Lib.hid hlc; have HLST := Lib.hid hlst; have HLLS := Lib.hid hlls; have HHAS := Lib.hid hhas
      have HLEN := Lib.hid (show lls.length ≤ 1000000 from by rw [hlls]; exact lls_len TZ.out.p.r)
      have g4 := bne_self_b has
      clear hlc hlst hlls hhas
      obtain ⟨dn2, hdn2⟩ : ∃ z, z = doneR st okl := ⟨_, rfl⟩
      obtain ⟨er2, her2⟩ : ∃ z, z = errR st okl := ⟨_, rfl⟩
      obtain ⟨st2, hst2⟩ : ∃ z, z = stepR st okl := ⟨_, rfl⟩
      obtain ⟨lc2, hlc2⟩ : ∃ z, z = st2.lc := ⟨_, rfl⟩
      obtain ⟨lst2, hlst2⟩ : ∃ z, z = st2.lst := ⟨_, rfl⟩
      obtain ⟨lls2, hlls2⟩ : ∃ z, z = st2.lls := ⟨_, rfl⟩
      obtain ⟨has2, hhas2⟩ : ∃ z, z = decide (0 < lls2.length) := ⟨_, rfl⟩
      obtain ⟨dd2, hdd2⟩ : ∃ z, z = st2.d := ⟨_, rfl⟩
      have EDN := Lib.hid hdn2; have EER := Lib.hid her2; have EST := Lib.hid hst2; have ELC := Lib.hid hlc2; have ELST := Lib.hid hlst2; have ELLS := Lib.hid hlls2; have EHAS := Lib.hid hhas2; have EDD := Lib.hid hdd2
      have g5 := bne_self_b has2; have g6 := bne_self_b dd2
      clear hdn2 her2 hst2 hlc2 hlst2 hlls2 hhas2 hdd2
      clear T5 T6 T7 D7 R4 B4 P4 N4 S4 X4 F4 G4 HP HBL
      by_cases hkb : k < bs.length
      · obtain ⟨m, hm⟩ : ∃ z, z = (bs[k].toNat : Int) := ⟨_, rfl⟩
        have HCB := Lib.hid (show ∀ W, BL w W → ∀ b2 o2, A2 = some ⟨b2, o2, none⟩ → W.cell? ⟨b2, o2 + k, none⟩ = some (.int .u8 m) from fun W hb b2 o2 e => by
          obtain ⟨A', c', e', h⟩ := HBR.out
          simp only [Value.slice.injEq] at e'
          obtain ⟨rfl, _, rfl⟩ := e'
          rcases h with h | ⟨b', o', e2, hl2, hc2⟩
          · rw [h] at hkb; simp at hkb
          · rw [e] at e2
            simp only [Option.some.injEq, Addr.mk.injEq] at e2
            obtain ⟨rfl, rfl, _⟩ := e2
            rw [hm]
            exact (hb.below.cell (p := ⟨b2, o2 + k, none⟩) hl2).trans (hc2 k hkb))
        obtain ⟨b2, o2, rfl⟩ : ∃ b2 o2, A2 = some ⟨b2, o2, none⟩ := by
          rcases HUS.out with h | ⟨b', o', e2, _⟩
          · rw [h] at hkb; simp at hkb
          · exact ⟨b', o', e2⟩
        have qm := HCB.out _ TZ.out.bl b2 o2 rfl
        clear hm
        cases p1 : (bits BinOp.and IntKind.u8 m 1 == 1) with
        | false =>
          cases p2 : (bits BinOp.and IntKind.u8 m 2 == 2) with
          | false =>
            go_wp2_with fail
            refine (two_line (s := okl) TZ.out.symm (by decide) EDN.out.symm EER.out.symm EST.out.symm).mono ?_
            rintro e v1 ⟨H1, rfl, tq⟩
            replace TZ := Lib.hid tq
            clear tq
            go_wp2_with fail
            refine (two_xline (s := okl) TZ.out (by decide) EDN.out.symm EER.out.symm EST.out.symm).mono ?_
            rintro e v2 ⟨G2, raw2, rfl, tq⟩
            replace TZ := Lib.hid tq
            have LEN2 := Lib.hid (show lls2.length ≤ 1000000 from by rw [ELLS.out]; exact lls_len tq.p.r)
            clear tq
            go_wp2_with fail
            refine (two_take TZ.out ELC.out.symm ELST.out.symm ELLS.out.symm EHAS.out.symm).mono ?_
            rintro e va ⟨ua2, Fa2, Sa2, rfl, ta, ga, da⟩
            obtain ⟨Aa2, ca2, rfl⟩ := ga.form
            obtain ⟨ka2, hka⟩ : ∃ z, z = va.heap.size := ⟨_, rfl⟩
            obtain ⟨va', hwa⟩ : ∃ z, z = va.alloc (Obj.cells #[.int .i64 (lc2 : Int), sv lst2, .slice Aa2 lls2.length ca2] 42) := ⟨_, rfl⟩
            have hba : Below va.heap.size va va' := by rw [hwa]; exact below_alloc _ _
            have TA := Lib.hid (ta.below hba); have GA := Lib.hid (ga.below hba); have DA := Lib.hid da; have GA0 := Lib.hid ga.2.2
            have VA := Lib.hid (show Bk va' ka2 lc2 lst2 (.slice Aa2 lls2.length ca2) by rw [hwa, hka]; exact Bk.new _ _ _ _)
            have HKA := Lib.hid hka; have HWA := Lib.hid hwa; have NA := Lib.hid (show ka2 ∉ [y] by have := ta.p.xr.lt; simp; omega)
            clear ta ga da hba hka hwa
            unfold repV
            go_wp2_with fail
            rw [← HKA.out, ← HWA.out]
            refine (two_xtake TA.out ELC.out.symm ELST.out.symm ELLS.out.symm EHAS.out.symm GA.out DA.out).mono ?_
            rintro e vb ⟨ub, Gb2, rfl, tb, hub, gb, kb, db⟩
            have hub2 := hub
            obtain ⟨Ab2, cb2, rfl, -⟩ := hub2
            obtain ⟨kb2, hkb2⟩ : ∃ z, z = vb.heap.size := ⟨_, rfl⟩
            have HKB := Lib.hid hkb2
            obtain ⟨vb', hwb⟩ : ∃ z, z = vb.alloc (Obj.cells #[.int .i64 (lc2 : Int), sv lst2, .slice Ab2 lls2.length cb2] 35) := ⟨_, rfl⟩
            have hbb : Below vb.heap.size vb vb' := by rw [hwb]; exact below_alloc _ _
            have TB := Lib.hid (tb.below hbb)
            have VB := (VA.out.kp kb NA.out).below hbb
            have VR : vb'.heap[kb2]? = some (.cells #[.int .i64 (lc2 : Int), sv lst2, .slice Ab2 lls2.length cb2] 35 (0, 0)) := by rw [hwb, hkb2]; exact heap_alloc_new _ _
            have NA2 : ka2 ∉ Sa2 := fun e => by have := GA0.out _ e; rw [HKA.out] at this; omega
            have NB2 : kb2 ∉ Sa2 := fun e => by have := gb.2.2 _ e; rw [hkb2] at this; omega
            obtain ⟨BEF, hBEF⟩ : ∃ P : World → Prop, P = fun W => Below vb'.heap.size vb' W := ⟨_, rfl⟩
            obtain ⟨AFT, hAFT⟩ : ∃ P : World → Prop, P = fun W => TwoX w W c' st2 y b x ∧ Bk W ka2 lc2 lst2 (.slice Aa2 lls2.length ca2) ∧ W.heap[kb2]? = some (.cells #[.int .i64 (lc2 : Int), sv lst2, .slice Ab2 lls2.length cb2] 35 (0, 0)) := ⟨_, rfl⟩
            have e0 : BEF vb' := by rw [hBEF]; exact Below.refl _ _
            have HBD := Lib.hid (show ∀ W, BEF W → BEF W.drew from fun W h => by rw [hBEF] at h ⊢; exact Below.drew h)
            have HAD := Lib.hid (show ∀ W, AFT W → AFT W.drew from fun W h => by rw [hAFT] at h ⊢; exact ⟨h.1.below (Below.refl _ _).drew, h.2.1, h.2.2⟩)
            have HAF := Lib.hid (show ∀ W, AFT W → TwoX w W c' st2 y b x from fun W h => by rw [hAFT] at h; exact h.1)
            have HBT := Lib.hid (show ∀ W, BEF W → Two w W c' _ _ y _ _ _ b _ _ x _ _ _ from fun W h => by rw [hBEF] at h; exact (tb.below hbb).below h)
            have HCE := Lib.hid (show ∀ W, BEF W ∨ AFT W → W.cell? ⟨ka2, 0, none⟩ = some (.int .i64 (lc2 : Int)) ∧ W.cell? ⟨ka2, 1, none⟩ = some (sv lst2) ∧ W.cell? ⟨ka2, 2, none⟩ = some (.slice Aa2 lls2.length ca2) ∧ W.cell? ⟨kb2, 0, none⟩ = some (.int .i64 (lc2 : Int)) ∧ W.cell? ⟨kb2, 1, none⟩ = some (sv lst2) ∧ W.cell? ⟨kb2, 2, none⟩ = some (.slice Ab2 lls2.length cb2) ∧ W.cell? ⟨y, 5, none⟩ = some (.bool dd2) from fun W h => by
              have h1 : Bk W ka2 lc2 lst2 (.slice Aa2 lls2.length ca2) := by
                rcases h with h | h
                · rw [hBEF] at h; exact VB.below h
                · rw [hAFT] at h; exact h.2.1
              have h2 : W.heap[kb2]? = some (.cells #[.int .i64 (lc2 : Int), sv lst2, .slice Ab2 lls2.length cb2] 35 (0, 0)) := by
                rcases h with h | h
                · rw [hBEF] at h; exact blk_below VR h
                · rw [hAFT] at h; exact h.2.2
              have h3 : W.cell? ⟨y, 5, none⟩ = some (.bool dd2) := by
                rcases h with h | h
                · exact (HBT.out W h).xdead (d := dd2) (by show (takenR st2).d = dd2; rw [EDD.out]; rfl)
                · exact (HAF.out W h).xdead EDD.out.symm
              exact ⟨h1.c0, h1.c1, h1.c2, by rw [cellAt h2]; rfl, by rw [cellAt h2]; rfl, by rw [cellAt h2]; rfl, h3⟩)
            have HDD := Lib.hid (show ∀ W, BEF W ∨ AFT W → Calls Tryd.prog 22 #[.pointer (some ⟨c', 0, none⟩)] W fun e W' => e = .returned (.bool dd2) ∧ W' = W from fun W h => by
              rcases h with h | h
              · exact (two_dead (HBT.out W h) (d := dd2) (by show (takenR st2).d = dd2; rw [EDD.out]; rfl)).mono fun e W' ⟨h1, h2⟩ => ⟨h1, h2.symm⟩
              · exact (HAF.out W h).dead EDD.out.symm)
            have HTT := Lib.hid (show ∀ W, BEF W → Calls Tryd.prog 25 #[.agg #[.int .i64 (lc2 : Int), sv lst2, .slice Aa2 lls2.length ca2], .agg #[.int .i64 (lc2 : Int), sv lst2, .slice Ab2 lls2.length cb2]] W fun e W' => e = .returned (.bool true) ∧ AFT W' from fun W h => by
              have h' := h
              rw [hBEF] at h'
              rw [hAFT]
              exact (two_told2 (lc := lc2) (lst := lst2) (HBT.out W h) ((gb.below hbb).below h') ((hub.row.step hbb).step h') LEN2.out db).mono fun e W' ⟨h1, h2, h3⟩ => ⟨h1, TwoX.of h2, (VB.below h').kp h3 NA2, (h3.block kb2 (lt_of_blk (blk_below VR h')) NB2).trans (blk_below VR h')⟩)
            have HWB := Lib.hid hwb
            have hc0 := HCE.out _ (.inl e0)
            clear tb hub gb kb db VB VR hbb hwb hBEF hAFT NA2 NB2 HBT hkb2
            unfold repV
            go_wp2_with fail
            rw [← HKB.out, ← HWB.out]
            go_region_held3 (fun W => (BEF W ∨ AFT W) ∧ W.cell? ⟨ka2, 0, none⟩ = some (.int .i64 (lc2 : Int)) ∧ W.cell? ⟨ka2, 1, none⟩ = some (sv lst2) ∧ W.cell? ⟨ka2, 2, none⟩ = some (.slice Aa2 lls2.length ca2) ∧ W.cell? ⟨kb2, 0, none⟩ = some (.int .i64 (lc2 : Int)) ∧ W.cell? ⟨kb2, 1, none⟩ = some (sv lst2) ∧ W.cell? ⟨kb2, 2, none⟩ = some (.slice Ab2 lls2.length cb2) ∧ W.cell? ⟨y, 5, none⟩ = some (.bool dd2))
              (first | exact ⟨.inl (by assumption), HCE.out _ (.inl (by assumption))⟩ | exact ⟨.inr (by assumption), HCE.out _ (.inr (by assumption))⟩ | exact ⟨.inl (HBD.out _ (by assumption)), HCE.out _ (.inl (HBD.out _ (by assumption)))⟩ | exact ⟨.inr (HAD.out _ (by assumption)), HCE.out _ (.inr (HAD.out _ (by assumption)))⟩)
              (first
                | (go_at_call 25; with_reducible refine (HTT.out _ (by first | assumption | exact HBD.out _ (by assumption))).mono ?_; rintro e1 w8 ⟨rfl, hR⟩)
                | (go_at_call 22; with_reducible refine (HDD.out _ (by first | exact .inl (by assumption) | exact .inr (by assumption) | exact .inl (HBD.out _ (by assumption)) | exact .inr (HAD.out _ (by assumption)))).mono ?_; rintro e2 w9 ⟨rfl, rfl⟩))
            all_goals
              have HR := Lib.hid (HAF.out _ hR)
              clear hR e0
              go_wp2_with fail
              exact ⟨⟨k + 1, by omega, by go_num, by first | exact HR.out.pi | exact (HR.out.below (Below.refl _ _).drew).pi⟩, by simp [intOf]; omega⟩
          | true =>
            go_wp2_with fail
            refine (two_reset TZ.out).mono ?_
            rintro e wc ⟨rfl, tc⟩
            obtain ⟨wc', hwc⟩ : ∃ z, z = (((((wc.setCell ⟨x, 0, none⟩ (.slice none 0 0)).setCell ⟨x, 1, none⟩ (.int .i64 0)).setCell ⟨x, 2, none⟩ (sv [])).setCell ⟨x, 3, none⟩ (.slice none 0 0)).setCell ⟨x, 4, none⟩ (.bool false)).setCell ⟨x, 5, none⟩ (.bool false) := ⟨_, rfl⟩
            replace TZ := Lib.hid tc.xreset
            rw [← hwc] at TZ
            have HWC := Lib.hid hwc
            obtain ⟨-, -, -, -, -, -, -, xv, xu, xb, -⟩ := tc.p.xr
            have x0 := xb.c0; have x1 := xb.c1; have x2 := xb.c2; have x3 := xb.c3; have x4 := xb.c4; have x5 := xb.c5
            have y0 := xb.fr 0; have y1 := xb.fr 1; have y2 := xb.fr 2; have y3 := xb.fr 3; have y4 := xb.fr 4; have y5 := xb.fr 5
            clear tc xb hwc
            go_wp2_with fail
            rw [← HWC.out]
            clear x0 x1 x2 x3 x4 x5 y0 y1 y2 y3 y4 y5
            refine (two_line (s := okl) TZ.out.symm (by decide) EDN.out.symm EER.out.symm EST.out.symm).mono ?_
            rintro e v1 ⟨H1, rfl, tq⟩
            replace TZ := Lib.hid tq
            clear tq
            go_wp2_with fail
            refine (two_xline (s := okl) TZ.out (by decide) EDN.out.symm EER.out.symm EST.out.symm).mono ?_
            rintro e v2 ⟨G2, raw2, rfl, tq⟩
            replace TZ := Lib.hid tq
            have LEN2 := Lib.hid (show lls2.length ≤ 1000000 from by rw [ELLS.out]; exact lls_len tq.p.r)
            clear tq
            go_wp2_with fail
            refine (two_take TZ.out ELC.out.symm ELST.out.symm ELLS.out.symm EHAS.out.symm).mono ?_
            rintro e va ⟨ua2, Fa2, Sa2, rfl, ta, ga, da⟩
            obtain ⟨Aa2, ca2, rfl⟩ := ga.form
            obtain ⟨ka2, hka⟩ : ∃ z, z = va.heap.size := ⟨_, rfl⟩
            obtain ⟨va', hwa⟩ : ∃ z, z = va.alloc (Obj.cells #[.int .i64 (lc2 : Int), sv lst2, .slice Aa2 lls2.length ca2] 42) := ⟨_, rfl⟩
            have hba : Below va.heap.size va va' := by rw [hwa]; exact below_alloc _ _
            have TA := Lib.hid (ta.below hba); have GA := Lib.hid (ga.below hba); have DA := Lib.hid da; have GA0 := Lib.hid ga.2.2
            have VA := Lib.hid (show Bk va' ka2 lc2 lst2 (.slice Aa2 lls2.length ca2) by rw [hwa, hka]; exact Bk.new _ _ _ _)
            have HKA := Lib.hid hka; have HWA := Lib.hid hwa; have NA := Lib.hid (show ka2 ∉ [y] by have := ta.p.xr.lt; simp; omega)
            clear ta ga da hba hka hwa
            unfold repV
            go_wp2_with fail
            rw [← HKA.out, ← HWA.out]
            refine (two_xtake TA.out ELC.out.symm ELST.out.symm ELLS.out.symm EHAS.out.symm GA.out DA.out).mono ?_
            rintro e vb ⟨ub, Gb2, rfl, tb, hub, gb, kb, db⟩
            have hub2 := hub
            obtain ⟨Ab2, cb2, rfl, -⟩ := hub2
            obtain ⟨kb2, hkb2⟩ : ∃ z, z = vb.heap.size := ⟨_, rfl⟩
            have HKB := Lib.hid hkb2
            obtain ⟨vb', hwb⟩ : ∃ z, z = vb.alloc (Obj.cells #[.int .i64 (lc2 : Int), sv lst2, .slice Ab2 lls2.length cb2] 35) := ⟨_, rfl⟩
            have hbb : Below vb.heap.size vb vb' := by rw [hwb]; exact below_alloc _ _
            have TB := Lib.hid (tb.below hbb)
            have VB := (VA.out.kp kb NA.out).below hbb
            have VR : vb'.heap[kb2]? = some (.cells #[.int .i64 (lc2 : Int), sv lst2, .slice Ab2 lls2.length cb2] 35 (0, 0)) := by rw [hwb, hkb2]; exact heap_alloc_new _ _
            have NA2 : ka2 ∉ Sa2 := fun e => by have := GA0.out _ e; rw [HKA.out] at this; omega
            have NB2 : kb2 ∉ Sa2 := fun e => by have := gb.2.2 _ e; rw [hkb2] at this; omega
            obtain ⟨BEF, hBEF⟩ : ∃ P : World → Prop, P = fun W => Below vb'.heap.size vb' W := ⟨_, rfl⟩
            obtain ⟨AFT, hAFT⟩ : ∃ P : World → Prop, P = fun W => TwoX w W c' st2 y b x ∧ Bk W ka2 lc2 lst2 (.slice Aa2 lls2.length ca2) ∧ W.heap[kb2]? = some (.cells #[.int .i64 (lc2 : Int), sv lst2, .slice Ab2 lls2.length cb2] 35 (0, 0)) := ⟨_, rfl⟩
            have e0 : BEF vb' := by rw [hBEF]; exact Below.refl _ _
            have HBD := Lib.hid (show ∀ W, BEF W → BEF W.drew from fun W h => by rw [hBEF] at h ⊢; exact Below.drew h)
            have HAD := Lib.hid (show ∀ W, AFT W → AFT W.drew from fun W h => by rw [hAFT] at h ⊢; exact ⟨h.1.below (Below.refl _ _).drew, h.2.1, h.2.2⟩)
            have HAF := Lib.hid (show ∀ W, AFT W → TwoX w W c' st2 y b x from fun W h => by rw [hAFT] at h; exact h.1)
            have HBT := Lib.hid (show ∀ W, BEF W → Two w W c' _ _ y _ _ _ b _ _ x _ _ _ from fun W h => by rw [hBEF] at h; exact (tb.below hbb).below h)
            have HCE := Lib.hid (show ∀ W, BEF W ∨ AFT W → W.cell? ⟨ka2, 0, none⟩ = some (.int .i64 (lc2 : Int)) ∧ W.cell? ⟨ka2, 1, none⟩ = some (sv lst2) ∧ W.cell? ⟨ka2, 2, none⟩ = some (.slice Aa2 lls2.length ca2) ∧ W.cell? ⟨kb2, 0, none⟩ = some (.int .i64 (lc2 : Int)) ∧ W.cell? ⟨kb2, 1, none⟩ = some (sv lst2) ∧ W.cell? ⟨kb2, 2, none⟩ = some (.slice Ab2 lls2.length cb2) ∧ W.cell? ⟨y, 5, none⟩ = some (.bool dd2) from fun W h => by
              have h1 : Bk W ka2 lc2 lst2 (.slice Aa2 lls2.length ca2) := by
                rcases h with h | h
                · rw [hBEF] at h; exact VB.below h
                · rw [hAFT] at h; exact h.2.1
              have h2 : W.heap[kb2]? = some (.cells #[.int .i64 (lc2 : Int), sv lst2, .slice Ab2 lls2.length cb2] 35 (0, 0)) := by
                rcases h with h | h
                · rw [hBEF] at h; exact blk_below VR h
                · rw [hAFT] at h; exact h.2.2
              have h3 : W.cell? ⟨y, 5, none⟩ = some (.bool dd2) := by
                rcases h with h | h
                · exact (HBT.out W h).xdead (d := dd2) (by show (takenR st2).d = dd2; rw [EDD.out]; rfl)
                · exact (HAF.out W h).xdead EDD.out.symm
              exact ⟨h1.c0, h1.c1, h1.c2, by rw [cellAt h2]; rfl, by rw [cellAt h2]; rfl, by rw [cellAt h2]; rfl, h3⟩)
            have HDD := Lib.hid (show ∀ W, BEF W ∨ AFT W → Calls Tryd.prog 22 #[.pointer (some ⟨c', 0, none⟩)] W fun e W' => e = .returned (.bool dd2) ∧ W' = W from fun W h => by
              rcases h with h | h
              · exact (two_dead (HBT.out W h) (d := dd2) (by show (takenR st2).d = dd2; rw [EDD.out]; rfl)).mono fun e W' ⟨h1, h2⟩ => ⟨h1, h2.symm⟩
              · exact (HAF.out W h).dead EDD.out.symm)
            have HTT := Lib.hid (show ∀ W, BEF W → Calls Tryd.prog 25 #[.agg #[.int .i64 (lc2 : Int), sv lst2, .slice Aa2 lls2.length ca2], .agg #[.int .i64 (lc2 : Int), sv lst2, .slice Ab2 lls2.length cb2]] W fun e W' => e = .returned (.bool true) ∧ AFT W' from fun W h => by
              have h' := h
              rw [hBEF] at h'
              rw [hAFT]
              exact (two_told2 (lc := lc2) (lst := lst2) (HBT.out W h) ((gb.below hbb).below h') ((hub.row.step hbb).step h') LEN2.out db).mono fun e W' ⟨h1, h2, h3⟩ => ⟨h1, TwoX.of h2, (VB.below h').kp h3 NA2, (h3.block kb2 (lt_of_blk (blk_below VR h')) NB2).trans (blk_below VR h')⟩)
            have HWB := Lib.hid hwb
            have hc0 := HCE.out _ (.inl e0)
            clear tb hub gb kb db VB VR hbb hwb hBEF hAFT NA2 NB2 HBT hkb2
            unfold repV
            go_wp2_with fail
            rw [← HKB.out, ← HWB.out]
            go_region_held3 (fun W => (BEF W ∨ AFT W) ∧ W.cell? ⟨ka2, 0, none⟩ = some (.int .i64 (lc2 : Int)) ∧ W.cell? ⟨ka2, 1, none⟩ = some (sv lst2) ∧ W.cell? ⟨ka2, 2, none⟩ = some (.slice Aa2 lls2.length ca2) ∧ W.cell? ⟨kb2, 0, none⟩ = some (.int .i64 (lc2 : Int)) ∧ W.cell? ⟨kb2, 1, none⟩ = some (sv lst2) ∧ W.cell? ⟨kb2, 2, none⟩ = some (.slice Ab2 lls2.length cb2) ∧ W.cell? ⟨y, 5, none⟩ = some (.bool dd2))
              (first | exact ⟨.inl (by assumption), HCE.out _ (.inl (by assumption))⟩ | exact ⟨.inr (by assumption), HCE.out _ (.inr (by assumption))⟩ | exact ⟨.inl (HBD.out _ (by assumption)), HCE.out _ (.inl (HBD.out _ (by assumption)))⟩ | exact ⟨.inr (HAD.out _ (by assumption)), HCE.out _ (.inr (HAD.out _ (by assumption)))⟩)
              (first
                | (go_at_call 25; with_reducible refine (HTT.out _ (by first | assumption | exact HBD.out _ (by assumption))).mono ?_; rintro e1 w8 ⟨rfl, hR⟩)
                | (go_at_call 22; with_reducible refine (HDD.out _ (by first | exact .inl (by assumption) | exact .inr (by assumption) | exact .inl (HBD.out _ (by assumption)) | exact .inr (HAD.out _ (by assumption)))).mono ?_; rintro e2 w9 ⟨rfl, rfl⟩))
            all_goals
              have HR := Lib.hid (HAF.out _ hR)
              clear hR e0
              go_wp2_with fail
              exact ⟨⟨k + 1, by omega, by go_num, by first | exact HR.out.pi | exact (HR.out.below (Below.refl _ _).drew).pi⟩, by simp [intOf]; omega⟩
        | true =>
          cases p2 : (bits BinOp.and IntKind.u8 m 2 == 2) with
          | false =>
            go_wp2_with fail
            refine (two_take TZ.out HLC.out.symm HLST.out.symm HLLS.out.symm HHAS.out.symm).mono ?_
            rintro e wa ⟨ua, Fa, Sa, rfl, ta, ga, da⟩
            obtain ⟨Aa, ca, rfl⟩ := ga.form
            obtain ⟨ka, hka⟩ : ∃ z, z = wa.heap.size := ⟨_, rfl⟩
            obtain ⟨wa', hwa⟩ : ∃ z, z = wa.alloc (Obj.cells #[.int .i64 (lc : Int), sv lst, .slice Aa lls.length ca] 42) := ⟨_, rfl⟩
            have hba : Below wa.heap.size wa wa' := by rw [hwa]; exact below_alloc _ _
            have TA := Lib.hid (ta.below hba); have GA := Lib.hid (ga.below hba); have DA := Lib.hid da
            have VA := Lib.hid (show Bk wa' ka lc lst (.slice Aa lls.length ca) by rw [hwa, hka]; exact Bk.new _ _ _ _)
            have HKA := Lib.hid hka; have HWA := Lib.hid hwa; have NA := Lib.hid (show ka ∉ [x] by have := ta.p.xr.lt; simp; omega)
            clear ta ga da hba hka hwa
            unfold repV
            go_wp2_with fail
            rw [← HKA.out, ← HWA.out]
            refine (two_xtake TA.out HLC.out.symm HLST.out.symm HLLS.out.symm HHAS.out.symm GA.out DA.out).mono ?_
            rintro e wb ⟨ub, Gb, rfl, tb, hub, gb, kb, db⟩
            have hub2 := hub
            obtain ⟨Ab, cb, rfl, -⟩ := hub2
            obtain ⟨wb', hwb⟩ : ∃ z, z = wb.alloc (Obj.cells #[.int .i64 (lc : Int), sv lst, .slice Ab lls.length cb] 35) := ⟨_, rfl⟩
            have hbb : Below wb.heap.size wb wb' := by rw [hwb]; exact below_alloc _ _
            have TB := Lib.hid (tb.below hbb)
            have HTD := Lib.hid (two_told (lc := lc) (lst := lst) (tb.below hbb) (gb.below hbb) (hub.row.step hbb) HLEN.out db)
            unfold repV at HTD
            have VB := (VA.out.kp kb NA.out).below hbb
            have a0 := VB.c0; have a1 := VB.c1; have a2 := VB.c2
            rw [hwb] at a0 a1 a2
            have HWB := Lib.hid hwb
            clear tb hub gb kb db VB hbb hwb
            unfold repV
            go_wp2_with fail
            rw [← HWB.out]
            clear a0 a1 a2
            refine (HTD.out).mono ?_
            rintro e wt ⟨rfl, tt⟩
            replace TZ := Lib.hid tt
            clear tt TA GA DA VA HKA HWA NA TB HTD HWB
            go_wp2_with fail
            refine (two_line (s := okl) TZ.out.symm (by decide) EDN.out.symm EER.out.symm EST.out.symm).mono ?_
            rintro e v1 ⟨H1, rfl, tq⟩
            replace TZ := Lib.hid tq
            clear tq
            go_wp2_with fail
            refine (two_xline (s := okl) TZ.out (by decide) EDN.out.symm EER.out.symm EST.out.symm).mono ?_
            rintro e v2 ⟨G2, raw2, rfl, tq⟩
            replace TZ := Lib.hid tq
            have LEN2 := Lib.hid (show lls2.length ≤ 1000000 from by rw [ELLS.out]; exact lls_len tq.p.r)
            clear tq
            go_wp2_with fail
            refine (two_take TZ.out ELC.out.symm ELST.out.symm ELLS.out.symm EHAS.out.symm).mono ?_
            rintro e va ⟨ua2, Fa2, Sa2, rfl, ta, ga, da⟩
            obtain ⟨Aa2, ca2, rfl⟩ := ga.form
            obtain ⟨ka2, hka⟩ : ∃ z, z = va.heap.size := ⟨_, rfl⟩
            obtain ⟨va', hwa⟩ : ∃ z, z = va.alloc (Obj.cells #[.int .i64 (lc2 : Int), sv lst2, .slice Aa2 lls2.length ca2] 42) := ⟨_, rfl⟩
            have hba : Below va.heap.size va va' := by rw [hwa]; exact below_alloc _ _
            have TA := Lib.hid (ta.below hba); have GA := Lib.hid (ga.below hba); have DA := Lib.hid da; have GA0 := Lib.hid ga.2.2
            have VA := Lib.hid (show Bk va' ka2 lc2 lst2 (.slice Aa2 lls2.length ca2) by rw [hwa, hka]; exact Bk.new _ _ _ _)
            have HKA := Lib.hid hka; have HWA := Lib.hid hwa; have NA := Lib.hid (show ka2 ∉ [y] by have := ta.p.xr.lt; simp; omega)
            clear ta ga da hba hka hwa
            unfold repV
            go_wp2_with fail
            rw [← HKA.out, ← HWA.out]
            refine (two_xtake TA.out ELC.out.symm ELST.out.symm ELLS.out.symm EHAS.out.symm GA.out DA.out).mono ?_
            rintro e vb ⟨ub, Gb2, rfl, tb, hub, gb, kb, db⟩
            have hub2 := hub
            obtain ⟨Ab2, cb2, rfl, -⟩ := hub2
            obtain ⟨kb2, hkb2⟩ : ∃ z, z = vb.heap.size := ⟨_, rfl⟩
            have HKB := Lib.hid hkb2
            obtain ⟨vb', hwb⟩ : ∃ z, z = vb.alloc (Obj.cells #[.int .i64 (lc2 : Int), sv lst2, .slice Ab2 lls2.length cb2] 35) := ⟨_, rfl⟩
            have hbb : Below vb.heap.size vb vb' := by rw [hwb]; exact below_alloc _ _
            have TB := Lib.hid (tb.below hbb)
            have VB := (VA.out.kp kb NA.out).below hbb
            have VR : vb'.heap[kb2]? = some (.cells #[.int .i64 (lc2 : Int), sv lst2, .slice Ab2 lls2.length cb2] 35 (0, 0)) := by rw [hwb, hkb2]; exact heap_alloc_new _ _
            have NA2 : ka2 ∉ Sa2 := fun e => by have := GA0.out _ e; rw [HKA.out] at this; omega
            have NB2 : kb2 ∉ Sa2 := fun e => by have := gb.2.2 _ e; rw [hkb2] at this; omega
            obtain ⟨BEF, hBEF⟩ : ∃ P : World → Prop, P = fun W => Below vb'.heap.size vb' W := ⟨_, rfl⟩
            obtain ⟨AFT, hAFT⟩ : ∃ P : World → Prop, P = fun W => TwoX w W c' st2 y b x ∧ Bk W ka2 lc2 lst2 (.slice Aa2 lls2.length ca2) ∧ W.heap[kb2]? = some (.cells #[.int .i64 (lc2 : Int), sv lst2, .slice Ab2 lls2.length cb2] 35 (0, 0)) := ⟨_, rfl⟩
            have e0 : BEF vb' := by rw [hBEF]; exact Below.refl _ _
            have HBD := Lib.hid (show ∀ W, BEF W → BEF W.drew from fun W h => by rw [hBEF] at h ⊢; exact Below.drew h)
            have HAD := Lib.hid (show ∀ W, AFT W → AFT W.drew from fun W h => by rw [hAFT] at h ⊢; exact ⟨h.1.below (Below.refl _ _).drew, h.2.1, h.2.2⟩)
            have HAF := Lib.hid (show ∀ W, AFT W → TwoX w W c' st2 y b x from fun W h => by rw [hAFT] at h; exact h.1)
            have HBT := Lib.hid (show ∀ W, BEF W → Two w W c' _ _ y _ _ _ b _ _ x _ _ _ from fun W h => by rw [hBEF] at h; exact (tb.below hbb).below h)
            have HCE := Lib.hid (show ∀ W, BEF W ∨ AFT W → W.cell? ⟨ka2, 0, none⟩ = some (.int .i64 (lc2 : Int)) ∧ W.cell? ⟨ka2, 1, none⟩ = some (sv lst2) ∧ W.cell? ⟨ka2, 2, none⟩ = some (.slice Aa2 lls2.length ca2) ∧ W.cell? ⟨kb2, 0, none⟩ = some (.int .i64 (lc2 : Int)) ∧ W.cell? ⟨kb2, 1, none⟩ = some (sv lst2) ∧ W.cell? ⟨kb2, 2, none⟩ = some (.slice Ab2 lls2.length cb2) ∧ W.cell? ⟨y, 5, none⟩ = some (.bool dd2) from fun W h => by
              have h1 : Bk W ka2 lc2 lst2 (.slice Aa2 lls2.length ca2) := by
                rcases h with h | h
                · rw [hBEF] at h; exact VB.below h
                · rw [hAFT] at h; exact h.2.1
              have h2 : W.heap[kb2]? = some (.cells #[.int .i64 (lc2 : Int), sv lst2, .slice Ab2 lls2.length cb2] 35 (0, 0)) := by
                rcases h with h | h
                · rw [hBEF] at h; exact blk_below VR h
                · rw [hAFT] at h; exact h.2.2
              have h3 : W.cell? ⟨y, 5, none⟩ = some (.bool dd2) := by
                rcases h with h | h
                · exact (HBT.out W h).xdead (d := dd2) (by show (takenR st2).d = dd2; rw [EDD.out]; rfl)
                · exact (HAF.out W h).xdead EDD.out.symm
              exact ⟨h1.c0, h1.c1, h1.c2, by rw [cellAt h2]; rfl, by rw [cellAt h2]; rfl, by rw [cellAt h2]; rfl, h3⟩)
            have HDD := Lib.hid (show ∀ W, BEF W ∨ AFT W → Calls Tryd.prog 22 #[.pointer (some ⟨c', 0, none⟩)] W fun e W' => e = .returned (.bool dd2) ∧ W' = W from fun W h => by
              rcases h with h | h
              · exact (two_dead (HBT.out W h) (d := dd2) (by show (takenR st2).d = dd2; rw [EDD.out]; rfl)).mono fun e W' ⟨h1, h2⟩ => ⟨h1, h2.symm⟩
              · exact (HAF.out W h).dead EDD.out.symm)
            have HTT := Lib.hid (show ∀ W, BEF W → Calls Tryd.prog 25 #[.agg #[.int .i64 (lc2 : Int), sv lst2, .slice Aa2 lls2.length ca2], .agg #[.int .i64 (lc2 : Int), sv lst2, .slice Ab2 lls2.length cb2]] W fun e W' => e = .returned (.bool true) ∧ AFT W' from fun W h => by
              have h' := h
              rw [hBEF] at h'
              rw [hAFT]
              exact (two_told2 (lc := lc2) (lst := lst2) (HBT.out W h) ((gb.below hbb).below h') ((hub.row.step hbb).step h') LEN2.out db).mono fun e W' ⟨h1, h2, h3⟩ => ⟨h1, TwoX.of h2, (VB.below h').kp h3 NA2, (h3.block kb2 (lt_of_blk (blk_below VR h')) NB2).trans (blk_below VR h')⟩)
            have HWB := Lib.hid hwb
            have hc0 := HCE.out _ (.inl e0)
            clear tb hub gb kb db VB VR hbb hwb hBEF hAFT NA2 NB2 HBT hkb2
            unfold repV
            go_wp2_with fail
            rw [← HKB.out, ← HWB.out]
            go_region_held3 (fun W => (BEF W ∨ AFT W) ∧ W.cell? ⟨ka2, 0, none⟩ = some (.int .i64 (lc2 : Int)) ∧ W.cell? ⟨ka2, 1, none⟩ = some (sv lst2) ∧ W.cell? ⟨ka2, 2, none⟩ = some (.slice Aa2 lls2.length ca2) ∧ W.cell? ⟨kb2, 0, none⟩ = some (.int .i64 (lc2 : Int)) ∧ W.cell? ⟨kb2, 1, none⟩ = some (sv lst2) ∧ W.cell? ⟨kb2, 2, none⟩ = some (.slice Ab2 lls2.length cb2) ∧ W.cell? ⟨y, 5, none⟩ = some (.bool dd2))
              (first | exact ⟨.inl (by assumption), HCE.out _ (.inl (by assumption))⟩ | exact ⟨.inr (by assumption), HCE.out _ (.inr (by assumption))⟩ | exact ⟨.inl (HBD.out _ (by assumption)), HCE.out _ (.inl (HBD.out _ (by assumption)))⟩ | exact ⟨.inr (HAD.out _ (by assumption)), HCE.out _ (.inr (HAD.out _ (by assumption)))⟩)
              (first
                | (go_at_call 25; with_reducible refine (HTT.out _ (by first | assumption | exact HBD.out _ (by assumption))).mono ?_; rintro e1 w8 ⟨rfl, hR⟩)
                | (go_at_call 22; with_reducible refine (HDD.out _ (by first | exact .inl (by assumption) | exact .inr (by assumption) | exact .inl (HBD.out _ (by assumption)) | exact .inr (HAD.out _ (by assumption)))).mono ?_; rintro e2 w9 ⟨rfl, rfl⟩))
            all_goals
              have HR := Lib.hid (HAF.out _ hR)
              clear hR e0
              go_wp2_with fail
              exact ⟨⟨k + 1, by omega, by go_num, by first | exact HR.out.pi | exact (HR.out.below (Below.refl _ _).drew).pi⟩, by simp [intOf]; omega⟩
          | true =>
            go_wp2_with fail
            refine (two_take TZ.out HLC.out.symm HLST.out.symm HLLS.out.symm HHAS.out.symm).mono ?_
            rintro e wa ⟨ua, Fa, Sa, rfl, ta, ga, da⟩
            obtain ⟨Aa, ca, rfl⟩ := ga.form
            obtain ⟨ka, hka⟩ : ∃ z, z = wa.heap.size := ⟨_, rfl⟩
            obtain ⟨wa', hwa⟩ : ∃ z, z = wa.alloc (Obj.cells #[.int .i64 (lc : Int), sv lst, .slice Aa lls.length ca] 42) := ⟨_, rfl⟩
            have hba : Below wa.heap.size wa wa' := by rw [hwa]; exact below_alloc _ _
            have TA := Lib.hid (ta.below hba); have GA := Lib.hid (ga.below hba); have DA := Lib.hid da
            have VA := Lib.hid (show Bk wa' ka lc lst (.slice Aa lls.length ca) by rw [hwa, hka]; exact Bk.new _ _ _ _)
            have HKA := Lib.hid hka; have HWA := Lib.hid hwa; have NA := Lib.hid (show ka ∉ [x] by have := ta.p.xr.lt; simp; omega)
            clear ta ga da hba hka hwa
            unfold repV
            go_wp2_with fail
            rw [← HKA.out, ← HWA.out]
            refine (two_xtake TA.out HLC.out.symm HLST.out.symm HLLS.out.symm HHAS.out.symm GA.out DA.out).mono ?_
            rintro e wb ⟨ub, Gb, rfl, tb, hub, gb, kb, db⟩
            have hub2 := hub
            obtain ⟨Ab, cb, rfl, -⟩ := hub2
            obtain ⟨wb', hwb⟩ : ∃ z, z = wb.alloc (Obj.cells #[.int .i64 (lc : Int), sv lst, .slice Ab lls.length cb] 35) := ⟨_, rfl⟩
            have hbb : Below wb.heap.size wb wb' := by rw [hwb]; exact below_alloc _ _
            have TB := Lib.hid (tb.below hbb)
            have HTD := Lib.hid (two_told (lc := lc) (lst := lst) (tb.below hbb) (gb.below hbb) (hub.row.step hbb) HLEN.out db)
            unfold repV at HTD
            have VB := (VA.out.kp kb NA.out).below hbb
            have a0 := VB.c0; have a1 := VB.c1; have a2 := VB.c2
            rw [hwb] at a0 a1 a2
            have HWB := Lib.hid hwb
            clear tb hub gb kb db VB hbb hwb
            unfold repV
            go_wp2_with fail
            rw [← HWB.out]
            clear a0 a1 a2
            refine (HTD.out).mono ?_
            rintro e wt ⟨rfl, tt⟩
            replace TZ := Lib.hid tt
            clear tt TA GA DA VA HKA HWA NA TB HTD HWB
            go_wp2_with fail
            refine (two_reset TZ.out).mono ?_
            rintro e wc ⟨rfl, tc⟩
            obtain ⟨wc', hwc⟩ : ∃ z, z = (((((wc.setCell ⟨x, 0, none⟩ (.slice none 0 0)).setCell ⟨x, 1, none⟩ (.int .i64 0)).setCell ⟨x, 2, none⟩ (sv [])).setCell ⟨x, 3, none⟩ (.slice none 0 0)).setCell ⟨x, 4, none⟩ (.bool false)).setCell ⟨x, 5, none⟩ (.bool false) := ⟨_, rfl⟩
            replace TZ := Lib.hid tc.xreset
            rw [← hwc] at TZ
            have HWC := Lib.hid hwc
            obtain ⟨-, -, -, -, -, -, -, xv, xu, xb, -⟩ := tc.p.xr
            have x0 := xb.c0; have x1 := xb.c1; have x2 := xb.c2; have x3 := xb.c3; have x4 := xb.c4; have x5 := xb.c5
            have y0 := xb.fr 0; have y1 := xb.fr 1; have y2 := xb.fr 2; have y3 := xb.fr 3; have y4 := xb.fr 4; have y5 := xb.fr 5
            clear tc xb hwc
            go_wp2_with fail
            rw [← HWC.out]
            clear x0 x1 x2 x3 x4 x5 y0 y1 y2 y3 y4 y5
            refine (two_line (s := okl) TZ.out.symm (by decide) EDN.out.symm EER.out.symm EST.out.symm).mono ?_
            rintro e v1 ⟨H1, rfl, tq⟩
            replace TZ := Lib.hid tq
            clear tq
            go_wp2_with fail
            refine (two_xline (s := okl) TZ.out (by decide) EDN.out.symm EER.out.symm EST.out.symm).mono ?_
            rintro e v2 ⟨G2, raw2, rfl, tq⟩
            replace TZ := Lib.hid tq
            have LEN2 := Lib.hid (show lls2.length ≤ 1000000 from by rw [ELLS.out]; exact lls_len tq.p.r)
            clear tq
            go_wp2_with fail
            refine (two_take TZ.out ELC.out.symm ELST.out.symm ELLS.out.symm EHAS.out.symm).mono ?_
            rintro e va ⟨ua2, Fa2, Sa2, rfl, ta, ga, da⟩
            obtain ⟨Aa2, ca2, rfl⟩ := ga.form
            obtain ⟨ka2, hka⟩ : ∃ z, z = va.heap.size := ⟨_, rfl⟩
            obtain ⟨va', hwa⟩ : ∃ z, z = va.alloc (Obj.cells #[.int .i64 (lc2 : Int), sv lst2, .slice Aa2 lls2.length ca2] 42) := ⟨_, rfl⟩
            have hba : Below va.heap.size va va' := by rw [hwa]; exact below_alloc _ _
            have TA := Lib.hid (ta.below hba); have GA := Lib.hid (ga.below hba); have DA := Lib.hid da; have GA0 := Lib.hid ga.2.2
            have VA := Lib.hid (show Bk va' ka2 lc2 lst2 (.slice Aa2 lls2.length ca2) by rw [hwa, hka]; exact Bk.new _ _ _ _)
            have HKA := Lib.hid hka; have HWA := Lib.hid hwa; have NA := Lib.hid (show ka2 ∉ [y] by have := ta.p.xr.lt; simp; omega)
            clear ta ga da hba hka hwa
            unfold repV
            go_wp2_with fail
            rw [← HKA.out, ← HWA.out]
            refine (two_xtake TA.out ELC.out.symm ELST.out.symm ELLS.out.symm EHAS.out.symm GA.out DA.out).mono ?_
            rintro e vb ⟨ub, Gb2, rfl, tb, hub, gb, kb, db⟩
            have hub2 := hub
            obtain ⟨Ab2, cb2, rfl, -⟩ := hub2
            obtain ⟨kb2, hkb2⟩ : ∃ z, z = vb.heap.size := ⟨_, rfl⟩
            have HKB := Lib.hid hkb2
            obtain ⟨vb', hwb⟩ : ∃ z, z = vb.alloc (Obj.cells #[.int .i64 (lc2 : Int), sv lst2, .slice Ab2 lls2.length cb2] 35) := ⟨_, rfl⟩
            have hbb : Below vb.heap.size vb vb' := by rw [hwb]; exact below_alloc _ _
            have TB := Lib.hid (tb.below hbb)
            have VB := (VA.out.kp kb NA.out).below hbb
            have VR : vb'.heap[kb2]? = some (.cells #[.int .i64 (lc2 : Int), sv lst2, .slice Ab2 lls2.length cb2] 35 (0, 0)) := by rw [hwb, hkb2]; exact heap_alloc_new _ _
            have NA2 : ka2 ∉ Sa2 := fun e => by have := GA0.out _ e; rw [HKA.out] at this; omega
            have NB2 : kb2 ∉ Sa2 := fun e => by have := gb.2.2 _ e; rw [hkb2] at this; omega
            obtain ⟨BEF, hBEF⟩ : ∃ P : World → Prop, P = fun W => Below vb'.heap.size vb' W := ⟨_, rfl⟩
            obtain ⟨AFT, hAFT⟩ : ∃ P : World → Prop, P = fun W => TwoX w W c' st2 y b x ∧ Bk W ka2 lc2 lst2 (.slice Aa2 lls2.length ca2) ∧ W.heap[kb2]? = some (.cells #[.int .i64 (lc2 : Int), sv lst2, .slice Ab2 lls2.length cb2] 35 (0, 0)) := ⟨_, rfl⟩
            have e0 : BEF vb' := by rw [hBEF]; exact Below.refl _ _
            have HBD := Lib.hid (show ∀ W, BEF W → BEF W.drew from fun W h => by rw [hBEF] at h ⊢; exact Below.drew h)
            have HAD := Lib.hid (show ∀ W, AFT W → AFT W.drew from fun W h => by rw [hAFT] at h ⊢; exact ⟨h.1.below (Below.refl _ _).drew, h.2.1, h.2.2⟩)
            have HAF := Lib.hid (show ∀ W, AFT W → TwoX w W c' st2 y b x from fun W h => by rw [hAFT] at h; exact h.1)
            have HBT := Lib.hid (show ∀ W, BEF W → Two w W c' _ _ y _ _ _ b _ _ x _ _ _ from fun W h => by rw [hBEF] at h; exact (tb.below hbb).below h)
            have HCE := Lib.hid (show ∀ W, BEF W ∨ AFT W → W.cell? ⟨ka2, 0, none⟩ = some (.int .i64 (lc2 : Int)) ∧ W.cell? ⟨ka2, 1, none⟩ = some (sv lst2) ∧ W.cell? ⟨ka2, 2, none⟩ = some (.slice Aa2 lls2.length ca2) ∧ W.cell? ⟨kb2, 0, none⟩ = some (.int .i64 (lc2 : Int)) ∧ W.cell? ⟨kb2, 1, none⟩ = some (sv lst2) ∧ W.cell? ⟨kb2, 2, none⟩ = some (.slice Ab2 lls2.length cb2) ∧ W.cell? ⟨y, 5, none⟩ = some (.bool dd2) from fun W h => by
              have h1 : Bk W ka2 lc2 lst2 (.slice Aa2 lls2.length ca2) := by
                rcases h with h | h
                · rw [hBEF] at h; exact VB.below h
                · rw [hAFT] at h; exact h.2.1
              have h2 : W.heap[kb2]? = some (.cells #[.int .i64 (lc2 : Int), sv lst2, .slice Ab2 lls2.length cb2] 35 (0, 0)) := by
                rcases h with h | h
                · rw [hBEF] at h; exact blk_below VR h
                · rw [hAFT] at h; exact h.2.2
              have h3 : W.cell? ⟨y, 5, none⟩ = some (.bool dd2) := by
                rcases h with h | h
                · exact (HBT.out W h).xdead (d := dd2) (by show (takenR st2).d = dd2; rw [EDD.out]; rfl)
                · exact (HAF.out W h).xdead EDD.out.symm
              exact ⟨h1.c0, h1.c1, h1.c2, by rw [cellAt h2]; rfl, by rw [cellAt h2]; rfl, by rw [cellAt h2]; rfl, h3⟩)
            have HDD := Lib.hid (show ∀ W, BEF W ∨ AFT W → Calls Tryd.prog 22 #[.pointer (some ⟨c', 0, none⟩)] W fun e W' => e = .returned (.bool dd2) ∧ W' = W from fun W h => by
              rcases h with h | h
              · exact (two_dead (HBT.out W h) (d := dd2) (by show (takenR st2).d = dd2; rw [EDD.out]; rfl)).mono fun e W' ⟨h1, h2⟩ => ⟨h1, h2.symm⟩
              · exact (HAF.out W h).dead EDD.out.symm)
            have HTT := Lib.hid (show ∀ W, BEF W → Calls Tryd.prog 25 #[.agg #[.int .i64 (lc2 : Int), sv lst2, .slice Aa2 lls2.length ca2], .agg #[.int .i64 (lc2 : Int), sv lst2, .slice Ab2 lls2.length cb2]] W fun e W' => e = .returned (.bool true) ∧ AFT W' from fun W h => by
              have h' := h
              rw [hBEF] at h'
              rw [hAFT]
              exact (two_told2 (lc := lc2) (lst := lst2) (HBT.out W h) ((gb.below hbb).below h') ((hub.row.step hbb).step h') LEN2.out db).mono fun e W' ⟨h1, h2, h3⟩ => ⟨h1, TwoX.of h2, (VB.below h').kp h3 NA2, (h3.block kb2 (lt_of_blk (blk_below VR h')) NB2).trans (blk_below VR h')⟩)
            have HWB := Lib.hid hwb
            have hc0 := HCE.out _ (.inl e0)
            clear tb hub gb kb db VB VR hbb hwb hBEF hAFT NA2 NB2 HBT hkb2
            unfold repV
            go_wp2_with fail
            rw [← HKB.out, ← HWB.out]
            go_region_held3 (fun W => (BEF W ∨ AFT W) ∧ W.cell? ⟨ka2, 0, none⟩ = some (.int .i64 (lc2 : Int)) ∧ W.cell? ⟨ka2, 1, none⟩ = some (sv lst2) ∧ W.cell? ⟨ka2, 2, none⟩ = some (.slice Aa2 lls2.length ca2) ∧ W.cell? ⟨kb2, 0, none⟩ = some (.int .i64 (lc2 : Int)) ∧ W.cell? ⟨kb2, 1, none⟩ = some (sv lst2) ∧ W.cell? ⟨kb2, 2, none⟩ = some (.slice Ab2 lls2.length cb2) ∧ W.cell? ⟨y, 5, none⟩ = some (.bool dd2))
              (first | exact ⟨.inl (by assumption), HCE.out _ (.inl (by assumption))⟩ | exact ⟨.inr (by assumption), HCE.out _ (.inr (by assumption))⟩ | exact ⟨.inl (HBD.out _ (by assumption)), HCE.out _ (.inl (HBD.out _ (by assumption)))⟩ | exact ⟨.inr (HAD.out _ (by assumption)), HCE.out _ (.inr (HAD.out _ (by assumption)))⟩)
              (first
                | (go_at_call 25; with_reducible refine (HTT.out _ (by first | assumption | exact HBD.out _ (by assumption))).mono ?_; rintro e1 w8 ⟨rfl, hR⟩)
                | (go_at_call 22; with_reducible refine (HDD.out _ (by first | exact .inl (by assumption) | exact .inr (by assumption) | exact .inl (HBD.out _ (by assumption)) | exact .inr (HAD.out _ (by assumption)))).mono ?_; rintro e2 w9 ⟨rfl, rfl⟩))
            all_goals
              have HR := Lib.hid (HAF.out _ hR)
              clear hR e0
              go_wp2_with fail
              exact ⟨⟨k + 1, by omega, by go_num, by first | exact HR.out.pi | exact (HR.out.below (Below.refl _ _).drew).pi⟩, by simp [intOf]; omega⟩
      · have p1 : (bits BinOp.and IntKind.u8 0 1 == 1) = false := by kernel_rfl
        have p2 : (bits BinOp.and IntKind.u8 0 2 == 2) = false := by kernel_rfl
        go_wp2_with fail
        refine (two_line (s := okl) TZ.out.symm (by decide) EDN.out.symm EER.out.symm EST.out.symm).mono ?_
        rintro e v1 ⟨H1, rfl, tq⟩
        replace TZ := Lib.hid tq
        clear tq
        go_wp2_with fail
        refine (two_xline (s := okl) TZ.out (by decide) EDN.out.symm EER.out.symm EST.out.symm).mono ?_
        rintro e v2 ⟨G2, raw2, rfl, tq⟩
        replace TZ := Lib.hid tq
        have LEN2 := Lib.hid (show lls2.length ≤ 1000000 from by rw [ELLS.out]; exact lls_len tq.p.r)
        clear tq
        go_wp2_with fail
        refine (two_take TZ.out ELC.out.symm ELST.out.symm ELLS.out.symm EHAS.out.symm).mono ?_
        rintro e va ⟨ua2, Fa2, Sa2, rfl, ta, ga, da⟩
        obtain ⟨Aa2, ca2, rfl⟩ := ga.form
        obtain ⟨ka2, hka⟩ : ∃ z, z = va.heap.size := ⟨_, rfl⟩
        obtain ⟨va', hwa⟩ : ∃ z, z = va.alloc (Obj.cells #[.int .i64 (lc2 : Int), sv lst2, .slice Aa2 lls2.length ca2] 42) := ⟨_, rfl⟩
        have hba : Below va.heap.size va va' := by rw [hwa]; exact below_alloc _ _
        have TA := Lib.hid (ta.below hba); have GA := Lib.hid (ga.below hba); have DA := Lib.hid da; have GA0 := Lib.hid ga.2.2
        have VA := Lib.hid (show Bk va' ka2 lc2 lst2 (.slice Aa2 lls2.length ca2) by rw [hwa, hka]; exact Bk.new _ _ _ _)
        have HKA := Lib.hid hka; have HWA := Lib.hid hwa; have NA := Lib.hid (show ka2 ∉ [y] by have := ta.p.xr.lt; simp; omega)
        clear ta ga da hba hka hwa
        unfold repV
        go_wp2_with fail
        rw [← HKA.out, ← HWA.out]
        refine (two_xtake TA.out ELC.out.symm ELST.out.symm ELLS.out.symm EHAS.out.symm GA.out DA.out).mono ?_
        rintro e vb ⟨ub, Gb2, rfl, tb, hub, gb, kb, db⟩
        have hub2 := hub
        obtain ⟨Ab2, cb2, rfl, -⟩ := hub2
        obtain ⟨kb2, hkb2⟩ : ∃ z, z = vb.heap.size := ⟨_, rfl⟩
        have HKB := Lib.hid hkb2
        obtain ⟨vb', hwb⟩ : ∃ z, z = vb.alloc (Obj.cells #[.int .i64 (lc2 : Int), sv lst2, .slice Ab2 lls2.length cb2] 35) := ⟨_, rfl⟩
        have hbb : Below vb.heap.size vb vb' := by rw [hwb]; exact below_alloc _ _
        have TB := Lib.hid (tb.below hbb)
        have VB := (VA.out.kp kb NA.out).below hbb
        have VR : vb'.heap[kb2]? = some (.cells #[.int .i64 (lc2 : Int), sv lst2, .slice Ab2 lls2.length cb2] 35 (0, 0)) := by rw [hwb, hkb2]; exact heap_alloc_new _ _
        have NA2 : ka2 ∉ Sa2 := fun e => by have := GA0.out _ e; rw [HKA.out] at this; omega
        have NB2 : kb2 ∉ Sa2 := fun e => by have := gb.2.2 _ e; rw [hkb2] at this; omega
        obtain ⟨BEF, hBEF⟩ : ∃ P : World → Prop, P = fun W => Below vb'.heap.size vb' W := ⟨_, rfl⟩
        obtain ⟨AFT, hAFT⟩ : ∃ P : World → Prop, P = fun W => TwoX w W c' st2 y b x ∧ Bk W ka2 lc2 lst2 (.slice Aa2 lls2.length ca2) ∧ W.heap[kb2]? = some (.cells #[.int .i64 (lc2 : Int), sv lst2, .slice Ab2 lls2.length cb2] 35 (0, 0)) := ⟨_, rfl⟩
        have e0 : BEF vb' := by rw [hBEF]; exact Below.refl _ _
        have HBD := Lib.hid (show ∀ W, BEF W → BEF W.drew from fun W h => by rw [hBEF] at h ⊢; exact Below.drew h)
        have HAD := Lib.hid (show ∀ W, AFT W → AFT W.drew from fun W h => by rw [hAFT] at h ⊢; exact ⟨h.1.below (Below.refl _ _).drew, h.2.1, h.2.2⟩)
        have HAF := Lib.hid (show ∀ W, AFT W → TwoX w W c' st2 y b x from fun W h => by rw [hAFT] at h; exact h.1)
        have HBT := Lib.hid (show ∀ W, BEF W → Two w W c' _ _ y _ _ _ b _ _ x _ _ _ from fun W h => by rw [hBEF] at h; exact (tb.below hbb).below h)
        have HCE := Lib.hid (show ∀ W, BEF W ∨ AFT W → W.cell? ⟨ka2, 0, none⟩ = some (.int .i64 (lc2 : Int)) ∧ W.cell? ⟨ka2, 1, none⟩ = some (sv lst2) ∧ W.cell? ⟨ka2, 2, none⟩ = some (.slice Aa2 lls2.length ca2) ∧ W.cell? ⟨kb2, 0, none⟩ = some (.int .i64 (lc2 : Int)) ∧ W.cell? ⟨kb2, 1, none⟩ = some (sv lst2) ∧ W.cell? ⟨kb2, 2, none⟩ = some (.slice Ab2 lls2.length cb2) ∧ W.cell? ⟨y, 5, none⟩ = some (.bool dd2) from fun W h => by
          have h1 : Bk W ka2 lc2 lst2 (.slice Aa2 lls2.length ca2) := by
            rcases h with h | h
            · rw [hBEF] at h; exact VB.below h
            · rw [hAFT] at h; exact h.2.1
          have h2 : W.heap[kb2]? = some (.cells #[.int .i64 (lc2 : Int), sv lst2, .slice Ab2 lls2.length cb2] 35 (0, 0)) := by
            rcases h with h | h
            · rw [hBEF] at h; exact blk_below VR h
            · rw [hAFT] at h; exact h.2.2
          have h3 : W.cell? ⟨y, 5, none⟩ = some (.bool dd2) := by
            rcases h with h | h
            · exact (HBT.out W h).xdead (d := dd2) (by show (takenR st2).d = dd2; rw [EDD.out]; rfl)
            · exact (HAF.out W h).xdead EDD.out.symm
          exact ⟨h1.c0, h1.c1, h1.c2, by rw [cellAt h2]; rfl, by rw [cellAt h2]; rfl, by rw [cellAt h2]; rfl, h3⟩)
        have HDD := Lib.hid (show ∀ W, BEF W ∨ AFT W → Calls Tryd.prog 22 #[.pointer (some ⟨c', 0, none⟩)] W fun e W' => e = .returned (.bool dd2) ∧ W' = W from fun W h => by
          rcases h with h | h
          · exact (two_dead (HBT.out W h) (d := dd2) (by show (takenR st2).d = dd2; rw [EDD.out]; rfl)).mono fun e W' ⟨h1, h2⟩ => ⟨h1, h2.symm⟩
          · exact (HAF.out W h).dead EDD.out.symm)
        have HTT := Lib.hid (show ∀ W, BEF W → Calls Tryd.prog 25 #[.agg #[.int .i64 (lc2 : Int), sv lst2, .slice Aa2 lls2.length ca2], .agg #[.int .i64 (lc2 : Int), sv lst2, .slice Ab2 lls2.length cb2]] W fun e W' => e = .returned (.bool true) ∧ AFT W' from fun W h => by
          have h' := h
          rw [hBEF] at h'
          rw [hAFT]
          exact (two_told2 (lc := lc2) (lst := lst2) (HBT.out W h) ((gb.below hbb).below h') ((hub.row.step hbb).step h') LEN2.out db).mono fun e W' ⟨h1, h2, h3⟩ => ⟨h1, TwoX.of h2, (VB.below h').kp h3 NA2, (h3.block kb2 (lt_of_blk (blk_below VR h')) NB2).trans (blk_below VR h')⟩)
        have HWB := Lib.hid hwb
        have hc0 := HCE.out _ (.inl e0)
        clear tb hub gb kb db VB VR hbb hwb hBEF hAFT NA2 NB2 HBT hkb2
        unfold repV
        go_wp2_with fail
        rw [← HKB.out, ← HWB.out]
        go_region_held3 (fun W => (BEF W ∨ AFT W) ∧ W.cell? ⟨ka2, 0, none⟩ = some (.int .i64 (lc2 : Int)) ∧ W.cell? ⟨ka2, 1, none⟩ = some (sv lst2) ∧ W.cell? ⟨ka2, 2, none⟩ = some (.slice Aa2 lls2.length ca2) ∧ W.cell? ⟨kb2, 0, none⟩ = some (.int .i64 (lc2 : Int)) ∧ W.cell? ⟨kb2, 1, none⟩ = some (sv lst2) ∧ W.cell? ⟨kb2, 2, none⟩ = some (.slice Ab2 lls2.length cb2) ∧ W.cell? ⟨y, 5, none⟩ = some (.bool dd2))
          (first | exact ⟨.inl (by assumption), HCE.out _ (.inl (by assumption))⟩ | exact ⟨.inr (by assumption), HCE.out _ (.inr (by assumption))⟩ | exact ⟨.inl (HBD.out _ (by assumption)), HCE.out _ (.inl (HBD.out _ (by assumption)))⟩ | exact ⟨.inr (HAD.out _ (by assumption)), HCE.out _ (.inr (HAD.out _ (by assumption)))⟩)
          (first
            | (go_at_call 25; with_reducible refine (HTT.out _ (by first | assumption | exact HBD.out _ (by assumption))).mono ?_; rintro e1 w8 ⟨rfl, hR⟩)
            | (go_at_call 22; with_reducible refine (HDD.out _ (by first | exact .inl (by assumption) | exact .inr (by assumption) | exact .inl (HBD.out _ (by assumption)) | exact .inr (HAD.out _ (by assumption)))).mono ?_; rintro e2 w9 ⟨rfl, rfl⟩))
        all_goals
          have HR := Lib.hid (HAF.out _ hR)
          clear hR e0
          go_wp2_with fail
          exact ⟨⟨k + 1, by omega, by go_num, by first | exact HR.out.pi | exact (HR.out.below (Below.refl _ _).drew).pi⟩, by simp [intOf]; omega⟩
    · obtain rfl : k = xs.length := by omega
      have HP := Lib.hid hpp; have HBL := Lib.hid hbl
      have HLE := Lib.hid (show st.lls.length ≤ 1000000 from lls_len hpp.r)
      have HTK := Lib.hid (pp_take hpp hbl)
      clear hpp hbl
      have HXT := Lib.hid (fun (W : World) (F' : List Nat) (h : PP w W b F' (takenR st) x G raw st) (hb : BL w W) => pp_xtake h hb)
      obtain ⟨lc, hlc⟩ : ∃ z, z = st.lc := ⟨_, rfl⟩
      obtain ⟨lst, hlst⟩ : ∃ z, z = st.lst := ⟨_, rfl⟩
      obtain ⟨lls, hlls⟩ : ∃ z, z = st.lls := ⟨_, rfl⟩
      obtain ⟨has, hhas⟩ : ∃ z, z = decide (0 < lls.length) := ⟨_, rfl⟩
      rw [← hlc, ← hlst, ← hlls, ← hhas] at HTK HXT
      rw [← hlls] at HLE
      have g4 : (has == has) = true := by cases has <;> rfl
      clear hlc hlst hlls hhas
      go_wp2_with fail
      refine (HTK.out).mono ?_
      rintro e wa ⟨u, F', S, rfl, p1, b1, ga, da, nx⟩
      obtain ⟨Aa, ca, rfl⟩ := ga.form
      obtain ⟨ka, hka⟩ : ∃ z, z = wa.heap.size := ⟨_, rfl⟩
      obtain ⟨wa', hwa⟩ : ∃ z, z = wa.alloc (Obj.cells #[.int .i64 (lc : Int), sv lst, .slice Aa lls.length ca] 42) := ⟨_, rfl⟩
      have hba : Below wa.heap.size wa wa' := by rw [hwa]; exact below_alloc _ _
      have P1 := Lib.hid (p1.below hba); have B1 := Lib.hid (b1.step hba); have GA := Lib.hid (ga.below hba); have DA := Lib.hid da
      have VA := Lib.hid (show Bk wa' ka lc lst (.slice Aa lls.length ca) by rw [hwa, hka]; exact Bk.new _ _ _ _)
      have NX := Lib.hid nx
      have HKA := Lib.hid hka; have HWA := Lib.hid hwa; have NA := Lib.hid (show ka ∉ [x] by have := p1.xr.lt; simp; omega)
      clear p1 b1 ga da hba hka hwa nx
      unfold repV
      go_wp2_with fail
      rw [← HKA.out, ← HWA.out]
      refine (HXT.out _ _ P1.out B1.out).mono ?_
      rintro e wb ⟨ub, rfl, b2, hub, kb⟩
      have hub2 := hub
      obtain ⟨Ab, cb, rfl, -⟩ := hub2
      obtain ⟨wb', hwb⟩ : ∃ z, z = wb.alloc (Obj.cells #[.int .i64 (lc : Int), sv lst, .slice Ab lls.length cb] 35) := ⟨_, rfl⟩
      have hbb : Below wb.heap.size wb wb' := by rw [hwb]; exact below_alloc _ _
      have B2 := Lib.hid (b2.step hbb)
      have HTD := Lib.hid (told_any lc lst lls _ _ _ S ((GA.out.kp kb (fun k e e' => by simp at e'; subst e'; exact NX.out e)).below hbb) (hub.step hbb) HLE.out)
      unfold repV at HTD
      have VB := (VA.out.kp kb NA.out).below hbb
      have a0 := VB.c0; have a1 := VB.c1; have a2 := VB.c2
      rw [hwb] at a0 a1 a2
      have HWB := Lib.hid hwb
      clear b2 hub kb VB hbb hwb
      unfold repV
      go_wp2_with fail
      rw [← HWB.out]
      clear a0 a1 a2
      refine (HTD.out).mono ?_
      rintro e wt ⟨rfl, kt⟩
      have B3 := Lib.hid (B2.out.kp kt DA.out)
      clear kt
      go_wp2_with fail
      refine (awake_any _ B3.out.lw).mono ?_
      rintro e wz ⟨rfl, hb⟩
      have B4 := Lib.hid (B3.out.step hb)
      clear hb
      go_wp2_with fail
      go_ret
      exact ⟨rfl, B4.out.below⟩

theorem br_of_open {W : World} {a : Addr} {n cap : Nat} {zs : List Int} (hl : n ≤ zs.length) (hc : ∀ i, i < zs.length → W.cell? (a.add i) = some (.int .u8 (zs.getD i 0))) (hw : ∀ z ∈ zs, (Lit.int .u8 z).wf = true) :
    ∃ bs : List UInt8, bs.length = n ∧ BR W (.slice (some a) bs.length cap) bs := by
  refine ⟨(zs.take n).map fun z => UInt8.ofNat z.toNat, by rw [List.length_map, List.length_take]; omega, some a, cap, rfl, ?_⟩
  rcases Nat.eq_zero_or_pos n with h0 | h0
  · subst h0; exact .inl (by simp)
  · obtain ⟨b, off, spot⟩ := a
    have hspot : spot = none := by simpa [Addr.add] using World.cell?_spot (hc 0 (by omega))
    subst hspot
    refine .inr ⟨b, off, rfl, block_lt_of_cell (hc 0 (by omega)), fun k hk => ?_⟩
    rw [List.length_map, List.length_take] at hk
    have hkz : k < zs.length := by omega
    rw [← Go.WideShapes.add_plain, hc k hkz]
    have e : zs.getD k 0 = zs[k] := by simp [List.getD, List.getElem?_eq_getElem hkz]
    have hz := hw _ (List.getElem_mem hkz)
    simp only [Lit.wf, IntKind.min, IntKind.max, IntKind.signed, IntKind.bits, Bool.and_eq_true, decide_eq_true_eq] at hz
    rw [e]
    simp only [List.getElem_map, List.getElem_take]
    congr 2
    rw [UInt8.toNat_ofNat']
    have h1 : 0 ≤ zs[k] ∧ zs[k] ≤ 255 := by simpa using hz
    omega

theorem replyPlays_walk (A0 : Option Addr) (c0 : Nat) (x0 : List (List UInt8)) (A1 : Option Addr) (c1 : Nat) (x1 : List UInt8) {w : World}
    (hS0 : SR w (.slice A0 x0.length c0) x0) (hn0 : x0.length ≤ 140737488351232) (hx0 : ∀ x ∈ x0, x.length ≤ 9223372036854775807) (hB1 : BR w (.slice A1 x1.length c1) x1) (hw : LW w) :
    Calls Tryd.prog 4 #[.slice A0 x0.length c0, .slice A1 x1.length c1] w fun e w' => e = .returned (.bool true) ∧ Below w.heap.size w w' := by
  cases hb : longB x0 with
  | true => exact plays_long x0 _ _ w hw hS0 hn0 hx0 hb A1 x1.length c1 rfl
  | false => exact plays_short x0 x1 _ _ w hw hS0 hB1 hn0 hx0 hb
end Go.Proofs.YtanfonpbnamjmaaDoor
