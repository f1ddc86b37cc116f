/-
  The walk of CmdOffers.
-/
import Derived.Test.YtifmnlcggokfkaaGreatDoorKPure4
namespace Go.Proofs.YtifmnlcggokfkaaGreatDoor
open Go Go.RowKit Go.Shelf
set_option maxRecDepth 100000
set_option linter.unusedSimpArgs false

def cnt (l : List Bool) (k : Nat) : Nat := ((l.take k).map Bool.toNat).sum
theorem cnt_next {a b d x : Bool} {k : Nat} (hk : k < 3) (hb : [a, b, d].getD k false = x) : cnt [a, b, d] (k + 1) = cnt [a, b, d] k + x.toNat := by
  match k, hk with
  | 0, _ => subst hb; simp [cnt]
  | 1, _ => subst hb; simp [cnt]
  | 2, _ => subst hb; simp [cnt]; omega
theorem cp7all {W : World} {g : Nat} {st pi rq ds eb sz : Bool} {mo : Int} (h : W.heap[g]? = some (.cells #[.bool st, .bool pi, .bool rq, .bool ds, .bool eb, .bool sz, .int .i64 mo] 43 (0, 0))) :
    W.cell? ⟨g, 0, none⟩ = some (.bool st) ∧ W.cell? ⟨g, 1, none⟩ = some (.bool pi) ∧ W.cell? ⟨g, 2, none⟩ = some (.bool rq) ∧ W.cell? ⟨g, 3, none⟩ = some (.bool ds) ∧ W.cell? ⟨g, 4, none⟩ = some (.bool eb) ∧ W.cell? ⟨g, 5, none⟩ = some (.bool sz) ∧ W.cell? ⟨g, 6, none⟩ = some (.int .i64 mo) :=
  ⟨by rw [cellAt h]; rfl, by rw [cellAt h]; rfl, by rw [cellAt h]; rfl, by rw [cellAt h]; rfl, by rw [cellAt h]; rfl, by rw [cellAt h]; rfl, by rw [cellAt h]; rfl⟩
theorem mail_facts (c : Cp) (f : List UInt8) (size : Int) (req : Bool) (env : List UInt8) : ∃ PS x1 x2, mailC c f size req env = ⟨3, f, PS⟩ ∧ PS = mailPs c.sz c.rq c.ds (Lib.itoa size) req env ∧ getP PS wSZ = (x1, c.sz) ∧ getP PS wRT = (x2, c.rq && req) ∧ getP PS wEN = (if (c.ds && !env.isEmpty) then env else [], c.ds && !env.isEmpty) ∧ PS.length = cnt [c.sz, c.rq && req, c.ds && !env.isEmpty] 3 := by
  obtain ⟨g1, g2, g3, g4⟩ := get_mail c.sz (c.rq && req) (c.ds && !env.isEmpty) (Lib.itoa size) [] env
  refine ⟨_, _, _, rfl, rfl, g1, g2, g3, ?_⟩
  rw [show (mailPs c.sz c.rq c.ds (Lib.itoa size) req env).length = _ from g4]
  simp [cnt]
  omega
theorem bounds_int {a : Int} (h : (Lit.int .i64 a).wf = true) : -9223372036854775808 ≤ a ∧ a ≤ 9223372036854775807 := by
  simp only [Lit.wf, IntKind.min, IntKind.max, IntKind.signed, IntKind.bits, Bool.and_eq_true, decide_eq_true_eq, if_true] at h
  omega

set_option maxHeartbeats 16000000 in
theorem cmdOffers_walk (f : List UInt8) (c : Cp) (size : Int) (req : Bool) (env : List UInt8) (never : Bool) (w : World) (hf : f.length ≤ 140737488351232) (hsz : (Lit.int .i64 size).wf = true) (he : env.length ≤ 140737488351232) (hL : LW w) :
    Calls Tryz.prog 7 #[sv f, .agg (cpL c), .int .i64 size, .bool req, sv env, .bool never] w fun e w' => e = .returned (.bool true) ∧ Below w.heap.size w w' := by
  obtain ⟨st, pi, rq, ds, eb, sz, mo⟩ := c
  obtain ⟨z0, z1⟩ := bounds_int hsz
  obtain ⟨X, hX⟩ : ∃ X, X = w.alloc (.cells #[.bool st, .bool pi, .bool rq, .bool ds, .bool eb, .bool sz, .int .i64 mo] 43) := ⟨_, rfl⟩
  have HBX := Lib.hid (show Below w.heap.size w X by rw [hX]; exact below_alloc _ _)
  have HS := Lib.hid (KR.start (show LW X by rw [hX]; exact hL.below (below_alloc _ _)))
  have hcb : X.heap[w.heap.size]? = some (.cells #[.bool st, .bool pi, .bool rq, .bool ds, .bool eb, .bool sz, .int .i64 mo] 43 (0, 0)) := by rw [hX]; exact heap_alloc_new w _
  have HCP := Lib.hid (fun W (hW : Below X.heap.size X W) => cp7all (blk_below hcb hW))
  have HLX := Lib.hid (fun W (hW : Below X.heap.size X W) => lt_of_blk (blk_below hcb hW))
  clear hL hsz hcb
  by_cases hlen : 5000 < f.length + env.length
  · go_enter Tryz.func7, Tryz.ntmps7
    go_wp2_with fail
    rw [← hX]
    refine (awake_any _ HS.out.lw).mono ?_
    rintro e w2 ⟨rfl, hb2⟩
    have HS2 := Lib.hid (HS.out.step hb2)
    clear hb2
    go_wp2
    go_ret
    exact ⟨rfl, HBX.out.trans (HS2.out.bl.mono HBX.out.size)⟩
  have hlen' : f.length + env.length ≤ 5000 := by omega
  have hf6 : f.length ≤ 6000 := by omega
  have he6 : env.length ≤ 6000 := by omega
  clear hlen hf he
  have HMK := Lib.hid (mail_cases ⟨st, pi, rq, ds, eb, sz, mo⟩ f size req env z0 z1)
  have HSM := Lib.hid (mailPs_small ⟨st, pi, rq, ds, eb, sz, mo⟩ size req env z0 z1 he6)
  obtain ⟨PS, y1, y2, hPS, hPE, hg1, hg2, hg3, hPL⟩ := mail_facts ⟨st, pi, rq, ds, eb, sz, mo⟩ f size req env
  dsimp only at hg1 hg2 hg3 hPL hPE HSM
  rw [hPS] at HMK
  rw [← hPE] at HSM
  have HMS := Lib.hid (show SM ⟨3, f, PS⟩ from ⟨by show 3 < 256; omega, hf6, by have := HSM.out.1; show PS.length ≤ 1200; omega, HSM.out.2⟩)
  obtain ⟨Q, hQ⟩ : ∃ Q, Q = optP (ds && never) (wNO, wNV) := ⟨_, rfl⟩
  have HQL := Lib.hid (show Q.length = (ds && never).toNat by rw [hQ]; cases (ds && never) <;> rfl)
  have HQG := Lib.hid (show getP Q wNO = (if (ds && never) then [78, 69, 86, 69, 82] else [], ds && never) by rw [hQ]; exact get_rcpt _ _)
  have HQS := Lib.hid (show SM ⟨4, f, Q⟩ from ⟨by show 4 < 256; omega, hf6, by have := HQL.out; show Q.length ≤ 1200; have h2 : (ds && never).toNat ≤ 1 := Bool.toNat_le _; omega, fun p hp => by
    rw [show (⟨4, f, Q⟩ : Cm).ps = Q from rfl, hQ] at hp
    rw [optP_mem hp]
    exact ⟨by decide, by decide⟩⟩)
  obtain ⟨t5, ht5⟩ : ∃ t, t = shownK ⟨4, f, Q⟩ := ⟨_, rfl⟩
  have hr := rcpt_cases ⟨st, pi, rq, ds, eb, sz, mo⟩ f never
  have hR : rcptC ⟨st, pi, rq, ds, eb, sz, mo⟩ f never = ⟨4, f, Q⟩ := by unfold rcptC; rw [hQ]
  rw [hR] at hr
  have hne5 : mayK ⟨4, f, Q⟩ = true → t5.isEmpty = false := fun h => by rw [ht5]; simpa using shown_ne h
  have HR := Lib.hid (show rcptK ⟨st, pi, rq, ds, eb, sz, mo⟩ f never = (cm0, 4) ∨ (rcptK ⟨st, pi, rq, ds, eb, sz, mo⟩ f never = (⟨4, f, Q⟩, 0) ∧ showK ⟨4, f, Q⟩ = (t5, 0) ∧ t5.isEmpty = false) by
    rcases hr with hr | ⟨r1, r2, r3⟩
    · exact .inl hr
    · exact .inr ⟨r1, by rw [r3, ht5], hne5 r2⟩)
  obtain ⟨t6, ht6⟩ : ∃ t, t = shownK ⟨3, f, PS⟩ := ⟨_, rfl⟩
  have HM := Lib.hid (show mailK ⟨st, pi, rq, ds, eb, sz, mo⟩ f size req env = (cm0, 4) ∨ (mailK ⟨st, pi, rq, ds, eb, sz, mo⟩ f size req env = (⟨3, f, PS⟩, 0) ∧ showK ⟨3, f, PS⟩ = (t6, 0) ∧ t6.isEmpty = false) by
    rcases HMK.out with hr | ⟨r1, r2, r3⟩
    · exact .inl hr
    · exact .inr ⟨r1, by rw [r3, ht6], by rw [ht6]; simpa using shown_ne r2⟩)
  obtain ⟨t1, ht1⟩ : ∃ t, t = (rq && req) := ⟨_, rfl⟩
  obtain ⟨ee, hee⟩ : ∃ e, env.isEmpty = e := ⟨_, rfl⟩
  obtain ⟨t2, ht2⟩ : ∃ t, t = (ds && !ee) := ⟨_, rfl⟩
  obtain ⟨t4, ht4⟩ : ∃ t, t = (ds && never) := ⟨_, rfl⟩
  rw [hee] at hg3 hPL
  rw [← ht1] at hg2 hPL
  rw [← ht2] at hg3 hPL
  rw [← ht4] at HQL HQG
  have HT1 := Lib.hid ht1
  have HT2 := Lib.hid ht2
  have HT4 := Lib.hid ht4
  have HG1 := Lib.hid hg1
  have HG2 := Lib.hid hg2
  obtain ⟨y3, hy3⟩ : ∃ y, y = (if t2 = true then env else []) := ⟨_, rfl⟩
  rw [← hy3] at hg3
  have HY3 := Lib.hid hy3
  have HG3 := Lib.hid hg3
  have HPL := Lib.hid hPL
  clear hy3 HMK ht6 hPS hPE hg1 hg2 hg3 hPL hQ hr hR hne5 ht5 ht1 ht2 ht4
  go_enter Tryz.func7, Tryz.ntmps7
  go_wp2_with fail
  rw [← hX]
  clear hX
  refine (awake_any _ HS.out.lw).mono ?_
  rintro e w2 ⟨rfl, hb2⟩
  have HS2 := Lib.hid (HS.out.step hb2)
  clear hb2 HS
  obtain ⟨x0, x1, x2, x3, x4, x5, x6⟩ := HCP.out _ HS2.out.bl
  go_wp2_with fail
  refine (mailK_any ⟨st, pi, rq, ds, eb, sz, mo⟩ f size req env w2 hf6 he6 z0 z1 HS2.out.lw).mono ?_
  rintro e w3 h3
  clear x0 x1 x2 x3 x4 x5 x6
  rcases HM.out with hm | ⟨hm, hsh, hne6⟩
  · rw [hm] at h3
    obtain ⟨Am, km, rfl, hb3, hp3⟩ := ma_open h3
    have HS3 := Lib.hid (HS2.out.step hb3)
    have HX3 := Lib.hid (HS3.out.alloc #[.int .u8 0, sv [], .slice Am 0 km])
    clear h3 hb3 hp3 hm
    cases ds
    · obtain ⟨x0, x1, x2, x3, x4, x5, x6⟩ := HCP.out _ HS3.out.bl
      have lx := HLX.out _ HS3.out.bl
      go_wp2_with fail
      refine (rcptK_any ⟨st, pi, rq, false, eb, sz, mo⟩ f never _ hf6 HX3.out.lw).mono ?_
      rintro e w4 h4
      clear x0 x1 x2 x3 x4 x5 x6 lx
      rcases HR.out with hr | ⟨hr, hshow, hne5⟩
      · rw [hr] at h4
        obtain ⟨Ar, kr, rfl, hb4, hp4⟩ := ma_open h4
        have HS4 := Lib.hid (HX3.out.step hb4)
        have HX4 := Lib.hid (HS4.out.alloc #[.int .u8 0, sv [], .slice Ar 0 kr])
        clear h4 hb4 hp4 hr
        go_wp2_with fail
        go_ret
        exact ⟨rfl, HBX.out.trans (HX4.out.bl.mono HBX.out.size)⟩
      · rw [hr] at h4
        obtain ⟨Ar, kr, rfl, hb4, hp4⟩ := ma_open h4
        dsimp only at hp4
        have HS4 := Lib.hid ((HX3.out.step hb4).add hp4)
        have HX4 := Lib.hid (HS4.out.alloc #[.int .u8 4, sv f, .slice Ar Q.length kr])
        have HSH := Lib.hid hshow
        clear h4 hb4 hp4 hr hshow
        have e4 := HT4.out
        simp only [Bool.false_and] at e4
        subst e4
        have eq0 : ((Q.length : Int) == 0) = true := by have := HQL.out; simp at this; simp [this]
        have HG := Lib.hid (getK_any ⟨4, f, Q⟩ wNO (.slice Ar Q.length kr) (w4.alloc (.cells #[.int .u8 4, sv f, .slice Ar Q.length kr] 29)) HX4.out.row0 (by have := HQS.out.p6; exact this) (fun p hp => by have := HQS.out.each p hp; omega))
        dsimp only at HG
        rw [HQG.out] at HG
        go_wp2_with fail
        refine (HG.out).mono ?_
        rintro e w5 ⟨rfl, hb5⟩
        have HS5 := Lib.hid (HX4.out.step hb5)
        clear hb5 HG
        obtain ⟨x0, x1, x2, x3, x4, x5, x6⟩ := HCP.out _ HS5.out.bl
        obtain ⟨p0, p1, p2⟩ := HS5.out.at0
        go_wp2_with fail
        refine (aw_shown (c := ⟨4, f, Q⟩) HS5.out.lw HS5.out.row0 HQS.out HSH.out).mono ?_
        rintro e w6 ⟨rfl, hb6⟩
        have HS6 := Lib.hid (HS5.out.step hb6)
        clear hb6
        go_wp2_with fail
        go_ret
        exact ⟨rfl, HBX.out.trans (HS6.out.bl.mono HBX.out.size)⟩
    · obtain ⟨x0, x1, x2, x3, x4, x5, x6⟩ := HCP.out _ HS3.out.bl
      have lx := HLX.out _ HS3.out.bl
      go_wp2_with fail
      refine (rcptK_any ⟨st, pi, rq, true, eb, sz, mo⟩ f never _ hf6 HX3.out.lw).mono ?_
      rintro e w4 h4
      clear x0 x1 x2 x3 x4 x5 x6 lx
      rcases HR.out with hr | ⟨hr, hshow, hne5⟩
      · rw [hr] at h4
        obtain ⟨Ar, kr, rfl, hb4, hp4⟩ := ma_open h4
        have HS4 := Lib.hid (HX3.out.step hb4)
        have HX4 := Lib.hid (HS4.out.alloc #[.int .u8 0, sv [], .slice Ar 0 kr])
        clear h4 hb4 hp4 hr
        go_wp2_with fail
        go_ret
        exact ⟨rfl, HBX.out.trans (HX4.out.bl.mono HBX.out.size)⟩
      · rw [hr] at h4
        obtain ⟨Ar, kr, rfl, hb4, hp4⟩ := ma_open h4
        dsimp only at hp4
        have HS4 := Lib.hid ((HX3.out.step hb4).add hp4)
        have HX4 := Lib.hid (HS4.out.alloc #[.int .u8 4, sv f, .slice Ar Q.length kr])
        have HSH := Lib.hid hshow
        clear h4 hb4 hp4 hr hshow
        cases never
        · have e4 := HT4.out
          simp only [Bool.true_and] at e4
          subst e4
          have eq0 : ((Q.length : Int) == 0) = true := by have := HQL.out; simp at this; simp [this]
          have HG := Lib.hid (getK_any ⟨4, f, Q⟩ wNO (.slice Ar Q.length kr) (w4.alloc (.cells #[.int .u8 4, sv f, .slice Ar Q.length kr] 29)) HX4.out.row0 (by have := HQS.out.p6; exact this) (fun p hp => by have := HQS.out.each p hp; omega))
          dsimp only at HG
          rw [HQG.out] at HG
          go_wp2_with fail
          refine (HG.out).mono ?_
          rintro e w5 ⟨rfl, hb5⟩
          have HS5 := Lib.hid (HX4.out.step hb5)
          clear hb5 HG
          obtain ⟨x0, x1, x2, x3, x4, x5, x6⟩ := HCP.out _ HS5.out.bl
          obtain ⟨p0, p1, p2⟩ := HS5.out.at0
          go_wp2_with fail
          refine (aw_shown (c := ⟨4, f, Q⟩) HS5.out.lw HS5.out.row0 HQS.out HSH.out).mono ?_
          rintro e w6 ⟨rfl, hb6⟩
          have HS6 := Lib.hid (HS5.out.step hb6)
          clear hb6
          go_wp2_with fail
          go_ret
          exact ⟨rfl, HBX.out.trans (HS6.out.bl.mono HBX.out.size)⟩
        · have e4 := HT4.out
          simp only [Bool.true_and] at e4
          subst e4
          have eq1 : ((Q.length : Int) == 1) = true := by have := HQL.out; simp at this; simp [this]
          have HG := Lib.hid (getK_any ⟨4, f, Q⟩ wNO (.slice Ar Q.length kr) (w4.alloc (.cells #[.int .u8 4, sv f, .slice Ar Q.length kr] 29)) HX4.out.row0 (by have := HQS.out.p6; exact this) (fun p hp => by have := HQS.out.each p hp; omega))
          dsimp only at HG
          rw [HQG.out] at HG
          go_wp2_with fail
          refine (HG.out).mono ?_
          rintro e w5 ⟨rfl, hb5⟩
          have HS5 := Lib.hid (HX4.out.step hb5)
          clear hb5 HG
          obtain ⟨x0, x1, x2, x3, x4, x5, x6⟩ := HCP.out _ HS5.out.bl
          obtain ⟨p0, p1, p2⟩ := HS5.out.at0
          go_wp2_with fail
          refine (aw_shown (c := ⟨4, f, Q⟩) HS5.out.lw HS5.out.row0 HQS.out HSH.out).mono ?_
          rintro e w6 ⟨rfl, hb6⟩
          have HS6 := Lib.hid (HS5.out.step hb6)
          clear hb6
          go_wp2_with fail
          go_ret
          exact ⟨rfl, HBX.out.trans (HS6.out.bl.mono HBX.out.size)⟩
  · rw [hm] at h3
    obtain ⟨Am, km, rfl, hb3, hp3⟩ := ma_open h3
    dsimp only at hp3
    have HS3 := Lib.hid ((HS2.out.step hb3).add hp3)
    have HX3 := Lib.hid (HS3.out.alloc #[.int .u8 3, sv f, .slice Am PS.length km])
    have HMSH := Lib.hid hsh
    clear h3 hb3 hp3 hm hsh
    have G4 := Lib.hid (getK_any ⟨3, f, PS⟩ wSZ (.slice Am PS.length km) (w3.alloc (.cells #[.int .u8 3, sv f, .slice Am PS.length km] 29)) HX3.out.row0 (HMS.out.p6) (fun p hp => by have := HMS.out.each p hp; omega))
    dsimp only at G4
    rw [HG1.out] at G4
    go_wp2_with fail
    refine (G4.out).mono ?_
    rintro e w4 ⟨rfl, hb4⟩
    have HS4 := Lib.hid (HX3.out.step hb4)
    clear hb4 G4
    obtain ⟨p0, p1, p2⟩ := HS4.out.at0
    have G5 := Lib.hid (getK_any ⟨3, f, PS⟩ wRT (.slice Am PS.length km) w4 HS4.out.row0 (HMS.out.p6) (fun p hp => by have := HMS.out.each p hp; omega))
    dsimp only at G5
    rw [HG2.out] at G5
    go_wp2_with fail
    refine (G5.out).mono ?_
    rintro e w5 ⟨rfl, hb5⟩
    have HS5 := Lib.hid (HS4.out.step hb5)
    clear hb5 G5
    clear p0 p1 p2
    obtain ⟨p0, p1, p2⟩ := HS5.out.at0
    have G6 := Lib.hid (getK_any ⟨3, f, PS⟩ wEN (.slice Am PS.length km) w5 HS5.out.row0 (HMS.out.p6) (fun p hp => by have := HMS.out.each p hp; omega))
    dsimp only at G6
    rw [HG3.out] at G6
    go_wp2_with fail
    refine (G6.out).mono ?_
    rintro e w6 ⟨rfl, hb6⟩
    have HS6 := Lib.hid (HS5.out.step hb6)
    clear hb6 G6
    clear p0 p1 p2
    go_wp2_with fail
    go_loopw [21, 70] (fun n i wr => ∃ k : Nat, k ≤ 3 ∧ i = .int .i64 k ∧ n = .int .i64 ((cnt [sz, t1, t2] k : Nat) : Int) ∧ KR X [(w3.heap.size, #[.int .u8 3, sv f, .slice Am PS.length km])] [(.slice Am PS.length km, PS)] wr ∧ w6.heap.size < wr.heap.size ∧ ∀ j, j < 3 → wr.cell? ⟨w6.heap.size, j, none⟩ = some (.bool ([sz, t1, t2].getD j false))) (fun _ i _ => 3 - (intOf i).toNat)
    case atStart =>
      refine ⟨0, by omega, rfl, rfl, HS6.out.step (below_alloc _ _), by simp, fun j hj => ?_⟩
      rw [cellAt (heap_alloc_new w6 _)]
      match j, hj with
      | 0, _ => rfl
      | 1, _ => rfl
      | 2, _ => rfl
    case round =>
      obtain ⟨k, hk, rfl, rfl, hkr, hlw, hcell⟩ := hrel
      have HW := Lib.hid hkr
      have HCE := Lib.hid hcell
      by_cases hlt : k < 3
      · have hc := hcell k hlt
        obtain ⟨b, hb⟩ : ∃ b, [sz, t1, t2].getD k false = b := ⟨_, rfl⟩
        have HN := Lib.hid (cnt_next hlt hb)
        rw [hb] at hc
        have hc5 : cnt [sz, t1, t2] k ≤ 100 := by
          unfold cnt
          have : ((([sz, t1, t2].take k).map Bool.toNat).sum) ≤ 3 := by
            match k, hlt with
            | 0, _ => simp
            | 1, _ => cases sz <;> simp
            | 2, _ => cases sz <;> cases t1 <;> simp
          omega
        clear hb hkr hcell
        cases b
        · go_wp2_with fail
          go_roundw
          case rel => exact ⟨k + 1, by omega, by go_num, by rw [HN.out]; simp, HW.out, hlw, HCE.out⟩
          case measure => simp [intOf]; omega
        · go_wp2_with fail
          go_roundw
          case rel => exact ⟨k + 1, by omega, by go_num, by rw [HN.out]; simp, HW.out, hlw, HCE.out⟩
          case measure => simp [intOf]; omega
      · obtain rfl : k = 3 := by omega
        have hpl : ((PS.length : Int) != ((cnt [sz, t1, t2] 3 : Nat) : Int)) = false := by rw [HPL.out]; simp
        obtain ⟨n3, hn3⟩ : ∃ n, n = cnt [sz, t1, t2] 3 := ⟨_, rfl⟩
        rw [← hn3] at hpl ⊢
        clear hkr hcell hn3 HPL HG1 HG2 HG3 HCE hlw hlt hk HS2
        cases rq
        · have e1 := HT1.out
          simp only [Bool.false_and, Bool.true_and] at e1
          subst e1
          cases ds
          · have e2 := HT2.out
            simp only [Bool.false_and] at e2
            subst e2
            obtain ⟨x0, x1, x2, x3, x4, x5, x6⟩ := HCP.out _ HW.out.bl
            have lx := HLX.out _ HW.out.bl
            obtain ⟨p0, p1, p2⟩ := HW.out.at0
            go_wp2_with fail
            refine (aw_shown (c := ⟨3, f, PS⟩) HW.out.lw HW.out.row0 HMS.out HMSH.out).mono ?_
            rintro e w9 ⟨rfl, hb9⟩
            have HS9 := Lib.hid (HW.out.step hb9)
            clear hb9 x0 x1 x2 x3 x4 x5 x6 lx p0 p1 p2 HW
            obtain ⟨x0, x1, x2, x3, x4, x5, x6⟩ := HCP.out _ HS9.out.bl
            have lx := HLX.out _ HS9.out.bl
            go_wp2_with fail
            refine (rcptK_any ⟨st, pi, false, false, eb, sz, mo⟩ f never _ hf6 HS9.out.lw).mono ?_
            rintro e w10 h10
            clear x0 x1 x2 x3 x4 x5 x6 lx
            rcases HR.out with hr | ⟨hr, hshow, hne5⟩
            · rw [hr] at h10
              obtain ⟨Ar, kr, rfl, hb10, hp10⟩ := ma_open h10
              have HS10 := Lib.hid (HS9.out.step hb10)
              have HX10 := Lib.hid (HS10.out.alloc #[.int .u8 0, sv [], .slice Ar 0 kr])
              clear h10 hb10 hp10 hr
              go_wp2_with fail
              go_ret
              exact ⟨rfl, HBX.out.trans (HX10.out.bl.mono HBX.out.size)⟩
            · rw [hr] at h10
              obtain ⟨Ar, kr, rfl, hb10, hp10⟩ := ma_open h10
              dsimp only at hp10
              have HS10 := Lib.hid ((HS9.out.step hb10).add hp10)
              have HX10 := Lib.hid (HS10.out.alloc #[.int .u8 4, sv f, .slice Ar Q.length kr])
              have HSH := Lib.hid hshow
              clear h10 hb10 hp10 hr hshow
              have e4 := HT4.out
              simp only [Bool.false_and] at e4
              subst e4
              have eq0 : ((Q.length : Int) == 0) = true := by have := HQL.out; simp at this; simp [this]
              have HG := Lib.hid (getK_any ⟨4, f, Q⟩ wNO (.slice Ar Q.length kr) (w10.alloc (.cells #[.int .u8 4, sv f, .slice Ar Q.length kr] 29)) HX10.out.row0 (by have := HQS.out.p6; exact this) (fun p hp => by have := HQS.out.each p hp; omega))
              dsimp only at HG
              rw [HQG.out] at HG
              go_wp2_with fail
              refine (HG.out).mono ?_
              rintro e w11 ⟨rfl, hb11⟩
              have HS11 := Lib.hid (HX10.out.step hb11)
              clear hb11 HG
              obtain ⟨x0, x1, x2, x3, x4, x5, x6⟩ := HCP.out _ HS11.out.bl
              obtain ⟨p0, p1, p2⟩ := HS11.out.at0
              go_wp2_with fail
              refine (aw_shown (c := ⟨4, f, Q⟩) HS11.out.lw HS11.out.row0 HQS.out HSH.out).mono ?_
              rintro e w12 ⟨rfl, hb12⟩
              have HS12 := Lib.hid (HS11.out.step hb12)
              clear hb12
              go_wp2_with fail
              go_ret
              exact ⟨rfl, HBX.out.trans (HS12.out.bl.mono HBX.out.size)⟩
          · cases ee
            · have e2 := HT2.out
              simp only [Bool.true_and, Bool.not_true, Bool.not_false] at e2
              subst e2
              have e3 := HY3.out
              simp only [if_true, if_false, Bool.false_eq_true] at e3
              subst e3
              obtain ⟨x0, x1, x2, x3, x4, x5, x6⟩ := HCP.out _ HW.out.bl
              have lx := HLX.out _ HW.out.bl
              obtain ⟨p0, p1, p2⟩ := HW.out.at0
              go_wp2_with fail
              refine (aw_shown (c := ⟨3, f, PS⟩) HW.out.lw HW.out.row0 HMS.out HMSH.out).mono ?_
              rintro e w9 ⟨rfl, hb9⟩
              have HS9 := Lib.hid (HW.out.step hb9)
              clear hb9 x0 x1 x2 x3 x4 x5 x6 lx p0 p1 p2 HW
              obtain ⟨x0, x1, x2, x3, x4, x5, x6⟩ := HCP.out _ HS9.out.bl
              have lx := HLX.out _ HS9.out.bl
              go_wp2_with fail
              refine (rcptK_any ⟨st, pi, false, true, eb, sz, mo⟩ f never _ hf6 HS9.out.lw).mono ?_
              rintro e w10 h10
              clear x0 x1 x2 x3 x4 x5 x6 lx
              rcases HR.out with hr | ⟨hr, hshow, hne5⟩
              · rw [hr] at h10
                obtain ⟨Ar, kr, rfl, hb10, hp10⟩ := ma_open h10
                have HS10 := Lib.hid (HS9.out.step hb10)
                have HX10 := Lib.hid (HS10.out.alloc #[.int .u8 0, sv [], .slice Ar 0 kr])
                clear h10 hb10 hp10 hr
                go_wp2_with fail
                go_ret
                exact ⟨rfl, HBX.out.trans (HX10.out.bl.mono HBX.out.size)⟩
              · rw [hr] at h10
                obtain ⟨Ar, kr, rfl, hb10, hp10⟩ := ma_open h10
                dsimp only at hp10
                have HS10 := Lib.hid ((HS9.out.step hb10).add hp10)
                have HX10 := Lib.hid (HS10.out.alloc #[.int .u8 4, sv f, .slice Ar Q.length kr])
                have HSH := Lib.hid hshow
                clear h10 hb10 hp10 hr hshow
                cases never
                · have e4 := HT4.out
                  simp only [Bool.true_and] at e4
                  subst e4
                  have eq0 : ((Q.length : Int) == 0) = true := by have := HQL.out; simp at this; simp [this]
                  have HG := Lib.hid (getK_any ⟨4, f, Q⟩ wNO (.slice Ar Q.length kr) (w10.alloc (.cells #[.int .u8 4, sv f, .slice Ar Q.length kr] 29)) HX10.out.row0 (by have := HQS.out.p6; exact this) (fun p hp => by have := HQS.out.each p hp; omega))
                  dsimp only at HG
                  rw [HQG.out] at HG
                  go_wp2_with fail
                  refine (HG.out).mono ?_
                  rintro e w11 ⟨rfl, hb11⟩
                  have HS11 := Lib.hid (HX10.out.step hb11)
                  clear hb11 HG
                  obtain ⟨x0, x1, x2, x3, x4, x5, x6⟩ := HCP.out _ HS11.out.bl
                  obtain ⟨p0, p1, p2⟩ := HS11.out.at0
                  go_wp2_with fail
                  refine (aw_shown (c := ⟨4, f, Q⟩) HS11.out.lw HS11.out.row0 HQS.out HSH.out).mono ?_
                  rintro e w12 ⟨rfl, hb12⟩
                  have HS12 := Lib.hid (HS11.out.step hb12)
                  clear hb12
                  go_wp2_with fail
                  go_ret
                  exact ⟨rfl, HBX.out.trans (HS12.out.bl.mono HBX.out.size)⟩
                · have e4 := HT4.out
                  simp only [Bool.true_and] at e4
                  subst e4
                  have eq1 : ((Q.length : Int) == 1) = true := by have := HQL.out; simp at this; simp [this]
                  have HG := Lib.hid (getK_any ⟨4, f, Q⟩ wNO (.slice Ar Q.length kr) (w10.alloc (.cells #[.int .u8 4, sv f, .slice Ar Q.length kr] 29)) HX10.out.row0 (by have := HQS.out.p6; exact this) (fun p hp => by have := HQS.out.each p hp; omega))
                  dsimp only at HG
                  rw [HQG.out] at HG
                  go_wp2_with fail
                  refine (HG.out).mono ?_
                  rintro e w11 ⟨rfl, hb11⟩
                  have HS11 := Lib.hid (HX10.out.step hb11)
                  clear hb11 HG
                  obtain ⟨x0, x1, x2, x3, x4, x5, x6⟩ := HCP.out _ HS11.out.bl
                  obtain ⟨p0, p1, p2⟩ := HS11.out.at0
                  go_wp2_with fail
                  refine (aw_shown (c := ⟨4, f, Q⟩) HS11.out.lw HS11.out.row0 HQS.out HSH.out).mono ?_
                  rintro e w12 ⟨rfl, hb12⟩
                  have HS12 := Lib.hid (HS11.out.step hb12)
                  clear hb12
                  go_wp2_with fail
                  go_ret
                  exact ⟨rfl, HBX.out.trans (HS12.out.bl.mono HBX.out.size)⟩
            · have e2 := HT2.out
              simp only [Bool.true_and, Bool.not_true, Bool.not_false] at e2
              subst e2
              have e3 := HY3.out
              simp only [if_true, if_false, Bool.false_eq_true] at e3
              subst e3
              obtain ⟨x0, x1, x2, x3, x4, x5, x6⟩ := HCP.out _ HW.out.bl
              have lx := HLX.out _ HW.out.bl
              obtain ⟨p0, p1, p2⟩ := HW.out.at0
              go_wp2_with fail
              refine (aw_shown (c := ⟨3, f, PS⟩) HW.out.lw HW.out.row0 HMS.out HMSH.out).mono ?_
              rintro e w9 ⟨rfl, hb9⟩
              have HS9 := Lib.hid (HW.out.step hb9)
              clear hb9 x0 x1 x2 x3 x4 x5 x6 lx p0 p1 p2 HW
              obtain ⟨x0, x1, x2, x3, x4, x5, x6⟩ := HCP.out _ HS9.out.bl
              have lx := HLX.out _ HS9.out.bl
              go_wp2_with fail
              refine (rcptK_any ⟨st, pi, false, true, eb, sz, mo⟩ f never _ hf6 HS9.out.lw).mono ?_
              rintro e w10 h10
              clear x0 x1 x2 x3 x4 x5 x6 lx
              rcases HR.out with hr | ⟨hr, hshow, hne5⟩
              · rw [hr] at h10
                obtain ⟨Ar, kr, rfl, hb10, hp10⟩ := ma_open h10
                have HS10 := Lib.hid (HS9.out.step hb10)
                have HX10 := Lib.hid (HS10.out.alloc #[.int .u8 0, sv [], .slice Ar 0 kr])
                clear h10 hb10 hp10 hr
                go_wp2_with fail
                go_ret
                exact ⟨rfl, HBX.out.trans (HX10.out.bl.mono HBX.out.size)⟩
              · rw [hr] at h10
                obtain ⟨Ar, kr, rfl, hb10, hp10⟩ := ma_open h10
                dsimp only at hp10
                have HS10 := Lib.hid ((HS9.out.step hb10).add hp10)
                have HX10 := Lib.hid (HS10.out.alloc #[.int .u8 4, sv f, .slice Ar Q.length kr])
                have HSH := Lib.hid hshow
                clear h10 hb10 hp10 hr hshow
                cases never
                · have e4 := HT4.out
                  simp only [Bool.true_and] at e4
                  subst e4
                  have eq0 : ((Q.length : Int) == 0) = true := by have := HQL.out; simp at this; simp [this]
                  have HG := Lib.hid (getK_any ⟨4, f, Q⟩ wNO (.slice Ar Q.length kr) (w10.alloc (.cells #[.int .u8 4, sv f, .slice Ar Q.length kr] 29)) HX10.out.row0 (by have := HQS.out.p6; exact this) (fun p hp => by have := HQS.out.each p hp; omega))
                  dsimp only at HG
                  rw [HQG.out] at HG
                  go_wp2_with fail
                  refine (HG.out).mono ?_
                  rintro e w11 ⟨rfl, hb11⟩
                  have HS11 := Lib.hid (HX10.out.step hb11)
                  clear hb11 HG
                  obtain ⟨x0, x1, x2, x3, x4, x5, x6⟩ := HCP.out _ HS11.out.bl
                  obtain ⟨p0, p1, p2⟩ := HS11.out.at0
                  go_wp2_with fail
                  refine (aw_shown (c := ⟨4, f, Q⟩) HS11.out.lw HS11.out.row0 HQS.out HSH.out).mono ?_
                  rintro e w12 ⟨rfl, hb12⟩
                  have HS12 := Lib.hid (HS11.out.step hb12)
                  clear hb12
                  go_wp2_with fail
                  go_ret
                  exact ⟨rfl, HBX.out.trans (HS12.out.bl.mono HBX.out.size)⟩
                · have e4 := HT4.out
                  simp only [Bool.true_and] at e4
                  subst e4
                  have eq1 : ((Q.length : Int) == 1) = true := by have := HQL.out; simp at this; simp [this]
                  have HG := Lib.hid (getK_any ⟨4, f, Q⟩ wNO (.slice Ar Q.length kr) (w10.alloc (.cells #[.int .u8 4, sv f, .slice Ar Q.length kr] 29)) HX10.out.row0 (by have := HQS.out.p6; exact this) (fun p hp => by have := HQS.out.each p hp; omega))
                  dsimp only at HG
                  rw [HQG.out] at HG
                  go_wp2_with fail
                  refine (HG.out).mono ?_
                  rintro e w11 ⟨rfl, hb11⟩
                  have HS11 := Lib.hid (HX10.out.step hb11)
                  clear hb11 HG
                  obtain ⟨x0, x1, x2, x3, x4, x5, x6⟩ := HCP.out _ HS11.out.bl
                  obtain ⟨p0, p1, p2⟩ := HS11.out.at0
                  go_wp2_with fail
                  refine (aw_shown (c := ⟨4, f, Q⟩) HS11.out.lw HS11.out.row0 HQS.out HSH.out).mono ?_
                  rintro e w12 ⟨rfl, hb12⟩
                  have HS12 := Lib.hid (HS11.out.step hb12)
                  clear hb12
                  go_wp2_with fail
                  go_ret
                  exact ⟨rfl, HBX.out.trans (HS12.out.bl.mono HBX.out.size)⟩
        · have e1 := HT1.out
          simp only [Bool.false_and, Bool.true_and] at e1
          subst e1
          cases ds
          · have e2 := HT2.out
            simp only [Bool.false_and] at e2
            subst e2
            obtain ⟨x0, x1, x2, x3, x4, x5, x6⟩ := HCP.out _ HW.out.bl
            have lx := HLX.out _ HW.out.bl
            obtain ⟨p0, p1, p2⟩ := HW.out.at0
            go_wp2_with fail
            refine (aw_shown (c := ⟨3, f, PS⟩) HW.out.lw HW.out.row0 HMS.out HMSH.out).mono ?_
            rintro e w9 ⟨rfl, hb9⟩
            have HS9 := Lib.hid (HW.out.step hb9)
            clear hb9 x0 x1 x2 x3 x4 x5 x6 lx p0 p1 p2 HW
            obtain ⟨x0, x1, x2, x3, x4, x5, x6⟩ := HCP.out _ HS9.out.bl
            have lx := HLX.out _ HS9.out.bl
            go_wp2_with fail
            refine (rcptK_any ⟨st, pi, true, false, eb, sz, mo⟩ f never _ hf6 HS9.out.lw).mono ?_
            rintro e w10 h10
            clear x0 x1 x2 x3 x4 x5 x6 lx
            rcases HR.out with hr | ⟨hr, hshow, hne5⟩
            · rw [hr] at h10
              obtain ⟨Ar, kr, rfl, hb10, hp10⟩ := ma_open h10
              have HS10 := Lib.hid (HS9.out.step hb10)
              have HX10 := Lib.hid (HS10.out.alloc #[.int .u8 0, sv [], .slice Ar 0 kr])
              clear h10 hb10 hp10 hr
              go_wp2_with fail
              go_ret
              exact ⟨rfl, HBX.out.trans (HX10.out.bl.mono HBX.out.size)⟩
            · rw [hr] at h10
              obtain ⟨Ar, kr, rfl, hb10, hp10⟩ := ma_open h10
              dsimp only at hp10
              have HS10 := Lib.hid ((HS9.out.step hb10).add hp10)
              have HX10 := Lib.hid (HS10.out.alloc #[.int .u8 4, sv f, .slice Ar Q.length kr])
              have HSH := Lib.hid hshow
              clear h10 hb10 hp10 hr hshow
              have e4 := HT4.out
              simp only [Bool.false_and] at e4
              subst e4
              have eq0 : ((Q.length : Int) == 0) = true := by have := HQL.out; simp at this; simp [this]
              have HG := Lib.hid (getK_any ⟨4, f, Q⟩ wNO (.slice Ar Q.length kr) (w10.alloc (.cells #[.int .u8 4, sv f, .slice Ar Q.length kr] 29)) HX10.out.row0 (by have := HQS.out.p6; exact this) (fun p hp => by have := HQS.out.each p hp; omega))
              dsimp only at HG
              rw [HQG.out] at HG
              go_wp2_with fail
              refine (HG.out).mono ?_
              rintro e w11 ⟨rfl, hb11⟩
              have HS11 := Lib.hid (HX10.out.step hb11)
              clear hb11 HG
              obtain ⟨x0, x1, x2, x3, x4, x5, x6⟩ := HCP.out _ HS11.out.bl
              obtain ⟨p0, p1, p2⟩ := HS11.out.at0
              go_wp2_with fail
              refine (aw_shown (c := ⟨4, f, Q⟩) HS11.out.lw HS11.out.row0 HQS.out HSH.out).mono ?_
              rintro e w12 ⟨rfl, hb12⟩
              have HS12 := Lib.hid (HS11.out.step hb12)
              clear hb12
              go_wp2_with fail
              go_ret
              exact ⟨rfl, HBX.out.trans (HS12.out.bl.mono HBX.out.size)⟩
          · cases ee
            · have e2 := HT2.out
              simp only [Bool.true_and, Bool.not_true, Bool.not_false] at e2
              subst e2
              have e3 := HY3.out
              simp only [if_true, if_false, Bool.false_eq_true] at e3
              subst e3
              obtain ⟨x0, x1, x2, x3, x4, x5, x6⟩ := HCP.out _ HW.out.bl
              have lx := HLX.out _ HW.out.bl
              obtain ⟨p0, p1, p2⟩ := HW.out.at0
              go_wp2_with fail
              refine (aw_shown (c := ⟨3, f, PS⟩) HW.out.lw HW.out.row0 HMS.out HMSH.out).mono ?_
              rintro e w9 ⟨rfl, hb9⟩
              have HS9 := Lib.hid (HW.out.step hb9)
              clear hb9 x0 x1 x2 x3 x4 x5 x6 lx p0 p1 p2 HW
              obtain ⟨x0, x1, x2, x3, x4, x5, x6⟩ := HCP.out _ HS9.out.bl
              have lx := HLX.out _ HS9.out.bl
              go_wp2_with fail
              refine (rcptK_any ⟨st, pi, true, true, eb, sz, mo⟩ f never _ hf6 HS9.out.lw).mono ?_
              rintro e w10 h10
              clear x0 x1 x2 x3 x4 x5 x6 lx
              rcases HR.out with hr | ⟨hr, hshow, hne5⟩
              · rw [hr] at h10
                obtain ⟨Ar, kr, rfl, hb10, hp10⟩ := ma_open h10
                have HS10 := Lib.hid (HS9.out.step hb10)
                have HX10 := Lib.hid (HS10.out.alloc #[.int .u8 0, sv [], .slice Ar 0 kr])
                clear h10 hb10 hp10 hr
                go_wp2_with fail
                go_ret
                exact ⟨rfl, HBX.out.trans (HX10.out.bl.mono HBX.out.size)⟩
              · rw [hr] at h10
                obtain ⟨Ar, kr, rfl, hb10, hp10⟩ := ma_open h10
                dsimp only at hp10
                have HS10 := Lib.hid ((HS9.out.step hb10).add hp10)
                have HX10 := Lib.hid (HS10.out.alloc #[.int .u8 4, sv f, .slice Ar Q.length kr])
                have HSH := Lib.hid hshow
                clear h10 hb10 hp10 hr hshow
                cases never
                · have e4 := HT4.out
                  simp only [Bool.true_and] at e4
                  subst e4
                  have eq0 : ((Q.length : Int) == 0) = true := by have := HQL.out; simp at this; simp [this]
                  have HG := Lib.hid (getK_any ⟨4, f, Q⟩ wNO (.slice Ar Q.length kr) (w10.alloc (.cells #[.int .u8 4, sv f, .slice Ar Q.length kr] 29)) HX10.out.row0 (by have := HQS.out.p6; exact this) (fun p hp => by have := HQS.out.each p hp; omega))
                  dsimp only at HG
                  rw [HQG.out] at HG
                  go_wp2_with fail
                  refine (HG.out).mono ?_
                  rintro e w11 ⟨rfl, hb11⟩
                  have HS11 := Lib.hid (HX10.out.step hb11)
                  clear hb11 HG
                  obtain ⟨x0, x1, x2, x3, x4, x5, x6⟩ := HCP.out _ HS11.out.bl
                  obtain ⟨p0, p1, p2⟩ := HS11.out.at0
                  go_wp2_with fail
                  refine (aw_shown (c := ⟨4, f, Q⟩) HS11.out.lw HS11.out.row0 HQS.out HSH.out).mono ?_
                  rintro e w12 ⟨rfl, hb12⟩
                  have HS12 := Lib.hid (HS11.out.step hb12)
                  clear hb12
                  go_wp2_with fail
                  go_ret
                  exact ⟨rfl, HBX.out.trans (HS12.out.bl.mono HBX.out.size)⟩
                · have e4 := HT4.out
                  simp only [Bool.true_and] at e4
                  subst e4
                  have eq1 : ((Q.length : Int) == 1) = true := by have := HQL.out; simp at this; simp [this]
                  have HG := Lib.hid (getK_any ⟨4, f, Q⟩ wNO (.slice Ar Q.length kr) (w10.alloc (.cells #[.int .u8 4, sv f, .slice Ar Q.length kr] 29)) HX10.out.row0 (by have := HQS.out.p6; exact this) (fun p hp => by have := HQS.out.each p hp; omega))
                  dsimp only at HG
                  rw [HQG.out] at HG
                  go_wp2_with fail
                  refine (HG.out).mono ?_
                  rintro e w11 ⟨rfl, hb11⟩
                  have HS11 := Lib.hid (HX10.out.step hb11)
                  clear hb11 HG
                  obtain ⟨x0, x1, x2, x3, x4, x5, x6⟩ := HCP.out _ HS11.out.bl
                  obtain ⟨p0, p1, p2⟩ := HS11.out.at0
                  go_wp2_with fail
                  refine (aw_shown (c := ⟨4, f, Q⟩) HS11.out.lw HS11.out.row0 HQS.out HSH.out).mono ?_
                  rintro e w12 ⟨rfl, hb12⟩
                  have HS12 := Lib.hid (HS11.out.step hb12)
                  clear hb12
                  go_wp2_with fail
                  go_ret
                  exact ⟨rfl, HBX.out.trans (HS12.out.bl.mono HBX.out.size)⟩
            · have e2 := HT2.out
              simp only [Bool.true_and, Bool.not_true, Bool.not_false] at e2
              subst e2
              have e3 := HY3.out
              simp only [if_true, if_false, Bool.false_eq_true] at e3
              subst e3
              obtain ⟨x0, x1, x2, x3, x4, x5, x6⟩ := HCP.out _ HW.out.bl
              have lx := HLX.out _ HW.out.bl
              obtain ⟨p0, p1, p2⟩ := HW.out.at0
              go_wp2_with fail
              refine (aw_shown (c := ⟨3, f, PS⟩) HW.out.lw HW.out.row0 HMS.out HMSH.out).mono ?_
              rintro e w9 ⟨rfl, hb9⟩
              have HS9 := Lib.hid (HW.out.step hb9)
              clear hb9 x0 x1 x2 x3 x4 x5 x6 lx p0 p1 p2 HW
              obtain ⟨x0, x1, x2, x3, x4, x5, x6⟩ := HCP.out _ HS9.out.bl
              have lx := HLX.out _ HS9.out.bl
              go_wp2_with fail
              refine (rcptK_any ⟨st, pi, true, true, eb, sz, mo⟩ f never _ hf6 HS9.out.lw).mono ?_
              rintro e w10 h10
              clear x0 x1 x2 x3 x4 x5 x6 lx
              rcases HR.out with hr | ⟨hr, hshow, hne5⟩
              · rw [hr] at h10
                obtain ⟨Ar, kr, rfl, hb10, hp10⟩ := ma_open h10
                have HS10 := Lib.hid (HS9.out.step hb10)
                have HX10 := Lib.hid (HS10.out.alloc #[.int .u8 0, sv [], .slice Ar 0 kr])
                clear h10 hb10 hp10 hr
                go_wp2_with fail
                go_ret
                exact ⟨rfl, HBX.out.trans (HX10.out.bl.mono HBX.out.size)⟩
              · rw [hr] at h10
                obtain ⟨Ar, kr, rfl, hb10, hp10⟩ := ma_open h10
                dsimp only at hp10
                have HS10 := Lib.hid ((HS9.out.step hb10).add hp10)
                have HX10 := Lib.hid (HS10.out.alloc #[.int .u8 4, sv f, .slice Ar Q.length kr])
                have HSH := Lib.hid hshow
                clear h10 hb10 hp10 hr hshow
                cases never
                · have e4 := HT4.out
                  simp only [Bool.true_and] at e4
                  subst e4
                  have eq0 : ((Q.length : Int) == 0) = true := by have := HQL.out; simp at this; simp [this]
                  have HG := Lib.hid (getK_any ⟨4, f, Q⟩ wNO (.slice Ar Q.length kr) (w10.alloc (.cells #[.int .u8 4, sv f, .slice Ar Q.length kr] 29)) HX10.out.row0 (by have := HQS.out.p6; exact this) (fun p hp => by have := HQS.out.each p hp; omega))
                  dsimp only at HG
                  rw [HQG.out] at HG
                  go_wp2_with fail
                  refine (HG.out).mono ?_
                  rintro e w11 ⟨rfl, hb11⟩
                  have HS11 := Lib.hid (HX10.out.step hb11)
                  clear hb11 HG
                  obtain ⟨x0, x1, x2, x3, x4, x5, x6⟩ := HCP.out _ HS11.out.bl
                  obtain ⟨p0, p1, p2⟩ := HS11.out.at0
                  go_wp2_with fail
                  refine (aw_shown (c := ⟨4, f, Q⟩) HS11.out.lw HS11.out.row0 HQS.out HSH.out).mono ?_
                  rintro e w12 ⟨rfl, hb12⟩
                  have HS12 := Lib.hid (HS11.out.step hb12)
                  clear hb12
                  go_wp2_with fail
                  go_ret
                  exact ⟨rfl, HBX.out.trans (HS12.out.bl.mono HBX.out.size)⟩
                · have e4 := HT4.out
                  simp only [Bool.true_and] at e4
                  subst e4
                  have eq1 : ((Q.length : Int) == 1) = true := by have := HQL.out; simp at this; simp [this]
                  have HG := Lib.hid (getK_any ⟨4, f, Q⟩ wNO (.slice Ar Q.length kr) (w10.alloc (.cells #[.int .u8 4, sv f, .slice Ar Q.length kr] 29)) HX10.out.row0 (by have := HQS.out.p6; exact this) (fun p hp => by have := HQS.out.each p hp; omega))
                  dsimp only at HG
                  rw [HQG.out] at HG
                  go_wp2_with fail
                  refine (HG.out).mono ?_
                  rintro e w11 ⟨rfl, hb11⟩
                  have HS11 := Lib.hid (HX10.out.step hb11)
                  clear hb11 HG
                  obtain ⟨x0, x1, x2, x3, x4, x5, x6⟩ := HCP.out _ HS11.out.bl
                  obtain ⟨p0, p1, p2⟩ := HS11.out.at0
                  go_wp2_with fail
                  refine (aw_shown (c := ⟨4, f, Q⟩) HS11.out.lw HS11.out.row0 HQS.out HSH.out).mono ?_
                  rintro e w12 ⟨rfl, hb12⟩
                  have HS12 := Lib.hid (HS11.out.step hb12)
                  clear hb12
                  go_wp2_with fail
                  go_ret
                  exact ⟨rfl, HBX.out.trans (HS12.out.bl.mono HBX.out.size)⟩
end Go.Proofs.YtifmnlcggokfkaaGreatDoor
