/-
  The contract of the reference's root.
-/
import Derived.Deep.QuietTactic
import Derived.Test.YtdniojbplakeoaaDoorRtTimes
namespace Go.Proofs.YtdniojbplakeoaaDoor
open Go Go.RowKit Go.Shelf
set_option maxRecDepth 100000

/-- The greatest number whose power is not above p with 0s behind, bit by bit. -/
def rootG (p pw : Nat) : Nat → Nat → Nat
  | 0, n => n
  | k + 1, n => rootG p pw k (if (n + 2 ^ k) ^ pw ≤ p * 65536 ^ (2 * pw) then n + 2 ^ k else n)

theorem u64v_one {ds : List Nat} : ∀ u ∈ ds.map u64v, u.oneCell' = true := by
  intro u hu
  obtain ⟨d, _, rfl⟩ := List.mem_map.1 hu
  rfl
/-- An append to a literal of one 0. -/
theorem run_app64 {W : World} {c : Nat} {A : Option Addr} {ds : List Nat} (h : UR W (.slice A ds.length c) ds) (hp : 0 < ds.length) (hl : ds.length ≤ 1000) :
    ∃ g cap W', (Builtin.append_ #[62, 62] 62 #[.slice (some ⟨W.heap.size, 0, none⟩) 1 1, .slice A ds.length c]).run Tryd.prog (W.alloc (.cells #[.int .u64 0] 53)) = .ok (.slice (some ⟨g, 0, none⟩) (1 + ds.length) cap) W' ∧
      UR W' (.slice (some ⟨g, 0, none⟩) (1 + ds.length) cap) (0 :: ds) ∧ Below W.heap.size W W' := by
  obtain ⟨i, hi, hz0, hz1, hz2⟩ := info_parts (show (Tryd.prog.info? 53).map (fun i => (i.zero, i.size, i.bytes)) = some (some (.int .u64 0), 1, 8) by kernel_rfl)
  obtain ⟨b, rfl, hb, _⟩ := h.at_ hp
  have hown : (W.alloc (.cells #[.int .u64 0] 53)).ownsRow W.heap.size 53 1 (.slice (some ⟨W.heap.size, 0, none⟩) 1 1) 1 (([0] : List Nat).map u64v) :=
    ⟨by simp, .inr ⟨W.heap.size, 1, #[.int .u64 0], rfl, Nat.le_refl _, heap_alloc_new W _, Nat.le_refl _, by decide, rfl, rfl⟩⟩
  obtain ⟨g, cap, W', h1, h2, h3, _, h5⟩ := run_append_lies (P := Tryd.prog) (W.alloc (.cells #[.int .u64 0] 53)) 62 62 W.heap.size 53 i _ 1 8 Tryd.underlying62 hi hz0 hz1 hz2 rfl (by decide) _ 1 _ hown ⟨b, 0, none⟩ ds.length c (ds.map u64v) (by simp)
    (fun j u hu => by
      have hj : j < ds.length := by have := (List.getElem?_eq_some_iff.1 hu).1; simpa using this
      obtain ⟨b', e, hl', hc⟩ := h.at_ hj
      simp only [Option.some.injEq, Addr.mk.injEq, and_true] at e
      subst e
      rw [Go.WideShapes.add_plain, Nat.zero_add]
      rw [List.getElem?_map, List.getElem?_eq_getElem hj] at hu
      simp only [Option.map_some, Option.some.injEq] at hu
      rw [← hu]
      exact ((below_alloc W (.cells #[.int .u64 0] 53)).cell (p := ⟨b, j, none⟩) hb).trans hc)
    u64v_one hp (by unfold maxLen; omega) (by omega) (by simp) _ rfl
  refine ⟨g, cap, W', h1, ⟨_, cap, by rw [List.length_cons, Nat.add_comm], .inr ⟨g, rfl, h5, fun k hk => ?_⟩⟩, Below.grown (below_alloc W _) h3 (by simp) (fun j e => by
    have := (hown.lt j (by rw [← e])).1; omega)⟩
  have h2' : W'.ownsRow W.heap.size 53 1 (.slice (some ⟨g, 0, none⟩) (1 + ds.length) cap) (1 + ds.length) ((0 :: ds).map u64v) := h2
  rcases h2'.2 with ⟨h, _⟩ | ⟨g', cap', cur, e, _, hg', _, _, _, ht⟩
  · cases h
  · simp only [Value.slice.injEq, Option.some.injEq, Addr.mk.injEq, true_and, and_true] at e
    obtain ⟨rfl, rfl⟩ := e
    rw [cellAt hg']
    have h3 : (cur.toList.take ((1 + ds.length) * 1))[k]? = cur.toList[k]? := List.getElem?_take_of_lt (by rw [List.length_cons] at hk; omega)
    rw [ht, List.getElem?_map, List.getElem?_eq_getElem hk] at h3
    rw [← Array.getElem?_toList, ← h3]
    rfl

set_option maxHeartbeats 8000000 in
theorem root_any (p pw : Nat) (w : World) (hp : p < 1000000) (hw : pw = 2 ∨ pw = 3) :
    Calls Tryd.prog 45 #[.int .u64 (p : Int), .int .i64 (pw : Int)] w fun e w' => e = .returned (.int .u32 ((rootG p pw 41 0 % 4294967296 : Nat) : Int)) ∧ Below w.heap.size w w' := by
  have HD := Lib.hid (digits_any p w (by omega))
  have hpw : 2 ≤ pw ∧ pw ≤ 3 := by omega
  obtain ⟨R, hR⟩ : ∃ R, R = rootG p pw 41 0 := ⟨_, rfl⟩
  rw [← hR]
  have HR := Lib.hid hR
  clear hR hw
  go_enter Tryd.func45, Tryd.ntmps45
  go_wp2_with fail
  refine (HD.out).mono ?_
  rintro e w1 ⟨v1, rfl, hu, hb⟩
  have HU := Lib.hid (show ∃ ds, UR w1 v1 ds ∧ val ds = p * 65536 ^ 0 ∧ (∀ d ∈ ds, d ≤ 65535) ∧ ds.length = 4 + 0 from ⟨digs p, hu, by rw [digs_val]; simp, digs_le p (by omega), rfl⟩)
  have HB := Lib.hid hb
  clear hu hb HD
  go_wp2_with fail
  go_loopw [5, 6] (fun v i wr => ∃ (j : Nat) (ds : List Nat), j ≤ 2 * pw ∧ i = .int .i64 j ∧ UR wr v ds ∧ val ds = p * 65536 ^ j ∧ (∀ d ∈ ds, d ≤ 65535) ∧ ds.length = 4 + j ∧ Below w.heap.size w wr) (fun _ i _ => 2 * pw - (intOf i).toNat)
  case atStart =>
    obtain ⟨ds, h1, h2, h3, h4⟩ := HU.out
    exact ⟨0, ds, by omega, rfl, h1, h2, h3, h4, HB.out⟩
  case round =>
    obtain ⟨j, ds, hj, rfl, hu, hv, hd, hlen, hb⟩ := hrel
    by_cases hlt : j < 2 * pw
    · obtain ⟨A, c, rfl, -⟩ := id hu
      obtain ⟨g, cap, W', hrun, hu2, hb2⟩ := run_app64 hu (by omega) (by omega)
      have HU2 := Lib.hid hu2
      have HB2 := Lib.hid (hb.trans (hb2.mono hb.size))
      have HV := Lib.hid (show val (0 :: ds) = p * 65536 ^ (j + 1) by rw [val, hv, Nat.pow_succ, Nat.zero_add, Nat.mul_comm 65536, Nat.mul_assoc])
      have HDD := Lib.hid (show ∀ d ∈ (0 :: ds), d ≤ 65535 from fun d h => (List.mem_cons.1 h).elim (fun e => by rw [e]; decide) (hd d))
      have HLN := Lib.hid (show (0 :: ds).length = 4 + (j + 1) by simp [hlen]; omega)
      have HLE := Lib.hid hlen
      have HRUN := Lib.hid hrun
      clear hu hv hd hb hu2 hb2 hlen hrun
      go_wp2_with (at_builtin; refine wpList_append_run rfl _ _ 62 rfl rfl rfl HRUN.out ?_)
      go_roundw
      case rel => exact ⟨j + 1, 0 :: ds, by omega, by go_num, HU2.out, HV.out, HDD.out, HLN.out, HB2.out⟩
      case measure => simp [intOf]; omega
    · have hj2 : j = 2 * pw := by omega
      have HJ := Lib.hid hj2
      have HU1 := Lib.hid hu; have HV1 := Lib.hid (show val ds = p * 65536 ^ (2 * pw) by rw [hv, hj2]); have HD1 := Lib.hid hd; have HB1 := Lib.hid hb; have HL1 := Lib.hid hlen
      clear hu hv hd hb hlen hj2
      go_wp2_with fail
      go_loopw [7, 8, 9, 10, 11, 12] (fun nv bv _ _ _ _ W => ∃ (k m : Nat), bv = .int .i64 ((k : Int) - 1) ∧ nv = .int .u64 (m : Int) ∧ k ≤ 41 ∧ m + 2 ^ k ≤ 2199023255552 ∧ rootG p pw k m = R ∧ Below w.heap.size w W ∧ UR W u5 ds) (fun _ bv _ _ _ _ _ => (intOf bv + 1).toNat)
      case atStart => exact ⟨41, 0, by go_num, rfl, by decide, by decide, HR.out.symm, HB1.out, HU1.out⟩
      case round =>
        obtain ⟨k, m, rfl, rfl, hk, hm, hr, hb, hu⟩ := hrel
        rcases Nat.eq_zero_or_pos k with rfl | hp0
        · have hm' : m = R := hr
          have HM := Lib.hid hm'
          have HBB := Lib.hid hb
          have hm3 : m < 2199023255552 := by simp at hm; omega
          clear hr hb hu hm hm'
          go_wp2_with fail
          go_ret
          exact ⟨by rw [← HM.out]; simp, HBB.out⟩
        · obtain ⟨i, rfl⟩ : ∃ i, k = i + 1 := ⟨k - 1, by omega⟩
          have ei : (((i + 1 : Nat) : Int) - 1) = (i : Int) := by omega
          rw [ei]
          obtain ⟨t, ht⟩ : ∃ t, t = 2 ^ i := ⟨_, rfl⟩
          have HT := Lib.hid ht
          have hmt : m + t + t ≤ 2199023255552 := by rw [Nat.pow_succ] at hm; omega
          have htp : 0 < t := by rw [ht]; exact Nat.pow_pos (by decide)
          obtain ⟨mo, hmo⟩ : ∃ mo, mo = m + t := ⟨_, rfl⟩
          have HMO := Lib.hid hmo
          have hi40 : i ≤ 40 := by omega
          have HDG := Lib.hid (fun W => digits_any mo W (by omega))
          have HRR := Lib.hid hr; have HBB := Lib.hid hb; have HUU := Lib.hid hu
          have hwA : IntKind.u64.wrap ((2 : Int) ^ i) = (t : Int) := by
            have e : ((2 : Int) ^ i) = (t : Int) := by rw [ht]; simp
            rw [e]; exact wrapU _ (by omega) (by omega)
          have hwB : IntKind.u64.wrap ((m : Int) + (t : Int)) = (mo : Int) := by rw [wrapU _ (by omega) (by omega)]; omega
          have hmo2 : mo ≤ 2199023255552 := by omega
          clear hr hb hu ht hmo hm ei hp0
          go_wp2_with fail
          refine (HDG.out _).mono ?_
          rintro e w2 ⟨vx, rfl, hux, hbx⟩
          have HX := Lib.hid hux
          have HB2 := Lib.hid (HBB.out.trans (hbx.mono HBB.out.size))
          have HU2 := Lib.hid (HUU.out.below hbx)
          clear hux hbx hwA hwB
          go_wp2_with fail
          go_loopw [11, 12] (fun av jv W => ∃ (j : Nat) (zs : List Nat), 1 ≤ j ∧ j ≤ pw ∧ jv = .int .i64 (j : Int) ∧ UR W av zs ∧ val zs = mo ^ j ∧ (∀ d ∈ zs, d ≤ 65535) ∧ zs.length ≤ 5 * j ∧ Below w.heap.size w W ∧ UR W u5 ds ∧ UR W vx (digs mo)) (fun _ jv _ => pw - (intOf jv).toNat)
          case atStart => exact ⟨1, digs mo, by omega, by omega, rfl, HX.out, by rw [digs_val, Nat.pow_one], digs_le mo (by omega), by simp [digs], HB2.out, HU2.out, HX.out⟩
          case round =>
            obtain ⟨j, zs, hj1, hj2, rfl, ha, hva, hda, hla, hb, hub, hxb⟩ := hrel
            by_cases hjl : j < pw
            · have HTM := Lib.hid (times_any zs (digs mo) _ _ wr ha hxb hda (digs_le mo (by omega)) (by omega) (by simp [digs]))
              have HVA := Lib.hid hva
              have HB3 := Lib.hid hb; have HU3 := Lib.hid hub; have HX3 := Lib.hid hxb
              clear ha hva hda hb hub hxb
              go_wp2_with fail
              refine (HTM.out).mono ?_
              rintro e w4 ⟨g, es, rfl, -, ht4⟩
              have HB4 := Lib.hid (HB3.out.trans (ht4.b.mono HB3.out.size))
              have HU4 := Lib.hid (HU3.out.below ht4.b)
              have HX4 := Lib.hid (HX3.out.below ht4.b)
              have hl4 : es.length = zs.length + 4 + 1 := ht4.len
              have HA4 := Lib.hid (show UR w4 (.slice (some ⟨g, 0, none⟩) (zs.length + (digs mo).length + 1) (zs.length + (digs mo).length + 1)) es from by
                have h := ht4.ub.ur (c := zs.length + (digs mo).length + 1)
                rwa [ht4.len] at h)
              have HV4 := Lib.hid (show val es = mo ^ (j + 1) by rw [ht4.val, HVA.out, digs_val, Nat.pow_succ])
              have HD4 := Lib.hid (show ∀ d ∈ es, d ≤ 65535 from fun d hd => by
                obtain ⟨i, hi, rfl⟩ := List.getElem_of_mem hd
                exact ht4.dig i hi)
              have HL4 := Lib.hid hl4
              clear ht4 hl4
              go_wp2_with fail
              go_roundw
              case rel => exact ⟨j + 1, es, by omega, by omega, by go_num, HA4.out, HV4.out, HD4.out, by have := HL4.out; omega, HB4.out, HU4.out, HX4.out⟩
              case measure => simp [intOf]; omega
            · obtain rfl : j = pw := by omega
              have HAB := Lib.hid (above_any zs ds _ _ wr ha hub hda HD1.out (by omega) (by have := HL1.out; have := HJ.out; omega))
              have HST := Lib.hid (show rootG p j i (if val ds < val zs then m else mo) = R from by
                have h := HRR.out
                rw [rootG, ← HT.out, ← HMO.out] at h
                rw [← h, hva, HV1.out, Nat.mul_comm 2 j]
                congr 1
                by_cases hc : mo ^ j ≤ p * 65536 ^ (j * 2)
                · rw [if_pos hc, if_neg (by omega)]
                · rw [if_neg hc, if_pos (by omega)])
              obtain ⟨ab, hab⟩ : ∃ ab, ab = decide (val ds < val zs) := ⟨_, rfl⟩
              rw [← hab] at HAB
              have HSC := Lib.hid hab
              have HB5 := Lib.hid hb; have HU5 := Lib.hid hub
              have HPT := Lib.hid (show m + 2 ^ i ≤ 2199023255552 ∧ mo + 2 ^ i ≤ 2199023255552 from ⟨by rw [← HT.out]; omega, by rw [← HT.out, HMO.out]; omega⟩)
              clear ha hva hda hb hub hxb hab
              go_wp2_with fail
              refine (HAB.out).mono ?_
              rintro e w6 ⟨rfl, rfl⟩
              cases ab with
              | true =>
                have HF := Lib.hid (show rootG p j i m = R by have h := HST.out; rwa [if_pos (of_decide_eq_true HSC.out.symm)] at h)
                go_wp2_with fail
                go_roundw
                case rel => exact ⟨i, m, by go_num, rfl, by omega, HPT.out.1, HF.out, HB5.out, HU5.out⟩
                case measure => simp [intOf]; try omega
              | false =>
                have HF := Lib.hid (show rootG p j i mo = R by have h := HST.out; rwa [if_neg (of_decide_eq_false HSC.out.symm)] at h)
                go_wp2_with fail
                go_roundw
                case rel => exact ⟨i, mo, by go_num, rfl, by omega, HPT.out.2, HF.out, HB5.out, HU5.out⟩
                case measure => simp [intOf]; try omega
end Go.Proofs.YtdniojbplakeoaaDoor
