/-
  A record is written behind those that the log has.
-/
import Derived.Test.YthfnncahmccgkaaGreatDoorLLeft
namespace Go.Proofs.YthfnncahmccgkaaGreatDoor
open Go Go.RowKit Go.Maps
set_option maxRecDepth 100000
set_option linter.unusedSimpArgs false
set_option linter.unusedVariables false

/-- Between two sectors. -/
structure WI (w : World) (q p bl bd : Nat) (l : LS) (T : DS) (A8 : Option Addr) (rows : List (List UInt8)) (AL : Option Addr) (z0 r : Nat) (W : World) : Prop where
  lg : LG W q p l
  pd : PD W p bl bd T
  kp : Kp [q, p, bl, bd] w W
  tx : Tx W A8 rows
  ir : IR W AL (upF z0 r)
theorem wrs_step {rows : List (List UInt8)} {T : DS} {a k : Nat} (hk : k < rows.length) (ho : T.off = false) : wrs (rows.drop k) T a = wrs (rows.drop (k + 1)) ((T.put a (rows.getD k [])).did) (a + 1) := by
  rw [List.drop_eq_getElem_cons hk]
  show (if T.off then (T, false) else _) = _
  rw [ho, List.getD_eq_getElem?_getD, List.getElem?_eq_getElem hk]
  rfl
theorem Kp.low {S : List Nat} {a b : World} (h : Kp S a b) {k : Nat} (hk : k < a.heap.size) : k < b.heap.size := Nat.lt_of_lt_of_le hk h.size
theorem lwrE_full {S : DS} {l : LS} {s : List UInt8} (h : lfull S l s = true) : lwrE S l s = 41 ∧ lwrS S l s = S ∧ lwrL S l s = l := ⟨by rw [lwrE, if_pos h], by rw [lwrS, if_pos h], by rw [lwrL, if_pos h]⟩
theorem lwr_res {S T : DS} {l : LS} {s : List UInt8} {b : Bool} (h : lfull S l s = false) (hw : lwr S l s = (T, b)) :
    lwrE S l s = (if b then 0 else 42) ∧ lwrS S l s = T ∧ lwrL S l s = (if b then { l with used := l.used + manyN s.length } else { l with off := true }) := by
  have h' : ¬ (lfull S l s = true) := by rw [h]; simp
  refine ⟨by rw [lwrE, if_neg h', hw], by rw [lwrS, if_neg h', hw], by rw [lwrL, if_neg h', hw]⟩

theorem Tx.kp {W W' : World} {A : Option Addr} {xs : List (List UInt8)} {T : List Nat} (h : Tx W A xs) (hk : Kp T W W') (hA : ∀ b o, A = some ⟨b, o, none⟩ → b ∉ T) : Tx W' A xs :=
  h.imp id fun ⟨b, o, e, hl, hc⟩ => ⟨b, o, e, Nat.lt_of_lt_of_le hl hk.size, fun k hk' => (World.cell?_of_block (hk.block b hl (hA b o e))).trans (hc k hk')⟩
theorem LG.setOff {w : World} {q p : Nat} {l : LS} (h : LG w q p l) : LG (w.setCell ⟨q, 4, none⟩ (.bool true)) q p { l with off := true } := blk_set h 4 _
theorem LG.setUsed {w : World} {q p : Nat} {l : LS} (h : LG w q p l) (u : Nat) : LG (w.setCell ⟨q, 3, none⟩ (.int .i64 (u : Int))) q p { l with used := u } := blk_set h 3 _
theorem PD.setQ {w : World} {p bl bd : Nat} {T : DS} (h : PD w p bl bd T) {q : Nat} (hq : q ∉ [p, bl, bd]) (j : Nat) (v : Value) : PD (w.setCell ⟨q, j, none⟩ v) p bl bd T := by
  simp only [List.mem_cons, List.not_mem_nil, or_false, not_or] at hq
  exact h.of_blocks (heap_set_ne _ hq.1) (heap_set_ne _ hq.2.1) (heap_set_ne _ hq.2.2)

set_option maxHeartbeats 8000000 in
theorem write_log {w : World} {q p bl bd : Nat} {S : DS} {l : LS} (hq : LG w q p l) (hP : PD w p bl bd S) (ho : l.Ok S.was.length) (hops : S.ops < 4611686018427380000) (s : List UInt8) (hs : s.length ≤ 140737488351232) :
    Calls Tryz.prog 35 #[dp q, sv s] w fun e w' => e = .returned (.int .i64 (lwrE S l s)) ∧ LG w' q p (lwrL S l s) ∧ PD w' p bl bd (lwrS S l s) ∧ Kp [q, p, bl, bd] w w' := by
  have LA := left_any hq hP ho
  have hqp := hq.ne_p hP
  have hok := hP.ok
  have hsz : (str s).size = s.length := by show s.toArray.size = _; simp
  have MN := fun W => @many_top W (s.length : Int) (by omega) (by omega)
  rw [manyI_nat] at MN
  have hmp := manyN_pos s.length
  have hml := manyN_lt s.length
  cases hfl : lfull S l s with
  | true =>
    have HF := Lib.hid (lwrE_full hfl)
    have hgt : ((S.was.length / 2 - l.used : Nat) : Int) < (manyN s.length : Int) := by
      simp only [lfull, decide_eq_true_eq] at hfl
      have := ho.us
      omega
    generalize manyN s.length = m at MN hgt
    generalize S.was.length / 2 - l.used = r at LA hgt
    have HQ := Lib.hid hq
    have HP := Lib.hid hP
    clear hq hP hfl hqp ho
    go_enter Tryz.func35, Tryz.ntmps35
    go_wp2_with (first
      | (go_at_call 43; refine LA.mono ?_; rintro e w1 ⟨AL, cl, rfl, hir, hnw, hb1⟩; have HB1 := Lib.hid hb1)
      | (go_at_call 30; refine (MN _).mono ?_; rintro e w2 ⟨rfl, rfl⟩))
    go_ret
    exact ⟨by rw [HF.out.1]; rfl, by rw [HF.out.2.2]; exact HQ.out.below HB1.out, by rw [HF.out.2.1]; exact HP.out.below HB1.out, Kp.of_below HB1.out _⟩
  | false =>
    have hroom := lfull_no hfl
    have hin := lwr_in (s := s) ho hfl
    have hn2 := hok.n2
    have hsp : splE (l.age : Int) (l.used : Int) s.length = 0 := splE_ok.2 ⟨by rw [mayB_iff]; have := ho.a1; have := ho.a2; omega, by omega⟩
    have hspl : splL (l.age : Int) (l.used : Int) s = lrow l s := by rw [splL, hsp, if_pos rfl]; rfl
    have SPL : Hid (∀ W, Calls Tryz.prog 61 #[.int .i64 (l.age : Int), .int .i64 (l.used : Int), sv s] W fun e w' => ∃ A c, e = .returned (.tuple #[.slice A (lrow l s).length c, .int .i64 0]) ∧ Tx w' A (lrow l s) ∧ Below W.heap.size W w' ∧ (∀ b o, A = some ⟨b, o, none⟩ → W.heap.size ≤ b)) := Lib.hid (fun W => by
      refine (split2_any (w := W) (l.age : Int) (l.used : Int) s hs).mono ?_
      rintro e w' ⟨A, c, rfl, htx, hn, hb⟩
      rw [hsp]
      rw [hspl] at htx ⊢
      exact ⟨A, c, rfl, htx, hb, hn⟩)
    have hrl := lrow_length l s
    have HROW := Lib.hid (lrow_lens l s)
    have HFIN := Lib.hid (fun T b => @lwr_res S T l s b hfl)
    have HLW := Lib.hid (show lwr S l s = wrs (lrow l s) S (lfst S.was.length l.half + l.used) from rfl)
    have hgt : ¬ ((S.was.length / 2 - l.used : Nat) : Int) < (manyN s.length : Int) := by omega
    have hmr : manyN s.length ≤ S.was.length / 2 - l.used := by omega
    rw [hrl] at hin
    have hus := ho.us
    obtain ⟨m, hm⟩ : ∃ m, m = manyN s.length := ⟨_, rfl⟩
    rw [← hm] at MN hgt hmr hin hmp hroom hrl
    obtain ⟨r, hr⟩ : ∃ r, r = S.was.length / 2 - l.used := ⟨_, rfl⟩
    rw [← hr] at LA hgt hmr
    obtain ⟨z0, hz0⟩ : ∃ z0, z0 = lfst S.was.length l.half + l.used := ⟨_, rfl⟩
    rw [← hz0] at LA hin HLW
    obtain ⟨n, hn⟩ : ∃ n, n = S.was.length := ⟨_, rfl⟩
    rw [← hn] at hin hn2
    obtain ⟨rows, hrows⟩ : ∃ rows, rows = lrow l s := ⟨_, rfl⟩
    rw [← hrows] at hrl HROW HLW SPL
    have HQ := Lib.hid hq
    have HP := Lib.hid hP
    have HQP := Lib.hid hqp
    have HN := Lib.hid hn
    have HM := Lib.hid hm
    have HLT := Lib.hid (show p < w.heap.size ∧ bl < w.heap.size ∧ bd < w.heap.size from hP.lt)
    have HRL := Lib.hid hrl
    have hu2 : l.used ≤ 1024 := by omega
    clear hq hP hqp ho hfl hsp hspl hrows hz0 hr hm hn hus hok hroom
    go_enter Tryz.func35, Tryz.ntmps35
    go_wp2_with (first
      | (go_at_call 43; refine LA.mono ?_; rintro e w1 ⟨AL, cl, rfl, hir, hnw, hb1⟩; have HB1 := Lib.hid hb1; have HQ1 := Lib.hid (show LG w1.drew q p l from (HQ.out.below hb1 : LG w1 q p l)))
      | (go_at_call 30; refine (MN _).mono ?_; rintro e w2 ⟨rfl, rfl⟩))
    have HIR := Lib.hid hir
    have HNW := Lib.hid hnw
    clear hir hnw hb1 LA MN
    refine wp_region_held_drew (S := fun W => LG W q p l ∧ Below w.heap.size w W ∧ Below w1.heap.size w1 W) (by kernel_rfl) ⟨HQ1.out, HB1.out.drew, (Below.refl _ _).drew⟩ (fun hHeld => ?_)
    refine wpAnyH_take (i := 0) (v := ?vv0_1) rfl (by kernel_rfl) (by kernel_rfl) (by kernel_rfl) (fun _ _ _ h => h) (Or.inl ⟨by rfl, ?hy0_1⟩) (by assumption) ?rest0_1
    case hy0_1 => (intro w' hSw; (try dsimp only at hSw); go_simp; try with_reducible rfl)
    try simp only [List.getElem_toArray, List.getElem_cons_zero, List.getElem_cons_succ, Act.put, List.setIfInBounds_toArray, List.set_cons_zero, List.set_cons_succ]
    refine wpAnyH_take (i := 1) (v := ?vv1_1) rfl (by kernel_rfl) (by kernel_rfl) (by kernel_rfl) (fun _ _ _ h => h) (Or.inl ⟨by rfl, ?hy1_1⟩) (by assumption) ?rest1_1
    case hy1_1 => (intro w' hSw; (try dsimp only at hSw); go_simp; try with_reducible rfl)
    try simp only [List.getElem_toArray, List.getElem_cons_zero, List.getElem_cons_succ, Act.put, List.setIfInBounds_toArray, List.set_cons_zero, List.set_cons_succ]
    refine wpAnyH_take (i := 2) (v := ?vv2_1) rfl (by kernel_rfl) (by kernel_rfl) (by kernel_rfl) (fun _ _ _ h => h) (Or.inl ⟨by rfl, ?hy2_1⟩) (by assumption) ?rest2_1
    case hy2_1 => (intro w' hSw; (try dsimp only at hSw); go_simp; try with_reducible rfl)
    try simp only [List.getElem_toArray, List.getElem_cons_zero, List.getElem_cons_succ, Act.put, List.setIfInBounds_toArray, List.set_cons_zero, List.set_cons_succ]
    refine wpAnyH_take (i := 3) (v := .int .i64 (l.age : Int)) rfl (by kernel_rfl) (by kernel_rfl) (by kernel_rfl) (fun _ _ _ h => h) (Or.inl ⟨by rfl, fun w' hSw => exec_load1 w' rfl rfl (LG.cells hSw.1).2.2.1 Tryz.underlying3 rfl⟩) (by assumption) ?_
    try simp only [List.getElem_toArray, List.getElem_cons_zero, List.getElem_cons_succ, Act.put, List.setIfInBounds_toArray, List.set_cons_zero, List.set_cons_succ]
    refine wpAnyH_take (i := 4) (v := ?vv4_1) rfl (by kernel_rfl) (by kernel_rfl) (by kernel_rfl) (fun _ _ _ h => h) (Or.inl ⟨by rfl, ?hy4_1⟩) (by assumption) ?rest4_1
    case hy4_1 => (intro w' hSw; (try dsimp only at hSw); go_simp; try with_reducible rfl)
    try simp only [List.getElem_toArray, List.getElem_cons_zero, List.getElem_cons_succ, Act.put, List.setIfInBounds_toArray, List.set_cons_zero, List.set_cons_succ]
    refine wpAnyH_take (i := 5) (v := ?vv5_1) rfl (by kernel_rfl) (by kernel_rfl) (by kernel_rfl) (fun _ _ _ h => h) (Or.inl ⟨by rfl, ?hy5_1⟩) (by assumption) ?rest5_1
    case hy5_1 => (intro w' hSw; (try dsimp only at hSw); go_simp; try with_reducible rfl)
    try simp only [List.getElem_toArray, List.getElem_cons_zero, List.getElem_cons_succ, Act.put, List.setIfInBounds_toArray, List.set_cons_zero, List.set_cons_succ]
    refine wpAnyH_take (i := 6) (v := ?vv6_1) rfl (by kernel_rfl) (by kernel_rfl) (by kernel_rfl) (fun _ _ _ h => h) (Or.inl ⟨by rfl, ?hy6_1⟩) (by assumption) ?rest6_1
    case hy6_1 => (intro w' hSw; (try dsimp only at hSw); go_simp; try with_reducible rfl)
    try simp only [List.getElem_toArray, List.getElem_cons_zero, List.getElem_cons_succ, Act.put, List.setIfInBounds_toArray, List.set_cons_zero, List.set_cons_succ]
    refine wpAnyH_take (i := 7) (v := .int .i64 (l.used : Int)) rfl (by kernel_rfl) (by kernel_rfl) (by kernel_rfl) (fun _ _ _ h => h) (Or.inl ⟨by rfl, fun w' hSw => exec_load1 w' rfl rfl (LG.cells hSw.1).2.2.2.1 Tryz.underlying3 rfl⟩) (by assumption) ?_
    try simp only [List.getElem_toArray, List.getElem_cons_zero, List.getElem_cons_succ, Act.put, List.setIfInBounds_toArray, List.set_cons_zero, List.set_cons_succ]
    refine wpAnyH_take (i := 8) (v := ?vv8_1) rfl (by kernel_rfl) (by kernel_rfl) (by kernel_rfl) (fun _ _ _ h => h) (Or.inl ⟨by rfl, ?hy8_1⟩) (by assumption) ?rest8_1
    case hy8_1 => (intro w' hSw; (try dsimp only at hSw); go_simp; try with_reducible rfl)
    try simp only [List.getElem_toArray, List.getElem_cons_zero, List.getElem_cons_succ, Act.put, List.setIfInBounds_toArray, List.set_cons_zero, List.set_cons_succ]
    refine wpAnyH_ready (rs := [9]) (by kernel_rfl) (by simp) ?_
    refine AllReadyH.cons rfl (fun K hK => ?_) AllReadyH.nil
    go_simp
    go_at_call 61
    refine (SPL.out _).mono ?_
    rintro e1 w8 ⟨A8, c8, rfl, htx8, hb8, hnew8⟩
    refine hK.out _ _ ⟨hHeld.1.below hb8, hHeld.2.1.trans (hb8.mono hHeld.2.1.size), hHeld.2.2.trans (hb8.mono hHeld.2.2.size)⟩ (fun hHeld => ?_)
    clear hK K
    try simp only [List.getElem_toArray, List.getElem_cons_zero, List.getElem_cons_succ, Act.put, List.setIfInBounds_toArray, List.set_cons_zero, List.set_cons_succ]
    refine wpAnyH_take (i := 10) (v := ?vv10_1) rfl (by kernel_rfl) (by kernel_rfl) (by kernel_rfl) (fun _ _ _ h => h) (Or.inl ⟨by rfl, ?hy10_1⟩) (by assumption) ?rest10_1
    case hy10_1 => (intro w' hSw; (try dsimp only at hSw); go_simp; try with_reducible rfl)
    try simp only [List.getElem_toArray, List.getElem_cons_zero, List.getElem_cons_succ, Act.put, List.setIfInBounds_toArray, List.set_cons_zero, List.set_cons_succ]
    refine wpAnyH_take (i := 11) (v := ?vv11_1) rfl (by kernel_rfl) (by kernel_rfl) (by kernel_rfl) (fun _ _ _ h => h) (Or.inl ⟨by rfl, ?hy11_1⟩) (by assumption) ?rest11_1
    case hy11_1 => (intro w' hSw; (try dsimp only at hSw); go_simp; try with_reducible rfl)
    try simp only [List.getElem_toArray, List.getElem_cons_zero, List.getElem_cons_succ, Act.put, List.setIfInBounds_toArray, List.set_cons_zero, List.set_cons_succ]
    refine wpAnyH_take (i := 12) (v := ?vv12_1) rfl (by kernel_rfl) (by kernel_rfl) (by kernel_rfl) (fun _ _ _ h => h) (Or.inl ⟨by rfl, ?hy12_1⟩) (by assumption) ?rest12_1
    case hy12_1 => (intro w' hSw; (try dsimp only at hSw); go_simp; try with_reducible rfl)
    try simp only [List.getElem_toArray, List.getElem_cons_zero, List.getElem_cons_succ, Act.put, List.setIfInBounds_toArray, List.set_cons_zero, List.set_cons_succ]
    refine wpAnyH_take (i := 13) (v := ?vv13_1) rfl (by kernel_rfl) (by kernel_rfl) (by kernel_rfl) (fun _ _ _ h => h) (Or.inl ⟨by rfl, ?hy13_1⟩) (by assumption) ?rest13_1
    case hy13_1 => (intro w' hSw; (try dsimp only at hSw); go_simp; try with_reducible rfl)
    try simp only [List.getElem_toArray, List.getElem_cons_zero, List.getElem_cons_succ, Act.put, List.setIfInBounds_toArray, List.set_cons_zero, List.set_cons_succ]
    refine wpAnyH_take (i := 14) (v := ?vv14_1) rfl (by kernel_rfl) (by kernel_rfl) (by kernel_rfl) (fun _ _ _ h => h) (Or.inl ⟨by rfl, ?hy14_1⟩) (by assumption) ?rest14_1
    case hy14_1 => (intro w' hSw; (try dsimp only at hSw); go_simp; try with_reducible rfl)
    try simp only [List.getElem_toArray, List.getElem_cons_zero, List.getElem_cons_succ, Act.put, List.setIfInBounds_toArray, List.set_cons_zero, List.set_cons_succ]
    refine wpAnyH_done (by kernel_rfl) ?_ _
    have hB8 := hHeld.2.1
    have hB18 := hHeld.2.2
    have HWI0 := Lib.hid (show WI w q p bl bd l S A8 rows AL z0 r w8 from ⟨hHeld.1, HP.out.below hB8, Kp.of_below hB8 _, htx8, HIR.out.below hB18⟩)
    have hsz1 := HB1.out.size
    have HA8 := Lib.hid (fun b o (h : A8 = some ⟨b, o, none⟩) => show w.heap.size ≤ b from by have := hnew8 b o h; have h2 : w1.drew.heap.size = w1.heap.size := rfl; omega)
    clear hB8 hB18 hHeld htx8 hnew8 hb8 SPL hsz1
    rw [HRL.out]
    go_wp2_with fail
    go_loopw [37] (fun i wr => ∃ (k : Nat) (T : DS), k ≤ m ∧ i = .int .i64 k ∧ WI w q p bl bd l T A8 rows AL z0 r wr ∧ wrs rows S z0 = wrs (rows.drop k) T (z0 + k) ∧ T.ops ≤ S.ops + k ∧ T.was.length = n) (fun i _ => m - (intOf i).toNat)
    case atStart => exact ⟨0, S, Nat.zero_le _, rfl, HWI0.out, by rw [List.drop_zero, Nat.add_zero], by omega, HN.out.symm⟩
    case round =>
      obtain ⟨k, T, hk, rfl, hwi, heq, hto, htn⟩ := hrel
      have HWI := Lib.hid hwi
      have HEQ := Lib.hid heq
      have HTN := Lib.hid htn
      clear heq htn
      by_cases hlt : k < m
      · have hlt' : (k : Int) < (m : Int) := by omega
        have hltr : (k : Int) < (r : Int) := by omega
        obtain ⟨b8, o8, rfl, c8v⟩ := hwi.tx.cell (k := k) (by rw [HRL.out]; exact hlt)
        obtain ⟨bL, oL, rfl, hbL, cLv⟩ := hwi.ir k (by rw [upF_length]; omega)
        rw [upF_get (by omega)] at cLv
        have hxl : (rows.getD k []).length = 128 := HROW.out _ (by rw [List.getD_eq_getElem?_getD, List.getElem?_eq_getElem (by rw [HRL.out]; exact hlt)]; exact List.getElem_mem _)
        have HST := Lib.hid (fun ho => @wrs_step rows T (z0 + k) k (by rw [HRL.out]; exact hlt) ho)
        have hzk : z0 + k < T.was.length := by rw [HTN.out]; omega
        obtain ⟨z, hz⟩ : ∃ z : Int, z = ((z0 + k : Nat) : Int) := ⟨_, rfl⟩
        rw [← hz] at cLv
        obtain ⟨x, hx⟩ : ∃ x, x = rows.getD k [] := ⟨_, rfl⟩
        rw [← hx] at c8v HST hxl
        have hzn : z.toNat = z0 + k := by omega
        have hz1 : 0 ≤ z := by omega
        have hz2 : z < T.was.length := by omega
        have hwe : T.wrE z x = if T.off then 42 else 0 := by
          unfold DS.wrE
          cases T.off
          · simp [DS.has, hxl, hz1, hz2]
          · rfl
        have hws : T.wr z x = if T.off then T else ((T.put (z0 + k) x).did) := by
          unfold DS.wr
          rw [hwe, hzn]
          cases T.off
          · simp
          · simp
        have WA := Lib.hid (fun W (hW : PD W p bl bd T) => write_any hW (by omega) z x (by omega))
        rw [hwe, hws] at WA
        have HT8 := Lib.hid (HA8.out b8 o8 rfl)
        have HTL := Lib.hid (HNW.out ⟨bL, oL, none⟩ rfl)
        clear hzn hz1 hz2
        have HZ := Lib.hid hz
        clear hwe hws hz hx hwi hxl hzk
        have HS10 := Lib.hid (show LG wr.drew q p l ∧ wr.drew.cell? ⟨bL, oL + k, none⟩ = some (.int .i64 z) ∧ Kp [p, bl, bd] wr wr.drew from ⟨HWI.out.lg, cLv, (Kp.refl _ _).drew⟩)
        have HNL := Lib.hid (show bL ∉ [p, bl, bd] from fun hm => by
          have h1 := HLT.out
          have h2 : w.heap.size ≤ bL := HTL.out |> fun h => Nat.le_trans (by have := HB1.out.size; exact Nat.le_refl _) h
          simp at hm
          omega)
        have HLW8 := Lib.hid (show bL < wr.heap.size from hbL)
        cases hoff : T.off with
        | true =>
          rw [hoff] at WA
          have HOF := Lib.hid hoff
          clear HST hoff hbL
          go_wp2_with fail
          refine wp_region_held_drew (S := fun W => LG W q p l ∧ W.cell? ⟨bL, oL + k, none⟩ = some (.int .i64 z) ∧ Kp [p, bl, bd] wr W) (by kernel_rfl) HS10.out (fun hHeld => ?_)
          refine wpAnyH_take (i := 0) (v := ?vv0_2) rfl (by kernel_rfl) (by kernel_rfl) (by kernel_rfl) (fun _ _ _ h => h) (Or.inl ⟨by rfl, ?hy0_2⟩) (by assumption) ?rest0_2
          case hy0_2 => (intro w' hSw; (try dsimp only at hSw); go_simp; try with_reducible rfl)
          try simp only [List.getElem_toArray, List.getElem_cons_zero, List.getElem_cons_succ, Act.put, List.setIfInBounds_toArray, List.set_cons_zero, List.set_cons_succ]
          refine wpAnyH_take (i := 1) (v := ?vv1_2) rfl (by kernel_rfl) (by kernel_rfl) (by kernel_rfl) (fun _ _ _ h => h) (Or.inl ⟨by rfl, ?hy1_2⟩) (by assumption) ?rest1_2
          case hy1_2 => (intro w' hSw; (try dsimp only at hSw); go_simp; try with_reducible rfl)
          try simp only [List.getElem_toArray, List.getElem_cons_zero, List.getElem_cons_succ, Act.put, List.setIfInBounds_toArray, List.set_cons_zero, List.set_cons_succ]
          refine wpAnyH_take (i := 2) (v := ?vv2_2) rfl (by kernel_rfl) (by kernel_rfl) (by kernel_rfl) (fun _ _ _ h => h) (Or.inl ⟨by rfl, ?hy2_2⟩) (by assumption) ?rest2_2
          case hy2_2 => (intro w' hSw; (try dsimp only at hSw); go_simp; try with_reducible rfl)
          try simp only [List.getElem_toArray, List.getElem_cons_zero, List.getElem_cons_succ, Act.put, List.setIfInBounds_toArray, List.set_cons_zero, List.set_cons_succ]
          refine wpAnyH_take (i := 3) (v := dp p) rfl (by kernel_rfl) (by kernel_rfl) (by kernel_rfl) (fun _ _ _ h => h) (Or.inl ⟨by rfl, fun w' hSw => exec_load1 w' rfl rfl (LG.cells hSw.1).1 Tryz.underlying35 rfl⟩) (by assumption) ?_
          try simp only [List.getElem_toArray, List.getElem_cons_zero, List.getElem_cons_succ, Act.put, List.setIfInBounds_toArray, List.set_cons_zero, List.set_cons_succ]
          refine wpAnyH_take (i := 4) (v := ?vv4_2) rfl (by kernel_rfl) (by kernel_rfl) (by kernel_rfl) (fun _ _ _ h => h) (Or.inl ⟨by rfl, ?hy4_2⟩) (by assumption) ?rest4_2
          case hy4_2 => (intro w' hSw; (try dsimp only at hSw); go_simp; try with_reducible rfl)
          try simp only [List.getElem_toArray, List.getElem_cons_zero, List.getElem_cons_succ, Act.put, List.setIfInBounds_toArray, List.set_cons_zero, List.set_cons_succ]
          refine wpAnyH_take (i := 5) (v := ?vv5_2) rfl (by kernel_rfl) (by kernel_rfl) (by kernel_rfl) (fun _ _ _ h => h) (Or.inl ⟨by rfl, ?hy5_2⟩) (by assumption) ?rest5_2
          case hy5_2 => (intro w' hSw; (try dsimp only at hSw); go_simp; try with_reducible rfl)
          try simp only [List.getElem_toArray, List.getElem_cons_zero, List.getElem_cons_succ, Act.put, List.setIfInBounds_toArray, List.set_cons_zero, List.set_cons_succ]
          refine wpAnyH_take (i := 6) (v := ?vv6_2) rfl (by kernel_rfl) (by kernel_rfl) (by kernel_rfl) (fun _ _ _ h => h) (Or.inl ⟨by rfl, ?hy6_2⟩) (by assumption) ?rest6_2
          case hy6_2 => (intro w' hSw; (try dsimp only at hSw); go_simp; try with_reducible rfl)
          try simp only [List.getElem_toArray, List.getElem_cons_zero, List.getElem_cons_succ, Act.put, List.setIfInBounds_toArray, List.set_cons_zero, List.set_cons_succ]
          refine wpAnyH_take (i := 7) (v := .int .i64 z) rfl (by kernel_rfl) (by kernel_rfl) (by kernel_rfl) (fun _ _ _ h => h) (Or.inl ⟨by rfl, fun w' hSw => exec_load1 w' rfl rfl hSw.2.1 Tryz.underlying3 rfl⟩) (by assumption) ?_
          try simp only [List.getElem_toArray, List.getElem_cons_zero, List.getElem_cons_succ, Act.put, List.setIfInBounds_toArray, List.set_cons_zero, List.set_cons_succ]
          refine wpAnyH_take (i := 8) (v := ?vv8_2) rfl (by kernel_rfl) (by kernel_rfl) (by kernel_rfl) (fun _ _ _ h => h) (Or.inl ⟨by rfl, ?hy8_2⟩) (by assumption) ?rest8_2
          case hy8_2 => (intro w' hSw; (try dsimp only at hSw); go_simp; try with_reducible rfl)
          try simp only [List.getElem_toArray, List.getElem_cons_zero, List.getElem_cons_succ, Act.put, List.setIfInBounds_toArray, List.set_cons_zero, List.set_cons_succ]
          refine wpAnyH_ready (rs := [9]) (by kernel_rfl) (by simp) ?_
          refine AllReadyH.cons rfl (fun K hK => ?_) AllReadyH.nil
          go_simp
          go_at_call 57
          refine (WA.out wr.drew (HWI.out.pd.of_blocks rfl rfl rfl)).mono ?_
          rintro e1 w9 ⟨rfl, hP9, hk9⟩
          refine hK.out _ _ ⟨hHeld.1.kp hk9 HQP.out, (World.cell?_of_block (hk9.block bL HLW8.out HNL.out)).trans hHeld.2.1, hHeld.2.2.trans hk9 (fun _ h _ => h)⟩ (fun hHeld => ?_)
          clear hK K
          try simp only [List.getElem_toArray, List.getElem_cons_zero, List.getElem_cons_succ, Act.put, List.setIfInBounds_toArray, List.set_cons_zero, List.set_cons_succ]
          refine wpAnyH_take (i := 10) (v := ?vv10_2) rfl (by kernel_rfl) (by kernel_rfl) (by kernel_rfl) (fun _ _ _ h => h) (Or.inl ⟨by rfl, ?hy10_2⟩) (by assumption) ?rest10_2
          case hy10_2 => (intro w' hSw; (try dsimp only at hSw); go_simp; try with_reducible rfl)
          try simp only [List.getElem_toArray, List.getElem_cons_zero, List.getElem_cons_succ, Act.put, List.setIfInBounds_toArray, List.set_cons_zero, List.set_cons_succ]
          refine wpAnyH_done (by kernel_rfl) ?_ _
          have hq9 := hHeld.1
          have c4 := hq9.cells.2.2.2.2
          have f4 := hq9.free 4
          have hres := HFIN.out T false (by rw [HLW.out, HEQ.out, wrs_off HOF.out (by rw [List.length_drop, HRL.out]; omega)])
          have HRES := Lib.hid hres
          have HQ9 := Lib.hid hq9
          have HP9 := Lib.hid hP9
          have HK9 := Lib.hid (HWI.out.kp.trans (hHeld.2.2.mono (S' := [q, p, bl, bd]) (fun x hx => List.mem_cons_of_mem q hx)) (fun x hx _ => hx))
          clear hres hq9 hP9 hHeld hk9
          go_wp2_with fail
          go_ret
          refine ⟨by rw [HRES.out.1]; rfl, by rw [HRES.out.2.2]; exact HQ9.out.setOff, by rw [HRES.out.2.1]; exact PD.setQ (by simpa using HP9.out) HQP.out _ _, HK9.out.setCell (by simp) _⟩
        | false =>
          rw [hoff] at WA
          have HN1 := Lib.hid (HST.out hoff)
          clear HST hoff hbL
          go_wp2_with fail
          refine wp_region_held_drew (S := fun W => LG W q p l ∧ W.cell? ⟨bL, oL + k, none⟩ = some (.int .i64 z) ∧ Kp [p, bl, bd] wr W) (by kernel_rfl) HS10.out (fun hHeld => ?_)
          refine wpAnyH_take (i := 0) (v := ?vv0_3) rfl (by kernel_rfl) (by kernel_rfl) (by kernel_rfl) (fun _ _ _ h => h) (Or.inl ⟨by rfl, ?hy0_3⟩) (by assumption) ?rest0_3
          case hy0_3 => (intro w' hSw; (try dsimp only at hSw); go_simp; try with_reducible rfl)
          try simp only [List.getElem_toArray, List.getElem_cons_zero, List.getElem_cons_succ, Act.put, List.setIfInBounds_toArray, List.set_cons_zero, List.set_cons_succ]
          refine wpAnyH_take (i := 1) (v := ?vv1_3) rfl (by kernel_rfl) (by kernel_rfl) (by kernel_rfl) (fun _ _ _ h => h) (Or.inl ⟨by rfl, ?hy1_3⟩) (by assumption) ?rest1_3
          case hy1_3 => (intro w' hSw; (try dsimp only at hSw); go_simp; try with_reducible rfl)
          try simp only [List.getElem_toArray, List.getElem_cons_zero, List.getElem_cons_succ, Act.put, List.setIfInBounds_toArray, List.set_cons_zero, List.set_cons_succ]
          refine wpAnyH_take (i := 2) (v := ?vv2_3) rfl (by kernel_rfl) (by kernel_rfl) (by kernel_rfl) (fun _ _ _ h => h) (Or.inl ⟨by rfl, ?hy2_3⟩) (by assumption) ?rest2_3
          case hy2_3 => (intro w' hSw; (try dsimp only at hSw); go_simp; try with_reducible rfl)
          try simp only [List.getElem_toArray, List.getElem_cons_zero, List.getElem_cons_succ, Act.put, List.setIfInBounds_toArray, List.set_cons_zero, List.set_cons_succ]
          refine wpAnyH_take (i := 3) (v := dp p) rfl (by kernel_rfl) (by kernel_rfl) (by kernel_rfl) (fun _ _ _ h => h) (Or.inl ⟨by rfl, fun w' hSw => exec_load1 w' rfl rfl (LG.cells hSw.1).1 Tryz.underlying35 rfl⟩) (by assumption) ?_
          try simp only [List.getElem_toArray, List.getElem_cons_zero, List.getElem_cons_succ, Act.put, List.setIfInBounds_toArray, List.set_cons_zero, List.set_cons_succ]
          refine wpAnyH_take (i := 4) (v := ?vv4_3) rfl (by kernel_rfl) (by kernel_rfl) (by kernel_rfl) (fun _ _ _ h => h) (Or.inl ⟨by rfl, ?hy4_3⟩) (by assumption) ?rest4_3
          case hy4_3 => (intro w' hSw; (try dsimp only at hSw); go_simp; try with_reducible rfl)
          try simp only [List.getElem_toArray, List.getElem_cons_zero, List.getElem_cons_succ, Act.put, List.setIfInBounds_toArray, List.set_cons_zero, List.set_cons_succ]
          refine wpAnyH_take (i := 5) (v := ?vv5_3) rfl (by kernel_rfl) (by kernel_rfl) (by kernel_rfl) (fun _ _ _ h => h) (Or.inl ⟨by rfl, ?hy5_3⟩) (by assumption) ?rest5_3
          case hy5_3 => (intro w' hSw; (try dsimp only at hSw); go_simp; try with_reducible rfl)
          try simp only [List.getElem_toArray, List.getElem_cons_zero, List.getElem_cons_succ, Act.put, List.setIfInBounds_toArray, List.set_cons_zero, List.set_cons_succ]
          refine wpAnyH_take (i := 6) (v := ?vv6_3) rfl (by kernel_rfl) (by kernel_rfl) (by kernel_rfl) (fun _ _ _ h => h) (Or.inl ⟨by rfl, ?hy6_3⟩) (by assumption) ?rest6_3
          case hy6_3 => (intro w' hSw; (try dsimp only at hSw); go_simp; try with_reducible rfl)
          try simp only [List.getElem_toArray, List.getElem_cons_zero, List.getElem_cons_succ, Act.put, List.setIfInBounds_toArray, List.set_cons_zero, List.set_cons_succ]
          refine wpAnyH_take (i := 7) (v := .int .i64 z) rfl (by kernel_rfl) (by kernel_rfl) (by kernel_rfl) (fun _ _ _ h => h) (Or.inl ⟨by rfl, fun w' hSw => exec_load1 w' rfl rfl hSw.2.1 Tryz.underlying3 rfl⟩) (by assumption) ?_
          try simp only [List.getElem_toArray, List.getElem_cons_zero, List.getElem_cons_succ, Act.put, List.setIfInBounds_toArray, List.set_cons_zero, List.set_cons_succ]
          refine wpAnyH_take (i := 8) (v := ?vv8_3) rfl (by kernel_rfl) (by kernel_rfl) (by kernel_rfl) (fun _ _ _ h => h) (Or.inl ⟨by rfl, ?hy8_3⟩) (by assumption) ?rest8_3
          case hy8_3 => (intro w' hSw; (try dsimp only at hSw); go_simp; try with_reducible rfl)
          try simp only [List.getElem_toArray, List.getElem_cons_zero, List.getElem_cons_succ, Act.put, List.setIfInBounds_toArray, List.set_cons_zero, List.set_cons_succ]
          refine wpAnyH_ready (rs := [9]) (by kernel_rfl) (by simp) ?_
          refine AllReadyH.cons rfl (fun K hK => ?_) AllReadyH.nil
          go_simp
          go_at_call 57
          refine (WA.out wr.drew (HWI.out.pd.of_blocks rfl rfl rfl)).mono ?_
          rintro e1 w9 ⟨rfl, hP9, hk9⟩
          refine hK.out _ _ ⟨hHeld.1.kp hk9 HQP.out, (World.cell?_of_block (hk9.block bL HLW8.out HNL.out)).trans hHeld.2.1, hHeld.2.2.trans hk9 (fun _ h _ => h)⟩ (fun hHeld => ?_)
          clear hK K
          try simp only [List.getElem_toArray, List.getElem_cons_zero, List.getElem_cons_succ, Act.put, List.setIfInBounds_toArray, List.set_cons_zero, List.set_cons_succ]
          refine wpAnyH_take (i := 10) (v := ?vv10_3) rfl (by kernel_rfl) (by kernel_rfl) (by kernel_rfl) (fun _ _ _ h => h) (Or.inl ⟨by rfl, ?hy10_3⟩) (by assumption) ?rest10_3
          case hy10_3 => (intro w' hSw; (try dsimp only at hSw); go_simp; try with_reducible rfl)
          try simp only [List.getElem_toArray, List.getElem_cons_zero, List.getElem_cons_succ, Act.put, List.setIfInBounds_toArray, List.set_cons_zero, List.set_cons_succ]
          refine wpAnyH_done (by kernel_rfl) ?_ _
          have HP9 := Lib.hid hP9
          have HK9 := Lib.hid hHeld.2.2
          have HQ9 := Lib.hid hHeld.1
          have HNB := Lib.hid (show b8 ∉ [p, bl, bd] from fun hm => by
            have h1 := HLT.out
            have h2 := HT8.out
            simp at hm
            omega)
          have e7 : (T.put (z0 + k) x).did.ops = T.ops + 1 := rfl
          have HTO := Lib.hid (show (T.put (z0 + k) x).did.ops ≤ S.ops + (k + 1) by omega)
          clear hP9 hHeld hk9 e7
          go_wp2_with fail
          go_roundw
          case rel =>
            refine ⟨k + 1, (T.put (z0 + k) x).did, by omega, by go_num, ⟨HQ9.out, by simpa using HP9.out, HWI.out.kp.trans (HK9.out.mono (S' := [q, p, bl, bd]) (fun y hy => List.mem_cons_of_mem q hy)) (fun y hy _ => hy), HWI.out.tx.kp HK9.out (fun b o e => ?_), HWI.out.ir.kp HK9.out (fun a e _ => ?_)⟩, by rw [HEQ.out, HN1.out]; rfl, HTO.out, HTN.out⟩
            · simp only [Option.some.injEq, Addr.mk.injEq, and_true] at e
              rw [← e.1]; exact HNB.out
            · rw [← Option.some.inj e]; exact HNL.out
          case measure => simp [intOf]; omega
      · obtain rfl : k = m := by omega
        have hq9 := hwi.lg
        have c3 := hq9.cells.2.2.2.1
        have f3 := hq9.free 3
        have hres := HFIN.out T true (by rw [HLW.out, HEQ.out, List.drop_of_length_le (by rw [HRL.out]; exact Nat.le_refl _)]; rfl)
        rw [← HM.out] at hres
        have HRES := Lib.hid hres
        have hwr : IntKind.i64.wrap ((l.used : Int) + (k : Int)) = ((l.used + k : Nat) : Int) := by rw [IntWalk.i64_in _ (by omega)]; push_cast; rfl
        clear hres hwi hq9
        go_wp2_with fail
        go_ret
        refine ⟨by rw [HRES.out.1]; rfl, by rw [HRES.out.2.2]; exact HWI.out.lg.setUsed _, by rw [HRES.out.2.1]; exact PD.setQ HWI.out.pd HQP.out _ _, HWI.out.kp.setCell (by simp) _⟩
end Go.Proofs.YthfnncahmccgkaaGreatDoor

