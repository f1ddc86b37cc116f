/-
  The reference's log as it lies; its halves.
  The reference's record, written behind those that its log has.
  The reference's Begin, Add, Top.
-/
import Derived.Test.YthfnncahmccgkaaGreatDoorLProg
import Derived.Test.YthfnncahmccgkaaGreatDoorDKpM
import Derived.Test.YthfnncahmccgkaaGreatDoorLRSplit
import Derived.Test.YthfnncahmccgkaaGreatDoorLWrite
import Derived.Test.YthfnncahmccgkaaGreatDoorLOpM
import Derived.Test.YthfnncahmccgkaaGreatDoorLRead
namespace Go.Proofs.YthfnncahmccgkaaGreatDoor
open Go Go.RowKit Go.Maps
set_option maxRecDepth 100000
set_option linter.unusedSimpArgs false
set_option linter.unusedVariables false

def rgCells (p n : Nat) (l : LS) : Array Value := #[dp p, .int .i64 ((lfst n l.half : Nat) : Int), .int .i64 ((n / 2 : Nat) : Int), .int .i64 (l.age : Int), .int .i64 (l.used : Int), .bool l.off]
/-- The reference's log lies at block q; its disk, of n sectors, at p. -/
def RG (w : World) (q p n : Nat) (l : LS) : Prop := w.heap[q]? = some (.cells (rgCells p n l) 103 (0, 0))
theorem RG.lt {w : World} {q p n : Nat} {l : LS} (h : RG w q p n l) : q < w.heap.size := lt_of_blk h
theorem RG.cells {w : World} {q p n : Nat} {l : LS} (h : RG w q p n l) : w.cell? ⟨q, 0, none⟩ = some (dp p) ∧ w.cell? ⟨q, 1, none⟩ = some (.int .i64 ((lfst n l.half : Nat) : Int)) ∧ w.cell? ⟨q, 2, none⟩ = some (.int .i64 ((n / 2 : Nat) : Int)) ∧
    w.cell? ⟨q, 3, none⟩ = some (.int .i64 (l.age : Int)) ∧ w.cell? ⟨q, 4, none⟩ = some (.int .i64 (l.used : Int)) ∧ w.cell? ⟨q, 5, none⟩ = some (.bool l.off) :=
  ⟨cellAt h 0, cellAt h 1, cellAt h 2, cellAt h 3, cellAt h 4, cellAt h 5⟩
theorem RG.free {w : World} {q p n : Nat} {l : LS} (h : RG w q p n l) (j : Nat) : w.frozen? ⟨q, j, none⟩ = false := freeAt h j
theorem RG.below {w w' : World} {q p n : Nat} {l : LS} (h : RG w q p n l) (hb : Below w.heap.size w w') : RG w' q p n l := (hb.block q h.lt).trans h
theorem RG.kp {T : List Nat} {w w' : World} {q p n : Nat} {l : LS} (h : RG w q p n l) (hk : Kp T w w') (hq : q ∉ T) : RG w' q p n l := (hk.block q h.lt hq).trans h
theorem RG.setUsed {w : World} {q p n : Nat} {l : LS} (h : RG w q p n l) (u : Nat) : RG (w.setCell ⟨q, 4, none⟩ (.int .i64 (u : Int))) q p n { l with used := u } := blk_set h 4 _
theorem RG.setOff {w : World} {q p n : Nat} {l : LS} (h : RG w q p n l) : RG (w.setCell ⟨q, 5, none⟩ (.bool true)) q p n { l with off := true } := blk_set h 5 _
theorem RG.setD {w : World} {q p n : Nat} {l : LS} (h : RG w q p n l) (p2 : Nat) : RG (w.setCell ⟨q, 0, none⟩ (dp p2)) q p2 n l := blk_set h 0 _
theorem RG.ne_r {w : World} {q p g1 g2 g3 n : Nat} {l : LS} {S : DS} (h : RG w q p n l) (hP : RD w p g1 g2 g3 S) : q ∉ [p, g1, g2, g3] := by
  obtain ⟨c1, c2, c3, left, fails, hp, ⟨u1, h1, _⟩, ⟨u2, h2, _⟩, ⟨u3, h3, _⟩, _⟩ := hP.box
  have hq := h
  unfold RG at hq
  intro hm
  simp only [List.mem_cons, List.not_mem_nil, or_false] at hm
  rcases hm with rfl | rfl | rfl | rfl
  · rw [hq] at hp
    simp only [Option.some.injEq, Obj.cells.injEq] at hp
    exact absurd hp.2.1 (by decide)
  · rw [hq] at h1
    simp only [Option.some.injEq, Obj.cells.injEq] at h1
    exact absurd h1.2.1 (by decide)
  · rw [hq] at h2
    simp only [Option.some.injEq, Obj.cells.injEq] at h2
    exact absurd h2.2.1 (by decide)
  · rw [hq] at h3
    simp only [Option.some.injEq, Obj.cells.injEq] at h3
    exact absurd h3.2.1 (by decide)
theorem RD.setQ {w : World} {p g1 g2 g3 : Nat} {T : DS} (h : RD w p g1 g2 g3 T) {q : Nat} (hq : q ∉ [p, g1, g2, g3]) (j : Nat) (v : Value) : RD (w.setCell ⟨q, j, none⟩ v) p g1 g2 g3 T :=
  h.of_blocks fun b hb => heap_set_ne _ (fun e => hq (by rw [e]; exact hb))
theorem RD.below {w w' : World} {p g1 g2 g3 : Nat} {T : DS} (h : RD w p g1 g2 g3 T) (hb : Below w.heap.size w w') : RD w' p g1 g2 g3 T := h.of_blocks fun b hb' => hb.block b (h.lts b hb')

set_option maxHeartbeats 1000000 in
theorem rhalf_any {w : World} (n a : Int) (hn : -9223372036854775808 ≤ n ∧ n ≤ 9223372036854775807) : Calls Tryz.prog 26 #[.int .i64 n, .int .i64 a] w fun e w' => e = .returned (.tuple #[.int .i64 (halfF n a).1, .int .i64 (halfF n a).2]) ∧ w = w' := by
  by_cases h0 : n < 0
  · have hf : halfF n a = (0, 0) := by
      unfold halfF
      rw [if_neg (by omega)]
    rw [hf]
    go_enter Tryz.func26, Tryz.ntmps26
    go_wp2_with fail
    go_ret2
    exact ⟨rfl, rfl⟩
  · by_cases h1 : a < 0
    · have hf : halfF n a = (0, 0) := by
        unfold halfF
        rw [if_neg (by omega)]
      rw [hf]
      go_enter Tryz.func26, Tryz.ntmps26
      go_wp2_with fail
      go_ret2
      exact ⟨rfl, rfl⟩
    · by_cases h2 : 1 < a
      · have hf : halfF n a = (0, 0) := by
          unfold halfF
          rw [if_neg (by omega)]
        rw [hf]
        go_enter Tryz.func26, Tryz.ntmps26
        go_wp2_with fail
        go_ret2
        exact ⟨rfl, rfl⟩
      · have hf : halfF n a = (a * (n / 2), n / 2) := by
          unfold halfF
          rw [if_pos (by omega)]
        obtain ⟨m, hm⟩ : ∃ m, m = n / 2 := ⟨_, rfl⟩
        obtain ⟨z, hz⟩ : ∃ z, z = a * m := ⟨_, rfl⟩
        have hzb : 0 ≤ z ∧ z ≤ 9223372036854775807 := by
          rcases (show a = 0 ∨ a = 1 by omega) with rfl | rfl <;> omega
        have hw : IntKind.i64.wrap (a * (n / 2)) = z := by rw [← hm, ← hz]; exact IntWalk.i64_in _ (by omega)
        have hq : n.tdiv 2 = n / 2 := Int.tdiv_eq_ediv_of_nonneg (by omega)
        rw [hf]
        have HZ := Lib.hid (show a * (n / 2) = z by rw [hz, hm])
        clear hf hm hz
        go_enter Tryz.func26, Tryz.ntmps26
        go_wp2_with fail
        go_ret2
        exact ⟨by rw [HZ.out]; rfl, rfl⟩
end Go.Proofs.YthfnncahmccgkaaGreatDoor

namespace Go.Proofs.YthfnncahmccgkaaGreatDoor
open Go Go.RowKit Go.Maps
set_option maxRecDepth 100000
set_option linter.unusedSimpArgs false
set_option linter.unusedVariables false

/-- Between two sectors. -/
structure WJ (w : World) (q p g1 g2 g3 n : Nat) (l : LS) (T : DS) (A8 : Option Addr) (rows : List (List UInt8)) (W : World) : Prop where
  lg : RG W q p n l
  pd : RD W p g1 g2 g3 T
  kp : Kp [q, p, g2, g3] w W
  tx : Tx W A8 rows

set_option maxHeartbeats 8000000 in
theorem writeR_log {w : World} {q p g1 g2 g3 n : Nat} {S : DS} {l : LS} (hq : RG w q p n l) (hP : RD w p g1 g2 g3 S) (hn : S.was.length = n) (ho : l.Ok n) (hops : S.ops < 4611686018427380000) (s : List UInt8) (hs : s.length ≤ 140737488351232) :
    Calls Tryz.prog 71 #[dp q, sv s] w fun e w' => e = .returned (.int .i64 (lwrE S l s)) ∧ RG w' q p n (lwrL S l s) ∧ RD w' p g1 g2 g3 (lwrS S l s) ∧ Kp [q, p, g2, g3] w w' := by
  have hqp := hq.ne_r hP
  have hok := hP.ok
  have hsz : (str s).size = s.length := by show s.toArray.size = _; simp
  have MN := fun W => @rmany_any W (s.length : Int) (by omega) (by omega)
  rw [manyI_nat] at MN
  have hmp := manyN_pos s.length
  have hml := manyN_lt s.length
  have hus := ho.us
  have hn2 := hok.n2
  rw [hn] at hn2
  have HQ1 := Lib.hid (show RG w.drew q p n l from hq)
  cases hfl : lfull S l s with
  | true =>
    have HF := Lib.hid (lwrE_full hfl)
    have hgt : ((n / 2 : Nat) : Int) < ((l.used + manyN s.length : Nat) : Int) := by
      simp only [lfull, decide_eq_true_eq] at hfl
      omega
    generalize manyN s.length = m at MN hgt hmp hml
    have hw1 : IntKind.i64.wrap ((l.used : Int) + (m : Int)) = ((l.used + m : Nat) : Int) := by rw [IntWalk.i64_in _ (by omega)]; push_cast; rfl
    have HQ := Lib.hid hq
    have HP := Lib.hid hP
    clear hq hP hfl hqp ho hok
    go_enter Tryz.func71, Tryz.ntmps71
    go_wp2_with (go_at_call 93; refine (MN _).mono ?_; rintro e w2 ⟨rfl, rfl⟩)
    refine wp_region_held_drew (S := fun W => RG W q p n l) (by kernel_rfl) HQ1.out (fun hHeld => ?_)
    refine wpAnyH_take (i := 0) (v := ?vv0_1) rfl (by kernel_rfl) (by kernel_rfl) (by kernel_rfl) (fun _ _ _ h => h) (Or.inl ⟨by rfl, ?hy0_1⟩) (by assumption) ?rest0_1
    case hy0_1 => (intro w' hSw; (try dsimp only at hSw); go_simp; try with_reducible rfl)
    try simp only [List.getElem_toArray, List.getElem_cons_zero, List.getElem_cons_succ, Act.put, List.setIfInBounds_toArray, List.set_cons_zero, List.set_cons_succ]
    refine wpAnyH_take (i := 1) (v := ?vv1_1) rfl (by kernel_rfl) (by kernel_rfl) (by kernel_rfl) (fun _ _ _ h => h) (Or.inl ⟨by rfl, ?hy1_1⟩) (by assumption) ?rest1_1
    case hy1_1 => (intro w' hSw; (try dsimp only at hSw); go_simp; try with_reducible rfl)
    try simp only [List.getElem_toArray, List.getElem_cons_zero, List.getElem_cons_succ, Act.put, List.setIfInBounds_toArray, List.set_cons_zero, List.set_cons_succ]
    refine wpAnyH_take (i := 2) (v := ?vv2_1) rfl (by kernel_rfl) (by kernel_rfl) (by kernel_rfl) (fun _ _ _ h => h) (Or.inl ⟨by rfl, ?hy2_1⟩) (by assumption) ?rest2_1
    case hy2_1 => (intro w' hSw; (try dsimp only at hSw); go_simp; try with_reducible rfl)
    try simp only [List.getElem_toArray, List.getElem_cons_zero, List.getElem_cons_succ, Act.put, List.setIfInBounds_toArray, List.set_cons_zero, List.set_cons_succ]
    refine wpAnyH_take (i := 3) (v := .int .i64 (l.used : Int)) rfl (by kernel_rfl) (by kernel_rfl) (by kernel_rfl) (fun _ _ _ h => h) (Or.inl ⟨by rfl, fun w' hSw => exec_load1 w' rfl rfl (RG.cells hSw).2.2.2.2.1 Tryz.underlying3 rfl⟩) (by assumption) ?_
    try simp only [List.getElem_toArray, List.getElem_cons_zero, List.getElem_cons_succ, Act.put, List.setIfInBounds_toArray, List.set_cons_zero, List.set_cons_succ]
    refine wpAnyH_take (i := 4) (v := ?vv4_1) rfl (by kernel_rfl) (by kernel_rfl) (by kernel_rfl) (fun _ _ _ h => h) (Or.inl ⟨by rfl, ?hy4_1⟩) (by assumption) ?rest4_1
    case hy4_1 => (intro w' hSw; (try dsimp only at hSw); go_simp; try with_reducible rfl)
    try simp only [List.getElem_toArray, List.getElem_cons_zero, List.getElem_cons_succ, Act.put, List.setIfInBounds_toArray, List.set_cons_zero, List.set_cons_succ]
    refine wpAnyH_take (i := 5) (v := ?vv5_1) rfl (by kernel_rfl) (by kernel_rfl) (by kernel_rfl) (fun _ _ _ h => h) (Or.inl ⟨by rfl, ?hy5_1⟩) (by assumption) ?rest5_1
    case hy5_1 => (intro w' hSw; (try dsimp only at hSw); go_simp; try with_reducible rfl)
    try simp only [List.getElem_toArray, List.getElem_cons_zero, List.getElem_cons_succ, Act.put, List.setIfInBounds_toArray, List.set_cons_zero, List.set_cons_succ]
    refine wpAnyH_take (i := 6) (v := ?vv6_1) rfl (by kernel_rfl) (by kernel_rfl) (by kernel_rfl) (fun _ _ _ h => h) (Or.inl ⟨by rfl, ?hy6_1⟩) (by assumption) ?rest6_1
    case hy6_1 => (intro w' hSw; (try dsimp only at hSw); go_simp; try with_reducible rfl)
    try simp only [List.getElem_toArray, List.getElem_cons_zero, List.getElem_cons_succ, Act.put, List.setIfInBounds_toArray, List.set_cons_zero, List.set_cons_succ]
    refine wpAnyH_take (i := 7) (v := ?vv7_1) rfl (by kernel_rfl) (by kernel_rfl) (by kernel_rfl) (fun _ _ _ h => h) (Or.inl ⟨by rfl, ?hy7_1⟩) (by assumption) ?rest7_1
    case hy7_1 => (intro w' hSw; (try dsimp only at hSw); go_simp; try with_reducible rfl)
    try simp only [List.getElem_toArray, List.getElem_cons_zero, List.getElem_cons_succ, Act.put, List.setIfInBounds_toArray, List.set_cons_zero, List.set_cons_succ]
    refine wpAnyH_take (i := 8) (v := ?vv8_1) rfl (by kernel_rfl) (by kernel_rfl) (by kernel_rfl) (fun _ _ _ h => h) (Or.inl ⟨by rfl, ?hy8_1⟩) (by assumption) ?rest8_1
    case hy8_1 => (intro w' hSw; (try dsimp only at hSw); go_simp; try with_reducible rfl)
    try simp only [List.getElem_toArray, List.getElem_cons_zero, List.getElem_cons_succ, Act.put, List.setIfInBounds_toArray, List.set_cons_zero, List.set_cons_succ]
    refine wpAnyH_take (i := 9) (v := .int .i64 ((n / 2 : Nat) : Int)) rfl (by kernel_rfl) (by kernel_rfl) (by kernel_rfl) (fun _ _ _ h => h) (Or.inl ⟨by rfl, fun w' hSw => exec_load1 w' rfl rfl (RG.cells hSw).2.2.1 Tryz.underlying3 rfl⟩) (by assumption) ?_
    try simp only [List.getElem_toArray, List.getElem_cons_zero, List.getElem_cons_succ, Act.put, List.setIfInBounds_toArray, List.set_cons_zero, List.set_cons_succ]
    refine wpAnyH_take (i := 10) (v := ?vv10_1) rfl (by kernel_rfl) (by kernel_rfl) (by kernel_rfl) (fun _ _ _ h => h) (Or.inl ⟨by rfl, ?hy10_1⟩) (by assumption) ?rest10_1
    case hy10_1 => (intro w' hSw; (try dsimp only at hSw); go_simp; try with_reducible rfl)
    try simp only [List.getElem_toArray, List.getElem_cons_zero, List.getElem_cons_succ, Act.put, List.setIfInBounds_toArray, List.set_cons_zero, List.set_cons_succ]
    refine wpAnyH_done (by kernel_rfl) ?_ _
    clear hHeld
    go_wp2_with fail
    go_ret
    exact ⟨by rw [HF.out.1]; rfl, by rw [HF.out.2.2]; exact HQ1.out, by rw [HF.out.2.1]; exact HP.out.of_blocks (fun b hb => rfl), (Kp.refl _ _).drew⟩
  | false =>
    have hroom : l.used + manyN s.length ≤ n / 2 := by rw [← hn]; exact lfull_no hfl
    have hin := lwr_in (s := s) (by rw [hn]; exact ho) hfl
    have hsp : splE (l.age : Int) (l.used : Int) s.length = 0 := splE_ok.2 ⟨by rw [mayB_iff]; have := ho.a1; have := ho.a2; omega, by omega⟩
    have hspl : splL (l.age : Int) (l.used : Int) s = lrow l s := by rw [splL, hsp, if_pos rfl]; rfl
    have hrl := lrow_length l s
    have SPL : Hid (∀ W, Calls Tryz.prog 94 #[.int .i64 (l.age : Int), .int .i64 (l.used : Int), sv s] W fun e w' => ∃ g c, e = .returned (.tuple #[.slice (some ⟨g, 0, none⟩) (lrow l s).length c, .int .i64 0]) ∧ Tx w' (some ⟨g, 0, none⟩) (lrow l s) ∧ Below W.heap.size W w' ∧ W.heap.size ≤ g) := Lib.hid (fun W => by
      refine (rsplit_new (w := W) (l.age : Int) (l.used : Int) s hs).mono ?_
      rintro e w' ⟨A, c, rfl, htx, hc, hb, hg⟩
      rw [hsp]
      rw [hspl] at htx hg ⊢
      obtain ⟨g, rfl, hgn⟩ := hg (by rw [hrl]; exact hmp)
      exact ⟨g, c, rfl, htx, hb, hgn⟩)
    have HROW := Lib.hid (lrow_lens l s)
    have HFIN := Lib.hid (fun T b => @lwr_res S T l s b hfl)
    have HLW := Lib.hid (show lwr S l s = wrs (lrow l s) S (lfst n l.half + l.used) from by rw [← hn]; rfl)
    have hgt : ¬ ((n / 2 : Nat) : Int) < ((l.used + manyN s.length : Nat) : Int) := by omega
    rw [hrl, hn] at hin
    obtain ⟨m, hm⟩ : ∃ m, m = manyN s.length := ⟨_, rfl⟩
    rw [← hm] at MN hgt hin hmp hroom hrl hml
    obtain ⟨f0, hf0⟩ : ∃ f0, f0 = lfst n l.half := ⟨_, rfl⟩
    rw [← hf0] at hin HLW
    have HF0 := Lib.hid hf0
    obtain ⟨rows, hrows⟩ : ∃ rows, rows = lrow l s := ⟨_, rfl⟩
    rw [← hrows] at hrl HROW HLW SPL
    have hw1 : IntKind.i64.wrap ((l.used : Int) + (m : Int)) = ((l.used + m : Nat) : Int) := by rw [IntWalk.i64_in _ (by omega)]; push_cast; rfl
    have HQ := Lib.hid hq
    have HP := Lib.hid hP
    have HQP := Lib.hid hqp
    have HM := Lib.hid hm
    have HN := Lib.hid hn
    have HRL := Lib.hid hrl
    have HLT := Lib.hid (hP.lts)
    have hu2 : l.used ≤ 1024 := by omega
    clear hq hP hqp ho hfl hsp hspl hrows hm hn hus hok hroom hf0
    go_enter Tryz.func71, Tryz.ntmps71
    go_wp2_with (go_at_call 93; refine (MN _).mono ?_; rintro e w2 ⟨rfl, rfl⟩)
    refine wp_region_held_drew (S := fun W => RG W q p n l) (by kernel_rfl) HQ1.out (fun hHeld => ?_)
    refine wpAnyH_take (i := 0) (v := ?vv0_2) rfl (by kernel_rfl) (by kernel_rfl) (by kernel_rfl) (fun _ _ _ h => h) (Or.inl ⟨by rfl, ?hy0_2⟩) (by assumption) ?rest0_2
    case hy0_2 => (intro w' hSw; (try dsimp only at hSw); go_simp; try with_reducible rfl)
    try simp only [List.getElem_toArray, List.getElem_cons_zero, List.getElem_cons_succ, Act.put, List.setIfInBounds_toArray, List.set_cons_zero, List.set_cons_succ]
    refine wpAnyH_take (i := 1) (v := ?vv1_2) rfl (by kernel_rfl) (by kernel_rfl) (by kernel_rfl) (fun _ _ _ h => h) (Or.inl ⟨by rfl, ?hy1_2⟩) (by assumption) ?rest1_2
    case hy1_2 => (intro w' hSw; (try dsimp only at hSw); go_simp; try with_reducible rfl)
    try simp only [List.getElem_toArray, List.getElem_cons_zero, List.getElem_cons_succ, Act.put, List.setIfInBounds_toArray, List.set_cons_zero, List.set_cons_succ]
    refine wpAnyH_take (i := 2) (v := ?vv2_2) rfl (by kernel_rfl) (by kernel_rfl) (by kernel_rfl) (fun _ _ _ h => h) (Or.inl ⟨by rfl, ?hy2_2⟩) (by assumption) ?rest2_2
    case hy2_2 => (intro w' hSw; (try dsimp only at hSw); go_simp; try with_reducible rfl)
    try simp only [List.getElem_toArray, List.getElem_cons_zero, List.getElem_cons_succ, Act.put, List.setIfInBounds_toArray, List.set_cons_zero, List.set_cons_succ]
    refine wpAnyH_take (i := 3) (v := .int .i64 (l.used : Int)) rfl (by kernel_rfl) (by kernel_rfl) (by kernel_rfl) (fun _ _ _ h => h) (Or.inl ⟨by rfl, fun w' hSw => exec_load1 w' rfl rfl (RG.cells hSw).2.2.2.2.1 Tryz.underlying3 rfl⟩) (by assumption) ?_
    try simp only [List.getElem_toArray, List.getElem_cons_zero, List.getElem_cons_succ, Act.put, List.setIfInBounds_toArray, List.set_cons_zero, List.set_cons_succ]
    refine wpAnyH_take (i := 4) (v := ?vv4_2) rfl (by kernel_rfl) (by kernel_rfl) (by kernel_rfl) (fun _ _ _ h => h) (Or.inl ⟨by rfl, ?hy4_2⟩) (by assumption) ?rest4_2
    case hy4_2 => (intro w' hSw; (try dsimp only at hSw); go_simp; try with_reducible rfl)
    try simp only [List.getElem_toArray, List.getElem_cons_zero, List.getElem_cons_succ, Act.put, List.setIfInBounds_toArray, List.set_cons_zero, List.set_cons_succ]
    refine wpAnyH_take (i := 5) (v := ?vv5_2) rfl (by kernel_rfl) (by kernel_rfl) (by kernel_rfl) (fun _ _ _ h => h) (Or.inl ⟨by rfl, ?hy5_2⟩) (by assumption) ?rest5_2
    case hy5_2 => (intro w' hSw; (try dsimp only at hSw); go_simp; try with_reducible rfl)
    try simp only [List.getElem_toArray, List.getElem_cons_zero, List.getElem_cons_succ, Act.put, List.setIfInBounds_toArray, List.set_cons_zero, List.set_cons_succ]
    refine wpAnyH_take (i := 6) (v := ?vv6_2) rfl (by kernel_rfl) (by kernel_rfl) (by kernel_rfl) (fun _ _ _ h => h) (Or.inl ⟨by rfl, ?hy6_2⟩) (by assumption) ?rest6_2
    case hy6_2 => (intro w' hSw; (try dsimp only at hSw); go_simp; try with_reducible rfl)
    try simp only [List.getElem_toArray, List.getElem_cons_zero, List.getElem_cons_succ, Act.put, List.setIfInBounds_toArray, List.set_cons_zero, List.set_cons_succ]
    refine wpAnyH_take (i := 7) (v := ?vv7_2) rfl (by kernel_rfl) (by kernel_rfl) (by kernel_rfl) (fun _ _ _ h => h) (Or.inl ⟨by rfl, ?hy7_2⟩) (by assumption) ?rest7_2
    case hy7_2 => (intro w' hSw; (try dsimp only at hSw); go_simp; try with_reducible rfl)
    try simp only [List.getElem_toArray, List.getElem_cons_zero, List.getElem_cons_succ, Act.put, List.setIfInBounds_toArray, List.set_cons_zero, List.set_cons_succ]
    refine wpAnyH_take (i := 8) (v := ?vv8_2) rfl (by kernel_rfl) (by kernel_rfl) (by kernel_rfl) (fun _ _ _ h => h) (Or.inl ⟨by rfl, ?hy8_2⟩) (by assumption) ?rest8_2
    case hy8_2 => (intro w' hSw; (try dsimp only at hSw); go_simp; try with_reducible rfl)
    try simp only [List.getElem_toArray, List.getElem_cons_zero, List.getElem_cons_succ, Act.put, List.setIfInBounds_toArray, List.set_cons_zero, List.set_cons_succ]
    refine wpAnyH_take (i := 9) (v := .int .i64 ((n / 2 : Nat) : Int)) rfl (by kernel_rfl) (by kernel_rfl) (by kernel_rfl) (fun _ _ _ h => h) (Or.inl ⟨by rfl, fun w' hSw => exec_load1 w' rfl rfl (RG.cells hSw).2.2.1 Tryz.underlying3 rfl⟩) (by assumption) ?_
    try simp only [List.getElem_toArray, List.getElem_cons_zero, List.getElem_cons_succ, Act.put, List.setIfInBounds_toArray, List.set_cons_zero, List.set_cons_succ]
    refine wpAnyH_take (i := 10) (v := ?vv10_2) rfl (by kernel_rfl) (by kernel_rfl) (by kernel_rfl) (fun _ _ _ h => h) (Or.inl ⟨by rfl, ?hy10_2⟩) (by assumption) ?rest10_2
    case hy10_2 => (intro w' hSw; (try dsimp only at hSw); go_simp; try with_reducible rfl)
    try simp only [List.getElem_toArray, List.getElem_cons_zero, List.getElem_cons_succ, Act.put, List.setIfInBounds_toArray, List.set_cons_zero, List.set_cons_succ]
    refine wpAnyH_done (by kernel_rfl) ?_ _
    clear hHeld MN
    go_wp2_with fail
    refine wp_region_held_drew (S := fun W => RG W q p n l ∧ Below w.heap.size w W) (by kernel_rfl) ⟨HQ1.out, (Below.refl _ _).drew.drew⟩ (fun hHeld => ?_)
    refine wpAnyH_take (i := 0) (v := ?vv0_3) rfl (by kernel_rfl) (by kernel_rfl) (by kernel_rfl) (fun _ _ _ h => h) (Or.inl ⟨by rfl, ?hy0_3⟩) (by assumption) ?rest0_3
    case hy0_3 => (intro w' hSw; (try dsimp only at hSw); go_simp; try with_reducible rfl)
    try simp only [List.getElem_toArray, List.getElem_cons_zero, List.getElem_cons_succ, Act.put, List.setIfInBounds_toArray, List.set_cons_zero, List.set_cons_succ]
    refine wpAnyH_take (i := 1) (v := ?vv1_3) rfl (by kernel_rfl) (by kernel_rfl) (by kernel_rfl) (fun _ _ _ h => h) (Or.inl ⟨by rfl, ?hy1_3⟩) (by assumption) ?rest1_3
    case hy1_3 => (intro w' hSw; (try dsimp only at hSw); go_simp; try with_reducible rfl)
    try simp only [List.getElem_toArray, List.getElem_cons_zero, List.getElem_cons_succ, Act.put, List.setIfInBounds_toArray, List.set_cons_zero, List.set_cons_succ]
    refine wpAnyH_take (i := 2) (v := ?vv2_3) rfl (by kernel_rfl) (by kernel_rfl) (by kernel_rfl) (fun _ _ _ h => h) (Or.inl ⟨by rfl, ?hy2_3⟩) (by assumption) ?rest2_3
    case hy2_3 => (intro w' hSw; (try dsimp only at hSw); go_simp; try with_reducible rfl)
    try simp only [List.getElem_toArray, List.getElem_cons_zero, List.getElem_cons_succ, Act.put, List.setIfInBounds_toArray, List.set_cons_zero, List.set_cons_succ]
    refine wpAnyH_take (i := 3) (v := .int .i64 (l.age : Int)) rfl (by kernel_rfl) (by kernel_rfl) (by kernel_rfl) (fun _ _ _ h => h) (Or.inl ⟨by rfl, fun w' hSw => exec_load1 w' rfl rfl (RG.cells hSw.1).2.2.2.1 Tryz.underlying3 rfl⟩) (by assumption) ?_
    try simp only [List.getElem_toArray, List.getElem_cons_zero, List.getElem_cons_succ, Act.put, List.setIfInBounds_toArray, List.set_cons_zero, List.set_cons_succ]
    refine wpAnyH_take (i := 4) (v := ?vv4_3) rfl (by kernel_rfl) (by kernel_rfl) (by kernel_rfl) (fun _ _ _ h => h) (Or.inl ⟨by rfl, ?hy4_3⟩) (by assumption) ?rest4_3
    case hy4_3 => (intro w' hSw; (try dsimp only at hSw); go_simp; try with_reducible rfl)
    try simp only [List.getElem_toArray, List.getElem_cons_zero, List.getElem_cons_succ, Act.put, List.setIfInBounds_toArray, List.set_cons_zero, List.set_cons_succ]
    refine wpAnyH_take (i := 5) (v := ?vv5_3) rfl (by kernel_rfl) (by kernel_rfl) (by kernel_rfl) (fun _ _ _ h => h) (Or.inl ⟨by rfl, ?hy5_3⟩) (by assumption) ?rest5_3
    case hy5_3 => (intro w' hSw; (try dsimp only at hSw); go_simp; try with_reducible rfl)
    try simp only [List.getElem_toArray, List.getElem_cons_zero, List.getElem_cons_succ, Act.put, List.setIfInBounds_toArray, List.set_cons_zero, List.set_cons_succ]
    refine wpAnyH_take (i := 6) (v := ?vv6_3) rfl (by kernel_rfl) (by kernel_rfl) (by kernel_rfl) (fun _ _ _ h => h) (Or.inl ⟨by rfl, ?hy6_3⟩) (by assumption) ?rest6_3
    case hy6_3 => (intro w' hSw; (try dsimp only at hSw); go_simp; try with_reducible rfl)
    try simp only [List.getElem_toArray, List.getElem_cons_zero, List.getElem_cons_succ, Act.put, List.setIfInBounds_toArray, List.set_cons_zero, List.set_cons_succ]
    refine wpAnyH_take (i := 7) (v := .int .i64 (l.used : Int)) rfl (by kernel_rfl) (by kernel_rfl) (by kernel_rfl) (fun _ _ _ h => h) (Or.inl ⟨by rfl, fun w' hSw => exec_load1 w' rfl rfl (RG.cells hSw.1).2.2.2.2.1 Tryz.underlying3 rfl⟩) (by assumption) ?_
    try simp only [List.getElem_toArray, List.getElem_cons_zero, List.getElem_cons_succ, Act.put, List.setIfInBounds_toArray, List.set_cons_zero, List.set_cons_succ]
    refine wpAnyH_take (i := 8) (v := ?vv8_3) rfl (by kernel_rfl) (by kernel_rfl) (by kernel_rfl) (fun _ _ _ h => h) (Or.inl ⟨by rfl, ?hy8_3⟩) (by assumption) ?rest8_3
    case hy8_3 => (intro w' hSw; (try dsimp only at hSw); go_simp; try with_reducible rfl)
    try simp only [List.getElem_toArray, List.getElem_cons_zero, List.getElem_cons_succ, Act.put, List.setIfInBounds_toArray, List.set_cons_zero, List.set_cons_succ]
    refine wpAnyH_ready (rs := [9]) (by kernel_rfl) (by simp) ?_
    refine AllReadyH.cons rfl (fun K hK => ?_) AllReadyH.nil
    go_simp
    go_at_call 94
    refine (SPL.out _).mono ?_
    rintro e1 w8 ⟨g8, c8, rfl, htx8, hb8, hnew8⟩
    refine hK.out _ _ ⟨hHeld.1.below hb8, hHeld.2.trans (hb8.mono hHeld.2.size)⟩ (fun hHeld => ?_)
    clear hK K
    try simp only [List.getElem_toArray, List.getElem_cons_zero, List.getElem_cons_succ, Act.put, List.setIfInBounds_toArray, List.set_cons_zero, List.set_cons_succ]
    refine wpAnyH_take (i := 10) (v := ?vv10_3) rfl (by kernel_rfl) (by kernel_rfl) (by kernel_rfl) (fun _ _ _ h => h) (Or.inl ⟨by rfl, ?hy10_3⟩) (by assumption) ?rest10_3
    case hy10_3 => (intro w' hSw; (try dsimp only at hSw); go_simp; try with_reducible rfl)
    try simp only [List.getElem_toArray, List.getElem_cons_zero, List.getElem_cons_succ, Act.put, List.setIfInBounds_toArray, List.set_cons_zero, List.set_cons_succ]
    refine wpAnyH_take (i := 11) (v := ?vv11_3) rfl (by kernel_rfl) (by kernel_rfl) (by kernel_rfl) (fun _ _ _ h => h) (Or.inl ⟨by rfl, ?hy11_3⟩) (by assumption) ?rest11_3
    case hy11_3 => (intro w' hSw; (try dsimp only at hSw); go_simp; try with_reducible rfl)
    try simp only [List.getElem_toArray, List.getElem_cons_zero, List.getElem_cons_succ, Act.put, List.setIfInBounds_toArray, List.set_cons_zero, List.set_cons_succ]
    refine wpAnyH_take (i := 12) (v := ?vv12_3) rfl (by kernel_rfl) (by kernel_rfl) (by kernel_rfl) (fun _ _ _ h => h) (Or.inl ⟨by rfl, ?hy12_3⟩) (by assumption) ?rest12_3
    case hy12_3 => (intro w' hSw; (try dsimp only at hSw); go_simp; try with_reducible rfl)
    try simp only [List.getElem_toArray, List.getElem_cons_zero, List.getElem_cons_succ, Act.put, List.setIfInBounds_toArray, List.set_cons_zero, List.set_cons_succ]
    refine wpAnyH_take (i := 13) (v := ?vv13_3) rfl (by kernel_rfl) (by kernel_rfl) (by kernel_rfl) (fun _ _ _ h => h) (Or.inl ⟨by rfl, ?hy13_3⟩) (by assumption) ?rest13_3
    case hy13_3 => (intro w' hSw; (try dsimp only at hSw); go_simp; try with_reducible rfl)
    try simp only [List.getElem_toArray, List.getElem_cons_zero, List.getElem_cons_succ, Act.put, List.setIfInBounds_toArray, List.set_cons_zero, List.set_cons_succ]
    refine wpAnyH_take (i := 14) (v := ?vv14_3) rfl (by kernel_rfl) (by kernel_rfl) (by kernel_rfl) (fun _ _ _ h => h) (Or.inl ⟨by rfl, ?hy14_3⟩) (by assumption) ?rest14_3
    case hy14_3 => (intro w' hSw; (try dsimp only at hSw); go_simp; try with_reducible rfl)
    try simp only [List.getElem_toArray, List.getElem_cons_zero, List.getElem_cons_succ, Act.put, List.setIfInBounds_toArray, List.set_cons_zero, List.set_cons_succ]
    refine wpAnyH_done (by kernel_rfl) ?_ _
    have HWI0 := Lib.hid (show WJ w q p g1 g2 g3 n l S (some ⟨g8, 0, none⟩) rows w8 from ⟨hHeld.1, HP.out.below hHeld.2, Kp.of_below hHeld.2 _, htx8⟩)
    have HG8 := Lib.hid (show w.heap.size ≤ g8 from hnew8)
    clear hHeld htx8 hnew8 hb8 SPL
    rw [HRL.out]
    go_wp2_with fail
    go_loopw [8] (fun i wr => ∃ (k : Nat) (T : DS), k ≤ m ∧ i = .int .i64 k ∧ WJ w q p g1 g2 g3 n l T (some ⟨g8, 0, none⟩) rows wr ∧ wrs rows S (f0 + l.used) = wrs (rows.drop k) T (f0 + l.used + k) ∧ T.ops ≤ S.ops + k ∧ T.was.length = n) (fun i _ => m - (intOf i).toNat)
    case atStart => exact ⟨0, S, Nat.zero_le _, rfl, HWI0.out, by rw [List.drop_zero, Nat.add_zero], by omega, HN.out⟩
    case round =>
      obtain ⟨k, T, hk, rfl, hwi, heq, hto, htn⟩ := hrel
      have HWI := Lib.hid hwi
      have HEQ := Lib.hid heq
      have HTN := Lib.hid htn
      clear heq htn
      by_cases hlt : k < m
      · have hlt' : (k : Int) < (m : Int) := by omega
        obtain ⟨b8, o8, hA8, c8v⟩ := hwi.tx.cell (k := k) (by rw [HRL.out]; exact hlt)
        simp only [Option.some.injEq, Addr.mk.injEq, and_true] at hA8
        obtain ⟨rfl, rfl⟩ := hA8
        rw [Nat.zero_add] at c8v
        have hbL : g8 < wr.heap.size := hwi.tx.lt (by rw [HRL.out]; omega)
        have hxl : (rows.getD k []).length = 128 := HROW.out _ (by rw [List.getD_eq_getElem?_getD, List.getElem?_eq_getElem (by rw [HRL.out]; exact hlt)]; exact List.getElem_mem _)
        have HST := Lib.hid (fun ho => @wrs_step rows T (f0 + l.used + k) k (by rw [HRL.out]; exact hlt) ho)
        have hzk : f0 + l.used + k < T.was.length := by rw [HTN.out]; omega
        have hw2 : IntKind.i64.wrap ((f0 : Int) + (l.used : Int)) = (f0 : Int) + (l.used : Int) := by rw [IntWalk.i64_in _ (by omega)]
        obtain ⟨z, hz⟩ : ∃ z : Int, z = ((f0 + l.used + k : Nat) : Int) := ⟨_, rfl⟩
        have hw3 : IntKind.i64.wrap ((f0 : Int) + (l.used : Int) + (k : Int)) = z := by rw [IntWalk.i64_in _ (by omega), hz]; push_cast; rfl
        obtain ⟨x, hx⟩ : ∃ x, x = rows.getD k [] := ⟨_, rfl⟩
        rw [← hx] at c8v HST hxl
        have hzn : z.toNat = f0 + l.used + k := by omega
        have hz1 : 0 ≤ z := by omega
        have hz2 : z < T.was.length := by omega
        have hwe : T.wrE z x = if T.off then 42 else 0 := by
          unfold DS.wrE
          cases T.off
          · simp [DS.has, hxl, hz1, hz2]
          · rfl
        have hws : T.wr z x = if T.off then T else ((T.put (f0 + l.used + k) x).did) := by
          unfold DS.wr
          rw [hwe, hzn]
          cases T.off
          · simp
          · simp
        have WA := Lib.hid (fun W (hW : RD W p g1 g2 g3 T) => write_rd hW (by omega) z x (by omega))
        rw [hwe, hws] at WA
        clear hzn hz1 hz2
        clear hwe hws hz hx hwi hxl hzk
        have HS10 := Lib.hid (show RG wr.drew q p n l ∧ wr.drew.cell? ⟨g8, k, none⟩ = some (sv x) ∧ Kp [p, g2, g3] wr wr.drew from ⟨HWI.out.lg, c8v, (Kp.refl _ _).drew⟩)
        have HNL := Lib.hid (show g8 ∉ [p, g2, g3] from fun hm => by
          have h1 := HLT.out g8 (by simp at hm ⊢; omega)
          have h2 := HG8.out
          omega)
        have HQ3 := Lib.hid (show q ∉ [p, g2, g3] from fun hm => HQP.out (by simp at hm ⊢; omega))
        have HLW8 := Lib.hid hbL
        cases hoff : T.off with
        | true =>
          rw [hoff] at WA
          have HOF := Lib.hid hoff
          clear HST hoff hbL
          go_wp2_with fail
          refine wp_region_held_drew (S := fun W => RG W q p n l ∧ W.cell? ⟨g8, k, none⟩ = some (sv x) ∧ Kp [p, g2, g3] wr W) (by kernel_rfl) HS10.out (fun hHeld => ?_)
          refine wpAnyH_take (i := 0) (v := ?vv0_4) rfl (by kernel_rfl) (by kernel_rfl) (by kernel_rfl) (fun _ _ _ h => h) (Or.inl ⟨by rfl, ?hy0_4⟩) (by assumption) ?rest0_4
          case hy0_4 => (intro w' hSw; (try dsimp only at hSw); go_simp; try with_reducible rfl)
          try simp only [List.getElem_toArray, List.getElem_cons_zero, List.getElem_cons_succ, Act.put, List.setIfInBounds_toArray, List.set_cons_zero, List.set_cons_succ]
          refine wpAnyH_take (i := 1) (v := ?vv1_4) rfl (by kernel_rfl) (by kernel_rfl) (by kernel_rfl) (fun _ _ _ h => h) (Or.inl ⟨by rfl, ?hy1_4⟩) (by assumption) ?rest1_4
          case hy1_4 => (intro w' hSw; (try dsimp only at hSw); go_simp; try with_reducible rfl)
          try simp only [List.getElem_toArray, List.getElem_cons_zero, List.getElem_cons_succ, Act.put, List.setIfInBounds_toArray, List.set_cons_zero, List.set_cons_succ]
          refine wpAnyH_take (i := 2) (v := ?vv2_4) rfl (by kernel_rfl) (by kernel_rfl) (by kernel_rfl) (fun _ _ _ h => h) (Or.inl ⟨by rfl, ?hy2_4⟩) (by assumption) ?rest2_4
          case hy2_4 => (intro w' hSw; (try dsimp only at hSw); go_simp; try with_reducible rfl)
          try simp only [List.getElem_toArray, List.getElem_cons_zero, List.getElem_cons_succ, Act.put, List.setIfInBounds_toArray, List.set_cons_zero, List.set_cons_succ]
          refine wpAnyH_take (i := 3) (v := dp p) rfl (by kernel_rfl) (by kernel_rfl) (by kernel_rfl) (fun _ _ _ h => h) (Or.inl ⟨by rfl, fun w' hSw => exec_load1 w' rfl rfl (RG.cells hSw.1).1 Tryz.underlying51 rfl⟩) (by assumption) ?_
          try simp only [List.getElem_toArray, List.getElem_cons_zero, List.getElem_cons_succ, Act.put, List.setIfInBounds_toArray, List.set_cons_zero, List.set_cons_succ]
          refine wpAnyH_take (i := 4) (v := ?vv4_4) rfl (by kernel_rfl) (by kernel_rfl) (by kernel_rfl) (fun _ _ _ h => h) (Or.inl ⟨by rfl, ?hy4_4⟩) (by assumption) ?rest4_4
          case hy4_4 => (intro w' hSw; (try dsimp only at hSw); go_simp; try with_reducible rfl)
          try simp only [List.getElem_toArray, List.getElem_cons_zero, List.getElem_cons_succ, Act.put, List.setIfInBounds_toArray, List.set_cons_zero, List.set_cons_succ]
          refine wpAnyH_take (i := 5) (v := ?vv5_4) rfl (by kernel_rfl) (by kernel_rfl) (by kernel_rfl) (fun _ _ _ h => h) (Or.inl ⟨by rfl, ?hy5_4⟩) (by assumption) ?rest5_4
          case hy5_4 => (intro w' hSw; (try dsimp only at hSw); go_simp; try with_reducible rfl)
          try simp only [List.getElem_toArray, List.getElem_cons_zero, List.getElem_cons_succ, Act.put, List.setIfInBounds_toArray, List.set_cons_zero, List.set_cons_succ]
          refine wpAnyH_take (i := 6) (v := ?vv6_4) rfl (by kernel_rfl) (by kernel_rfl) (by kernel_rfl) (fun _ _ _ h => h) (Or.inl ⟨by rfl, ?hy6_4⟩) (by assumption) ?rest6_4
          case hy6_4 => (intro w' hSw; (try dsimp only at hSw); go_simp; try with_reducible rfl)
          try simp only [List.getElem_toArray, List.getElem_cons_zero, List.getElem_cons_succ, Act.put, List.setIfInBounds_toArray, List.set_cons_zero, List.set_cons_succ]
          refine wpAnyH_take (i := 7) (v := .int .i64 (f0 : Int)) rfl (by kernel_rfl) (by kernel_rfl) (by kernel_rfl) (fun _ _ _ h => h) (Or.inl ⟨by rfl, fun w' hSw => exec_load1 w' rfl rfl (by rw [HF0.out]; exact (RG.cells hSw.1).2.1) Tryz.underlying3 rfl⟩) (by assumption) ?_
          try simp only [List.getElem_toArray, List.getElem_cons_zero, List.getElem_cons_succ, Act.put, List.setIfInBounds_toArray, List.set_cons_zero, List.set_cons_succ]
          refine wpAnyH_take (i := 8) (v := ?vv8_4) rfl (by kernel_rfl) (by kernel_rfl) (by kernel_rfl) (fun _ _ _ h => h) (Or.inl ⟨by rfl, ?hy8_4⟩) (by assumption) ?rest8_4
          case hy8_4 => (intro w' hSw; (try dsimp only at hSw); go_simp; try with_reducible rfl)
          try simp only [List.getElem_toArray, List.getElem_cons_zero, List.getElem_cons_succ, Act.put, List.setIfInBounds_toArray, List.set_cons_zero, List.set_cons_succ]
          refine wpAnyH_take (i := 9) (v := ?vv9_4) rfl (by kernel_rfl) (by kernel_rfl) (by kernel_rfl) (fun _ _ _ h => h) (Or.inl ⟨by rfl, ?hy9_4⟩) (by assumption) ?rest9_4
          case hy9_4 => (intro w' hSw; (try dsimp only at hSw); go_simp; try with_reducible rfl)
          try simp only [List.getElem_toArray, List.getElem_cons_zero, List.getElem_cons_succ, Act.put, List.setIfInBounds_toArray, List.set_cons_zero, List.set_cons_succ]
          refine wpAnyH_take (i := 10) (v := ?vv10_4) rfl (by kernel_rfl) (by kernel_rfl) (by kernel_rfl) (fun _ _ _ h => h) (Or.inl ⟨by rfl, ?hy10_4⟩) (by assumption) ?rest10_4
          case hy10_4 => (intro w' hSw; (try dsimp only at hSw); go_simp; try with_reducible rfl)
          try simp only [List.getElem_toArray, List.getElem_cons_zero, List.getElem_cons_succ, Act.put, List.setIfInBounds_toArray, List.set_cons_zero, List.set_cons_succ]
          refine wpAnyH_take (i := 11) (v := .int .i64 (l.used : Int)) rfl (by kernel_rfl) (by kernel_rfl) (by kernel_rfl) (fun _ _ _ h => h) (Or.inl ⟨by rfl, fun w' hSw => exec_load1 w' rfl rfl (RG.cells hSw.1).2.2.2.2.1 Tryz.underlying3 rfl⟩) (by assumption) ?_
          try simp only [List.getElem_toArray, List.getElem_cons_zero, List.getElem_cons_succ, Act.put, List.setIfInBounds_toArray, List.set_cons_zero, List.set_cons_succ]
          refine wpAnyH_take (i := 12) (v := ?vv12_4) rfl (by kernel_rfl) (by kernel_rfl) (by kernel_rfl) (fun _ _ _ h => h) (Or.inl ⟨by rfl, ?hy12_4⟩) (by assumption) ?rest12_4
          case hy12_4 => (intro w' hSw; (try dsimp only at hSw); go_simp; try with_reducible rfl)
          try simp only [List.getElem_toArray, List.getElem_cons_zero, List.getElem_cons_succ, Act.put, List.setIfInBounds_toArray, List.set_cons_zero, List.set_cons_succ]
          refine wpAnyH_take (i := 13) (v := ?vv13_4) rfl (by kernel_rfl) (by kernel_rfl) (by kernel_rfl) (fun _ _ _ h => h) (Or.inl ⟨by rfl, ?hy13_4⟩) (by assumption) ?rest13_4
          case hy13_4 => (intro w' hSw; (try dsimp only at hSw); go_simp; try with_reducible rfl)
          try simp only [List.getElem_toArray, List.getElem_cons_zero, List.getElem_cons_succ, Act.put, List.setIfInBounds_toArray, List.set_cons_zero, List.set_cons_succ]
          refine wpAnyH_take (i := 14) (v := ?vv14_4) rfl (by kernel_rfl) (by kernel_rfl) (by kernel_rfl) (fun _ _ _ h => h) (Or.inl ⟨by rfl, ?hy14_4⟩) (by assumption) ?rest14_4
          case hy14_4 => (intro w' hSw; (try dsimp only at hSw); go_simp; try with_reducible rfl)
          try simp only [List.getElem_toArray, List.getElem_cons_zero, List.getElem_cons_succ, Act.put, List.setIfInBounds_toArray, List.set_cons_zero, List.set_cons_succ]
          refine wpAnyH_take (i := 15) (v := ?vv15_4) rfl (by kernel_rfl) (by kernel_rfl) (by kernel_rfl) (fun _ _ _ h => h) (Or.inl ⟨by rfl, ?hy15_4⟩) (by assumption) ?rest15_4
          case hy15_4 => (intro w' hSw; (try dsimp only at hSw); go_simp; try with_reducible rfl)
          try simp only [List.getElem_toArray, List.getElem_cons_zero, List.getElem_cons_succ, Act.put, List.setIfInBounds_toArray, List.set_cons_zero, List.set_cons_succ]
          refine wpAnyH_take (i := 16) (v := ?vv16_4) rfl (by kernel_rfl) (by kernel_rfl) (by kernel_rfl) (fun _ _ _ h => h) (Or.inl ⟨by rfl, ?hy16_4⟩) (by assumption) ?rest16_4
          case hy16_4 => (intro w' hSw; (try dsimp only at hSw); go_simp; try with_reducible rfl)
          try simp only [List.getElem_toArray, List.getElem_cons_zero, List.getElem_cons_succ, Act.put, List.setIfInBounds_toArray, List.set_cons_zero, List.set_cons_succ]
          refine wpAnyH_take (i := 17) (v := ?vv17_4) rfl (by kernel_rfl) (by kernel_rfl) (by kernel_rfl) (fun _ _ _ h => h) (Or.inl ⟨by rfl, ?hy17_4⟩) (by assumption) ?rest17_4
          case hy17_4 => (intro w' hSw; (try dsimp only at hSw); go_simp; try with_reducible rfl)
          try simp only [List.getElem_toArray, List.getElem_cons_zero, List.getElem_cons_succ, Act.put, List.setIfInBounds_toArray, List.set_cons_zero, List.set_cons_succ]
          refine wpAnyH_take (i := 18) (v := sv x) rfl (by kernel_rfl) (by kernel_rfl) (by kernel_rfl) (fun _ _ _ h => h) (Or.inl ⟨by rfl, fun w' hSw => exec_load1 w' rfl rfl hSw.2.1 Tryz.underlying9 rfl⟩) (by assumption) ?_
          try simp only [List.getElem_toArray, List.getElem_cons_zero, List.getElem_cons_succ, Act.put, List.setIfInBounds_toArray, List.set_cons_zero, List.set_cons_succ]
          refine wpAnyH_ready (rs := [19]) (by kernel_rfl) (by simp) ?_
          refine AllReadyH.cons rfl (fun K hK => ?_) AllReadyH.nil
          go_simp
          go_at_call 95
          refine (WA.out wr.drew (HWI.out.pd.of_blocks (fun b hb => rfl))).mono ?_
          rintro e1 w9 ⟨rfl, hP9, hk9⟩
          refine hK.out _ _ ⟨hHeld.1.kp hk9 HQ3.out, (World.cell?_of_block (hk9.block g8 HLW8.out HNL.out)).trans hHeld.2.1, hHeld.2.2.trans hk9 (fun _ h _ => h)⟩ (fun hHeld => ?_)
          clear hK K
          try simp only [List.getElem_toArray, List.getElem_cons_zero, List.getElem_cons_succ, Act.put, List.setIfInBounds_toArray, List.set_cons_zero, List.set_cons_succ]
          refine wpAnyH_take (i := 20) (v := ?vv20_4) rfl (by kernel_rfl) (by kernel_rfl) (by kernel_rfl) (fun _ _ _ h => h) (Or.inl ⟨by rfl, ?hy20_4⟩) (by assumption) ?rest20_4
          case hy20_4 => (intro w' hSw; (try dsimp only at hSw); go_simp; try with_reducible rfl)
          try simp only [List.getElem_toArray, List.getElem_cons_zero, List.getElem_cons_succ, Act.put, List.setIfInBounds_toArray, List.set_cons_zero, List.set_cons_succ]
          refine wpAnyH_done (by kernel_rfl) ?_ _
          have hq9 := hHeld.1
          have c4 := hq9.cells.2.2.2.2.2
          have f4 := hq9.free 5
          have hres := HFIN.out T false (by rw [HLW.out, HEQ.out, wrs_off HOF.out (by rw [List.length_drop, HRL.out]; omega)])
          have HRES := Lib.hid hres
          have HQ9 := Lib.hid hq9
          have HP9 := Lib.hid hP9
          have HK9 := Lib.hid (HWI.out.kp.trans (hHeld.2.2.mono (S' := [q, p, g2, g3]) (fun x hx => List.mem_cons_of_mem q hx)) (fun x hx _ => hx))
          clear hres hq9 hP9 hHeld hk9
          go_wp2_with fail
          go_ret
          refine ⟨by rw [HRES.out.1]; rfl, by rw [HRES.out.2.2]; exact HQ9.out.setOff, by rw [HRES.out.2.1]; exact RD.setQ (by simpa using HP9.out) HQP.out _ _, HK9.out.setCell (by simp) _⟩
        | false =>
          rw [hoff] at WA
          have HN1 := Lib.hid (HST.out hoff)
          clear HST hoff hbL
          go_wp2_with fail
          refine wp_region_held_drew (S := fun W => RG W q p n l ∧ W.cell? ⟨g8, k, none⟩ = some (sv x) ∧ Kp [p, g2, g3] wr W) (by kernel_rfl) HS10.out (fun hHeld => ?_)
          refine wpAnyH_take (i := 0) (v := ?vv0_5) rfl (by kernel_rfl) (by kernel_rfl) (by kernel_rfl) (fun _ _ _ h => h) (Or.inl ⟨by rfl, ?hy0_5⟩) (by assumption) ?rest0_5
          case hy0_5 => (intro w' hSw; (try dsimp only at hSw); go_simp; try with_reducible rfl)
          try simp only [List.getElem_toArray, List.getElem_cons_zero, List.getElem_cons_succ, Act.put, List.setIfInBounds_toArray, List.set_cons_zero, List.set_cons_succ]
          refine wpAnyH_take (i := 1) (v := ?vv1_5) rfl (by kernel_rfl) (by kernel_rfl) (by kernel_rfl) (fun _ _ _ h => h) (Or.inl ⟨by rfl, ?hy1_5⟩) (by assumption) ?rest1_5
          case hy1_5 => (intro w' hSw; (try dsimp only at hSw); go_simp; try with_reducible rfl)
          try simp only [List.getElem_toArray, List.getElem_cons_zero, List.getElem_cons_succ, Act.put, List.setIfInBounds_toArray, List.set_cons_zero, List.set_cons_succ]
          refine wpAnyH_take (i := 2) (v := ?vv2_5) rfl (by kernel_rfl) (by kernel_rfl) (by kernel_rfl) (fun _ _ _ h => h) (Or.inl ⟨by rfl, ?hy2_5⟩) (by assumption) ?rest2_5
          case hy2_5 => (intro w' hSw; (try dsimp only at hSw); go_simp; try with_reducible rfl)
          try simp only [List.getElem_toArray, List.getElem_cons_zero, List.getElem_cons_succ, Act.put, List.setIfInBounds_toArray, List.set_cons_zero, List.set_cons_succ]
          refine wpAnyH_take (i := 3) (v := dp p) rfl (by kernel_rfl) (by kernel_rfl) (by kernel_rfl) (fun _ _ _ h => h) (Or.inl ⟨by rfl, fun w' hSw => exec_load1 w' rfl rfl (RG.cells hSw.1).1 Tryz.underlying51 rfl⟩) (by assumption) ?_
          try simp only [List.getElem_toArray, List.getElem_cons_zero, List.getElem_cons_succ, Act.put, List.setIfInBounds_toArray, List.set_cons_zero, List.set_cons_succ]
          refine wpAnyH_take (i := 4) (v := ?vv4_5) rfl (by kernel_rfl) (by kernel_rfl) (by kernel_rfl) (fun _ _ _ h => h) (Or.inl ⟨by rfl, ?hy4_5⟩) (by assumption) ?rest4_5
          case hy4_5 => (intro w' hSw; (try dsimp only at hSw); go_simp; try with_reducible rfl)
          try simp only [List.getElem_toArray, List.getElem_cons_zero, List.getElem_cons_succ, Act.put, List.setIfInBounds_toArray, List.set_cons_zero, List.set_cons_succ]
          refine wpAnyH_take (i := 5) (v := ?vv5_5) rfl (by kernel_rfl) (by kernel_rfl) (by kernel_rfl) (fun _ _ _ h => h) (Or.inl ⟨by rfl, ?hy5_5⟩) (by assumption) ?rest5_5
          case hy5_5 => (intro w' hSw; (try dsimp only at hSw); go_simp; try with_reducible rfl)
          try simp only [List.getElem_toArray, List.getElem_cons_zero, List.getElem_cons_succ, Act.put, List.setIfInBounds_toArray, List.set_cons_zero, List.set_cons_succ]
          refine wpAnyH_take (i := 6) (v := ?vv6_5) rfl (by kernel_rfl) (by kernel_rfl) (by kernel_rfl) (fun _ _ _ h => h) (Or.inl ⟨by rfl, ?hy6_5⟩) (by assumption) ?rest6_5
          case hy6_5 => (intro w' hSw; (try dsimp only at hSw); go_simp; try with_reducible rfl)
          try simp only [List.getElem_toArray, List.getElem_cons_zero, List.getElem_cons_succ, Act.put, List.setIfInBounds_toArray, List.set_cons_zero, List.set_cons_succ]
          refine wpAnyH_take (i := 7) (v := .int .i64 (f0 : Int)) rfl (by kernel_rfl) (by kernel_rfl) (by kernel_rfl) (fun _ _ _ h => h) (Or.inl ⟨by rfl, fun w' hSw => exec_load1 w' rfl rfl (by rw [HF0.out]; exact (RG.cells hSw.1).2.1) Tryz.underlying3 rfl⟩) (by assumption) ?_
          try simp only [List.getElem_toArray, List.getElem_cons_zero, List.getElem_cons_succ, Act.put, List.setIfInBounds_toArray, List.set_cons_zero, List.set_cons_succ]
          refine wpAnyH_take (i := 8) (v := ?vv8_5) rfl (by kernel_rfl) (by kernel_rfl) (by kernel_rfl) (fun _ _ _ h => h) (Or.inl ⟨by rfl, ?hy8_5⟩) (by assumption) ?rest8_5
          case hy8_5 => (intro w' hSw; (try dsimp only at hSw); go_simp; try with_reducible rfl)
          try simp only [List.getElem_toArray, List.getElem_cons_zero, List.getElem_cons_succ, Act.put, List.setIfInBounds_toArray, List.set_cons_zero, List.set_cons_succ]
          refine wpAnyH_take (i := 9) (v := ?vv9_5) rfl (by kernel_rfl) (by kernel_rfl) (by kernel_rfl) (fun _ _ _ h => h) (Or.inl ⟨by rfl, ?hy9_5⟩) (by assumption) ?rest9_5
          case hy9_5 => (intro w' hSw; (try dsimp only at hSw); go_simp; try with_reducible rfl)
          try simp only [List.getElem_toArray, List.getElem_cons_zero, List.getElem_cons_succ, Act.put, List.setIfInBounds_toArray, List.set_cons_zero, List.set_cons_succ]
          refine wpAnyH_take (i := 10) (v := ?vv10_5) rfl (by kernel_rfl) (by kernel_rfl) (by kernel_rfl) (fun _ _ _ h => h) (Or.inl ⟨by rfl, ?hy10_5⟩) (by assumption) ?rest10_5
          case hy10_5 => (intro w' hSw; (try dsimp only at hSw); go_simp; try with_reducible rfl)
          try simp only [List.getElem_toArray, List.getElem_cons_zero, List.getElem_cons_succ, Act.put, List.setIfInBounds_toArray, List.set_cons_zero, List.set_cons_succ]
          refine wpAnyH_take (i := 11) (v := .int .i64 (l.used : Int)) rfl (by kernel_rfl) (by kernel_rfl) (by kernel_rfl) (fun _ _ _ h => h) (Or.inl ⟨by rfl, fun w' hSw => exec_load1 w' rfl rfl (RG.cells hSw.1).2.2.2.2.1 Tryz.underlying3 rfl⟩) (by assumption) ?_
          try simp only [List.getElem_toArray, List.getElem_cons_zero, List.getElem_cons_succ, Act.put, List.setIfInBounds_toArray, List.set_cons_zero, List.set_cons_succ]
          refine wpAnyH_take (i := 12) (v := ?vv12_5) rfl (by kernel_rfl) (by kernel_rfl) (by kernel_rfl) (fun _ _ _ h => h) (Or.inl ⟨by rfl, ?hy12_5⟩) (by assumption) ?rest12_5
          case hy12_5 => (intro w' hSw; (try dsimp only at hSw); go_simp; try with_reducible rfl)
          try simp only [List.getElem_toArray, List.getElem_cons_zero, List.getElem_cons_succ, Act.put, List.setIfInBounds_toArray, List.set_cons_zero, List.set_cons_succ]
          refine wpAnyH_take (i := 13) (v := ?vv13_5) rfl (by kernel_rfl) (by kernel_rfl) (by kernel_rfl) (fun _ _ _ h => h) (Or.inl ⟨by rfl, ?hy13_5⟩) (by assumption) ?rest13_5
          case hy13_5 => (intro w' hSw; (try dsimp only at hSw); go_simp; try with_reducible rfl)
          try simp only [List.getElem_toArray, List.getElem_cons_zero, List.getElem_cons_succ, Act.put, List.setIfInBounds_toArray, List.set_cons_zero, List.set_cons_succ]
          refine wpAnyH_take (i := 14) (v := ?vv14_5) rfl (by kernel_rfl) (by kernel_rfl) (by kernel_rfl) (fun _ _ _ h => h) (Or.inl ⟨by rfl, ?hy14_5⟩) (by assumption) ?rest14_5
          case hy14_5 => (intro w' hSw; (try dsimp only at hSw); go_simp; try with_reducible rfl)
          try simp only [List.getElem_toArray, List.getElem_cons_zero, List.getElem_cons_succ, Act.put, List.setIfInBounds_toArray, List.set_cons_zero, List.set_cons_succ]
          refine wpAnyH_take (i := 15) (v := ?vv15_5) rfl (by kernel_rfl) (by kernel_rfl) (by kernel_rfl) (fun _ _ _ h => h) (Or.inl ⟨by rfl, ?hy15_5⟩) (by assumption) ?rest15_5
          case hy15_5 => (intro w' hSw; (try dsimp only at hSw); go_simp; try with_reducible rfl)
          try simp only [List.getElem_toArray, List.getElem_cons_zero, List.getElem_cons_succ, Act.put, List.setIfInBounds_toArray, List.set_cons_zero, List.set_cons_succ]
          refine wpAnyH_take (i := 16) (v := ?vv16_5) rfl (by kernel_rfl) (by kernel_rfl) (by kernel_rfl) (fun _ _ _ h => h) (Or.inl ⟨by rfl, ?hy16_5⟩) (by assumption) ?rest16_5
          case hy16_5 => (intro w' hSw; (try dsimp only at hSw); go_simp; try with_reducible rfl)
          try simp only [List.getElem_toArray, List.getElem_cons_zero, List.getElem_cons_succ, Act.put, List.setIfInBounds_toArray, List.set_cons_zero, List.set_cons_succ]
          refine wpAnyH_take (i := 17) (v := ?vv17_5) rfl (by kernel_rfl) (by kernel_rfl) (by kernel_rfl) (fun _ _ _ h => h) (Or.inl ⟨by rfl, ?hy17_5⟩) (by assumption) ?rest17_5
          case hy17_5 => (intro w' hSw; (try dsimp only at hSw); go_simp; try with_reducible rfl)
          try simp only [List.getElem_toArray, List.getElem_cons_zero, List.getElem_cons_succ, Act.put, List.setIfInBounds_toArray, List.set_cons_zero, List.set_cons_succ]
          refine wpAnyH_take (i := 18) (v := sv x) rfl (by kernel_rfl) (by kernel_rfl) (by kernel_rfl) (fun _ _ _ h => h) (Or.inl ⟨by rfl, fun w' hSw => exec_load1 w' rfl rfl hSw.2.1 Tryz.underlying9 rfl⟩) (by assumption) ?_
          try simp only [List.getElem_toArray, List.getElem_cons_zero, List.getElem_cons_succ, Act.put, List.setIfInBounds_toArray, List.set_cons_zero, List.set_cons_succ]
          refine wpAnyH_ready (rs := [19]) (by kernel_rfl) (by simp) ?_
          refine AllReadyH.cons rfl (fun K hK => ?_) AllReadyH.nil
          go_simp
          go_at_call 95
          refine (WA.out wr.drew (HWI.out.pd.of_blocks (fun b hb => rfl))).mono ?_
          rintro e1 w9 ⟨rfl, hP9, hk9⟩
          refine hK.out _ _ ⟨hHeld.1.kp hk9 HQ3.out, (World.cell?_of_block (hk9.block g8 HLW8.out HNL.out)).trans hHeld.2.1, hHeld.2.2.trans hk9 (fun _ h _ => h)⟩ (fun hHeld => ?_)
          clear hK K
          try simp only [List.getElem_toArray, List.getElem_cons_zero, List.getElem_cons_succ, Act.put, List.setIfInBounds_toArray, List.set_cons_zero, List.set_cons_succ]
          refine wpAnyH_take (i := 20) (v := ?vv20_5) rfl (by kernel_rfl) (by kernel_rfl) (by kernel_rfl) (fun _ _ _ h => h) (Or.inl ⟨by rfl, ?hy20_5⟩) (by assumption) ?rest20_5
          case hy20_5 => (intro w' hSw; (try dsimp only at hSw); go_simp; try with_reducible rfl)
          try simp only [List.getElem_toArray, List.getElem_cons_zero, List.getElem_cons_succ, Act.put, List.setIfInBounds_toArray, List.set_cons_zero, List.set_cons_succ]
          refine wpAnyH_done (by kernel_rfl) ?_ _
          have HP9 := Lib.hid hP9
          have HK9 := Lib.hid hHeld.2.2
          have HQ9 := Lib.hid hHeld.1
          have e7 : (T.put (f0 + l.used + k) x).did.ops = T.ops + 1 := rfl
          have HTO := Lib.hid (show (T.put (f0 + l.used + k) x).did.ops ≤ S.ops + (k + 1) by omega)
          clear hP9 hHeld hk9 e7
          go_wp2_with fail
          go_roundw
          case rel =>
            refine ⟨k + 1, (T.put (f0 + l.used + k) x).did, by omega, by go_num, ⟨HQ9.out, by simpa using HP9.out, HWI.out.kp.trans (HK9.out.mono (S' := [q, p, g2, g3]) (fun y hy => List.mem_cons_of_mem q hy)) (fun y hy _ => hy), HWI.out.tx.kp HK9.out (fun b o e => ?_)⟩, by rw [HEQ.out, HN1.out]; rfl, HTO.out, HTN.out⟩
            simp only [Option.some.injEq, Addr.mk.injEq, and_true] at e
            rw [← e.1]; exact HNL.out
          case measure => simp [intOf]; omega
      · obtain rfl : k = m := by omega
        have hq9 := hwi.lg
        have c3 := hq9.cells.2.2.2.2.1
        have f3 := hq9.free 4
        have hres := HFIN.out T true (by rw [HLW.out, HEQ.out, List.drop_of_length_le (by rw [HRL.out]; exact Nat.le_refl _)]; rfl)
        rw [← HM.out] at hres
        have HRES := Lib.hid hres
        clear hres hwi hq9
        go_wp2_with fail
        go_ret
        refine ⟨by rw [HRES.out.1]; rfl, by rw [HRES.out.2.2]; exact HWI.out.lg.setUsed _, by rw [HRES.out.2.1]; exact RD.setQ HWI.out.pd HQP.out _ _, HWI.out.kp.setCell (by simp) _⟩
end Go.Proofs.YthfnncahmccgkaaGreatDoor

namespace Go.Proofs.YthfnncahmccgkaaGreatDoor
open Go Go.RowKit Go.Maps
set_option maxRecDepth 100000
set_option linter.unusedSimpArgs false
set_option linter.unusedVariables false

/-- What the reference's Begin tells. -/
def BgR (w : World) (p g1 g2 g3 : Nat) (S : DS) (half age : Int) (s : List UInt8) (e : Ending) (w' : World) : Prop :=
  ∃ v, e = .returned (.tuple #[v, .int .i64 (begE S half age s)]) ∧ RD w' p g1 g2 g3 (begS S half age s) ∧ Kp [p, g2, g3] w w' ∧
    ((begE S half age s = 0 ∧ ∃ q, v = dp q ∧ w.heap.size ≤ q ∧ RG w' q p S.was.length (begL S half age s)) ∨ (begE S half age s ≠ 0 ∧ v = .pointer none))
theorem BgR.bad {w : World} {p g1 g2 g3 : Nat} {S : DS} {half age : Int} {s : List UInt8} (hP : RD w p g1 g2 g3 S) (h : mayH half age = false) : BgR w p g1 g2 g3 S half age s (.returned (.tuple #[.pointer none, .int .i64 1])) w := by
  have h' : ¬ (mayH half age = true) := by rw [h]; simp
  have e1 : begE S half age s = 1 := by rw [begE, if_neg h']
  have e2 : begS S half age s = S := by rw [begS, if_neg h']
  exact ⟨.pointer none, by rw [e1], by rw [e2]; exact hP, Kp.refl _ _, .inr ⟨by rw [e1]; decide, rfl⟩⟩
set_option maxHeartbeats 4000000 in
theorem beginR_bad {w : World} {p g1 g2 g3 : Nat} {S : DS} (hP : RD w p g1 g2 g3 S) (half age : Int) (s : List UInt8) (h : mayH half age = false) : Calls Tryz.prog 50 #[dp p, .int .i64 half, .int .i64 age, sv s] w (BgR w p g1 g2 g3 S half age s) := by
  have HE := Lib.hid (BgR.bad (s := s) hP h)
  clear hP
  simp only [mayH, decide_eq_false_iff_not] at h
  by_cases h1 : half < 0
  · clear h
    go_enter Tryz.func50, Tryz.ntmps50
    go_wp2_with fail
    go_ret2
    exact HE.out
  · by_cases h2 : 1 < half
    · clear h
      go_enter Tryz.func50, Tryz.ntmps50
      go_wp2_with fail
      go_ret2
      exact HE.out
    · by_cases h3 : age < 1
      · clear h
        go_enter Tryz.func50, Tryz.ntmps50
        go_wp2_with fail
        go_ret2
        exact HE.out
      · have h4 : 4294967295 < age := by omega
        clear h
        go_enter Tryz.func50, Tryz.ntmps50
        go_wp2_with fail
        go_ret2
        exact HE.out
set_option maxHeartbeats 4000000 in
theorem beginR_log {w : World} {p g1 g2 g3 : Nat} {S : DS} (hP : RD w p g1 g2 g3 S) (hops : S.ops < 4611686018427380000) (half age : Int) (s : List UInt8) (hs : s.length ≤ 140737488351232) :
    Calls Tryz.prog 50 #[dp p, .int .i64 half, .int .i64 age, sv s] w (BgR w p g1 g2 g3 S half age s) := by
  cases h : mayH half age with
  | false => exact beginR_bad hP half age s h
  | true =>
    obtain ⟨c1, c2, c3, left, fails, hq, _, _, _, _⟩ := hP.box
    have k1 : w.cell? ⟨p, 1, none⟩ = some (.slice (some ⟨g2, 0, none⟩) S.was.length c2) := cellAt hq 1
    have hB0 := below_alloc w (.cells (rgCells p S.was.length (newL half age)) 103)
    have hlg : RG (w.alloc (.cells (rgCells p S.was.length (newL half age)) 103)) w.heap.size p S.was.length (newL half age) := heap_alloc_new w _
    have hn2 := hP.ok.n2
    have WR := writeR_log hlg (hP.below hB0) rfl (newL_ok h _) hops s hs
    have hE := Lib.hid (show begE S half age s = lwrE S (newL half age) s by rw [begE, if_pos h])
    have hS := Lib.hid (show begS S half age s = lwrS S (newL half age) s by rw [begS, if_pos h])
    have hL := Lib.hid (show begL S half age s = lwrL S (newL half age) s from rfl)
    simp only [mayH, decide_eq_true_eq] at h
    have HA := fun W => @rhalf_any W (S.was.length : Int) half (by omega)
    rw [show halfF (S.was.length : Int) half = (((lfst S.was.length half.toNat : Nat) : Int), ((S.was.length / 2 : Nat) : Int)) by rw [← halfF_nat (by omega), show ((half.toNat : Nat) : Int) = half by omega]] at HA
    have hcl : rgCells p S.was.length (newL half age) = #[dp p, .int .i64 ((lfst S.was.length half.toNat : Nat) : Int), .int .i64 ((S.was.length / 2 : Nat) : Int), .int .i64 age, .int .i64 0, .bool false] := by
      simp only [rgCells, newL]
      rw [show ((age.toNat : Nat) : Int) = age by omega]
      rfl
    rw [hcl] at WR hB0
    generalize lfst S.was.length half.toNat = f0 at HA WR hB0
    generalize hm0 : S.was.length / 2 = m0 at HA WR hB0
    have HN := Lib.hid (rfl : S.was.length = S.was.length)
    have HB0 := Lib.hid hB0
    have h1 : ¬ age < 1 := by omega
    have h2 : ¬ 4294967295 < age := by omega
    have h3 : ¬ half < 0 := by omega
    have h4 : ¬ 1 < half := by omega
    have HKF := Lib.hid (fun w' (hk : Kp [w.heap.size, p, g2, g3] (w.alloc (.cells #[dp p, .int .i64 (f0 : Int), .int .i64 (m0 : Int), .int .i64 age, .int .i64 0, .bool false] 103)) w') => show Kp [p, g2, g3] w w' from (Kp.of_below hB0 [p, g2, g3]).trans hk (fun k hk' hlt => by
      simp only [List.mem_cons, List.not_mem_nil, or_false] at hk' ⊢
      rcases hk' with rfl | h3 | h3 | h3
      · omega
      · exact .inl h3
      · exact .inr (.inl h3)
      · exact .inr (.inr h3)))
    clear hB0 hlg hP hcl h hq hm0 hn2
    generalize lwrE S (newL half age) s = E at WR hE
    generalize lwrS S (newL half age) s = S' at WR hS
    generalize lwrL S (newL half age) s = L' at WR hL
    generalize hnn : S.was.length = n at k1 HA WR
    have HNN := Lib.hid hnn
    clear hnn HN
    by_cases hE0 : E = 0
    · have he0 : ((E : Int) != 0) = false := by rw [hE0]; rfl
      have HE0 := Lib.hid hE0
      clear hE0
      go_enter Tryz.func50, Tryz.ntmps50
      go_wp2_with (first
        | (go_at_call 26; refine (HA _).mono ?_; rintro e w1 ⟨rfl, rfl⟩)
        | (go_at_call 71; refine WR.mono ?_; rintro e w2 ⟨rfl, hlg2, hP2, hk2⟩))
      go_ret2
      exact ⟨_, by rw [hE.out, HE0.out]; rfl, by rw [hS.out]; exact hP2, HKF.out _ hk2, .inl ⟨by rw [hE.out]; exact HE0.out, _, rfl, Nat.le_refl _, by rw [hL.out, HNN.out]; exact hlg2⟩⟩
    · have he0 : ((E : Int) != 0) = true := by rw [bne_iff_ne]; exact hE0
      have HE0 := Lib.hid hE0
      clear hE0
      go_enter Tryz.func50, Tryz.ntmps50
      go_wp2_with (first
        | (go_at_call 26; refine (HA _).mono ?_; rintro e w1 ⟨rfl, rfl⟩)
        | (go_at_call 71; refine WR.mono ?_; rintro e w2 ⟨rfl, hlg2, hP2, hk2⟩))
      go_ret2
      exact ⟨_, by rw [hE.out]; rfl, by rw [hS.out]; exact hP2, HKF.out _ hk2, .inr ⟨by rw [hE.out]; exact HE0.out, rfl⟩⟩

set_option maxHeartbeats 2000000 in
theorem addR_log {w : World} {q p g1 g2 g3 n : Nat} {S : DS} {l : LS} (hq : RG w q p n l) (hP : RD w p g1 g2 g3 S) (hn : S.was.length = n) (ho : l.Ok n) (hops : S.ops < 4611686018427380000) (s : List UInt8) (hs : s.length ≤ 140737488351232) :
    Calls Tryz.prog 51 #[dp q, sv s] w fun e w' => e = .returned (.int .i64 (addE S l s)) ∧ RG w' q p n (addL S l s) ∧ RD w' p g1 g2 g3 (addS S l s) ∧ Kp [q, p, g2, g3] w w' := by
  have WR := writeR_log hq hP hn ho hops s hs
  have c4 := hq.cells.2.2.2.2.2
  cases hoff : l.off with
  | true =>
    rw [hoff] at c4
    have HR := Lib.hid (show addE S l s = 7 ∧ addL S l s = l ∧ addS S l s = S from ⟨by rw [addE, if_pos hoff], by rw [addL, if_pos hoff], by rw [addS, if_pos hoff]⟩)
    have HQ := Lib.hid hq
    have HP := Lib.hid hP
    clear hq hP WR ho hoff
    go_enter Tryz.func51, Tryz.ntmps51
    go_wp2_with fail
    go_ret
    exact ⟨by rw [HR.out.1]; rfl, by rw [HR.out.2.1]; exact HQ.out, by rw [HR.out.2.2]; exact HP.out, Kp.refl _ _⟩
  | false =>
    rw [hoff] at c4
    have hn : ¬ (l.off = true) := by rw [hoff]; simp
    have HR := Lib.hid (show addE S l s = lwrE S l s ∧ addL S l s = lwrL S l s ∧ addS S l s = lwrS S l s from ⟨by rw [addE, if_neg hn], by rw [addL, if_neg hn], by rw [addS, if_neg hn]⟩)
    clear hq hP ho hoff hn
    go_enter Tryz.func51, Tryz.ntmps51
    go_wp2_with (go_at_call 71; refine WR.mono ?_; rintro e w2 ⟨rfl, hlg2, hP2, hk2⟩)
    go_ret
    exact ⟨by rw [HR.out.1]; rfl, by rw [HR.out.2.1]; exact hlg2, by rw [HR.out.2.2]; exact hP2, hk2⟩

set_option maxHeartbeats 4000000 in
theorem topR_log {w : World} {p g1 g2 g3 : Nat} {S : DS} (h : RD w p g1 g2 g3 S) : Calls Tryz.prog 48 #[dp p] w fun e w' => e = .returned (.tuple #[.int .i64 (topV S : Nat), .int .i64 (topE S)]) ∧ Below w.heap.size w w' := by
  obtain ⟨c1, c2, c3, left, fails, hq, h1, h2, h3, hr⟩ := h.box
  have k6 : w.cell? ⟨p, 6, none⟩ = some (.bool S.off) := cellAt hq 6
  cases hoff : S.off with
  | true =>
    rw [hoff] at k6
    have HE := Lib.hid (show topE S = 42 by simp [topE, hoff])
    have HV := Lib.hid (show topV S = 0 by simp [topV, hoff])
    clear h hq h1 h2 h3 hr hoff
    go_enter Tryz.func48, Tryz.ntmps48
    go_wp2_with fail
    go_ret2
    exact ⟨by rw [HE.out, HV.out]; rfl, Below.refl _ _⟩
  | false =>
    rw [hoff] at k6
    have HE := Lib.hid (show topE S = 0 by simp [topE, hoff])
    have HV := Lib.hid (show topV S = topL S.now by simp [topV, hoff])
    have hnl := h.ok.hn
    have hn2 := h.ok.n2
    have HQ := Lib.hid hq
    have H2 := Lib.hid h2
    have hl2 := h.ok.l2
    obtain ⟨L, hL⟩ : ∃ L, L = S.now := ⟨_, rfl⟩
    rw [← hL] at HV H2 hnl hl2
    have AG := Lib.hid (fun W k (hk : k < L.length) => @rage_any W (L.getD k []) (by
      rw [List.getD_eq_getElem?_getD, List.getElem?_eq_getElem hk]
      have := hl2 _ (List.getElem_mem hk)
      simp only [Option.getD_some]
      omega))
    have HNX := Lib.hid (fun k (hk : k < L.length) => @take_max L k hk)
    have HLT := Lib.hid (fun k => show topL (L.take k) < 4294967296 by rw [topL_eq]; exact topM_lt _)
    have HLO := Lib.hid (fun x => oldL_lt x)
    rw [← hnl] at hn2 HQ
    clear h hq h1 h2 h3 hr hoff hL hl2 hnl
    go_enter Tryz.func48, Tryz.ntmps48
    go_wp2_with fail
    go_loopw [4, 5] (fun t i wr => ∃ k : Nat, k ≤ L.length ∧ i = .int .i64 k ∧ t = .int .i64 (topL (L.take k) : Nat) ∧ Below w.heap.size w wr) (fun _ i _ => L.length - (intOf i).toNat)
    case atStart => exact ⟨0, Nat.zero_le _, rfl, rfl, Below.refl _ _⟩
    case round =>
      obtain ⟨k, hk, rfl, rfl, hB2⟩ := hrel
      have HB2 := Lib.hid hB2
      have k1 : wr.cell? ⟨p, 1, none⟩ = some (.slice (some ⟨g2, 0, none⟩) L.length c2) := cellAt ((hB2.block p (lt_of_blk HQ.out)).trans HQ.out) 1
      have h2' := H2.out.of_block (hB2.block g2 H2.out.lt)
      clear hB2
      by_cases hlt : k < L.length
      · have hlt' : (k : Int) < (L.length : Int) := by omega
        have hc := (h2'.cell (j := k) (by rw [txsD_length]; exact hlt)).1
        rw [txsD_getD hlt] at hc
        have AK := fun W => AG.out W k hlt
        have HN := Lib.hid (HNX.out k hlt)
        have l1 := HLT.out k
        have l2 := HLO.out (L.getD k [])
        obtain ⟨X, hX⟩ : ∃ X, X = L.getD k [] := ⟨_, rfl⟩
        rw [← hX] at hc AK HN l2
        obtain ⟨t, ht⟩ : ∃ t, t = topL (L.take k) := ⟨_, rfl⟩
        rw [← ht] at HN l1 ⊢
        obtain ⟨u, hu⟩ : ∃ u, u = oldL X := ⟨_, rfl⟩
        rw [← hu] at HN l2 AK
        clear hX ht hu h2'
        go_wp2_with (go_at_call 70; refine (AK _).mono ?_; rintro e w5 ⟨rfl, hb5⟩)
        go_roundw
        case rel => exact ⟨k + 1, by omega, by go_num, by rw [HN.out]; congr 1; omega, HB2.out.trans (hb5.mono HB2.out.size)⟩
        case measure => simp [intOf]; omega
      · obtain rfl : k = L.length := by omega
        have HF := Lib.hid (show topL (L.take L.length) = topL L by rw [List.take_length])
        generalize topL (L.take L.length) = t at HF
        clear h2'
        go_wp2_with fail
        go_ret2
        exact ⟨by rw [HE.out, HV.out, ← HF.out]; rfl, HB2.out⟩
end Go.Proofs.YthfnncahmccgkaaGreatDoor
