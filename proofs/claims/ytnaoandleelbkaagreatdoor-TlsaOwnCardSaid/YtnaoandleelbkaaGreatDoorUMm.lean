/-
  The contracts of matcher's closures, and of Matches.
  The contracts of matcher and Matches.
-/
import Derived.Test.YtnaoandleelbkaaGreatDoorUVouch
namespace Go.Proofs.YtnaoandleelbkaaGreatDoor
set_option linter.unusedSimpArgs false
set_option linter.unusedVariables false
open Go Go.RowKit
set_option maxRecDepth 100000

/-- A closure that has a record: whether a certificate's bytes are its. -/
theorem mat11_any {w : World} (r : Rc) (x : List UInt8) (k : Nat) (hx : x.length ≤ 1000000) (hk : RB w k r) (hw : GA w) :
    Calls Tryz.prog 159 #[sv x, .pointer (some ⟨k, 0, none⟩)] w fun e w' => e = .returned (.bool (ofB r x)) ∧ Below w.heap.size w w' := by
  have HO := Lib.hid (@of_any w r x (by omega) hw)
  have c0 := hk.c0
  have c1 := hk.c1
  have c2 := hk.c2
  have c3 := hk.c3
  obtain ⟨b, hb⟩ : ∃ b, b = ofB r x := ⟨_, rfl⟩
  rw [← hb] at HO ⊢
  clear hk hw hb
  go_enter Tryz.func159, Tryz.ntmps159
  go_wp2_with (go_at_call 58; refine HO.out.mono ?_; rintro e w1 ⟨rfl, hb1⟩)
  go_ret
  exact ⟨rfl, hb1⟩
/-- The library's search over texts, by a function that keeps what lies. -/
theorem containsS_any {N : Nat} {caps : Array Value} (he : ∀ args w, (callFunc N args).run Tryz.prog w = .ok (.enter N args) w) {p : List UInt8 → Bool} {w : World} (Inv : World → Prop)
    (hstep : ∀ x W, x.length ≤ 1000000 → Inv W → Below w.heap.size w W → Calls Tryz.prog N (#[sv x] ++ caps) W fun e w' => e = .returned (.bool (p x)) ∧ Inv w' ∧ Below w.heap.size w w')
    (xs : List (List UInt8)) (A : Option Addr) (c : Nat) (hx : SX w (.slice A xs.length c) xs) (hl : ∀ n ∈ xs, n.length ≤ 1000000) (hn : xs.length ≤ 1000000) (h0 : Inv w) :
    Calls Tryz.prog 88 #[.slice A xs.length c, .func (.func N) #[] caps] w fun e w' => e = .returned (.bool (xs.any p)) ∧ Below w.heap.size w w' := by
  have HIX := Lib.hid (indexS_any he Inv hstep xs A c hx hl hn h0)
  have HG := Lib.hid (idxI_ge p xs)
  obtain ⟨z, hz⟩ : ∃ z, z = idxI p xs := ⟨_, rfl⟩
  obtain ⟨b, hb⟩ : ∃ b, b = xs.any p := ⟨_, rfl⟩
  rw [← hz, ← hb] at HG
  rw [← hz] at HIX
  rw [← hb]
  clear hstep hx hz hb h0 he hl
  go_enter Tryz.func88, Tryz.ntmps88
  go_wp2_with (go_at_call 141; refine HIX.out.mono ?_; rintro e w1 ⟨rfl, _, hb1⟩)
  go_ret
  rw [← HG.out]
  exact ⟨rfl, hb1⟩
/-- What a matcher's closure stands on: the first one, and those that vouch. -/
structure MT (w W : World) (k7 k8 : Nat) (A B : Option Addr) (cp c : Nat) (one v : List (List UInt8)) : Prop where
  b7 : Boxed W k7 25 (.slice A one.length cp)
  b8 : Boxed W k8 25 (.slice B v.length c)
  s7 : SX W (.slice A one.length cp) one
  s8 : SX W (.slice B v.length c) v
  bw : Below w.heap.size w W
theorem boxed_step {W W' : World} {k : Nat} {t : TypeId} {v : Value} (h : Boxed W k t v) (hb : Below W.heap.size W W') : Boxed W' k t v := h.kept (grownBelow hb none) (by simp)
theorem MT.step {w W W' : World} {k7 k8 : Nat} {A B : Option Addr} {cp c : Nat} {one v : List (List UInt8)} (h : MT w W k7 k8 A B cp c one v) (hb : Below W.heap.size W W') : MT w W' k7 k8 A B cp c one v :=
  ⟨boxed_step h.b7 hb, boxed_step h.b8 hb, h.s7.step hb, h.s8.step hb, h.bw.trans (hb.mono h.bw.size)⟩
set_option maxHeartbeats 4000000 in
theorem mat1_any {w w0 : World} (r : Rc) {k7 k8 : Nat} {A B : Option Addr} {cp c : Nat} {one v : List (List UInt8)} (hm : MT w0 w k7 k8 A B cp c one v) (h1 : one.length ≤ 1000000) (h2 : v.length ≤ 1000000) (hl1 : ∀ x ∈ one, x.length ≤ 1000000) (hl2 : ∀ x ∈ v, x.length ≤ 1000000) (hw : GA w) :
    Calls Tryz.prog 158 #[.agg #[.int .u8 (r.us : Int), .int .u8 (r.se : Int), .int .u8 (r.ma : Int), sv r.da], .pointer (some ⟨k8, 0, none⟩), .pointer (some ⟨k7, 0, none⟩)] w fun e w' => e = .returned (.bool ((if r.us = 3 then one else v).any (ofB r))) ∧ Below w.heap.size w w' := by
  have hb0 := below_alloc w (cellsR r)
  have hrb := RB.new w r
  obtain ⟨W, hW⟩ : ∃ W, W = w.alloc (cellsR r) := ⟨_, rfl⟩
  rw [← hW] at hb0 hrb
  have hcs := fun (xs : List (List UInt8)) (A' : Option Addr) (c' : Nat) (hx : SX W (.slice A' xs.length c') xs) hl hn =>
    containsS_any (N := 159) (caps := #[.pointer (some ⟨w.heap.size, 0, none⟩)]) (enters_of Tryz.func159 (by kernel_rfl) rfl) (p := ofB r) (w := W) (fun W' => Below W.heap.size W W')
      (fun x W' hxl hi hb => (mat11_any r x w.heap.size hxl (hrb.step hi) ((hw.below hb0).below hi)).mono fun e w' ⟨q1, q2⟩ => ⟨q1, hi.trans (q2.mono hi.size), hb.trans (q2.mono hb.size)⟩) xs A' c' hx hl hn (Below.refl _ _)
  have C7 := Lib.hid (hcs one A cp (hm.s7.step hb0) hl1 h1)
  have C8 := Lib.hid (hcs v B c (hm.s8.step hb0) hl2 h2)
  have c7 := hm.b7.cell
  have c8 := hm.b8.cell
  have l7 := hm.b7.lt
  have l8 := hm.b8.lt
  have HB := Lib.hid hb0
  have HW := Lib.hid hW
  obtain ⟨n7, hn7⟩ : ∃ n, n = one.length := ⟨_, rfl⟩
  obtain ⟨n8, hn8⟩ : ∃ n, n = v.length := ⟨_, rfl⟩
  rw [← hn7] at C7 c7
  rw [← hn8] at C8 c8
  obtain ⟨u, s, m, d⟩ := r
  simp only at C7 C8 ⊢
  by_cases hu : u = 3
  · obtain ⟨q, hq⟩ : ∃ q, q = one.any (ofB ⟨u, s, m, d⟩) := ⟨_, rfl⟩
    rw [if_pos hu, ← hq]
    rw [← hq] at C7
    subst hu
    rw [show ((3 : Nat) : Int) = 3 from rfl]
    clear hcs hrb hb0 hw hm hl1 hl2 C8 hn7 hn8 hq hW
    go_enter Tryz.func158, Tryz.ntmps158
    go_wp2_with (go_at_call 88; refine Calls.mono (W_is HW.out C7.out) ?_; rintro e w1 ⟨rfl, hb1⟩)
    go_ret
    exact ⟨rfl, HB.out.trans (hb1.mono HB.out.size)⟩
  · obtain ⟨q, hq⟩ : ∃ q, q = v.any (ofB ⟨u, s, m, d⟩) := ⟨_, rfl⟩
    rw [if_neg hu, ← hq]
    rw [← hq] at C8
    have hub : ((u : Int) == 3) = false := by rw [beq_eq_false_iff_ne]; omega
    clear hcs hrb hb0 hw hm hl1 hl2 C7 hn7 hn8 hq hW hu
    go_enter Tryz.func158, Tryz.ntmps158
    go_wp2_with (go_at_call 88; refine Calls.mono (W_is HW.out C8.out) ?_; rintro e w1 ⟨rfl, hb1⟩)
    go_ret
    exact ⟨rfl, HB.out.trans (hb1.mono HB.out.size)⟩
end Go.Proofs.YtnaoandleelbkaaGreatDoor

namespace Go.Proofs.YtnaoandleelbkaaGreatDoor
set_option linter.unusedSimpArgs false
set_option linter.unusedVariables false
open Go Go.RowKit
set_option maxRecDepth 100000

theorem vouch_short {chain : List (List UInt8)} {host : List UInt8} {now : Int} : (vouchL chain host now).length ≤ 4 ∧ ∀ x ∈ vouchL chain host now, x ∈ chain := by
  unfold vouchL
  split
  · exact ⟨by simp, fun x hx => by cases hx⟩
  · refine ⟨?_, fun x hx => List.mem_of_mem_take (List.mem_of_mem_drop hx)⟩
    have h1 := good_le (chainT chain) now
    have h2 := chainT_len chain
    rw [List.length_drop, List.length_take]; omega
set_option maxHeartbeats 4000000 in
theorem matcher_any {w : World} (chain : List (List UInt8)) (A : Option Addr) (cp : Nat) (host : List UInt8) (now : Int) (hx : SX w (.slice A chain.length cp) chain) (hl : ∀ s ∈ chain, s.length ≤ 9223372036854775807) (hcp : chain.length ≤ cp) (hlen : chain.length ≤ 9223372036854775807) (hh : host.length ≤ 1000000) (hw : GA w) :
    Calls Tryz.prog 103 #[.slice A chain.length cp, sv host, .int .i64 now] w fun e w' => ∃ k7 k8 B c, e = .returned (.func (.func 158) #[] #[.pointer (some ⟨k8, 0, none⟩), .pointer (some ⟨k7, 0, none⟩)]) ∧ MT w w' k7 k8 A B cp c (chain.take 1) (vouchL chain host now) := by
  obtain ⟨n1, hn1⟩ : ∃ n, n = (chain.take 1).length := ⟨_, rfl⟩
  have hn1' : n1 = min 1 chain.length := by rw [hn1, List.length_take]
  have hmin : min (chain.length : Int) 1 = (n1 : Int) := by omega
  have hx1 := hx.take 1 cp
  have hb0 := below_alloc w (.cells #[.slice A n1 cp] 25)
  have hk0 : Boxed (w.alloc (.cells #[.slice A n1 cp] 25)) w.heap.size 25 (.slice A n1 cp) := Boxed.new w _ _
  obtain ⟨W, hW⟩ : ∃ W, W = w.alloc (.cells #[.slice A n1 cp] 25) := ⟨_, rfl⟩
  rw [← hW] at hb0 hk0
  have HV := Lib.hid (@vouching_any W chain A cp host now (hx.step hb0) hl hcp hlen hh (hw.below hb0))
  have HX1 := Lib.hid (hx1.step hb0)
  have HK := Lib.hid hk0
  have HB := Lib.hid hb0
  have HW := Lib.hid hW
  have HN1 := Lib.hid hn1
  obtain ⟨one, ho⟩ : ∃ o, o = chain.take 1 := ⟨_, rfl⟩
  obtain ⟨v, hv⟩ : ∃ v, v = vouchL chain host now := ⟨_, rfl⟩
  rw [← hv] at HV ⊢
  rw [← ho] at HX1 HN1 ⊢
  have hn1c : n1 ≤ cp := by omega
  have hn1c' : (n1 : Int) ≤ (cp : Int) := by omega
  obtain ⟨m, hm⟩ : ∃ m, m = chain.length := ⟨_, rfl⟩
  rw [← hm] at HV hmin ⊢
  clear hx hl hw hx1 hb0 hk0 hW ho hv hn1 hn1' hm hcp hlen
  go_enter Tryz.func103, Tryz.ntmps103
  go_wp2_with (go_at_call 157; refine Calls.mono (W_is HW.out HV.out) ?_; rintro e w1 ⟨B, c, rfl, hs, hb1⟩; have HS := Lib.hid hs; have HB1 := Lib.hid hb1; clear hs hb1)
  go_ret
  refine ⟨w.heap.size, w1.heap.size, B, c, rfl, ?_, Boxed.new w1 _ _, ?_, HS.out.step (below_alloc _ _), ?_⟩
  · rw [← HN1.out]; exact boxed_step (boxed_step HK.out HB1.out) (below_alloc _ _)
  · exact (HX1.out.step HB1.out).step (below_alloc _ _)
  · exact (HB.out.trans (HB1.out.mono HB.out.size)).alloc (Nat.le_trans HB.out.size HB1.out.size) _
set_option maxHeartbeats 4000000 in
theorem matches_any {w : World} (r : Rc) (chain : List (List UInt8)) (A : Option Addr) (cp : Nat) (host : List UInt8) (now : Int) (hx : SX w (.slice A chain.length cp) chain) (hl : ∀ s ∈ chain, s.length ≤ 1000000) (hcp : chain.length ≤ cp) (hlen : chain.length ≤ 9223372036854775807) (hh : host.length ≤ 1000000) (hw : GA w) :
    Calls Tryz.prog 49 #[.agg #[.int .u8 (r.us : Int), .int .u8 (r.se : Int), .int .u8 (r.ma : Int), sv r.da], .slice A chain.length cp, sv host, .int .i64 now] w fun e w' => e = .returned (.bool (matchR r chain host now)) ∧ Below w.heap.size w w' := by
  have HMA := Lib.hid (fun W (hb : Below w.heap.size w W) (hg : GA W) => @matcher_any W chain A cp host now (hx.step hb) (fun s hs => by have := hl s hs; omega) hcp hlen hh hg)
  have HC1 := Lib.hid (fun (W : World) (W0 : World) (k7 k8 : Nat) (B : Option Addr) (c : Nat) (hb : Below w.heap.size w W) (hm : MT W0 W k7 k8 A B cp c (chain.take 1) (vouchL chain host now)) => mat1_any r hm (by rw [List.length_take]; omega) (by have := (vouch_short (chain := chain) (host := host) (now := now)).1; omega) (fun x hx => hl x (List.mem_of_mem_take hx)) (fun x hx => hl x (vouch_short.2 x hx)) (hw.below hb))
  have HS0 := Lib.hid (show Ga w (w.alloc (cellsR r)).drew ∧ RB (w.alloc (cellsR r)).drew w.heap.size r from ⟨((Ga.start hw).alloc _).drew, (RB.new w r).step (Below.refl _ _).drew⟩)
  obtain ⟨u, s, m, d⟩ := r
  have hF : matchR ⟨u, s, m, d⟩ chain host now = (if (⟨u, s, m, d⟩ : Rc).us = 3 then chain.take 1 else vouchL chain host now).any (ofB ⟨u, s, m, d⟩) := rfl
  rw [← hF] at HC1
  obtain ⟨q, hq⟩ : ∃ q, q = matchR ⟨u, s, m, d⟩ chain host now := ⟨_, rfl⟩
  rw [← hq] at HC1 ⊢
  simp only at HC1 ⊢
  clear hx hl hw hF hq
  go_enter Tryz.func49, Tryz.ntmps49
  go_wp2_with fail
  refine wp_region_held_drew (S := fun W => Ga w W ∧ RB W w.heap.size ⟨u, s, m, d⟩) (by kernel_rfl) HS0.out (fun hHeld => ?_)
  refine wpAnyH_take (i := 0) (v := ?vv0_1) rfl (by kernel_rfl) (by kernel_rfl) (by kernel_rfl) (fun _ _ _ h => h) (Or.inl ⟨by rfl, ?hy0_1⟩) (by assumption) ?rest0_1
  case hy0_1 => (intro w' hSw; (try dsimp only at hSw); go_simp; try with_reducible rfl)
  try simp only [List.getElem_toArray, List.getElem_cons_zero, List.getElem_cons_succ, Act.put, List.setIfInBounds_toArray, List.set_cons_zero, List.set_cons_succ]
  refine wpAnyH_take (i := 1) (v := ?vv1_1) rfl (by kernel_rfl) (by kernel_rfl) (by kernel_rfl) (fun _ _ _ h => h) (Or.inl ⟨by rfl, ?hy1_1⟩) (by assumption) ?rest1_1
  case hy1_1 => (intro w' hSw; (try dsimp only at hSw); go_simp; try with_reducible rfl)
  try simp only [List.getElem_toArray, List.getElem_cons_zero, List.getElem_cons_succ, Act.put, List.setIfInBounds_toArray, List.set_cons_zero, List.set_cons_succ]
  refine wpAnyH_take (i := 2) (v := ?vv2_1) rfl (by kernel_rfl) (by kernel_rfl) (by kernel_rfl) (fun _ _ _ h => h) (Or.inl ⟨by rfl, ?hy2_1⟩) (by assumption) ?rest2_1
  case hy2_1 => (intro w' hSw; (try dsimp only at hSw); go_simp; try with_reducible rfl)
  try simp only [List.getElem_toArray, List.getElem_cons_zero, List.getElem_cons_succ, Act.put, List.setIfInBounds_toArray, List.set_cons_zero, List.set_cons_succ]
  refine wpAnyH_take (i := 4) (v := .agg #[.int .u8 (u : Int), .int .u8 (s : Int), .int .u8 (m : Int), sv d]) rfl (by kernel_rfl) (by kernel_rfl) (by kernel_rfl) (fun _ _ _ h => h) (Or.inl ⟨by rfl, fun w' hSw => exec_load_midU w' rfl rfl hSw.2.range Tryz.underlying65 rfl (by kernel_rfl)⟩) (by assumption) ?_
  try simp only [List.getElem_toArray, List.getElem_cons_zero, List.getElem_cons_succ, Act.put, List.setIfInBounds_toArray, List.set_cons_zero, List.set_cons_succ]
  refine wpAnyH_ready (rs := [3]) (by kernel_rfl) (by simp) ?_
  refine AllReadyH.cons rfl (fun K hK => ?_) AllReadyH.nil
  go_simp
  go_at_call 103
  refine (HMA.out _ hHeld.1.1 hHeld.1.2).mono ?_
  rintro e w4 ⟨k7, k8, B, c, rfl, hm⟩
  have hp9 : Ga w w4 ∧ RB w4 w.heap.size ⟨u, s, m, d⟩ := ⟨hHeld.1.step hm.bw, hHeld.2.step hm.bw⟩
  have HCL := Lib.hid (HC1.out w4 _ k7 k8 B c hp9.1.1 hm)
  refine hK.out _ _ hp9 (fun hHeld => ?_)
  clear hK K
  try simp only [List.getElem_toArray, List.getElem_cons_zero, List.getElem_cons_succ, Act.put, List.setIfInBounds_toArray, List.set_cons_zero, List.set_cons_succ]
  refine wpAnyH_ready (rs := [5]) (by kernel_rfl) (by simp) ?_
  refine AllReadyH.cons rfl (fun K hK => ?_) AllReadyH.nil
  go_simp
  go_at_call 158
  refine HCL.out.mono ?_
  rintro e w5 ⟨rfl, hb5⟩
  have hp9 : Ga w w5 ∧ RB w5 w.heap.size ⟨u, s, m, d⟩ := ⟨hHeld.1.step hb5, hHeld.2.step hb5⟩
  have HP9 := Lib.hid hp9
  refine hK.out _ _ hp9 (fun hHeld => ?_)
  clear hK K
  try simp only [List.getElem_toArray, List.getElem_cons_zero, List.getElem_cons_succ, Act.put, List.setIfInBounds_toArray, List.set_cons_zero, List.set_cons_succ]
  refine wpAnyH_take (i := 6) (v := ?vv6_1) rfl (by kernel_rfl) (by kernel_rfl) (by kernel_rfl) (fun _ _ _ h => h) (Or.inl ⟨by rfl, ?hy6_1⟩) (by assumption) ?rest6_1
  case hy6_1 => (intro w' hSw; (try dsimp only at hSw); go_simp; try with_reducible rfl)
  try simp only [List.getElem_toArray, List.getElem_cons_zero, List.getElem_cons_succ, Act.put, List.setIfInBounds_toArray, List.set_cons_zero, List.set_cons_succ]
  refine wpAnyH_done (by kernel_rfl) ?_ _
  go_wp2_with fail
  go_ret
  exact ⟨rfl, HP9.out.1.1⟩
end Go.Proofs.YtnaoandleelbkaaGreatDoor
