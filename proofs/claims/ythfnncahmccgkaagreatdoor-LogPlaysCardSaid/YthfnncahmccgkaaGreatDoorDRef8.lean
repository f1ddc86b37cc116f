/-
  The reference's disk: Copy: three chains 'a literal, an append to it' that mix as they like: by rank; does: its pieces.
-/
import Derived.Test.YthfnncahmccgkaaGreatDoorDKpM
namespace Go.Proofs.YthfnncahmccgkaaGreatDoor
open Go Go.RowKit Go.Maps
set_option maxRecDepth 100000
set_option linter.unusedSimpArgs false
set_option linter.unusedVariables false

section
variable {P : Program} {md : Region.Mode} {ops : Array Oper} {Q : Exit → Act → World → Prop} {S : World → Prop}
theorem wpAnyH_rank (I : Nat → Array Bool → Act → World → Prop)
    (h : ∀ n l a w, I n l a w → (∀ m l' a' w', m < n → I m l' a' w' → wpAnyH P md ops Q S m l' a' w') → wpAnyH P md ops Q S n l a w) :
    ∀ n l a w, I n l a w → wpAnyH P md ops Q S n l a w := by
  intro n
  induction n using Nat.strongRecOn with
  | _ n ih => exact fun l a w hI => h n l a w hI fun m l' a' w' hm hI' => ih m hm l' a' w' hI'
end
theorem wp_builtin2_runR {P : Program} {o : Oper} {a : Act} {w : World} {K : Act → World → Prop} {Q : Exit → Act → World → Prop} (b : Builtin) (f : Array TypeId → TypeId → Array Value → Sem Value) (d s : Operand) (t t' : TypeId)
    (ho : o.op = .call { callee := .builtin b, args := #[d, s], argTypes := #[t, t'] }) (hb : ∀ ty args cs, builtin b #[t, t'] ty cs args = (do pure (.value (← f #[t, t'] ty args)))) (v u : Value) (hd : a.eval d = v) (hs : a.eval s = u) {v' : Value} {w' : World}
    (hr : (f #[t, t'] o.type #[v, u]).run P w = .ok v' w') (h : K (a.put o.dst v') w') : o.wp P a w K Q := by
  unfold Oper.wp execOp
  simp only [ho, resolve, invoke, hb, Sem.run_bind, Sem.run_pure, Result.andThen_ok, List.map_toArray, List.map_cons, List.map_nil, hd, hs, hr]
  exact h

/-- How far a chain is: nothing yet; the literal lies at g; the row at g (the literal was at l). -/
inductive Ch where
  | a
  | b (g : Nat)
  | c (l g k : Nat)
def Ch.lv : Ch → Value
  | .a => undef
  | .b g => .slice (some ⟨g, 0, none⟩) 0 0
  | .c l _ _ => .slice (some ⟨l, 0, none⟩) 0 0
def Ch.rv (n : Nat) : Ch → Value
  | .c _ g k => .slice (some ⟨g, 0, none⟩) n k
  | _ => undef
def Ch.r : Ch → Nat
  | .a => 0
  | .b _ => 1
  | .c _ _ _ => 2
def Ch.bl : Ch → Bool
  | .a => false
  | _ => true
def Ch.br : Ch → Bool
  | .c _ _ _ => true
  | _ => false
def chOb (e : TypeId) (xs : List Value) : Ch → Ob
  | .a => ⟨[], fun _ => True⟩
  | .b g => ⟨[g], fun w => w.heap[g]? = some (.cells #[] e (0, 0))⟩
  | .c _ g k => ⟨[g], fun w => XR w e g k xs⟩
theorem chOb_stays (e : TypeId) (xs : List Value) : ∀ c, (chOb e xs c).Stays
  | .a => fun _ _ _ _ => trivial
  | .b g => fun W W' h hP => (h g (by simp [chOb])).2.trans hP
  | .c _ g k => fun W W' h hP => XR.of_block (w := W) hP (h g (by simp [chOb])).2
theorem Obs.ch_lit {w0 w : World} {os : List Ob} (h : Obs w0 w os) (i : Nat) {e : TypeId} {xs : List Value} (hi : os[i]? = some (chOb e xs .a)) : Obs w0 (w.alloc (.cells #[] e)) (os.set i (chOb e xs (.b w.heap.size))) :=
  h.turn i hi (chOb e xs (.b w.heap.size)) (heap_alloc_new w _) (chOb_stays _ _ _) ((Kp.refl _ _).alloc _) (fun b hb => by simp [chOb] at hb; subst hb; exact ⟨.inr (Nat.le_refl _), by simp⟩)
section
variable {t e : TypeId} {z : Value} {by_ : Nat} (ht : Tryz.prog.underlying t = some (.slice e)) (hinfo : (Tryz.prog.info? e).map (fun i => (i.zero, i.size, i.bytes)) = some (some z, 1, by_)) (hz : z.cells.size = 1) (hby : by_ ≤ 1000)
include ht hinfo hz hby
theorem Obs.ch_app {w0 w : World} {os : List Ob} (h : Obs w0 w os) (i : Nat) {xs : List Value} {g : Nat} (hi : os[i]? = some (chOb e xs (.b g))) {gs cs n : Nat} (hX : XR w e gs cs xs) (hn : n = xs.length) (hp : 0 < n) (hml : n ≤ 1000000) (h1 : ∀ u ∈ xs, u.oneCell' = true) (c : Nat) :
    ∃ g' k w', (Builtin.append_ #[t, t] t #[.slice (some ⟨g, 0, none⟩) 0 0, .slice (some ⟨gs, 0, none⟩) n c]).run Tryz.prog w = .ok (.slice (some ⟨g', 0, none⟩) n k) w' ∧ Obs w0 w' (os.set i (chOb e xs (.c g g' k))) := by
  obtain ⟨ii, hii, hz0, hz1, hz2⟩ := info_parts hinfo
  have hg : w.heap[g]? = some (.cells #[] e (0, 0)) := h.get hi
  have hlt := lt_of_blk hg
  have hown : w.ownsRow g e 1 (.slice (some ⟨g, 0, none⟩) 0 0) 0 [] := ⟨by simp, .inr ⟨g, 0, #[], rfl, Nat.le_refl _, hg, Nat.le_refl _, by decide, rfl, by simp⟩⟩
  have hmm : n * by_ ≤ 1000000 * 1000 := Nat.mul_le_mul hml hby
  obtain ⟨g', k, w', hr, h2, h3, h4, h5⟩ := run_append_lies (P := Tryz.prog) w t t g e ii z 1 by_ ht hii hz0 hz1 hz2 hz (by decide) _ 0 [] hown ⟨gs, 0, none⟩ n c xs (by omega) (fun j u hu => by
    have hj : j < xs.length := (List.getElem?_eq_some_iff.1 hu).1
    rw [Addr.add_mid, Nat.zero_add, (hX.cell hj).1, ← hu, List.getD_eq_getElem?_getD, List.getElem?_eq_getElem hj]; rfl) h1 hp (by unfold maxLen; omega) (by rw [Nat.zero_add]; omega) (Nat.le_of_lt hlt) _ rfl
  rw [Nat.zero_add] at hr h2
  rw [List.nil_append] at h2
  obtain ⟨hX', _, _⟩ := XR.of_owns h2
  have hk : Kp [g] w w' := (Kp.refl [g] w).grown h3 (fun k' e' _ => by simp [Value.ownBlock] at e'; simp [e'])
  refine ⟨g', k, w', hr, h.turn i hi (chOb e xs (.c g g' k)) hX' (chOb_stays _ _ _) hk (fun b hb => ?_)⟩
  simp [chOb] at hb
  subst hb
  refine ⟨?_, h5⟩
  rcases h4 with h4 | h4
  · left; simp [Value.ownBlock] at h4; simp [chOb, h4]
  · right; omega
end

set_option maxHeartbeats 8000000 in
theorem copy_rd {w : World} {p g1 g2 g3 : Nat} {S : DS} (h : RD w p g1 g2 g3 S) :
    Calls Tryz.prog 55 #[dp p] w fun e w' => ∃ q h1 h2 h3, e = .returned (dp q) ∧ RD w' q h1 h2 h3 S ∧ Below w.heap.size w w' ∧ (∀ b ∈ [q, h1, h2, h3], w.heap.size ≤ b) := by
  obtain ⟨c1, c2, c3, left, fails, hq, h1, h2, h3, hr⟩ := h.box
  have k0 : w.cell? ⟨p, 0, none⟩ = some (.slice (some ⟨g1, 0, none⟩) S.was.length c1) := cellAt hq 0
  have k1 : w.cell? ⟨p, 1, none⟩ = some (.slice (some ⟨g2, 0, none⟩) S.was.length c2) := cellAt hq 1
  have k2 : w.cell? ⟨p, 2, none⟩ = some (.slice (some ⟨g3, 0, none⟩) S.was.length c3) := cellAt hq 2
  have k3 : w.cell? ⟨p, 3, none⟩ = some (.int .i64 (S.ops : Int)) := cellAt hq 3
  have k4 : w.cell? ⟨p, 4, none⟩ = some (.int .i64 left) := cellAt hq 4
  have k5 : w.cell? ⟨p, 5, none⟩ = some (.bool fails) := cellAt hq 5
  have k6 : w.cell? ⟨p, 6, none⟩ = some (.bool S.off) := cellAt hq 6
  have HQ := Lib.hid hq
  have H1 := Lib.hid h1
  have H2 := Lib.hid h2
  have H3 := Lib.hid h3
  have HR := Lib.hid hr
  have HOK := Lib.hid h.ok
  generalize hn : S.was.length = n at k0 k1 k2 HQ
  have HN := Lib.hid hn
  have HN1 := Lib.hid (show 0 < n by have := h.ok.n1; omega)
  have HN2 := Lib.hid (show n ≤ 1000000 by have := h.ok.n2; omega)
  clear h hq h1 h2 h3 hr hn
  go_enter Tryz.func55, Tryz.ntmps55
  go_wp2_with fail
  have hbk := heap_alloc_new w (.cells (rCells n g1 c1 g2 c2 g3 c3 S.ops left fails S.off) 95)
  have hb1 : Below w.heap.size w (w.alloc (.cells (rCells n g1 c1 g2 c2 g3 c3 S.ops left fails S.off) 95)) := (Below.refl _ _).alloc (Nat.le_refl _) _
  have hg1 : w.heap.size < (w.alloc (.cells (rCells n g1 c1 g2 c2 g3 c3 S.ops left fails S.off) 95)).heap.size := by simp
  generalize hw1 : w.alloc (.cells (rCells n g1 c1 g2 c2 g3 c3 S.ops left fails S.off) 95) = w1 at hbk hb1 hg1
  have hw1' := hw1
  unfold rCells at hw1'
  rw [hw1']
  obtain ⟨q, hge⟩ : ∃ q, q = w.heap.size := ⟨_, rfl⟩
  rw [← hge] at hbk hg1 ⊢
  have HGN := Lib.hid (show w.heap.size ≤ q by omega)
  have HBK := Lib.hid hbk
  have HB1 := Lib.hid hb1
  have HG1 := Lib.hid hg1
  have HPQ := Lib.hid (show p ≠ q by have := lt_of_blk HQ.out; omega)
  have HP1 := Lib.hid ((hb1.block p (lt_of_blk HQ.out)).trans HQ.out)
  have X1 := Lib.hid (H1.out.of_block (hb1.block g1 H1.out.lt))
  have X2 := Lib.hid (H2.out.of_block (hb1.block g2 H2.out.lt))
  have X3 := Lib.hid (H3.out.of_block (hb1.block g3 H3.out.lt))
  clear hw1' hw1 hbk hb1 hg1 hge k0 k1 k2 k3 k4 k5 k6
  refine wp_region_held_drew (S := fun W => W.heap[p]? = some (.cells (rCells n g1 c1 g2 c2 g3 c3 S.ops left fails S.off) 95 (0, 0))) (by kernel_rfl) HP1.out (fun hHeld => ?_)
  refine wpAnyH_take (i := 1) (v := ?vv1_1) rfl (by kernel_rfl) (by kernel_rfl) (by kernel_rfl) (fun _ _ _ h => h) (Or.inl ⟨by rfl, ?hy1_1⟩) (by assumption) ?rest1_1
  case hy1_1 => (intro w' hSw; (try dsimp only at hSw); go_simp; try with_reducible rfl)
  try simp only [List.getElem_toArray, List.getElem_cons_zero, List.getElem_cons_succ, Act.put, List.setIfInBounds_toArray, List.set_cons_zero, List.set_cons_succ]
  refine wpAnyH_take (i := 2) (v := ?vv2_1) rfl (by kernel_rfl) (by kernel_rfl) (by kernel_rfl) (fun _ _ _ h => h) (Or.inl ⟨by rfl, ?hy2_1⟩) (by assumption) ?rest2_1
  case hy2_1 => (intro w' hSw; (try dsimp only at hSw); go_simp; try with_reducible rfl)
  try simp only [List.getElem_toArray, List.getElem_cons_zero, List.getElem_cons_succ, Act.put, List.setIfInBounds_toArray, List.set_cons_zero, List.set_cons_succ]
  refine wpAnyH_take (i := 3) (v := ?vv3_1) rfl (by kernel_rfl) (by kernel_rfl) (by kernel_rfl) (fun _ _ _ h => h) (Or.inl ⟨by rfl, ?hy3_1⟩) (by assumption) ?rest3_1
  case hy3_1 => (intro w' hSw; (try dsimp only at hSw); go_simp; try with_reducible rfl)
  try simp only [List.getElem_toArray, List.getElem_cons_zero, List.getElem_cons_succ, Act.put, List.setIfInBounds_toArray, List.set_cons_zero, List.set_cons_succ]
  refine wpAnyH_take (i := 4) (v := .slice (some ⟨g1, 0, none⟩) n c1) rfl (by kernel_rfl) (by kernel_rfl) (by kernel_rfl) (fun _ _ _ h => h) (Or.inl ⟨by rfl, fun w' hSw => exec_load1 w' rfl rfl (cellAt hSw 0) Tryz.underlying26 rfl⟩) (by assumption) ?_
  try simp only [List.getElem_toArray, List.getElem_cons_zero, List.getElem_cons_succ, Act.put, List.setIfInBounds_toArray, List.set_cons_zero, List.set_cons_succ]
  refine wpAnyH_take (i := 7) (v := ?vv7_1) rfl (by kernel_rfl) (by kernel_rfl) (by kernel_rfl) (fun _ _ _ h => h) (Or.inl ⟨by rfl, ?hy7_1⟩) (by assumption) ?rest7_1
  case hy7_1 => (intro w' hSw; (try dsimp only at hSw); go_simp; try with_reducible rfl)
  try simp only [List.getElem_toArray, List.getElem_cons_zero, List.getElem_cons_succ, Act.put, List.setIfInBounds_toArray, List.set_cons_zero, List.set_cons_succ]
  refine wpAnyH_take (i := 8) (v := ?vv8_1) rfl (by kernel_rfl) (by kernel_rfl) (by kernel_rfl) (fun _ _ _ h => h) (Or.inl ⟨by rfl, ?hy8_1⟩) (by assumption) ?rest8_1
  case hy8_1 => (intro w' hSw; (try dsimp only at hSw); go_simp; try with_reducible rfl)
  try simp only [List.getElem_toArray, List.getElem_cons_zero, List.getElem_cons_succ, Act.put, List.setIfInBounds_toArray, List.set_cons_zero, List.set_cons_succ]
  refine wpAnyH_take (i := 9) (v := ?vv9_1) rfl (by kernel_rfl) (by kernel_rfl) (by kernel_rfl) (fun _ _ _ h => h) (Or.inl ⟨by rfl, ?hy9_1⟩) (by assumption) ?rest9_1
  case hy9_1 => (intro w' hSw; (try dsimp only at hSw); go_simp; try with_reducible rfl)
  try simp only [List.getElem_toArray, List.getElem_cons_zero, List.getElem_cons_succ, Act.put, List.setIfInBounds_toArray, List.set_cons_zero, List.set_cons_succ]
  refine wpAnyH_take (i := 10) (v := .slice (some ⟨g2, 0, none⟩) n c2) rfl (by kernel_rfl) (by kernel_rfl) (by kernel_rfl) (fun _ _ _ h => h) (Or.inl ⟨by rfl, fun w' hSw => exec_load1 w' rfl rfl (cellAt hSw 1) Tryz.underlying26 rfl⟩) (by assumption) ?_
  try simp only [List.getElem_toArray, List.getElem_cons_zero, List.getElem_cons_succ, Act.put, List.setIfInBounds_toArray, List.set_cons_zero, List.set_cons_succ]
  refine wpAnyH_take (i := 13) (v := ?vv13_1) rfl (by kernel_rfl) (by kernel_rfl) (by kernel_rfl) (fun _ _ _ h => h) (Or.inl ⟨by rfl, ?hy13_1⟩) (by assumption) ?rest13_1
  case hy13_1 => (intro w' hSw; (try dsimp only at hSw); go_simp; try with_reducible rfl)
  try simp only [List.getElem_toArray, List.getElem_cons_zero, List.getElem_cons_succ, Act.put, List.setIfInBounds_toArray, List.set_cons_zero, List.set_cons_succ]
  refine wpAnyH_take (i := 14) (v := ?vv14_1) rfl (by kernel_rfl) (by kernel_rfl) (by kernel_rfl) (fun _ _ _ h => h) (Or.inl ⟨by rfl, ?hy14_1⟩) (by assumption) ?rest14_1
  case hy14_1 => (intro w' hSw; (try dsimp only at hSw); go_simp; try with_reducible rfl)
  try simp only [List.getElem_toArray, List.getElem_cons_zero, List.getElem_cons_succ, Act.put, List.setIfInBounds_toArray, List.set_cons_zero, List.set_cons_succ]
  refine wpAnyH_take (i := 15) (v := ?vv15_1) rfl (by kernel_rfl) (by kernel_rfl) (by kernel_rfl) (fun _ _ _ h => h) (Or.inl ⟨by rfl, ?hy15_1⟩) (by assumption) ?rest15_1
  case hy15_1 => (intro w' hSw; (try dsimp only at hSw); go_simp; try with_reducible rfl)
  try simp only [List.getElem_toArray, List.getElem_cons_zero, List.getElem_cons_succ, Act.put, List.setIfInBounds_toArray, List.set_cons_zero, List.set_cons_succ]
  refine wpAnyH_take (i := 16) (v := .slice (some ⟨g3, 0, none⟩) n c3) rfl (by kernel_rfl) (by kernel_rfl) (by kernel_rfl) (fun _ _ _ h => h) (Or.inl ⟨by rfl, fun w' hSw => exec_load1 w' rfl rfl (cellAt hSw 2) Tryz.underlying93 rfl⟩) (by assumption) ?_
  try simp only [List.getElem_toArray, List.getElem_cons_zero, List.getElem_cons_succ, Act.put, List.setIfInBounds_toArray, List.set_cons_zero, List.set_cons_succ]
  have KEEP := Lib.hid (show ∀ W' os', Obs w1 W' os' → W'.heap[p]? = some (.cells (rCells n g1 c1 g2 c2 g3 c3 S.ops left fails S.off) 95 (0, 0)) from fun W' os' hh => (hh.bel.block p (lt_of_blk HP1.out)).trans HP1.out)
  have Y1 := Lib.hid (show ∀ W' os', Obs w1 W' os' → XR W' 9 g1 c1 (txsD S.was) from fun W' os' hh => X1.out.of_block (hh.bel.block g1 X1.out.lt))
  have Y2 := Lib.hid (show ∀ W' os', Obs w1 W' os' → XR W' 9 g2 c2 (txsD S.now) from fun W' os' hh => X2.out.of_block (hh.bel.block g2 X2.out.lt))
  have Y3 := Lib.hid (show ∀ W' os', Obs w1 W' os' → XR W' 4 g3 c3 (bls S.wet) from fun W' os' hh => X3.out.of_block (hh.bel.block g3 X3.out.lt))
  have hO0 : Obs w1 w1.drew [chOb 9 (txsD S.was) .a, chOb 9 (txsD S.now) .a, chOb 4 (bls S.wet) .a] := (((Obs.start w1).drew.add (chOb 9 (txsD S.was) .a) trivial (chOb_stays _ _ _) (Below.refl _ _) (fun b hb => by simp [chOb] at hb)).add (chOb 9 (txsD S.now) .a) trivial (chOb_stays _ _ _) (Below.refl _ _) (fun b hb => by simp [chOb] at hb)).add (chOb 4 (bls S.wet) .a) trivial (chOb_stays _ _ _) (Below.refl _ _) (fun b hb => by simp [chOb] at hb)
  refine wpAnyH_rank (fun m l a W => ∃ x1 x2 x3 : Ch, m + (x1.r + x2.r + x3.r) = 12 ∧ l = #[x1.bl, true, true, true, true, x1.br, x2.bl, true, true, true, true, x2.br, x3.bl, true, true, true, true, x3.br, false, false, false, false, false, false] ∧ a = ({ tmps := #[dp p, undef, .pointer none, .pointer (some ⟨q, 0, none⟩), dp p, .pointer (some ⟨p, 0, none⟩), .agg #[.slice (some ⟨g1, 0, none⟩) n c1, .slice (some ⟨g2, 0, none⟩) n c2, .slice (some ⟨g3, 0, none⟩) n c3, .int .i64 (S.ops : Int), .int .i64 left, .bool fails, .bool S.off], x1.lv, dp p, .pointer (some ⟨p, 0, none⟩), .pointer (some ⟨p, 0, none⟩), .slice (some ⟨g1, 0, none⟩) n c1, x1.rv n, x2.lv, dp p, .pointer (some ⟨p, 0, none⟩), .pointer (some ⟨p, 1, none⟩), .slice (some ⟨g2, 0, none⟩) n c2, x2.rv n, x3.lv, dp p, .pointer (some ⟨p, 0, none⟩), .pointer (some ⟨p, 2, none⟩), .slice (some ⟨g3, 0, none⟩) n c3, x3.rv n, undef, undef, undef], defers := [] } : Act) ∧ Obs w1 W [chOb 9 (txsD S.was) x1, chOb 9 (txsD S.now) x2, chOb 4 (bls S.wet) x3]) ?_ 12 _ _ _ ⟨.a, .a, .a, rfl, by kernel_rfl, rfl, hO0⟩
  clear hO0 hHeld
  intro m l a W ⟨x1, x2, x3, hm, hl, ha, hO⟩ IH
  rcases x1 with _ | u1 | ⟨l1, r1, t1⟩
  · rcases x2 with _ | u2 | ⟨l2, r2, t2⟩
    · rcases x3 with _ | u3 | ⟨l3, r3, t3⟩
      · obtain rfl : m = 12 := by simp only [Ch.r] at hm; omega
        subst hl
        subst ha
        dsimp only [Ch.bl, Ch.br, Ch.lv, Ch.rv]
        refine wpAnyH_ready (rs := [0, 6, 12]) (by kernel_rfl) (by simp) ?_
        refine AllReadyH.cons rfl (fun K hK => ?_) (AllReadyH.cons rfl (fun K hK => ?_) (AllReadyH.cons rfl (fun K hK => ?_) AllReadyH.nil))
        · go_simp
          have hO' := hO.ch_lit 0 rfl
          refine hK.out _ _ (KEEP.out _ _ hO') (fun _ => ?_)
          clear hK K
          try simp only [List.getElem_toArray, List.getElem_cons_zero, List.getElem_cons_succ, Act.put, List.setIfInBounds_toArray, List.set_cons_zero, List.set_cons_succ]
          exact IH 11 _ _ _ (by decide) ⟨(.b W.heap.size), .a, .a, rfl, rfl, rfl, hO'⟩
        · go_simp
          have hO' := hO.ch_lit 1 rfl
          refine hK.out _ _ (KEEP.out _ _ hO') (fun _ => ?_)
          clear hK K
          try simp only [List.getElem_toArray, List.getElem_cons_zero, List.getElem_cons_succ, Act.put, List.setIfInBounds_toArray, List.set_cons_zero, List.set_cons_succ]
          exact IH 11 _ _ _ (by decide) ⟨.a, (.b W.heap.size), .a, rfl, rfl, rfl, hO'⟩
        · go_simp
          have hO' := hO.ch_lit 2 rfl
          refine hK.out _ _ (KEEP.out _ _ hO') (fun _ => ?_)
          clear hK K
          try simp only [List.getElem_toArray, List.getElem_cons_zero, List.getElem_cons_succ, Act.put, List.setIfInBounds_toArray, List.set_cons_zero, List.set_cons_succ]
          exact IH 11 _ _ _ (by decide) ⟨.a, .a, (.b W.heap.size), rfl, rfl, rfl, hO'⟩
      · obtain rfl : m = 11 := by simp only [Ch.r] at hm; omega
        subst hl
        subst ha
        dsimp only [Ch.bl, Ch.br, Ch.lv, Ch.rv]
        refine wpAnyH_ready (rs := [0, 6]) (by kernel_rfl) (by simp) ?_
        refine AllReadyH.cons rfl (fun K hK => ?_) (AllReadyH.cons rfl (fun K hK => ?_) AllReadyH.nil)
        · go_simp
          have hO' := hO.ch_lit 0 rfl
          refine hK.out _ _ (KEEP.out _ _ hO') (fun _ => ?_)
          clear hK K
          try simp only [List.getElem_toArray, List.getElem_cons_zero, List.getElem_cons_succ, Act.put, List.setIfInBounds_toArray, List.set_cons_zero, List.set_cons_succ]
          exact IH 10 _ _ _ (by decide) ⟨(.b W.heap.size), .a, (.b u3), rfl, rfl, rfl, hO'⟩
        · go_simp
          have hO' := hO.ch_lit 1 rfl
          refine hK.out _ _ (KEEP.out _ _ hO') (fun _ => ?_)
          clear hK K
          try simp only [List.getElem_toArray, List.getElem_cons_zero, List.getElem_cons_succ, Act.put, List.setIfInBounds_toArray, List.set_cons_zero, List.set_cons_succ]
          exact IH 10 _ _ _ (by decide) ⟨.a, (.b W.heap.size), (.b u3), rfl, rfl, rfl, hO'⟩
      · obtain rfl : m = 10 := by simp only [Ch.r] at hm; omega
        subst hl
        subst ha
        dsimp only [Ch.bl, Ch.br, Ch.lv, Ch.rv]
        refine wpAnyH_ready (rs := [0, 6]) (by kernel_rfl) (by simp) ?_
        refine AllReadyH.cons rfl (fun K hK => ?_) (AllReadyH.cons rfl (fun K hK => ?_) AllReadyH.nil)
        · go_simp
          have hO' := hO.ch_lit 0 rfl
          refine hK.out _ _ (KEEP.out _ _ hO') (fun _ => ?_)
          clear hK K
          try simp only [List.getElem_toArray, List.getElem_cons_zero, List.getElem_cons_succ, Act.put, List.setIfInBounds_toArray, List.set_cons_zero, List.set_cons_succ]
          exact IH 9 _ _ _ (by decide) ⟨(.b W.heap.size), .a, (.c l3 r3 t3), rfl, rfl, rfl, hO'⟩
        · go_simp
          have hO' := hO.ch_lit 1 rfl
          refine hK.out _ _ (KEEP.out _ _ hO') (fun _ => ?_)
          clear hK K
          try simp only [List.getElem_toArray, List.getElem_cons_zero, List.getElem_cons_succ, Act.put, List.setIfInBounds_toArray, List.set_cons_zero, List.set_cons_succ]
          exact IH 9 _ _ _ (by decide) ⟨.a, (.b W.heap.size), (.c l3 r3 t3), rfl, rfl, rfl, hO'⟩
    · rcases x3 with _ | u3 | ⟨l3, r3, t3⟩
      · obtain rfl : m = 11 := by simp only [Ch.r] at hm; omega
        subst hl
        subst ha
        dsimp only [Ch.bl, Ch.br, Ch.lv, Ch.rv]
        refine wpAnyH_ready (rs := [0, 12]) (by kernel_rfl) (by simp) ?_
        refine AllReadyH.cons rfl (fun K hK => ?_) (AllReadyH.cons rfl (fun K hK => ?_) AllReadyH.nil)
        · go_simp
          have hO' := hO.ch_lit 0 rfl
          refine hK.out _ _ (KEEP.out _ _ hO') (fun _ => ?_)
          clear hK K
          try simp only [List.getElem_toArray, List.getElem_cons_zero, List.getElem_cons_succ, Act.put, List.setIfInBounds_toArray, List.set_cons_zero, List.set_cons_succ]
          exact IH 10 _ _ _ (by decide) ⟨(.b W.heap.size), (.b u2), .a, rfl, rfl, rfl, hO'⟩
        · go_simp
          have hO' := hO.ch_lit 2 rfl
          refine hK.out _ _ (KEEP.out _ _ hO') (fun _ => ?_)
          clear hK K
          try simp only [List.getElem_toArray, List.getElem_cons_zero, List.getElem_cons_succ, Act.put, List.setIfInBounds_toArray, List.set_cons_zero, List.set_cons_succ]
          exact IH 10 _ _ _ (by decide) ⟨.a, (.b u2), (.b W.heap.size), rfl, rfl, rfl, hO'⟩
      · obtain rfl : m = 10 := by simp only [Ch.r] at hm; omega
        subst hl
        subst ha
        dsimp only [Ch.bl, Ch.br, Ch.lv, Ch.rv]
        refine wpAnyH_ready (rs := [0]) (by kernel_rfl) (by simp) ?_
        refine AllReadyH.cons rfl (fun K hK => ?_) AllReadyH.nil
        · go_simp
          have hO' := hO.ch_lit 0 rfl
          refine hK.out _ _ (KEEP.out _ _ hO') (fun _ => ?_)
          clear hK K
          try simp only [List.getElem_toArray, List.getElem_cons_zero, List.getElem_cons_succ, Act.put, List.setIfInBounds_toArray, List.set_cons_zero, List.set_cons_succ]
          exact IH 9 _ _ _ (by decide) ⟨(.b W.heap.size), (.b u2), (.b u3), rfl, rfl, rfl, hO'⟩
      · obtain rfl : m = 9 := by simp only [Ch.r] at hm; omega
        subst hl
        subst ha
        dsimp only [Ch.bl, Ch.br, Ch.lv, Ch.rv]
        refine wpAnyH_ready (rs := [0]) (by kernel_rfl) (by simp) ?_
        refine AllReadyH.cons rfl (fun K hK => ?_) AllReadyH.nil
        · go_simp
          have hO' := hO.ch_lit 0 rfl
          refine hK.out _ _ (KEEP.out _ _ hO') (fun _ => ?_)
          clear hK K
          try simp only [List.getElem_toArray, List.getElem_cons_zero, List.getElem_cons_succ, Act.put, List.setIfInBounds_toArray, List.set_cons_zero, List.set_cons_succ]
          exact IH 8 _ _ _ (by decide) ⟨(.b W.heap.size), (.b u2), (.c l3 r3 t3), rfl, rfl, rfl, hO'⟩
    · rcases x3 with _ | u3 | ⟨l3, r3, t3⟩
      · obtain rfl : m = 10 := by simp only [Ch.r] at hm; omega
        subst hl
        subst ha
        dsimp only [Ch.bl, Ch.br, Ch.lv, Ch.rv]
        refine wpAnyH_ready (rs := [0, 12]) (by kernel_rfl) (by simp) ?_
        refine AllReadyH.cons rfl (fun K hK => ?_) (AllReadyH.cons rfl (fun K hK => ?_) AllReadyH.nil)
        · go_simp
          have hO' := hO.ch_lit 0 rfl
          refine hK.out _ _ (KEEP.out _ _ hO') (fun _ => ?_)
          clear hK K
          try simp only [List.getElem_toArray, List.getElem_cons_zero, List.getElem_cons_succ, Act.put, List.setIfInBounds_toArray, List.set_cons_zero, List.set_cons_succ]
          exact IH 9 _ _ _ (by decide) ⟨(.b W.heap.size), (.c l2 r2 t2), .a, rfl, rfl, rfl, hO'⟩
        · go_simp
          have hO' := hO.ch_lit 2 rfl
          refine hK.out _ _ (KEEP.out _ _ hO') (fun _ => ?_)
          clear hK K
          try simp only [List.getElem_toArray, List.getElem_cons_zero, List.getElem_cons_succ, Act.put, List.setIfInBounds_toArray, List.set_cons_zero, List.set_cons_succ]
          exact IH 9 _ _ _ (by decide) ⟨.a, (.c l2 r2 t2), (.b W.heap.size), rfl, rfl, rfl, hO'⟩
      · obtain rfl : m = 9 := by simp only [Ch.r] at hm; omega
        subst hl
        subst ha
        dsimp only [Ch.bl, Ch.br, Ch.lv, Ch.rv]
        refine wpAnyH_ready (rs := [0, 17]) (by kernel_rfl) (by simp) ?_
        refine AllReadyH.cons rfl (fun K hK => ?_) (AllReadyH.cons rfl (fun K hK => ?_) AllReadyH.nil)
        · go_simp
          have hO' := hO.ch_lit 0 rfl
          refine hK.out _ _ (KEEP.out _ _ hO') (fun _ => ?_)
          clear hK K
          try simp only [List.getElem_toArray, List.getElem_cons_zero, List.getElem_cons_succ, Act.put, List.setIfInBounds_toArray, List.set_cons_zero, List.set_cons_succ]
          exact IH 8 _ _ _ (by decide) ⟨(.b W.heap.size), (.c l2 r2 t2), (.b u3), rfl, rfl, rfl, hO'⟩
        · rw [if_pos (by rfl)]
          obtain ⟨G, C, w', hr, hO'⟩ := hO.ch_app (z := .bool false) (by_ := 1) Tryz.underlying93 info4r rfl (by omega) 2 rfl (Y3.out _ _ hO) (by rw [bls_length, HOK.out.hw]; exact HN.out.symm) HN1.out HN2.out (bls_cell _) c3
          refine wp_builtin2_runR .append Builtin.append_ _ _ _ _ rfl (fun _ _ _ => rfl) _ _ rfl rfl hr ?_
          refine hK.out _ _ (KEEP.out _ _ hO') (fun _ => ?_)
          clear hK K
          try simp only [List.getElem_toArray, List.getElem_cons_zero, List.getElem_cons_succ, Act.put, List.setIfInBounds_toArray, List.set_cons_zero, List.set_cons_succ]
          exact IH 8 _ _ _ (by decide) ⟨.a, (.c l2 r2 t2), (.c u3 G C), rfl, rfl, rfl, hO'⟩
      · obtain rfl : m = 8 := by simp only [Ch.r] at hm; omega
        subst hl
        subst ha
        dsimp only [Ch.bl, Ch.br, Ch.lv, Ch.rv]
        refine wpAnyH_ready (rs := [0]) (by kernel_rfl) (by simp) ?_
        refine AllReadyH.cons rfl (fun K hK => ?_) AllReadyH.nil
        · go_simp
          have hO' := hO.ch_lit 0 rfl
          refine hK.out _ _ (KEEP.out _ _ hO') (fun _ => ?_)
          clear hK K
          try simp only [List.getElem_toArray, List.getElem_cons_zero, List.getElem_cons_succ, Act.put, List.setIfInBounds_toArray, List.set_cons_zero, List.set_cons_succ]
          exact IH 7 _ _ _ (by decide) ⟨(.b W.heap.size), (.c l2 r2 t2), (.c l3 r3 t3), rfl, rfl, rfl, hO'⟩
  · rcases x2 with _ | u2 | ⟨l2, r2, t2⟩
    · rcases x3 with _ | u3 | ⟨l3, r3, t3⟩
      · obtain rfl : m = 11 := by simp only [Ch.r] at hm; omega
        subst hl
        subst ha
        dsimp only [Ch.bl, Ch.br, Ch.lv, Ch.rv]
        refine wpAnyH_ready (rs := [5, 6, 12]) (by kernel_rfl) (by simp) ?_
        refine AllReadyH.cons rfl (fun K hK => ?_) (AllReadyH.cons rfl (fun K hK => ?_) (AllReadyH.cons rfl (fun K hK => ?_) AllReadyH.nil))
        · rw [if_pos (by rfl)]
          obtain ⟨G, C, w', hr, hO'⟩ := hO.ch_app (z := .string ⟨#[]⟩) (by_ := 16) Tryz.underlying26 info9r rfl (by omega) 0 rfl (Y1.out _ _ hO) (by rw [txsD_length]; exact HN.out.symm) HN1.out HN2.out (txsD_cell _) c1
          refine wp_builtin2_runR .append Builtin.append_ _ _ _ _ rfl (fun _ _ _ => rfl) _ _ rfl rfl hr ?_
          refine hK.out _ _ (KEEP.out _ _ hO') (fun _ => ?_)
          clear hK K
          try simp only [List.getElem_toArray, List.getElem_cons_zero, List.getElem_cons_succ, Act.put, List.setIfInBounds_toArray, List.set_cons_zero, List.set_cons_succ]
          exact IH 10 _ _ _ (by decide) ⟨(.c u1 G C), .a, .a, rfl, rfl, rfl, hO'⟩
        · go_simp
          have hO' := hO.ch_lit 1 rfl
          refine hK.out _ _ (KEEP.out _ _ hO') (fun _ => ?_)
          clear hK K
          try simp only [List.getElem_toArray, List.getElem_cons_zero, List.getElem_cons_succ, Act.put, List.setIfInBounds_toArray, List.set_cons_zero, List.set_cons_succ]
          exact IH 10 _ _ _ (by decide) ⟨(.b u1), (.b W.heap.size), .a, rfl, rfl, rfl, hO'⟩
        · go_simp
          have hO' := hO.ch_lit 2 rfl
          refine hK.out _ _ (KEEP.out _ _ hO') (fun _ => ?_)
          clear hK K
          try simp only [List.getElem_toArray, List.getElem_cons_zero, List.getElem_cons_succ, Act.put, List.setIfInBounds_toArray, List.set_cons_zero, List.set_cons_succ]
          exact IH 10 _ _ _ (by decide) ⟨(.b u1), .a, (.b W.heap.size), rfl, rfl, rfl, hO'⟩
      · obtain rfl : m = 10 := by simp only [Ch.r] at hm; omega
        subst hl
        subst ha
        dsimp only [Ch.bl, Ch.br, Ch.lv, Ch.rv]
        refine wpAnyH_ready (rs := [5, 6]) (by kernel_rfl) (by simp) ?_
        refine AllReadyH.cons rfl (fun K hK => ?_) (AllReadyH.cons rfl (fun K hK => ?_) AllReadyH.nil)
        · rw [if_pos (by rfl)]
          obtain ⟨G, C, w', hr, hO'⟩ := hO.ch_app (z := .string ⟨#[]⟩) (by_ := 16) Tryz.underlying26 info9r rfl (by omega) 0 rfl (Y1.out _ _ hO) (by rw [txsD_length]; exact HN.out.symm) HN1.out HN2.out (txsD_cell _) c1
          refine wp_builtin2_runR .append Builtin.append_ _ _ _ _ rfl (fun _ _ _ => rfl) _ _ rfl rfl hr ?_
          refine hK.out _ _ (KEEP.out _ _ hO') (fun _ => ?_)
          clear hK K
          try simp only [List.getElem_toArray, List.getElem_cons_zero, List.getElem_cons_succ, Act.put, List.setIfInBounds_toArray, List.set_cons_zero, List.set_cons_succ]
          exact IH 9 _ _ _ (by decide) ⟨(.c u1 G C), .a, (.b u3), rfl, rfl, rfl, hO'⟩
        · go_simp
          have hO' := hO.ch_lit 1 rfl
          refine hK.out _ _ (KEEP.out _ _ hO') (fun _ => ?_)
          clear hK K
          try simp only [List.getElem_toArray, List.getElem_cons_zero, List.getElem_cons_succ, Act.put, List.setIfInBounds_toArray, List.set_cons_zero, List.set_cons_succ]
          exact IH 9 _ _ _ (by decide) ⟨(.b u1), (.b W.heap.size), (.b u3), rfl, rfl, rfl, hO'⟩
      · obtain rfl : m = 9 := by simp only [Ch.r] at hm; omega
        subst hl
        subst ha
        dsimp only [Ch.bl, Ch.br, Ch.lv, Ch.rv]
        refine wpAnyH_ready (rs := [5, 6]) (by kernel_rfl) (by simp) ?_
        refine AllReadyH.cons rfl (fun K hK => ?_) (AllReadyH.cons rfl (fun K hK => ?_) AllReadyH.nil)
        · rw [if_pos (by rfl)]
          obtain ⟨G, C, w', hr, hO'⟩ := hO.ch_app (z := .string ⟨#[]⟩) (by_ := 16) Tryz.underlying26 info9r rfl (by omega) 0 rfl (Y1.out _ _ hO) (by rw [txsD_length]; exact HN.out.symm) HN1.out HN2.out (txsD_cell _) c1
          refine wp_builtin2_runR .append Builtin.append_ _ _ _ _ rfl (fun _ _ _ => rfl) _ _ rfl rfl hr ?_
          refine hK.out _ _ (KEEP.out _ _ hO') (fun _ => ?_)
          clear hK K
          try simp only [List.getElem_toArray, List.getElem_cons_zero, List.getElem_cons_succ, Act.put, List.setIfInBounds_toArray, List.set_cons_zero, List.set_cons_succ]
          exact IH 8 _ _ _ (by decide) ⟨(.c u1 G C), .a, (.c l3 r3 t3), rfl, rfl, rfl, hO'⟩
        · go_simp
          have hO' := hO.ch_lit 1 rfl
          refine hK.out _ _ (KEEP.out _ _ hO') (fun _ => ?_)
          clear hK K
          try simp only [List.getElem_toArray, List.getElem_cons_zero, List.getElem_cons_succ, Act.put, List.setIfInBounds_toArray, List.set_cons_zero, List.set_cons_succ]
          exact IH 8 _ _ _ (by decide) ⟨(.b u1), (.b W.heap.size), (.c l3 r3 t3), rfl, rfl, rfl, hO'⟩
    · rcases x3 with _ | u3 | ⟨l3, r3, t3⟩
      · obtain rfl : m = 10 := by simp only [Ch.r] at hm; omega
        subst hl
        subst ha
        dsimp only [Ch.bl, Ch.br, Ch.lv, Ch.rv]
        refine wpAnyH_ready (rs := [5, 12]) (by kernel_rfl) (by simp) ?_
        refine AllReadyH.cons rfl (fun K hK => ?_) (AllReadyH.cons rfl (fun K hK => ?_) AllReadyH.nil)
        · rw [if_pos (by rfl)]
          obtain ⟨G, C, w', hr, hO'⟩ := hO.ch_app (z := .string ⟨#[]⟩) (by_ := 16) Tryz.underlying26 info9r rfl (by omega) 0 rfl (Y1.out _ _ hO) (by rw [txsD_length]; exact HN.out.symm) HN1.out HN2.out (txsD_cell _) c1
          refine wp_builtin2_runR .append Builtin.append_ _ _ _ _ rfl (fun _ _ _ => rfl) _ _ rfl rfl hr ?_
          refine hK.out _ _ (KEEP.out _ _ hO') (fun _ => ?_)
          clear hK K
          try simp only [List.getElem_toArray, List.getElem_cons_zero, List.getElem_cons_succ, Act.put, List.setIfInBounds_toArray, List.set_cons_zero, List.set_cons_succ]
          exact IH 9 _ _ _ (by decide) ⟨(.c u1 G C), (.b u2), .a, rfl, rfl, rfl, hO'⟩
        · go_simp
          have hO' := hO.ch_lit 2 rfl
          refine hK.out _ _ (KEEP.out _ _ hO') (fun _ => ?_)
          clear hK K
          try simp only [List.getElem_toArray, List.getElem_cons_zero, List.getElem_cons_succ, Act.put, List.setIfInBounds_toArray, List.set_cons_zero, List.set_cons_succ]
          exact IH 9 _ _ _ (by decide) ⟨(.b u1), (.b u2), (.b W.heap.size), rfl, rfl, rfl, hO'⟩
      · obtain rfl : m = 9 := by simp only [Ch.r] at hm; omega
        subst hl
        subst ha
        dsimp only [Ch.bl, Ch.br, Ch.lv, Ch.rv]
        refine wpAnyH_ready (rs := [5]) (by kernel_rfl) (by simp) ?_
        refine AllReadyH.cons rfl (fun K hK => ?_) AllReadyH.nil
        · rw [if_pos (by rfl)]
          obtain ⟨G, C, w', hr, hO'⟩ := hO.ch_app (z := .string ⟨#[]⟩) (by_ := 16) Tryz.underlying26 info9r rfl (by omega) 0 rfl (Y1.out _ _ hO) (by rw [txsD_length]; exact HN.out.symm) HN1.out HN2.out (txsD_cell _) c1
          refine wp_builtin2_runR .append Builtin.append_ _ _ _ _ rfl (fun _ _ _ => rfl) _ _ rfl rfl hr ?_
          refine hK.out _ _ (KEEP.out _ _ hO') (fun _ => ?_)
          clear hK K
          try simp only [List.getElem_toArray, List.getElem_cons_zero, List.getElem_cons_succ, Act.put, List.setIfInBounds_toArray, List.set_cons_zero, List.set_cons_succ]
          exact IH 8 _ _ _ (by decide) ⟨(.c u1 G C), (.b u2), (.b u3), rfl, rfl, rfl, hO'⟩
      · obtain rfl : m = 8 := by simp only [Ch.r] at hm; omega
        subst hl
        subst ha
        dsimp only [Ch.bl, Ch.br, Ch.lv, Ch.rv]
        refine wpAnyH_ready (rs := [5]) (by kernel_rfl) (by simp) ?_
        refine AllReadyH.cons rfl (fun K hK => ?_) AllReadyH.nil
        · rw [if_pos (by rfl)]
          obtain ⟨G, C, w', hr, hO'⟩ := hO.ch_app (z := .string ⟨#[]⟩) (by_ := 16) Tryz.underlying26 info9r rfl (by omega) 0 rfl (Y1.out _ _ hO) (by rw [txsD_length]; exact HN.out.symm) HN1.out HN2.out (txsD_cell _) c1
          refine wp_builtin2_runR .append Builtin.append_ _ _ _ _ rfl (fun _ _ _ => rfl) _ _ rfl rfl hr ?_
          refine hK.out _ _ (KEEP.out _ _ hO') (fun _ => ?_)
          clear hK K
          try simp only [List.getElem_toArray, List.getElem_cons_zero, List.getElem_cons_succ, Act.put, List.setIfInBounds_toArray, List.set_cons_zero, List.set_cons_succ]
          exact IH 7 _ _ _ (by decide) ⟨(.c u1 G C), (.b u2), (.c l3 r3 t3), rfl, rfl, rfl, hO'⟩
    · rcases x3 with _ | u3 | ⟨l3, r3, t3⟩
      · obtain rfl : m = 9 := by simp only [Ch.r] at hm; omega
        subst hl
        subst ha
        dsimp only [Ch.bl, Ch.br, Ch.lv, Ch.rv]
        refine wpAnyH_ready (rs := [5, 12]) (by kernel_rfl) (by simp) ?_
        refine AllReadyH.cons rfl (fun K hK => ?_) (AllReadyH.cons rfl (fun K hK => ?_) AllReadyH.nil)
        · rw [if_pos (by rfl)]
          obtain ⟨G, C, w', hr, hO'⟩ := hO.ch_app (z := .string ⟨#[]⟩) (by_ := 16) Tryz.underlying26 info9r rfl (by omega) 0 rfl (Y1.out _ _ hO) (by rw [txsD_length]; exact HN.out.symm) HN1.out HN2.out (txsD_cell _) c1
          refine wp_builtin2_runR .append Builtin.append_ _ _ _ _ rfl (fun _ _ _ => rfl) _ _ rfl rfl hr ?_
          refine hK.out _ _ (KEEP.out _ _ hO') (fun _ => ?_)
          clear hK K
          try simp only [List.getElem_toArray, List.getElem_cons_zero, List.getElem_cons_succ, Act.put, List.setIfInBounds_toArray, List.set_cons_zero, List.set_cons_succ]
          exact IH 8 _ _ _ (by decide) ⟨(.c u1 G C), (.c l2 r2 t2), .a, rfl, rfl, rfl, hO'⟩
        · go_simp
          have hO' := hO.ch_lit 2 rfl
          refine hK.out _ _ (KEEP.out _ _ hO') (fun _ => ?_)
          clear hK K
          try simp only [List.getElem_toArray, List.getElem_cons_zero, List.getElem_cons_succ, Act.put, List.setIfInBounds_toArray, List.set_cons_zero, List.set_cons_succ]
          exact IH 8 _ _ _ (by decide) ⟨(.b u1), (.c l2 r2 t2), (.b W.heap.size), rfl, rfl, rfl, hO'⟩
      · obtain rfl : m = 8 := by simp only [Ch.r] at hm; omega
        subst hl
        subst ha
        dsimp only [Ch.bl, Ch.br, Ch.lv, Ch.rv]
        refine wpAnyH_ready (rs := [5, 17]) (by kernel_rfl) (by simp) ?_
        refine AllReadyH.cons rfl (fun K hK => ?_) (AllReadyH.cons rfl (fun K hK => ?_) AllReadyH.nil)
        · rw [if_pos (by rfl)]
          obtain ⟨G, C, w', hr, hO'⟩ := hO.ch_app (z := .string ⟨#[]⟩) (by_ := 16) Tryz.underlying26 info9r rfl (by omega) 0 rfl (Y1.out _ _ hO) (by rw [txsD_length]; exact HN.out.symm) HN1.out HN2.out (txsD_cell _) c1
          refine wp_builtin2_runR .append Builtin.append_ _ _ _ _ rfl (fun _ _ _ => rfl) _ _ rfl rfl hr ?_
          refine hK.out _ _ (KEEP.out _ _ hO') (fun _ => ?_)
          clear hK K
          try simp only [List.getElem_toArray, List.getElem_cons_zero, List.getElem_cons_succ, Act.put, List.setIfInBounds_toArray, List.set_cons_zero, List.set_cons_succ]
          exact IH 7 _ _ _ (by decide) ⟨(.c u1 G C), (.c l2 r2 t2), (.b u3), rfl, rfl, rfl, hO'⟩
        · rw [if_pos (by rfl)]
          obtain ⟨G, C, w', hr, hO'⟩ := hO.ch_app (z := .bool false) (by_ := 1) Tryz.underlying93 info4r rfl (by omega) 2 rfl (Y3.out _ _ hO) (by rw [bls_length, HOK.out.hw]; exact HN.out.symm) HN1.out HN2.out (bls_cell _) c3
          refine wp_builtin2_runR .append Builtin.append_ _ _ _ _ rfl (fun _ _ _ => rfl) _ _ rfl rfl hr ?_
          refine hK.out _ _ (KEEP.out _ _ hO') (fun _ => ?_)
          clear hK K
          try simp only [List.getElem_toArray, List.getElem_cons_zero, List.getElem_cons_succ, Act.put, List.setIfInBounds_toArray, List.set_cons_zero, List.set_cons_succ]
          exact IH 7 _ _ _ (by decide) ⟨(.b u1), (.c l2 r2 t2), (.c u3 G C), rfl, rfl, rfl, hO'⟩
      · obtain rfl : m = 7 := by simp only [Ch.r] at hm; omega
        subst hl
        subst ha
        dsimp only [Ch.bl, Ch.br, Ch.lv, Ch.rv]
        refine wpAnyH_ready (rs := [5]) (by kernel_rfl) (by simp) ?_
        refine AllReadyH.cons rfl (fun K hK => ?_) AllReadyH.nil
        · rw [if_pos (by rfl)]
          obtain ⟨G, C, w', hr, hO'⟩ := hO.ch_app (z := .string ⟨#[]⟩) (by_ := 16) Tryz.underlying26 info9r rfl (by omega) 0 rfl (Y1.out _ _ hO) (by rw [txsD_length]; exact HN.out.symm) HN1.out HN2.out (txsD_cell _) c1
          refine wp_builtin2_runR .append Builtin.append_ _ _ _ _ rfl (fun _ _ _ => rfl) _ _ rfl rfl hr ?_
          refine hK.out _ _ (KEEP.out _ _ hO') (fun _ => ?_)
          clear hK K
          try simp only [List.getElem_toArray, List.getElem_cons_zero, List.getElem_cons_succ, Act.put, List.setIfInBounds_toArray, List.set_cons_zero, List.set_cons_succ]
          exact IH 6 _ _ _ (by decide) ⟨(.c u1 G C), (.c l2 r2 t2), (.c l3 r3 t3), rfl, rfl, rfl, hO'⟩
  · rcases x2 with _ | u2 | ⟨l2, r2, t2⟩
    · rcases x3 with _ | u3 | ⟨l3, r3, t3⟩
      · obtain rfl : m = 10 := by simp only [Ch.r] at hm; omega
        subst hl
        subst ha
        dsimp only [Ch.bl, Ch.br, Ch.lv, Ch.rv]
        refine wpAnyH_ready (rs := [6, 12]) (by kernel_rfl) (by simp) ?_
        refine AllReadyH.cons rfl (fun K hK => ?_) (AllReadyH.cons rfl (fun K hK => ?_) AllReadyH.nil)
        · go_simp
          have hO' := hO.ch_lit 1 rfl
          refine hK.out _ _ (KEEP.out _ _ hO') (fun _ => ?_)
          clear hK K
          try simp only [List.getElem_toArray, List.getElem_cons_zero, List.getElem_cons_succ, Act.put, List.setIfInBounds_toArray, List.set_cons_zero, List.set_cons_succ]
          exact IH 9 _ _ _ (by decide) ⟨(.c l1 r1 t1), (.b W.heap.size), .a, rfl, rfl, rfl, hO'⟩
        · go_simp
          have hO' := hO.ch_lit 2 rfl
          refine hK.out _ _ (KEEP.out _ _ hO') (fun _ => ?_)
          clear hK K
          try simp only [List.getElem_toArray, List.getElem_cons_zero, List.getElem_cons_succ, Act.put, List.setIfInBounds_toArray, List.set_cons_zero, List.set_cons_succ]
          exact IH 9 _ _ _ (by decide) ⟨(.c l1 r1 t1), .a, (.b W.heap.size), rfl, rfl, rfl, hO'⟩
      · obtain rfl : m = 9 := by simp only [Ch.r] at hm; omega
        subst hl
        subst ha
        dsimp only [Ch.bl, Ch.br, Ch.lv, Ch.rv]
        refine wpAnyH_ready (rs := [6]) (by kernel_rfl) (by simp) ?_
        refine AllReadyH.cons rfl (fun K hK => ?_) AllReadyH.nil
        · go_simp
          have hO' := hO.ch_lit 1 rfl
          refine hK.out _ _ (KEEP.out _ _ hO') (fun _ => ?_)
          clear hK K
          try simp only [List.getElem_toArray, List.getElem_cons_zero, List.getElem_cons_succ, Act.put, List.setIfInBounds_toArray, List.set_cons_zero, List.set_cons_succ]
          exact IH 8 _ _ _ (by decide) ⟨(.c l1 r1 t1), (.b W.heap.size), (.b u3), rfl, rfl, rfl, hO'⟩
      · obtain rfl : m = 8 := by simp only [Ch.r] at hm; omega
        subst hl
        subst ha
        dsimp only [Ch.bl, Ch.br, Ch.lv, Ch.rv]
        refine wpAnyH_ready (rs := [6]) (by kernel_rfl) (by simp) ?_
        refine AllReadyH.cons rfl (fun K hK => ?_) AllReadyH.nil
        · go_simp
          have hO' := hO.ch_lit 1 rfl
          refine hK.out _ _ (KEEP.out _ _ hO') (fun _ => ?_)
          clear hK K
          try simp only [List.getElem_toArray, List.getElem_cons_zero, List.getElem_cons_succ, Act.put, List.setIfInBounds_toArray, List.set_cons_zero, List.set_cons_succ]
          exact IH 7 _ _ _ (by decide) ⟨(.c l1 r1 t1), (.b W.heap.size), (.c l3 r3 t3), rfl, rfl, rfl, hO'⟩
    · rcases x3 with _ | u3 | ⟨l3, r3, t3⟩
      · obtain rfl : m = 9 := by simp only [Ch.r] at hm; omega
        subst hl
        subst ha
        dsimp only [Ch.bl, Ch.br, Ch.lv, Ch.rv]
        refine wpAnyH_ready (rs := [11, 12]) (by kernel_rfl) (by simp) ?_
        refine AllReadyH.cons rfl (fun K hK => ?_) (AllReadyH.cons rfl (fun K hK => ?_) AllReadyH.nil)
        · rw [if_pos (by rfl)]
          obtain ⟨G, C, w', hr, hO'⟩ := hO.ch_app (z := .string ⟨#[]⟩) (by_ := 16) Tryz.underlying26 info9r rfl (by omega) 1 rfl (Y2.out _ _ hO) (by rw [txsD_length, HOK.out.hn]; exact HN.out.symm) HN1.out HN2.out (txsD_cell _) c2
          refine wp_builtin2_runR .append Builtin.append_ _ _ _ _ rfl (fun _ _ _ => rfl) _ _ rfl rfl hr ?_
          refine hK.out _ _ (KEEP.out _ _ hO') (fun _ => ?_)
          clear hK K
          try simp only [List.getElem_toArray, List.getElem_cons_zero, List.getElem_cons_succ, Act.put, List.setIfInBounds_toArray, List.set_cons_zero, List.set_cons_succ]
          exact IH 8 _ _ _ (by decide) ⟨(.c l1 r1 t1), (.c u2 G C), .a, rfl, rfl, rfl, hO'⟩
        · go_simp
          have hO' := hO.ch_lit 2 rfl
          refine hK.out _ _ (KEEP.out _ _ hO') (fun _ => ?_)
          clear hK K
          try simp only [List.getElem_toArray, List.getElem_cons_zero, List.getElem_cons_succ, Act.put, List.setIfInBounds_toArray, List.set_cons_zero, List.set_cons_succ]
          exact IH 8 _ _ _ (by decide) ⟨(.c l1 r1 t1), (.b u2), (.b W.heap.size), rfl, rfl, rfl, hO'⟩
      · obtain rfl : m = 8 := by simp only [Ch.r] at hm; omega
        subst hl
        subst ha
        dsimp only [Ch.bl, Ch.br, Ch.lv, Ch.rv]
        refine wpAnyH_ready (rs := [11]) (by kernel_rfl) (by simp) ?_
        refine AllReadyH.cons rfl (fun K hK => ?_) AllReadyH.nil
        · rw [if_pos (by rfl)]
          obtain ⟨G, C, w', hr, hO'⟩ := hO.ch_app (z := .string ⟨#[]⟩) (by_ := 16) Tryz.underlying26 info9r rfl (by omega) 1 rfl (Y2.out _ _ hO) (by rw [txsD_length, HOK.out.hn]; exact HN.out.symm) HN1.out HN2.out (txsD_cell _) c2
          refine wp_builtin2_runR .append Builtin.append_ _ _ _ _ rfl (fun _ _ _ => rfl) _ _ rfl rfl hr ?_
          refine hK.out _ _ (KEEP.out _ _ hO') (fun _ => ?_)
          clear hK K
          try simp only [List.getElem_toArray, List.getElem_cons_zero, List.getElem_cons_succ, Act.put, List.setIfInBounds_toArray, List.set_cons_zero, List.set_cons_succ]
          exact IH 7 _ _ _ (by decide) ⟨(.c l1 r1 t1), (.c u2 G C), (.b u3), rfl, rfl, rfl, hO'⟩
      · obtain rfl : m = 7 := by simp only [Ch.r] at hm; omega
        subst hl
        subst ha
        dsimp only [Ch.bl, Ch.br, Ch.lv, Ch.rv]
        refine wpAnyH_ready (rs := [11]) (by kernel_rfl) (by simp) ?_
        refine AllReadyH.cons rfl (fun K hK => ?_) AllReadyH.nil
        · rw [if_pos (by rfl)]
          obtain ⟨G, C, w', hr, hO'⟩ := hO.ch_app (z := .string ⟨#[]⟩) (by_ := 16) Tryz.underlying26 info9r rfl (by omega) 1 rfl (Y2.out _ _ hO) (by rw [txsD_length, HOK.out.hn]; exact HN.out.symm) HN1.out HN2.out (txsD_cell _) c2
          refine wp_builtin2_runR .append Builtin.append_ _ _ _ _ rfl (fun _ _ _ => rfl) _ _ rfl rfl hr ?_
          refine hK.out _ _ (KEEP.out _ _ hO') (fun _ => ?_)
          clear hK K
          try simp only [List.getElem_toArray, List.getElem_cons_zero, List.getElem_cons_succ, Act.put, List.setIfInBounds_toArray, List.set_cons_zero, List.set_cons_succ]
          exact IH 6 _ _ _ (by decide) ⟨(.c l1 r1 t1), (.c u2 G C), (.c l3 r3 t3), rfl, rfl, rfl, hO'⟩
    · rcases x3 with _ | u3 | ⟨l3, r3, t3⟩
      · obtain rfl : m = 8 := by simp only [Ch.r] at hm; omega
        subst hl
        subst ha
        dsimp only [Ch.bl, Ch.br, Ch.lv, Ch.rv]
        refine wpAnyH_ready (rs := [12]) (by kernel_rfl) (by simp) ?_
        refine AllReadyH.cons rfl (fun K hK => ?_) AllReadyH.nil
        · go_simp
          have hO' := hO.ch_lit 2 rfl
          refine hK.out _ _ (KEEP.out _ _ hO') (fun _ => ?_)
          clear hK K
          try simp only [List.getElem_toArray, List.getElem_cons_zero, List.getElem_cons_succ, Act.put, List.setIfInBounds_toArray, List.set_cons_zero, List.set_cons_succ]
          exact IH 7 _ _ _ (by decide) ⟨(.c l1 r1 t1), (.c l2 r2 t2), (.b W.heap.size), rfl, rfl, rfl, hO'⟩
      · obtain rfl : m = 7 := by simp only [Ch.r] at hm; omega
        subst hl
        subst ha
        dsimp only [Ch.bl, Ch.br, Ch.lv, Ch.rv]
        refine wpAnyH_ready (rs := [17]) (by kernel_rfl) (by simp) ?_
        refine AllReadyH.cons rfl (fun K hK => ?_) AllReadyH.nil
        · rw [if_pos (by rfl)]
          obtain ⟨G, C, w', hr, hO'⟩ := hO.ch_app (z := .bool false) (by_ := 1) Tryz.underlying93 info4r rfl (by omega) 2 rfl (Y3.out _ _ hO) (by rw [bls_length, HOK.out.hw]; exact HN.out.symm) HN1.out HN2.out (bls_cell _) c3
          refine wp_builtin2_runR .append Builtin.append_ _ _ _ _ rfl (fun _ _ _ => rfl) _ _ rfl rfl hr ?_
          refine hK.out _ _ (KEEP.out _ _ hO') (fun _ => ?_)
          clear hK K
          try simp only [List.getElem_toArray, List.getElem_cons_zero, List.getElem_cons_succ, Act.put, List.setIfInBounds_toArray, List.set_cons_zero, List.set_cons_succ]
          exact IH 6 _ _ _ (by decide) ⟨(.c l1 r1 t1), (.c l2 r2 t2), (.c u3 G C), rfl, rfl, rfl, hO'⟩
      · obtain rfl : m = 6 := by simp only [Ch.r] at hm; omega
        subst hl
        subst ha
        dsimp only [Ch.bl, Ch.br, Ch.lv, Ch.rv]
        have hHeld := KEEP.out _ _ hO
        clear IH hm
        have hO1 : Below w1.heap.size w1 W := hO.bel
        have hqW := (hO1.block q HG1.out).trans HBK.out
        have d0 := cellAt hqW 0
        have f0 := freeAt hqW 0
        have d1 := cellAt hqW 1
        have f1 := freeAt hqW 1
        have d2 := cellAt hqW 2
        have f2 := freeAt hqW 2
        have HQW := Lib.hid hqW
        have HO := Lib.hid hO
        clear hqW hO hO1
        refine wpAnyH_take (i := 18) (v := ?vv18_2) rfl (by kernel_rfl) (by kernel_rfl) (by kernel_rfl) (fun _ _ _ h => h) (Or.inl ⟨by rfl, ?hy18_2⟩) (by assumption) ?rest18_2
        case hy18_2 => (intro w' hSw; (try dsimp only at hSw); go_simp; try with_reducible rfl)
        try simp only [List.getElem_toArray, List.getElem_cons_zero, List.getElem_cons_succ, Act.put, List.setIfInBounds_toArray, List.set_cons_zero, List.set_cons_succ]
        refine wpAnyH_ready (rs := [19]) (by kernel_rfl) (by simp) ?_
        refine AllReadyH.cons rfl (fun K hK => ?_) AllReadyH.nil
        go_simp
        refine hK.out _ _ ((Below.heap_setCell _ _ _ _ HPQ.out).trans hHeld) (fun hHeld => ?_)
        clear hK K
        try simp only [List.getElem_toArray, List.getElem_cons_zero, List.getElem_cons_succ, Act.put, List.setIfInBounds_toArray, List.set_cons_zero, List.set_cons_succ]
        refine wpAnyH_take (i := 20) (v := ?vv20_2) rfl (by kernel_rfl) (by kernel_rfl) (by kernel_rfl) (fun _ _ _ h => h) (Or.inl ⟨by rfl, ?hy20_2⟩) (by assumption) ?rest20_2
        case hy20_2 => (intro w' hSw; (try dsimp only at hSw); go_simp; try with_reducible rfl)
        try simp only [List.getElem_toArray, List.getElem_cons_zero, List.getElem_cons_succ, Act.put, List.setIfInBounds_toArray, List.set_cons_zero, List.set_cons_succ]
        refine wpAnyH_ready (rs := [21]) (by kernel_rfl) (by simp) ?_
        refine AllReadyH.cons rfl (fun K hK => ?_) AllReadyH.nil
        go_simp
        refine hK.out _ _ ((Below.heap_setCell _ _ _ _ HPQ.out).trans hHeld) (fun hHeld => ?_)
        clear hK K
        try simp only [List.getElem_toArray, List.getElem_cons_zero, List.getElem_cons_succ, Act.put, List.setIfInBounds_toArray, List.set_cons_zero, List.set_cons_succ]
        refine wpAnyH_take (i := 22) (v := ?vv22_2) rfl (by kernel_rfl) (by kernel_rfl) (by kernel_rfl) (fun _ _ _ h => h) (Or.inl ⟨by rfl, ?hy22_2⟩) (by assumption) ?rest22_2
        case hy22_2 => (intro w' hSw; (try dsimp only at hSw); go_simp; try with_reducible rfl)
        try simp only [List.getElem_toArray, List.getElem_cons_zero, List.getElem_cons_succ, Act.put, List.setIfInBounds_toArray, List.set_cons_zero, List.set_cons_succ]
        refine wpAnyH_ready (rs := [23]) (by kernel_rfl) (by simp) ?_
        refine AllReadyH.cons rfl (fun K hK => ?_) AllReadyH.nil
        go_simp
        refine hK.out _ _ ((Below.heap_setCell _ _ _ _ HPQ.out).trans hHeld) (fun hHeld => ?_)
        clear hK K
        try simp only [List.getElem_toArray, List.getElem_cons_zero, List.getElem_cons_succ, Act.put, List.setIfInBounds_toArray, List.set_cons_zero, List.set_cons_succ]
        refine wpAnyH_done (by kernel_rfl) ?_ _
        go_wp2_with fail
        go_ret
        have hgF := blk_set (blk_set (blk_set HQW.out 0 (.slice (some ⟨r1, 0, none⟩) n t1)) 1 (.slice (some ⟨r2, 0, none⟩) n t2)) 2 (.slice (some ⟨r3, 0, none⟩) n t3)
        have hk2 : Kp [q] W (((W.setCell ⟨q, 0, none⟩ (.slice (some ⟨r1, 0, none⟩) n t1)).setCell ⟨q, 1, none⟩ (.slice (some ⟨r2, 0, none⟩) n t2)).setCell ⟨q, 2, none⟩ (.slice (some ⟨r3, 0, none⟩) n t3)) := (((Kp.refl _ _).setCell (by simp) _).setCell (by simp) _).setCell (by simp) _
        have b1 := (HO.out.this 0 _ rfl).2.1 r1 (by simp [chOb])
        have z1 : XR W 9 r1 t1 _ := HO.out.get (i := 0) rfl
        have b2 := (HO.out.this 1 _ rfl).2.1 r2 (by simp [chOb])
        have z2 : XR W 9 r2 t2 _ := HO.out.get (i := 1) rfl
        have b3 := (HO.out.this 2 _ rfl).2.1 r3 (by simp [chOb])
        have z3 : XR W 4 r3 t3 _ := HO.out.get (i := 2) rfl
        have n12 : r1 ≠ r2 := fun e => HO.out.apart 0 1 _ _ rfl rfl (by decide) r1 (by simp [chOb]) (by simp [chOb, e])
        have n13 : r1 ≠ r3 := fun e => HO.out.apart 0 2 _ _ rfl rfl (by decide) r1 (by simp [chOb]) (by simp [chOb, e])
        have n23 : r2 ≠ r3 := fun e => HO.out.apart 1 2 _ _ rfl rfl (by decide) r2 (by simp [chOb]) (by simp [chOb, e])
        have hgq := HG1.out
        have hgn := HGN.out
        have hbb : Below w.heap.size w (((W.setCell ⟨q, 0, none⟩ (.slice (some ⟨r1, 0, none⟩) n t1)).setCell ⟨q, 1, none⟩ (.slice (some ⟨r2, 0, none⟩) n t2)).setCell ⟨q, 2, none⟩ (.slice (some ⟨r3, 0, none⟩) n t3)) := (((HB1.out.trans (HO.out.bel.mono HB1.out.size)).setCell HGN.out _).setCell HGN.out _).setCell HGN.out _
        have hsz := HB1.out.size
        refine ⟨q, r1, r2, r3, rfl, ⟨HOK.out, ⟨t1, t2, t3, left, fails, ?_, z1.of_block (hk2.block r1 b1.2 (by simp; omega)), z2.of_block (hk2.block r2 b2.2 (by simp; omega)), z3.of_block (hk2.block r3 b3.2 (by simp; omega)), HR.out⟩, ⟨by omega, by omega, by omega, n12, n13, n23⟩⟩, hbb, fun b hb => ?_⟩
        · rw [HN.out, hgF]; simp [rCells]
        · simp at hb; rcases hb with rfl | rfl | rfl | rfl <;> omega
end Go.Proofs.YthfnncahmccgkaaGreatDoor


