/-
  A row put behind a row of one's own; what the laws read of chains.
-/
import Derived.Test.YtoinicmhkfomjaaGreatDoorJWm
namespace Go.Proofs.YtoinicmhkfomjaaGreatDoor
set_option linter.unusedSimpArgs false
set_option linter.unusedVariables false
open Go Go.RowKit
set_option maxRecDepth 100000

theorem few5.len {xs : List (List UInt8)} (h : few5 xs) : xs.length ≤ 1200 := h.1
theorem owns_emptyG {W : World} {base g : Nat} (hg : W.heap[g]? = some (.cells #[] 9 (0, 0))) (hb : base ≤ g) : TW base W (.slice (some ⟨g, 0, none⟩) 0 0) [] :=
  ⟨by simp, .inr ⟨g, 0, #[], rfl, hb, hg, Nat.le_refl _, by decide, rfl, by simp⟩⟩
/-- An append of a row, none too. -/
theorem tw_row {base : Nat} {W : World} {v : Value} {xs ys : List (List UInt8)} {A : Option Addr} {c : Nat} (h : TW base W v xs) (hx : SX W (.slice A ys.length c) ys) (hb : base ≤ W.heap.size) (hl : ys.length ≤ 1000000) (hl2 : xs.length ≤ 1000000) :
    ∃ A' cap w2, (Builtin.append_ #[25, 25] 25 #[v, .slice A ys.length c]).run Tryz.prog W = .ok (.slice A' (xs.length + ys.length) cap) w2 ∧
      TW base w2 (.slice A' (xs.length + ys.length) cap) (xs ++ ys) ∧ W.grownBy w2 v.ownBlock := by
  obtain ⟨i, hi, hz0, hz1, hz2⟩ := info_parts info_text
  rcases Nat.eq_zero_or_pos ys.length with h0 | hp
  · obtain rfl : ys = [] := List.length_eq_zero_iff.1 h0
    obtain ⟨A', c', rfl, hcap⟩ := h.cap
    have hcap2 : ¬ c' < xs.length := by omega
    refine ⟨A', c', W, ?_, by rw [List.append_nil]; exact h, ⟨rfl, rfl, rfl, Nat.le_refl _, fun _ _ _ => rfl⟩⟩
    cases A <;> cases A' <;> simp [Builtin.append_, run_underlying Tryz.underlying25, sizeOf, typeInfo, hi, Builtin.lenOf, Builtin.firstCells, storeCells, loadCells, loadCellsFrom, hcap2]
  · obtain ⟨A', c', e, h2⟩ := hx
    simp only [Value.slice.injEq] at e
    obtain ⟨rfl, _, rfl⟩ := e
    obtain ⟨g, off, rfl, hg, hc⟩ := h2 hp
    obtain ⟨g', cap', W', h1, h2, h3, _, _⟩ := run_append_lies (P := Tryz.prog) W 25 25 base 9 i _ 1 16 Tryz.underlying25 hi hz0 hz1 hz2 rfl (by decide) v xs.length (xs.map sv) h ⟨g, off, none⟩ ys.length c (ys.map sv) (by simp) (fun j u hu => by
        have hj : j < ys.length := by
          rcases Nat.lt_or_ge j ys.length with h | h
          · exact h
          · rw [List.getElem?_eq_none (by simpa using h)] at hu; cases hu
        have hadd : (⟨g, off, none⟩ : Addr).add j = ⟨g, off + j, none⟩ := by unfold Addr.add; split <;> simp_all
        rw [hadd, hc j hj, ← hu, List.getElem?_map, List.getElem?_eq_getElem hj, List.getD_eq_getElem?_getD, List.getElem?_eq_getElem hj]; try rfl)
      texts_one hp (by unfold maxLen; omega) (by omega) (by omega) _ rfl
    refine ⟨some ⟨g', 0, none⟩, cap', W', h1, ?_, h3⟩
    unfold TW
    rw [List.length_append, List.map_append]
    exact h2
theorem CR.cells {W : World} {g off n c1 : Nat} {a1 : Option Addr} {l : List Ct} {nv : Nat → Value} (h : CR W (some ⟨g, off, none⟩) l nv) (hp : 0 < l.length) (e : nv 0 = .slice a1 n c1) :
    (W.cell? ⟨g, off, none⟩ = some (sv (ctAt l 0).key) ∧ W.cell? ⟨g, off + 1, none⟩ = some (sv (ctAt l 0).sig) ∧ W.cell? ⟨g, off + 2, none⟩ = some (.slice a1 n c1) ∧ W.cell? ⟨g, off + 3, none⟩ = some (.int .i64 (ctAt l 0).fr) ∧ W.cell? ⟨g, off + 4, none⟩ = some (.int .i64 (ctAt l 0).un) ∧ W.cell? ⟨g, off + 5, none⟩ = some (.bool (ctAt l 0).ca)) ∧ SX W (.slice a1 n c1) (ctAt l 0).names := by
  obtain ⟨g', off', e', _, hc⟩ := h hp
  simp only [Option.some.injEq, Addr.mk.injEq] at e'
  obtain ⟨rfl, rfl, _⟩ := e'
  obtain ⟨hcc, hsx⟩ := hc 0 hp
  rw [e] at hcc hsx
  rw [show off + 0 * 6 = off by omega] at hcc
  exact ⟨⟨hcc.c0, hcc.c1, hcc.c2, hcc.c3, hcc.c4, hcc.c5⟩, hsx⟩
section
variable {P : World → Prop} {W : World} (hP : Ca P) (h : P W)
include hP h
theorem read_p {chain : List (List UInt8)} {A : Option Addr} {cp : Nat} (hx : SX W (.slice A chain.length cp) chain) (hl : few5 chain) (hcp : chain.length ≤ cp) :
    Calls Tryz.prog 34 #[.slice A chain.length cp] W fun e w' => ∃ A0 c0 nv, e = .returned (.slice A0 (chainT chain).length c0) ∧ (chainT chain).length ≤ c0 ∧ P w' ∧ CR w' A0 (chainT chain) nv :=
  (tread_any chain A cp hx (fun s hs => by have := hl.2 s hs; omega) hcp (by have := hl.1; omega) (hP.ga h).gl).mono fun e w' ⟨v, ps, h1, h2, h3, h4, h5⟩ => by
    obtain ⟨A0, c0, rfl, hc, hcr⟩ := h3.cr h4
    have hl : ps.length = (chainT chain).length := by rw [← h2, List.length_map]
    rw [h2] at hcr
    exact ⟨A0, c0, _, by rw [h1, hl], by rw [← hl]; exact hc, hP.step h h5, hcr⟩
theorem dates_p (c : Ct) (a : Option Addr) (n cc : Nat) (now : Int) :
    Calls Tryz.prog 38 #[.agg #[sv c.key, sv c.sig, .slice a n cc, .int .i64 c.fr, .int .i64 c.un, .bool c.ca], .int .i64 now] W fun e w' => e = .returned (.bool (dateB c now)) ∧ P w' :=
  (dates_any c a n cc now).mono fun e w' ⟨h1, h2⟩ => ⟨h1, hP.step h h2⟩
theorem host_p (c : Ct) (a : Option Addr) (cc : Nat) (host : List UInt8) (hx : SX W (.slice a c.names.length cc) c.names) (hs : shortC c) (hh : host.length ≤ 3000) :
    Calls Tryz.prog 37 #[.agg #[sv c.key, sv c.sig, .slice a c.names.length cc, .int .i64 c.fr, .int .i64 c.un, .bool c.ca], sv host] W fun e w' => e = .returned (.bool (hostB c host)) ∧ P w' :=
  (host_any c a cc host hx hs (by omega) (hP.ga h).ml).mono fun e w' ⟨h1, h2⟩ => ⟨h1, hP.step h h2⟩
theorem anch_p {l : List Ct} {A : Option Addr} {cp : Nat} {nv : Nat → Value} (now : Int) {an : List (List UInt8)} {B : Option Addr} {bc : Nat} (hr : CR W A l nv) (hs : shortR l) (hcp : l.length ≤ cp) (ha : SX W (.slice B an.length bc) an) (hal : an.length ≤ 1000000) :
    Calls Tryz.prog 36 #[.slice A l.length cp, .int .i64 now, .slice B an.length bc] W fun e w' => e = .returned (.bool (anchB l now an)) ∧ P w' :=
  (anch_any l A cp nv now an B bc hr hs hcp ha (by omega) (hP.ga h)).mono fun e w' ⟨h1, h2⟩ => ⟨h1, hP.step h h2⟩
end
section
variable {P : World → Prop} {W : World} (hP : Ca P) (h : P W)
include hP h
theorem judge_more {chain : List (List UInt8)} {A : Option Addr} {cp : Nat} {host : List UInt8} (now : Int) {an more : List (List UInt8)} {B : Option Addr} {bc : Nat} (hx : SX W (.slice A chain.length cp) chain) (hl : few5 chain) (hcp : chain.length ≤ cp) (hh : host.length ≤ 3000)
    (ha : SX W (.slice B (more.length + an.length) bc) (more ++ an)) (h1 : more.length ≤ 1200) (h2 : an.length ≤ 1200) (hj : judgeN chain host now (more ++ an) = 0) :
    Calls Tryz.prog 32 #[.slice A chain.length cp, sv host, .int .i64 now, .slice B (more.length + an.length) bc] W fun e w' => e = .returned (.int .u8 0) ∧ P w' := by
  have := judge_p hP h (an := more ++ an) (B := B) (bc := bc) now hx hl hcp hh (by rw [List.length_append]; exact ha) (by rw [List.length_append]; omega)
  rw [hj, List.length_append] at this
  exact this
theorem judge_behind {chain behind : List (List UInt8)} {A : Option Addr} {cp : Nat} {host : List UInt8} (now : Int) {an : List (List UInt8)} {B : Option Addr} {bc : Nat} (hx : SX W (.slice A (chain.length + behind.length) cp) (chain ++ behind)) (hl : few5 chain) (hl2 : few5 behind) (hcp : chain.length + behind.length ≤ cp) (hh : host.length ≤ 3000)
    (ha : SX W (.slice B an.length bc) an) (h2 : an.length ≤ 1200) (hj : judgeN (chain ++ behind) host now an = 0) :
    Calls Tryz.prog 32 #[.slice A (chain.length + behind.length) cp, sv host, .int .i64 now, .slice B an.length bc] W fun e w' => e = .returned (.int .u8 0) ∧ P w' := by
  have := judge_any (chain ++ behind) A cp host now an B bc (by rw [List.length_append]; exact hx) (fun s hs => by
    rcases List.mem_append.1 hs with h | h
    · have := hl.2 s h; omega
    · have := hl2.2 s h; omega) (by rw [List.length_append]; exact hcp) (by rw [List.length_append]; have := hl.1; have := hl2.1; omega) (by omega) ha (by omega) (hP.ga h)
  rw [hj, List.length_append] at this
  exact this.mono fun e w' ⟨h1, h2⟩ => ⟨h1, hP.step h h2⟩
theorem anch_more {l : List Ct} {A : Option Addr} {cp : Nat} {nv : Nat → Value} (now : Int) {an more : List (List UInt8)} {B : Option Addr} {bc : Nat} (hr : CR W A l nv) (hs : shortR l) (hcp : l.length ≤ cp) (ha : SX W (.slice B (more.length + an.length) bc) (more ++ an)) (h1 : more.length ≤ 1200) (h2 : an.length ≤ 1200) (hj : anchB l now (more ++ an) = true) :
    Calls Tryz.prog 36 #[.slice A l.length cp, .int .i64 now, .slice B (more.length + an.length) bc] W fun e w' => e = .returned (.bool true) ∧ P w' := by
  have := anch_p hP h (an := more ++ an) (B := B) (bc := bc) now hr hs hcp (by rw [List.length_append]; exact ha) (by rw [List.length_append]; omega)
  rw [hj, List.length_append] at this
  exact this
end
/-- Two rows, put one behind the other into a new one. -/
theorem app_two {P : World → Prop} (hP : Ca P) {W : World} (h : P W) {xs ys : List (List UInt8)} {A B : Option Addr} {c d : Nat} (hx : SX W (.slice A xs.length c) xs) (hy : SX W (.slice B ys.length d) ys) (hxl : xs.length ≤ 1200) (hyl : ys.length ≤ 1200) :
    ∃ A1 c1 w1 A2 c2 w2,
      (Builtin.append_ #[25, 25] 25 #[.slice (some ⟨W.heap.size, 0, none⟩) 0 0, .slice A xs.length c]).run Tryz.prog (W.alloc (.cells #[] 9)) = .ok (.slice A1 xs.length c1) w1 ∧
      (Builtin.append_ #[25, 25] 25 #[.slice A1 xs.length c1, .slice B ys.length d]).run Tryz.prog w1 = .ok (.slice A2 (xs.length + ys.length) c2) w2 ∧
      P w2 ∧ SX w2 (.slice A2 (xs.length + ys.length) c2) (xs ++ ys) ∧ xs.length + ys.length ≤ c2 := by
  have hown := owns_emptyG (base := W.heap.size) (heap_alloc_new W (.cells #[] 9)) (Nat.le_refl _)
  have hb0 := below_alloc W (.cells #[] 9)
  obtain ⟨A1, c1, w1, h1, t1, g1⟩ := tw_row hown (hx.step hb0) (by simp) (by omega) (by simp)
  simp only [List.length_nil, Nat.zero_add, List.nil_append] at h1 t1
  have hb1 : Below W.heap.size W w1 := Below.grown hb0 g1 hb0.size fun j hj => by
    simp only [Value.ownBlock, Option.some.injEq] at hj
    omega
  obtain ⟨A2, c2, w2, h2, t2, g2⟩ := tw_row t1 (hy.step hb1) hb1.size (by omega) (by omega)
  have hb2 : Below W.heap.size W w2 := Below.grown hb1 g2 hb1.size fun j hj => (t1.lt hj).1
  refine ⟨A1, c1, w1, A2, c2, w2, h1, h2, hP.step h hb2, ?_, ?_⟩
  · have := t2.sx; rw [← List.length_append]; rw [← List.length_append] at this; exact this
  · obtain ⟨A', c', e, hc⟩ := t2.cap
    simp only [Value.slice.injEq] at e
    obtain ⟨_, _, rfl⟩ := e
    rw [List.length_append] at hc; exact hc
end Go.Proofs.YtoinicmhkfomjaaGreatDoor
