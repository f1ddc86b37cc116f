/-
  What the law of the judged chain asks, with whatever lies by kept.
-/
import Derived.Test.YtnaoandleelbkaaGreatDoorJSpoil
import Derived.Test.YtnaoandleelbkaaGreatDoorJRJudge
import Derived.Test.YtnaoandleelbkaaGreatDoorJTellsP
import Derived.Test.YtnaoandleelbkaaGreatDoorJRSame
namespace Go.Proofs.YtnaoandleelbkaaGreatDoor
set_option linter.unusedSimpArgs false
set_option linter.unusedVariables false
open Go Go.RowKit
set_option maxRecDepth 100000

section
variable {P : World → Prop} {W : World} (hP : Ca P) (h : P W)
include hP h
theorem own2_p {an : List (List UInt8)} {B : Option Addr} {bc : Nat} (hy : SX W (.slice B an.length bc) an) (hl : an.length ≤ 1200) :
    ∃ A1 c1 w1, (Builtin.append_ #[25, 25] 25 #[.slice (some ⟨W.heap.size, 0, none⟩) 0 0, .slice B an.length bc]).run Tryz.prog (W.alloc (.cells #[] 9)) = .ok (.slice A1 an.length c1) w1 ∧ P w1 ∧ SX w1 (.slice A1 an.length c1) an ∧ an.length ≤ c1 := by
  have hown := owns_emptyG (base := W.heap.size) (heap_alloc_new W (.cells #[] 9)) (Nat.le_refl _)
  have hb0 := below_alloc W (.cells #[] 9)
  obtain ⟨A1, c1, w1, h1, t1, g1⟩ := tw_row hown (hy.step hb0) (by simp) (by omega) (by simp)
  simp only [List.length_nil, Nat.zero_add, List.nil_append] at h1 t1
  have hb1 : Below W.heap.size W w1 := Below.grown hb0 g1 hb0.size fun j hj => by
    simp only [Value.ownBlock, Option.some.injEq] at hj
    omega
  refine ⟨A1, c1, w1, h1, hP.step h hb1, t1.sx, ?_⟩
  rcases t1.2 with ⟨e, h0⟩ | ⟨g, cap, cur, e, _, _, hle, _⟩
  · omega
  · simp only [Value.slice.injEq] at e
    omega
theorem tread_p {chain : List (List UInt8)} {A : Option Addr} {cp : Nat} (hx : SX W (.slice A chain.length cp) chain) (hf : few5 chain) (hcp : chain.length ≤ cp) :
    Calls Tryz.prog 35 #[.slice A chain.length cp] W fun e w' => ∃ A' c' ps, e = .returned (.slice A' ps.length c') ∧ ps.map (·.1) = chainT chain ∧ Sp W A' c' w' ps ∧ P w' := by
  refine (tread2_any chain A cp hx (fun s hs => by have := hf.2 s hs; omega) hcp (by have := hf.1; omega) (hP.ga h).gl).mono ?_
  rintro e w' ⟨v, ps, rfl, hm, hco, hno, hb, hpw⟩
  obtain ⟨A', c', rfl, _⟩ := hco.form
  exact ⟨A', c', ps, rfl, hm, ⟨hco, hno, hpw, hb⟩, hP.step h hb⟩
theorem rread_p {chain : List (List UInt8)} {A : Option Addr} {cp : Nat} (hx : SX W (.slice A chain.length cp) chain) (hf : few5 chain) :
    Calls Tryz.prog 41 #[.slice A chain.length cp] W fun e w' => ∃ A' c' nv', e = .returned (.slice A' (chainT chain).length c') ∧ (chainT chain).length ≤ c' ∧ CR w' A' (chainT chain) nv' ∧ P w' := by
  refine (rread_any chain A cp hx (fun s hs => by have := hf.2 s hs; omega) (by have := hf.1; omega)).mono ?_
  rintro e w' ⟨v, ps, rfl, hm, hco, hno, hb⟩
  obtain ⟨A', c', rfl, hle, hcr⟩ := hco.cr (fun x hx => (hno x hx).sx)
  have hl : ps.length = (chainT chain).length := by rw [← hm, List.length_map]
  rw [hm] at hcr
  rw [hl] at hle ⊢
  exact ⟨A', c', _, rfl, hle, hcr, hP.step h hb⟩
theorem rjudge_p {chain : List (List UInt8)} {A : Option Addr} {cp : Nat} {host : List UInt8} (now : Int) {an : List (List UInt8)} {B : Option Addr} {bc : Nat} (hx : SX W (.slice A chain.length cp) chain) (hl : few5 chain) (hcp : chain.length ≤ cp) (hh : host.length ≤ 3000)
    (ha : SX W (.slice B an.length bc) an) (hal : an.length ≤ 1000000) :
    Calls Tryz.prog 42 #[.slice A chain.length cp, sv host, .int .i64 now, .slice B an.length bc] W fun e w' => e = .returned (.int .u8 (judgeN chain host now an : Nat)) ∧ P w' :=
  (rjudge_any chain A cp host now an B bc hx (fun s hs => by have := hl.2 s hs; omega) hcp (by have := hl.1; omega) (by omega) ha (by omega)).mono fun e w' ⟨h1, h2⟩ => ⟨h1, hP.step h h2⟩
end
/-- The reference's Same of two that are the same. -/
theorem rsame14_s {w W : World} {A : Option Addr} {cap : Nat} {ps : List Cn} (hs : Sp w A cap W ps) {c : Ct} {a b : Option Addr} {k d : Nat} (hx : SX W (.slice a c.names.length k) c.names) (hy : SX W (.slice b c.names.length d) c.names) (hc : shortC c) :
    Calls Tryz.prog 23 #[.agg #[sv c.key, sv c.sig, .slice a c.names.length k, .int .i64 c.fr, .int .i64 c.un, .bool c.ca], .agg #[sv c.key, sv c.sig, .slice b c.names.length d, .int .i64 c.fr, .int .i64 c.un, .bool c.ca]] W fun e w' => e = .returned (.bool true) ∧ Sp w A cap w' ps :=
  (rsame14_any c c a b k d hx hy hc.2.2.1 hc.2.2.1).mono fun e w' ⟨h1, h2⟩ => ⟨by rw [h1, sameB_iff.2 rfl], hs.step h2⟩
end Go.Proofs.YtnaoandleelbkaaGreatDoor
