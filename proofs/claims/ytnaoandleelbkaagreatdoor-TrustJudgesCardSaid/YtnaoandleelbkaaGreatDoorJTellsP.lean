/-
  What the law of the parts' answers asks, with whatever lies by kept.
-/
import Derived.Test.YtnaoandleelbkaaGreatDoorJRAnch
import Derived.Test.YtnaoandleelbkaaGreatDoorJWm
import Derived.Deep.MidRow
namespace Go.Proofs.YtnaoandleelbkaaGreatDoor
set_option linter.unusedSimpArgs false
set_option linter.unusedVariables false
open Go Go.RowKit
set_option maxRecDepth 100000

section
variable {P : Program} (w : World) {o : Oper} {a : Act}
theorem exec_load_midC {t : TypeId} {x : Operand} (ho : o.op = .load t x) {b i : Nat} (hd : a.eval x = .pointer (some ⟨b, i, none⟩)) {cs : Array Value} (hc : w.rangeAt b i cs.toList) {d : TypeDesc} (hu : P.underlying t = some d) (hn : d.isRow = true)
    (hi : (P.info? t).map (·.size) = some cs.size) : (execOp a.eval o).run P w = .ok (.value (.agg cs)) w := by
  unfold execOp
  have := run_loadVar_mid (P := P) w b i t cs.toList d hc hu hn (by rw [hi, Array.length_toList])
  simp [ho, hd, Instr.loadAt, Instr.sureAddr, this]
end
theorem CC.range {w : World} {g o : Nat} {c : Ct} {v : Value} (h : CC w g o c v) : w.rangeAt g o [sv c.key, sv c.sig, v, .int .i64 c.fr, .int .i64 c.un, .bool c.ca] := by
  intro j u hu
  match j, hu with
  | 0, hu => cases hu; exact h.c0
  | 1, hu => cases hu; exact h.c1
  | 2, hu => cases hu; exact h.c2
  | 3, hu => cases hu; exact h.c3
  | 4, hu => cases hu; exact h.c4
  | 5, hu => cases hu; exact h.c5
theorem CR.cc {w : World} {g off : Nat} {l : List Ct} {nv : Nat → Value} (h : CR w (some ⟨g, off, none⟩) l nv) {k : Nat} (hk : k < l.length) : CC w g (off + k * 6) (ctAt l k) (nv k) ∧ SX w (nv k) (ctAt l k).names := by
  obtain ⟨g', off', e, _, h1, h2⟩ := h.at hk
  cases e
  exact ⟨h1, h2⟩
theorem CR.from {w : World} {g off : Nat} {l : List Ct} {nv : Nat → Value} (h : CR w (some ⟨g, off, none⟩) l nv) {i : Nat} (hi : i < l.length) : CR w (some ⟨g, off + i * 6, none⟩) (l.drop i) (fun j => nv (i + j)) := by
  obtain ⟨g', off', e, h1⟩ := h.drop hi
  cases e
  exact h1
theorem shortR.drop {l : List Ct} (h : shortR l) (n : Nat) : shortR (l.drop n) := ⟨by rw [List.length_drop]; exact Nat.le_trans (Nat.sub_le _ _) h.1, fun c hc => h.2 c (List.mem_of_mem_drop hc)⟩
section
variable {P : World → Prop} {W : World} (hP : Ca P) (h : P W)
include hP h
theorem own_p {an : List (List UInt8)} {B : Option Addr} {bc : Nat} (hy : SX W (.slice B an.length bc) an) (hl : an.length ≤ 1200) :
    ∃ A1 c1 w1, (Builtin.append_ #[25, 25] 25 #[.slice (some ⟨W.heap.size, 0, none⟩) 0 0, .slice B an.length bc]).run Tryz.prog (W.alloc (.cells #[] 9)) = .ok (.slice A1 an.length c1) w1 ∧ P w1 ∧ SX w1 (.slice A1 an.length c1) an := by
  have hown := owns_emptyG (base := W.heap.size) (heap_alloc_new W (.cells #[] 9)) (Nat.le_refl _)
  have hb0 := below_alloc W (.cells #[] 9)
  obtain ⟨A1, c1, w1, h1, t1, g1⟩ := tw_row hown (hy.step hb0) (by simp) (by omega) (by simp)
  simp only [List.length_nil, Nat.zero_add, List.nil_append] at h1 t1
  have hb1 : Below W.heap.size W w1 := Below.grown hb0 g1 hb0.size fun j hj => by
    simp only [Value.ownBlock, Option.some.injEq] at hj
    omega
  exact ⟨A1, c1, w1, h1, hP.step h hb1, t1.sx⟩
theorem rhost_p (c : Ct) (a : Option Addr) (cc : Nat) (host : List UInt8) (hx : SX W (.slice a c.names.length cc) c.names) (hs : shortC c) (hh : host.length ≤ 3000) :
    Calls Tryz.prog 93 #[.agg #[sv c.key, sv c.sig, .slice a c.names.length cc, .int .i64 c.fr, .int .i64 c.un, .bool c.ca], sv host] W fun e w' => e = .returned (.bool (hostB c host)) ∧ P w' :=
  (rhost_any c a cc host hx hs (by omega)).mono fun e w' ⟨h1, h2⟩ => ⟨h1, hP.step h h2⟩
theorem rdates_p (c : Ct) (a : Option Addr) (n cc : Nat) (now : Int) :
    Calls Tryz.prog 92 #[.agg #[sv c.key, sv c.sig, .slice a n cc, .int .i64 c.fr, .int .i64 c.un, .bool c.ca], .int .i64 now] W fun e w' => e = .returned (.bool (dateB c now)) ∧ P w' :=
  (rdates_any c a n cc now).mono fun e w' ⟨h1, h2⟩ => ⟨h1, hP.step h h2⟩
theorem linked_p {l : List Ct} {A : Option Addr} (cp : Nat) {nv : Nat → Value} (hr : CR W A l nv) (hs : shortR l) {n : Nat} (hn : l.length = n) :
    Calls Tryz.prog 36 #[.slice A n cp] W fun e w' => e = .returned (.bool (linkedB l)) ∧ P w' := by
  subst hn
  exact (linked_any l A cp nv hr hs (hP.ga h)).mono fun e w' ⟨h1, h2⟩ => ⟨h1, hP.step h h2⟩
theorem rlinked_p {l : List Ct} {A : Option Addr} (cp : Nat) {nv : Nat → Value} (hr : CR W A l nv) (hs : shortR l) {n : Nat} (hn : l.length = n) :
    Calls Tryz.prog 117 #[.slice A n cp] W fun e w' => e = .returned (.bool (linkedB l)) ∧ P w' := by
  subst hn
  exact (rlinked_any l A cp nv hr hs).mono fun e w' ⟨h1, h2⟩ => ⟨h1, hP.step h h2⟩
theorem anch_n {l : List Ct} {A : Option Addr} {cp : Nat} {nv : Nat → Value} (now : Int) {an : List (List UInt8)} {B : Option Addr} {bc : Nat} (hr : CR W A l nv) (hs : shortR l) {n m : Nat} (hn : l.length = n) (hcp : n ≤ cp) (ha : SX W (.slice B an.length bc) an) (hal : an.length ≤ 1000000) (hm : an.length = m) :
    Calls Tryz.prog 37 #[.slice A n cp, .int .i64 now, .slice B m bc] W fun e w' => e = .returned (.bool (anchB l now an)) ∧ P w' := by
  subst hn hm
  exact anch_p hP h now hr hs hcp ha hal
theorem ranch_n {l : List Ct} {A : Option Addr} {cp : Nat} {nv : Nat → Value} (now : Int) {an : List (List UInt8)} {B : Option Addr} {bc : Nat} (hr : CR W A l nv) (hs : shortR l) {n m : Nat} (hn : l.length = n) (hcp : n ≤ cp) (ha : SX W (.slice B an.length bc) an) (hal : an.length ≤ 1000000) (hm : an.length = m) :
    Calls Tryz.prog 94 #[.slice A n cp, .int .i64 now, .slice B m bc] W fun e w' => e = .returned (.bool (anchB l now an)) ∧ P w' := by
  subst hn hm
  exact (ranch_any l A cp nv now an B bc hr hs hcp ha (by omega)).mono fun e w' ⟨h1, h2⟩ => ⟨h1, hP.step h h2⟩
theorem same_p {xs : List (List UInt8)} {A B : Option Addr} {c d : Nat} (hx : SX W (.slice A xs.length c) xs) (hy : SX W (.slice B xs.length d) xs) (hl : xs.length ≤ 1000000) :
    Calls Tryz.prog 43 #[.slice A xs.length c, .slice B xs.length d] W fun e w' => e = .returned (.bool true) ∧ P w' :=
  (rsame_any xs A B c d hx hy hl).mono fun e w' ⟨h1, h2⟩ => ⟨h1, hP.step h h2⟩
end
end Go.Proofs.YtnaoandleelbkaaGreatDoor
