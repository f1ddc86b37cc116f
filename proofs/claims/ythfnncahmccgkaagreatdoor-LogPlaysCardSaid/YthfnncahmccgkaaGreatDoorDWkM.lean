/-
  The laws' two and works.
  The laws' works.
  The laws' step.
  What steps do to a disk, plainly: how many operations, that it is a disk; what is left behind a Fail.
  Rows of texts of one's own, and of steps, as things that lie apart; a copy of a row.
-/
import Derived.Test.YthfnncahmccgkaaGreatDoorDObs
namespace Go.Proofs.YthfnncahmccgkaaGreatDoor
open Go Go.RowKit Go.Maps
set_option maxRecDepth 100000
set_option linter.unusedSimpArgs false
set_option linter.unusedVariables false

section
variable {w0 w : World} {os : List Ob} (h : Obs w0 w os)
include h
theorem new_o {n : Nat} (h1 : 1 ≤ n) (h2 : n ≤ 1024) : Calls Tryz.prog 14 #[.int .i64 (n : Int)] w fun e w' => ∃ p bl bd, e = .returned (.tuple #[dp p, .int .i64 0]) ∧ Obs w0 w' (os ++ [pdOb p bl bd (DS.new n)]) :=
  (new_any h1 h2).mono fun e w' ⟨p, bl, bd, he, hP, hb, h1, h2, h3⟩ => ⟨p, bl, bd, he, h.addD hP hb ⟨h1, h2, h3⟩⟩
theorem copy_o {p bl bd : Nat} {S : DS} (i : Nat) (hi : os[i]? = some (pdOb p bl bd S)) : Calls Tryz.prog 21 #[dp p] w fun e w' => ∃ q cl cd, e = .returned (dp q) ∧ Obs w0 w' (os ++ [pdOb q cl cd S]) :=
  (copy_any (h.get hi)).mono fun e w' ⟨p, bl, bd, he, hP, hb, h1, h2, h3⟩ => ⟨p, bl, bd, he, h.addD hP hb ⟨h1, h2, h3⟩⟩
end

/-- The disk of the examples. -/
def tw1 : DS := (DS.new 2).wr 0 (fullL 97)
def tw2 : DS := tw1.sync
def tw3 : DS := tw2.wr 0 (fullL 98)
def twoS : DS := tw3.wr 1 (fullL 98)
theorem tw_ops : (DS.new 2).ops < 4611686018427387904 ∧ tw1.ops < 4611686018427387904 ∧ tw2.ops < 4611686018427387904 ∧ tw3.ops < 4611686018427387904 := by decide +kernel

end Go.Proofs.YthfnncahmccgkaaGreatDoor

namespace Go.Proofs.YthfnncahmccgkaaGreatDoor
open Go Go.RowKit Go.Maps
set_option maxRecDepth 100000
set_option linter.unusedSimpArgs false
set_option linter.unusedVariables false

theorem dirty_o {w0 w : World} {os : List Ob} (h : Obs w0 w os) {p bl bd : Nat} {S : DS} (i : Nat) (hi : os[i]? = some (pdOb p bl bd S)) :
    Calls Tryz.prog 44 #[dp p] w fun e w' => ∃ A c, e = .returned (.slice A (dL S.wet).length c) ∧ IR w' A (dL S.wet) ∧ (∀ a, A = some a → w.heap.size ≤ a.block) ∧ Below w.heap.size w w' :=
  (dirty_any (h.get hi)).mono fun e w' ⟨v, he, hr, hb⟩ => by
    obtain ⟨A, c, rfl, hI, hA⟩ := row_form hr
    exact ⟨A, c, he, hI, hA, hb⟩
theorem IR.lit (w : World) (L : List Int) : IR (w.alloc (.cells (L.map encZ).toArray 3)) (some ⟨w.heap.size, 0, none⟩) L := fun j hj =>
  ⟨w.heap.size, 0, rfl, by simp, by rw [cellAt (heap_alloc_new w _)]; simp [List.getElem?_map, List.getD_eq_getElem?_getD, List.getElem?_eq_getElem hj]⟩

def wD1 : DS := twoS.fail 1
def wD2 : DS := wD1.sync
def wC2 : DS := wD1.wr 0 (fullL 99)
def wC3 : DS := wC2.sync
def wC4 : DS := wC3.boot [5]
def wD4 : DS := wD2.boot []
theorem works_facts : twoS.ops = 4 ∧ dL twoS.wet = [0, 1] ∧ wD1.offE = 0 ∧ wD2.off = true ∧ wD2.wrE 0 (fullL 99) = 42 ∧ wD1.wrE 0 (fullL 99) = 0 ∧ wC2.off = true ∧ wC2.offE = 42 ∧ wC3.bootE = 0 ∧
    isD wC4 0 ((fullL 99).take 5 ++ (fullL 97).drop 5) = true ∧ isD wC4 1 (fullL 0) = true ∧ wD2.bootE = 0 ∧ isD wD4 0 (fullL 98) = true ∧ isD wD4 1 (fullL 98) = true ∧ wD2.wr 0 (fullL 99) = wD2 := by
  refine ⟨by decide +kernel, by decide +kernel, by decide +kernel, by decide +kernel, by decide +kernel, by decide +kernel, by decide +kernel, by decide +kernel, by decide +kernel, by decide +kernel, by decide +kernel, by decide +kernel, by decide +kernel, by decide +kernel, ?_⟩
  unfold DS.wr
  rw [if_neg (by decide +kernel)]
theorem works_ops : wD1.ops < 4611686018427387904 ∧ wD2.ops < 4611686018427387904 ∧ wC2.ops < 4611686018427387904 := by decide +kernel

end Go.Proofs.YthfnncahmccgkaaGreatDoor


namespace Go.Proofs.YthfnncahmccgkaaGreatDoor
open Go Go.RowKit Go.Maps
set_option maxRecDepth 100000
set_option linter.unusedSimpArgs false
set_option linter.unusedVariables false

section
variable {P : Program} (w : World) {o : Oper} {a : Act}
theorem exec_load1 {t : TypeId} {x : Operand} (ho : o.op = .load t x) {b i : Nat} (hd : a.eval x = .pointer (some ⟨b, i, none⟩)) {v : Value} (hc : w.cell? ⟨b, i, none⟩ = some v) {d : TypeDesc} (hu : P.underlying t = some d) (hn : (match d with | .struct _ | .array _ _ => true | _ => false) = false) :
    (execOp a.eval o).run P w = .ok (.value v) w := by
  unfold execOp
  have hagg : (isAgg t).run P w = .ok false w := by
    unfold isAgg
    rw [Sem.run_bind, run_underlying hu w]
    cases d <;> simp_all
  simp [ho, hd, Instr.loadAt, Instr.sureAddr, loadVar, hagg, run_load, hc]
theorem exec_load_row {t : TypeId} {x : Operand} (ho : o.op = .load t x) {b : Nat} (hd : a.eval x = .pointer (some ⟨b, 0, none⟩)) {cs : Array Value} {ty : TypeId} {fr : Nat × Nat} (hc : w.heap[b]? = some (.cells cs ty fr)) {d : TypeDesc} (hu : P.underlying t = some d) (hn : (match d with | .struct _ | .array _ _ => true | _ => false) = true)
    (hi : (P.info? t).map (·.size) = some cs.size) : (execOp a.eval o).run P w = .ok (.value (.agg cs)) w := by
  unfold execOp
  simp [ho, hd, Instr.loadAt, Instr.sureAddr, run_loadVar_row w b ty t cs fr d hc hu hn hi]
end
def stC (s : SD) : Array Value := #[.int .u8 (s.wh.toNat : Int), .int .i64 s.a, .int .u8 (s.y.toNat : Int), .int .i64 s.odd, .slice s.kA s.keep.length s.kc]
/-- What a step does. -/
def DS.step (S : DS) (s : SD) : DS :=
  if s.wh = 0 then S.wr s.a (stB s.odd s.y) else if s.wh = 1 then S.sync else if s.wh = 2 then S.fail s.a else if s.wh = 3 then S.boot s.keep else S

theorem u8_ne {x y : UInt8} (h : x ≠ y) : ((x.toNat : Int) == (y.toNat : Int)) = false := by
  rw [beq_eq_false_iff_ne]
  intro e
  exact h (UInt8.toNat_inj.1 (by omega))

end Go.Proofs.YthfnncahmccgkaaGreatDoor


namespace Go.Proofs.YthfnncahmccgkaaGreatDoor
open Go Go.RowKit Go.Maps
set_option maxRecDepth 100000
set_option linter.unusedSimpArgs false
set_option linter.unusedVariables false

theorem wr_cases (S : DS) (a : Int) (s : List UInt8) : (S.wrE a s = 0 ∧ S.off = false ∧ S.has a = true ∧ s.length = 128 ∧ S.wr a s = (S.put a.toNat s).did) ∨ (S.wrE a s ≠ 0 ∧ S.wr a s = S) := by
  by_cases h : S.wrE a s = 0
  · refine .inl ⟨h, ?_⟩
    have h2 := h
    unfold DS.wrE at h2
    cases ho : S.off with
    | true => rw [ho] at h2; simp at h2
    | false =>
      rw [ho] at h2
      simp only [Bool.false_eq_true, if_false] at h2
      split at h2
      · rename_i hc
        simp only [Bool.and_eq_true, decide_eq_true_eq] at hc
        exact ⟨rfl, hc.1, hc.2, by unfold DS.wr; rw [if_pos h]⟩
      · cases h2
  · exact .inr ⟨h, by unfold DS.wr; rw [if_neg h]⟩
theorem step_cases (S : DS) (s : SD) : (s.wh = 0 ∧ S.step s = S.wr s.a (stB s.odd s.y)) ∨ (s.wh = 1 ∧ S.step s = S.sync) ∨ (s.wh = 2 ∧ S.step s = S.fail s.a) ∨ (s.wh = 3 ∧ S.step s = S.boot s.keep) ∨ (s.wh ≠ 0 ∧ s.wh ≠ 1 ∧ s.wh ≠ 2 ∧ s.wh ≠ 3 ∧ S.step s = S) := by
  unfold DS.step
  by_cases h0 : s.wh = 0
  · exact .inl ⟨h0, by rw [if_pos h0]⟩
  by_cases h1 : s.wh = 1
  · exact .inr (.inl ⟨h1, by rw [if_neg h0, if_pos h1]⟩)
  by_cases h2 : s.wh = 2
  · exact .inr (.inr (.inl ⟨h2, by rw [if_neg h0, if_neg h1, if_pos h2]⟩))
  by_cases h3 : s.wh = 3
  · exact .inr (.inr (.inr (.inl ⟨h3, by rw [if_neg h0, if_neg h1, if_neg h2, if_pos h3]⟩)))
  · exact .inr (.inr (.inr (.inr ⟨h0, h1, h2, h3, by rw [if_neg h0, if_neg h1, if_neg h2, if_neg h3]⟩)))
theorem wr_len (S : DS) (a : Int) (s : List UInt8) : (S.wr a s).was.length = S.was.length ∧ (S.wr a s).ops ≤ S.ops + 1 := by
  rcases wr_cases S a s with ⟨_, _, _, _, h⟩ | ⟨_, h⟩
  · rw [h]; exact ⟨rfl, Nat.le_refl _⟩
  · rw [h]; exact ⟨rfl, Nat.le_succ _⟩
theorem sync_len (S : DS) : S.sync.was.length = S.was.length ∧ S.sync.ops ≤ S.ops + 1 := by
  unfold DS.sync
  split
  · exact ⟨rfl, Nat.le_succ _⟩
  · exact ⟨DS.sts_len _ _ _, by show (S.sts (fun _ => 128) (dirtyL S.wet) 0).ops + 1 ≤ _; rw [(DS.sts_same _ _ _).1]; exact Nat.le_refl _⟩
theorem boot_len (S : DS) (L : List Int) : (S.boot L).was.length = S.was.length ∧ (S.boot L).ops = S.ops := by
  unfold DS.boot
  split
  · exact ⟨DS.sts_len _ _ _, (DS.sts_same _ _ _).1⟩
  · exact ⟨rfl, rfl⟩
theorem step_len (S : DS) (s : SD) : (S.step s).was.length = S.was.length ∧ (S.step s).ops ≤ S.ops + 1 := by
  rcases step_cases S s with ⟨_, h⟩ | ⟨_, h⟩ | ⟨_, h⟩ | ⟨_, h⟩ | ⟨_, _, _, _, h⟩
  · rw [h]; exact wr_len _ _ _
  · rw [h]; exact sync_len _
  · rw [h]; exact ⟨rfl, Nat.le_succ _⟩
  · rw [h]; exact ⟨(boot_len _ _).1, by rw [(boot_len _ _).2]; exact Nat.le_succ _⟩
  · rw [h]; exact ⟨rfl, Nat.le_succ _⟩

/-- Behind a Fail of n at o operations. -/
def FI (o n : Nat) (S : DS) : Prop := (n = 0 ∧ S.off = false ∧ S.left = 0) ∨ (0 < n ∧ ∃ k, S.ops = o + k ∧ ((k < n ∧ S.off = false ∧ S.left = (n : Int) - k) ∨ (k = n ∧ S.off = true)))
theorem FI.start {S : DS} (h : S.off = false) (n : Nat) : FI S.ops n (S.fail n) := by
  rcases Nat.eq_zero_or_pos n with h0 | h0
  · subst h0; exact .inl ⟨rfl, h, rfl⟩
  · exact .inr ⟨h0, 0, rfl, .inl ⟨h0, h, by simp [DS.fail]⟩⟩
theorem FI.did {o n : Nat} {S T : DS} (h : FI o n S) (ho : S.off = false) (h1 : T.ops = S.ops + 1) (h2 : T.left = if 0 < S.left then S.left - 1 else S.left) (h3 : T.off = if 0 < S.left then decide (S.left = 1) else S.off) : FI o n T := by
  rcases h with ⟨h0, _, hl⟩ | ⟨hp, k, hk, ⟨hkn, _, hl⟩ | ⟨_, he⟩⟩
  · rw [hl] at h2 h3
    exact .inl ⟨h0, by rw [h3]; simp [ho], by rw [h2]; simp⟩
  · refine .inr ⟨hp, k + 1, by omega, ?_⟩
    have hpos : 0 < S.left := by omega
    rw [if_pos hpos] at h2 h3
    by_cases e : k + 1 = n
    · exact .inr ⟨e, by rw [h3]; simp; omega⟩
    · exact .inl ⟨by omega, by rw [h3]; simp; omega, by omega⟩
  · rw [ho] at he; cases he
theorem FI.step {o n : Nat} {S : DS} (h : FI o n S) {s : SD} (h2 : s.wh ≠ 2) (h3 : s.wh ≠ 3) : FI o n (S.step s) := by
  rcases step_cases S s with ⟨_, e⟩ | ⟨_, e⟩ | ⟨q, _⟩ | ⟨q, _⟩ | ⟨_, _, _, _, e⟩
  · rw [e]
    rcases wr_cases S s.a (stB s.odd s.y) with ⟨_, ho, _, _, e2⟩ | ⟨_, e2⟩
    · rw [e2]; exact h.did ho rfl rfl rfl
    · rw [e2]; exact h
  · rw [e]
    unfold DS.sync
    cases ho : S.off with
    | true => simpa using h
    | false =>
      obtain ⟨q1, q2, q3⟩ := DS.sts_same (kf := fun _ => 128) (dirtyL S.wet) 0 S
      simp only [Bool.false_eq_true, if_false]
      exact h.did ho (by simp [DS.did, q1]) (by simp [DS.did, q2]) (by simp [DS.did, q2, q3])
  · exact absurd q h2
  · exact absurd q h3
  · rw [e]; exact h

section
variable {w0 W : World} {os : List Ob}
theorem cells_k {A : Option Addr} {l : List SD} (hl : StAt w0 A l) {k : Nat} (hk : k < l.length) (h : Obs w0 W os) : ∃ b o, A = some ⟨b, o, none⟩ ∧ StCells W b (o + k * 5) (l.getD k sd0) := by
  obtain ⟨b, o, hA, hb, hc, hok⟩ := hl k hk
  exact ⟨b, o, hA, hc.of_block (h.bel.block b hb)⟩
end
end Go.Proofs.YthfnncahmccgkaaGreatDoor

namespace Go.Proofs.YthfnncahmccgkaaGreatDoor
open Go Go.RowKit Go.Maps
set_option maxRecDepth 100000
set_option linter.unusedSimpArgs false
set_option linter.unusedVariables false

/-- Block g is a row, of type e, whose first cells hold xs. -/
def XR (w : World) (e : TypeId) (g cap : Nat) (xs : List Value) : Prop := ∃ cur, w.heap[g]? = some (.cells cur e (0, 0)) ∧ cur.size = cap ∧ xs.length ≤ cap ∧ cur.toList.take xs.length = xs
theorem XR.lt {w : World} {e : TypeId} {g cap : Nat} {xs : List Value} (h : XR w e g cap xs) : g < w.heap.size := by
  obtain ⟨cur, hg, _⟩ := h
  exact lt_of_blk hg
theorem XR.of_block {w w' : World} {e : TypeId} {g cap : Nat} {xs : List Value} (h : XR w e g cap xs) (hb : w'.heap[g]? = w.heap[g]?) : XR w' e g cap xs := by
  obtain ⟨cur, hg, r⟩ := h
  exact ⟨cur, hb.trans hg, r⟩
theorem XR.cell {w : World} {e : TypeId} {g cap : Nat} {xs : List Value} (h : XR w e g cap xs) {j : Nat} (hj : j < xs.length) : w.cell? ⟨g, j, none⟩ = some (xs.getD j undef) ∧ w.frozen? ⟨g, j, none⟩ = false := by
  obtain ⟨cur, hg, _, _, ht⟩ := h
  refine ⟨?_, freeAt hg j⟩
  rw [cellAt hg]
  have : (cur.toList.take xs.length)[j]? = xs[j]? := by rw [ht]
  rw [List.getElem?_take_of_lt hj] at this
  rw [← Array.getElem?_toList, this, List.getD_eq_getElem?_getD, List.getElem?_eq_getElem hj]
  rfl
theorem XR.set {w : World} {e : TypeId} {g cap : Nat} {xs : List Value} (h : XR w e g cap xs) {j : Nat} (hj : j < xs.length) (v : Value) : XR (w.setCell ⟨g, j, none⟩ v) e g cap (xs.set j v) := by
  obtain ⟨cur, hg, h1, h3, ht⟩ := h
  refine ⟨_, blk_set hg j v, by simpa using h1, by simpa using h3, ?_⟩
  rw [Array.toList_setIfInBounds, List.length_set, List.take_set, ht]
theorem XR.owns {w : World} {e : TypeId} {g cap : Nat} {xs : List Value} (h : XR w e g cap xs) {B : Nat} (hB : B ≤ g) {n : Nat} (hn : n = xs.length) (h2 : cap ≤ maxLen) : w.ownsRow B e 1 (.slice (some ⟨g, 0, none⟩) n cap) n xs := by
  obtain ⟨cur, hg, h1, h3, ht⟩ := h
  subst hn
  exact ⟨by simp, .inr ⟨g, cap, cur, rfl, hB, hg, h3, h2, by omega, by rw [Nat.mul_one]; exact ht⟩⟩
theorem XR.of_owns {w : World} {e : TypeId} {g cap B n : Nat} {xs : List Value} (h : w.ownsRow B e 1 (.slice (some ⟨g, 0, none⟩) n cap) n xs) : XR w e g cap xs ∧ xs.length = n ∧ B ≤ g := by
  have hl : xs.length = n := by have := h.1; omega
  rcases h.2 with ⟨e1, _⟩ | ⟨g', cap', cur, e1, hb, hg, h1, h2, h3, h4⟩
  · cases e1
  · simp only [Value.slice.injEq, Option.some.injEq, Addr.mk.injEq, true_and, and_true] at e1
    obtain ⟨rfl, rfl⟩ := e1
    refine ⟨⟨cur, hg, by omega, by omega, ?_⟩, hl, hb⟩
    rw [Nat.mul_one] at h4
    rw [hl]; exact h4
theorem XR.lit {w : World} {e : TypeId} {g : Nat} {cs : Array Value} (h : w.heap[g]? = some (.cells cs e (0, 0))) (hl : cs.size ≤ 1000000) : XR w e g cs.size cs.toList := ⟨cs, h, rfl, by simp, List.take_of_length_le (by simp)⟩
/-- .. as a thing. -/
def xOb (e : TypeId) (g cap : Nat) (xs : List Value) : Ob := ⟨[g], fun w => XR w e g cap xs⟩
theorem xOb_stays (e : TypeId) (g cap : Nat) (xs : List Value) : (xOb e g cap xs).Stays := fun W W' h hP => XR.of_block (w := W) hP (h g (by simp [xOb])).2
theorem Obs.turnX {w0 w w' : World} {os : List Ob} (h : Obs w0 w os) (i : Nat) {e : TypeId} {g cap : Nat} {xs ys : List Value} (hi : os[i]? = some (xOb e g cap xs)) (hP : XR w' e g cap ys) (hk : Kp [g] w w') : Obs w0 w' (os.set i (xOb e g cap ys)) :=
  h.turn i hi (xOb e g cap ys) hP (xOb_stays _ _ _ _) hk (fun b hb => ⟨.inl hb, by simp [xOb] at hb; rw [hb]; exact hP.lt⟩)
/-- A cell of a row is written. -/
theorem Obs.setX {w0 w : World} {os : List Ob} (h : Obs w0 w os) (i : Nat) {e : TypeId} {g cap : Nat} {xs : List Value} (hi : os[i]? = some (xOb e g cap xs)) {j : Nat} (hj : j < xs.length) (v : Value) : Obs w0 (w.setCell ⟨g, j, none⟩ v) (os.set i (xOb e g cap (xs.set j v))) :=
  h.turnX i hi ((h.get hi : XR w e g cap xs).set hj v) ((Kp.refl _ _).setCell (by simp) _)
/-- Another row takes the place of one. -/
theorem Obs.swapX {w0 w w' : World} {os : List Ob} (h : Obs w0 w os) (i : Nat) {e : TypeId} {g cap : Nat} {xs : List Value} (hi : os[i]? = some (xOb e g cap xs)) {g' cap' : Nat} {ys : List Value} (hP : XR w' e g' cap' ys) (hb : Below w.heap.size w w') (hg : w.heap.size ≤ g') : Obs w0 w' (os.set i (xOb e g' cap' ys)) :=
  h.turn i hi (xOb e g' cap' ys) hP (xOb_stays _ _ _ _) (Kp.of_below hb _) (fun b hb' => by simp [xOb] at hb'; rw [hb']; exact ⟨.inr hg, hP.lt⟩)
theorem Obs.addX {w0 w w' : World} {os : List Ob} (h : Obs w0 w os) {e : TypeId} {g' cap' : Nat} {ys : List Value} (hP : XR w' e g' cap' ys) (hb : Below w.heap.size w w') (hg : w.heap.size ≤ g') : Obs w0 w' (os ++ [xOb e g' cap' ys]) :=
  h.add _ hP (xOb_stays _ _ _ _) hb (fun b hb' => by simp [xOb] at hb'; rw [hb']; exact ⟨hg, hP.lt⟩)

section
variable {t e : TypeId} {z : Value} {by_ : Nat} (ht : Tryz.prog.underlying t = some (.slice e)) (hinfo : (Tryz.prog.info? e).map (fun i => (i.zero, i.size, i.bytes)) = some (some z, 1, by_)) (hz : z.cells.size = 1) (hby : by_ ≤ 1000)
include ht hinfo hz hby
/-- 'append([]T{}, xs...)': W is the world in which the empty literal lies at its end. -/
theorem run_fresh (w : World) {A : Option Addr} {m c : Nat} {xs : List Value} (hm : m = xs.length) (hp : 0 < m) (hml : m ≤ 1000000) (hsrc : ∃ ad, A = some ad ∧ ∀ j u, xs[j]? = some u → (w.alloc (.cells #[] e)).cell? (ad.add j) = some u) (h1 : ∀ u ∈ xs, u.oneCell' = true) :
    ∃ g cap w', (Builtin.append_ #[t, t] t #[.slice (some ⟨w.heap.size, 0, none⟩) 0 0, .slice A m c]).run Tryz.prog (w.alloc (.cells #[] e)) = .ok (.slice (some ⟨g, 0, none⟩) m cap) w' ∧ XR w' e g cap xs ∧ Below w.heap.size w w' ∧ w.heap.size ≤ g := by
  obtain ⟨i, hi, hz0, hz1, hz2⟩ := info_parts hinfo
  obtain ⟨ad, rfl, hc⟩ := hsrc
  have hown : (w.alloc (.cells #[] e)).ownsRow w.heap.size e 1 (.slice (some ⟨w.heap.size, 0, none⟩) 0 0) 0 [] := ⟨by simp, .inr ⟨w.heap.size, 0, #[], rfl, Nat.le_refl _, heap_alloc_new w _, Nat.le_refl _, by decide, rfl, by simp⟩⟩
  have hmm : m * by_ ≤ 1000000 * 1000 := Nat.mul_le_mul hml hby
  obtain ⟨g, cap, w', hr, h2, h3, h4, h5⟩ := run_append_lies (P := Tryz.prog) (w.alloc (.cells #[] e)) t t w.heap.size e i z 1 by_ ht hi hz0 hz1 hz2 hz (by decide) _ 0 [] hown ad m c xs (by omega) hc h1 hp (by unfold maxLen; omega) (by rw [Nat.zero_add]; omega) (by simp) _ rfl
  rw [Nat.zero_add] at hr h2
  rw [List.nil_append] at h2
  obtain ⟨hX, _, hge⟩ := XR.of_owns h2
  refine ⟨g, cap, w', hr, hX, ?_, hge⟩
  refine ((Below.refl _ w).alloc (Nat.le_refl _) _).grown h3 (by simp) (fun k e => ?_)
  simp [Value.ownBlock] at e
  omega
end
end Go.Proofs.YthfnncahmccgkaaGreatDoor
