/-
  The laws' own told; the reference's Same.
-/
import Derived.Laws.IdiomStrings
import Derived.Test.YtablllincjoabaaEAll
namespace Go.Proofs.Ytablllincjoabaa
set_option linter.unusedSimpArgs false
set_option linter.unusedVariables false
open Go Go.RowKit Go.Shelf
set_option maxRecDepth 100000

theorem wpList_append_run {P : Program} {ops : Array Oper} {rest : List Oper} {o : Oper} {a : Act} {w w' : World} {Q : Exit → Act → World → Prop} {v v' xv : Value}
    (hg : o.guard = none) (s x : Operand) (t : TypeId) (hop : o.op = Op.call { callee := Callee.builtin Builtin.append, args := #[s, x], argTypes := #[t, t] }) (hs : a.eval s = v) (hx : a.eval x = xv)
    (hrun : (Builtin.append_ #[t, t] o.type #[v, xv]).run P w = .ok v' w') (hK : wpList P ops Q rest (a.put o.dst v') w') : wpList P ops Q (o :: rest) a w :=
  wpList_plain hg fun K hK' => by
    unfold Oper.wp execOp
    simp only [hop, resolve, invoke, builtin, Sem.run_bind, Sem.run_pure, Result.andThen_ok, List.map_toArray, List.map_cons, List.map_nil, hs, hx, hrun]
    exact hK' _ _ hK
theorem take_one {l : List Tv} {k : Nat} (h : k < l.length) : l.take (k + 1) = l.take k ++ [l.getD k pm0] := by
  rw [List.take_succ_eq_append_getElem h, List.getD_eq_getElem?_getD, List.getElem?_eq_getElem h]
  rfl
theorem to_app {t e : TypeId} {bytes : Nat} (ht : Try.prog.underlying t = some (.slice e)) (hi0 : (Try.prog.info? e).map (fun i => (i.zero, i.size, i.bytes)) = some (some (.agg #[.int .u8 0, .string ⟨#[]⟩]), 2, bytes)) (hb : bytes ≤ 64)
    {w W : World} {v : Value} {ps : List Tv} (h : TO e w.heap.size W v ps) (hB : Below w.heap.size w W) (hlen : ps.length ≤ 1000000) (x : Tv) :
    ∃ g cap w2, (Builtin.append_ #[t, t] t #[v, .slice (some ⟨W.heap.size, 0, none⟩) 1 1]).run Try.prog (W.alloc (.cells #[bvi x.1, sv x.2] e)) = .ok (.slice (some ⟨g, 0, none⟩) (ps.length + 1) cap) w2 ∧
      TO e w.heap.size w2 (.slice (some ⟨g, 0, none⟩) (ps.length + 1) cap) (ps ++ [x]) ∧ Below w.heap.size w w2 := by
  obtain ⟨g, cap, w2, h1, h2, h3, h4⟩ := to_append ht hi0 hb h hB.size hlen x.1 x.2
  refine ⟨g, cap, w2, h1, h2, ?_⟩
  exact Below.grown (hB.alloc hB.size _) h3 (by simp; have := hB.size; omega) fun j hj => (h.lt hj).1

set_option maxHeartbeats 4000000 in
theorem told_any {w : World} (ps : List Tv) (A : Option Addr) (c : Nat) (hR : TR w (.slice A ps.length c) ps) (hl : ps.length ≤ 1000000) :
    Calls Try.prog 24 #[.slice A ps.length c] w fun e w' => ∃ v, e = .returned v ∧ TO 62 w.heap.size w' v ps ∧ Below w.heap.size w w' := by
  have HR := Lib.hid hR
  have HB0 := Lib.hid (Below.refl w.heap.size w)
  clear hR
  go_enter Try.func24, Try.ntmps24
  go_wp2_with fail
  go_loopw [3, 4] (fun v i wr => ∃ k : Nat, k ≤ ps.length ∧ i = .int .i64 k ∧ TO 62 w.heap.size wr v (ps.take k) ∧ Below w.heap.size w wr) (fun _ i _ => ps.length - (intOf i).toNat)
  case atStart => exact ⟨0, Nat.zero_le _, rfl, TO.nil _ _ _, HB0.out⟩
  case round =>
    obtain ⟨k, hk, rfl, hto, hB⟩ := hrel
    by_cases hlt : k < ps.length
    · obtain ⟨g, off, rfl, hgl, c0, c1⟩ := (HR.out.step hB).at hlt
      have hkl : (ps.take k).length = k := by rw [List.length_take]; omega
      obtain ⟨x, hx⟩ : ∃ x, x = ps.getD k pm0 := ⟨_, rfl⟩
      rw [← hx] at c0 c1
      obtain ⟨A0, cp0, rfl⟩ := hto.form
      obtain ⟨g2, cap2, w2, hrun, hto2, hB2⟩ := to_app (t := 48) Try.underlying48 info_ritem (by decide) hto hB (by omega) x
      rw [hkl] at hrun hto2 ⊢
      have HRUN := Lib.hid hrun
      have HTO := Lib.hid (show TO 62 w.heap.size w2 _ (ps.take (k + 1)) by rw [take_one hlt, ← hx]; exact hto2)
      have HB2 := Lib.hid hB2
      have hlt' : (k : Int) < (ps.length : Int) := by omega
      clear hrun hto2 hB2 hto hx hB
      go_wp2_with (at_builtin; refine wpList_append_run rfl _ _ 48 rfl rfl rfl HRUN.out ?_)
      go_roundw
      case rel => exact ⟨k + 1, by omega, by go_num, HTO.out, HB2.out⟩
      case measure => simp [intOf]; omega
    · obtain rfl : k = ps.length := by omega
      rw [List.take_length] at hto
      have HT := Lib.hid hto
      have HB := Lib.hid hB
      obtain ⟨A0, cp0, rfl⟩ := hto.form
      clear hto hB
      go_wp2_with fail
      go_ret
      exact ⟨_, rfl, HT.out, HB.out⟩

theorem rows_next {xs ys : List Tv} {k : Nat} (ha : ∀ j, j < k → xs.getD j pm0 = ys.getD j pm0) (h : xs.getD k pm0 = ys.getD k pm0) : ∀ j, j < k + 1 → xs.getD j pm0 = ys.getD j pm0 := by
  intro j hj
  by_cases e : j = k
  · rw [e]; exact h
  · exact ha j (by omega)
theorem rows_eq {xs ys : List Tv} (hl : xs.length = ys.length) (ha : ∀ j, j < xs.length → xs.getD j pm0 = ys.getD j pm0) : xs = ys := by
  refine List.ext_getElem hl fun j h1 h2 => ?_
  have := ha j h1
  rwa [List.getD_eq_getElem?_getD, List.getD_eq_getElem?_getD, List.getElem?_eq_getElem h1, List.getElem?_eq_getElem h2] at this

set_option maxHeartbeats 4000000 in
theorem same_any {w : World} (xs : List Tv) (A B : Option Addr) (c d : Nat) (hx : TR w (.slice A xs.length c) xs) (hy : TR w (.slice B xs.length d) xs) (hxl : xs.length ≤ 1000000) :
    Calls Try.prog 23 #[.slice A xs.length c, .slice B xs.length d] w fun e w' => e = .returned (.bool true) ∧ Below w.heap.size w w' := by
  have HX := Lib.hid hx
  have HY := Lib.hid hy
  have HB := Lib.hid (Below.refl w.heap.size w)
  clear hx hy
  go_enter Try.func23, Try.ntmps23
  go_wp2_with fail
  go_loopw [5] (fun i wr => ∃ k : Nat, k ≤ xs.length ∧ i = .int .i64 k ∧ Below w.heap.size w wr) (fun i _ => xs.length - (intOf i).toNat)
  case atStart => exact ⟨0, Nat.zero_le _, rfl, HB.out⟩
  case round =>
    obtain ⟨k, hk, rfl, hbl⟩ := hrel
    have HL := Lib.hid hbl
    clear hbl
    by_cases hlt : k < xs.length
    · obtain ⟨g, o, rfl, _, c1, c2⟩ := (HX.out.step HL.out).at hlt
      obtain ⟨g2, o2, rfl, _, c3, c4⟩ := (HY.out.step HL.out).at hlt
      obtain ⟨x, hxe⟩ : ∃ x, x = xs.getD k pm0 := ⟨_, rfl⟩
      rw [← hxe] at c1 c2 c3 c4
      have hlt' : (k : Int) < (xs.length : Int) := by omega
      clear hxe
      go_wp2_with fail
      go_quiet (fail)
      go_wp2_with fail
      go_roundw
      case rel => exact ⟨k + 1, by omega, by go_num, below_drewN HL.out _⟩
      case measure => simp [intOf]; omega
    · obtain rfl : k = xs.length := by omega
      go_wp2_with fail
      go_ret
      exact ⟨rfl, HL.out⟩
end Go.Proofs.Ytablllincjoabaa
