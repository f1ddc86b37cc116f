/-
  Package frame's stampOf, ends, begin, begun, framed.
-/
import Derived.Test.YteplndmgfaceiaaDoorFStamp
import Derived.Deep.RegionWith
namespace Go.Proofs.YteplndmgfaceiaaDoor
set_option linter.unusedSimpArgs false
set_option linter.unusedVariables false
open Go Go.RowKit
set_option maxRecDepth 100000

section
variable {P : Program} (w : World) {ops : Array Oper} {rest : List Oper} {o : Oper} {a : Act} {Q : Exit → Act → World → Prop}
theorem wpList_load_run (hgd : o.guard = none) (t : TypeId) (x : Operand) (ho : o.op = .load t x) (v : Value) (hd : a.eval x = v) {v' : Value}
    (hr : (Instr.loadAt t v).run P w = .ok v' w) (h : wpList P ops Q rest (a.put o.dst v') w) : wpList P ops Q (o :: rest) a w :=
  wpList_plain hgd fun _ hK => by
    unfold Oper.wp execOp
    simp only [ho, Sem.run_bind, Sem.run_pure, Result.andThen_ok, hd, hr]
    exact hK _ _ h
theorem wpList_store_run (hgd : o.guard = none) (t : TypeId) (x y : Operand) (ho : o.op = .store t x y) (v u : Value) (hd : a.eval x = v) (hs : a.eval y = u) {w' : World}
    (hr : (Instr.storeAt t v u).run P w = .ok () w') (h : wpList P ops Q rest (a.put o.dst undef) w') : wpList P ops Q (o :: rest) a w :=
  wpList_plain hgd fun _ hK => by
    unfold Oper.wp execOp
    simp only [ho, Sem.run_bind, Sem.run_pure, Result.andThen_ok, hd, hs, hr]
    exact hK _ _ h
theorem results_cell1 {fn : Func} {t : TypeId} {u : Tmp} (h : fn.results = #[.cell u t]) (tmps : Array Value) {ad : Addr} {v : Value} (hp : tmps.getD u undef = .pointer (some ad)) (hr : (loadVar t ad).run P w = .ok v w) : (results fn tmps).run P w = .ok v w := by
  have hp2 : tmps[u]?.getD undef = .pointer (some ad) := by simpa [Array.getD_eq_getD_getElem?] using hp
  simp [results, h, hp2, hr, asAddr, Result.andThen]
theorem results_cell2 {fn : Func} {t t' : TypeId} {u u' : Tmp} (h : fn.results = #[.cell u t, .cell u' t']) (tmps : Array Value) {ad ad' : Addr} {v v' : Value} (hp : tmps.getD u undef = .pointer (some ad)) (hp' : tmps.getD u' undef = .pointer (some ad'))
    (hr : (loadVar t ad).run P w = .ok v w) (hr' : (loadVar t' ad').run P w = .ok v' w) : (results fn tmps).run P w = .ok (.tuple #[v, v']) w := by
  have hp2 : tmps[u]?.getD undef = .pointer (some ad) := by simpa [Array.getD_eq_getD_getElem?] using hp
  have hp3 : tmps[u']?.getD undef = .pointer (some ad') := by simpa [Array.getD_eq_getD_getElem?] using hp'
  simp [results, h, hp2, hr, hp3, hr', asAddr, Result.andThen]
end
theorem AB.storeAt {W : World} {g : Nat} {m l : List UInt8} (h : AB W g 51 m) (hm : m.length = 8) (hl : l.length = 8) : (Instr.storeAt 51 (.pointer (some ⟨g, 0, none⟩)) (arv l)).run Tryd.prog W = .ok () (W.setRow g (cellsOf l).toArray) := by
  simp only [Instr.storeAt, Instr.sureAddr, Sem.run_bind, Sem.run_pure, Result.andThen]
  exact run_storeVar_row W g _ _ _ _ h (by rw [s8]; simp [cellsOf_length, hl]) (by simp [cellsOf_length, hl, hm]) (cells_all l)

theorem stL_mid (a p : Nat) : midL (midL z8 0 (bytesL a 4)) 4 (bytesL p 4) = stL a p := by
  simp only [midL, bytesL_length, stL, List.take_zero, List.nil_append, z8]
  rw [List.take_left' (bytesL_length _ _)]
  rw [List.drop_append, bytesL_length]
  simp [bytesL_length]
theorem copy_str {w : World} {g o n cap : Nat} {T : TypeId} {m s : List UInt8} (h : AB w g T m) (hfit : o + min s.length n ≤ m.length) (ty : TypeId) :
    (Builtin.copy_ #[49, 9] ty #[.slice (some ⟨g, o, none⟩) n cap, sv s]).run Tryd.prog w = .ok (goInt (min s.length n : Nat)) (w.setRow g (cellsOf (midL m o (s.take n))).toArray) := by
  have hst := run_storeCells_at Tryd.prog g o T (cellsOf (s.take n)) 0 _ w h (by simp [cellsOf_length]; omega) (cellsOf_one _)
  have hz : (str s).size = s.length := by show s.toArray.size = s.length; simp
  have htk : List.take (min s.length n) (List.map (fun b : UInt8 => Value.int IntKind.u8 (b.toNat : Int)) s) = cellsOf (s.take n) := by
    rw [cellsOf, List.map_take, Nat.min_comm, ← List.take_take, List.take_of_length_le (l := List.map _ s) (by simp)]
    rfl
  have hmin : Nat.min (str s).size n = min s.length n := by rw [hz]
  have e : (List.take (o + 0) (cellsOf m).toArray.toList ++ cellsOf (s.take n) ++ List.drop (o + 0 + (cellsOf (s.take n)).length) (cellsOf m).toArray.toList).toArray = (cellsOf (midL m o (s.take n))).toArray := by
    simp [cellsOf, midL, List.map_take, List.map_drop]
  rw [e] at hst
  obtain ⟨i, hi, hs1⟩ := Option.map_eq_some_iff.1 one_b
  simp only [Builtin.copy_, run_underlying Tryd.underlying49, Builtin.lenOf, Builtin.firstCells, sizeOf, typeInfo, hi, Sem.run_bind, Sem.run_pure, Result.andThen_ok, Result.andThen, hmin]
  simp [Result.andThen, hmin, htk, hst, hz, Builtin.lenOf, Builtin.firstCells, sizeOf, typeInfo, hi, run_underlying Tryd.underlying49]
theorem copy_arr {w : World} {g f o n k cap cap' : Nat} {T T' : TypeId} {m s : List UInt8} (h : AB w g T m) (hf : AB w f T' s) (hk : k = s.length) (hkn : k ≤ n) (hfit : o + k ≤ m.length) (ty : TypeId) :
    (Builtin.copy_ #[49, 49] ty #[.slice (some ⟨g, o, none⟩) n cap, .slice (some ⟨f, 0, none⟩) k cap']).run Tryd.prog w = .ok (goInt k) (w.setRow g (cellsOf (midL m o s)).toArray) := by
  subst hk
  have := run_copy_row (P := Tryd.prog) w 49 49 ty 5 g o n cap ⟨f, 0, none⟩ s.length cap' _ _ (cellsOf s) Tryd.underlying49 one_b h (by rw [cellsOf_length]; exact (Nat.min_eq_left hkn).symm) (fun j v hj => by
    rw [show (⟨f, 0, none⟩ : Addr).add j = ⟨f, j, none⟩ from by unfold Addr.add; split <;> simp_all, cellAt hf]
    simpa using hj) (by simp [cellsOf_length]; omega) (cellsOf_one _)
  rw [this, cellsOf_length]
  congr 2
  simp [cellsOf, midL, List.map_take, List.map_drop]
theorem kp_setRow {S : List Nat} {a w : World} (h : Kp S a w) {g : Nat} (hg : g ∈ S ∨ a.heap.size ≤ g) (cs : Array Value) : Kp S a (w.setRow g cs) := h.setRow hg cs

set_option maxHeartbeats 2000000 in
theorem stampOf_any {w : World} {a p : Nat} (ha : a < 4294967296) (hp : p < 4294967296) : Calls Tryd.prog 39 #[.int .i64 a, .int .i64 p] w fun e w' => e = .returned (arv (stL a p)) ∧ Below w.heap.size w w' := by
  have hz := hz8
  obtain ⟨k, hk⟩ : ∃ k, k = w.heap.size := ⟨_, rfl⟩
  obtain ⟨w2, hw2⟩ : ∃ w2, w2 = (w.alloc (.cells (cellsOf z8).toArray 51)).alloc (.cells (cellsOf z8).toArray 51) := ⟨_, rfl⟩
  have hA : AB w2 k 51 z8 := by rw [hw2, hk]; exact (AB.new w _ z8).alloc _
  have hB : AB w2 (k + 1) 51 z8 := by rw [hw2, hk]; have := AB.new (w.alloc (.cells (cellsOf z8).toArray 51)) 51 z8; simpa using this
  have hL : Below w.heap.size w w2 := by rw [hw2]; exact (below_alloc w _).alloc (by simp) _
  have H := Lib.hid (And.intro hA (And.intro hB hL))
  have HW := Lib.hid hw2
  have HK := Lib.hid hk
  clear hA hB hL hw2
  go_enter Tryd.func39, Tryd.ntmps39
  go_wp2_with fail
  rw [← HW.out, ← HK.out]
  clear hk
  go_at_call 42
  refine (put_any (o := 0) a 4 ha (by omega) H.out.2.1 (by rw [z8_length]; omega)).mono ?_
  rintro e w3 ⟨rfl, b3, k3⟩
  go_wp2_with fail
  go_at_call 42
  refine (put_any (o := 4) p 4 hp (by omega) b3 (by rw [midL_length (by rw [bytesL_length, z8_length]; omega), z8_length]; omega)).mono ?_
  rintro e w4 ⟨rfl, b4, k4⟩
  rw [stL_mid] at b4
  have hl8 := stL_length a p
  have hkk := k3.trans k4 (fun _ h _ => h)
  have a4 : AB w4 k 51 z8 := (H.out.1).kp hkk (by simp)
  have hld := b4.loadAt hl8
  have hst := a4.storeAt z8_length hl8
  have hr := (a4.setRow (stL a p)).loadS hl8
  have hbl : Below w.heap.size w (w4.setRow k (cellsOf (stL a p)).toArray) := by
    have h1 : Kp [k, k + 1] w w2 := Kp.of_below H.out.2.2 _
    have h2 : Kp [k, k + 1] w w4 := h1.trans hkk (fun j hj _ => by simp at hj; simp [hj])
    have h3 := h2.setRow (g := k) (.inl (by simp)) (cellsOf (stL a p)).toArray
    refine h3.to_below ?_ (Nat.le_refl _)
    have := HK.out
    intro j hj
    simp at hj
    omega
  have HB := Lib.hid hbl
  have HLD := Lib.hid hld
  have HST := Lib.hid hst
  have HR := Lib.hid hr
  obtain ⟨S, hS⟩ : ∃ S, S = stL a p := ⟨_, rfl⟩
  rw [← hS] at HLD HST HR HB
  have HS := Lib.hid hS
  clear b3 k3 b4 k4 hkk a4 hl8 hbl hld hst hr hS
  go_wp2_with (first | (refine wpList_load_run _ rfl _ _ rfl _ rfl HLD.out ?_) | (refine wpList_store_run _ rfl _ _ _ rfl _ _ rfl rfl HST.out ?_))
  (try simp only [Exit.inBlock, Exit.then])
  refine bodyPost_ret (results_cell1 _ rfl _ rfl HR.out) rfl ?_
  exact ⟨by rw [HS.out], HB.out⟩
end Go.Proofs.YteplndmgfaceiaaDoor
