/-
  Package frame's stamps: may, age, place, stampOf, ends.
  Package frame's stampOf, ends, begin, begun, framed.
  Package frame's ends.
  Two stamps, held against each other.
-/
import Derived.Lib.BufferWrite
import Derived.Laws.IdiomStrings
import Derived.Test.YthfnncahmccgkaaGreatDoorFPuM
import Derived.Deep.RegionWith
import Derived.StillTailTactics
import Derived.Deep.CutRange
import Derived.ChangeKeysEq
namespace Go.Proofs.YthfnncahmccgkaaGreatDoor
set_option linter.unusedSimpArgs false
set_option linter.unusedVariables false
open Go Go.RowKit
set_option maxRecDepth 100000

section
variable {P : Program} (w : World) {ops : Array Oper} {rest : List Oper} {o : Oper} {a : Act} {Q : Exit → Act → World → Prop}
theorem wpList_builtin2_runF (hgd : o.guard = none) (b : Builtin) (f : Array TypeId → TypeId → Array Value → Sem Value) (d s : Operand) (t t' : TypeId)
    (ho : o.op = .call { callee := .builtin b, args := #[d, s], argTypes := #[t, t'] }) (hb : ∀ ty args cs, builtin b #[t, t'] ty cs args = (do pure (.value (← f #[t, t'] ty args)))) (v u : Value) (hd : a.eval d = v) (hs : a.eval s = u) {v' : Value} {w' : World}
    (hr : (f #[t, t'] o.type #[v, u]).run P w = .ok v' w') (h : wpList P ops Q rest (a.put o.dst v') w') : wpList P ops Q (o :: rest) a w :=
  wpList_plain hgd fun _ hK => by
    unfold Oper.wp execOp
    simp only [ho, resolve, invoke, hb, Sem.run_bind, Sem.run_pure, Result.andThen_ok, List.map_toArray, List.map_cons, List.map_nil, hd, hs, hr]
    exact hK _ _ h
end

/-- A stamp, a sector as arrays. -/
abbrev arv (l : List UInt8) : Value := .agg (cellsOfF l).toArray
def z8 : List UInt8 := List.replicate 8 0
def z128 : List UInt8 := List.replicate 128 0
def z6 : List UInt8 := List.replicate 6 0
theorem z8_length : z8.length = 8 := by simp [z8]
theorem z128_length : z128.length = 128 := by simp [z128]
theorem z6_length : z6.length = 6 := by simp [z6]
theorem hz8 : ∀ w, (zeroValue 115).run Tryz.prog w = .ok (arv z8) w := (zero_of_info (P := Tryz.prog) (n := 8) (by kernel_rfl)).1
theorem hz128 : ∀ w, (zeroValue 91).run Tryz.prog w = .ok (arv z128) w := (zero_of_info (P := Tryz.prog) (n := 128) (by kernel_rfl)).1
theorem hz6 : ∀ w, (zeroValue 143).run Tryz.prog w = .ok (arv z6) w := (zero_of_info (P := Tryz.prog) (n := 6) (by kernel_rfl)).1
theorem s8 : (Tryz.prog.info? 115).map (·.size) = some 8 := by kernel_rfl
theorem s128 : (Tryz.prog.info? 91).map (·.size) = some 128 := by kernel_rfl
theorem s6 : (Tryz.prog.info? 143).map (·.size) = some 6 := by kernel_rfl
theorem one_bF : (Tryz.prog.info? 5).map (·.size) = some 1 := by kernel_rfl
theorem AB.loadS {w : World} {g : Nat} {l : List UInt8} (h : AB w g 115 l) (hl : l.length = 8) : (loadVar 115 ⟨g, 0, none⟩).run Tryz.prog w = .ok (arv l) w :=
  run_loadVar_row w g _ _ _ _ _ h Tryz.underlying115 rfl (by rw [s8]; simp [cellsOf_lengthF, hl])
theorem AB.loadAt {w : World} {g : Nat} {l : List UInt8} (h : AB w g 115 l) (hl : l.length = 8) : (Instr.loadAt 115 (.pointer (some ⟨g, 0, none⟩))).run Tryz.prog w = .ok (arv l) w := by
  simp only [Instr.loadAt, Instr.sureAddr, Sem.run_bind, Sem.run_pure, Result.andThen]
  exact h.loadS hl
theorem store_new8 (W : World) {l m : List UInt8} (hl : l.length = 8) (hm : m.length = 8) : (storeCells ⟨W.heap.size, 0, none⟩ (cellsOfF l)).run Tryz.prog (W.alloc (.cells (cellsOfF m).toArray 115)) = .ok () (W.alloc (.cells (cellsOfF l).toArray 115)) := by
  have := run_storeCells_new (P := Tryz.prog) W 115 (cellsOfF m).toArray (cellsOfF l).toArray (by rw [s8]; simp [cellsOf_lengthF, hl]) (by simp [cellsOf_lengthF, hl, hm]) (cells_allF l)
  simpa using this
theorem store_row8 {W : World} {g : Nat} {m l : List UInt8} (h : AB W g 115 m) (hm : m.length = 8) (hl : l.length = 8) : (storeCells ⟨g, 0, none⟩ (cellsOfF l)).run Tryz.prog W = .ok () (W.setRow g (cellsOfF l).toArray) := by
  have := run_storeCells_at Tryz.prog g 0 _ (cellsOfF l) 0 _ W h (by simp [cellsOf_lengthF, hl, hm]) (cellsOf_oneF l)
  rw [this]
  congr 2
  have hd : List.drop 8 (cellsOfF m) = [] := List.drop_eq_nil_of_le (by simp [cellsOf_lengthF, hm])
  simp [cellsOf_lengthF, hl, hd]
theorem byteCells_cellsF (l : List UInt8) : Lib.byteCells l = cellsOfF l := rfl

set_option maxHeartbeats 1000000 in
theorem may_any (a p : Int) (w : World) : Calls Tryz.prog 78 #[.int .i64 a, .int .i64 p] w fun e w' => e = .returned (.bool (mayB a p)) ∧ w = w' := by
  by_cases h1 : 1 ≤ a
  · by_cases h2 : a ≤ 4294967295
    · by_cases h3 : 0 ≤ p
      · by_cases h4 : p ≤ 1023
        · have h4' : p < 1024 := by omega
          have hm : mayB a p = true := mayB_iff.2 ⟨h1, h2, h3, h4⟩
          rw [hm]
          go_enter Tryz.func78, Tryz.ntmps78
          go_wp2_with fail
          go_ret
          exact ⟨rfl, rfl⟩
        · have h4' : ¬ p < 1024 := by omega
          have hm : mayB a p = false := by simp [mayB, h4]
          rw [hm]
          go_enter Tryz.func78, Tryz.ntmps78
          go_wp2_with fail
          go_ret
          exact ⟨rfl, rfl⟩
      · have hm : mayB a p = false := by simp [mayB, h3]
        rw [hm]
        go_enter Tryz.func78, Tryz.ntmps78
        go_wp2_with fail
        go_ret
        exact ⟨rfl, rfl⟩
    · have hm : mayB a p = false := by simp [mayB, h2]
      rw [hm]
      go_enter Tryz.func78, Tryz.ntmps78
      go_wp2_with fail
      go_ret
      exact ⟨rfl, rfl⟩
  · have hm : mayB a p = false := by simp [mayB, h1]
    rw [hm]
    go_enter Tryz.func78, Tryz.ntmps78
    go_wp2_with fail
    go_ret
    exact ⟨rfl, rfl⟩

theorem getD_take' {l : List UInt8} {k j : Nat} (h : j < k) : (l.take k).getD j 0 = l.getD j 0 := by
  rw [List.getD_eq_getElem?_getD, List.getD_eq_getElem?_getD, List.getElem?_take_of_lt h]
theorem getD_drop' {l : List UInt8} {k j : Nat} : (l.drop k).getD j 0 = l.getD (k + j) 0 := by
  rw [List.getD_eq_getElem?_getD, List.getD_eq_getElem?_getD, List.getElem?_drop]

set_option maxHeartbeats 1000000 in
theorem age_any {w : World} {s : List UInt8} (hs : s.length = 8) : Calls Tryz.prog 66 #[arv s] w fun e w' => e = .returned (.int .i64 (ageN s)) ∧ Below w.heap.size w w' := by
  have hcl : (cellsOfF s).length = 8 := by rw [cellsOf_lengthF, hs]
  have HB := Lib.hid (AB.new w 115 s)
  have HL := Lib.hid (below_alloc w (.cells (cellsOfF s).toArray 115))
  have h4 : (s.take 4).length = 4 := by simp; omega
  go_enter Tryz.func66, Tryz.ntmps66
  go_wp2_with (go_at_call 88; refine (h4 ▸ number_any (s.take 4) (by omega) _ 0 _ (fun j hj => by rw [getD_take' (by omega), Nat.zero_add]; exact HB.out.cell (by omega))).mono ?_; rintro e w1 ⟨rfl, rfl⟩)
  go_ret
  exact ⟨rfl, HL.out⟩
set_option maxHeartbeats 1000000 in
theorem place_any {w : World} {s : List UInt8} (hs : s.length = 8) : Calls Tryz.prog 81 #[arv s] w fun e w' => e = .returned (.int .i64 (plN s)) ∧ Below w.heap.size w w' := by
  have hcl : (cellsOfF s).length = 8 := by rw [cellsOf_lengthF, hs]
  have HB := Lib.hid (AB.new w 115 s)
  have HL := Lib.hid (below_alloc w (.cells (cellsOfF s).toArray 115))
  have h4 : ((s.drop 4).take 4).length = 4 := by simp; omega
  go_enter Tryz.func81, Tryz.ntmps81
  go_wp2_with (go_at_call 88; refine (h4 ▸ number_any ((s.drop 4).take 4) (by omega) _ 4 _ (fun j hj => by rw [getD_take' (by omega), getD_drop']; exact HB.out.cell (by omega))).mono ?_; rintro e w1 ⟨rfl, rfl⟩)
  go_ret
  exact ⟨rfl, HL.out⟩
end Go.Proofs.YthfnncahmccgkaaGreatDoor

namespace Go.Proofs.YthfnncahmccgkaaGreatDoor
set_option linter.unusedSimpArgs false
set_option linter.unusedVariables false
open Go Go.RowKit
set_option maxRecDepth 100000

section
variable {P : Program} (w : World) {ops : Array Oper} {rest : List Oper} {o : Oper} {a : Act} {Q : Exit → Act → World → Prop}
theorem wpList_load_run (hgd : o.guard = none) (t : TypeId) (x : Operand) (ho : o.op = .load t x) (v : Value) (hd : a.eval x = v) {v' : Value}
    (hr : (Instr.loadAt t v).run P w = .ok v' w) (h : wpList P ops Q rest (a.put o.dst v') w) : wpList P ops Q (o :: rest) a w :=
  wpList_plain hgd fun _ hK => by
    unfold Oper.wp execOp
    simp only [ho, Sem.run_bind, Sem.run_pure, Result.andThen_ok, hd, hr]
    exact hK _ _ h
theorem wpList_store_run (hgd : o.guard = none) (t : TypeId) (x y : Operand) (ho : o.op = .store t x y) (v u : Value) (hd : a.eval x = v) (hs : a.eval y = u) {w' : World}
    (hr : (Instr.storeAt t v u).run P w = .ok () w') (h : wpList P ops Q rest (a.put o.dst undef) w') : wpList P ops Q (o :: rest) a w :=
  wpList_plain hgd fun _ hK => by
    unfold Oper.wp execOp
    simp only [ho, Sem.run_bind, Sem.run_pure, Result.andThen_ok, hd, hs, hr]
    exact hK _ _ h
theorem results_cell1 {fn : Func} {t : TypeId} {u : Tmp} (h : fn.results = #[.cell u t]) (tmps : Array Value) {ad : Addr} {v : Value} (hp : tmps.getD u undef = .pointer (some ad)) (hr : (loadVar t ad).run P w = .ok v w) : (results fn tmps).run P w = .ok v w := by
  have hp2 : tmps[u]?.getD undef = .pointer (some ad) := by simpa [Array.getD_eq_getD_getElem?] using hp
  simp [results, h, hp2, hr, asAddr, Result.andThen]
theorem results_cell2 {fn : Func} {t t' : TypeId} {u u' : Tmp} (h : fn.results = #[.cell u t, .cell u' t']) (tmps : Array Value) {ad ad' : Addr} {v v' : Value} (hp : tmps.getD u undef = .pointer (some ad)) (hp' : tmps.getD u' undef = .pointer (some ad'))
    (hr : (loadVar t ad).run P w = .ok v w) (hr' : (loadVar t' ad').run P w = .ok v' w) : (results fn tmps).run P w = .ok (.tuple #[v, v']) w := by
  have hp2 : tmps[u]?.getD undef = .pointer (some ad) := by simpa [Array.getD_eq_getD_getElem?] using hp
  have hp3 : tmps[u']?.getD undef = .pointer (some ad') := by simpa [Array.getD_eq_getD_getElem?] using hp'
  simp [results, h, hp2, hr, hp3, hr', asAddr, Result.andThen]
end
theorem AB.storeAt {W : World} {g : Nat} {m l : List UInt8} (h : AB W g 115 m) (hm : m.length = 8) (hl : l.length = 8) : (Instr.storeAt 115 (.pointer (some ⟨g, 0, none⟩)) (arv l)).run Tryz.prog W = .ok () (W.setRow g (cellsOfF l).toArray) := by
  simp only [Instr.storeAt, Instr.sureAddr, Sem.run_bind, Sem.run_pure, Result.andThen]
  exact run_storeVar_row W g _ _ _ _ h (by rw [s8]; simp [cellsOf_lengthF, hl]) (by simp [cellsOf_lengthF, hl, hm]) (cells_allF l)

theorem stL_mid (a p : Nat) : midL (midL z8 0 (bytesL a 4)) 4 (bytesL p 4) = stL a p := by
  simp only [midL, bytesL_length, stL, List.take_zero, List.nil_append, z8]
  rw [List.take_left' (bytesL_length _ _)]
  rw [List.drop_append, bytesL_length]
  simp [bytesL_length]
theorem copy_str {w : World} {g o n cap : Nat} {T : TypeId} {m s : List UInt8} (h : AB w g T m) (hfit : o + min s.length n ≤ m.length) (ty : TypeId) :
    (Builtin.copy_ #[44, 9] ty #[.slice (some ⟨g, o, none⟩) n cap, sv s]).run Tryz.prog w = .ok (goInt (min s.length n : Nat)) (w.setRow g (cellsOfF (midL m o (s.take n))).toArray) := by
  have hst := run_storeCells_at Tryz.prog g o T (cellsOfF (s.take n)) 0 _ w h (by simp [cellsOf_lengthF]; omega) (cellsOf_oneF _)
  have hz : (str s).size = s.length := by show s.toArray.size = s.length; simp
  have htk : List.take (min s.length n) (List.map (fun b : UInt8 => Value.int IntKind.u8 (b.toNat : Int)) s) = cellsOfF (s.take n) := by
    rw [cellsOfF, List.map_take, Nat.min_comm, ← List.take_take, List.take_of_length_le (l := List.map _ s) (by simp)]
    rfl
  have hmin : Nat.min (str s).size n = min s.length n := by rw [hz]
  have e : (List.take (o + 0) (cellsOfF m).toArray.toList ++ cellsOfF (s.take n) ++ List.drop (o + 0 + (cellsOfF (s.take n)).length) (cellsOfF m).toArray.toList).toArray = (cellsOfF (midL m o (s.take n))).toArray := by
    simp [cellsOfF, midL, List.map_take, List.map_drop]
  rw [e] at hst
  obtain ⟨i, hi, hs1⟩ := Option.map_eq_some_iff.1 one_bF
  simp only [Builtin.copy_, run_underlying Tryz.underlying44, Builtin.lenOf, Builtin.firstCells, sizeOf, typeInfo, hi, Sem.run_bind, Sem.run_pure, Result.andThen_ok, Result.andThen, hmin]
  simp [Result.andThen, hmin, htk, hst, hz, Builtin.lenOf, Builtin.firstCells, sizeOf, typeInfo, hi, run_underlying Tryz.underlying44]
theorem copy_arr {w : World} {g f o n k cap cap' : Nat} {T T' : TypeId} {m s : List UInt8} (h : AB w g T m) (hf : AB w f T' s) (hk : k = s.length) (hkn : k ≤ n) (hfit : o + k ≤ m.length) (ty : TypeId) :
    (Builtin.copy_ #[44, 44] ty #[.slice (some ⟨g, o, none⟩) n cap, .slice (some ⟨f, 0, none⟩) k cap']).run Tryz.prog w = .ok (goInt k) (w.setRow g (cellsOfF (midL m o s)).toArray) := by
  subst hk
  have := run_copy_row (P := Tryz.prog) w 44 44 ty 5 g o n cap ⟨f, 0, none⟩ s.length cap' _ _ (cellsOfF s) Tryz.underlying44 one_bF h (by rw [cellsOf_lengthF]; exact (Nat.min_eq_left hkn).symm) (fun j v hj => by
    rw [show (⟨f, 0, none⟩ : Addr).add j = ⟨f, j, none⟩ from by unfold Addr.add; split <;> simp_all, cellAt hf]
    simpa using hj) (by simp [cellsOf_lengthF]; omega) (cellsOf_oneF _)
  rw [this, cellsOf_lengthF]
  congr 2
  simp [cellsOfF, midL, List.map_take, List.map_drop]
theorem kp_setRow {S : List Nat} {a w : World} (h : Kp S a w) {g : Nat} (hg : g ∈ S ∨ a.heap.size ≤ g) (cs : Array Value) : Kp S a (w.setRow g cs) := h.setRow hg cs

set_option maxHeartbeats 2000000 in
theorem stampOf_any {w : World} {a p : Nat} (ha : a < 4294967296) (hp : p < 4294967296) : Calls Tryz.prog 99 #[.int .i64 a, .int .i64 p] w fun e w' => e = .returned (arv (stL a p)) ∧ Below w.heap.size w w' := by
  have hz := hz8
  obtain ⟨k, hk⟩ : ∃ k, k = w.heap.size := ⟨_, rfl⟩
  obtain ⟨w2, hw2⟩ : ∃ w2, w2 = (w.alloc (.cells (cellsOfF z8).toArray 115)).alloc (.cells (cellsOfF z8).toArray 115) := ⟨_, rfl⟩
  have hA : AB w2 k 115 z8 := by rw [hw2, hk]; exact (AB.new w _ z8).alloc _
  have hB : AB w2 (k + 1) 115 z8 := by rw [hw2, hk]; have := AB.new (w.alloc (.cells (cellsOfF z8).toArray 115)) 115 z8; simpa using this
  have hL : Below w.heap.size w w2 := by rw [hw2]; exact (below_alloc w _).alloc (by simp) _
  have H := Lib.hid (And.intro hA (And.intro hB hL))
  have HW := Lib.hid hw2
  have HK := Lib.hid hk
  clear hA hB hL hw2
  go_enter Tryz.func99, Tryz.ntmps99
  go_wp2_with fail
  rw [← HW.out, ← HK.out]
  clear hk
  go_at_call 98
  refine (put_any (o := 0) a 4 ha (by omega) H.out.2.1 (by rw [z8_length]; omega)).mono ?_
  rintro e w3 ⟨rfl, b3, k3⟩
  go_wp2_with fail
  go_at_call 98
  refine (put_any (o := 4) p 4 hp (by omega) b3 (by rw [midL_length (by rw [bytesL_length, z8_length]; omega), z8_length]; omega)).mono ?_
  rintro e w4 ⟨rfl, b4, k4⟩
  rw [stL_mid] at b4
  have hl8 := stL_length a p
  have hkk := k3.trans k4 (fun _ h _ => h)
  have a4 : AB w4 k 115 z8 := (H.out.1).kp hkk (by simp)
  have hld := b4.loadAt hl8
  have hst := a4.storeAt z8_length hl8
  have hr := (a4.setRow (stL a p)).loadS hl8
  have hbl : Below w.heap.size w (w4.setRow k (cellsOfF (stL a p)).toArray) := by
    have h1 : Kp [k, k + 1] w w2 := Kp.of_below H.out.2.2 _
    have h2 : Kp [k, k + 1] w w4 := h1.trans hkk (fun j hj _ => by simp at hj; simp [hj])
    have h3 := h2.setRow (g := k) (.inl (by simp)) (cellsOfF (stL a p)).toArray
    refine h3.to_below ?_ (Nat.le_refl _)
    have := HK.out
    intro j hj
    simp at hj
    omega
  have HB := Lib.hid hbl
  have HLD := Lib.hid hld
  have HST := Lib.hid hst
  have HR := Lib.hid hr
  obtain ⟨S, hS⟩ : ∃ S, S = stL a p := ⟨_, rfl⟩
  rw [← hS] at HLD HST HR HB
  have HS := Lib.hid hS
  clear b3 k3 b4 k4 hkk a4 hl8 hbl hld hst hr hS
  go_wp2_with (first | (refine wpList_load_run _ rfl _ _ rfl _ rfl HLD.out ?_) | (refine wpList_store_run _ rfl _ _ _ rfl _ _ rfl rfl HST.out ?_))
  (try simp only [Exit.inBlock, Exit.then])
  refine bodyPost_ret (results_cell1 _ rfl _ rfl HR.out) rfl ?_
  exact ⟨by rw [HS.out], HB.out⟩
end Go.Proofs.YthfnncahmccgkaaGreatDoor

namespace Go.Proofs.YthfnncahmccgkaaGreatDoor
set_option linter.unusedSimpArgs false
set_option linter.unusedVariables false
open Go Go.RowKit
set_option maxRecDepth 100000

theorem two_zero (w : World) : AB ((w.alloc (.cells (cellsOfF z8).toArray 115)).alloc (.cells (cellsOfF z8).toArray 115)) w.heap.size 115 z8 ∧
    AB ((w.alloc (.cells (cellsOfF z8).toArray 115)).alloc (.cells (cellsOfF z8).toArray 115)) (w.heap.size + 1) 115 z8 ∧
    Below w.heap.size w ((w.alloc (.cells (cellsOfF z8).toArray 115)).alloc (.cells (cellsOfF z8).toArray 115)) := by
  refine ⟨(AB.new w _ z8).alloc _, ?_, (below_alloc w _).alloc (by simp) _⟩
  have := AB.new (w.alloc (.cells (cellsOfF z8).toArray 115)) 115 z8
  simpa using this

theorem midL_all {m x : List UInt8} (h : x.length = m.length) : midL m 0 x = x := by
  simp [midL, h]

/-- Two stamps' blocks, k and k + 1. -/
def EB (w : World) (k : Nat) (a b : List UInt8) : Prop := AB w k 115 a ∧ AB w (k + 1) 115 b ∧ a.length = 8 ∧ b.length = 8

set_option maxHeartbeats 2000000 in
theorem ends_any {w : World} (x : List UInt8) (hx : x.length ≤ 9223372036854775807) : Calls Tryz.prog 65 #[sv x] w fun e w' => e = .returned (.tuple #[arv (fstL x), arv (lstL x)]) ∧ Below w.heap.size w w' := by
  have hz := hz8
  obtain ⟨k, hk⟩ : ∃ k, k = w.heap.size := ⟨_, rfl⟩
  obtain ⟨w2, hw2⟩ : ∃ w2, w2 = (w.alloc (.cells (cellsOfF z8).toArray 115)).alloc (.cells (cellsOfF z8).toArray 115) := ⟨_, rfl⟩
  have h2 := two_zero w
  rw [← hw2, ← hk] at h2
  have H := Lib.hid h2
  have HW := Lib.hid hw2
  have HK := Lib.hid hk
  clear h2 hw2
  have hxe : (str x).size = x.length := by show x.toArray.size = x.length; simp
  by_cases h128 : x.length = 128
  · have hci : ((x.length : Int) == 128) = true := by rw [h128]; rfl
    have hc1 : AB (w2.setRow k (cellsOfF (x.take 8)).toArray) k 115 (x.take 8) := H.out.1.setRow _
    have hc2 : AB (w2.setRow k (cellsOfF (x.take 8)).toArray) (k + 1) 115 z8 := H.out.2.1.setOther (by omega) _
    have cp1 := fun ty => copy_str (cap := 8) (n := 8) (s := x) H.out.1 (o := 0) (by simp [z8_length, h128]) ty
    rw [midL_all (by simp [z8_length, h128])] at cp1
    have cp2 := fun ty => copy_str (w := (w2.setRow k (cellsOfF (x.take 8)).toArray).drew) (cap := 8) (n := 8) (s := x.drop 120) hc2.drew (o := 0) (by simp [z8_length, h128]) ty
    rw [midL_all (by simp [z8_length, h128])] at cp2
    have hsl : (str x).extract 120 128 = str (x.drop 120) := by rw [str_extract, List.take_of_length_le (by omega)]
    go_enter Tryz.func65, Tryz.ntmps65
    go_upto_region 2 with fail
    rw [← HW.out, ← HK.out]
    clear hk
    go_wp2_with (at_builtin; refine wpList_builtin2_runF _ rfl .copy Builtin.copy_ _ _ _ _ rfl (fun _ _ _ => rfl) _ _ rfl rfl (cp1 _) ?_)
    go_still_tail 3, (by kernel_rfl)
    change wpList _ _ _ _ _ (w2.setRow k (cellsOfF (x.take 8)).toArray).drew
    refine wpList_builtin2_runF _ rfl .copy Builtin.copy_ _ _ _ _ rfl (fun _ _ _ => rfl) _ _ rfl rfl (cp2 _) ?_
    have e1 : AB ((w2.setRow k (cellsOfF (x.take 8)).toArray).drew.setRow (k + 1) (cellsOfF ((x.drop 120).take 8)).toArray) k 115 (x.take 8) := hc1.drew.setOther (by omega) _
    have e2 : AB ((w2.setRow k (cellsOfF (x.take 8)).toArray).drew.setRow (k + 1) (cellsOfF ((x.drop 120).take 8)).toArray) (k + 1) 115 ((x.drop 120).take 8) := hc2.drew.setRow _
    have h3 : Kp [k, k + 1] w ((w2.setRow k (cellsOfF (x.take 8)).toArray).drew.setRow (k + 1) (cellsOfF ((x.drop 120).take 8)).toArray) :=
      (((show Kp [k, k + 1] w w2 from Kp.of_below (HK.out ▸ H.out.2.2) _).setRow (.inl (by simp)) _).drew).setRow (.inl (by simp)) _
    have HF := Lib.hid (show fstL x = x.take 8 by rw [fstL, if_pos h128])
    have HG := Lib.hid (show lstL x = (x.drop 120).take 8 by rw [lstL, if_pos h128, List.take_of_length_le (by simp [h128])])
    generalize (w2.setRow k (cellsOfF (x.take 8)).toArray).drew.setRow (k + 1) (cellsOfF ((x.drop 120).take 8)).toArray = w3 at e1 e2 h3 ⊢
    have l1 : (x.take 8).length = 8 := by simp; omega
    have l2 : ((x.drop 120).take 8).length = 8 := by simp; omega
    obtain ⟨A, hA⟩ : ∃ A, A = x.take 8 := ⟨_, rfl⟩
    obtain ⟨B, hB⟩ : ∃ B, B = (x.drop 120).take 8 := ⟨_, rfl⟩
    rw [← hA] at e1 l1 HF
    rw [← hB] at e2 l2 HG
    clear hA hB cp1 cp2 hc1 hc2 hsl
    have ld1 := Lib.hid (e1.loadAt l1)
    have ld2 := Lib.hid (e2.loadAt l2)
    have f1 : AB (w3.setRow k (cellsOfF A).toArray) k 115 A := e1.setRow _
    have f2 : AB (w3.setRow k (cellsOfF A).toArray) (k + 1) 115 B := e2.setOther (by omega) _
    have st1 := Lib.hid (e1.storeAt l1 l1)
    have st2 := Lib.hid (f2.storeAt l2 l2)
    have r1 := Lib.hid ((f1.setOther (by omega) (cellsOfF B).toArray : AB ((w3.setRow k (cellsOfF A).toArray).setRow (k + 1) (cellsOfF B).toArray) k 115 A).loadS l1)
    have r2 := Lib.hid ((f2.setRow B).loadS l2)
    have h4 := (h3.setRow (g := k) (.inl (by simp)) (cellsOfF A).toArray).setRow (g := k + 1) (.inl (by simp)) (cellsOfF B).toArray
    have HB := Lib.hid (h4.to_below (fun j hj => by have := HK.out; simp at hj; omega) (Nat.le_refl _))
    clear e1 e2 f1 f2 h3 h4 l1 l2
    go_wp2_with (first | (refine wpList_load_run _ rfl _ _ rfl _ rfl ld1.out ?_) | (refine wpList_load_run _ rfl _ _ rfl _ rfl ld2.out ?_) | (refine wpList_store_run _ rfl _ _ _ rfl _ _ rfl rfl st1.out ?_) | (refine wpList_store_run _ rfl _ _ _ rfl _ _ rfl rfl st2.out ?_))
    (try simp only [Exit.inBlock, Exit.then])
    refine bodyPost_ret (results_cell2 _ rfl _ rfl rfl r1.out r2.out) rfl ?_
    exact ⟨by rw [HF.out, HG.out], HB.out⟩
  · have hci : ((x.length : Int) == 128) = false := by rw [beq_eq_false_iff_ne]; omega
    have HF := Lib.hid (show fstL x = z8 by rw [fstL, if_neg h128]; rfl)
    have HG := Lib.hid (show lstL x = z8 by rw [lstL, if_neg h128]; rfl)
    go_enter Tryz.func65, Tryz.ntmps65
    go_upto_region 4 with fail
    rw [← HW.out, ← HK.out]
    obtain ⟨e1, e2, h3⟩ := H.out
    have ld1 := Lib.hid (e1.loadAt z8_length)
    have ld2 := Lib.hid (e2.loadAt z8_length)
    have f1 : AB (w2.setRow k (cellsOfF z8).toArray) k 115 z8 := e1.setRow _
    have f2 : AB (w2.setRow k (cellsOfF z8).toArray) (k + 1) 115 z8 := e2.setOther (by omega) _
    have st1 := Lib.hid (e1.storeAt z8_length z8_length)
    have st2 := Lib.hid (f2.storeAt z8_length z8_length)
    have r1 := Lib.hid ((f1.setOther (by omega) (cellsOfF z8).toArray : AB ((w2.setRow k (cellsOfF z8).toArray).setRow (k + 1) (cellsOfF z8).toArray) k 115 z8).loadS z8_length)
    have r2 := Lib.hid ((f2.setRow z8).loadS z8_length)
    have h4 := ((show Kp [k, k + 1] w w2 from Kp.of_below (HK.out ▸ h3) _).setRow (g := k) (.inl (by simp)) (cellsOfF z8).toArray).setRow (g := k + 1) (.inl (by simp)) (cellsOfF z8).toArray
    have HB := Lib.hid (h4.to_below (fun j hj => by have := HK.out; simp at hj; omega) (Nat.le_refl _))
    clear e1 e2 f1 f2 h3 h4 hk
    go_wp2_with (first | (refine wpList_load_run _ rfl _ _ rfl _ rfl ld1.out ?_) | (refine wpList_load_run _ rfl _ _ rfl _ rfl ld2.out ?_) | (refine wpList_store_run _ rfl _ _ _ rfl _ _ rfl rfl st1.out ?_) | (refine wpList_store_run _ rfl _ _ _ rfl _ _ rfl rfl st2.out ?_))
    (try simp only [Exit.inBlock, Exit.then])
    refine bodyPost_ret (results_cell2 _ rfl _ rfl rfl r1.out r2.out) rfl ?_
    exact ⟨by rw [HF.out, HG.out], HB.out⟩
end Go.Proofs.YthfnncahmccgkaaGreatDoor

namespace Go.Proofs.YthfnncahmccgkaaGreatDoor
set_option linter.unusedSimpArgs false
set_option linter.unusedVariables false
open Go Go.RowKit
set_option maxRecDepth 100000

theorem key5 : Tryz.prog.plainKey 5 = true := by kernel_rfl
theorem cells5 : Tryz.prog.cellsOf 5 = 1 := by kernel_rfl
theorem eq_bytes (d : Nat) (a b : UInt8) (w : World) : (Op.equalIn (d + 1) 5 (bv a) (bv b)).run Tryz.prog w = .ok (a == b) w := by
  simp only [Op.equalIn, Sem.run_bind, run_underlying Tryz.underlying5, Result.andThen_ok, bv]
  simp
  rw [Bool.eq_iff_iff, beq_iff_eq, beq_iff_eq, ← UInt8.toNat_inj]
  omega
theorem eqItems_bytes (d : Nat) (A B : List UInt8) (w : World) : ∀ is : List Nat, (∀ i ∈ is, i < A.length ∧ i < B.length) →
    (Op.eqItems (d + 1) 5 1 (cellsOfF A).toArray (cellsOfF B).toArray is).run Tryz.prog w = .ok (is.all fun i => A.getD i 0 == B.getD i 0) w
  | [], _ => by simp [Op.eqItems]
  | i :: is, h => by
    obtain ⟨h1, h2⟩ := h i (by simp)
    have e1 : (part 5 (cellsOfF A).toArray (i * 1)).run Tryz.prog w = .ok (bv (A.getD i 0)) w := run_part_plain w key5 (by simp [cellsOfF, List.getD_eq_getElem?_getD, h1])
    have e2 : (part 5 (cellsOfF B).toArray (i * 1)).run Tryz.prog w = .ok (bv (B.getD i 0)) w := run_part_plain w key5 (by simp [cellsOfF, List.getD_eq_getElem?_getD, h2])
    have ih := eqItems_bytes d A B w is (fun j hj => h j (by simp [hj]))
    simp only [Op.eqItems, Sem.run_bind, e1, e2, eq_bytes, Result.andThen_ok]
    cases hc : A.getD i 0 == B.getD i 0 with
    | true => simp only [Bool.not_true, Bool.false_eq_true, if_false, ih, List.all_cons, hc, Bool.true_and]
    | false => simp only [Bool.not_false, if_true, Sem.run_pure, List.all_cons, hc, Bool.false_and]
theorem eq_stamps {A B : List UInt8} (hA : A.length = 8) (hB : B.length = 8) (w : World) : (Op.equal 115 (arv A) (arv B)).run Tryz.prog w = .ok (A == B) w := by
  obtain ⟨i, hi⟩ := info_of_underlying (P := Tryz.prog) Tryz.underlying5
  have h := run_equalIn_array (P := Tryz.prog) w 9999 (cellsOfF A).toArray (cellsOfF B).toArray Tryz.underlying115 hi
  rw [cells5] at h
  have h2 := eqItems_bytes 9998 A B w (List.range 8) (fun i hi => by simp at hi; omega)
  have h3 : (List.range 8).all (fun i => A.getD i 0 == B.getD i 0) = (A == B) := by
    rw [Bool.eq_iff_iff, List.all_eq_true, beq_iff_eq]
    constructor
    · intro h
      refine List.ext_getElem (by omega) fun j h1 h2 => ?_
      have := h j (by simp; omega)
      rw [beq_iff_eq, getD_str _ _ h1, getD_str _ _ h2] at this
      exact this
    · rintro rfl; simp
  rw [h3] at h2
  exact h.trans h2
theorem neq_stamps {A B : List UInt8} (hA : A.length = 8) (hB : B.length = 8) (w : World) : (Go.binOp .neq 115 (arv A) (arv B)).run Tryz.prog w = .ok (.bool (A != B)) w := by
  have h := eq_stamps hA hB w
  simp only [Go.binOp, Sem.run_bind, h, Result.andThen_ok, Sem.run_pure]
  rfl
section
variable {P : Program} (w : World) {ops : Array Oper} {rest : List Oper} {o : Oper} {a : Act} {Q : Exit → Act → World → Prop}
theorem wpList_neq_run (hgd : o.guard = none) (t t' : TypeId) (x y : Operand) (ho : o.op = .binOp .neq t x y t') (v u : Value) (hd : a.eval x = v) (hs : a.eval y = u) {v' : Value}
    (hg : (eqGuard .neq t x y v u).run P w = .ok () w) (hr : (Go.binOp .neq t v u).run P w = .ok v' w) (h : wpList P ops Q rest (a.put o.dst v') w) : wpList P ops Q (o :: rest) a w :=
  wpList_plain hgd fun _ hK => by
    unfold Oper.wp execOp
    simp only [ho, Sem.run_bind, Sem.run_pure, Result.andThen_ok, hd, hs, hg, hr]
    exact hK _ _ h
theorem guard_stamps (x y : Operand) (xs ys : Array Value) (w : World) : (eqGuard .neq 115 x y (.agg xs) (.agg ys)).run Tryz.prog w = .ok () w := run_eqGuard_agg w .neq _ x y xs ys (by kernel_rfl)
end
end Go.Proofs.YthfnncahmccgkaaGreatDoor
