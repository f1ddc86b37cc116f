/-
  The contract of read.
  The contract of read: where the tags are a certificate's; and whole.
  The contract of Decode.
-/
import Derived.Deep.RegionHeld3
import Derived.Test.YtnaoandleelbkaaGreatDoorGRm
import Derived.Test.YtnaoandleelbkaaGreatDoorGWm
namespace Go.Proofs.YtnaoandleelbkaaGreatDoor
set_option linter.unusedSimpArgs false
set_option linter.unusedVariables false
open Go Go.RowKit
set_option maxRecDepth 100000

theorem resCT {P : Program} {fn : Func} {p q : Tmp} {ty : TypeId} (h : fn.results = #[.cell p ty, .tmp q]) (tmps : Array Value) (w : World) (g : Nat) (t : TypeId) (cs : Array Value) (fr : Nat × Nat) (d : TypeDesc)
    (hp : tmps.getD p undef = .pointer (some ⟨g, 0, none⟩)) (hg : w.heap[g]? = some (.cells cs t fr))
    (hu : P.underlying ty = some d) (hd : (match d with | .struct _ | .array _ _ => true | _ => false) = true) (hi : (P.info? ty).map (·.size) = some cs.size) :
    (results fn tmps).run P w = .ok (.tuple #[.agg cs, tmps.getD q undef]) w := by
  have hp' : tmps[p]?.getD undef = .pointer (some ⟨g, 0, none⟩) := by simpa using hp
  simp [results, h, hp', asAddr, run_loadVar_row w g t ty cs fr d hg hu hd hi]
theorem GL.row {w : World} (h : GL w) : ∃ T fz, w.heap[(1 : Nat)]? = some (.cells (cellsOf tagsC).toArray T fz) := by
  have := h.tg
  unfold Lib.TabIs World.var? at this
  rw [gTags] at this
  simp only [Option.bind_some] at this
  cases hh : w.heap[(1 : Nat)]? with
  | none => rw [hh] at this; simp at this
  | some o =>
    rw [hh] at this
    cases o with
    | cells cs T fz =>
      simp only [Option.bind_some, Option.some.injEq] at this
      exact ⟨T, fz, by rw [this]; rfl⟩
    | _ => simp at this
section
variable {o : Oper} {a : Act} {w : World}
theorem exec_neq_tags {x y : Operand} {t' : TypeId} (ho : o.op = .binOp .neq 146 x y t') {A B : List UInt8} (hd : a.eval x = arrV A) (hs : a.eval y = arrV B) (hA : A.length = 6) (hB : B.length = 6) :
    (execOp a.eval o).run Tryz.prog w = .ok (.value (.bool (A != B))) w := by
  have hg : (eqGuard .neq 146 x y (arrV A) (arrV B)).run Tryz.prog w = .ok () w := run_eqGuard_agg w .neq _ x y _ _ (by kernel_rfl)
  have hr := neq_tags hA hB w
  unfold execOp
  simp only [ho, Sem.run_bind, Sem.run_pure, Result.andThen_ok, hd, hs, hg, hr]
end
/-- What read tells. -/
def ReadPost (w : World) (r : Option Ct) (e : Ending) (w' : World) : Prop := Below w.heap.size w w' ∧ match r with
  | some c => ∃ A cp, e = .returned (.tuple #[certV c (.slice A c.names.length cp), .int .i64 0]) ∧ TW w.heap.size w' (.slice A c.names.length cp) c.names
  | none => ∃ (c : Ct) (A : Option Addr) (m cp : Nat) (n : Int), n ≠ 0 ∧ e = .returned (.tuple #[certV c (.slice A m cp), .int .i64 n])
theorem CB.zero {W : World} {k : Nat} (h : CB W k ct0 (.slice none 0 0)) : (W.cell? ⟨k, 0, none⟩ = some (sv []) ∧ W.cell? ⟨k, 1, none⟩ = some (sv []) ∧ W.cell? ⟨k, 2, none⟩ = some (.slice none 0 0) ∧ W.cell? ⟨k, 3, none⟩ = some (.int .i64 0) ∧ W.cell? ⟨k, 4, none⟩ = some (.int .i64 0) ∧ W.cell? ⟨k, 5, none⟩ = some (.bool false)) ∧
    W.frozen? ⟨k, 0, none⟩ = false ∧ W.frozen? ⟨k, 1, none⟩ = false ∧ W.frozen? ⟨k, 2, none⟩ = false ∧ W.frozen? ⟨k, 3, none⟩ = false ∧ W.frozen? ⟨k, 4, none⟩ = false ∧ W.frozen? ⟨k, 5, none⟩ = false :=
  ⟨⟨h.c0, h.c1, h.c2, h.c3, h.c4, h.c5⟩, h.free 0, h.free 1, h.free 2, h.free 3, h.free 4, h.free 5⟩
theorem read_end {w W : World} (hb : Below w.heap.size w W) (hc : CB W w.heap.size ct0 (.slice none 0 0)) (tm : Array Value) (n : Int) (hn : n ≠ 0) (h2 : tm.getD 2 undef = .pointer (some ⟨w.heap.size, 0, none⟩)) (h3 : tm.getD 3 undef = .int .i64 n) :
    bodyPost Tryz.prog Tryz.f70 (ReadPost w none) .ret { tmps := tm, defers := [] } W :=
  bodyPost_ret (resCT (p := 2) (q := 3) (by kernel_rfl) _ _ w.heap.size 27 _ (0, 0) _ h2 hc Tryz.underlying27 rfl (by kernel_rfl)) rfl ⟨hb, ct0, none, 0, 0, n, hn, by rw [h3]; rfl⟩

/-- Six stores. -/
abbrev st6 (W : World) (k : Nat) (v0 v1 v2 v3 v4 v5 : Value) : World := (((((W.setCell ⟨k, 0, none⟩ v0).setCell ⟨k, 1, none⟩ v1).setCell ⟨k, 2, none⟩ v2).setCell ⟨k, 3, none⟩ v3).setCell ⟨k, 4, none⟩ v4).setCell ⟨k, 5, none⟩ v5
theorem CB.put6 {W : World} {k : Nat} {c : Ct} {nv : Value} (h : CB W k c nv) (d : Ct) (nu : Value) : CB (st6 W k (sv d.key) (sv d.sig) nu (.int .i64 d.fr) (.int .i64 d.un) (.bool d.ca)) k d nu := filled6 h
theorem below_put6 {w W : World} {k : Nat} {v0 v1 v2 v3 v4 v5 : Value} (h : Below w.heap.size w W) (hk : w.heap.size ≤ k) : Below w.heap.size w (st6 W k v0 v1 v2 v3 v4 v5) :=
  (((((h.setCell (p := ⟨k, 0, none⟩) hk _).setCell (p := ⟨k, 1, none⟩) hk _).setCell (p := ⟨k, 2, none⟩) hk _).setCell (p := ⟨k, 3, none⟩) hk _).setCell (p := ⟨k, 4, none⟩) hk _).setCell (p := ⟨k, 5, none⟩) hk _
theorem read_end0 {w W : World} (hb : Below w.heap.size w W) (hc : CB W w.heap.size ct0 (.slice none 0 0)) (tm : Array Value) (n : Int) (hn : n ≠ 0) (h2 : tm.getD 2 undef = .pointer (some ⟨w.heap.size, 0, none⟩)) (h3 : tm.getD 3 undef = .int .i64 n) :
    bodyPost Tryz.prog Tryz.f70 (ReadPost w none) .ret { tmps := tm, defers := [] } (st6 W w.heap.size (.string ⟨#[]⟩) (.string ⟨#[]⟩) (.slice none 0 0) (.int .i64 0) (.int .i64 0) (.bool false)).drew :=
  read_end (below_put6 hb (Nat.le_refl _)).drew ((hc.put6 ct0 (.slice none 0 0)).step (Below.refl _ _).drew) tm n hn h2 h3
theorem read_end1 {w W : World} (hb : Below w.heap.size w W) (hc : CB W w.heap.size ct0 (.slice none 0 0)) (tm : Array Value) (n : Int) (hn : n ≠ 0) (h2 : tm.getD 2 undef = .pointer (some ⟨w.heap.size, 0, none⟩)) (h3 : tm.getD 3 undef = .int .i64 n) :
    bodyPost Tryz.prog Tryz.f70 (ReadPost w none) .ret { tmps := tm, defers := [] } (st6 W w.heap.size (.string ⟨#[]⟩) (.string ⟨#[]⟩) (.slice none 0 0) (.int .i64 0) (.int .i64 0) (.bool false)) :=
  read_end (below_put6 hb (Nat.le_refl _)) (hc.put6 ct0 (.slice none 0 0)) tm n hn h2 h3
theorem alone_len {s v : List UInt8} {t : UInt8} (h : aloneO s t = some v) : v.length ≤ s.length := by
  obtain ⟨rfl, _, _⟩ := alone_some h
  have := putT_ge t v
  omega
theorem allR_nil : allR [] = .ok [] := rfl
theorem allR_er0 {s : List UInt8} {n : Nat} (h : allR s = .er n) : n ≠ 0 := by
  intro e
  subst e
  unfold allR at h
  have : ∀ (q : List (Tv × Nat)) (acc : List Tv), allOf q acc = .er 0 → False := by
    intro q
    induction q with
    | nil => intro acc h; simp [allOf] at h
    | cons x q ih =>
      intro acc h
      obtain ⟨x, e⟩ := x
      simp only [allOf] at h
      split at h
      · next he => simp at h; exact he h
      · split at h
        · simp at h
        · exact ih _ h
  exact this _ _ h
/-- The result's box, and what alone and All leave. -/
abbrev zeroC : Obj := .cells #[sv [], sv [], .slice none 0 0, .int .i64 0, .int .i64 0, .bool false] 27
set_option maxHeartbeats 8000000 in
theorem read_A {w : World} (s : List UInt8) (hs : s.length ≤ 1000000) (hw : GL w) (h : aloneO s 48 = none) : Calls Tryz.prog 70 #[sv s] w (ReadPost w (readC s)) := by
  have HR := Lib.hid (show readC s = none by unfold readC; rw [h])
  have HA := Lib.hid (fun W : World => @alone_no W s 48 48 rfl (by omega) h)
  have HL := Lib.hid (fun W : World => show Calls Tryz.prog 125 #[sv []] W (fun e w' => ∃ v, e = .returned (.tuple #[v, .int .i64 0]) ∧ TO 143 W.heap.size w' v [] ∧ Below W.heap.size W w') from all_any [] W (by decide))
  have HG := Lib.hid ((Gb.start hw).alloc zeroC)
  have HC := Lib.hid (CB.new w ct0 (.slice none 0 0))
  rw [HR.out]
  clear hw h
  go_enter Tryz.func70, Tryz.ntmps70
  go_wp2_with (first | (go_at_call 124; refine (HA.out _).mono ?_; rintro e w1 ⟨rfl, hb1⟩; have HG1 := Lib.hid (HG.out.step hb1); have HC1 := Lib.hid (HC.out.step hb1); clear hb1) | (go_at_call 125; refine (HL.out _).mono ?_; rintro e w2 ⟨v, rfl, hto, hb2⟩; obtain ⟨A0, cp0, rfl⟩ := hto.form; have HG2 := Lib.hid (HG1.out.step hb2); have HC2 := Lib.hid (HC1.out.step hb2); obtain ⟨⟨d0, d1, d2, d3, d4, d5⟩, g0, g1, g2, g3, g4, g5⟩ := (HC1.out.step hb2).zero; clear hto hb2))
  refine wp_region_held_drew (S := fun W => Gb w W ∧ CB W w.heap.size ct0 (.slice none 0 0)) (by kernel_rfl) ⟨HG2.out.drew, HC2.out.step (Below.refl _ _).drew⟩ (fun hHeld => ?_)
  refine wpAnyH_take (i := 0) (v := ?vv0_1) rfl (by kernel_rfl) (by kernel_rfl) (by kernel_rfl) (fun _ _ _ h => h) (Or.inl ⟨by rfl, ?hy0_1⟩) (by assumption) ?rest0_1
  case hy0_1 => (intro w' hSw; (try dsimp only at hSw); go_simp; try with_reducible rfl)
  try simp only [List.getElem_toArray, List.getElem_cons_zero, List.getElem_cons_succ, Act.put, List.setIfInBounds_toArray, List.set_cons_zero, List.set_cons_succ]
  refine wpAnyH_take (i := 1) (v := ?vv1_1) rfl (by kernel_rfl) (by kernel_rfl) (by kernel_rfl) (fun _ _ _ h => h) (Or.inl ⟨by rfl, ?hy1_1⟩) (by assumption) ?rest1_1
  case hy1_1 => (intro w' hSw; (try dsimp only at hSw); go_simp; try with_reducible rfl)
  try simp only [List.getElem_toArray, List.getElem_cons_zero, List.getElem_cons_succ, Act.put, List.setIfInBounds_toArray, List.set_cons_zero, List.set_cons_succ]
  refine wpAnyH_take (i := 2) (v := ?vv2_1) rfl (by kernel_rfl) (by kernel_rfl) (by kernel_rfl) (fun _ _ _ h => h) (Or.inl ⟨by rfl, ?hy2_1⟩) (by assumption) ?rest2_1
  case hy2_1 => (intro w' hSw; (try dsimp only at hSw); go_simp; try with_reducible rfl)
  try simp only [List.getElem_toArray, List.getElem_cons_zero, List.getElem_cons_succ, Act.put, List.setIfInBounds_toArray, List.set_cons_zero, List.set_cons_succ]
  refine wpAnyH_take (i := 3) (v := undef) rfl (by kernel_rfl) (by kernel_rfl) (by kernel_rfl) (fun _ _ _ h => h) (Or.inr ⟨by rfl, rfl⟩) (by assumption) ?_
  try simp only [List.getElem_toArray, List.getElem_cons_zero, List.getElem_cons_succ, Act.put, List.setIfInBounds_toArray, List.set_cons_zero, List.set_cons_succ]
  refine wpAnyH_take (i := 4) (v := undef) rfl (by kernel_rfl) (by kernel_rfl) (by kernel_rfl) (fun _ _ _ h => h) (Or.inr ⟨by rfl, rfl⟩) (by assumption) ?_
  try simp only [List.getElem_toArray, List.getElem_cons_zero, List.getElem_cons_succ, Act.put, List.setIfInBounds_toArray, List.set_cons_zero, List.set_cons_succ]
  refine wpAnyH_take (i := 5) (v := ?vv5_1) rfl (by kernel_rfl) (by kernel_rfl) (by kernel_rfl) (fun _ _ _ h => h) (Or.inl ⟨by rfl, ?hy5_1⟩) (by assumption) ?rest5_1
  case hy5_1 => (intro w' hSw; (try dsimp only at hSw); go_simp; try with_reducible rfl)
  try simp only [List.getElem_toArray, List.getElem_cons_zero, List.getElem_cons_succ, Act.put, List.setIfInBounds_toArray, List.set_cons_zero, List.set_cons_succ]
  refine wpAnyH_take (i := 6) (v := ?vv6_1) rfl (by kernel_rfl) (by kernel_rfl) (by kernel_rfl) (fun _ _ _ h => h) (Or.inl ⟨by rfl, ?hy6_1⟩) (by assumption) ?rest6_1
  case hy6_1 => (intro w' hSw; (try dsimp only at hSw); go_simp; try with_reducible rfl)
  try simp only [List.getElem_toArray, List.getElem_cons_zero, List.getElem_cons_succ, Act.put, List.setIfInBounds_toArray, List.set_cons_zero, List.set_cons_succ]
  refine wpAnyH_take (i := 7) (v := undef) rfl (by kernel_rfl) (by kernel_rfl) (by kernel_rfl) (fun _ _ _ h => h) (Or.inr ⟨by rfl, rfl⟩) (by assumption) ?_
  try simp only [List.getElem_toArray, List.getElem_cons_zero, List.getElem_cons_succ, Act.put, List.setIfInBounds_toArray, List.set_cons_zero, List.set_cons_succ]
  refine wpAnyH_take (i := 8) (v := undef) rfl (by kernel_rfl) (by kernel_rfl) (by kernel_rfl) (fun _ _ _ h => h) (Or.inr ⟨by rfl, rfl⟩) (by assumption) ?_
  try simp only [List.getElem_toArray, List.getElem_cons_zero, List.getElem_cons_succ, Act.put, List.setIfInBounds_toArray, List.set_cons_zero, List.set_cons_succ]
  refine wpAnyH_take (i := 9) (v := undef) rfl (by kernel_rfl) (by kernel_rfl) (by kernel_rfl) (fun _ _ _ h => h) (Or.inr ⟨by rfl, rfl⟩) (by assumption) ?_
  try simp only [List.getElem_toArray, List.getElem_cons_zero, List.getElem_cons_succ, Act.put, List.setIfInBounds_toArray, List.set_cons_zero, List.set_cons_succ]
  refine wpAnyH_take (i := 10) (v := undef) rfl (by kernel_rfl) (by kernel_rfl) (by kernel_rfl) (fun _ _ _ h => h) (Or.inr ⟨by rfl, rfl⟩) (by assumption) ?_
  try simp only [List.getElem_toArray, List.getElem_cons_zero, List.getElem_cons_succ, Act.put, List.setIfInBounds_toArray, List.set_cons_zero, List.set_cons_succ]
  refine wpAnyH_take (i := 11) (v := ?vv11_1) rfl (by kernel_rfl) (by kernel_rfl) (by kernel_rfl) (fun _ _ _ h => h) (Or.inl ⟨by rfl, ?hy11_1⟩) (by assumption) ?rest11_1
  case hy11_1 => (intro w' hSw; (try dsimp only at hSw); go_simp; try with_reducible rfl)
  try simp only [List.getElem_toArray, List.getElem_cons_zero, List.getElem_cons_succ, Act.put, List.setIfInBounds_toArray, List.set_cons_zero, List.set_cons_succ]
  refine wpAnyH_done (by kernel_rfl) ?_ _
  go_wp2_with fail
  exact read_end0 HG2.out.1 HC2.out _ 4 (by decide) rfl rfl
set_option maxHeartbeats 8000000 in
theorem read_B {w : World} (s row : List UInt8) (n : Nat) (hs : s.length ≤ 1000000) (hw : GL w) (h : aloneO s 48 = some row) (h2 : allR row = .er n) : Calls Tryz.prog 70 #[sv s] w (ReadPost w (readC s)) := by
  have HR := Lib.hid (show readC s = none by unfold readC; rw [h]; simp only; rw [h2])
  have hrl := alone_len h
  have HA := Lib.hid (fun W : World => @alone_yes W s row 48 48 rfl (by omega) h)
  have hal := fun W => all_any row W (by omega)
  rw [h2] at hal
  have hn0 := allR_er0 h2
  have hn1 : ((n : Int) != 0) = true := by rw [bne_iff_ne]; omega
  have HL := Lib.hid (fun W : World => show Calls Tryz.prog 125 #[sv row] W (fun e w' => e = .returned (.tuple #[.slice none 0 0, .int .i64 (n : Int)]) ∧ Below W.heap.size W w') from hal W)
  have HG := Lib.hid ((Gb.start hw).alloc zeroC)
  have HC := Lib.hid (CB.new w ct0 (.slice none 0 0))
  rw [HR.out]
  clear hw h h2 hal hn0
  go_enter Tryz.func70, Tryz.ntmps70
  go_wp2_with (first | (go_at_call 124; refine (HA.out _).mono ?_; rintro e w1 ⟨rfl, hb1⟩; have HG1 := Lib.hid (HG.out.step hb1); have HC1 := Lib.hid (HC.out.step hb1); clear hb1) | (go_at_call 125; refine (HL.out _).mono ?_; rintro e w2 ⟨rfl, hb2⟩; have HG2 := Lib.hid (HG1.out.step hb2); have HC2 := Lib.hid (HC1.out.step hb2); obtain ⟨⟨d0, d1, d2, d3, d4, d5⟩, g0, g1, g2, g3, g4, g5⟩ := (HC1.out.step hb2).zero; clear hb2))
  refine wp_region_held_drew (S := fun W => Gb w W ∧ CB W w.heap.size ct0 (.slice none 0 0)) (by kernel_rfl) ⟨HG2.out.drew, HC2.out.step (Below.refl _ _).drew⟩ (fun hHeld => ?_)
  refine wpAnyH_take (i := 0) (v := ?vv0_2) rfl (by kernel_rfl) (by kernel_rfl) (by kernel_rfl) (fun _ _ _ h => h) (Or.inl ⟨by rfl, ?hy0_2⟩) (by assumption) ?rest0_2
  case hy0_2 => (intro w' hSw; (try dsimp only at hSw); go_simp; try with_reducible rfl)
  try simp only [List.getElem_toArray, List.getElem_cons_zero, List.getElem_cons_succ, Act.put, List.setIfInBounds_toArray, List.set_cons_zero, List.set_cons_succ]
  refine wpAnyH_take (i := 1) (v := ?vv1_2) rfl (by kernel_rfl) (by kernel_rfl) (by kernel_rfl) (fun _ _ _ h => h) (Or.inl ⟨by rfl, ?hy1_2⟩) (by assumption) ?rest1_2
  case hy1_2 => (intro w' hSw; (try dsimp only at hSw); go_simp; try with_reducible rfl)
  try simp only [List.getElem_toArray, List.getElem_cons_zero, List.getElem_cons_succ, Act.put, List.setIfInBounds_toArray, List.set_cons_zero, List.set_cons_succ]
  refine wpAnyH_take (i := 2) (v := ?vv2_2) rfl (by kernel_rfl) (by kernel_rfl) (by kernel_rfl) (fun _ _ _ h => h) (Or.inl ⟨by rfl, ?hy2_2⟩) (by assumption) ?rest2_2
  case hy2_2 => (intro w' hSw; (try dsimp only at hSw); go_simp; try with_reducible rfl)
  try simp only [List.getElem_toArray, List.getElem_cons_zero, List.getElem_cons_succ, Act.put, List.setIfInBounds_toArray, List.set_cons_zero, List.set_cons_succ]
  refine wpAnyH_take (i := 3) (v := ?vv3_2) rfl (by kernel_rfl) (by kernel_rfl) (by kernel_rfl) (fun _ _ _ h => h) (Or.inl ⟨by rfl, ?hy3_2⟩) (by assumption) ?rest3_2
  case hy3_2 => (intro w' hSw; (try dsimp only at hSw); go_simp; try with_reducible rfl)
  try simp only [List.getElem_toArray, List.getElem_cons_zero, List.getElem_cons_succ, Act.put, List.setIfInBounds_toArray, List.set_cons_zero, List.set_cons_succ]
  refine wpAnyH_take (i := 4) (v := ?vv4_2) rfl (by kernel_rfl) (by kernel_rfl) (by kernel_rfl) (fun _ _ _ h => h) (Or.inl ⟨by rfl, ?hy4_2⟩) (by assumption) ?rest4_2
  case hy4_2 => (intro w' hSw; (try dsimp only at hSw); go_simp; try with_reducible rfl)
  try simp only [List.getElem_toArray, List.getElem_cons_zero, List.getElem_cons_succ, Act.put, List.setIfInBounds_toArray, List.set_cons_zero, List.set_cons_succ]
  refine wpAnyH_take (i := 5) (v := ?vv5_2) rfl (by kernel_rfl) (by kernel_rfl) (by kernel_rfl) (fun _ _ _ h => h) (Or.inl ⟨by rfl, ?hy5_2⟩) (by assumption) ?rest5_2
  case hy5_2 => (intro w' hSw; (try dsimp only at hSw); go_simp; try with_reducible rfl)
  try simp only [List.getElem_toArray, List.getElem_cons_zero, List.getElem_cons_succ, Act.put, List.setIfInBounds_toArray, List.set_cons_zero, List.set_cons_succ]
  refine wpAnyH_take (i := 6) (v := ?vv6_2) rfl (by kernel_rfl) (by kernel_rfl) (by kernel_rfl) (fun _ _ _ h => h) (Or.inl ⟨by rfl, ?hy6_2⟩) (by assumption) ?rest6_2
  case hy6_2 => (intro w' hSw; (try dsimp only at hSw); go_simp; try with_reducible rfl)
  try simp only [List.getElem_toArray, List.getElem_cons_zero, List.getElem_cons_succ, Act.put, List.setIfInBounds_toArray, List.set_cons_zero, List.set_cons_succ]
  refine wpAnyH_take (i := 7) (v := undef) rfl (by kernel_rfl) (by kernel_rfl) (by kernel_rfl) (fun _ _ _ h => h) (Or.inr ⟨by rfl, rfl⟩) (by assumption) ?_
  try simp only [List.getElem_toArray, List.getElem_cons_zero, List.getElem_cons_succ, Act.put, List.setIfInBounds_toArray, List.set_cons_zero, List.set_cons_succ]
  refine wpAnyH_take (i := 8) (v := undef) rfl (by kernel_rfl) (by kernel_rfl) (by kernel_rfl) (fun _ _ _ h => h) (Or.inr ⟨by rfl, rfl⟩) (by assumption) ?_
  try simp only [List.getElem_toArray, List.getElem_cons_zero, List.getElem_cons_succ, Act.put, List.setIfInBounds_toArray, List.set_cons_zero, List.set_cons_succ]
  refine wpAnyH_take (i := 9) (v := undef) rfl (by kernel_rfl) (by kernel_rfl) (by kernel_rfl) (fun _ _ _ h => h) (Or.inr ⟨by rfl, rfl⟩) (by assumption) ?_
  try simp only [List.getElem_toArray, List.getElem_cons_zero, List.getElem_cons_succ, Act.put, List.setIfInBounds_toArray, List.set_cons_zero, List.set_cons_succ]
  refine wpAnyH_take (i := 10) (v := undef) rfl (by kernel_rfl) (by kernel_rfl) (by kernel_rfl) (fun _ _ _ h => h) (Or.inr ⟨by rfl, rfl⟩) (by assumption) ?_
  try simp only [List.getElem_toArray, List.getElem_cons_zero, List.getElem_cons_succ, Act.put, List.setIfInBounds_toArray, List.set_cons_zero, List.set_cons_succ]
  refine wpAnyH_take (i := 11) (v := ?vv11_2) rfl (by kernel_rfl) (by kernel_rfl) (by kernel_rfl) (fun _ _ _ h => h) (Or.inl ⟨by rfl, ?hy11_2⟩) (by assumption) ?rest11_2
  case hy11_2 => (intro w' hSw; (try dsimp only at hSw); go_simp; try with_reducible rfl)
  try simp only [List.getElem_toArray, List.getElem_cons_zero, List.getElem_cons_succ, Act.put, List.setIfInBounds_toArray, List.set_cons_zero, List.set_cons_succ]
  refine wpAnyH_done (by kernel_rfl) ?_ _
  go_wp2_with fail
  exact read_end0 HG2.out.1 HC2.out _ 4 (by decide) rfl rfl
set_option maxHeartbeats 8000000 in
theorem read_C {w : World} (s row : List UInt8) (l : List Tv) (hs : s.length ≤ 1000000) (hw : GL w) (h : aloneO s 48 = some row) (h2 : allR row = .ok l) (h3 : ¬ l.map (·.1) = tagsC) : Calls Tryz.prog 70 #[sv s] w (ReadPost w (readC s)) := by
  have HR := Lib.hid (show readC s = none by unfold readC; rw [h]; simp only; rw [h2]; simp only; rw [if_neg h3])
  have hrl := alone_len h
  have HA := Lib.hid (fun W : World => @alone_yes W s row 48 48 rfl (by omega) h)
  have hal := fun W => all_any row W (by omega)
  rw [h2] at hal
  have HLL := Lib.hid (show l.length ≤ 1000000 by have := (allR_ok h2).2; omega)
  obtain ⟨BB, hBB⟩ : ∃ b, b = true := ⟨_, rfl⟩
  have HBB := Lib.hid (show (tagsOfL l != tagsC) = BB by rw [tagsOf_iff, hBB]; simp [h3])
  have HL := Lib.hid (fun W : World => show Calls Tryz.prog 125 #[sv row] W (fun e w' => ∃ v, e = .returned (.tuple #[v, .int .i64 0]) ∧ TO 143 W.heap.size w' v l ∧ Below W.heap.size W w') from hal W)
  have HG := Lib.hid ((Gb.start hw).alloc zeroC)
  have HC := Lib.hid (CB.new w ct0 (.slice none 0 0))
  have HBT := Lib.hid hBB
  rw [HR.out]
  clear hw h h2 h3 hal hBB
  go_enter Tryz.func70, Tryz.ntmps70
  go_wp2_with (first | (go_at_call 124; refine (HA.out _).mono ?_; rintro e w1 ⟨rfl, hb1⟩; have HG1 := Lib.hid (HG.out.step hb1); have HC1 := Lib.hid (HC.out.step hb1); clear hb1) | (go_at_call 125; refine (HL.out _).mono ?_; rintro e w2 ⟨v, rfl, hto, hb2⟩; obtain ⟨A0, cp0, rfl⟩ := hto.form; have HG3 := Lib.hid (HG1.out.step hb2); have HC3 := Lib.hid (HC1.out.step hb2); have HT3 := Lib.hid hto.pr; clear hto hb2))
  refine wp_region_held_drew (S := fun W => Gb w W ∧ CB W w.heap.size ct0 (.slice none 0 0) ∧ TR W (.slice A0 l.length cp0) l) (by kernel_rfl) ⟨HG3.out.drew, HC3.out.step (Below.refl _ _).drew, HT3.out.step (Below.refl _ _).drew⟩ (fun hHeld => ?_)
  refine wpAnyH_take (i := 0) (v := ?vv0_3) rfl (by kernel_rfl) (by kernel_rfl) (by kernel_rfl) (fun _ _ _ h => h) (Or.inl ⟨by rfl, ?hy0_3⟩) (by assumption) ?rest0_3
  case hy0_3 => (intro w' hSw; (try dsimp only at hSw); go_simp; try with_reducible rfl)
  try simp only [List.getElem_toArray, List.getElem_cons_zero, List.getElem_cons_succ, Act.put, List.setIfInBounds_toArray, List.set_cons_zero, List.set_cons_succ]
  refine wpAnyH_take (i := 1) (v := ?vv1_3) rfl (by kernel_rfl) (by kernel_rfl) (by kernel_rfl) (fun _ _ _ h => h) (Or.inl ⟨by rfl, ?hy1_3⟩) (by assumption) ?rest1_3
  case hy1_3 => (intro w' hSw; (try dsimp only at hSw); go_simp; try with_reducible rfl)
  try simp only [List.getElem_toArray, List.getElem_cons_zero, List.getElem_cons_succ, Act.put, List.setIfInBounds_toArray, List.set_cons_zero, List.set_cons_succ]
  refine wpAnyH_take (i := 2) (v := ?vv2_3) rfl (by kernel_rfl) (by kernel_rfl) (by kernel_rfl) (fun _ _ _ h => h) (Or.inl ⟨by rfl, ?hy2_3⟩) (by assumption) ?rest2_3
  case hy2_3 => (intro w' hSw; (try dsimp only at hSw); go_simp; try with_reducible rfl)
  try simp only [List.getElem_toArray, List.getElem_cons_zero, List.getElem_cons_succ, Act.put, List.setIfInBounds_toArray, List.set_cons_zero, List.set_cons_succ]
  refine wpAnyH_take (i := 3) (v := ?vv3_3) rfl (by kernel_rfl) (by kernel_rfl) (by kernel_rfl) (fun _ _ _ h => h) (Or.inl ⟨by rfl, ?hy3_3⟩) (by assumption) ?rest3_3
  case hy3_3 => (intro w' hSw; (try dsimp only at hSw); go_simp; try with_reducible rfl)
  try simp only [List.getElem_toArray, List.getElem_cons_zero, List.getElem_cons_succ, Act.put, List.setIfInBounds_toArray, List.set_cons_zero, List.set_cons_succ]
  refine wpAnyH_take (i := 4) (v := ?vv4_3) rfl (by kernel_rfl) (by kernel_rfl) (by kernel_rfl) (fun _ _ _ h => h) (Or.inl ⟨by rfl, ?hy4_3⟩) (by assumption) ?rest4_3
  case hy4_3 => (intro w' hSw; (try dsimp only at hSw); go_simp; try with_reducible rfl)
  try simp only [List.getElem_toArray, List.getElem_cons_zero, List.getElem_cons_succ, Act.put, List.setIfInBounds_toArray, List.set_cons_zero, List.set_cons_succ]
  refine wpAnyH_take (i := 5) (v := ?vv5_3) rfl (by kernel_rfl) (by kernel_rfl) (by kernel_rfl) (fun _ _ _ h => h) (Or.inl ⟨by rfl, ?hy5_3⟩) (by assumption) ?rest5_3
  case hy5_3 => (intro w' hSw; (try dsimp only at hSw); go_simp; try with_reducible rfl)
  try simp only [List.getElem_toArray, List.getElem_cons_zero, List.getElem_cons_succ, Act.put, List.setIfInBounds_toArray, List.set_cons_zero, List.set_cons_succ]
  refine wpAnyH_take (i := 6) (v := ?vv6_3) rfl (by kernel_rfl) (by kernel_rfl) (by kernel_rfl) (fun _ _ _ h => h) (Or.inl ⟨by rfl, ?hy6_3⟩) (by assumption) ?rest6_3
  case hy6_3 => (intro w' hSw; (try dsimp only at hSw); go_simp; try with_reducible rfl)
  try simp only [List.getElem_toArray, List.getElem_cons_zero, List.getElem_cons_succ, Act.put, List.setIfInBounds_toArray, List.set_cons_zero, List.set_cons_succ]
  refine wpAnyH_take (i := 7) (v := ?vv7_3) rfl (by kernel_rfl) (by kernel_rfl) (by kernel_rfl) (fun _ _ _ h => h) (Or.inl ⟨by rfl, ?hy7_3⟩) (by assumption) ?rest7_3
  case hy7_3 => (intro w' hSw; (try dsimp only at hSw); go_simp; try with_reducible rfl)
  try simp only [List.getElem_toArray, List.getElem_cons_zero, List.getElem_cons_succ, Act.put, List.setIfInBounds_toArray, List.set_cons_zero, List.set_cons_succ]
  refine wpAnyH_take (i := 9) (v := arrV tagsC) rfl (by kernel_rfl) (by kernel_rfl) (by kernel_rfl) (fun _ _ _ h => h) (Or.inl ⟨by rfl, fun w' hSw => (by obtain ⟨T, fz, hrw⟩ := hSw.1.2.row; exact exec_load_row w' rfl rfl hrw Tryz.underlying146 rfl (by kernel_rfl))⟩) (by assumption) ?_
  try simp only [List.getElem_toArray, List.getElem_cons_zero, List.getElem_cons_succ, Act.put, List.setIfInBounds_toArray, List.set_cons_zero, List.set_cons_succ]
  refine wpAnyH_ready (rs := [8]) (by kernel_rfl) (by simp) ?_
  refine AllReadyH.cons rfl (fun K hK => ?_) AllReadyH.nil
  go_simp
  go_at_call 126
  refine (tagsOf_any l A0 cp0 hHeld.2.2 HLL.out).mono ?_
  rintro e w4 ⟨rfl, hb4⟩
  refine hK.out _ _ ⟨hHeld.1.step hb4, hHeld.2.1.step hb4, hHeld.2.2.step hb4⟩ (fun hHeld => ?_)
  clear hK K
  try simp only [List.getElem_toArray, List.getElem_cons_zero, List.getElem_cons_succ, Act.put, List.setIfInBounds_toArray, List.set_cons_zero, List.set_cons_succ]
  refine wpAnyH_take (i := 10) (v := .bool BB) rfl (by kernel_rfl) (by kernel_rfl) (by kernel_rfl) (fun _ _ _ h => h) (Or.inl ⟨by rfl, fun w' hSw => (by rw [← HBB.out]; exact exec_neq_tags rfl rfl rfl (tagsOf_length l) rfl)⟩) (by assumption) ?_
  try simp only [List.getElem_toArray, List.getElem_cons_zero, List.getElem_cons_succ, Act.put, List.setIfInBounds_toArray, List.set_cons_zero, List.set_cons_succ]
  refine wpAnyH_take (i := 11) (v := ?vv11_3) rfl (by kernel_rfl) (by kernel_rfl) (by kernel_rfl) (fun _ _ _ h => h) (Or.inl ⟨by rfl, ?hy11_3⟩) (by assumption) ?rest11_3
  case hy11_3 => (intro w' hSw; (try dsimp only at hSw); go_simp; try with_reducible rfl)
  try simp only [List.getElem_toArray, List.getElem_cons_zero, List.getElem_cons_succ, Act.put, List.setIfInBounds_toArray, List.set_cons_zero, List.set_cons_succ]
  refine wpAnyH_done (by kernel_rfl) ?_ _
  obtain ⟨⟨d0, d1, d2, d3, d4, d5⟩, g0, g1, g2, g3, g4, g5⟩ := hHeld.2.1.zero
  rw [HBT.out]
  have HH := Lib.hid hHeld
  clear hHeld
  go_wp2_with fail
  exact read_end1 HH.out.1.1 HH.out.2.1 _ 4 (by decide) rfl rfl
end Go.Proofs.YtnaoandleelbkaaGreatDoor

namespace Go.Proofs.YtnaoandleelbkaaGreatDoor
set_option linter.unusedSimpArgs false
set_option linter.unusedVariables false
open Go Go.RowKit
set_option maxRecDepth 100000

/-- What alone tells, in one form. -/
def AlP (r : Option (List UInt8)) (kv : List UInt8) (ke : Int) : Prop := match r with | some v => kv = v ∧ ke = 0 | none => ke = 4
theorem alone_gen (s : List UInt8) (z : Int) (t : UInt8) (hz : z = (t.toNat : Int)) (hs : s.length ≤ 281474976710656) : ∃ kv ke, AlP (aloneO s t) kv ke ∧ ∀ W : World, Calls Tryz.prog 124 #[sv s, .int .u8 z] W fun e w' => e = .returned (.tuple #[sv kv, .int .i64 ke]) ∧ Below W.heap.size W w' := by
  cases h : aloneO s t with
  | some v => exact ⟨v, 0, ⟨rfl, rfl⟩, fun W => alone_yes s v z t hz hs h⟩
  | none => exact ⟨[], 4, rfl, fun W => alone_no s z t hz hs h⟩
/-- What readNames tells, in one form; b: below the row. -/
def NmP (b : Nat) (W : World) (r : Option (List (List UInt8))) (A : Option Addr) (m cp : Nat) (ne : Int) : Prop := match r with | some ns => ne = 0 ∧ m = ns.length ∧ TW b W (.slice A m cp) ns | none => ne ≠ 0
theorem NmP.step {b : Nat} {W W' : World} {r : Option (List (List UInt8))} {A : Option Addr} {m cp : Nat} {ne : Int} (h : NmP b W r A m cp ne) (hb : Below W.heap.size W W') : NmP b W' r A m cp ne := by
  cases r with
  | none => exact h
  | some ns => exact ⟨h.1, h.2.1, h.2.2.below hb⟩
theorem names_gen (s : List UInt8) (hs : s.length ≤ 1000000) {b : Nat} {W : World} (hb : b ≤ W.heap.size) : Calls Tryz.prog 127 #[sv s] W fun e w' => ∃ A m cp ne, e = .returned (.tuple #[.slice A m cp, .int .i64 ne]) ∧ NmP b w' (namesO s) A m cp ne ∧ Below W.heap.size W w' := by
  refine (readNames_any s hs).mono ?_
  rintro e w' ⟨h1, h2⟩
  cases h : namesO s with
  | none =>
    rw [h] at h2
    obtain ⟨n, hn, rfl⟩ := h2
    exact ⟨none, 0, 0, n, rfl, hn, h1⟩
  | some ns =>
    rw [h] at h2
    obtain ⟨v, rfl, ht⟩ := h2
    obtain ⟨A, cp, rfl⟩ := ht.form
    exact ⟨A, ns.length, cp, 0, rfl, ⟨rfl, rfl, ht.lower hb⟩, h1⟩
theorem or5 (a b c d e : Int) : orZ [a, b, c, d, e] = 0 ↔ a = 0 ∧ b = 0 ∧ c = 0 ∧ d = 0 ∧ e = 0 := by
  unfold orZ orZ orZ orZ orZ orZ
  constructor
  · intro h
    split at h
    · split at h
      · split at h
        · split at h
          · split at h
            · exact ⟨by assumption, by assumption, by assumption, by assumption, by assumption⟩
            · contradiction
          · contradiction
        · contradiction
      · contradiction
    · contradiction
  · rintro ⟨rfl, rfl, rfl, rfl, rfl⟩; rfl
theorem okN_zero (b : Bool) : okN b = 0 ↔ b = true := by cases b <;> simp [okN]
theorem boolB_caB (s : List UInt8) : boolB s = caB s := rfl
/-- What the five errors say of the certificate. -/
theorem five {x0 x1 x2 x3 x4 x5 kv : List UInt8} {ke ne : Int} {b : Nat} {W : World} {A : Option Addr} {m cp : Nat} (hk : AlP (aloneO x0 4) kv ke) (hn : NmP b W (namesO x2) A m cp ne) :
    (orZ [ke, ne, okN (readB x3), okN (readB x4), okN (boolB x5)] ≠ 0 ∧ ofItems [(48, x0), (4, x1), (48, x2), (2, x3), (2, x4), (1, x5)] = none) ∨
    (orZ [ke, ne, okN (readB x3), okN (readB x4), okN (boolB x5)] = 0 ∧ ∃ ns, m = ns.length ∧ namesO x2 = some ns ∧ ofItems [(48, x0), (4, x1), (48, x2), (2, x3), (2, x4), (1, x5)] = some ⟨kv, x1, ns, readN x3, readN x4, x5 == [255]⟩) := by
  unfold ofItems
  simp only [List.getD_cons_zero, List.getD_cons_succ]
  cases h0 : aloneO x0 4 with
  | none =>
    rw [h0] at hk
    left
    refine ⟨fun h => ?_, rfl⟩
    have := (or5 _ _ _ _ _).1 h
    have hk' : ke = 4 := hk
    omega
  | some k =>
    rw [h0] at hk
    obtain ⟨rfl, rfl⟩ := hk
    cases h2 : namesO x2 with
    | none =>
      rw [h2] at hn
      left
      exact ⟨fun h => hn ((or5 _ _ _ _ _).1 h).2.1, rfl⟩
    | some ns =>
      rw [h2] at hn
      obtain ⟨rfl, h3, h4⟩ := hn
      by_cases hc : (readB x3 && readB x4 && caB x5) = true
      · right
        simp only [Bool.and_eq_true] at hc
        obtain ⟨⟨c3, c4⟩, c5⟩ := hc
        refine ⟨(or5 _ _ _ _ _).2 ⟨rfl, rfl, (okN_zero _).2 c3, (okN_zero _).2 c4, (okN_zero _).2 c5⟩, ns, h3, rfl, ?_⟩
        simp only [c3, c4, c5, Bool.and_self, if_true, readN]
      · left
        refine ⟨fun h => hc ?_, by simp only; rw [if_neg hc]⟩
        obtain ⟨_, _, c3, c4, c5⟩ := (or5 _ _ _ _ _).1 h
        simp only [Bool.and_eq_true]
        exact ⟨⟨(okN_zero _).1 c3, (okN_zero _).1 c4⟩, (okN_zero _).1 c5⟩

/-- The values of six things in a row. -/
def S6 (W : World) (g off : Nat) (x0 x1 x2 x3 x4 x5 : List UInt8) : Prop := g < W.heap.size ∧ W.cell? ⟨g, off + 1, none⟩ = some (sv x0) ∧ W.cell? ⟨g, off + 2 + 1, none⟩ = some (sv x1) ∧ W.cell? ⟨g, off + 4 + 1, none⟩ = some (sv x2) ∧ W.cell? ⟨g, off + 6 + 1, none⟩ = some (sv x3) ∧ W.cell? ⟨g, off + 8 + 1, none⟩ = some (sv x4) ∧ W.cell? ⟨g, off + 10 + 1, none⟩ = some (sv x5)
theorem S6.step {W W' : World} {g off : Nat} {x0 x1 x2 x3 x4 x5 : List UInt8} (h : S6 W g off x0 x1 x2 x3 x4 x5) (hb : Below W.heap.size W W') : S6 W' g off x0 x1 x2 x3 x4 x5 := by
  obtain ⟨h, a0, a1, a2, a3, a4, a5⟩ := h
  have k : ∀ j, W'.cell? ⟨g, j, none⟩ = W.cell? ⟨g, j, none⟩ := fun j => hb.cell (p := ⟨g, j, none⟩) h
  exact ⟨Nat.lt_of_lt_of_le h hb.size, (k _).trans a0, (k _).trans a1, (k _).trans a2, (k _).trans a3, (k _).trans a4, (k _).trans a5⟩
section
variable {W : World} {g off : Nat} {x0 x1 x2 x3 x4 x5 : List UInt8}
theorem S6.y1 (h : S6 W g off x0 x1 x2 x3 x4 x5) : W.cell? ⟨g, off + 2 + 1, none⟩ = some (sv x1) := h.2.2.1
theorem S6.y2 (h : S6 W g off x0 x1 x2 x3 x4 x5) : W.cell? ⟨g, off + 4 + 1, none⟩ = some (sv x2) := h.2.2.2.1
theorem S6.y3 (h : S6 W g off x0 x1 x2 x3 x4 x5) : W.cell? ⟨g, off + 6 + 1, none⟩ = some (sv x3) := h.2.2.2.2.1
theorem S6.y4 (h : S6 W g off x0 x1 x2 x3 x4 x5) : W.cell? ⟨g, off + 8 + 1, none⟩ = some (sv x4) := h.2.2.2.2.2.1
theorem S6.y5 (h : S6 W g off x0 x1 x2 x3 x4 x5) : W.cell? ⟨g, off + 10 + 1, none⟩ = some (sv x5) := h.2.2.2.2.2.2
end
theorem S6.of {W : World} {A : Option Addr} {c : Nat} {t0 t1 t2 t3 t4 t5 : UInt8} {x0 x1 x2 x3 x4 x5 : List UInt8} (h : TR W (.slice A 6 c) [(t0, x0), (t1, x1), (t2, x2), (t3, x3), (t4, x4), (t5, x5)]) : ∃ g off, A = some ⟨g, off, none⟩ ∧ S6 W g off x0 x1 x2 x3 x4 x5 := by
  obtain ⟨A', c', e, h⟩ := h
  simp only [Value.slice.injEq] at e
  obtain ⟨rfl, _, rfl⟩ := e
  obtain ⟨g, off, e, hl, hc⟩ := h (by simp)
  exact ⟨g, off, e, hl, (hc 0 (by simp)).2, (hc 1 (by simp)).2, (hc 2 (by simp)).2, (hc 3 (by simp)).2, (hc 4 (by simp)).2, (hc 5 (by simp)).2⟩
theorem CB.put6_other {W : World} {k n : Nat} {c : Ct} {nv v0 v1 v2 v3 v4 v5 : Value} (h : CB W k c nv) (hk : k ≠ n) : CB (st6 W n v0 v1 v2 v3 v4 v5) k c nv :=
  (((((h.set hk _).set hk _).set hk _).set hk _).set hk _).set hk _
theorem TW.put6 {b : Nat} {W : World} {n : Nat} {v v0 v1 v2 v3 v4 v5 : Value} {xs : List (List UInt8)} (h : TW b W v xs) (hn : n < b) : TW b (st6 W n v0 v1 v2 v3 v4 v5) v xs := by
  have one : ∀ (W : World) (j : Nat) (u : Value), TW b W v xs → TW b (W.setCell ⟨n, j, none⟩ u) v xs := fun W j u h =>
    h.old (row := some n) (grownBy_cellF W n j u) (fun g e e2 => by have := (h.lt e).1; simp only [Option.some.injEq] at e2; omega)
  exact one _ 5 _ (one _ 4 _ (one _ 3 _ (one _ 2 _ (one _ 1 _ (one _ 0 _ h)))))
theorem read_fin {w W : World} {R : Ending → World → Prop} {d : Ct} {nu : Value} (hc : CB W w.heap.size d nu) (tm : Array Value) (Z : Int) (h2 : tm.getD 2 undef = .pointer (some ⟨w.heap.size, 0, none⟩)) (h3 : tm.getD 3 undef = .int .i64 Z) (hR : R (.returned (.tuple #[certV d nu, .int .i64 Z])) W) :
    bodyPost Tryz.prog Tryz.f70 R .ret { tmps := tm, defers := [] } W :=
  bodyPost_ret (resCT (p := 2) (q := 3) (by kernel_rfl) _ _ w.heap.size 27 _ (0, 0) _ h2 hc Tryz.underlying27 rfl (by kernel_rfl)) rfl (by rw [h3]; exact hR)
set_option maxHeartbeats 8000000 in
theorem read_D {w : World} (s row x0 x1 x2 x3 x4 x5 : List UInt8) (l : List Tv) (hs : s.length ≤ 1000000) (hw : GL w) (h : aloneO s 48 = some row) (h2 : allR row = .ok l) (hl : l = [(48, x0), (4, x1), (48, x2), (2, x3), (2, x4), (1, x5)]) : Calls Tryz.prog 70 #[sv s] w (ReadPost w (readC s)) := by
  have HR := Lib.hid (show readC s = ofItems [(48, x0), (4, x1), (48, x2), (2, x3), (2, x4), (1, x5)] by unfold readC; rw [h]; simp only; rw [h2]; simp only; rw [if_pos (by rw [hl]; rfl), hl])
  have hrl := alone_len h
  have HA := Lib.hid (fun W : World => @alone_yes W s row 48 48 rfl (by omega) h)
  have hal := fun W => all_any row W (by omega)
  rw [h2] at hal
  have h6 : l.length = 6 := by rw [hl]; rfl
  -- each value is no longer than the row
  have hput := (allR_ok h2).1
  rw [hl] at hput
  have hxl : x0.length ≤ 1000000 ∧ x1.length ≤ 1000000 ∧ x2.length ≤ 1000000 ∧ x3.length ≤ 1000000 ∧ x4.length ≤ 1000000 ∧ x5.length ≤ 1000000 := by
    have hh := congrArg List.length hput
    simp only [putsL, List.length_append, List.length_nil] at hh
    have := putT_ge 48 x0
    have := putT_ge 4 x1
    have := putT_ge 48 x2
    have := putT_ge 2 x3
    have := putT_ge 2 x4
    have := putT_ge 1 x5
    omega
  obtain ⟨l0, l1, l2, l3, l4, l5⟩ := hxl
  have HTG := Lib.hid (fun (W : World) (A : Option Addr) (c : Nat) (hR : TR W (.slice A 6 c) l) => show Calls Tryz.prog 126 #[.slice A 6 c] W (fun e w' => e = .returned (arrV (tagsOfL l)) ∧ Below W.heap.size W w') by
    have := @tagsOf_any W l A c (by rw [h6]; exact hR) (by omega)
    rw [h6] at this
    exact this)
  have HBB := Lib.hid (show (tagsOfL l != tagsC) = false by rw [tagsOf_iff, hl]; simp [tagsC])
  have HL := Lib.hid (fun W : World => show Calls Tryz.prog 125 #[sv row] W (fun e w' => ∃ A c, e = .returned (.tuple #[.slice A 6 c, .int .i64 0]) ∧ TR w' (.slice A 6 c) l ∧ Below W.heap.size W w') from (hal W).mono fun e w' ⟨v, he, hto, hb⟩ => by
    obtain ⟨A, c, rfl⟩ := hto.form
    have := hto.pr
    rw [h6] at he this
    exact ⟨A, c, he, this, hb⟩)
  have HG := Lib.hid ((Gb.start hw).alloc zeroC)
  have HC := Lib.hid (CB.new w ct0 (.slice none 0 0))
  have HEQ := Lib.hid hl
  obtain ⟨kv, ke, hke, hkc⟩ := alone_gen x0 4 4 rfl (by omega)
  have HKE := Lib.hid hke
  have HKC := Lib.hid hkc
  have HNC := Lib.hid (fun (W : World) (hb : w.heap.size < W.heap.size) => @names_gen x2 (by omega) (w.heap.size + 1) W hb)
  have H3 := Lib.hid (fun W : World => @readInt_any W x3 (by omega))
  have H4 := Lib.hid (fun W : World => @readInt_any W x4 (by omega))
  have H5 := Lib.hid (fun W : World => @readBool_any W x5 (by omega))
  clear hw h h2 hal h6 hput l0 l1 l2 l3 l4 l5 hke hkc hl
  go_enter Tryz.func70, Tryz.ntmps70
  go_wp2_with (first | (go_at_call 124; refine (HA.out _).mono ?_; rintro e w1 ⟨rfl, hb1⟩; have HG1 := Lib.hid (HG.out.step hb1); have HC1 := Lib.hid (HC.out.step hb1); clear hb1) | (go_at_call 125; refine (HL.out _).mono ?_; rintro e w2 ⟨A0, cp0, rfl, htr, hb2⟩; have HG3 := Lib.hid (HG1.out.step hb2); have HC3 := Lib.hid (HC1.out.step hb2); have HT3 := Lib.hid htr; clear htr hb2))
  refine wp_region_held_drew (S := fun W => Gb w W ∧ CB W w.heap.size ct0 (.slice none 0 0) ∧ TR W (.slice A0 6 cp0) l) (by kernel_rfl) ⟨HG3.out.drew, HC3.out.step (Below.refl _ _).drew, HT3.out.step (Below.refl _ _).drew⟩ (fun hHeld => ?_)
  refine wpAnyH_take (i := 0) (v := ?vv0_1) rfl (by kernel_rfl) (by kernel_rfl) (by kernel_rfl) (fun _ _ _ h => h) (Or.inl ⟨by rfl, ?hy0_1⟩) (by assumption) ?rest0_1
  case hy0_1 => (intro w' hSw; (try dsimp only at hSw); go_simp; try with_reducible rfl)
  try simp only [List.getElem_toArray, List.getElem_cons_zero, List.getElem_cons_succ, Act.put, List.setIfInBounds_toArray, List.set_cons_zero, List.set_cons_succ]
  refine wpAnyH_take (i := 1) (v := ?vv1_1) rfl (by kernel_rfl) (by kernel_rfl) (by kernel_rfl) (fun _ _ _ h => h) (Or.inl ⟨by rfl, ?hy1_1⟩) (by assumption) ?rest1_1
  case hy1_1 => (intro w' hSw; (try dsimp only at hSw); go_simp; try with_reducible rfl)
  try simp only [List.getElem_toArray, List.getElem_cons_zero, List.getElem_cons_succ, Act.put, List.setIfInBounds_toArray, List.set_cons_zero, List.set_cons_succ]
  refine wpAnyH_take (i := 2) (v := ?vv2_1) rfl (by kernel_rfl) (by kernel_rfl) (by kernel_rfl) (fun _ _ _ h => h) (Or.inl ⟨by rfl, ?hy2_1⟩) (by assumption) ?rest2_1
  case hy2_1 => (intro w' hSw; (try dsimp only at hSw); go_simp; try with_reducible rfl)
  try simp only [List.getElem_toArray, List.getElem_cons_zero, List.getElem_cons_succ, Act.put, List.setIfInBounds_toArray, List.set_cons_zero, List.set_cons_succ]
  refine wpAnyH_take (i := 3) (v := ?vv3_1) rfl (by kernel_rfl) (by kernel_rfl) (by kernel_rfl) (fun _ _ _ h => h) (Or.inl ⟨by rfl, ?hy3_1⟩) (by assumption) ?rest3_1
  case hy3_1 => (intro w' hSw; (try dsimp only at hSw); go_simp; try with_reducible rfl)
  try simp only [List.getElem_toArray, List.getElem_cons_zero, List.getElem_cons_succ, Act.put, List.setIfInBounds_toArray, List.set_cons_zero, List.set_cons_succ]
  refine wpAnyH_take (i := 4) (v := ?vv4_1) rfl (by kernel_rfl) (by kernel_rfl) (by kernel_rfl) (fun _ _ _ h => h) (Or.inl ⟨by rfl, ?hy4_1⟩) (by assumption) ?rest4_1
  case hy4_1 => (intro w' hSw; (try dsimp only at hSw); go_simp; try with_reducible rfl)
  try simp only [List.getElem_toArray, List.getElem_cons_zero, List.getElem_cons_succ, Act.put, List.setIfInBounds_toArray, List.set_cons_zero, List.set_cons_succ]
  refine wpAnyH_take (i := 5) (v := ?vv5_1) rfl (by kernel_rfl) (by kernel_rfl) (by kernel_rfl) (fun _ _ _ h => h) (Or.inl ⟨by rfl, ?hy5_1⟩) (by assumption) ?rest5_1
  case hy5_1 => (intro w' hSw; (try dsimp only at hSw); go_simp; try with_reducible rfl)
  try simp only [List.getElem_toArray, List.getElem_cons_zero, List.getElem_cons_succ, Act.put, List.setIfInBounds_toArray, List.set_cons_zero, List.set_cons_succ]
  refine wpAnyH_take (i := 6) (v := ?vv6_1) rfl (by kernel_rfl) (by kernel_rfl) (by kernel_rfl) (fun _ _ _ h => h) (Or.inl ⟨by rfl, ?hy6_1⟩) (by assumption) ?rest6_1
  case hy6_1 => (intro w' hSw; (try dsimp only at hSw); go_simp; try with_reducible rfl)
  try simp only [List.getElem_toArray, List.getElem_cons_zero, List.getElem_cons_succ, Act.put, List.setIfInBounds_toArray, List.set_cons_zero, List.set_cons_succ]
  refine wpAnyH_take (i := 7) (v := ?vv7_1) rfl (by kernel_rfl) (by kernel_rfl) (by kernel_rfl) (fun _ _ _ h => h) (Or.inl ⟨by rfl, ?hy7_1⟩) (by assumption) ?rest7_1
  case hy7_1 => (intro w' hSw; (try dsimp only at hSw); go_simp; try with_reducible rfl)
  try simp only [List.getElem_toArray, List.getElem_cons_zero, List.getElem_cons_succ, Act.put, List.setIfInBounds_toArray, List.set_cons_zero, List.set_cons_succ]
  refine wpAnyH_take (i := 9) (v := arrV tagsC) rfl (by kernel_rfl) (by kernel_rfl) (by kernel_rfl) (fun _ _ _ h => h) (Or.inl ⟨by rfl, fun w' hSw => (by obtain ⟨T, fz, hrw⟩ := hSw.1.2.row; exact exec_load_row w' rfl rfl hrw Tryz.underlying146 rfl (by kernel_rfl))⟩) (by assumption) ?_
  try simp only [List.getElem_toArray, List.getElem_cons_zero, List.getElem_cons_succ, Act.put, List.setIfInBounds_toArray, List.set_cons_zero, List.set_cons_succ]
  refine wpAnyH_ready (rs := [8]) (by kernel_rfl) (by simp) ?_
  refine AllReadyH.cons rfl (fun K hK => ?_) AllReadyH.nil
  go_simp
  go_at_call 126
  refine (HTG.out _ A0 cp0 hHeld.2.2).mono ?_
  rintro e w4 ⟨rfl, hb4⟩
  refine hK.out _ _ ⟨hHeld.1.step hb4, hHeld.2.1.step hb4, hHeld.2.2.step hb4⟩ (fun hHeld => ?_)
  clear hK K
  try simp only [List.getElem_toArray, List.getElem_cons_zero, List.getElem_cons_succ, Act.put, List.setIfInBounds_toArray, List.set_cons_zero, List.set_cons_succ]
  refine wpAnyH_take (i := 10) (v := .bool false) rfl (by kernel_rfl) (by kernel_rfl) (by kernel_rfl) (fun _ _ _ h => h) (Or.inl ⟨by rfl, fun w' hSw => (by rw [← HBB.out]; exact exec_neq_tags rfl rfl rfl (tagsOf_length l) rfl)⟩) (by assumption) ?_
  try simp only [List.getElem_toArray, List.getElem_cons_zero, List.getElem_cons_succ, Act.put, List.setIfInBounds_toArray, List.set_cons_zero, List.set_cons_succ]
  refine wpAnyH_take (i := 11) (v := ?vv11_1) rfl (by kernel_rfl) (by kernel_rfl) (by kernel_rfl) (fun _ _ _ h => h) (Or.inl ⟨by rfl, ?hy11_1⟩) (by assumption) ?rest11_1
  case hy11_1 => (intro w' hSw; (try dsimp only at hSw); go_simp; try with_reducible rfl)
  try simp only [List.getElem_toArray, List.getElem_cons_zero, List.getElem_cons_succ, Act.put, List.setIfInBounds_toArray, List.set_cons_zero, List.set_cons_succ]
  refine wpAnyH_done (by kernel_rfl) ?_ _
  have hTR : TR w4 (.slice A0 6 cp0) [(48, x0), (4, x1), (48, x2), (2, x3), (2, x4), (1, x5)] := by
    have := hHeld.2.2
    rw [HEQ.out] at this
    exact this
  obtain ⟨g, off, hA, hS⟩ := S6.of hTR
  subst hA
  have HS4 := Lib.hid hS
  have HG4 := Lib.hid hHeld.1
  have HC4 := Lib.hid hHeld.2.1
  obtain ⟨_, a0, _⟩ := hS
  clear hHeld hb4 hTR
  go_wp2_with (first
    | (go_at_call 124; with_reducible refine (HKC.out _).mono ?_; rintro e w5 ⟨rfl, hb5⟩; have HS5 := Lib.hid (HS4.out.step hb5); have HG5 := Lib.hid (HG4.out.step hb5); have HC5 := Lib.hid (HC4.out.step hb5); have a2 := (HS4.out.step hb5).y2; clear hb5 a0)
    | (go_at_call 127; with_reducible refine (HNC.out _ HC5.out.lt).mono ?_; rintro e w6 ⟨A, m, cp, ne, rfl, hn6, hb6⟩; have HN6 := Lib.hid hn6; have HS6 := Lib.hid (HS5.out.step hb6); have HG6 := Lib.hid (HG5.out.step hb6); have HC6 := Lib.hid (HC5.out.step hb6); have a3 := (HS5.out.step hb6).y3; clear hn6 hb6 a2)
    | (go_at_call 128; with_reducible refine (H3.out _).mono ?_; rintro e w7 ⟨rfl, hb7⟩; have HN7 := Lib.hid (HN6.out.step hb7); have HS7 := Lib.hid (HS6.out.step hb7); have HG7 := Lib.hid (HG6.out.step hb7); have HC7 := Lib.hid (HC6.out.step hb7); have a4 := (HS6.out.step hb7).y4; clear hb7 a3)
    | (go_at_call 128; with_reducible refine (H4.out _).mono ?_; rintro e w8 ⟨rfl, hb8⟩; have HN8 := Lib.hid (HN7.out.step hb8); have HG8 := Lib.hid (HG7.out.step hb8); have HC8 := Lib.hid (HC7.out.step hb8); have a1 := (HS7.out.step hb8).y1; have a5 := (HS7.out.step hb8).y5; clear hb8 a4)
    | (go_at_call 129; with_reducible refine (H5.out _).mono ?_; rintro e w9 ⟨rfl, rfl⟩))
  have hfv := five (x1 := x1) (x3 := x3) (x4 := x4) (x5 := x5) HKE.out HN8.out
  rw [← HR.out] at hfv
  obtain ⟨e3, he3⟩ : ∃ z, z = okN (readB x3) := ⟨_, rfl⟩
  obtain ⟨e4, he4⟩ : ∃ z, z = okN (readB x4) := ⟨_, rfl⟩
  obtain ⟨e5, he5⟩ : ∃ z, z = okN (boolB x5) := ⟨_, rfl⟩
  obtain ⟨n3, hn3⟩ : ∃ z, z = readN x3 := ⟨_, rfl⟩
  obtain ⟨n4, hn4⟩ : ∃ z, z = readN x4 := ⟨_, rfl⟩
  obtain ⟨b5, hb5⟩ : ∃ z, z = (x5 == [255]) := ⟨_, rfl⟩
  rw [← he3, ← he4, ← he5, ← hn3, ← hn4, ← hb5] at hfv
  rw [← he3, ← he4, ← he5, ← hn3, ← hn4, ← hb5]
  have HFV := Lib.hid hfv
  obtain ⟨k9, hk9⟩ : ∃ k, k = w8.heap.size := ⟨_, rfl⟩
  obtain ⟨W9, hW9⟩ : ∃ W, W = w8.alloc (.cells #[sv kv, sv x1, .slice A m cp, .int .i64 n3, .int .i64 n4, .bool b5] 27) := ⟨_, rfl⟩
  rw [← hk9, ← hW9]
  obtain ⟨cc, hcc⟩ : ∃ c : Ct, c = ⟨kv, x1, [], n3, n4, b5⟩ := ⟨_, rfl⟩
  have HCC := Lib.hid hcc
  have HC9 := Lib.hid (show CB W9 k9 cc (.slice A m cp) by rw [hW9, hk9, hcc]; exact heap_alloc_new _ _)
  have hb89 : Below w8.heap.size w8 W9 := by rw [hW9]; exact below_alloc _ _
  have HB9 := Lib.hid (HG8.out.step hb89).1
  have HR9 := Lib.hid (HC8.out.step hb89)
  have HN9 := Lib.hid (HN8.out.step hb89)
  have HKN := Lib.hid (show k9 ≠ w.heap.size from by rw [hk9]; exact Nat.ne_of_gt HC8.out.lt)
  obtain ⟨Z, hZ⟩ : ∃ Z, Z = orZ [ke, ne, e3, e4, e5] := ⟨_, rfl⟩
  have HOR := Lib.hid (fun c => show Calls Tryz.prog 108 #[.slice (some ⟨W9.heap.size, 0, none⟩) 5 c] (W9.alloc (.cells #[.int .i64 ke, .int .i64 ne, .int .i64 e3, .int .i64 e4, .int .i64 e5] 30)).drew (fun e w' => e = .returned (.int .i64 Z) ∧ Below W9.heap.size W9 w') from
    (@or_any (W9.alloc (.cells #[.int .i64 ke, .int .i64 ne, .int .i64 e3, .int .i64 e4, .int .i64 e5] 30)).drew [ke, ne, e3, e4, e5] W9.heap.size c (by simp) (heap_alloc_new W9 _)).mono fun e w' ⟨he, hw⟩ => ⟨by rw [hZ]; exact he, hw ▸ (below_alloc W9 _).drew⟩)
  have HZ := Lib.hid hZ
  clear hfv he3 he4 he5 hn3 hn4 hb5 hk9 hW9 hcc hb89 hZ a1 a5
  refine wp_region_held_drew (S := fun W => CB W k9 cc (.slice A m cp) ∧ Below w.heap.size w W) (by kernel_rfl) ⟨HC9.out.step (Below.refl _ _).drew, HB9.out.drew⟩ (fun hHeld => ?_)
  refine wpAnyH_take (i := 0) (v := certV cc (.slice A m cp)) rfl (by kernel_rfl) (by kernel_rfl) (by kernel_rfl) (fun _ _ _ h => h) (Or.inl ⟨by rfl, fun w' hSw => exec_load_row w' rfl rfl hSw.1 Tryz.underlying27 rfl (by kernel_rfl)⟩) (by assumption) ?_
  try simp only [List.getElem_toArray, List.getElem_cons_zero, List.getElem_cons_succ, Act.put, List.setIfInBounds_toArray, List.set_cons_zero, List.set_cons_succ]
  refine wpAnyH_take (i := 1) (v := ?vv1_2) rfl (by kernel_rfl) (by kernel_rfl) (by kernel_rfl) (fun _ _ _ h => h) (Or.inl ⟨by rfl, ?hy1_2⟩) (by assumption) ?rest1_2
  case hy1_2 => (intro w' hSw; (try dsimp only at hSw); go_simp; try with_reducible rfl)
  try simp only [List.getElem_toArray, List.getElem_cons_zero, List.getElem_cons_succ, Act.put, List.setIfInBounds_toArray, List.set_cons_zero, List.set_cons_succ]
  refine wpAnyH_take (i := 2) (v := ?vv2_2) rfl (by kernel_rfl) (by kernel_rfl) (by kernel_rfl) (fun _ _ _ h => h) (Or.inl ⟨by rfl, ?hy2_2⟩) (by assumption) ?rest2_2
  case hy2_2 => (intro w' hSw; (try dsimp only at hSw); go_simp; try with_reducible rfl)
  try simp only [List.getElem_toArray, List.getElem_cons_zero, List.getElem_cons_succ, Act.put, List.setIfInBounds_toArray, List.set_cons_zero, List.set_cons_succ]
  refine wpAnyH_take (i := 3) (v := ?vv3_2) rfl (by kernel_rfl) (by kernel_rfl) (by kernel_rfl) (fun _ _ _ h => h) (Or.inl ⟨by rfl, ?hy3_2⟩) (by assumption) ?rest3_2
  case hy3_2 => (intro w' hSw; (try dsimp only at hSw); go_simp; try with_reducible rfl)
  try simp only [List.getElem_toArray, List.getElem_cons_zero, List.getElem_cons_succ, Act.put, List.setIfInBounds_toArray, List.set_cons_zero, List.set_cons_succ]
  refine wpAnyH_take (i := 4) (v := ?vv4_2) rfl (by kernel_rfl) (by kernel_rfl) (by kernel_rfl) (fun _ _ _ h => h) (Or.inl ⟨by rfl, ?hy4_2⟩) (by assumption) ?rest4_2
  case hy4_2 => (intro w' hSw; (try dsimp only at hSw); go_simp; try with_reducible rfl)
  try simp only [List.getElem_toArray, List.getElem_cons_zero, List.getElem_cons_succ, Act.put, List.setIfInBounds_toArray, List.set_cons_zero, List.set_cons_succ]
  refine wpAnyH_take (i := 5) (v := ?vv5_2) rfl (by kernel_rfl) (by kernel_rfl) (by kernel_rfl) (fun _ _ _ h => h) (Or.inl ⟨by rfl, ?hy5_2⟩) (by assumption) ?rest5_2
  case hy5_2 => (intro w' hSw; (try dsimp only at hSw); go_simp; try with_reducible rfl)
  try simp only [List.getElem_toArray, List.getElem_cons_zero, List.getElem_cons_succ, Act.put, List.setIfInBounds_toArray, List.set_cons_zero, List.set_cons_succ]
  refine wpAnyH_ready (rs := [6]) (by kernel_rfl) (by simp) ?_
  refine AllReadyH.cons rfl (fun K hK => ?_) AllReadyH.nil
  go_simp
  refine hK.out _ _ ⟨HC9.out.step (below_alloc W9 _).drew, HB9.out.trans (((below_alloc W9 _).drew).mono HB9.out.size)⟩ (fun hHeld => ?_)
  clear hK K
  try simp only [List.getElem_toArray, List.getElem_cons_zero, List.getElem_cons_succ, Act.put, List.setIfInBounds_toArray, List.set_cons_zero, List.set_cons_succ]
  refine wpAnyH_ready (rs := [7]) (by kernel_rfl) (by simp) ?_
  refine AllReadyH.cons rfl (fun K hK => ?_) AllReadyH.nil
  go_simp
  go_at_call 108
  refine (HOR.out _).mono ?_
  rintro e w10 ⟨rfl, hb10⟩
  have HC10 := Lib.hid (HC9.out.step hb10)
  have HR10 := Lib.hid (HR9.out.step hb10)
  have HB10 := Lib.hid (HB9.out.trans (hb10.mono HB9.out.size))
  have HN10 := Lib.hid (HN9.out.step hb10)
  obtain ⟨⟨d0, d1, d2, d3, d4, d5⟩, g0, g1, g2, g3, g4, g5⟩ := (HR9.out.step hb10).zero
  clear hb10
  refine hK.out _ _ ⟨HC10.out, HB10.out⟩ (fun hHeld => ?_)
  clear hK K
  try simp only [List.getElem_toArray, List.getElem_cons_zero, List.getElem_cons_succ, Act.put, List.setIfInBounds_toArray, List.set_cons_zero, List.set_cons_succ]
  refine wpAnyH_ready (rs := [8]) (by kernel_rfl) (by simp) ?_
  refine AllReadyH.cons rfl (fun K hK => ?_) AllReadyH.nil
  unfold certV
  go_simp
  refine hK.out _ _ ⟨HC10.out.put6_other HKN.out, below_put6 HB10.out (Nat.le_refl _)⟩ (fun hHeld => ?_)
  clear hK K
  try simp only [List.getElem_toArray, List.getElem_cons_zero, List.getElem_cons_succ, Act.put, List.setIfInBounds_toArray, List.set_cons_zero, List.set_cons_succ]
  refine wpAnyH_take (i := 9) (v := ?vv9_2) rfl (by kernel_rfl) (by kernel_rfl) (by kernel_rfl) (fun _ _ _ h => h) (Or.inl ⟨by rfl, ?hy9_2⟩) (by assumption) ?rest9_2
  case hy9_2 => (intro w' hSw; (try dsimp only at hSw); go_simp; try with_reducible rfl)
  try simp only [List.getElem_toArray, List.getElem_cons_zero, List.getElem_cons_succ, Act.put, List.setIfInBounds_toArray, List.set_cons_zero, List.set_cons_succ]
  refine wpAnyH_done (by kernel_rfl) ?_ _
  go_wp2_with fail
  refine read_fin (HR10.out.put6 cc (.slice A m cp)) _ Z rfl rfl ⟨below_put6 HB10.out (Nat.le_refl _), ?_⟩
  rcases HFV.out with ⟨hz, hr⟩ | ⟨hz, ns, rfl, hn, hr⟩
  · rw [hr]
    exact ⟨cc, A, m, cp, Z, by rw [HZ.out]; exact hz, rfl⟩
  · have hn10 := HN10.out
    rw [hn] at hn10
    rw [hr]
    have hz2 : Z = 0 := by rw [HZ.out]; exact hz
    subst hz2
    exact ⟨A, cp, by rw [HCC.out]; rfl, (hn10.2.2.put6 (Nat.lt_succ_self _)).lower (Nat.le_succ _)⟩
theorem read_any {w : World} (s : List UInt8) (hs : s.length ≤ 1000000) (hw : GL w) : Calls Tryz.prog 70 #[sv s] w (ReadPost w (readC s)) := by
  cases h : aloneO s 48 with
  | none => exact read_A s hs hw h
  | some row =>
    cases h2 : allR row with
    | er n => exact read_B s row n hs hw h h2
    | ok l =>
      by_cases h3 : l.map (·.1) = tagsC
      · obtain ⟨x0, x1, x2, x3, x4, x5, hl⟩ := six h3
        exact read_D s row x0 x1 x2 x3 x4 x5 l hs hw h h2 hl
      · exact read_C s row l hs hw h h2 h3
end Go.Proofs.YtnaoandleelbkaaGreatDoor

namespace Go.Proofs.YtnaoandleelbkaaGreatDoor
set_option linter.unusedSimpArgs false
set_option linter.unusedVariables false
open Go Go.RowKit
set_option maxRecDepth 100000

theorem mem_puts_le {l : List Tv} {x : Tv} (h : x ∈ l) : x.2.length ≤ (putsL l).length := by
  induction l with
  | nil => cases h
  | cons y l ih =>
    simp only [putsL, List.length_append]
    rcases List.mem_cons.1 h with rfl | h
    · have := putT_ge x.1 x.2; omega
    · have := ih h; omega
theorem read_short {s : List UInt8} {c : Ct} (h : readC s = some c) (hl : s.length ≤ 512) : shortC c := by
  obtain ⟨h1, h2⟩ := write_read h
  have h3 := putT_ge 48 (rowC c)
  have h4 : (rowC c).length ≤ 512 := by
    have : (putT 48 (rowC c)).length = s.length := by rw [← h1]; rfl
    omega
  have k : ∀ x ∈ partsC c, x.2.length ≤ 512 := fun x hx => Nat.le_trans (mem_puts_le hx) h4
  have a0 : (putT 4 c.key).length ≤ 512 := k (48, putT 4 c.key) (by simp [partsC])
  have a1 : c.sig.length ≤ 512 := k (4, c.sig) (by simp [partsC])
  have a2 : (namesL c.names).length ≤ 512 := k (48, namesL c.names) (by simp [partsC])
  have a3 := putT_ge 4 c.key
  refine ⟨by omega, by omega, by omega, fun n hn => ?_⟩
  have : (nameT n).2.length ≤ (namesL c.names).length := mem_puts_le (List.mem_map_of_mem hn)
  have : n.length ≤ (namesL c.names).length := this
  omega
/-- What Decode tells. -/
def DecPost (w : World) (s : List UInt8) (e : Ending) (w' : World) : Prop := Below w.heap.size w w' ∧ match decO s with
  | some c => ∃ A cp, e = .returned (.tuple #[certV c (.slice A c.names.length cp), .int .i64 0]) ∧ TW w.heap.size w' (.slice A c.names.length cp) c.names
  | none => e = .returned (.tuple #[certV ct0 (.slice none 0 0), .int .i64 (decE s : Nat)])
theorem dec_fin {w W : World} {R : Ending → World → Prop} {d : Ct} {nu : Value} (hc : CB W w.heap.size d nu) (tm : Array Value) (Z : Int) (h2 : tm.getD 2 undef = .pointer (some ⟨w.heap.size, 0, none⟩)) (h3 : tm.getD 3 undef = .int .i64 Z) (hR : R (.returned (.tuple #[certV d nu, .int .i64 Z])) W) :
    bodyPost Tryz.prog Tryz.f21 R .ret { tmps := tm, defers := [] } W :=
  bodyPost_ret (resCT (p := 2) (q := 3) (by kernel_rfl) _ _ w.heap.size 27 _ (0, 0) _ h2 hc Tryz.underlying27 rfl (by kernel_rfl)) rfl (by rw [h3]; exact hR)
theorem dec_end0 {w W : World} {s : List UInt8} (hn : decO s = none) (hb : Below w.heap.size w W) (hc : CB W w.heap.size ct0 (.slice none 0 0)) (tm : Array Value) (h2 : tm.getD 2 undef = .pointer (some ⟨w.heap.size, 0, none⟩)) (h3 : tm.getD 3 undef = .int .i64 (decE s : Nat)) :
    bodyPost Tryz.prog Tryz.f21 (DecPost w s) .ret { tmps := tm, defers := [] } W :=
  dec_fin hc tm _ h2 h3 ⟨hb, by rw [hn]⟩
theorem dec_end1 {w W : World} {s : List UInt8} (hn : decO s = none) (hb : Below w.heap.size w W) (hc : CB W w.heap.size ct0 (.slice none 0 0)) (tm : Array Value) (h2 : tm.getD 2 undef = .pointer (some ⟨w.heap.size, 0, none⟩)) (h3 : tm.getD 3 undef = .int .i64 (decE s : Nat)) :
    bodyPost Tryz.prog Tryz.f21 (DecPost w s) .ret { tmps := tm, defers := [] } (st6 W w.heap.size (.string ⟨#[]⟩) (.string ⟨#[]⟩) (.slice none 0 0) (.int .i64 0) (.int .i64 0) (.bool false)) :=
  dec_end0 hn (below_put6 hb (Nat.le_refl _)) (hc.put6 ct0 (.slice none 0 0)) tm h2 h3
set_option maxHeartbeats 8000000 in
theorem decode_any {w : World} (s : List UInt8) (hs : s.length ≤ 9223372036854775807) (hw : GL w) : Calls Tryz.prog 21 #[sv s] w (DecPost w s) := by
  have hz := str_size s
  have HG := Lib.hid ((Gb.start hw).alloc zeroC)
  have HC := Lib.hid (CB.new w ct0 (.slice none 0 0))
  by_cases hl : 512 < s.length
  · have hl' : (512 : Int) < (s.length : Int) := by omega
    have HN := Lib.hid (show decO s = none by unfold decO; rw [if_pos hl])
    have HE := Lib.hid (show decE s = 40 by unfold decE; rw [if_pos hl])
    clear hl hw
    go_enter Tryz.func21, Tryz.ntmps21
    go_wp2_with fail
    exact dec_end0 HN.out HG.out.1 HC.out _ rfl (by rw [HE.out]; rfl)
  · have hl' : ¬ (512 : Int) < (s.length : Int) := by omega
    have hl5 : s.length ≤ 512 := by omega
    have hrd := fun W (h : GL W) => @read_any W s (by omega) h
    have hde : decE s = if (decO s).isSome then 0 else 4 := by unfold decE; rw [if_neg hl]
    have hdo : decO s = match readC s with | some c => if mayC c then some c else none | none => none := by unfold decO; rw [if_neg hl]; cases readC s <;> rfl
    cases hr : readC s with
    | none =>
      rw [hr] at hrd hdo
      simp only at hdo
      have HN := Lib.hid hdo
      have HE := Lib.hid (show decE s = 4 by rw [hde, hdo]; rfl)
      have HR := Lib.hid (fun W (h : GL W) => show Calls Tryz.prog 70 #[sv s] W (fun e w' => Below W.heap.size W w' ∧ ∃ (c : Ct) (A : Option Addr) (m cp : Nat) (n : Int), n ≠ 0 ∧ e = .returned (.tuple #[certV c (.slice A m cp), .int .i64 n])) from hrd W h)
      clear hl hw hrd hdo hde hr hl5
      go_enter Tryz.func21, Tryz.ntmps21
      go_wp2_with (go_at_call 70; refine (HR.out _ HG.out.2).mono ?_; rintro e w1 ⟨hb1, c, A, m, cp, n, hn, rfl⟩; have HG1 := Lib.hid (HG.out.step hb1); have HC1 := Lib.hid (HC.out.step hb1); have hn0 : (n != 0) = true := (by rw [bne_iff_ne]; exact hn); have hlt := (HC.out.step hb1).lt; have HC2 := Lib.hid ((HC.out.step hb1).step (below_alloc w1 (cellsC c (.slice A m cp)))); obtain ⟨⟨d0, d1, d2, d3, d4, d5⟩, g0, g1, g2, g3, g4, g5⟩ := (HC.out.step hb1).zero; clear hb1; unfold certV)
      have hbb := below_put6 (v0 := .string ⟨#[]⟩) (v1 := .string ⟨#[]⟩) (v2 := .slice none 0 0) (v3 := .int .i64 0) (v4 := .int .i64 0) (v5 := .bool false) HG1.out.1 (Nat.le_refl _)
      exact dec_end0 HN.out (hbb.alloc hbb.size _) ((HC1.out.put6 ct0 (.slice none 0 0)).step (below_alloc _ _)) _ rfl (by rw [HE.out]; rfl)
    | some c =>
      rw [hr] at hrd hdo
      have HSH := Lib.hid (read_short hr hl5)
      have HR := Lib.hid (fun W (h : GL W) => show Calls Tryz.prog 70 #[sv s] W (fun e w' => Below W.heap.size W w' ∧ ∃ A cp, e = .returned (.tuple #[certV c (.slice A c.names.length cp), .int .i64 0]) ∧ TW W.heap.size w' (.slice A c.names.length cp) c.names) from hrd W h)
      have HM := Lib.hid (fun (W : World) (A : Option Addr) (cp : Nat) (hx : SX W (.slice A c.names.length cp) c.names) (h : GL W) => show Calls Tryz.prog 19 #[.agg #[sv c.key, sv c.sig, .slice A c.names.length cp, .int .i64 c.fr, .int .i64 c.un, .bool c.ca]] W (fun e w' => e = .returned (.bool (mayC c)) ∧ Below W.heap.size W w') from mayC_any c A cp hx HSH.out h)
      simp only at hdo
      have HLT := Lib.hid (show w.heap.size < (w.alloc zeroC).heap.size by simp)
      have HLE := Lib.hid (show w.heap.size ≤ (w.alloc zeroC).heap.size by simp)
      obtain ⟨b, hb⟩ : ∃ b, b = mayC c := ⟨_, rfl⟩
      rw [← hb] at HM hdo
      clear hl hw hrd hr hl5 hb
      cases b with
      | false =>
        have HN := Lib.hid (show decO s = none by simpa using hdo)
        have HE := Lib.hid (show decE s = 4 by rw [hde, HN.out]; rfl)
        clear hdo hde
        go_enter Tryz.func21, Tryz.ntmps21
        go_wp2_with (first
          | (go_at_call 70; refine (HR.out _ HG.out.2).mono ?_; rintro e w1 ⟨hb1, A, cp, rfl, htw⟩; have HG1 := Lib.hid (HG.out.step hb1); have HC1 := Lib.hid ((HC.out.step hb1).step (below_alloc w1 (cellsC c (.slice A c.names.length cp)))); have HG2 := Lib.hid ((HG.out.step hb1).alloc (cellsC c (.slice A c.names.length cp))); have HX2 := Lib.hid (htw.sx.step (below_alloc w1 (cellsC c (.slice A c.names.length cp)))); clear hb1 htw; unfold certV)
          | (go_at_call 19; refine (HM.out _ A cp HX2.out HG2.out.2).mono ?_; rintro e w2 ⟨rfl, hb2⟩; have HG3 := Lib.hid (HG2.out.step hb2); have HC3 := Lib.hid (HC1.out.step hb2); obtain ⟨⟨d0, d1, d2, d3, d4, d5⟩, g0, g1, g2, g3, g4, g5⟩ := (HC1.out.step hb2).zero; clear hb2))
        exact dec_end1 HN.out HG3.out.1 HC3.out _ rfl (by rw [HE.out]; rfl)
      | true =>
        have HN := Lib.hid (show decO s = some c by simpa using hdo)
        clear hdo hde
        go_enter Tryz.func21, Tryz.ntmps21
        go_wp2_with (first
          | (go_at_call 70; refine (HR.out _ HG.out.2).mono ?_; rintro e w1 ⟨hb1, A, cp, rfl, htw⟩; have HG1 := Lib.hid (HG.out.step hb1); have HC1 := Lib.hid ((HC.out.step hb1).step (below_alloc w1 (cellsC c (.slice A c.names.length cp)))); have HK1 := Lib.hid (CB.new w1 c (.slice A c.names.length cp)); have HG2 := Lib.hid ((HG.out.step hb1).alloc (cellsC c (.slice A c.names.length cp))); have HT2 := Lib.hid (htw.below (below_alloc w1 (cellsC c (.slice A c.names.length cp)))); have HX2 := Lib.hid (htw.sx.step (below_alloc w1 (cellsC c (.slice A c.names.length cp)))); clear hb1 htw; unfold certV)
          | (go_at_call 19; refine (HM.out _ A cp HX2.out HG2.out.2).mono ?_; rintro e w2 ⟨rfl, hb2⟩; have HG3 := Lib.hid (HG2.out.step hb2); have HC3 := Lib.hid (HC1.out.step hb2); have HT3 := Lib.hid (HT2.out.below hb2); have q0 := (HK1.out.step hb2).c0; have q1 := (HK1.out.step hb2).c1; have q2 := (HK1.out.step hb2).c2; have q3 := (HK1.out.step hb2).c3; have q4 := (HK1.out.step hb2).c4; have q5 := (HK1.out.step hb2).c5; obtain ⟨⟨d0, d1, d2, d3, d4, d5⟩, g0, g1, g2, g3, g4, g5⟩ := (HC1.out.step hb2).zero; clear hb2))
        refine dec_fin (HC3.out.put6 c (.slice A c.names.length cp)) _ 0 rfl rfl ⟨below_put6 HG3.out.1 (Nat.le_refl _), ?_⟩
        rw [HN.out]
        exact ⟨A, cp, rfl, (HT3.out.put6 HLT.out).lower HLE.out⟩
end Go.Proofs.YtnaoandleelbkaaGreatDoor
