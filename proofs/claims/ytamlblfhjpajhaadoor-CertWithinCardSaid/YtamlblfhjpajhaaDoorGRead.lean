/-
  The contract of read.
-/
import Derived.Deep.RegionHeld3
import Derived.Test.YtamlblfhjpajhaaDoorGTags
import Derived.Test.YtamlblfhjpajhaaDoorGWrite
namespace Go.Proofs.YtamlblfhjpajhaaDoor
set_option linter.unusedSimpArgs false
set_option linter.unusedVariables false
open Go Go.RowKit
set_option maxRecDepth 100000

theorem resCT {P : Program} {fn : Func} {p q : Tmp} {ty : TypeId} (h : fn.results = #[.cell p ty, .tmp q]) (tmps : Array Value) (w : World) (g : Nat) (t : TypeId) (cs : Array Value) (fr : Nat × Nat) (d : TypeDesc)
    (hp : tmps.getD p undef = .pointer (some ⟨g, 0, none⟩)) (hg : w.heap[g]? = some (.cells cs t fr))
    (hu : P.underlying ty = some d) (hd : (match d with | .struct _ | .array _ _ => true | _ => false) = true) (hi : (P.info? ty).map (·.size) = some cs.size) :
    (results fn tmps).run P w = .ok (.tuple #[.agg cs, tmps.getD q undef]) w := by
  have hp' : tmps[p]?.getD undef = .pointer (some ⟨g, 0, none⟩) := by simpa using hp
  simp [results, h, hp', asAddr, run_loadVar_row w g t ty cs fr d hg hu hd hi]
theorem GL.row {w : World} (h : GL w) : ∃ T fz, w.heap[(0 : Nat)]? = some (.cells (cellsOf tagsC).toArray T fz) := by
  have := h.tg
  unfold Lib.TabIs World.var? at this
  rw [gTags] at this
  simp only [Option.bind_some] at this
  cases hh : w.heap[(0 : Nat)]? with
  | none => rw [hh] at this; simp at this
  | some o =>
    rw [hh] at this
    cases o with
    | cells cs T fz =>
      simp only [Option.bind_some, Option.some.injEq] at this
      exact ⟨T, fz, by rw [this]; rfl⟩
    | _ => simp at this
section
variable {o : Oper} {a : Act} {w : World}
theorem exec_neq_tags {x y : Operand} {t' : TypeId} (ho : o.op = .binOp .neq 51 x y t') {A B : List UInt8} (hd : a.eval x = arrV A) (hs : a.eval y = arrV B) (hA : A.length = 6) (hB : B.length = 6) :
    (execOp a.eval o).run Tryd.prog w = .ok (.value (.bool (A != B))) w := by
  have hg : (eqGuard .neq 51 x y (arrV A) (arrV B)).run Tryd.prog w = .ok () w := run_eqGuard_agg w .neq _ x y _ _ (by kernel_rfl)
  have hr := neq_tags hA hB w
  unfold execOp
  simp only [ho, Sem.run_bind, Sem.run_pure, Result.andThen_ok, hd, hs, hg, hr]
end
/-- What read tells. -/
def ReadPost (w : World) (r : Option Ct) (e : Ending) (w' : World) : Prop := Below w.heap.size w w' ∧ match r with
  | some c => ∃ A cp, e = .returned (.tuple #[certV c (.slice A c.names.length cp), .int .i64 0]) ∧ TW w.heap.size w' (.slice A c.names.length cp) c.names
  | none => ∃ (c : Ct) (A : Option Addr) (m cp : Nat) (n : Int), n ≠ 0 ∧ e = .returned (.tuple #[certV c (.slice A m cp), .int .i64 n])
theorem CB.zero {W : World} {k : Nat} (h : CB W k ct0 (.slice none 0 0)) : (W.cell? ⟨k, 0, none⟩ = some (sv []) ∧ W.cell? ⟨k, 1, none⟩ = some (sv []) ∧ W.cell? ⟨k, 2, none⟩ = some (.slice none 0 0) ∧ W.cell? ⟨k, 3, none⟩ = some (.int .i64 0) ∧ W.cell? ⟨k, 4, none⟩ = some (.int .i64 0) ∧ W.cell? ⟨k, 5, none⟩ = some (.bool false)) ∧
    W.frozen? ⟨k, 0, none⟩ = false ∧ W.frozen? ⟨k, 1, none⟩ = false ∧ W.frozen? ⟨k, 2, none⟩ = false ∧ W.frozen? ⟨k, 3, none⟩ = false ∧ W.frozen? ⟨k, 4, none⟩ = false ∧ W.frozen? ⟨k, 5, none⟩ = false :=
  ⟨⟨h.c0, h.c1, h.c2, h.c3, h.c4, h.c5⟩, h.free 0, h.free 1, h.free 2, h.free 3, h.free 4, h.free 5⟩
theorem read_end {w W : World} (hb : Below w.heap.size w W) (hc : CB W w.heap.size ct0 (.slice none 0 0)) (tm : Array Value) (n : Int) (hn : n ≠ 0) (h2 : tm.getD 2 undef = .pointer (some ⟨w.heap.size, 0, none⟩)) (h3 : tm.getD 3 undef = .int .i64 n) :
    bodyPost Tryd.prog Tryd.f21 (ReadPost w none) .ret { tmps := tm, defers := [] } W :=
  bodyPost_ret (resCT (p := 2) (q := 3) (by kernel_rfl) _ _ w.heap.size 24 _ (0, 0) _ h2 hc Tryd.underlying24 rfl (by kernel_rfl)) rfl ⟨hb, ct0, none, 0, 0, n, hn, by rw [h3]; rfl⟩

/-- Six stores. -/
abbrev st6 (W : World) (k : Nat) (v0 v1 v2 v3 v4 v5 : Value) : World := (((((W.setCell ⟨k, 0, none⟩ v0).setCell ⟨k, 1, none⟩ v1).setCell ⟨k, 2, none⟩ v2).setCell ⟨k, 3, none⟩ v3).setCell ⟨k, 4, none⟩ v4).setCell ⟨k, 5, none⟩ v5
theorem CB.put6 {W : World} {k : Nat} {c : Ct} {nv : Value} (h : CB W k c nv) (d : Ct) (nu : Value) : CB (st6 W k (sv d.key) (sv d.sig) nu (.int .i64 d.fr) (.int .i64 d.un) (.bool d.ca)) k d nu := filled6 h
theorem below_put6 {w W : World} {k : Nat} {v0 v1 v2 v3 v4 v5 : Value} (h : Below w.heap.size w W) (hk : w.heap.size ≤ k) : Below w.heap.size w (st6 W k v0 v1 v2 v3 v4 v5) :=
  (((((h.setCell (p := ⟨k, 0, none⟩) hk _).setCell (p := ⟨k, 1, none⟩) hk _).setCell (p := ⟨k, 2, none⟩) hk _).setCell (p := ⟨k, 3, none⟩) hk _).setCell (p := ⟨k, 4, none⟩) hk _).setCell (p := ⟨k, 5, none⟩) hk _
theorem read_end0 {w W : World} (hb : Below w.heap.size w W) (hc : CB W w.heap.size ct0 (.slice none 0 0)) (tm : Array Value) (n : Int) (hn : n ≠ 0) (h2 : tm.getD 2 undef = .pointer (some ⟨w.heap.size, 0, none⟩)) (h3 : tm.getD 3 undef = .int .i64 n) :
    bodyPost Tryd.prog Tryd.f21 (ReadPost w none) .ret { tmps := tm, defers := [] } (st6 W w.heap.size (.string ⟨#[]⟩) (.string ⟨#[]⟩) (.slice none 0 0) (.int .i64 0) (.int .i64 0) (.bool false)).drew :=
  read_end (below_put6 hb (Nat.le_refl _)).drew ((hc.put6 ct0 (.slice none 0 0)).step (Below.refl _ _).drew) tm n hn h2 h3
theorem read_end1 {w W : World} (hb : Below w.heap.size w W) (hc : CB W w.heap.size ct0 (.slice none 0 0)) (tm : Array Value) (n : Int) (hn : n ≠ 0) (h2 : tm.getD 2 undef = .pointer (some ⟨w.heap.size, 0, none⟩)) (h3 : tm.getD 3 undef = .int .i64 n) :
    bodyPost Tryd.prog Tryd.f21 (ReadPost w none) .ret { tmps := tm, defers := [] } (st6 W w.heap.size (.string ⟨#[]⟩) (.string ⟨#[]⟩) (.slice none 0 0) (.int .i64 0) (.int .i64 0) (.bool false)) :=
  read_end (below_put6 hb (Nat.le_refl _)) (hc.put6 ct0 (.slice none 0 0)) tm n hn h2 h3
theorem alone_len {s v : List UInt8} {t : UInt8} (h : aloneO s t = some v) : v.length ≤ s.length := by
  obtain ⟨rfl, _, _⟩ := alone_some h
  have := putT_ge t v
  omega
theorem allR_nil : allR [] = .ok [] := rfl
theorem allR_er0 {s : List UInt8} {n : Nat} (h : allR s = .er n) : n ≠ 0 := by
  intro e
  subst e
  unfold allR at h
  have : ∀ (q : List (Tv × Nat)) (acc : List Tv), allOf q acc = .er 0 → False := by
    intro q
    induction q with
    | nil => intro acc h; simp [allOf] at h
    | cons x q ih =>
      intro acc h
      obtain ⟨x, e⟩ := x
      simp only [allOf] at h
      split at h
      · next he => simp at h; exact he h
      · split at h
        · simp at h
        · exact ih _ h
  exact this _ _ h
/-- The result's box, and what alone and All leave. -/
abbrev zeroC : Obj := .cells #[sv [], sv [], .slice none 0 0, .int .i64 0, .int .i64 0, .bool false] 24
set_option maxHeartbeats 8000000 in
theorem read_A {w : World} (s : List UInt8) (hs : s.length ≤ 1000000) (hw : GL w) (h : aloneO s 48 = none) : Calls Tryd.prog 21 #[sv s] w (ReadPost w (readC s)) := by
  have HR := Lib.hid (show readC s = none by unfold readC; rw [h])
  have HA := Lib.hid (fun W : World => @alone_no W s 48 48 rfl (by omega) h)
  have HL := Lib.hid (fun W : World => show Calls Tryd.prog 30 #[sv []] W (fun e w' => ∃ v, e = .returned (.tuple #[v, .int .i64 0]) ∧ TO 58 W.heap.size w' v [] ∧ Below W.heap.size W w') from all_any [] W (by decide))
  have HG := Lib.hid ((Gb.start hw).alloc zeroC)
  have HC := Lib.hid (CB.new w ct0 (.slice none 0 0))
  rw [HR.out]
  clear hw h
  go_enter Tryd.func21, Tryd.ntmps21
  go_wp2_with (first | (go_at_call 29; refine (HA.out _).mono ?_; rintro e w1 ⟨rfl, hb1⟩; have HG1 := Lib.hid (HG.out.step hb1); have HC1 := Lib.hid (HC.out.step hb1); clear hb1) | (go_at_call 30; refine (HL.out _).mono ?_; rintro e w2 ⟨v, rfl, hto, hb2⟩; obtain ⟨A0, cp0, rfl⟩ := hto.form; have HG2 := Lib.hid (HG1.out.step hb2); have HC2 := Lib.hid (HC1.out.step hb2); obtain ⟨⟨d0, d1, d2, d3, d4, d5⟩, g0, g1, g2, g3, g4, g5⟩ := (HC1.out.step hb2).zero; clear hto hb2))
  refine wp_region_held_drew (S := fun W => Gb w W ∧ CB W w.heap.size ct0 (.slice none 0 0)) (by kernel_rfl) ⟨HG2.out.drew, HC2.out.step (Below.refl _ _).drew⟩ (fun hHeld => ?_)
  refine wpAnyH_take (i := 0) (v := ?vv0_1) rfl (by kernel_rfl) (by kernel_rfl) (by kernel_rfl) (fun _ _ _ h => h) (Or.inl ⟨by rfl, ?hy0_1⟩) (by assumption) ?rest0_1
  case hy0_1 => (intro w' hSw; (try dsimp only at hSw); go_simp; try with_reducible rfl)
  try simp only [List.getElem_toArray, List.getElem_cons_zero, List.getElem_cons_succ, Act.put, List.setIfInBounds_toArray, List.set_cons_zero, List.set_cons_succ]
  refine wpAnyH_take (i := 1) (v := ?vv1_1) rfl (by kernel_rfl) (by kernel_rfl) (by kernel_rfl) (fun _ _ _ h => h) (Or.inl ⟨by rfl, ?hy1_1⟩) (by assumption) ?rest1_1
  case hy1_1 => (intro w' hSw; (try dsimp only at hSw); go_simp; try with_reducible rfl)
  try simp only [List.getElem_toArray, List.getElem_cons_zero, List.getElem_cons_succ, Act.put, List.setIfInBounds_toArray, List.set_cons_zero, List.set_cons_succ]
  refine wpAnyH_take (i := 2) (v := ?vv2_1) rfl (by kernel_rfl) (by kernel_rfl) (by kernel_rfl) (fun _ _ _ h => h) (Or.inl ⟨by rfl, ?hy2_1⟩) (by assumption) ?rest2_1
  case hy2_1 => (intro w' hSw; (try dsimp only at hSw); go_simp; try with_reducible rfl)
  try simp only [List.getElem_toArray, List.getElem_cons_zero, List.getElem_cons_succ, Act.put, List.setIfInBounds_toArray, List.set_cons_zero, List.set_cons_succ]
  refine wpAnyH_take (i := 3) (v := undef) rfl (by kernel_rfl) (by kernel_rfl) (by kernel_rfl) (fun _ _ _ h => h) (Or.inr ⟨by rfl, rfl⟩) (by assumption) ?_
  try simp only [List.getElem_toArray, List.getElem_cons_zero, List.getElem_cons_succ, Act.put, List.setIfInBounds_toArray, List.set_cons_zero, List.set_cons_succ]
  refine wpAnyH_take (i := 4) (v := undef) rfl (by kernel_rfl) (by kernel_rfl) (by kernel_rfl) (fun _ _ _ h => h) (Or.inr ⟨by rfl, rfl⟩) (by assumption) ?_
  try simp only [List.getElem_toArray, List.getElem_cons_zero, List.getElem_cons_succ, Act.put, List.setIfInBounds_toArray, List.set_cons_zero, List.set_cons_succ]
  refine wpAnyH_take (i := 5) (v := ?vv5_1) rfl (by kernel_rfl) (by kernel_rfl) (by kernel_rfl) (fun _ _ _ h => h) (Or.inl ⟨by rfl, ?hy5_1⟩) (by assumption) ?rest5_1
  case hy5_1 => (intro w' hSw; (try dsimp only at hSw); go_simp; try with_reducible rfl)
  try simp only [List.getElem_toArray, List.getElem_cons_zero, List.getElem_cons_succ, Act.put, List.setIfInBounds_toArray, List.set_cons_zero, List.set_cons_succ]
  refine wpAnyH_take (i := 6) (v := ?vv6_1) rfl (by kernel_rfl) (by kernel_rfl) (by kernel_rfl) (fun _ _ _ h => h) (Or.inl ⟨by rfl, ?hy6_1⟩) (by assumption) ?rest6_1
  case hy6_1 => (intro w' hSw; (try dsimp only at hSw); go_simp; try with_reducible rfl)
  try simp only [List.getElem_toArray, List.getElem_cons_zero, List.getElem_cons_succ, Act.put, List.setIfInBounds_toArray, List.set_cons_zero, List.set_cons_succ]
  refine wpAnyH_take (i := 7) (v := undef) rfl (by kernel_rfl) (by kernel_rfl) (by kernel_rfl) (fun _ _ _ h => h) (Or.inr ⟨by rfl, rfl⟩) (by assumption) ?_
  try simp only [List.getElem_toArray, List.getElem_cons_zero, List.getElem_cons_succ, Act.put, List.setIfInBounds_toArray, List.set_cons_zero, List.set_cons_succ]
  refine wpAnyH_take (i := 8) (v := undef) rfl (by kernel_rfl) (by kernel_rfl) (by kernel_rfl) (fun _ _ _ h => h) (Or.inr ⟨by rfl, rfl⟩) (by assumption) ?_
  try simp only [List.getElem_toArray, List.getElem_cons_zero, List.getElem_cons_succ, Act.put, List.setIfInBounds_toArray, List.set_cons_zero, List.set_cons_succ]
  refine wpAnyH_take (i := 9) (v := undef) rfl (by kernel_rfl) (by kernel_rfl) (by kernel_rfl) (fun _ _ _ h => h) (Or.inr ⟨by rfl, rfl⟩) (by assumption) ?_
  try simp only [List.getElem_toArray, List.getElem_cons_zero, List.getElem_cons_succ, Act.put, List.setIfInBounds_toArray, List.set_cons_zero, List.set_cons_succ]
  refine wpAnyH_take (i := 10) (v := undef) rfl (by kernel_rfl) (by kernel_rfl) (by kernel_rfl) (fun _ _ _ h => h) (Or.inr ⟨by rfl, rfl⟩) (by assumption) ?_
  try simp only [List.getElem_toArray, List.getElem_cons_zero, List.getElem_cons_succ, Act.put, List.setIfInBounds_toArray, List.set_cons_zero, List.set_cons_succ]
  refine wpAnyH_take (i := 11) (v := ?vv11_1) rfl (by kernel_rfl) (by kernel_rfl) (by kernel_rfl) (fun _ _ _ h => h) (Or.inl ⟨by rfl, ?hy11_1⟩) (by assumption) ?rest11_1
  case hy11_1 => (intro w' hSw; (try dsimp only at hSw); go_simp; try with_reducible rfl)
  try simp only [List.getElem_toArray, List.getElem_cons_zero, List.getElem_cons_succ, Act.put, List.setIfInBounds_toArray, List.set_cons_zero, List.set_cons_succ]
  refine wpAnyH_done (by kernel_rfl) ?_ _
  go_wp2_with fail
  exact read_end0 HG2.out.1 HC2.out _ 4 (by decide) rfl rfl
set_option maxHeartbeats 8000000 in
theorem read_B {w : World} (s row : List UInt8) (n : Nat) (hs : s.length ≤ 1000000) (hw : GL w) (h : aloneO s 48 = some row) (h2 : allR row = .er n) : Calls Tryd.prog 21 #[sv s] w (ReadPost w (readC s)) := by
  have HR := Lib.hid (show readC s = none by unfold readC; rw [h]; simp only; rw [h2])
  have hrl := alone_len h
  have HA := Lib.hid (fun W : World => @alone_yes W s row 48 48 rfl (by omega) h)
  have hal := fun W => all_any row W (by omega)
  rw [h2] at hal
  have hn0 := allR_er0 h2
  have hn1 : ((n : Int) != 0) = true := by rw [bne_iff_ne]; omega
  have HL := Lib.hid (fun W : World => show Calls Tryd.prog 30 #[sv row] W (fun e w' => e = .returned (.tuple #[.slice none 0 0, .int .i64 (n : Int)]) ∧ Below W.heap.size W w') from hal W)
  have HG := Lib.hid ((Gb.start hw).alloc zeroC)
  have HC := Lib.hid (CB.new w ct0 (.slice none 0 0))
  rw [HR.out]
  clear hw h h2 hal hn0
  go_enter Tryd.func21, Tryd.ntmps21
  go_wp2_with (first | (go_at_call 29; refine (HA.out _).mono ?_; rintro e w1 ⟨rfl, hb1⟩; have HG1 := Lib.hid (HG.out.step hb1); have HC1 := Lib.hid (HC.out.step hb1); clear hb1) | (go_at_call 30; refine (HL.out _).mono ?_; rintro e w2 ⟨rfl, hb2⟩; have HG2 := Lib.hid (HG1.out.step hb2); have HC2 := Lib.hid (HC1.out.step hb2); obtain ⟨⟨d0, d1, d2, d3, d4, d5⟩, g0, g1, g2, g3, g4, g5⟩ := (HC1.out.step hb2).zero; clear hb2))
  refine wp_region_held_drew (S := fun W => Gb w W ∧ CB W w.heap.size ct0 (.slice none 0 0)) (by kernel_rfl) ⟨HG2.out.drew, HC2.out.step (Below.refl _ _).drew⟩ (fun hHeld => ?_)
  refine wpAnyH_take (i := 0) (v := ?vv0_2) rfl (by kernel_rfl) (by kernel_rfl) (by kernel_rfl) (fun _ _ _ h => h) (Or.inl ⟨by rfl, ?hy0_2⟩) (by assumption) ?rest0_2
  case hy0_2 => (intro w' hSw; (try dsimp only at hSw); go_simp; try with_reducible rfl)
  try simp only [List.getElem_toArray, List.getElem_cons_zero, List.getElem_cons_succ, Act.put, List.setIfInBounds_toArray, List.set_cons_zero, List.set_cons_succ]
  refine wpAnyH_take (i := 1) (v := ?vv1_2) rfl (by kernel_rfl) (by kernel_rfl) (by kernel_rfl) (fun _ _ _ h => h) (Or.inl ⟨by rfl, ?hy1_2⟩) (by assumption) ?rest1_2
  case hy1_2 => (intro w' hSw; (try dsimp only at hSw); go_simp; try with_reducible rfl)
  try simp only [List.getElem_toArray, List.getElem_cons_zero, List.getElem_cons_succ, Act.put, List.setIfInBounds_toArray, List.set_cons_zero, List.set_cons_succ]
  refine wpAnyH_take (i := 2) (v := ?vv2_2) rfl (by kernel_rfl) (by kernel_rfl) (by kernel_rfl) (fun _ _ _ h => h) (Or.inl ⟨by rfl, ?hy2_2⟩) (by assumption) ?rest2_2
  case hy2_2 => (intro w' hSw; (try dsimp only at hSw); go_simp; try with_reducible rfl)
  try simp only [List.getElem_toArray, List.getElem_cons_zero, List.getElem_cons_succ, Act.put, List.setIfInBounds_toArray, List.set_cons_zero, List.set_cons_succ]
  refine wpAnyH_take (i := 3) (v := ?vv3_2) rfl (by kernel_rfl) (by kernel_rfl) (by kernel_rfl) (fun _ _ _ h => h) (Or.inl ⟨by rfl, ?hy3_2⟩) (by assumption) ?rest3_2
  case hy3_2 => (intro w' hSw; (try dsimp only at hSw); go_simp; try with_reducible rfl)
  try simp only [List.getElem_toArray, List.getElem_cons_zero, List.getElem_cons_succ, Act.put, List.setIfInBounds_toArray, List.set_cons_zero, List.set_cons_succ]
  refine wpAnyH_take (i := 4) (v := ?vv4_2) rfl (by kernel_rfl) (by kernel_rfl) (by kernel_rfl) (fun _ _ _ h => h) (Or.inl ⟨by rfl, ?hy4_2⟩) (by assumption) ?rest4_2
  case hy4_2 => (intro w' hSw; (try dsimp only at hSw); go_simp; try with_reducible rfl)
  try simp only [List.getElem_toArray, List.getElem_cons_zero, List.getElem_cons_succ, Act.put, List.setIfInBounds_toArray, List.set_cons_zero, List.set_cons_succ]
  refine wpAnyH_take (i := 5) (v := ?vv5_2) rfl (by kernel_rfl) (by kernel_rfl) (by kernel_rfl) (fun _ _ _ h => h) (Or.inl ⟨by rfl, ?hy5_2⟩) (by assumption) ?rest5_2
  case hy5_2 => (intro w' hSw; (try dsimp only at hSw); go_simp; try with_reducible rfl)
  try simp only [List.getElem_toArray, List.getElem_cons_zero, List.getElem_cons_succ, Act.put, List.setIfInBounds_toArray, List.set_cons_zero, List.set_cons_succ]
  refine wpAnyH_take (i := 6) (v := ?vv6_2) rfl (by kernel_rfl) (by kernel_rfl) (by kernel_rfl) (fun _ _ _ h => h) (Or.inl ⟨by rfl, ?hy6_2⟩) (by assumption) ?rest6_2
  case hy6_2 => (intro w' hSw; (try dsimp only at hSw); go_simp; try with_reducible rfl)
  try simp only [List.getElem_toArray, List.getElem_cons_zero, List.getElem_cons_succ, Act.put, List.setIfInBounds_toArray, List.set_cons_zero, List.set_cons_succ]
  refine wpAnyH_take (i := 7) (v := undef) rfl (by kernel_rfl) (by kernel_rfl) (by kernel_rfl) (fun _ _ _ h => h) (Or.inr ⟨by rfl, rfl⟩) (by assumption) ?_
  try simp only [List.getElem_toArray, List.getElem_cons_zero, List.getElem_cons_succ, Act.put, List.setIfInBounds_toArray, List.set_cons_zero, List.set_cons_succ]
  refine wpAnyH_take (i := 8) (v := undef) rfl (by kernel_rfl) (by kernel_rfl) (by kernel_rfl) (fun _ _ _ h => h) (Or.inr ⟨by rfl, rfl⟩) (by assumption) ?_
  try simp only [List.getElem_toArray, List.getElem_cons_zero, List.getElem_cons_succ, Act.put, List.setIfInBounds_toArray, List.set_cons_zero, List.set_cons_succ]
  refine wpAnyH_take (i := 9) (v := undef) rfl (by kernel_rfl) (by kernel_rfl) (by kernel_rfl) (fun _ _ _ h => h) (Or.inr ⟨by rfl, rfl⟩) (by assumption) ?_
  try simp only [List.getElem_toArray, List.getElem_cons_zero, List.getElem_cons_succ, Act.put, List.setIfInBounds_toArray, List.set_cons_zero, List.set_cons_succ]
  refine wpAnyH_take (i := 10) (v := undef) rfl (by kernel_rfl) (by kernel_rfl) (by kernel_rfl) (fun _ _ _ h => h) (Or.inr ⟨by rfl, rfl⟩) (by assumption) ?_
  try simp only [List.getElem_toArray, List.getElem_cons_zero, List.getElem_cons_succ, Act.put, List.setIfInBounds_toArray, List.set_cons_zero, List.set_cons_succ]
  refine wpAnyH_take (i := 11) (v := ?vv11_2) rfl (by kernel_rfl) (by kernel_rfl) (by kernel_rfl) (fun _ _ _ h => h) (Or.inl ⟨by rfl, ?hy11_2⟩) (by assumption) ?rest11_2
  case hy11_2 => (intro w' hSw; (try dsimp only at hSw); go_simp; try with_reducible rfl)
  try simp only [List.getElem_toArray, List.getElem_cons_zero, List.getElem_cons_succ, Act.put, List.setIfInBounds_toArray, List.set_cons_zero, List.set_cons_succ]
  refine wpAnyH_done (by kernel_rfl) ?_ _
  go_wp2_with fail
  exact read_end0 HG2.out.1 HC2.out _ 4 (by decide) rfl rfl
set_option maxHeartbeats 8000000 in
theorem read_C {w : World} (s row : List UInt8) (l : List Tv) (hs : s.length ≤ 1000000) (hw : GL w) (h : aloneO s 48 = some row) (h2 : allR row = .ok l) (h3 : ¬ l.map (·.1) = tagsC) : Calls Tryd.prog 21 #[sv s] w (ReadPost w (readC s)) := by
  have HR := Lib.hid (show readC s = none by unfold readC; rw [h]; simp only; rw [h2]; simp only; rw [if_neg h3])
  have hrl := alone_len h
  have HA := Lib.hid (fun W : World => @alone_yes W s row 48 48 rfl (by omega) h)
  have hal := fun W => all_any row W (by omega)
  rw [h2] at hal
  have HLL := Lib.hid (show l.length ≤ 1000000 by have := (allR_ok h2).2; omega)
  obtain ⟨BB, hBB⟩ : ∃ b, b = true := ⟨_, rfl⟩
  have HBB := Lib.hid (show (tagsOfL l != tagsC) = BB by rw [tagsOf_iff, hBB]; simp [h3])
  have HL := Lib.hid (fun W : World => show Calls Tryd.prog 30 #[sv row] W (fun e w' => ∃ v, e = .returned (.tuple #[v, .int .i64 0]) ∧ TO 58 W.heap.size w' v l ∧ Below W.heap.size W w') from hal W)
  have HG := Lib.hid ((Gb.start hw).alloc zeroC)
  have HC := Lib.hid (CB.new w ct0 (.slice none 0 0))
  have HBT := Lib.hid hBB
  rw [HR.out]
  clear hw h h2 h3 hal hBB
  go_enter Tryd.func21, Tryd.ntmps21
  go_wp2_with (first | (go_at_call 29; refine (HA.out _).mono ?_; rintro e w1 ⟨rfl, hb1⟩; have HG1 := Lib.hid (HG.out.step hb1); have HC1 := Lib.hid (HC.out.step hb1); clear hb1) | (go_at_call 30; refine (HL.out _).mono ?_; rintro e w2 ⟨v, rfl, hto, hb2⟩; obtain ⟨A0, cp0, rfl⟩ := hto.form; have HG3 := Lib.hid (HG1.out.step hb2); have HC3 := Lib.hid (HC1.out.step hb2); have HT3 := Lib.hid hto.pr; clear hto hb2))
  refine wp_region_held_drew (S := fun W => Gb w W ∧ CB W w.heap.size ct0 (.slice none 0 0) ∧ TR W (.slice A0 l.length cp0) l) (by kernel_rfl) ⟨HG3.out.drew, HC3.out.step (Below.refl _ _).drew, HT3.out.step (Below.refl _ _).drew⟩ (fun hHeld => ?_)
  refine wpAnyH_take (i := 0) (v := ?vv0_3) rfl (by kernel_rfl) (by kernel_rfl) (by kernel_rfl) (fun _ _ _ h => h) (Or.inl ⟨by rfl, ?hy0_3⟩) (by assumption) ?rest0_3
  case hy0_3 => (intro w' hSw; (try dsimp only at hSw); go_simp; try with_reducible rfl)
  try simp only [List.getElem_toArray, List.getElem_cons_zero, List.getElem_cons_succ, Act.put, List.setIfInBounds_toArray, List.set_cons_zero, List.set_cons_succ]
  refine wpAnyH_take (i := 1) (v := ?vv1_3) rfl (by kernel_rfl) (by kernel_rfl) (by kernel_rfl) (fun _ _ _ h => h) (Or.inl ⟨by rfl, ?hy1_3⟩) (by assumption) ?rest1_3
  case hy1_3 => (intro w' hSw; (try dsimp only at hSw); go_simp; try with_reducible rfl)
  try simp only [List.getElem_toArray, List.getElem_cons_zero, List.getElem_cons_succ, Act.put, List.setIfInBounds_toArray, List.set_cons_zero, List.set_cons_succ]
  refine wpAnyH_take (i := 2) (v := ?vv2_3) rfl (by kernel_rfl) (by kernel_rfl) (by kernel_rfl) (fun _ _ _ h => h) (Or.inl ⟨by rfl, ?hy2_3⟩) (by assumption) ?rest2_3
  case hy2_3 => (intro w' hSw; (try dsimp only at hSw); go_simp; try with_reducible rfl)
  try simp only [List.getElem_toArray, List.getElem_cons_zero, List.getElem_cons_succ, Act.put, List.setIfInBounds_toArray, List.set_cons_zero, List.set_cons_succ]
  refine wpAnyH_take (i := 3) (v := ?vv3_3) rfl (by kernel_rfl) (by kernel_rfl) (by kernel_rfl) (fun _ _ _ h => h) (Or.inl ⟨by rfl, ?hy3_3⟩) (by assumption) ?rest3_3
  case hy3_3 => (intro w' hSw; (try dsimp only at hSw); go_simp; try with_reducible rfl)
  try simp only [List.getElem_toArray, List.getElem_cons_zero, List.getElem_cons_succ, Act.put, List.setIfInBounds_toArray, List.set_cons_zero, List.set_cons_succ]
  refine wpAnyH_take (i := 4) (v := ?vv4_3) rfl (by kernel_rfl) (by kernel_rfl) (by kernel_rfl) (fun _ _ _ h => h) (Or.inl ⟨by rfl, ?hy4_3⟩) (by assumption) ?rest4_3
  case hy4_3 => (intro w' hSw; (try dsimp only at hSw); go_simp; try with_reducible rfl)
  try simp only [List.getElem_toArray, List.getElem_cons_zero, List.getElem_cons_succ, Act.put, List.setIfInBounds_toArray, List.set_cons_zero, List.set_cons_succ]
  refine wpAnyH_take (i := 5) (v := ?vv5_3) rfl (by kernel_rfl) (by kernel_rfl) (by kernel_rfl) (fun _ _ _ h => h) (Or.inl ⟨by rfl, ?hy5_3⟩) (by assumption) ?rest5_3
  case hy5_3 => (intro w' hSw; (try dsimp only at hSw); go_simp; try with_reducible rfl)
  try simp only [List.getElem_toArray, List.getElem_cons_zero, List.getElem_cons_succ, Act.put, List.setIfInBounds_toArray, List.set_cons_zero, List.set_cons_succ]
  refine wpAnyH_take (i := 6) (v := ?vv6_3) rfl (by kernel_rfl) (by kernel_rfl) (by kernel_rfl) (fun _ _ _ h => h) (Or.inl ⟨by rfl, ?hy6_3⟩) (by assumption) ?rest6_3
  case hy6_3 => (intro w' hSw; (try dsimp only at hSw); go_simp; try with_reducible rfl)
  try simp only [List.getElem_toArray, List.getElem_cons_zero, List.getElem_cons_succ, Act.put, List.setIfInBounds_toArray, List.set_cons_zero, List.set_cons_succ]
  refine wpAnyH_take (i := 7) (v := ?vv7_3) rfl (by kernel_rfl) (by kernel_rfl) (by kernel_rfl) (fun _ _ _ h => h) (Or.inl ⟨by rfl, ?hy7_3⟩) (by assumption) ?rest7_3
  case hy7_3 => (intro w' hSw; (try dsimp only at hSw); go_simp; try with_reducible rfl)
  try simp only [List.getElem_toArray, List.getElem_cons_zero, List.getElem_cons_succ, Act.put, List.setIfInBounds_toArray, List.set_cons_zero, List.set_cons_succ]
  refine wpAnyH_take (i := 9) (v := arrV tagsC) rfl (by kernel_rfl) (by kernel_rfl) (by kernel_rfl) (fun _ _ _ h => h) (Or.inl ⟨by rfl, fun w' hSw => (by obtain ⟨T, fz, hrw⟩ := hSw.1.2.row; exact exec_load_row w' rfl rfl hrw Tryd.underlying51 rfl (by kernel_rfl))⟩) (by assumption) ?_
  try simp only [List.getElem_toArray, List.getElem_cons_zero, List.getElem_cons_succ, Act.put, List.setIfInBounds_toArray, List.set_cons_zero, List.set_cons_succ]
  refine wpAnyH_ready (rs := [8]) (by kernel_rfl) (by simp) ?_
  refine AllReadyH.cons rfl (fun K hK => ?_) AllReadyH.nil
  go_simp
  go_at_call 31
  refine (tagsOf_any l A0 cp0 hHeld.2.2 HLL.out).mono ?_
  rintro e w4 ⟨rfl, hb4⟩
  refine hK.out _ _ ⟨hHeld.1.step hb4, hHeld.2.1.step hb4, hHeld.2.2.step hb4⟩ (fun hHeld => ?_)
  clear hK K
  try simp only [List.getElem_toArray, List.getElem_cons_zero, List.getElem_cons_succ, Act.put, List.setIfInBounds_toArray, List.set_cons_zero, List.set_cons_succ]
  refine wpAnyH_take (i := 10) (v := .bool BB) rfl (by kernel_rfl) (by kernel_rfl) (by kernel_rfl) (fun _ _ _ h => h) (Or.inl ⟨by rfl, fun w' hSw => (by rw [← HBB.out]; exact exec_neq_tags rfl rfl rfl (tagsOf_length l) rfl)⟩) (by assumption) ?_
  try simp only [List.getElem_toArray, List.getElem_cons_zero, List.getElem_cons_succ, Act.put, List.setIfInBounds_toArray, List.set_cons_zero, List.set_cons_succ]
  refine wpAnyH_take (i := 11) (v := ?vv11_3) rfl (by kernel_rfl) (by kernel_rfl) (by kernel_rfl) (fun _ _ _ h => h) (Or.inl ⟨by rfl, ?hy11_3⟩) (by assumption) ?rest11_3
  case hy11_3 => (intro w' hSw; (try dsimp only at hSw); go_simp; try with_reducible rfl)
  try simp only [List.getElem_toArray, List.getElem_cons_zero, List.getElem_cons_succ, Act.put, List.setIfInBounds_toArray, List.set_cons_zero, List.set_cons_succ]
  refine wpAnyH_done (by kernel_rfl) ?_ _
  obtain ⟨⟨d0, d1, d2, d3, d4, d5⟩, g0, g1, g2, g3, g4, g5⟩ := hHeld.2.1.zero
  rw [HBT.out]
  have HH := Lib.hid hHeld
  clear hHeld
  go_wp2_with fail
  exact read_end1 HH.out.1.1 HH.out.2.1 _ 4 (by decide) rfl rfl
end Go.Proofs.YtamlblfhjpajhaaDoor
