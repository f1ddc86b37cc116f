/-
  The contract of the reference's Domains.
-/
import Derived.Deep.RegionHeld3
import Derived.Deep.AppendLies
import Derived.Laws.OwnMore
import Derived.Sort.Walk0
import Derived.Test.YtbmjmiioobgbfaaGreatDoorARMail
import Derived.Test.YtbmjmiioobgbfaaGreatDoorALess1
namespace Go.Proofs.YtbmjmiioobgbfaaGreatDoor
set_option linter.unusedSimpArgs false
set_option linter.unusedVariables false
open Go Go.RowKit
set_option maxRecDepth 100000

/-- What the first so many recipients give. -/
def putL (xs : List (List UInt8)) (k : Nat) : List (List UInt8) := (domL (xs.take k)).foldl putS []
theorem putL_none {xs : List (List UInt8)} {k : Nat} (hk : k < xs.length) (h : parseL (xs.getD k []) = none) : putL xs (k + 1) = putL xs k := by
  unfold putL; rw [domL_take hk, h]; simp
theorem putL_some {xs : List (List UInt8)} {k : Nat} {a d : List UInt8} (hk : k < xs.length) (h : parseL (xs.getD k []) = some (a, d)) : putL xs (k + 1) = putS (putL xs k) d := by
  unfold putL; rw [domL_take hk, h, List.foldl_append]; rfl
theorem putL_all (xs : List (List UInt8)) : putL xs xs.length = uniqS (domL xs) := by
  unfold putL; rw [List.take_length, fold_uniq]
theorem putL_len (xs : List (List UInt8)) (k : Nat) : (putL xs k).length ≤ k := by
  have h : ∀ (ds out : List TX), (ds.foldl putS out).length ≤ out.length + ds.length := by
    intro ds
    induction ds with
    | nil => intro out; simp
    | cons d ds ih =>
      intro out
      have h1 := ih (putS out d)
      have h2 := put_len out d
      simp only [List.foldl_cons, List.length_cons]
      omega
  have h1 := h (domL (xs.take k)) []
  have h2 := domL_len (xs.take k)
  unfold putL
  simp only [List.length_nil, List.length_take] at h1 h2
  omega
theorem put_at {out : List TX} {d : TX} {j : Nat} (hj : j ≤ out.length) (h1 : ∀ i, i < j → out.getD i [] < d) (h2 : j < out.length → ¬ out.getD j [] < d) : placeS out d = j := by
  refine place_is hj (fun i hi hl => ?_) (fun hl => ?_)
  · have := h1 i hi
    rwa [List.getD_eq_getElem?_getD, List.getElem?_eq_getElem hl] at this
  · have := h2 hl
    rwa [List.getD_eq_getElem?_getD, List.getElem?_eq_getElem hl] at this
theorem put_same {out : List TX} {d : TX} {j : Nat} (hp : placeS out d = j) (hl : j < out.length) (h : out.getD j [] = d) : putS out d = out := by
  unfold putS
  rw [hp, if_pos]
  rw [List.getD_eq_getElem?_getD, List.getElem?_eq_getElem hl] at h
  rw [List.getElem?_eq_getElem hl]
  exact congrArg some h
theorem put_new {out : List TX} {d : TX} {j : Nat} (hp : placeS out d = j) (h : j < out.length → out.getD j [] ≠ d) : putS out d = out.take j ++ d :: out.drop j := by
  unfold putS
  rw [hp, if_neg]
  intro e
  rcases Nat.lt_or_ge j out.length with hl | hl
  · apply h hl
    rw [List.getD_eq_getElem?_getD, e]; rfl
  · rw [List.getElem?_eq_none hl] at e; cases e

/-- What may be appended: its cells lie where the slice says. -/
def SrcOK (W : World) (A : Option Addr) (xs : List (List UInt8)) : Prop := 0 < xs.length → ∃ ad, A = some ad ∧ ∀ i u, (xs.map sv)[i]? = some u → W.cell? (ad.add i) = some u
theorem run_app {W : World} {B g n cap m c : Nat} {A : Option Addr} {xs ys : List (List UInt8)} (hown : W.ownsRow B 9 1 (.slice (some ⟨g, 0, none⟩) n cap) n (xs.map sv)) (hm : m = ys.length) (hsrc : SrcOK W A ys) (hB : B ≤ W.heap.size) (hn : n + m ≤ 1000000) :
    ∃ g' cap' W', (Builtin.append_ #[26, 26] 26 #[.slice (some ⟨g, 0, none⟩) n cap, .slice A m c]).run Tryz.prog W = .ok (.slice (some ⟨g', 0, none⟩) (n + m) cap') W' ∧
      W'.ownsRow B 9 1 (.slice (some ⟨g', 0, none⟩) (n + m) cap') (n + m) ((xs ++ ys).map sv) ∧ W.grownBy W' (some g) := by
  obtain ⟨i, hi, hz0, hz1, hz2⟩ := info_parts (show (Tryz.prog.info? 9).map (fun i => (i.zero, i.size, i.bytes)) = some (some (.string ⟨#[]⟩), 1, 16) by kernel_rfl)
  subst hm
  rcases Nat.eq_zero_or_pos ys.length with h0 | hp
  · obtain rfl : ys = [] := List.length_eq_zero_iff.1 h0
    refine ⟨g, cap, W, ?_, by simpa using hown, World.grownBy.refl W _⟩
    rcases hown.2 with ⟨h, _⟩ | ⟨g', cap', cur, e, _, _, hnc, _⟩
    · cases h
    · simp only [Value.slice.injEq, Option.some.injEq, Addr.mk.injEq, true_and, and_true] at e
      obtain ⟨rfl, rfl⟩ := e
      cases A <;> simp [Builtin.append_, run_underlying Tryz.underlying26, sizeOf, typeInfo, hi, Builtin.lenOf, Builtin.firstCells, hnc, storeCells, loadCells, loadCellsFrom]
  · obtain ⟨ad, rfl, hc⟩ := hsrc hp
    obtain ⟨g', cap', W', h1, h2, h3, _, _⟩ := run_append_lies (P := Tryz.prog) W 26 26 B 9 i _ 1 16 Tryz.underlying26 hi hz0 hz1 hz2 rfl (by decide) _ n (xs.map sv) hown ad ys.length c (ys.map sv) (by simp) hc (by
      intro u hu
      obtain ⟨y, _, rfl⟩ := List.mem_map.1 hu
      rfl) hp (by unfold maxLen; omega) (by omega) hB _ rfl
    exact ⟨g', cap', W', h1, by rw [List.map_append]; exact h2, h3⟩
theorem put_step {W : World} {ops : Array Oper} {o : Oper} {a : Act} {K : Act → World → Prop} {Q : Exit → Act → World → Prop} {E : Prop} (hgd : o.guard = none) (s x : Operand)
    (ho : o.op = .call { callee := .builtin .append, args := #[s, x], argTypes := #[26, 26] }) (hty : o.type = 26) {B g n cap m c : Nat} {A : Option Addr} {xs ys : List (List UInt8)}
    (hs : a.eval s = .slice (some ⟨g, 0, none⟩) n cap) (hx : a.eval x = .slice A m c) (hown : W.ownsRow B 9 1 (.slice (some ⟨g, 0, none⟩) n cap) n (xs.map sv)) (hm : m = ys.length) (hsrc : SrcOK W A ys) (hB : B ≤ W.heap.size) (hn : n + m ≤ 1000000) (L : Nat) (hL : L = n + m)
    (h : ∀ g' cap' W', W'.ownsRow B 9 1 (.slice (some ⟨g', 0, none⟩) L cap') L ((xs ++ ys).map sv) → W.grownBy W' (some g) → K (a.put o.dst (.slice (some ⟨g', 0, none⟩) L cap')) W') :
    if Region.wanted o (yielded ops a.tmps) = true then Oper.wp Tryz.prog o a W K Q else E := by
  have hw : Region.wanted o (yielded ops a.tmps) = true := by simp [Region.wanted, hgd]
  rw [if_pos hw]
  subst hL
  obtain ⟨g', cap', W', hr, h2, h3⟩ := run_app (c := c) hown hm hsrc hB hn
  rw [← hty] at hr
  unfold Oper.wp execOp
  simp only [ho, resolve, invoke, builtin, Sem.run_bind, Sem.run_pure, Result.andThen_ok, List.map_toArray, List.map_cons, List.map_nil, hs, hx]
  rw [hty] at hr
  first
    | (rw [hty, hr]; exact h g' cap' W' h2 h3)
    | (simp only [hty, hr]; exact h g' cap' W' h2 h3)
theorem owns_lower {W : World} {b b' n : Nat} {e : TypeId} {size : Nat} {v : Value} {xs : List Value} (h : W.ownsRow b e size v n xs) (hb : b' ≤ b) : W.ownsRow b' e size v n xs := by
  refine ⟨h.1, ?_⟩
  rcases h.2 with h | ⟨g, cap, cur, e1, e2, e3⟩
  · exact .inl h
  · exact .inr ⟨g, cap, cur, e1, by omega, e3⟩
theorem GT.other {w0 W W' : World} {A : Option Addr} {n c b : Nat} {xs : List (List UInt8)} (h : GT w0 (.slice A n c) xs W) (hg : W.grownBy W' (some b)) (h0 : w0.heap.size ≤ b) (hne : ∀ ad, A = some ad → ad.block ≠ b) : GT w0 (.slice A n c) xs W' := by
  refine ⟨h.1.grown hg h.1.size (fun k e => by injection e with e; omega), h.2.kept hg ?_⟩
  cases A with
  | none => exact .inl rfl
  | some ad => exact .inr (by simp only [Value.ownBlock, ne_eq, Option.some.injEq]; exact hne ad rfl)
theorem GT.src {w0 W : World} {A : Option Addr} {n c : Nat} {xs : List (List UInt8)} (h : GT w0 (.slice A n c) xs W) (j : Nat) (hj : j ≤ xs.length) :
    SrcOK W A (xs.take j) := by
  intro hp
  rw [List.length_take] at hp
  obtain ⟨g, rfl, _, _, hc, _⟩ := h.cell (by omega)
  refine ⟨_, rfl, fun i u hu => ?_⟩
  have hadd : (⟨g, 0, none⟩ : Addr).add i = ⟨g, i, none⟩ := by unfold Addr.add; split <;> simp_all
  rw [hadd]
  have hi : i < j := by
    rcases Nat.lt_or_ge i j with h1 | h1
    · exact h1
    · rw [List.getElem?_eq_none (by rw [List.length_map, List.length_take]; omega)] at hu; cases hu
  rw [hc i (by omega), ← hu, List.getElem?_map, List.getElem?_take_of_lt hi, List.getElem?_eq_getElem (by omega), List.getD_eq_getElem?_getD, List.getElem?_eq_getElem (by omega)]
  rfl
theorem owns_empty_t {W : World} {base g : Nat} (hg : W.heap[g]? = some (.cells #[] 9 (0, 0))) (hb : base ≤ g) : W.ownsRow base 9 1 (.slice (some ⟨g, 0, none⟩) 0 0) 0 (([] : List (List UInt8)).map sv) :=
  ⟨by simp, .inr ⟨g, 0, #[], rfl, hb, hg, Nat.le_refl _, by decide, rfl, by simp⟩⟩
theorem src_one {W : World} {g : Nat} {d : List UInt8} (hg : W.heap[g]? = some (.cells #[sv d] 9 (0, 0))) : SrcOK W (some ⟨g, 0, none⟩) [d] := fun _ => ⟨_, rfl, World.news_of_block (cs := #[sv d]) hg⟩

theorem cut_to (g off n c j : Nat) (hj : j ≤ n) (hn : n ≤ c) (w : World) : (Instr.slice 26 (.slice (some ⟨g, off, none⟩) n c) none (some (.int .i64 (j : Int))) none).run Tryz.prog w = .ok (.slice (some ⟨g, off, none⟩) j c) w := by
  have h1 : (j : Int) ≤ (c : Int) := by omega
  by_cases h2 : c = 0
  · obtain rfl : j = 0 := by omega
    subst h2
    go_simp
  · go_simp
theorem cut_from0 (g n c j : Nat) (hj : j ≤ n) (hn : n ≤ c) (h2 : c - j = 0) (w : World) : (Instr.slice 26 (.slice (some ⟨g, 0, none⟩) n c) (some (.int .i64 (j : Int))) none none).run Tryz.prog w = .ok (.slice (some ⟨g, 0, none⟩) (n - j) (c - j)) w := by
  have h1 : (j : Int) ≤ (n : Int) := by omega
  have h3 : (n : Int) ≤ (c : Int) := by omega
  go_simp
  omega
theorem cut_from1 (g n c j : Nat) (hj : j ≤ n) (hn : n ≤ c) (h2 : ¬ c - j = 0) (w : World) : (Instr.slice 26 (.slice (some ⟨g, 0, none⟩) n c) (some (.int .i64 (j : Int))) none none).run Tryz.prog w = .ok (.slice (some ⟨g, 0 + j, none⟩) (n - j) (c - j)) w := by
  have h1 : (j : Int) ≤ (n : Int) := by omega
  have h3 : (n : Int) ≤ (c : Int) := by omega
  go_simp
  omega
theorem GT.drew {w0 W : World} {v : Value} {xs : List (List UInt8)} (h : GT w0 v xs W) : GT w0 v xs W.drew := GV.drew h
theorem GT.alloc {w0 W : World} {v : Value} {xs : List (List UInt8)} (h : GT w0 v xs W) (o : Obj) : GT w0 v xs (W.alloc o) := GV.alloc h o
theorem GT.blk {w0 W : World} {A : Option Addr} {n c : Nat} {xs : List (List UInt8)} (h : GT w0 (.slice A n c) xs W) : ∀ ad, A = some ad → ad.block < W.heap.size := by
  intro ad e
  subst e
  rcases h.2.2 with ⟨e, _⟩ | ⟨g, cap, cur, e, _, hg, _⟩
  · cases e
  · simp only [Value.slice.injEq, Option.some.injEq] at e
    rw [e.1]
    exact lt_of_blk hg
theorem gt_put {w0 W : World} {B L g cap : Nat} {xs ys : List (List UInt8)} (hb : Below w0.heap.size w0 W) (h : W.ownsRow B 9 1 (.slice (some ⟨g, 0, none⟩) L cap) L (xs.map sv)) (hB : w0.heap.size ≤ B) (e : ys = xs) (hL : L = xs.length) : GT w0 (.slice (some ⟨g, 0, none⟩) L cap) ys W := by
  subst e
  refine ⟨hb, ?_⟩
  rw [List.length_map, ← hL]
  exact owns_lower h hB
theorem slices_are {w0 W0 : World} {A : Option Addr} {c : Nat} {sn : List (List UInt8)} (h : GT w0 (.slice A sn.length c) sn W0) (j : Nat) (hj : j ≤ sn.length) :
    ∃ A1 c1 A3 c3, (∀ W, (Instr.slice 26 (.slice A sn.length c) none (some (.int .i64 (j : Int))) none).run Tryz.prog W = .ok (.slice A1 j c1) W) ∧
      (∀ W, (Instr.slice 26 (.slice A sn.length c) (some (.int .i64 (j : Int))) none none).run Tryz.prog W = .ok (.slice A3 (sn.length - j) c3) W) ∧
      ∀ W, GT w0 (.slice A sn.length c) sn W → SrcOK W A1 (sn.take j) ∧ SrcOK W A3 (sn.drop j) := by
  rcases h.2.2 with ⟨e, h0⟩ | ⟨g, cap, cur, e, _, hg, hnc, _⟩
  · rw [List.length_map] at h0
    simp only [Value.slice.injEq] at e
    obtain ⟨rfl, _, rfl⟩ := e
    obtain rfl : sn = [] := List.length_eq_zero_iff.1 h0
    obtain rfl : j = 0 := by simpa using hj
    refine ⟨none, 0, none, 0, fun W => by go_simp, fun W => by go_simp, fun W _ => ⟨fun hp => absurd hp (by simp), fun hp => absurd hp (by simp)⟩⟩
  · rw [List.length_map] at e hnc
    simp only [Value.slice.injEq, true_and] at e
    obtain ⟨rfl, rfl⟩ := e
    obtain ⟨o, ho, hr⟩ := (show ∃ o, (j < sn.length → o = 0 + j) ∧ ∀ w, (Instr.slice 26 (.slice (some ⟨g, 0, none⟩) sn.length c) (some (.int .i64 (j : Int))) none none).run Tryz.prog w = .ok (.slice (some ⟨g, o, none⟩) (sn.length - j) (c - j)) w from by
      by_cases h2 : c - j = 0
      · refine ⟨0, fun h => by omega, fun w => cut_from0 g sn.length c j hj hnc h2 w⟩
      · refine ⟨0 + j, fun _ => rfl, fun w => cut_from1 g sn.length c j hj hnc h2 w⟩)
    refine ⟨some ⟨g, 0, none⟩, c, some ⟨g, o, none⟩, c - j, fun W => cut_to g 0 sn.length c j hj hnc W, hr, fun W hW => ⟨hW.src j hj, fun hp => ?_⟩⟩
    rw [List.length_drop] at hp
    obtain ⟨g', e, _, _, hc, _⟩ := hW.cell (by omega)
    simp only [Option.some.injEq, Addr.mk.injEq, and_true] at e
    subst e
    refine ⟨_, rfl, fun i u hu => ?_⟩
    have hi : i < sn.length - j := by
      rcases Nat.lt_or_ge i (sn.length - j) with h1 | h1
      · exact h1
      · rw [List.getElem?_eq_none (by rw [List.length_map, List.length_drop]; omega)] at hu; cases hu
    have hadd : (⟨g, o, none⟩ : Addr).add i = ⟨g, o + i, none⟩ := by unfold Addr.add; split <;> simp_all
    rw [hadd, ho (by omega), Nat.zero_add, hc (j + i) (by omega), ← hu, List.getElem?_map, List.getElem?_drop, List.getElem?_eq_getElem (by omega), List.getD_eq_getElem?_getD, List.getElem?_eq_getElem (by omega)]
    rfl

set_option maxHeartbeats 4000000 in
theorem rdomains_any (f en tx : List UInt8) (q : Bool) (rs : List RC) (A : Option Addr) (c : Nat) (w : World) (hv : RcIs w (.slice A rs.length c) rs) (hl : rs.length ≤ 100000) (hx : ∀ r ∈ rs, r.1.length ≤ 1000000) (hM : ML w) :
    Calls Tryz.prog 12 #[mailV f (.slice A rs.length c) q en tx] w (CompPost w (uniqS (domL (tosL rs)))) := by
  have HV := Lib.hid hv
  have HX := Lib.hid hx
  have HXL := Lib.hid (show (tosL rs).length = rs.length from List.length_map _)
  clear hM hx hv
  go_enter Tryz.func12, Tryz.ntmps12
  go_wp2_with fail
  obtain ⟨wb, hwb⟩ : ∃ wb, wb = w.alloc (.cells (mailCells f (.slice A rs.length c) q en tx) 24) := ⟨_, rfl⟩
  have HW := Lib.hid (show Below w.heap.size w wb by rw [hwb]; exact (Below.refl _ _).alloc (Nat.le_refl _) _)
  have HBX := Lib.hid (show ∀ W, Below wb.heap.size wb W → W.cell? ⟨w.heap.size, 1, none⟩ = some (.slice A rs.length c) from fun W h => by
    refine (h.cell (p := ⟨w.heap.size, 1, none⟩) (by rw [hwb]; simp)).trans ?_
    rw [hwb, cellAt (heap_alloc_new _ _)]; rfl)
  change Code.wp _ _ _ _ (w.alloc (.cells (mailCells f (.slice A rs.length c) q en tx) 24))
  rw [← hwb]
  clear hwb
  go_loopw [3, 4] (fun v i wr => ∃ k : Nat, k ≤ rs.length ∧ i = .int .i64 k ∧ GT wb v (putL (tosL rs) k) wr) (fun _ i _ => rs.length - (intOf i).toNat)
  case atStart => exact ⟨0, Nat.zero_le _, rfl, GT.nil wb⟩
  case round =>
    obtain ⟨k, hk, rfl, hg⟩ := hrel
    have HG := Lib.hid hg
    obtain ⟨A2, c2, rfl⟩ := hg.form
    obtain ⟨sn, hsn⟩ : ∃ sn, sn = putL (tosL rs) k := ⟨_, rfl⟩
    rw [← hsn] at HG ⊢
    have hsl : sn.length ≤ 100000 := by rw [hsn]; have := putL_len (tosL rs) k; omega
    have HSN := Lib.hid hsn
    have c1 := HBX.out _ HG.out.below
    clear hg hsn
    by_cases hlt : k < rs.length
    · obtain ⟨A', c', e, h⟩ := HV.out.step (HW.out.trans (HG.out.below.mono HW.out.size))
      simp only [Value.slice.injEq, true_and] at e
      obtain ⟨rfl, rfl⟩ := e
      obtain ⟨g, off, rfl, hgl, hc⟩ := h (by omega)
      obtain ⟨q1, q2⟩ := hc k hlt
      obtain ⟨x, hx⟩ : ∃ x, x = (rs.getD k rc0).1 := ⟨_, rfl⟩
      rw [← hx] at q1
      have HTX := Lib.hid (show (tosL rs).getD k [] = x by rw [tos_getD hlt, hx])
      have hxl : x.length ≤ 1000000 := by
        rw [hx]; refine HX.out _ ?_
        rw [List.getD_eq_getElem?_getD, List.getElem?_eq_getElem hlt]
        exact List.getElem_mem hlt
      clear h hc hx q2
      go_wp2_with fail
      clear q1 c1
      cases hp : parseL x with
      | none =>
        have HC := Lib.hid (show putL (tosL rs) (k + 1) = sn by rw [HSN.out]; exact putL_none (by rw [HXL.out]; exact hlt) (by rw [HTX.out]; exact hp))
        have HP := Lib.hid hp
        clear hp
        refine (rparse_any x _ hxl).mono ?_
        rintro e w2 ⟨rfl, hb⟩
        rw [HP.out]
        have HG2 := Lib.hid (show GT wb (.slice A2 sn.length c2) (putL (tosL rs) (k + 1)) w2 by rw [HC.out]; exact HG.out.behind hb)
        clear hb
        unfold parseV
        go_wp2_with fail
        go_roundw
        case rel => exact ⟨k + 1, by omega, by go_num, HG2.out⟩
        case measure => simp [intOf]; omega
      | some p =>
        obtain ⟨a, d⟩ := p
        have HC := Lib.hid (show putL (tosL rs) (k + 1) = putS sn d by rw [HSN.out]; exact putL_some (by rw [HXL.out]; exact hlt) (by rw [HTX.out]; exact hp))
        have HP := Lib.hid hp
        clear hp
        refine (rparse_any x _ hxl).mono ?_
        rintro e w2 ⟨rfl, hb⟩
        rw [HP.out]
        have HG2 := Lib.hid (HG.out.behind hb)
        clear hb
        unfold parseV
        go_wp2_with fail
        go_loop [8] (fun u => ∃ j : Nat, j ≤ sn.length ∧ u = .int .i64 j ∧ ∀ i, i < j → sn.getD i [] < d) (fun u => sn.length - (intOf u).toNat)
        case atStart => exact ⟨0, Nat.zero_le _, rfl, fun i hi => absurd hi (by omega)⟩
        case round =>
          obtain ⟨j, hj, rfl, ha⟩ := hrel
          have HA := Lib.hid ha
          clear ha
          by_cases hjl : j < sn.length
          · obtain ⟨g2, rfl, _, _, hcc, _⟩ := HG2.out.cell (by omega)
            have cj := hcc j hjl
            obtain ⟨y, hy⟩ : ∃ y, y = sn.getD j [] := ⟨_, rfl⟩
            rw [← hy] at cj
            have HY := Lib.hid hy
            clear hy hcc
            by_cases hyd : y < d
            · have hbl : Op.bytesLess y d = true := by rw [bytesLess_eq]; exact decide_eq_true hyd
              have HA2 := Lib.hid (show ∀ i, i < j + 1 → sn.getD i [] < d from fun i hi => by
                by_cases e : i = j
                · rw [e, ← HY.out]; exact hyd
                · exact HA.out i (by omega))
              clear hyd
              go_wp2_with fail
              go_round
              case rel => exact ⟨j + 1, by omega, by go_num, HA2.out⟩
              case measure => simp [intOf]; omega
            · have hbl : Op.bytesLess y d = false := by rw [bytesLess_eq]; exact decide_eq_false hyd
              have HPL := Lib.hid (show placeS sn d = j from put_at hj HA.out (fun _ => by rw [← HY.out]; exact hyd))
              clear hyd
              by_cases hye : y = d
              · have HS := Lib.hid (show putL (tosL rs) (k + 1) = sn by rw [HC.out]; exact put_same HPL.out hjl (by rw [← HY.out]; exact hye))
                subst hye
                go_wp2_with fail
                go_roundw
                case rel => exact ⟨k + 1, by omega, by go_num, by rw [HS.out]; exact HG2.out⟩
                case measure => simp [intOf]; omega
              · have HS := Lib.hid (show putL (tosL rs) (k + 1) = sn.take j ++ d :: sn.drop j by rw [HC.out]; exact put_new HPL.out (fun _ => by rw [← HY.out]; exact hye))
                have hye2 : (y == d) = false := by rw [beq_eq_false_iff_ne]; exact hye
                clear hye
                go_wp2_with fail
                obtain ⟨A1, c5, A3, c6, hr1, hr2, hsrc⟩ := slices_are HG2.out j (by omega)
                have HSRC := Lib.hid hsrc
                have HNE := Lib.hid HG2.out.blk
                have HBS := Lib.hid HG2.out.below.size
                have g0 := HG2.out
                clear hsrc
                go_region_held3 (fun W => GT wb (.slice (some ⟨g2, 0, none⟩) sn.length c2) sn W)
                  (first | assumption | ((repeat first | exact hGC | exact hGB | exact hGA | exact HG2.out | apply GT.drew | apply GT.alloc); done))
                  (first
                    | (refine put_step (by rfl) _ _ (by rfl) (by rfl) (B := w2.heap.size) (n := 0) (cap := 0) (xs := []) (ys := sn.take j) (by rfl) (by rfl) (owns_empty_t (by (simp only [heap_drew, heap_at_alloc, World.size_alloc, World.size_drew]; simp)) (by (first | omega | (simp only [World.size_alloc, World.size_drew]; omega)))) (by rw [List.length_take]; omega) (HSRC.out _ (by (repeat first | exact hGC | exact hGB | exact hGA | exact HG2.out | apply GT.drew | apply GT.alloc))).1 (by (first | omega | (simp only [World.size_alloc, World.size_drew]; omega))) (by omega) j (by omega) ?_
                       intro g1 cap1 wA hownA hgrowA
                       have hGA := GT.other (by (repeat first | exact hGC | exact hGB | exact hGA | exact HG2.out | apply GT.drew | apply GT.alloc)) hgrowA (by have h := HBS.out; (first | omega | (simp only [World.size_alloc, World.size_drew]; omega))) (by intro ad e; have h := HNE.out ad e; (first | omega | (simp only [World.size_alloc, World.size_drew]; omega))))
                    | (refine put_step (by rfl) _ _ (by rfl) (by rfl) (B := w2.heap.size) (g := g1) (n := j) (cap := cap1) (ys := [d]) (by rfl) (by rfl) (by first | exact hownA | exact hownA.drew | exact (hownA.alloc _).drew | exact hownA.alloc _ | exact (hownA.drew.alloc _).drew) (by rfl) (src_one (by first | (simp only [heap_drew, heap_at_alloc, World.size_alloc, World.size_drew]; simp) | (rw [heap_drew]; exact grow_block hgrowA (by (simp only [heap_drew, heap_at_alloc, World.size_alloc, World.size_drew]; simp)) (by simp)) | exact grow_block hgrowA (by (simp only [heap_drew, heap_at_alloc, World.size_alloc, World.size_drew]; simp)) (by simp))) (by first | (first | omega | (simp only [World.size_alloc, World.size_drew]; omega)) | (have := hgrowA.size; simp only [World.size_alloc, World.size_drew] at this ⊢; omega)) (by omega) (j + 1) (by omega) ?_
                       intro g3 cap3 wB hownB hgrowB
                       have hGB := GT.other (by (repeat first | exact hGC | exact hGB | exact hGA | exact HG2.out | apply GT.drew | apply GT.alloc)) hgrowB (by have h := HBS.out; have h1 := (hownA.lt g1 rfl).1; omega) (by intro ad e; have h := HNE.out ad e; have h1 := (hownA.lt g1 rfl).1; omega))
                    | (refine put_step (by rfl) _ _ (by rfl) (by rfl) (B := w2.heap.size) (g := g3) (n := j + 1) (cap := cap3) (ys := sn.drop j) (by rfl) (by rfl) (by first | exact hownB | exact hownB.drew) (by simp) (HSRC.out _ (by (repeat first | exact hGC | exact hGB | exact hGA | exact HG2.out | apply GT.drew | apply GT.alloc))).2 (by have h1 := (hownB.lt g3 rfl); have h2 := hGB.1.size; first | omega | exact Nat.le_trans (Nat.le_of_lt (Nat.lt_of_le_of_lt h1.1 h1.2)) (by simp)) (by omega) (sn.length + 1) (by omega) ?_
                       intro g4 cap4 wC hownC hgrowC
                       have hGC := GT.other (by (repeat first | exact hGC | exact hGB | exact hGA | exact HG2.out | apply GT.drew | apply GT.alloc)) hgrowC (by have h := HBS.out; have h1 := (hownB.lt g3 rfl).1; omega) (by intro ad e; have h := HNE.out ad e; have h1 := (hownB.lt g3 rfl).1; omega)
                       have HFN := Lib.hid (gt_put (ys := putL (tosL rs) (k + 1)) hGC.1 hownC HBS.out (by rw [HS.out]; simp) (by first | (simp; done) | (simp; omega)))))
                all_goals (try go_wp2_with fail)
                all_goals go_roundw
                all_goals first | (exact ⟨k + 1, by omega, by go_num, HFN.out⟩) | (exact ⟨k + 1, by omega, by go_num, HFN.out.drew⟩) | (simp [intOf]; done) | (simp [intOf]; omega)
          · obtain rfl : j = sn.length := by omega
            have HPL := Lib.hid (show placeS sn d = sn.length from put_at hj HA.out (fun h => absurd h (by omega)))
            have HS := Lib.hid (show putL (tosL rs) (k + 1) = sn ++ [d] by rw [HC.out, put_new HPL.out (fun h => absurd h (by omega))]; simp)
            clear hjl
            go_wp2_with fail
            obtain ⟨A1, c5, A3, c6, hr1, hr2, hsrc⟩ := slices_are HG2.out sn.length (by omega)
            have HSRC := Lib.hid hsrc
            have HNE := Lib.hid HG2.out.blk
            have HBS := Lib.hid HG2.out.below.size
            have g0 := HG2.out
            clear hsrc
            go_region_held3 (fun W => GT wb (.slice A2 sn.length c2) sn W)
              (first | assumption | ((repeat first | exact hGC | exact hGB | exact hGA | exact HG2.out | apply GT.drew | apply GT.alloc); done))
              (first
                | (refine put_step (by rfl) _ _ (by rfl) (by rfl) (B := w2.heap.size) (n := 0) (cap := 0) (xs := []) (ys := sn.take sn.length) (by rfl) (by rfl) (owns_empty_t (by (simp only [heap_drew, heap_at_alloc, World.size_alloc, World.size_drew]; simp)) (by (first | omega | (simp only [World.size_alloc, World.size_drew]; omega)))) (by rw [List.length_take]; omega) (HSRC.out _ (by (repeat first | exact hGC | exact hGB | exact hGA | exact HG2.out | apply GT.drew | apply GT.alloc))).1 (by (first | omega | (simp only [World.size_alloc, World.size_drew]; omega))) (by omega) sn.length (by omega) ?_
                   intro g1 cap1 wA hownA hgrowA
                   have hGA := GT.other (by (repeat first | exact hGC | exact hGB | exact hGA | exact HG2.out | apply GT.drew | apply GT.alloc)) hgrowA (by have h := HBS.out; (first | omega | (simp only [World.size_alloc, World.size_drew]; omega))) (by intro ad e; have h := HNE.out ad e; (first | omega | (simp only [World.size_alloc, World.size_drew]; omega))))
                | (refine put_step (by rfl) _ _ (by rfl) (by rfl) (B := w2.heap.size) (g := g1) (n := sn.length) (cap := cap1) (ys := [d]) (by rfl) (by rfl) (by first | exact hownA | exact hownA.drew | exact (hownA.alloc _).drew | exact hownA.alloc _ | exact (hownA.drew.alloc _).drew) (by rfl) (src_one (by first | (simp only [heap_drew, heap_at_alloc, World.size_alloc, World.size_drew]; simp) | (rw [heap_drew]; exact grow_block hgrowA (by (simp only [heap_drew, heap_at_alloc, World.size_alloc, World.size_drew]; simp)) (by simp)) | exact grow_block hgrowA (by (simp only [heap_drew, heap_at_alloc, World.size_alloc, World.size_drew]; simp)) (by simp))) (by first | (first | omega | (simp only [World.size_alloc, World.size_drew]; omega)) | (have := hgrowA.size; simp only [World.size_alloc, World.size_drew] at this ⊢; omega)) (by omega) (sn.length + 1) (by omega) ?_
                   intro g3 cap3 wB hownB hgrowB
                   have hGB := GT.other (by (repeat first | exact hGC | exact hGB | exact hGA | exact HG2.out | apply GT.drew | apply GT.alloc)) hgrowB (by have h := HBS.out; have h1 := (hownA.lt g1 rfl).1; omega) (by intro ad e; have h := HNE.out ad e; have h1 := (hownA.lt g1 rfl).1; omega))
                | (refine put_step (by rfl) _ _ (by rfl) (by rfl) (B := w2.heap.size) (g := g3) (n := sn.length + 1) (cap := cap3) (ys := sn.drop sn.length) (by rfl) (by rfl) (by first | exact hownB | exact hownB.drew) (by simp) (HSRC.out _ (by (repeat first | exact hGC | exact hGB | exact hGA | exact HG2.out | apply GT.drew | apply GT.alloc))).2 (by have h1 := (hownB.lt g3 rfl); have h2 := hGB.1.size; first | omega | exact Nat.le_trans (Nat.le_of_lt (Nat.lt_of_le_of_lt h1.1 h1.2)) (by simp)) (by omega) (sn.length + 1) (by omega) ?_
                   intro g4 cap4 wC hownC hgrowC
                   have hGC := GT.other (by (repeat first | exact hGC | exact hGB | exact hGA | exact HG2.out | apply GT.drew | apply GT.alloc)) hgrowC (by have h := HBS.out; have h1 := (hownB.lt g3 rfl).1; omega) (by intro ad e; have h := HNE.out ad e; have h1 := (hownB.lt g3 rfl).1; omega)
                   have HFN := Lib.hid (gt_put (ys := putL (tosL rs) (k + 1)) hGC.1 hownC HBS.out (by rw [HS.out]; simp) (by first | (simp; done) | (simp; omega)))))
            all_goals (try go_wp2_with fail)
            all_goals go_roundw
            all_goals first | (exact ⟨k + 1, by omega, by go_num, HFN.out⟩) | (exact ⟨k + 1, by omega, by go_num, HFN.out.drew⟩) | (simp [intOf]; done) | (simp [intOf]; omega)
    · obtain rfl : k = rs.length := by omega
      have HU := Lib.hid (show GT w (.slice A2 sn.length c2) (uniqS (domL (tosL rs))) wr by
        have h : sn = uniqS (domL (tosL rs)) := by rw [HSN.out, ← HXL.out]; exact putL_all _
        rw [← h]; exact HG.out.first HW.out)
      go_wp2_with fail
      go_ret
      exact ⟨_, rfl, HU.out⟩
end Go.Proofs.YtbmjmiioobgbfaaGreatDoor
