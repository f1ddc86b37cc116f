/-
  The contract of package name's May.
-/
import Derived.Outline
import Derived.Test.YtamlblfhjpajhaaDoorNIter
import Derived.Test.YtamlblfhjpajhaaDoorNLab
namespace Go.Proofs.YtamlblfhjpajhaaDoor
set_option linter.unusedSimpArgs false
set_option linter.unusedVariables false
open Go Go.RowKit Go.Shelf
set_option maxRecDepth 100000
attribute [local go_sem] Oper.semAt_some

/-- A body that ends, or returns, and never panics. -/
def calmly (Q : Exit → Act → World → Prop) : Exit → Act → World → Prop
  | .normal, a, w => Q .normal a w
  | .ret, a, w => Q .ret a w
  | _, _, _ => False

theorem wpIn_calmly {F : Fence} {n : Nat} {P : Program} {c : Code} {Q : Exit → Act → World → Prop} {a : Act} {w : World} (h : c.wpIn F n P (calmly Q) a w) : c.wpIn F n P Q a w :=
  wpIn_mono h fun e _ _ hq => match e, hq with
    | .normal, h => h
    | .ret, h => h
    | .panic _, h => h.elim
    | .outgrown, h => h.elim
    | .exit _, h => h.elim
    | .goto _, h => h.elim

theorem not_may_long' (s : List UInt8) (w : World) (hs : s.length ≤ 1000000) (h : 253 < s.length) : Calls Tryd.prog 43 #[.string (str s)] w fun e w' => e = .returned (.bool (mayL s)) ∧ Below w.heap.size w w' := by
  have HF := Lib.hid (not_may_long h)
  go_enter Tryd.func43, Tryd.ntmps43
  go_wp2
  exact bodyPost_ret (v := .bool false) (by simp [results, Tryd.results43, go_sem]) rfl ⟨by rw [HF.out], (Below.refl _ _).alloc (Nat.le_refl _) _⟩

/-! ### What Trim leaves -/
def digsL : List UInt8 := [48, 49, 50, 51, 52, 53, 54, 55, 56, 57]
theorem digs_contains (c : UInt8) : digsL.contains c = digC c := by
  have key : ∀ n : Fin 256, digsL.contains (UInt8.ofNat n) = digC (UInt8.ofNat n) := by decide +kernel
  have := key ⟨c.toNat, c.toNat_lt⟩
  simpa using this

theorem dropWhile_nil {p : UInt8 → Bool} {l : List UInt8} (h : ∀ c ∈ l, p c = true) : l.dropWhile p = [] := by
  induction l with
  | nil => rfl
  | cons x t ih => rw [List.dropWhile_cons, h x (by simp)]; simpa using ih fun c hc => h c (by simp [hc])

theorem trim_nil {l : List UInt8} (h : l.all digC = true) : Lib.trimS l digsL = [] := by
  have : l.reverse.dropWhile (digsL.contains ·) = [] := by
    refine dropWhile_nil fun c hc => ?_
    rw [digs_contains]
    exact List.all_eq_true.1 h c (by simpa using hc)
  unfold Lib.trimS Lib.trimRightS Lib.trimLeftS
  rw [this]; rfl

theorem mem_dropWhile {p : UInt8 → Bool} {l : List UInt8} {c : UInt8} (h : c ∈ l) (hp : p c = false) : c ∈ l.dropWhile p := by
  induction l with
  | nil => cases h
  | cons x t ih =>
    rw [List.dropWhile_cons]
    cases hx : p x with
    | true =>
      rcases List.mem_cons.1 h with rfl | h
      · rw [hx] at hp; cases hp
      · simpa using ih h
    | false => simpa using h

theorem trim_some {l : List UInt8} (h : l.all digC = false) : Lib.trimS l digsL ≠ [] := by
  obtain ⟨c, hc, hd⟩ := List.all_eq_false.1 h
  have hd' : digsL.contains c = false := by rw [digs_contains]; simpa using hd
  have h1 : c ∈ Lib.trimS l digsL := by
    unfold Lib.trimS Lib.trimRightS Lib.trimLeftS
    exact mem_dropWhile (p := (digsL.contains ·)) (by simpa using mem_dropWhile (p := (digsL.contains ·)) (l := l.reverse) (by simpa using hc) hd') hd'
  intro e
  rw [e] at h1
  cases h1

theorem Tryd.info256 : (Tryd.prog.info? 110).map (fun i => (i.zero, i.size)) = some (some (.agg (Array.replicate 256 (.bool false))), 256) := by kernel_rfl
theorem trim_call (l : List UInt8) (w : World) (hl : l.length ≤ 1000000) {r : List UInt8} (h : Lib.trimS l digsL = r) :
    Calls Tryd.prog 56 #[.string (str l), .string { data := #[48, 49, 50, 51, 52, 53, 54, 55, 56, 57] }] w fun e w' => e = .returned (sv r) ∧ Below w.heap.size w w' := by
  have := Any.strings_Trim_laid Tryd.lays160 Tryd.info256 (str l) { data := #[48, 49, 50, 51, 52, 53, 54, 55, 56, 57] } w (by simp [ByteArray.size]; omega) (by decide) (ascii_of_all (by decide))
  have e1 : (str l).data.toList = l := by simp
  have e2 : (⟨#[48, 49, 50, 51, 52, 53, 54, 55, 56, 57]⟩ : ByteArray).data.toList = digsL := rfl
  rw [e1, e2, h] at this
  exact this

/-! ### The worlds of the walk -/
/-- Between two rounds. -/
def MayI (w : World) (pre : List Part) (W : World) : Prop :=
  (Boxed W w.heap.size 4 (.bool false) ∧ Boxed W (w.heap.size + 1) 9 (sv ((vals pre).getLastD [])) ∧ ∀ x ∈ vals pre, isLab x = true) ∧ Below w.heap.size w W
/-- A round has left. -/
def MayX (w : World) (c : Code) (pre : List Part) (W : World) : Prop :=
  (c = .ret ∧ Boxed W w.heap.size 4 (.bool false) ∧ ∃ x ∈ vals pre, isLab x = false) ∧ Below w.heap.size w W

theorem mayI_from {w : World} {B : Nat} (hB : w.heap.size + 2 ≤ B) : OwnFrom B (MayI w) := by
  rintro pre W W' row ⟨⟨h1, h2, h3⟩, hb⟩ hg hr
  have ne : ∀ k, k < B → some k ≠ row := fun k hk e => by have := (hr k e.symm).1; omega
  exact ⟨⟨h1.kept hg (ne _ (by omega)), h2.kept hg (ne _ (by omega)), h3⟩, hb.grown hg hb.size fun k e => by have := (hr k e).1; omega⟩
theorem mayX_from {w : World} {B : Nat} (hB : w.heap.size + 2 ≤ B) (c : Code) : OwnFrom B (MayX w c) := by
  rintro pre W W' row ⟨⟨h1, h2, h3⟩, hb⟩ hg hr
  have ne : ∀ k, k < B → some k ≠ row := fun k hk e => by have := (hr k e.symm).1; omega
  exact ⟨⟨h1, h2.kept hg (ne _ (by omega)), h3⟩, hb.grown hg hb.size fun k e => by have := (hr k e).1; omega⟩

theorem grownBelow {W W' : World} (h : Below W.heap.size W W') (row : Option Nat) : W.grownBy W' row := ⟨h.os, h.tape, h.output, h.size, fun k hk _ => h.block k hk⟩

theorem result_world {w W w1 : World} {D : Nat} {t : TypeId} {u : Value} (hB : Below w.heap.size w W) (hD : w.heap.size < D) (hDW : W.heap[D]? = some (.deferred (some []))) (b0 : Boxed W w.heap.size t u) (hb1 : Below W.heap.size W w1) (v : Value) :
    (w1.setCell ⟨w.heap.size, 0, none⟩ v).heap[D]? = some (.deferred (some [])) ∧
    ((w1.setCell ⟨w.heap.size, 0, none⟩ v).putObj D (.deferred none)).cell? ⟨w.heap.size, 0, none⟩ = some v ∧
    Below w.heap.size w ((w1.setCell ⟨w.heap.size, 0, none⟩ v).putObj D (.deferred none)) := by
  have hlt := (Array.getElem?_eq_some_iff.1 hDW).1
  have b1 : Boxed w1 w.heap.size t u := b0.kept (grownBelow hb1 none) (by simp)
  have hX : (w1.setCell ⟨w.heap.size, 0, none⟩ v).heap[D]? = some (.deferred (some [])) := by
    rw [heap_setCell_other _ _ _ _ (by show D ≠ w.heap.size; omega), hb1.block D hlt, hDW]
  refine ⟨hX, ?_, ?_⟩
  · exact ((b1.set v).kept (grownBy_putObj' _ D _) (by simp; omega)).cell
  · have h1 : Below w.heap.size w w1 := hB.trans (hb1.mono hB.size)
    have h2 := h1.setCell (p := ⟨w.heap.size, 0, none⟩) (Nat.le_refl _) v
    exact h2.trans (belowK_b (w := w) (Nat.le_refl _) _ D _ _ (by omega) hX rfl rfl)

set_option maxHeartbeats 2000000 in
theorem may_short (s : List UInt8) (w : World) (hs : s.length ≤ 253) (hM : ML w) : Calls Tryd.prog 43 #[.string (str s)] w fun e w' => e = .returned (.bool (mayL s)) ∧ Below w.heap.size w w' := by
  have HM := Lib.hid hM
  have H0 := Lib.hid hM.lt
  clear hM
  have e253 : decide (253 < (s.length : Int)) = false := decide_eq_false (by omega)
  refine (callsIn_wide (n := 3)).1 ?_
  refine callsIn_of_wp_marks Tryd.func43 rfl trivial (wpIn_calmly ?_) rfl
  simp only [Tryd.ntmps43, List.size_toArray, List.length_cons, List.length_nil, Nat.reduceAdd, Nat.reduceSub, Array.replicate_succ, Array.replicate_zero, List.push_toArray, List.append_toArray, List.nil_append, List.cons_append]
  gi_wp2_with (refine ⟨trivial, ?_⟩; gi_at_call 54; refine (callsIn_wide.2 (labels_any _ _)).mono ?_; rintro e w' ⟨rfl, rfl⟩)
  obtain ⟨Wl, hWl⟩ : ∃ Wl, Wl = ((w.alloc (.cells #[.bool false] 4)).alloc (.cells #[.string { data := #[] }] 9)).alloc (.cells #[.string (str s)] 9) := ⟨_, rfl⟩
  rw [← hWl]
  have hsz : Wl.heap.size = w.heap.size + 3 := by rw [hWl]; simp
  have hbel : Below w.heap.size w Wl := by rw [hWl]; exact (((Below.refl _ w).alloc (Nat.le_refl _) _).alloc (by simp) _).alloc (by simp; omega) _
  have b0 : Boxed Wl w.heap.size 4 (.bool false) := by rw [hWl]; exact ((Boxed.new w _ _).alloc _).alloc _
  have b1 : Boxed Wl (w.heap.size + 1) 9 (sv []) := by rw [hWl]; have := Boxed.new (w.alloc (.cells #[.bool false] 4)) 9 (sv []); rw [World.size_alloc] at this; exact this.alloc _
  have b2 : Boxed Wl (w.heap.size + 1 + 1) 9 (sv s) := by rw [hWl]; have := Boxed.new ((w.alloc (.cells #[.bool false] 4)).alloc (.cells #[.string { data := #[] }] 9)) 9 (sv s); rw [World.size_alloc, World.size_alloc] at this; exact this
  refine wpIn_rangeFunc_ownF (α := Part) (w := Wl) rfl (by omega) (gf := 68) (lb := #[.pointer (some ⟨w.heap.size + 1 + 1, 0, none⟩)]) rfl trivial (enters_of Tryd.func68 (by kernel_rfl) rfl)
    (labels_stops (w.heap.size + 1 + 1) w.heap.size s (by omega) H0.out Wl (HM.out.step hbel) (by omega) b2.cell) belowK_t (belowK_b (by omega)) (Below.refl _ _) (fun _ => rfl)
    (MayI w) (MayX w) (mayI_from (by omega)) (mayX_from (by omega)) ⟨⟨b0, b1, by simp [vals]⟩, hbel⟩
    (fun x => { tmps := #[.string (str s), undef, .pointer (some ⟨w.heap.size, 0, none⟩), .pointer (some ⟨w.heap.size + 1, 0, none⟩), .string (str x.1), .string (str s), .int .i64 s.length, .bool false, .string (str s), .func (.func 68) #[] #[.pointer (some ⟨w.heap.size + 1 + 1, 0, none⟩)], .string (str x.1), undef, undef, undef, undef, undef, undef, undef], defers := [] }) ?assign ?body ?done ?stop
  case assign =>
    intro l x W K hK
    gi_wp2
    exact hK
  case body =>
    rintro l pre ⟨x, hx⟩ W ⟨⟨h1, h2, h3⟩, hb⟩ _
    have c0 := h1.cell
    have f0 := h1.frozen
    have c1 := h2.cell
    have f1 := h2.frozen
    have HA := Lib.hid h3
    have HB := Lib.hid hb
    have K1 := Lib.hid h1
    have K2 := Lib.hid h2
    have hxl : x.length ≤ 1000000 := by omega
    clear h1 h2 h3 hb
    cases hL : isLab x with
    | true =>
      have HL := Lib.hid hL
      clear hL
      gi_wp2_with (refine ⟨trivial, ?_⟩; gi_at_call 55; refine (CallsIn.inRound l (callsIn_wide.2 (isLabel_any _ _ hxl))).mono ?_; rintro e w' ⟨rfl, rfl⟩; rw [HL.out])
      refine ⟨KeepsOthers.setCell _ _ _, (Below.refl _ W).setCell (p := ⟨w.heap.size + 1, 0, none⟩) (Nat.le_succ _) _, ⟨K1.out.kept (grownBy_setCell' W _ _) (by simp), ?_, ?_⟩, HB.out.setCell (p := ⟨w.heap.size + 1, 0, none⟩) (Nat.le_succ _) _⟩
      · have e : (vals (pre ++ [⟨x, hx⟩])).getLastD [] = x := by rw [vals_snoc]; simp
        rw [e]
        exact K2.out.set _
      · intro y hy
        rw [vals_snoc] at hy
        rcases List.mem_append.1 hy with hy | hy
        · exact HA.out y hy
        · obtain rfl : y = x := by simpa using hy
          exact HL.out
    | false =>
      have HL := Lib.hid hL
      clear hL
      gi_wp2_with (refine ⟨trivial, ?_⟩; gi_at_call 55; refine (CallsIn.inRound l (callsIn_wide.2 (isLabel_any _ _ hxl))).mono ?_; rintro e w' ⟨rfl, rfl⟩; rw [HL.out])
      exact ⟨KeepsOthers.setCell _ _ _, ⟨rfl, K1.out.set _, x, by rw [vals_snoc]; simp, HL.out⟩, HB.out.setCell (p := ⟨w.heap.size, 0, none⟩) (Nat.le_refl _) _⟩
  case done =>
    rintro D xs W hD hxs ⟨⟨h1, h2, h3⟩, hb⟩ hK
    rw [hsz] at hD
    have hm : mayL s = !((cutD s).getLastD []).all digC := by
      have e1 : (cutD s).all isLab = true := by rw [← hxs, List.all_eq_true]; exact h3
      unfold mayL
      rw [e1, decide_eq_true hs, List.not_all_eq_any_not]
      rfl
    obtain ⟨z, hz⟩ : ∃ z, z = (cutD s).getLastD [] := ⟨_, rfl⟩
    have hzl : z.length ≤ 1000000 := by
      have hne := cutD_ne s
      have hmem : z ∈ cutD s := by
        rw [hz, List.getLastD_eq_getLast?, List.getLast?_eq_some_getLast hne]
        exact List.getLast_mem hne
      have := cutD_part _ s (Nat.le_refl _) hmem
      omega
    rw [hxs, ← hz] at h2
    rw [← hz] at hm
    have c0 := h1.cell
    have f0 := h1.frozen
    have c1 := h2.cell
    have f1 := h2.frozen
    have kk : ∀ w1, Below W.heap.size W w1 → w1.cell? ⟨w.heap.size, 0, none⟩ = some (.bool false) ∧ w1.frozen? ⟨w.heap.size, 0, none⟩ = false := fun w1 hb => by
      have g := grownBelow hb none
      exact ⟨(h1.kept g (by simp)).cell, (h1.kept g (by simp)).frozen⟩
    have KK := Lib.hid kk
    have HN := Lib.hid hm
    have HB := Lib.hid hb
    have K1 := Lib.hid h1
    have HK := Lib.hid hK
    clear kk hm hb h1 h2 h3 hK hz hxs b0 b1 b2 hbel hWl
    cases hd : z.all digC with
    | true =>
      have HT := Lib.hid (trim_nil hd)
      have HD := Lib.hid hd
      clear hd
      gi_wp2_with (refine ⟨trivial, ?_⟩; gi_at_call 56; refine (callsIn_wide.2 (trim_call _ _ hzl HT.out)).mono ?_; rintro e w1 ⟨rfl, hb1⟩; obtain ⟨d0, d1⟩ := KK.out w1 hb1; have HB1 := Lib.hid hb1; clear hb1)
      obtain ⟨hXD, hcell, hbel⟩ := result_world HB.out (by omega) HK.out K1.out HB1.out (.bool false)
      refine ⟨by simp, .inl ⟨_, _, rfl, run_takeDeferred hXD, ?_⟩⟩
      exact ⟨.bool false, by simp [results, Tryd.results43, go_sem, hcell], by rw [HN.out, HD.out]; rfl, hbel⟩
    | false =>
      obtain ⟨r, hr⟩ : ∃ r, Lib.trimS z digsL = r := ⟨_, rfl⟩
      have hrn : r ≠ [] := by rw [← hr]; exact trim_some hd
      have hre : r.isEmpty = false := by simpa using hrn
      have HT := Lib.hid hr
      have HD := Lib.hid hd
      have HRN := Lib.hid hrn
      clear hd hr hrn
      gi_wp2_with (refine ⟨trivial, ?_⟩; gi_at_call 56; refine (callsIn_wide.2 (trim_call _ _ hzl HT.out)).mono ?_; rintro e w1 ⟨rfl, hb1⟩; obtain ⟨d0, d1⟩ := KK.out w1 hb1; have HB1 := Lib.hid hb1; clear hb1)
      obtain ⟨hXD, hcell, hbel⟩ := result_world HB.out (by omega) HK.out K1.out HB1.out (.bool true)
      refine ⟨by simp, .inl ⟨_, _, rfl, run_takeDeferred hXD, ?_⟩⟩
      exact ⟨.bool true, by simp [results, Tryd.results43, go_sem, hcell], by rw [HN.out, HD.out]; rfl, hbel⟩
  case stop =>
    rintro D c pre W hD hp ⟨⟨rfl, h1, h2⟩, hb⟩ hK
    rw [hsz] at hD
    have HN := Lib.hid (show mayL s = false by
      obtain ⟨x, hx, hl⟩ := h2
      have : (cutD s).all isLab = false := List.all_eq_false.2 ⟨x, hp.subset hx, by rw [hl]; simp⟩
      unfold mayL
      rw [this]; simp)
    have hcell := ((h1.kept (grownBy_putObj' W D (.deferred none)) (by simp; omega)).cell)
    have hbel' := hb.trans (belowK_b (w := w) (Nat.le_refl _) W D _ (.deferred none) (by omega) hK rfl rfl)
    gi_wp2
    refine ⟨by simp, .inl ⟨_, _, rfl, run_takeDeferred hK, ?_⟩⟩
    exact ⟨.bool false, by simp [results, Tryd.results43, go_sem, hcell], by rw [HN.out], hbel'⟩

theorem may_any (s : List UInt8) (w : World) (hs : s.length ≤ 1000000) (hM : ML w) : Calls Tryd.prog 43 #[.string (str s)] w fun e w' => e = .returned (.bool (mayL s)) ∧ Below w.heap.size w w' := by
  by_cases h : 253 < s.length
  · exact not_may_long' s w hs h
  · exact may_short s w (by omega) hM
end Go.Proofs.YtamlblfhjpajhaaDoor
