/-
  The contract of good.
  The contract of Anchored.
-/
import Derived.Test.YtnaoandleelbkaaGreatDoorJLm
namespace Go.Proofs.YtnaoandleelbkaaGreatDoor
set_option linter.unusedSimpArgs false
set_option linter.unusedVariables false
open Go Go.RowKit Go.Shelf
set_option maxRecDepth 100000
attribute [local go_sem] Oper.semAt_some

theorem more_eq {l : List Ct} {now : Int} {m : Nat} (h : ∀ k, k < m → dateB (ctAt l (k + 1)) now = true ∧ linkB (ctAt l k) (ctAt l (k + 1)) = true) (hm : m = 0 ∨ m + 1 ≤ l.length)
    (he : l.length ≤ m + 1 ∨ dateB (ctAt l (m + 1)) now = false ∨ linkB (ctAt l m) (ctAt l (m + 1)) = false) : moreN now l = m := by
  have h1 : ¬ m < moreN now l := fun hc => by
    obtain ⟨a, b, c⟩ := (more_lt l m).1 hc
    rcases he with he | he | he
    · omega
    · rw [b m (by omega)] at he; cases he
    · rw [c m (by omega)] at he; cases he
  have h2 : m = 0 ∨ m - 1 < moreN now l := by
    rcases hm with hm | hm
    · exact .inl hm
    · by_cases h0 : m = 0
      · exact .inl h0
      · exact .inr ((more_lt l (m - 1)).2 ⟨by omega, fun k hk => (h k (by omega)).1, fun k hk => (h k (by omega)).2⟩)
  omega
/-- What good tells. -/
def GoodPost (w : World) (A : Option Addr) (n : Nat) (e : Ending) (w' : World) : Prop := ∃ A' c', e = .returned (.slice A' n c') ∧ (n = 0 ∨ A' = A) ∧ Below w.heap.size w w'

/-- Between two rounds. -/
def GdI (w : World) (n : Nat) (l : List Ct) (now : Int) (pre : List Nat) (W : World) : Prop :=
  Boxed W n 3 (.int .i64 (1 + (pre.length : Int))) ∧ Boxed W w.heap.size 3 (.int .i64 now) ∧ Below w.heap.size w W ∧ n + 2 ≤ W.heap.size ∧ ∀ k, k < pre.length → dateB (ctAt l (k + 1)) now = true ∧ linkB (ctAt l k) (ctAt l (k + 1)) = true
/-- A round has left. -/
def GdX (w : World) (n : Nat) (l : List Ct) (now : Int) (c : Code) (pre : List Nat) (W : World) : Prop :=
  (c = .exit 0 ∧ 1 + moreN now l = pre.length ∧ pre.length ≤ l.length) ∧ Boxed W n 3 (.int .i64 (pre.length : Int)) ∧ Below w.heap.size w W
theorem gdI_from {w : World} {n : Nat} {l : List Ct} {now : Int} {B : Nat} (hB : n + 2 ≤ B) (hw : w.heap.size < n) : OwnFrom B (GdI w n l now) := by
  rintro pre W W' row ⟨h1, h2, h3, h4, h5⟩ hg hr
  exact ⟨h1.kept hg (fun e => by have := (hr _ e.symm).1; omega), h2.kept hg (fun e => by have := (hr _ e.symm).1; omega), h3.grown hg h3.size fun k e => by have := (hr k e).1; omega, Nat.le_trans h4 hg.size, h5⟩
theorem gdX_from {w : World} {n : Nat} {l : List Ct} {now : Int} {B : Nat} (hB : n + 2 ≤ B) (hw : w.heap.size < n) (c : Code) : OwnFrom B (GdX w n l now c) := by
  rintro pre W W' row ⟨h1, h2, h3⟩ hg hr
  exact ⟨h1, h2.kept hg (fun e => by have := (hr _ e.symm).1; omega), h3.grown hg h3.size fun k e => by have := (hr k e).1; omega⟩
theorem gd_stop {w W : World} {n : Nat} {l : List Ct} {now : Int} {pre : List Nat} {x : Nat} (h1 : Boxed W n 3 (.int .i64 (1 + (pre.length : Int)))) (hb : Below w.heap.size w W) (hl : ∀ k, k < pre.length → dateB (ctAt l (k + 1)) now = true ∧ linkB (ctAt l k) (ctAt l (k + 1)) = true) (hp : pre.length = x) (hx : x + 1 < l.length)
    (he : dateB (ctAt l (x + 1)) now = false ∨ linkB (ctAt l x) (ctAt l (x + 1)) = false) : GdX w n l now (.exit 0) (pre ++ [x]) W := by
  subst hp
  have := more_eq (l := l) (now := now) (m := pre.length) hl (.inr (by omega)) (.inr he)
  refine ⟨⟨rfl, by rw [this]; simp; omega, by simp; omega⟩, ?_, hb⟩
  rw [List.length_append, show (((pre.length + [pre.length].length : Nat)) : Int) = 1 + (pre.length : Int) by simp; omega]
  exact h1
set_option maxHeartbeats 8000000 in
theorem good_any {w : World} (l : List Ct) (A : Option Addr) (cp : Nat) (nv : Nat → Value) (now : Int) (hr : CR w A l nv) (hs : shortR l) (hcp : l.length ≤ cp) (hw : GA w) :
    Calls Tryz.prog 85 #[.slice A l.length cp, .int .i64 now] w (GoodPost w A (goodN l now)) := by
  by_cases hp : 0 < l.length
  case neg =>
    obtain rfl : l = [] := List.length_eq_zero_iff.1 (by omega)
    have HG := Lib.hid (show goodN [] now = 0 from rfl)
    have hB := below_alloc w (.cells #[.int .i64 now] 3)
    have HB := Lib.hid hB
    clear hr hs hw hp hB
    rw [List.length_nil]
    go_enter Tryz.func85, Tryz.ntmps85
    go_wp2_with fail
    go_quiet (fail)
    go_wp2_with fail
    go_ret
    rw [HG.out]
    exact ⟨_, _, rfl, .inl rfl, by first | exact HB.out | exact below_drewNC HB.out _⟩
  case pos =>
    obtain ⟨g, off, rfl, hg, hc0, hsx⟩ := hr.at hp
    obtain ⟨a0, c0, e0⟩ := hsx.form
    rw [e0] at hc0
    have hp' : ¬ (l.length : Int) = 0 := by omega
    have hpe : ((l.length : Int) == 0) = false := by rw [beq_eq_false_iff_ne]; exact hp'
    cases hd : dateB (ctAt l 0) now with
    | false =>
      have HG := Lib.hid (show goodN l now = 0 by unfold goodN; rw [if_neg (by intro h; rw [h] at hp; simp at hp), hd]; rfl)
      have HB := Lib.hid (below_alloc w (.cells #[.int .i64 now] 3)).drew
      have HD0 := Lib.hid (fun W => @dates_any W (ctAt l 0) a0 (ctAt l 0).names.length c0 now)
      rw [hd] at HD0
      obtain ⟨p0, p1, p2, p3, p4, p5⟩ := hc0
      have hne : ¬ 1 ≤ (0:Nat) := by omega
      unfold certV at HD0
      rw [show off + 0 * 6 = off by omega] at p0 p1 p2 p3 p4 p5
      clear hr hs hw hd hsx e0
      go_enter Tryz.func85, Tryz.ntmps85
      go_wp2_with fail
      go_region_with (go_at_call 39; refine (HD0.out _).mono ?_; rintro e w1 ⟨rfl, hb1⟩)
      all_goals
        go_wp2_with fail
        go_ret
        rw [HG.out]
        exact ⟨_, _, rfl, .inl rfl, by first | exact HB.out.trans (hb1.mono HB.out.size)⟩
    | true =>
      have HD := Lib.hid hd
      have HD0 := Lib.hid (fun W => @dates_any W (ctAt l 0) a0 (ctAt l 0).names.length c0 now)
      rw [hd] at HD0
      obtain ⟨p0, p1, p2, p3, p4, p5⟩ := hc0
      unfold certV at HD0
      rw [show off + 0 * 6 = off by omega] at p0 p1 p2 p3 p4 p5
      have HR := Lib.hid hr
      have HS := Lib.hid hs
      have HW := Lib.hid hw
      clear hr hs hw hd hsx e0
      refine (callsIn_wide (n := 6)).1 ?_
      refine callsIn_of_wp_marks Tryz.func85 rfl trivial (wpIn_calmly ?_) rfl
      simp only [Tryz.ntmps85, List.size_toArray, List.length_cons, List.length_nil, Nat.reduceAdd, Nat.reduceSub, Array.replicate_succ, Array.replicate_zero, List.push_toArray, List.append_toArray, List.nil_append, List.cons_append]
      gi_wp2
      obtain ⟨W1, hW1⟩ : ∃ W1, W1 = w.alloc (.cells #[.int .i64 now] 3) := ⟨_, rfl⟩
      have hb1 : Below w.heap.size w W1 := by rw [hW1]; exact below_alloc _ _
      have hn1 : Boxed W1 w.heap.size 3 (.int .i64 now) := by rw [hW1]; exact Boxed.new w _ _
      rw [← hW1]
      have HW1 := Lib.hid hb1
      have HN1 := Lib.hid hn1
      have n0 := hn1.cell
      replace p0 := (hb1.cell (p := ⟨g, off, none⟩) hg).trans p0
      replace p1 := (hb1.cell (p := ⟨g, off + 1, none⟩) hg).trans p1
      replace p2 := (hb1.cell (p := ⟨g, off + 2, none⟩) hg).trans p2
      replace p3 := (hb1.cell (p := ⟨g, off + 3, none⟩) hg).trans p3
      replace p4 := (hb1.cell (p := ⟨g, off + 4, none⟩) hg).trans p4
      replace p5 := (hb1.cell (p := ⟨g, off + 5, none⟩) hg).trans p5
      clear hW1 hb1 hn1
      refine wpIn_region_any (by kernel_rfl) ?_
      try simp only [List.size_toArray, List.length_cons, List.length_nil, Nat.reduceAdd, Array.replicate_succ, Array.replicate_zero, List.push_toArray, List.nil_append, List.cons_append]
      refine wpAnyIn_take (i := 0) (v := ?vv101) rfl rfl (by kernel_rfl) (by kernel_rfl) (by kernel_rfl) (fun _ _ _ h => h) ⟨Or.inl ⟨by rfl, ?hy101⟩, fun _ => rfl⟩ ?rest101
      case hy101 => (intro w'; go_simp; try with_reducible rfl)
      try simp only [List.getElem_toArray, List.getElem_cons_zero, List.getElem_cons_succ, Act.put, List.setIfInBounds_toArray, List.set_cons_zero, List.set_cons_succ]
      refine wpAnyIn_take (i := 1) (v := ?vv102) rfl rfl (by kernel_rfl) (by kernel_rfl) (by kernel_rfl) (fun _ _ _ h => h) ⟨Or.inl ⟨by rfl, ?hy102⟩, fun _ => rfl⟩ ?rest102
      case hy102 => (intro w'; go_simp; try with_reducible rfl)
      try simp only [List.getElem_toArray, List.getElem_cons_zero, List.getElem_cons_succ, Act.put, List.setIfInBounds_toArray, List.set_cons_zero, List.set_cons_succ]
      refine wpAnyIn_take (i := 2) (v := ?vv103) rfl rfl (by kernel_rfl) (by kernel_rfl) (by kernel_rfl) (fun _ _ _ h => h) ⟨Or.inl ⟨by rfl, ?hy103⟩, fun _ => rfl⟩ ?rest103
      case hy103 => (intro w'; go_simp; try with_reducible rfl)
      try simp only [List.getElem_toArray, List.getElem_cons_zero, List.getElem_cons_succ, Act.put, List.setIfInBounds_toArray, List.set_cons_zero, List.set_cons_succ]
      refine wpAnyIn_take (i := 3) (v := ?vv104) rfl rfl (by kernel_rfl) (by kernel_rfl) (by kernel_rfl) (fun _ _ _ h => h) ⟨Or.inl ⟨by rfl, ?hy104⟩, fun _ => rfl⟩ ?rest104
      case hy104 => (intro w'; go_simp; try with_reducible rfl)
      try simp only [List.getElem_toArray, List.getElem_cons_zero, List.getElem_cons_succ, Act.put, List.setIfInBounds_toArray, List.set_cons_zero, List.set_cons_succ]
      refine wpAnyIn_take (i := 4) (v := ?vv105) rfl rfl (by kernel_rfl) (by kernel_rfl) (by kernel_rfl) (fun _ _ _ h => h) ⟨Or.inl ⟨by rfl, ?hy105⟩, fun _ => rfl⟩ ?rest105
      case hy105 => (intro w'; go_simp; try with_reducible rfl)
      try simp only [List.getElem_toArray, List.getElem_cons_zero, List.getElem_cons_succ, Act.put, List.setIfInBounds_toArray, List.set_cons_zero, List.set_cons_succ]
      refine wpAnyIn_take (i := 5) (v := ?vv106) rfl rfl (by kernel_rfl) (by kernel_rfl) (by kernel_rfl) (fun _ _ _ h => h) ⟨Or.inl ⟨by rfl, ?hy106⟩, fun _ => rfl⟩ ?rest106
      case hy106 => (intro w'; go_simp; try with_reducible rfl)
      try simp only [List.getElem_toArray, List.getElem_cons_zero, List.getElem_cons_succ, Act.put, List.setIfInBounds_toArray, List.set_cons_zero, List.set_cons_succ]
      refine wpAnyIn_ready (rs := [6, 7]) (by kernel_rfl) (by simp) ?_
      refine AllReadyIn.cons rfl (fun K hK => ?_) (AllReadyIn.cons rfl (fun K hK => ?_) AllReadyIn.nil)
      · skip
        go_simp
        refine hK _ _ ?_; clear hK K
        try simp only [List.getElem_toArray, List.getElem_cons_zero, List.getElem_cons_succ, Act.put, List.setIfInBounds_toArray, List.set_cons_zero, List.set_cons_succ]
        refine wpAnyIn_ready (rs := [7]) (by kernel_rfl) (by simp) ?_
        refine AllReadyIn.cons rfl (fun K hK => ?_) AllReadyIn.nil
        · skip
          go_simp
          refine hK _ _ ?_; clear hK K
          try simp only [List.getElem_toArray, List.getElem_cons_zero, List.getElem_cons_succ, Act.put, List.setIfInBounds_toArray, List.set_cons_zero, List.set_cons_succ]
          refine wpAnyIn_ready (rs := [8]) (by kernel_rfl) (by simp) ?_
          refine AllReadyIn.cons rfl (fun K hK => ?_) AllReadyIn.nil
          go_simp
          refine ⟨trivial, ?_⟩
          refine (callsIn_wide.2 (HD0.out _)).mono ?_
          rintro e w1 ⟨rfl, hb1⟩
          have HB1 := Lib.hid hb1; clear hb1
          refine hK _ _ ?_; clear hK K
          try simp only [List.getElem_toArray, List.getElem_cons_zero, List.getElem_cons_succ, Act.put, List.setIfInBounds_toArray, List.set_cons_zero, List.set_cons_succ]
          refine wpAnyIn_take (i := 9) (v := ?vv107) rfl rfl (by kernel_rfl) (by kernel_rfl) (by kernel_rfl) (fun _ _ _ h => h) ⟨Or.inl ⟨by rfl, ?hy107⟩, fun _ => rfl⟩ ?rest107
          case hy107 => (intro w'; go_simp; try with_reducible rfl)
          try simp only [List.getElem_toArray, List.getElem_cons_zero, List.getElem_cons_succ, Act.put, List.setIfInBounds_toArray, List.set_cons_zero, List.set_cons_succ]
          refine wpAnyIn_take (i := 10) (v := ?vv108) rfl rfl (by kernel_rfl) (by kernel_rfl) (by kernel_rfl) (fun _ _ _ h => h) ⟨Or.inl ⟨by rfl, ?hy108⟩, fun _ => rfl⟩ ?rest108
          case hy108 => (intro w'; go_simp; try with_reducible rfl)
          try simp only [List.getElem_toArray, List.getElem_cons_zero, List.getElem_cons_succ, Act.put, List.setIfInBounds_toArray, List.set_cons_zero, List.set_cons_succ]
          refine wpAnyIn_done (by kernel_rfl) ?_ _
          gi_wp2_with (refine ⟨trivial, ?_⟩; gi_at_call 82; refine (callsIn_wide.2 (neighbours_any _ _ _ _)).mono ?_; rintro e w' ⟨rfl, rfl⟩)
          have hb01 : Below w.heap.size w w1 := HW1.out.drew.trans (HB1.out.mono HW1.out.size)
          obtain ⟨n, hn⟩ : ∃ n, n = w1.heap.size := ⟨_, rfl⟩
          obtain ⟨Wl, hWl⟩ : ∃ Wl, Wl = (w1.alloc (.cells #[.int .i64 1] 3)).alloc (.cells #[.slice (some ⟨g, off, none⟩) l.length cp] 29) := ⟨_, rfl⟩
          rw [← hWl, ← hn]
          have hsz : Wl.heap.size = n + 2 := by rw [hWl, hn]; simp
          have hwn : w.heap.size < n := by have := HN1.out.lt; have := HB1.out.size; rw [hn]; exact Nat.lt_of_lt_of_le HN1.out.lt HB1.out.size
          have hbl1 : Below w1.heap.size w1 Wl := by rw [hWl]; exact ((Below.refl _ w1).alloc (Nat.le_refl _) _).alloc (by simp) _
          have hbel : Below w.heap.size w Wl := hb01.trans (hbl1.mono hb01.size)
          have b0 : Boxed Wl n 3 (.int .i64 1) := by rw [hWl, hn]; exact (Boxed.new w1 _ _).alloc _
          have b1 : Boxed Wl (n + 1) 29 (.slice (some ⟨g, off, none⟩) l.length cp) := by rw [hWl, hn]; have := Boxed.new (w1.alloc (.cells #[.int .i64 1] 3)) 29 (.slice (some ⟨g, off, none⟩) l.length cp); rw [World.size_alloc] at this; exact this
          have b2 : Boxed Wl w.heap.size 3 (.int .i64 now) := (HN1.out.kept (grownBelow ((Below.refl _ W1).drew.trans HB1.out) none) (by simp)).kept (grownBelow hbl1 none) (by simp)
          have hI0 : GdI w n l now [] Wl := ⟨b0, b2, hbel, by omega, fun k hk => by simp at hk⟩
          have hNBl : NB Wl (n + 1) (some ⟨g, off, none⟩) cp l nv := (HR.out.step hbel).nb b1.cell
          have HSZ := Lib.hid hsz
          have HWN := Lib.hid hwn
          have HF := Lib.hid (fun k (hk : k < l.length) => HR.out.form hk)
          have HIL := Lib.hid (fun (x : Nat) (hx : x + 1 < l.length) W A1 A2 m1 m2 c1 c2 (h : Below w.heap.size w W) => @isLink_any W (ctAt l x) (ctAt l (x + 1)) A1 A2 m1 m2 c1 c2 (by have := (HS.out.at hx).1; omega) (HW.out.below h))
          have HTH := next_hands (Kp := KB (n + 2) n) (n + 1) l (some ⟨g, off, none⟩) cp nv HS.out.1 Wl hNBl (by omega) (fun _ g' off' e => by cases e; omega)
            (fun W1 W2 hk hn => hn.kb hk (by omega) (by omega) (fun _ g' off' e => by cases e; omega))
          clear hWl hbel b0 b1 b2 hNBl n0 p0 p1 p2 p3 p4 p5 hn HD0 HN1 hb01 hbl1
          refine wpIn_rangeFunc_hd (α := Nat) (w := Wl) rfl (by omega) (gf := 138) (lb := #[.pointer (some ⟨n + 1, 0, none⟩)]) rfl trivial (enters_of Tryz.func138 (by kernel_rfl) rfl)
            (handsO_wide HTH) KB.trans (fun W o o' h hc => KB.put o' (by omega)) (fun _ => rfl) (GdI w n l now) (GdX w n l now) (gdI_from (by omega) (by omega)) (gdX_from (by omega) (by omega)) hI0
            (fun x a' W' => ∃ k1 k2 v7 v8, a' = { tmps := #[.slice (some ⟨g, off, none⟩) l.length cp, .int .i64 now, undef, .pointer (some ⟨w.heap.size, 0, none⟩), .slice none 0 0, .pointer (some ⟨n, 0, none⟩), .pointer (some ⟨k1, 0, none⟩), .pointer (some ⟨k2, 0, none⟩), .slice (some ⟨g, off, none⟩) l.length cp, .int .i64 l.length, .bool false, .bool false, .slice (some ⟨g, off, none⟩) l.length cp, .pointer (some ⟨g, off, none⟩), .agg #[sv (ctAt l 0).key, sv (ctAt l 0).sig, .slice a0 (ctAt l 0).names.length c0, .int .i64 (ctAt l 0).fr, .int .i64 (ctAt l 0).un, .bool (ctAt l 0).ca], .int .i64 now, .bool true, .bool false, .bool false, .slice (some ⟨g, off, none⟩) l.length cp, .func (.func 138) #[] #[.pointer (some ⟨n + 1, 0, none⟩)], v7, v8, undef, undef, undef, undef, undef, undef, undef, undef, undef, undef, undef, undef, undef, undef, undef, undef], defers := [] } ∧ CB W' k1 (ctAt l x) (nv x) ∧ CB W' k2 (ctAt l (x + 1)) (nv (x + 1)))
            (fun x a' s' A B row ⟨k1, k2, v7, v8, e, h1, h2⟩ hg hr => ⟨k1, k2, v7, v8, e, cb_own () A B row h1 hg hr, cb_own () A B row h2 hg hr⟩)
            ?assign ?body ?done ?stop
          case assign =>
            intro l' pre x W' K hi hnx hK
            obtain ⟨a1, c1, e1⟩ := HF.out x (by omega)
            obtain ⟨a2, c2, e2⟩ := HF.out (x + 1) (by omega)
            have hii : GdI w n l now pre ((W'.alloc (cellsC (ctAt l x) (nv x))).alloc (cellsC (ctAt l (x + 1)) (nv (x + 1)))) := (gdI_from (w := w) (Nat.le_refl _) (by omega)).alloc _ ((gdI_from (w := w) (Nat.le_refl _) (by omega)).alloc _ hi)
            have hbb : Below W'.heap.size W' ((W'.alloc (cellsC (ctAt l x) (nv x))).alloc (cellsC (ctAt l (x + 1)) (nv (x + 1)))) := (below_alloc _ _).trans ((below_alloc _ _).mono (by simp))
            have hk1 : CB ((W'.alloc (cellsC (ctAt l x) (nv x))).alloc (cellsC (ctAt l (x + 1)) (nv (x + 1)))) W'.heap.size (ctAt l x) (nv x) := (CB.new _ _ _).step (below_alloc _ _)
            have hk2 : CB ((W'.alloc (cellsC (ctAt l x) (nv x))).alloc (cellsC (ctAt l (x + 1)) (nv (x + 1)))) (W'.heap.size + 1) (ctAt l (x + 1)) (nv (x + 1)) := by rw [← World.size_alloc W' (cellsC (ctAt l x) (nv x))]; exact CB.new _ _ _
            have hsW := hi.2.2.2.1
            obtain ⟨k1, hke1⟩ : ∃ k1, k1 = W'.heap.size := ⟨_, rfl⟩
            obtain ⟨k2, hke2⟩ : ∃ k2, k2 = W'.heap.size + 1 := ⟨_, rfl⟩
            rw [← hke1] at hk1
            rw [← hke2] at hk2
            have HFIN := Lib.hid (fun v7 v8 => hK { tmps := #[.slice (some ⟨g, off, none⟩) l.length cp, .int .i64 now, undef, .pointer (some ⟨w.heap.size, 0, none⟩), .slice none 0 0, .pointer (some ⟨n, 0, none⟩), .pointer (some ⟨k1, 0, none⟩), .pointer (some ⟨k2, 0, none⟩), .slice (some ⟨g, off, none⟩) l.length cp, .int .i64 l.length, .bool false, .bool false, .slice (some ⟨g, off, none⟩) l.length cp, .pointer (some ⟨g, off, none⟩), .agg #[sv (ctAt l 0).key, sv (ctAt l 0).sig, .slice a0 (ctAt l 0).names.length c0, .int .i64 (ctAt l 0).fr, .int .i64 (ctAt l 0).un, .bool (ctAt l 0).ca], .int .i64 now, .bool true, .bool false, .bool false, .slice (some ⟨g, off, none⟩) l.length cp, .func (.func 138) #[] #[.pointer (some ⟨n + 1, 0, none⟩)], v7, v8, undef, undef, undef, undef, undef, undef, undef, undef, undef, undef, undef, undef, undef, undef, undef, undef], defers := [] } _ (keepsFrom_below hbb) (KB.below hbb (by omega)) hii ⟨k1, k2, v7, v8, rfl, hk1, hk2⟩)
            clear hii hbb hk1 hk2 hi hK
            rw [hke1, hke2] at HFIN
            simp only [nbV, cvAt, certV]
            rw [e1, e2] at HFIN ⊢
            gi_wp2
            exact HFIN.out _ _
          case body =>
            rintro l' pre x a' W' ⟨h1, h2, hb, hsW, hlk⟩ ⟨hpx, hx⟩ ⟨k1, k2, v7, v8, rfl, hk1, hk2⟩
            obtain ⟨a1, c1, e1⟩ := HF.out x (by omega)
            obtain ⟨a2, c2, e2⟩ := HF.out (x + 1) (by omega)
            rw [e1] at hk1
            rw [e2] at hk2
            have HK1 := Lib.hid hk1
            have HK2 := Lib.hid hk2
            have q0 := hk2.c0
            have q1 := hk2.c1
            have q2 := hk2.c2
            have q3 := hk2.c3
            have q4 := hk2.c4
            have q5 := hk2.c5
            have m0 := h2.cell
            have HC := Lib.hid (fun W (h : Below w.heap.size w W) => HIL.out x hx W a1 a2 (ctAt l x).names.length (ctAt l (x + 1)).names.length c1 c2 h)
            have HDA := Lib.hid (@dates_any W' (ctAt l (x + 1)) a2 (ctAt l (x + 1)).names.length c2 now)
            have HB := Lib.hid hb
            have H1 := Lib.hid h1
            have H2 := Lib.hid h2
            have HLK := Lib.hid hlk
            have HPX := Lib.hid hpx
            have hpl : pre.length = x := by rw [hpx, List.length_range]
            have HPL := Lib.hid hpl
            have HXL := Lib.hid hx
            unfold certV at HC HDA
            clear HIL hb h1 h2 hlk hpx hk1 hk2 e1 e2 hI0 HTH HF hpl
            cases hdb : dateB (ctAt l (x + 1)) now with
            | false =>
              rw [hdb] at HDA
              have HDB := Lib.hid hdb
              clear hdb
              gi_wp2_with (refine ⟨trivial, ?_⟩; gi_at_call 39; refine (CallsIn.inRound l' (callsIn_wide.2 HDA.out)).mono ?_; rintro e w2 ⟨rfl, hb2⟩; have HB2 := Lib.hid hb2; clear hb2)
              refine ⟨trivial, ?_⟩
              gi_wp2
              refine ⟨keepsFrom_below HB2.out, KB.below HB2.out hsW, gd_stop (H1.out.kept (grownBelow HB2.out none) (by simp)) (HB.out.trans (HB2.out.mono HB.out.size)) HLK.out HPL.out HXL.out (.inl HDB.out)⟩
            | true =>
              rw [hdb] at HDA
              have HDB := Lib.hid hdb
              clear hdb
              cases hlb : linkB (ctAt l x) (ctAt l (x + 1)) with
              | false =>
                rw [hlb] at HC
                have HLB := Lib.hid hlb
                clear hlb
                gi_wp2_with (first
                  | (refine ⟨trivial, ?_⟩; gi_at_call 39; refine (CallsIn.inRound l' (callsIn_wide.2 HDA.out)).mono ?_; rintro e w2 ⟨rfl, hb2⟩; have HB2 := Lib.hid hb2; have p0 := (HK1.out.step hb2).c0; have p1 := (HK1.out.step hb2).c1; have p2 := (HK1.out.step hb2).c2; have p3 := (HK1.out.step hb2).c3; have p4 := (HK1.out.step hb2).c4; have p5 := (HK1.out.step hb2).c5; have r0 := (HK2.out.step hb2).c0; have r1 := (HK2.out.step hb2).c1; have r2 := (HK2.out.step hb2).c2; have r3 := (HK2.out.step hb2).c3; have r4 := (HK2.out.step hb2).c4; have r5 := (HK2.out.step hb2).c5; clear hb2)
                  | (refine ⟨trivial, ?_⟩; gi_at_call 83; refine (CallsIn.inRound l' (callsIn_wide.2 (HC.out _ (HB.out.trans (HB2.out.mono HB.out.size))))).mono ?_; rintro e w3 ⟨rfl, hb3⟩; have HB3 := Lib.hid (HB2.out.trans (hb3.mono HB2.out.size)); clear hb3))
                refine ⟨keepsFrom_below HB3.out, KB.below HB3.out hsW, gd_stop (H1.out.kept (grownBelow HB3.out none) (by simp)) (HB.out.trans (HB3.out.mono HB.out.size)) HLK.out HPL.out HXL.out (.inr HLB.out)⟩
              | true =>
                rw [hlb] at HC
                have HLB := Lib.hid hlb
                clear hlb
                have hadd : IntKind.i64.wrap (1 + (pre.length : Int) + 1) = 1 + (pre.length : Int) + 1 := by
                  have := HPL.out; have := HXL.out; have := HS.out.1
                  simp [IntKind.wrap, IntKind.bits, IntKind.signed]; omega
                gi_wp2_with (first
                  | (refine ⟨trivial, ?_⟩; gi_at_call 39; refine (CallsIn.inRound l' (callsIn_wide.2 HDA.out)).mono ?_; rintro e w2 ⟨rfl, hb2⟩; have HB2 := Lib.hid hb2; have p0 := (HK1.out.step hb2).c0; have p1 := (HK1.out.step hb2).c1; have p2 := (HK1.out.step hb2).c2; have p3 := (HK1.out.step hb2).c3; have p4 := (HK1.out.step hb2).c4; have p5 := (HK1.out.step hb2).c5; have r0 := (HK2.out.step hb2).c0; have r1 := (HK2.out.step hb2).c1; have r2 := (HK2.out.step hb2).c2; have r3 := (HK2.out.step hb2).c3; have r4 := (HK2.out.step hb2).c4; have r5 := (HK2.out.step hb2).c5; clear hb2)
                  | (refine ⟨trivial, ?_⟩; gi_at_call 83; refine (CallsIn.inRound l' (callsIn_wide.2 (HC.out _ (HB.out.trans (HB2.out.mono HB.out.size))))).mono ?_; rintro e w3 ⟨rfl, hb3⟩; have HB3 := Lib.hid (HB2.out.trans (hb3.mono HB2.out.size)); have hbx : Boxed w3 n 3 (.int .i64 (1 + (pre.length : Int))) := H1.out.kept (grownBelow HB3.out none) (by simp); have cx := hbx.cell; have fx := hbx.frozen; clear hb3))
                refine ⟨(keepsFrom_below HB3.out).trans ((KeepsOthers.setCell _ _ _).from _), (KB.below HB3.out hsW).trans (KB.set _ _), ?_, ?_, ?_, ?_, ?_⟩
                · have := hbx.set (.int .i64 (1 + (pre.length : Int) + 1))
                  rw [List.length_append, show (1 + (((pre.length + [x].length : Nat)) : Int)) = 1 + (pre.length : Int) + 1 by simp; omega]
                  exact this
                · exact (H2.out.kept (grownBelow HB3.out none) (by simp)).other (by have := HWN.out; omega) _
                · exact (HB.out.trans (HB3.out.mono HB.out.size)).setCell (p := ⟨n, 0, none⟩) (Nat.le_of_lt HWN.out) _
                · have := HB3.out.size
                  simp [World.setCell]; omega
                · intro k hk
                  rw [List.length_append] at hk
                  by_cases hkx : k = x
                  · subst hkx; exact ⟨HDB.out, HLB.out⟩
                  · exact HLK.out k (by have := HPL.out; simp at hk; omega)
          case done =>
            rintro D xs W hD rfl ⟨h1, h2, hb, hsW, hlk⟩ hK
            rw [HSZ.out] at hD
            have hm := more_eq (l := l) (now := now) (m := l.length - 1) (fun k hk => hlk k (by rw [List.length_range]; exact hk)) (by omega) (.inl (by omega))
            have hgd : goodN l now = l.length := by
              unfold goodN
              rw [if_neg (by intro h; rw [h] at hp; simp at hp), HD.out, hm]; simp; omega
            have HG := Lib.hid hgd
            have c1 := h1.cell
            rw [List.length_range, show (1 + ((l.length - 1 : Nat) : Int)) = (l.length : Int) by omega] at c1
            have HB := Lib.hid hb
            have HK := Lib.hid hK
            have hlt1 : (l.length : Int) ≤ (cp : Int) := by omega
            clear h1 h2 hb hlk hK hI0 HTH hm hgd HIL HF
            gi_wp2
            refine calmly_ret ?_
            refine ⟨by simp, .inl ⟨_, _, rfl, run_takeDeferred HK.out, ?_⟩⟩
            exact ⟨.slice (some ⟨g, off, none⟩) l.length l.length, by simp [results, Tryz.results85, go_sem], by rw [HG.out]; exact ⟨_, _, rfl, .inr rfl, HB.out.trans (belowK_b (w := w) (Nat.le_refl _) W D _ (.deferred none) (by omega) HK.out rfl rfl)⟩⟩
          case stop =>
            rintro D c pre W hD hp ⟨⟨rfl, hm, hpl⟩, h1, hb⟩ hK
            rw [HSZ.out] at hD
            have hgd : goodN l now = pre.length := by
              unfold goodN
              rw [if_neg (by intro h; subst h; simp at hp), HD.out, ← hm]; rfl
            have HG := Lib.hid hgd
            obtain ⟨N, hN⟩ : ∃ N, N = pre.length := ⟨_, rfl⟩
            rw [← hN] at HG h1 hpl
            have c1 := h1.cell
            have HB := Lib.hid hb
            have HK := Lib.hid hK
            have hlt1 : N ≤ cp := by omega
            clear h1 hb hK hI0 HTH hm hgd HIL HF hN
            gi_wp2
            refine calmly_ret ?_
            refine ⟨by simp, .inl ⟨_, _, rfl, run_takeDeferred HK.out, ?_⟩⟩
            exact ⟨.slice (some ⟨g, off, none⟩) N N, by simp [results, Tryz.results85, go_sem], by rw [HG.out]; exact ⟨_, _, rfl, .inr rfl, HB.out.trans (belowK_b (w := w) (Nat.le_refl _) W D _ (.deferred none) (by omega) HK.out rfl rfl)⟩⟩
      · skip
        go_simp
        refine hK _ _ ?_; clear hK K
        try simp only [List.getElem_toArray, List.getElem_cons_zero, List.getElem_cons_succ, Act.put, List.setIfInBounds_toArray, List.set_cons_zero, List.set_cons_succ]
        refine wpAnyIn_ready (rs := [6]) (by kernel_rfl) (by simp) ?_
        refine AllReadyIn.cons rfl (fun K hK => ?_) AllReadyIn.nil
        · skip
          go_simp
          refine hK _ _ ?_; clear hK K
          try simp only [List.getElem_toArray, List.getElem_cons_zero, List.getElem_cons_succ, Act.put, List.setIfInBounds_toArray, List.set_cons_zero, List.set_cons_succ]
          refine wpAnyIn_ready (rs := [8]) (by kernel_rfl) (by simp) ?_
          refine AllReadyIn.cons rfl (fun K hK => ?_) AllReadyIn.nil
          go_simp
          refine ⟨trivial, ?_⟩
          refine (callsIn_wide.2 (HD0.out _)).mono ?_
          rintro e w1 ⟨rfl, hb1⟩
          have HB1 := Lib.hid hb1; clear hb1
          refine hK _ _ ?_; clear hK K
          try simp only [List.getElem_toArray, List.getElem_cons_zero, List.getElem_cons_succ, Act.put, List.setIfInBounds_toArray, List.set_cons_zero, List.set_cons_succ]
          refine wpAnyIn_take (i := 9) (v := ?vv109) rfl rfl (by kernel_rfl) (by kernel_rfl) (by kernel_rfl) (fun _ _ _ h => h) ⟨Or.inl ⟨by rfl, ?hy109⟩, fun _ => rfl⟩ ?rest109
          case hy109 => (intro w'; go_simp; try with_reducible rfl)
          try simp only [List.getElem_toArray, List.getElem_cons_zero, List.getElem_cons_succ, Act.put, List.setIfInBounds_toArray, List.set_cons_zero, List.set_cons_succ]
          refine wpAnyIn_take (i := 10) (v := ?vv110) rfl rfl (by kernel_rfl) (by kernel_rfl) (by kernel_rfl) (fun _ _ _ h => h) ⟨Or.inl ⟨by rfl, ?hy110⟩, fun _ => rfl⟩ ?rest110
          case hy110 => (intro w'; go_simp; try with_reducible rfl)
          try simp only [List.getElem_toArray, List.getElem_cons_zero, List.getElem_cons_succ, Act.put, List.setIfInBounds_toArray, List.set_cons_zero, List.set_cons_succ]
          refine wpAnyIn_done (by kernel_rfl) ?_ _
          gi_wp2_with (refine ⟨trivial, ?_⟩; gi_at_call 82; refine (callsIn_wide.2 (neighbours_any _ _ _ _)).mono ?_; rintro e w' ⟨rfl, rfl⟩)
          have hb01 : Below w.heap.size w w1 := HW1.out.drew.trans (HB1.out.mono HW1.out.size)
          obtain ⟨n, hn⟩ : ∃ n, n = w1.heap.size := ⟨_, rfl⟩
          obtain ⟨Wl, hWl⟩ : ∃ Wl, Wl = (w1.alloc (.cells #[.int .i64 1] 3)).alloc (.cells #[.slice (some ⟨g, off, none⟩) l.length cp] 29) := ⟨_, rfl⟩
          rw [← hWl, ← hn]
          have hsz : Wl.heap.size = n + 2 := by rw [hWl, hn]; simp
          have hwn : w.heap.size < n := by have := HN1.out.lt; have := HB1.out.size; rw [hn]; exact Nat.lt_of_lt_of_le HN1.out.lt HB1.out.size
          have hbl1 : Below w1.heap.size w1 Wl := by rw [hWl]; exact ((Below.refl _ w1).alloc (Nat.le_refl _) _).alloc (by simp) _
          have hbel : Below w.heap.size w Wl := hb01.trans (hbl1.mono hb01.size)
          have b0 : Boxed Wl n 3 (.int .i64 1) := by rw [hWl, hn]; exact (Boxed.new w1 _ _).alloc _
          have b1 : Boxed Wl (n + 1) 29 (.slice (some ⟨g, off, none⟩) l.length cp) := by rw [hWl, hn]; have := Boxed.new (w1.alloc (.cells #[.int .i64 1] 3)) 29 (.slice (some ⟨g, off, none⟩) l.length cp); rw [World.size_alloc] at this; exact this
          have b2 : Boxed Wl w.heap.size 3 (.int .i64 now) := (HN1.out.kept (grownBelow ((Below.refl _ W1).drew.trans HB1.out) none) (by simp)).kept (grownBelow hbl1 none) (by simp)
          have hI0 : GdI w n l now [] Wl := ⟨b0, b2, hbel, by omega, fun k hk => by simp at hk⟩
          have hNBl : NB Wl (n + 1) (some ⟨g, off, none⟩) cp l nv := (HR.out.step hbel).nb b1.cell
          have HSZ := Lib.hid hsz
          have HWN := Lib.hid hwn
          have HF := Lib.hid (fun k (hk : k < l.length) => HR.out.form hk)
          have HIL := Lib.hid (fun (x : Nat) (hx : x + 1 < l.length) W A1 A2 m1 m2 c1 c2 (h : Below w.heap.size w W) => @isLink_any W (ctAt l x) (ctAt l (x + 1)) A1 A2 m1 m2 c1 c2 (by have := (HS.out.at hx).1; omega) (HW.out.below h))
          have HTH := next_hands (Kp := KB (n + 2) n) (n + 1) l (some ⟨g, off, none⟩) cp nv HS.out.1 Wl hNBl (by omega) (fun _ g' off' e => by cases e; omega)
            (fun W1 W2 hk hn => hn.kb hk (by omega) (by omega) (fun _ g' off' e => by cases e; omega))
          clear hWl hbel b0 b1 b2 hNBl n0 p0 p1 p2 p3 p4 p5 hn HD0 HN1 hb01 hbl1
          refine wpIn_rangeFunc_hd (α := Nat) (w := Wl) rfl (by omega) (gf := 138) (lb := #[.pointer (some ⟨n + 1, 0, none⟩)]) rfl trivial (enters_of Tryz.func138 (by kernel_rfl) rfl)
            (handsO_wide HTH) KB.trans (fun W o o' h hc => KB.put o' (by omega)) (fun _ => rfl) (GdI w n l now) (GdX w n l now) (gdI_from (by omega) (by omega)) (gdX_from (by omega) (by omega)) hI0
            (fun x a' W' => ∃ k1 k2 v7 v8, a' = { tmps := #[.slice (some ⟨g, off, none⟩) l.length cp, .int .i64 now, undef, .pointer (some ⟨w.heap.size, 0, none⟩), .slice none 0 0, .pointer (some ⟨n, 0, none⟩), .pointer (some ⟨k1, 0, none⟩), .pointer (some ⟨k2, 0, none⟩), .slice (some ⟨g, off, none⟩) l.length cp, .int .i64 l.length, .bool false, .bool false, .slice (some ⟨g, off, none⟩) l.length cp, .pointer (some ⟨g, off, none⟩), .agg #[sv (ctAt l 0).key, sv (ctAt l 0).sig, .slice a0 (ctAt l 0).names.length c0, .int .i64 (ctAt l 0).fr, .int .i64 (ctAt l 0).un, .bool (ctAt l 0).ca], .int .i64 now, .bool true, .bool false, .bool false, .slice (some ⟨g, off, none⟩) l.length cp, .func (.func 138) #[] #[.pointer (some ⟨n + 1, 0, none⟩)], v7, v8, undef, undef, undef, undef, undef, undef, undef, undef, undef, undef, undef, undef, undef, undef, undef, undef], defers := [] } ∧ CB W' k1 (ctAt l x) (nv x) ∧ CB W' k2 (ctAt l (x + 1)) (nv (x + 1)))
            (fun x a' s' A B row ⟨k1, k2, v7, v8, e, h1, h2⟩ hg hr => ⟨k1, k2, v7, v8, e, cb_own () A B row h1 hg hr, cb_own () A B row h2 hg hr⟩)
            ?assign ?body ?done ?stop
          case assign =>
            intro l' pre x W' K hi hnx hK
            obtain ⟨a1, c1, e1⟩ := HF.out x (by omega)
            obtain ⟨a2, c2, e2⟩ := HF.out (x + 1) (by omega)
            have hii : GdI w n l now pre ((W'.alloc (cellsC (ctAt l x) (nv x))).alloc (cellsC (ctAt l (x + 1)) (nv (x + 1)))) := (gdI_from (w := w) (Nat.le_refl _) (by omega)).alloc _ ((gdI_from (w := w) (Nat.le_refl _) (by omega)).alloc _ hi)
            have hbb : Below W'.heap.size W' ((W'.alloc (cellsC (ctAt l x) (nv x))).alloc (cellsC (ctAt l (x + 1)) (nv (x + 1)))) := (below_alloc _ _).trans ((below_alloc _ _).mono (by simp))
            have hk1 : CB ((W'.alloc (cellsC (ctAt l x) (nv x))).alloc (cellsC (ctAt l (x + 1)) (nv (x + 1)))) W'.heap.size (ctAt l x) (nv x) := (CB.new _ _ _).step (below_alloc _ _)
            have hk2 : CB ((W'.alloc (cellsC (ctAt l x) (nv x))).alloc (cellsC (ctAt l (x + 1)) (nv (x + 1)))) (W'.heap.size + 1) (ctAt l (x + 1)) (nv (x + 1)) := by rw [← World.size_alloc W' (cellsC (ctAt l x) (nv x))]; exact CB.new _ _ _
            have hsW := hi.2.2.2.1
            obtain ⟨k1, hke1⟩ : ∃ k1, k1 = W'.heap.size := ⟨_, rfl⟩
            obtain ⟨k2, hke2⟩ : ∃ k2, k2 = W'.heap.size + 1 := ⟨_, rfl⟩
            rw [← hke1] at hk1
            rw [← hke2] at hk2
            have HFIN := Lib.hid (fun v7 v8 => hK { tmps := #[.slice (some ⟨g, off, none⟩) l.length cp, .int .i64 now, undef, .pointer (some ⟨w.heap.size, 0, none⟩), .slice none 0 0, .pointer (some ⟨n, 0, none⟩), .pointer (some ⟨k1, 0, none⟩), .pointer (some ⟨k2, 0, none⟩), .slice (some ⟨g, off, none⟩) l.length cp, .int .i64 l.length, .bool false, .bool false, .slice (some ⟨g, off, none⟩) l.length cp, .pointer (some ⟨g, off, none⟩), .agg #[sv (ctAt l 0).key, sv (ctAt l 0).sig, .slice a0 (ctAt l 0).names.length c0, .int .i64 (ctAt l 0).fr, .int .i64 (ctAt l 0).un, .bool (ctAt l 0).ca], .int .i64 now, .bool true, .bool false, .bool false, .slice (some ⟨g, off, none⟩) l.length cp, .func (.func 138) #[] #[.pointer (some ⟨n + 1, 0, none⟩)], v7, v8, undef, undef, undef, undef, undef, undef, undef, undef, undef, undef, undef, undef, undef, undef, undef, undef], defers := [] } _ (keepsFrom_below hbb) (KB.below hbb (by omega)) hii ⟨k1, k2, v7, v8, rfl, hk1, hk2⟩)
            clear hii hbb hk1 hk2 hi hK
            rw [hke1, hke2] at HFIN
            simp only [nbV, cvAt, certV]
            rw [e1, e2] at HFIN ⊢
            gi_wp2
            exact HFIN.out _ _
          case body =>
            rintro l' pre x a' W' ⟨h1, h2, hb, hsW, hlk⟩ ⟨hpx, hx⟩ ⟨k1, k2, v7, v8, rfl, hk1, hk2⟩
            obtain ⟨a1, c1, e1⟩ := HF.out x (by omega)
            obtain ⟨a2, c2, e2⟩ := HF.out (x + 1) (by omega)
            rw [e1] at hk1
            rw [e2] at hk2
            have HK1 := Lib.hid hk1
            have HK2 := Lib.hid hk2
            have q0 := hk2.c0
            have q1 := hk2.c1
            have q2 := hk2.c2
            have q3 := hk2.c3
            have q4 := hk2.c4
            have q5 := hk2.c5
            have m0 := h2.cell
            have HC := Lib.hid (fun W (h : Below w.heap.size w W) => HIL.out x hx W a1 a2 (ctAt l x).names.length (ctAt l (x + 1)).names.length c1 c2 h)
            have HDA := Lib.hid (@dates_any W' (ctAt l (x + 1)) a2 (ctAt l (x + 1)).names.length c2 now)
            have HB := Lib.hid hb
            have H1 := Lib.hid h1
            have H2 := Lib.hid h2
            have HLK := Lib.hid hlk
            have HPX := Lib.hid hpx
            have hpl : pre.length = x := by rw [hpx, List.length_range]
            have HPL := Lib.hid hpl
            have HXL := Lib.hid hx
            unfold certV at HC HDA
            clear HIL hb h1 h2 hlk hpx hk1 hk2 e1 e2 hI0 HTH HF hpl
            cases hdb : dateB (ctAt l (x + 1)) now with
            | false =>
              rw [hdb] at HDA
              have HDB := Lib.hid hdb
              clear hdb
              gi_wp2_with (refine ⟨trivial, ?_⟩; gi_at_call 39; refine (CallsIn.inRound l' (callsIn_wide.2 HDA.out)).mono ?_; rintro e w2 ⟨rfl, hb2⟩; have HB2 := Lib.hid hb2; clear hb2)
              refine ⟨trivial, ?_⟩
              gi_wp2
              refine ⟨keepsFrom_below HB2.out, KB.below HB2.out hsW, gd_stop (H1.out.kept (grownBelow HB2.out none) (by simp)) (HB.out.trans (HB2.out.mono HB.out.size)) HLK.out HPL.out HXL.out (.inl HDB.out)⟩
            | true =>
              rw [hdb] at HDA
              have HDB := Lib.hid hdb
              clear hdb
              cases hlb : linkB (ctAt l x) (ctAt l (x + 1)) with
              | false =>
                rw [hlb] at HC
                have HLB := Lib.hid hlb
                clear hlb
                gi_wp2_with (first
                  | (refine ⟨trivial, ?_⟩; gi_at_call 39; refine (CallsIn.inRound l' (callsIn_wide.2 HDA.out)).mono ?_; rintro e w2 ⟨rfl, hb2⟩; have HB2 := Lib.hid hb2; have p0 := (HK1.out.step hb2).c0; have p1 := (HK1.out.step hb2).c1; have p2 := (HK1.out.step hb2).c2; have p3 := (HK1.out.step hb2).c3; have p4 := (HK1.out.step hb2).c4; have p5 := (HK1.out.step hb2).c5; have r0 := (HK2.out.step hb2).c0; have r1 := (HK2.out.step hb2).c1; have r2 := (HK2.out.step hb2).c2; have r3 := (HK2.out.step hb2).c3; have r4 := (HK2.out.step hb2).c4; have r5 := (HK2.out.step hb2).c5; clear hb2)
                  | (refine ⟨trivial, ?_⟩; gi_at_call 83; refine (CallsIn.inRound l' (callsIn_wide.2 (HC.out _ (HB.out.trans (HB2.out.mono HB.out.size))))).mono ?_; rintro e w3 ⟨rfl, hb3⟩; have HB3 := Lib.hid (HB2.out.trans (hb3.mono HB2.out.size)); clear hb3))
                refine ⟨keepsFrom_below HB3.out, KB.below HB3.out hsW, gd_stop (H1.out.kept (grownBelow HB3.out none) (by simp)) (HB.out.trans (HB3.out.mono HB.out.size)) HLK.out HPL.out HXL.out (.inr HLB.out)⟩
              | true =>
                rw [hlb] at HC
                have HLB := Lib.hid hlb
                clear hlb
                have hadd : IntKind.i64.wrap (1 + (pre.length : Int) + 1) = 1 + (pre.length : Int) + 1 := by
                  have := HPL.out; have := HXL.out; have := HS.out.1
                  simp [IntKind.wrap, IntKind.bits, IntKind.signed]; omega
                gi_wp2_with (first
                  | (refine ⟨trivial, ?_⟩; gi_at_call 39; refine (CallsIn.inRound l' (callsIn_wide.2 HDA.out)).mono ?_; rintro e w2 ⟨rfl, hb2⟩; have HB2 := Lib.hid hb2; have p0 := (HK1.out.step hb2).c0; have p1 := (HK1.out.step hb2).c1; have p2 := (HK1.out.step hb2).c2; have p3 := (HK1.out.step hb2).c3; have p4 := (HK1.out.step hb2).c4; have p5 := (HK1.out.step hb2).c5; have r0 := (HK2.out.step hb2).c0; have r1 := (HK2.out.step hb2).c1; have r2 := (HK2.out.step hb2).c2; have r3 := (HK2.out.step hb2).c3; have r4 := (HK2.out.step hb2).c4; have r5 := (HK2.out.step hb2).c5; clear hb2)
                  | (refine ⟨trivial, ?_⟩; gi_at_call 83; refine (CallsIn.inRound l' (callsIn_wide.2 (HC.out _ (HB.out.trans (HB2.out.mono HB.out.size))))).mono ?_; rintro e w3 ⟨rfl, hb3⟩; have HB3 := Lib.hid (HB2.out.trans (hb3.mono HB2.out.size)); have hbx : Boxed w3 n 3 (.int .i64 (1 + (pre.length : Int))) := H1.out.kept (grownBelow HB3.out none) (by simp); have cx := hbx.cell; have fx := hbx.frozen; clear hb3))
                refine ⟨(keepsFrom_below HB3.out).trans ((KeepsOthers.setCell _ _ _).from _), (KB.below HB3.out hsW).trans (KB.set _ _), ?_, ?_, ?_, ?_, ?_⟩
                · have := hbx.set (.int .i64 (1 + (pre.length : Int) + 1))
                  rw [List.length_append, show (1 + (((pre.length + [x].length : Nat)) : Int)) = 1 + (pre.length : Int) + 1 by simp; omega]
                  exact this
                · exact (H2.out.kept (grownBelow HB3.out none) (by simp)).other (by have := HWN.out; omega) _
                · exact (HB.out.trans (HB3.out.mono HB.out.size)).setCell (p := ⟨n, 0, none⟩) (Nat.le_of_lt HWN.out) _
                · have := HB3.out.size
                  simp [World.setCell]; omega
                · intro k hk
                  rw [List.length_append] at hk
                  by_cases hkx : k = x
                  · subst hkx; exact ⟨HDB.out, HLB.out⟩
                  · exact HLK.out k (by have := HPL.out; simp at hk; omega)
          case done =>
            rintro D xs W hD rfl ⟨h1, h2, hb, hsW, hlk⟩ hK
            rw [HSZ.out] at hD
            have hm := more_eq (l := l) (now := now) (m := l.length - 1) (fun k hk => hlk k (by rw [List.length_range]; exact hk)) (by omega) (.inl (by omega))
            have hgd : goodN l now = l.length := by
              unfold goodN
              rw [if_neg (by intro h; rw [h] at hp; simp at hp), HD.out, hm]; simp; omega
            have HG := Lib.hid hgd
            have c1 := h1.cell
            rw [List.length_range, show (1 + ((l.length - 1 : Nat) : Int)) = (l.length : Int) by omega] at c1
            have HB := Lib.hid hb
            have HK := Lib.hid hK
            have hlt1 : (l.length : Int) ≤ (cp : Int) := by omega
            clear h1 h2 hb hlk hK hI0 HTH hm hgd HIL HF
            gi_wp2
            refine calmly_ret ?_
            refine ⟨by simp, .inl ⟨_, _, rfl, run_takeDeferred HK.out, ?_⟩⟩
            exact ⟨.slice (some ⟨g, off, none⟩) l.length l.length, by simp [results, Tryz.results85, go_sem], by rw [HG.out]; exact ⟨_, _, rfl, .inr rfl, HB.out.trans (belowK_b (w := w) (Nat.le_refl _) W D _ (.deferred none) (by omega) HK.out rfl rfl)⟩⟩
          case stop =>
            rintro D c pre W hD hp ⟨⟨rfl, hm, hpl⟩, h1, hb⟩ hK
            rw [HSZ.out] at hD
            have hgd : goodN l now = pre.length := by
              unfold goodN
              rw [if_neg (by intro h; subst h; simp at hp), HD.out, ← hm]; rfl
            have HG := Lib.hid hgd
            obtain ⟨N, hN⟩ : ∃ N, N = pre.length := ⟨_, rfl⟩
            rw [← hN] at HG h1 hpl
            have c1 := h1.cell
            have HB := Lib.hid hb
            have HK := Lib.hid hK
            have hlt1 : N ≤ cp := by omega
            clear h1 hb hK hI0 HTH hm hgd HIL HF hN
            gi_wp2
            refine calmly_ret ?_
            refine ⟨by simp, .inl ⟨_, _, rfl, run_takeDeferred HK.out, ?_⟩⟩
            exact ⟨.slice (some ⟨g, off, none⟩) N N, by simp [results, Tryz.results85, go_sem], by rw [HG.out]; exact ⟨_, _, rfl, .inr rfl, HB.out.trans (belowK_b (w := w) (Nat.le_refl _) W D _ (.deferred none) (by omega) HK.out rfl rfl)⟩⟩
end Go.Proofs.YtnaoandleelbkaaGreatDoor

namespace Go.Proofs.YtnaoandleelbkaaGreatDoor
set_option linter.unusedSimpArgs false
set_option linter.unusedVariables false
open Go Go.RowKit
set_option maxRecDepth 100000

theorem any_takeC {p : Ct → Bool} {l : List Ct} {k : Nat} (hk : k < l.length) : (l.take (k + 1)).any p = ((l.take k).any p || p (ctAt l k)) := by
  rw [List.take_succ_eq_append_getElem hk, List.any_append]
  unfold ctAt
  rw [List.getD_eq_getElem?_getD, List.getElem?_eq_getElem hk]; simp
set_option maxHeartbeats 4000000 in
/-- Over certificates: a function that keeps what lies. -/
theorem indexC_any {N : Nat} {caps : Array Value} (he : ∀ args w, (callFunc N args).run Tryz.prog w = .ok (.enter N args) w) {p : Ct → Bool} {w : World} (Inv : World → Prop)
    (hstep : ∀ (c : Ct) a m cc W, Inv W → Below w.heap.size w W → Calls Tryz.prog N (#[.agg #[sv c.key, sv c.sig, .slice a m cc, .int .i64 c.fr, .int .i64 c.un, .bool c.ca]] ++ caps) W fun e w' => e = .returned (.bool (p c)) ∧ Inv w' ∧ Below w.heap.size w w')
    (l : List Ct) (A : Option Addr) (cp : Nat) (nv : Nat → Value) (hr : CR w A l nv) (hn : l.length ≤ 1000000) (h0 : Inv w) :
    Calls Tryz.prog 139 #[.slice A l.length cp, .func (.func N) #[] caps] w fun e w' => e = .returned (.int .i64 (idxI p l)) ∧ Inv w' ∧ Below w.heap.size w w' := by
  have HS := Lib.hid hstep
  have HR := Lib.hid hr
  have H0 := Lib.hid h0
  clear hstep hr h0
  go_enter Tryz.func139, Tryz.ntmps139
  go_wp2_with fail
  go_loopw [8] (fun i wr => ∃ k : Nat, k ≤ l.length ∧ i = .int .i64 k ∧ (l.take k).any p = false ∧ Inv wr ∧ Below w.heap.size w wr) (fun i _ => l.length - (intOf i).toNat)
  case atStart => exact ⟨0, Nat.zero_le _, rfl, rfl, H0.out, Below.refl _ _⟩
  case round =>
    obtain ⟨k, hk, rfl, hall, hi, hb⟩ := hrel
    have HA := Lib.hid hall
    have HI := Lib.hid hi
    have HB := Lib.hid hb
    clear hall hi hb
    by_cases hlt : k < l.length
    · obtain ⟨g, off, rfl, _, hcc, hsx⟩ := (HR.out.step HB.out).at hlt
      obtain ⟨a1, c1, e1⟩ := hsx.form
      rw [e1] at hcc
      obtain ⟨p0, p1, p2, p3, p4, p5⟩ := hcc
      have hlt' : (k : Int) < (l.length : Int) := by omega
      have hal := any_takeC (p := p) hlt
      rw [HA.out, Bool.false_or] at hal
      have hgx : l[k] = ctAt l k := by unfold ctAt; rw [List.getD_eq_getElem?_getD, List.getElem?_eq_getElem hlt]; rfl
      have hat : p (ctAt l k) = true → idxI p l = (k : Int) := fun h => idx_at hlt HA.out (by rw [hgx]; exact h)
      obtain ⟨x, hxe⟩ : ∃ x, x = ctAt l k := ⟨_, rfl⟩
      rw [← hxe] at p0 p1 p2 p3 p4 p5 hal hat
      have HST := Lib.hid (HS.out x a1 x.names.length c1 wr HI.out HB.out)
      clear hgx hxe e1 hsx
      cases hp : p x with
      | false =>
        rw [hp] at hal HST
        have HAL := Lib.hid hal
        clear hal hp hat
        go_wp2_with (go_at_fn N; refine HST.out.mono ?_; rintro e w1 ⟨rfl, hi1, hb1⟩; have HI1 := Lib.hid hi1; have HB1 := Lib.hid hb1; clear hi1 hb1)
        go_roundw
        case rel => exact ⟨k + 1, by omega, by go_num, HAL.out, HI1.out, HB1.out⟩
        case measure => simp [intOf]; omega
      | true =>
        rw [hp] at HST
        have HAT := Lib.hid (hat hp)
        clear hal hp hat
        go_wp2_with (go_at_fn N; refine HST.out.mono ?_; rintro e w1 ⟨rfl, hi1, hb1⟩; have HI1 := Lib.hid hi1; have HB1 := Lib.hid hb1; clear hi1 hb1)
        go_ret
        rw [HAT.out]
        exact ⟨rfl, HI1.out, HB1.out⟩
    · obtain rfl : k = l.length := by omega
      rw [List.take_length] at HA
      have HF := Lib.hid (show idxI p l = -1 by unfold idxI; rw [HA.out]; rfl)
      go_wp2_with fail
      go_ret
      rw [HF.out]
      exact ⟨rfl, HI.out, HB.out⟩

set_option maxHeartbeats 2000000 in
theorem anch1_any {w : World} (c : Ct) (a : Option Addr) (m cc k : Nat) (an : List (List UInt8)) (B : Option Addr) (bc : Nat) (hk : Boxed w k 25 (.slice B an.length bc)) (hx : SX w (.slice B an.length bc) an) (hl : an.length ≤ 1000000000) :
    Calls Tryz.prog 86 #[.agg #[sv c.key, sv c.sig, .slice a m cc, .int .i64 c.fr, .int .i64 c.un, .bool c.ca], .pointer (some ⟨k, 0, none⟩)] w fun e w' => e = .returned (.bool (an.contains c.sig)) ∧ Below w.heap.size w w' := by
  obtain ⟨key, sig, names, fr, un, ca⟩ := c
  have c0 := hk.cell
  have hkl := hk.lt
  have HC := Lib.hid (fun W (hb : Below w.heap.size w W) => @contains_any W an B bc sig (hx.step hb) hl)
  have HB := Lib.hid (below_alloc w (cellsC ⟨key, sig, names, fr, un, ca⟩ (.slice a m cc)))
  obtain ⟨b, hb⟩ : ∃ b, b = an.contains sig := ⟨_, rfl⟩
  rw [← hb] at HC
  show Calls Tryz.prog 86 _ w fun e w' => e = .returned (.bool (an.contains sig)) ∧ Below w.heap.size w w'
  rw [← hb]
  clear hk hx hb
  go_enter Tryz.func86, Tryz.ntmps86
  go_wp2_with (go_at_call 87; refine (HC.out _ (by first | exact HB.out | exact HB.out.drew)).mono ?_; rintro e w1 ⟨rfl, rfl⟩)
  go_ret
  exact ⟨rfl, by first | exact HB.out | exact HB.out.drew⟩

set_option maxHeartbeats 4000000 in
theorem anch_any {w : World} (l : List Ct) (A : Option Addr) (cp : Nat) (nv : Nat → Value) (now : Int) (an : List (List UInt8)) (B : Option Addr) (bc : Nat) (hr : CR w A l nv) (hs : shortR l) (hcp : l.length ≤ cp)
    (hx : SX w (.slice B an.length bc) an) (hl : an.length ≤ 1000000000) (hw : GA w) :
    Calls Tryz.prog 37 #[.slice A l.length cp, .int .i64 now, .slice B an.length bc] w fun e w' => e = .returned (.bool (anchB l now an)) ∧ Below w.heap.size w w' := by
  have hb0 := below_alloc w (.cells #[.slice B an.length bc] 25)
  have hk0 : Boxed (w.alloc (.cells #[.slice B an.length bc] 25)) w.heap.size 25 (.slice B an.length bc) := Boxed.new w _ _
  obtain ⟨W, hW⟩ : ∃ W, W = w.alloc (.cells #[.slice B an.length bc] 25) := ⟨_, rfl⟩
  rw [← hW] at hb0 hk0
  obtain ⟨N, hN⟩ : ∃ N, N = goodN l now := ⟨_, rfl⟩
  have hNl : N ≤ l.length := by rw [hN]; exact good_le l now
  have HGD := Lib.hid (show Calls Tryz.prog 85 #[.slice A l.length cp, .int .i64 now] W (GoodPost W A N) by rw [hN]; exact good_any l A cp nv now (hr.step hb0) hs hcp (hw.below hb0))
  have htl : (l.take N).length = N := by rw [List.length_take]; omega
  have hix := fun (A' : Option Addr) (c' : Nat) (W2 : World) (hb2 : Below W.heap.size W W2) (hA : N = 0 ∨ A' = A) =>
    indexC_any (N := 86) (caps := #[.pointer (some ⟨w.heap.size, 0, none⟩)]) (enters_of Tryz.func86 (by kernel_rfl) rfl) (p := fun c => an.contains c.sig) (w := W2) (fun W' => Below W2.heap.size W2 W')
      (fun c a m cc W' hi hb => (anch1_any c a m cc w.heap.size an B bc ((hk0.kept (grownBelow (hb2.trans (hi.mono hb2.size)) none) (by simp))) (hx.step (hb0.trans ((hb2.trans (hi.mono hb2.size)).mono hb0.size))) hl).mono fun e w' ⟨h1, h2⟩ => ⟨h1, hi.trans (h2.mono hi.size), hb.trans (h2.mono hb.size)⟩)
      (l.take N) A' c' nv (by
        rcases hA with h0 | rfl
        · subst h0; rw [List.take_zero]; exact CR.nil _ _ _
        · exact (hr.step (hb0.trans (hb2.mono hb0.size))).take N) (by rw [htl]; have := hs.1; omega) (Below.refl _ _)
  rw [htl] at hix
  have HIX := Lib.hid hix
  have HGE := Lib.hid (idxI_ge (fun c : Ct => an.contains c.sig) (l.take N))
  have HB := Lib.hid hb0
  have HW := Lib.hid hW
  obtain ⟨z, hz⟩ : ∃ z, z = idxI (fun c : Ct => an.contains c.sig) (l.take N) := ⟨_, rfl⟩
  obtain ⟨b, hb⟩ : ∃ b, b = anchB l now an := ⟨_, rfl⟩
  rw [← hz, show (l.take N).any (fun c : Ct => an.contains c.sig) = b by rw [hb, hN]; rfl] at HGE
  rw [← hz] at HIX
  rw [← hb]
  have HCF := Lib.hid (fun (A' : Option Addr) (c' : Nat) (W2 : World) (hb2 : Below W.heap.size W W2) (hA : N = 0 ∨ A' = A) => show Calls Tryz.prog 84 #[.slice A' N c', .func (.func 86) #[] #[.pointer (some ⟨w.heap.size, 0, none⟩)]] W2 (fun e w' => e = .returned (.bool b) ∧ Below W2.heap.size W2 w') by
    have HI2 := Lib.hid (HIX.out A' c' W2 hb2 hA)
    clear hr hs hx hw hW hb0 hk0 hz hb HB HW hix HIX HGD hb2 hA hcp hl hN hNl htl
    go_enter Tryz.func84, Tryz.ntmps84
    go_wp2_with (go_at_call 139; refine HI2.out.mono ?_; rintro e w1 ⟨rfl, _, hb1⟩)
    go_ret
    rw [← HGE.out]
    exact ⟨rfl, hb1⟩)
  clear hr hs hx hw hW hb0 hk0 hz hb hix HIX HGE hcp hl hN hNl htl
  go_enter Tryz.func37, Tryz.ntmps37
  go_wp2_with fail
  rw [← HW.out]
  go_wp2_with (first
    | (go_at_call 85; refine HGD.out.mono ?_; rintro e w1 ⟨A', c', rfl, hA, hb1⟩; have HB1 := Lib.hid hb1; have HA := Lib.hid hA; clear hb1 hA)
    | (go_at_call 84; refine (HCF.out A' c' _ HB1.out HA.out).mono ?_; rintro e w2 ⟨rfl, hb2⟩))
  go_ret
  exact ⟨rfl, HB.out.trans ((HB1.out.trans (hb2.mono HB1.out.size)).mono HB.out.size)⟩
end Go.Proofs.YtnaoandleelbkaaGreatDoor
