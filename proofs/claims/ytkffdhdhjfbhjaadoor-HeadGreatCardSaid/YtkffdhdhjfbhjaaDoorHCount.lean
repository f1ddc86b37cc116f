/-
  The iterator over those fields that count (by their name): an iterator within an iterator.
-/
import Derived.BigGuardPartIn
import Derived.Test.YtkffdhdhjfbhjaaDoorHKeep
namespace Go.Proofs.YtkffdhdhjfbhjaaDoor
set_option linter.unusedSimpArgs false
set_option linter.unusedVariables false
open Go Go.RowKit Go.Shelf
set_option maxRecDepth 100000
attribute [local go_sem] Oper.semAt_some

set_option maxHeartbeats 1000000 in
theorem named1_any (f : FP) (Bn : Nat) (nm : List UInt8) (w : World) (h1 : f.1.length ≤ 1000000) (h2 : nm.length ≤ 1000000) (hc : w.cell? ⟨Bn, 0, none⟩ = some (sv nm)) :
    Calls Tryd.prog 52 #[fv f, .pointer (some ⟨Bn, 0, none⟩)] w fun e w' => e = .returned (.bool (likeB f.1 nm)) ∧ Below w.heap.size w w' := by
  obtain ⟨n, v⟩ := f
  dsimp only at h1 ⊢
  have hBn : Bn < w.heap.size := block_lt_of_cell hc
  obtain ⟨W, hW⟩ : ∃ W, W = w.alloc (.cells #[sv n, sv v] 29) := ⟨_, rfl⟩
  have hbel : Below w.heap.size w W := by rw [hW]; exact below_alloc _ _
  have hbox : W.heap[w.heap.size]? = some (.cells #[sv n, sv v] 29 (0, 0)) := by rw [hW]; exact heap_alloc_new w _
  have d0 : W.cell? ⟨w.heap.size, 0, none⟩ = some (sv n) := by rw [cellAt hbox]; rfl
  have c1 : W.cell? ⟨Bn, 0, none⟩ = some (sv nm) := (hbel.cell (p := ⟨Bn, 0, none⟩) hBn).trans hc
  have HBL := Lib.hid hbel
  have HW := Lib.hid hW
  have HL := Lib.hid (like_any n nm W h1 h2)
  rw [hW] at c1
  clear hW hbel hbox hc d0
  go_enter Tryd.func52, Tryd.ntmps52
  go_wp2_with fail
  rw [← HW.out]
  refine HL.out.mono ?_
  rintro e w2 ⟨rfl, hb2⟩
  have HB2 := Lib.hid (HBL.out.trans (hb2.mono HBL.out.size))
  clear hb2
  go_wp2_with fail
  go_ret
  exact ⟨rfl, HB2.out⟩

theorem named_call (s : ByteArray) (w : World) :
    Calls Tryd.prog 37 #[.string s] w fun e w' => e = .returned (.func (.func 52) #[] #[.pointer (some ⟨w.heap.size, 0, none⟩)]) ∧ w' = w.alloc (.cells #[.string s] 9) := by
  go_enter Tryd.func37, Tryd.ntmps37
  go_wp2
  go_ret
  exact ⟨rfl, rfl⟩

theorem counted_call (s : ByteArray) (fn : Fn) (bs caps : Array Value) (w : World) :
    Calls Tryd.prog 36 #[.string s, .func fn bs caps] w fun e w' => e = .returned (.func (.func 51) #[] #[.pointer (some ⟨w.heap.size, 0, none⟩), .pointer (some ⟨w.heap.size + 1, 0, none⟩)]) ∧ w' = (w.alloc (.cells #[.string s] 9)).alloc (.cells #[.func fn bs caps] 59) := by
  go_enter Tryd.func36, Tryd.ntmps36
  go_wp2
  go_ret
  exact ⟨rfl, rfl⟩

theorem handsO_wide {α : Type} {m m' : Nat} {P : Program} {g : Nat} {lb : Array Value} {encs : α → Array Value} {Kp : World → World → Prop} {Nxt : List α → α → Prop} {S Sp : List α → Prop} {w : World} (h : HandsO Fence.wide m P g lb encs Kp Nxt S Sp w) : HandsO Fence.wide m' P g lb encs Kp Nxt S Sp w :=
  fun l J Jx W hb hJ hJx hY h0 => callsIn_wide.2 (callsIn_wide.1 (h l J Jx W hb hJ hJx (fun pre x W1 hj hn => yieldAt_wide (hY pre x W1 hj hn)) h0))

/-- A field in a box of its own. -/
def FB2 (W : World) (k : Nat) (f : FP) : Prop := W.heap[k]? = some (.cells #[sv f.1, sv f.2] 29 (0, 0))
theorem FB2.below {A B : World} {k : Nat} {f : FP} (h : FB2 A k f) (hb : Below A.heap.size A B) : FB2 B k f := (hb.block k (lt_of_blk h)).trans h
theorem FB2.own (f : FP) (k n : Nat) : OwnFrom n (fun (_ : Unit) W => FB2 W k f) := fun s W W' row h hg hr =>
  (hg.block k (lt_of_blk h) (fun e => by obtain ⟨_, o, ho, hc⟩ := hr k e.symm; rw [show W.heap[k]? = _ from h] at ho; cases ho; cases hc)).trans h
theorem FB2.c0 {W : World} {k : Nat} {f : FP} (h : FB2 W k f) : W.cell? ⟨k, 0, none⟩ = some (sv f.1) := by rw [cellAt h]; rfl
theorem FB2.c1 {W : World} {k : Nat} {f : FP} (h : FB2 W k f) : W.cell? ⟨k, 1, none⟩ = some (sv f.2) := by rw [cellAt h]; rfl
theorem keepsFrom_below {n : Nat} {A B : World} (hb : Below A.heap.size A B) : KeepsFrom n A B := ⟨hb.size, fun k o _ h0 _ => (hb.block k (lt_of_blk h0)).trans h0⟩

/-- Which count. -/
def cntB (nm : List UInt8) (x : FI) : Bool := likeB x.1.1 nm
def cF (s nm : List UInt8) : List FP := (fieldsL s).filter fun f => likeB f.1 nm

theorem vals_filter (nm : List UInt8) (l : List FI) : valsF (l.filter (cntB nm)) = (valsF l).filter fun f => likeB f.1 nm := by
  unfold valsF cntB
  rw [List.filter_map]
  rfl

/-- A box that nobody turns. -/
def FBx (Free : World → Nat → Prop) (W : World) (k : Nat) (t : TypeId) (v : Value) : Prop := Boxed W k t v ∧ Free W k
theorem FBx.kept {Kp : World → World → Prop} {Free : World → Nat → Prop} {n₀ : Nat} (hK : Keeps Kp Free n₀) {A B : World} {k : Nat} {t : TypeId} {v : Value} (h : FBx Free A k t v) (hk : Kp A B) : FBx Free B k t v := by
  obtain ⟨k1, k2⟩ := hK.keep hk (show A.heap[k]? = some (.cells #[v] t (0, 0)) from h.1) h.2
  exact ⟨k1.trans h.1, k2⟩
theorem FBx.ownFrom {Kp : World → World → Prop} {Free : World → Nat → Prop} {n₀ : Nat} {w0 : World} (hG : KpG Kp Free n₀ w0) (k : Nat) (t : TypeId) (v : Value) : OwnFrom w0.heap.size (fun (_ : Unit) W => FBx Free W k t v) := fun s W W' row h hg hr =>
  ⟨h.1.kept hg (fun e => by obtain ⟨_, o, ho, hc⟩ := hr k e.symm; rw [show W.heap[k]? = _ from h.1] at ho; cases ho; cases hc), hG.own k s W W' row h.2 hg hr⟩

/-- The closure that counts. -/
abbrev namedV (Bn : Nat) : Value := .func (.func 52) #[] #[.pointer (some ⟨Bn, 0, none⟩)]

set_option maxHeartbeats 4000000 in
theorem counted_hands {Kp : World → World → Prop} {Free : World → Nat → Prop} {n₀ : Nat} (Bs Bc Bn : Nat) (s0 nm : List UInt8) (hs : s0.length ≤ 1000000) (hnm : nm.length ≤ 1000000) (hn0 : 0 < n₀) (w : World) (hG : KpG Kp Free n₀ w) (hM : ML w)
    (hBs : Bs < w.heap.size) (hB : w.cell? ⟨Bs, 0, none⟩ = some (sv s0)) (hBc : Boxed w Bc 59 (namedV Bn)) (hBn : Boxed w Bn 9 (sv nm)) (hFc : ∀ {W : World}, Below w.heap.size w W → Free W Bc) (hFn : ∀ {W : World}, Below w.heap.size w W → Free W Bn) :
    HandsO Fence.wide 4 Tryd.prog 51 #[.pointer (some ⟨Bs, 0, none⟩), .pointer (some ⟨Bc, 0, none⟩)] (fun x : FI => #[fv x.1]) Kp (fun pre x => valsF (pre ++ [x]) <+: cF s0 nm) (fun xs => valsF xs = cF s0 nm) (fun pre => valsF pre <+: cF s0 nm) w := by
  intro l J Jx W hb hJ hJx hY h0
  have hG1 := hG.step hb
  have cs := (hb.cell (p := ⟨Bs, 0, none⟩) hBs).trans hB
  obtain ⟨Wl, hWl⟩ : ∃ Wl, Wl = (W.alloc (.cells #[.func (.yield l) #[] #[]] 59)).alloc (.cells #[sv s0] 9) := ⟨_, rfl⟩
  have cs1 : (W.alloc (.cells #[.func (.yield l) #[] #[]] 59)).cell? ⟨Bs, 0, none⟩ = some (sv s0) := ((below_alloc W _).cell (p := ⟨Bs, 0, none⟩) (block_lt_of_cell cs)).trans cs
  have hbl : Below W.heap.size W Wl := by rw [hWl]; exact ((Below.refl _ W).alloc (Nat.le_refl _) _).alloc (by simp) _
  have hsz : Wl.heap.size = W.heap.size + 2 := by rw [hWl]; simp
  have hG2 := hG1.step hbl
  have hbw : Below w.heap.size w Wl := hb.trans (hbl.mono hb.size)
  have b0 : Boxed Wl W.heap.size 59 (.func (.yield l) #[] #[]) := by rw [hWl]; exact (Boxed.new W _ _).alloc _
  have b1 : Boxed Wl (W.heap.size + 1) 9 (sv s0) := by rw [hWl]; have := Boxed.new (W.alloc (.cells #[.func (.yield l) #[] #[]] 59)) 9 (sv s0); rw [World.size_alloc] at this; exact this
  have f0 : FBx Free Wl W.heap.size 59 (.func (.yield l) #[] #[]) := ⟨b0, hG1.free hbl (Nat.le_refl _)⟩
  have fc : FBx Free Wl Bc 59 (namedV Bn) := ⟨(hbw.block _ hBc.lt).trans hBc, hFc hbw⟩
  have fn : FBx Free Wl Bn 9 (sv nm) := ⟨(hbw.block _ hBn.lt).trans hBn, hFn hbw⟩
  have hMl : ML Wl := (hM.step hb).step hbl
  have hJb : ∀ pre A B, J pre A → Below A.heap.size A B → J pre B := fun pre A B h hb => hJ _ _ _ none h ⟨hb.os, hb.tape, hb.output, hb.size, fun k hk _ => hb.block k hk⟩ (fun r e => by cases e)
  have hJl : J [] Wl := hJb _ _ _ h0 hbl
  have hup : ∀ {W' : World} {row : Option Nat}, (∀ r, row = some r → Wl.heap.size ≤ r ∧ ∃ o : Obj, W'.heap[r]? = some o ∧ o.isCells = false) → (∀ r, row = some r → W.heap.size ≤ r ∧ ∃ o : Obj, W'.heap[r]? = some o ∧ o.isCells = false) := fun hr r e => ⟨by have := (hr r e).1; omega, (hr r e).2⟩
  obtain ⟨I, hI⟩ : ∃ I : List FI → World → Prop, I = fun pre W' => J (pre.filter (cntB nm)) W' ∧ FBx Free W' W.heap.size 59 (.func (.yield l) #[] #[]) ∧ FBx Free W' Bc 59 (namedV Bn) ∧ FBx Free W' Bn 9 (sv nm) ∧ Wl.heap.size ≤ W'.heap.size := ⟨_, rfl⟩
  obtain ⟨Ix, hIx⟩ : ∃ Ix : Code → List FI → World → Prop, Ix = fun c pre W' => c = .ret ∧ Jx (pre.filter (cntB nm)) W' := ⟨_, rfl⟩
  have hIo : OwnFrom Wl.heap.size I := by
    rw [hI]
    rintro pre A B row ⟨i1, i2, i3, i4, i5⟩ hg hr
    exact ⟨hJ _ _ _ _ i1 hg (hup hr), FBx.ownFrom hG2 _ _ _ () _ _ _ i2 hg hr, FBx.ownFrom hG2 _ _ _ () _ _ _ i3 hg hr, FBx.ownFrom hG2 _ _ _ () _ _ _ i4 hg hr, Nat.le_trans i5 hg.size⟩
  have hIxo : ∀ c, OwnFrom Wl.heap.size (Ix c) := by
    rw [hIx]
    rintro c pre A B row ⟨i1, i2⟩ hg hr
    exact ⟨i1, hJx _ _ _ _ i2 hg (hup hr)⟩
  have hI0 : I [] Wl := by rw [hI]; exact ⟨hJl, f0, fc, fn, Nat.le_refl _⟩
  have hHF := fields_hands (W.heap.size + 1) s0 hs hn0 Wl hG2 hMl (by omega) b1.cell
  have HY := Lib.hid hY
  have HJO := Lib.hid hJ
  have HJXO := Lib.hid hJx
  have HG := Lib.hid hG2
  have HWL := Lib.hid hWl
  have HJB := Lib.hid hJb
  have HB := Lib.hid hbw
  have HI := Lib.hid hI
  have HIX := Lib.hid hIx
  have HSZ := Lib.hid hsz
  clear hsz hI hIx hY hG1 hJb hJl fc fn f0 hG hJ hJx hWl
  refine callsIn_of_wp_marks Tryd.func51 rfl trivial (wpIn_calmly ?_) rfl
  simp only [Tryd.ntmps51, List.size_toArray, List.length_cons, List.length_nil, Nat.reduceAdd, Nat.reduceSub, Array.replicate_succ, Array.replicate_zero, List.push_toArray, List.append_toArray, List.nil_append, List.cons_append]
  gi_wp2_with (refine ⟨trivial, ?_⟩; gi_at_call 40; refine (callsIn_wide.2 (fields_call _ _)).mono ?_; rintro e w' ⟨rfl, rfl⟩)
  rw [← HWL.out]
  refine wpIn_rangeFunc_hd (α := FI) (w := Wl) rfl (by omega) (gf := 54) (lb := #[.pointer (some ⟨W.heap.size + 1, 0, none⟩)]) rfl trivial (enters_of Tryd.func54 (by kernel_rfl) rfl)
    (handsO_wide hHF) HG.out.trans (fun W' o o' ho hc => HG.out.put W' _ o o' (Nat.le_succ _) ho hc) (fun _ => rfl) I Ix hIo hIxo hI0
    (fun x a' W' => ∃ k, a' = { tmps := #[.func (.yield l) #[] #[], .pointer (some ⟨Bs, 0, none⟩), .pointer (some ⟨Bc, 0, none⟩), .pointer (some ⟨W.heap.size, 0, none⟩), .pointer (some ⟨k, 0, none⟩), sv s0, .func (.func 54) #[] #[.pointer (some ⟨W.heap.size + 1, 0, none⟩)], fv x.1, undef, undef, undef, undef, undef, undef, undef, undef, undef], defers := [] } ∧ FB2 W' k x.1)
    (fun x a' s A B row ⟨k, e, h⟩ hg hr => ⟨k, e, FB2.own x.1 k _ () A B row h hg hr⟩)
    ?assign ?body ?done ?stop
  case assign =>
    intro l' pre x W' K hi hnx hK
    have hsz' : Wl.heap.size ≤ W'.heap.size := by rw [HI.out] at hi; exact hi.2.2.2.2
    have hii : I pre (W'.alloc (.cells #[sv x.1.1, sv x.1.2] 29)) := hIo.alloc _ hi
    gi_wp2
    exact hK _ _ (keepsFrom_below (below_alloc _ _)) (HG.out.below hsz' (below_alloc _ _)) hii ⟨W'.heap.size, rfl, heap_alloc_new W' _⟩
  case body =>
    rintro l' pre x a' W' hi hnx ⟨k, rfl, hk⟩
    rw [HI.out] at hi
    obtain ⟨i1, i2, i3, i4, i5⟩ := hi
    have k0 := hk.c0
    have k1 := hk.c1
    have c3 := i2.1.cell
    have c2 := i3.1.cell
    have HK := Lib.hid hk
    have I1 := Lib.hid i1
    have I2 := Lib.hid i2
    have I3 := Lib.hid i3
    have I4 := Lib.hid i4
    have HNX := Lib.hid hnx
    have KK := Lib.hid (show ∀ w3, Below W'.heap.size W' w3 → w3.cell? ⟨W.heap.size, 0, none⟩ = some (.func (.yield l) #[] #[]) ∧ w3.cell? ⟨k, 0, none⟩ = some (sv x.1.1) ∧ w3.cell? ⟨k, 1, none⟩ = some (sv x.1.2) from fun w3 hb3 =>
      ⟨(I2.out.kept HG.out.keeps (HG.out.below i5 hb3)).1.cell, (HK.out.below hb3).c0, (HK.out.below hb3).c1⟩)
    have hnm1 := Lib.hid (named1_any x.1 Bn nm W' x.2.1 hnm i4.1.cell)
    clear hk i1 i2 i3 i4 hnx
    cases hc : likeB x.1.1 nm with
    | false =>
      rw [hc] at hnm1
      have hf : (pre ++ [x]).filter (cntB nm) = pre.filter (cntB nm) := by
        rw [List.filter_append]
        have : [x].filter (cntB nm) = [] := by simp [List.filter, cntB, hc]
        rw [this, List.append_nil]
      have HF := Lib.hid hf
      clear hf hc
      gi_wp2_with (refine ⟨trivial, ?_⟩; gi_at_call 52; refine (CallsIn.inRound l' (callsIn_wide.2 hnm1.out)).mono ?_; rintro e w3 ⟨rfl, hb3⟩)
      refine ⟨(fun f h => by cases h), ?_⟩
      gi_wp2
      have kp : Kp W' w3 := HG.out.below i5 hb3
      refine ⟨keepsFrom_below hb3, kp, ?_⟩
      rw [HI.out]
      dsimp only
      rw [HF.out]
      exact ⟨HJB.out _ _ _ I1.out hb3, I2.out.kept HG.out.keeps kp, I3.out.kept HG.out.keeps kp, I4.out.kept HG.out.keeps kp, Nat.le_trans i5 hb3.size⟩
    | true =>
      rw [hc] at hnm1
      have hf : (pre ++ [x]).filter (cntB nm) = pre.filter (cntB nm) ++ [x] := by
        rw [List.filter_append]
        have : [x].filter (cntB nm) = [x] := by simp [List.filter, cntB, hc]
        rw [this]
      have hpf : valsF (pre.filter (cntB nm) ++ [x]) <+: cF s0 nm := by
        rw [← hf, vals_filter]
        exact HNX.out.filter _
      have HF := Lib.hid hf
      have HPF := Lib.hid hpf
      clear hf hc hpf
      gi_wp2_with (refine ⟨trivial, ?_⟩; gi_at_call 52; refine (CallsIn.inRound l' (callsIn_wide.2 hnm1.out)).mono ?_; rintro e w3 ⟨rfl, hb3⟩; obtain ⟨q0, q1, q2⟩ := KK.out _ hb3; have HB3 := Lib.hid hb3; clear hb3)
      have kp := HG.out.below i5 HB3.out
      obtain ⟨fn', tmps, assign, bodyc, hy, hR⟩ := yieldAt_wide (m' := 1) (HY.out _ x w3 (HJB.out _ _ _ I1.out HB3.out) HPF.out)
      have HKP := Lib.hid kp
      clear kp
      rw [hy]
      gi_wp2
      refine RoundIn.mono (F := Fence.wide) hR ?_
      clear hR hy
      rintro e W4 ⟨⟨k4, f4⟩, ⟨rfl, hJ4⟩ | ⟨rfl, hJ4⟩⟩
      · have HK4 := Lib.hid k4
        have HF4 := Lib.hid f4
        have HJ4 := Lib.hid hJ4
        clear k4 f4 hJ4
        gi_wp2
        have kp4 : Kp W' W4 := HG.out.trans HKP.out HK4.out
        refine ⟨(keepsFrom_below HB3.out).trans ⟨HF4.out.size, fun k o hk h0 ho => HF4.out.same k o (by have := HSZ.out; omega) h0 ho⟩, kp4, ?_⟩
        rw [HI.out]
        dsimp only
        rw [HF.out]
        exact ⟨HJ4.out, I2.out.kept HG.out.keeps kp4, I3.out.kept HG.out.keeps kp4, I4.out.kept HG.out.keeps kp4, Nat.le_trans i5 (Nat.le_trans HB3.out.size HF4.out.size)⟩
      · have HK4 := Lib.hid k4
        have HF4 := Lib.hid f4
        have HJ4 := Lib.hid hJ4
        clear k4 f4 hJ4
        gi_wp2
        have kp4 : Kp W' W4 := HG.out.trans HKP.out HK4.out
        refine ⟨(keepsFrom_below HB3.out).trans ⟨HF4.out.size, fun k o hk h0 ho => HF4.out.same k o (by have := HSZ.out; omega) h0 ho⟩, kp4, ?_⟩
        rw [HIX.out]
        dsimp only
        rw [HF.out]
        exact ⟨rfl, HJ4.out⟩
  case done =>
    rintro D xs W' hD hxs hi hK
    rw [HI.out] at hi
    have HJ1 := Lib.hid (HJO.out.putObj (.deferred none) hi.1 (by have := HSZ.out; omega) hK rfl)
    have HKD := Lib.hid hK
    have HXS := Lib.hid (show valsF (xs.filter (cntB nm)) = cF s0 nm by rw [vals_filter, hxs]; rfl)
    clear hi hK hxs
    gi_wp2
    refine ⟨by simp, .inl ⟨_, _, rfl, run_takeDeferred HKD.out, ?_⟩⟩
    exact ⟨.tuple #[], by simp [results, Tryd.results51, go_sem], ⟨_, rfl⟩, .inl ⟨_, HXS.out, HJ1.out⟩⟩
  case stop =>
    rintro D c pre W' hD hp hi hK
    rw [HIX.out] at hi
    obtain ⟨rfl, hi⟩ := hi
    have HJ1 := Lib.hid (HJXO.out.putObj (.deferred none) hi (by have := HSZ.out; omega) hK rfl)
    have HKD := Lib.hid hK
    have HXS := Lib.hid (show valsF (pre.filter (cntB nm)) <+: cF s0 nm by rw [vals_filter]; exact hp.filter _)
    clear hi hK hp
    gi_wp2
    refine ⟨by simp, .inl ⟨_, _, rfl, run_takeDeferred HKD.out, ?_⟩⟩
    exact ⟨.tuple #[], by simp [results, Tryd.results51, go_sem], ⟨_, rfl⟩, .inr ⟨_, HXS.out, HJ1.out⟩⟩
end Go.Proofs.YtkffdhdhjfbhjaaDoor
