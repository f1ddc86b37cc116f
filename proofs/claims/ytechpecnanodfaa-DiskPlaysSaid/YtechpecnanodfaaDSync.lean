/-
  Sync, kept and Boot of the program's disk.
-/
import Derived.Test.YtechpecnanodfaaDCopy
namespace Go.Proofs.Ytechpecnanodfaa
open Go Go.RowKit Go.Maps
set_option maxRecDepth 100000
set_option linter.unusedSimpArgs false
set_option linter.unusedVariables false

/-- Numbers that lie in a row. -/
def IR (w : World) (A : Option Addr) (L : List Int) : Prop := ∀ j, j < L.length → ∃ b o, A = some ⟨b, o, none⟩ ∧ b < w.heap.size ∧ w.cell? ⟨b, o + j, none⟩ = some (.int .i64 (L.getD j 0))
theorem IR.kp {w w' : World} {A : Option Addr} {L : List Int} {T : List Nat} (h : IR w A L) (hk : Kp T w w') (hs : ∀ a, A = some a → L ≠ [] → a.block ∉ T) : IR w' A L := fun j hj => by
  obtain ⟨b, o, hA, hb, hc⟩ := h j hj
  exact ⟨b, o, hA, Nat.lt_of_lt_of_le hb hk.size, (World.cell?_of_block (w := w) (hk.block b hb (hs _ hA (fun e => by rw [e] at hj; cases hj)))).trans hc⟩
theorem IR.below {w w' : World} {A : Option Addr} {L : List Int} (h : IR w A L) (hb : Below w.heap.size w w') : IR w' A L := h.kp (Kp.of_below hb []) (by simp)
theorem row_form {n : Nat} {w : World} {v : Value} {L : List Int} (h : w.ownsRow n 3 1 v L.length (L.map encZ)) : ∃ A c, v = .slice A L.length c ∧ IR w A L ∧ (∀ a, A = some a → n ≤ a.block) := by
  rcases h.2 with ⟨rfl, h0⟩ | ⟨g, cap, cur, rfl, hb, hg, _⟩
  · exact ⟨none, 0, by rw [h0], fun j hj => by omega, by simp⟩
  · refine ⟨some ⟨g, 0, none⟩, cap, rfl, fun j hj => ⟨g, 0, rfl, lt_of_blk hg, ?_⟩, fun a ha => by cases ha; exact hb⟩
    have := h.cells (g := g) rfl j (encZ (L.getD j 0)) (by simp [List.getElem?_map, List.getD_eq_getElem?_getD, List.getElem?_eq_getElem hj])
    have e1 : (⟨g, 0, none⟩ : Addr).add j = ⟨g, 0 + j, none⟩ := by unfold Addr.add; split <;> simp_all
    rwa [e1] at this

theorem getD_dL (wet : List Bool) (k : Nat) : (dL wet).getD k 0 = (((dirtyL wet).getD k 0 : Nat) : Int) := by
  unfold dL
  rw [List.getD_eq_getElem?_getD, List.getD_eq_getElem?_getD, List.getElem?_map]
  cases (dirtyL wet)[k]? <;> rfl
theorem drop_cons_getD {L : List Nat} {k : Nat} (h : k < L.length) : L.drop k = L.getD k 0 :: L.drop (k + 1) := by
  rw [List.drop_eq_getElem_cons h, List.getD_eq_getElem?_getD, List.getElem?_eq_getElem h]; rfl
theorem dirtyL_le {S : DS} (h : S.Ok) : (dirtyL S.wet).length ≤ 1024 := by
  have h1 := List.length_filter_le (fun i => S.wet.getD i false) (List.range S.wet.length)
  have h2 := h.hw
  have h3 := h.n2
  rw [List.length_range] at h1
  unfold dirtyL
  omega
/-- What is left of the dirty ones, behind k of them: they are dirty still. -/
structure Rem (S : DS) (kf : Nat → Nat) (k : Nat) (T : DS) : Prop where
  ok : T.Ok
  len : T.was.length = S.was.length
  eq : T.sts kf ((dirtyL S.wet).drop k) k = S.sts kf (dirtyL S.wet) 0
  wet : ∀ j ∈ (dirtyL S.wet).drop k, T.wet.getD j false = true
  off : T.off = S.off ∧ T.ops = S.ops
theorem Rem.start {S : DS} (h : S.Ok) (kf : Nat → Nat) : Rem S kf 0 S := ⟨h, rfl, rfl, fun j hj => (mem_dirtyL.1 hj).2, rfl, rfl⟩
theorem Rem.lt {S T : DS} {kf : Nat → Nat} {k : Nat} (h : Rem S kf k T) (hS : S.Ok) (hk : k < (dirtyL S.wet).length) : (dirtyL S.wet).getD k 0 < T.was.length ∧ T.wet.getD ((dirtyL S.wet).getD k 0) false = true := by
  have hm : (dirtyL S.wet).getD k 0 ∈ (dirtyL S.wet).drop k := by rw [drop_cons_getD hk]; simp
  exact ⟨by rw [h.len]; exact hS.dirty _ (List.mem_of_mem_drop hm), h.wet _ hm⟩
theorem Rem.step {S T : DS} {kf : Nat → Nat} {k : Nat} (h : Rem S kf k T) (hS : S.Ok) (hk : k < (dirtyL S.wet).length) : Rem S kf (k + 1) (T.st ((dirtyL S.wet).getD k 0) (kf k)) := by
  obtain ⟨h1, h2⟩ := h.lt hS hk
  have hd := drop_cons_getD hk
  have he := h.eq
  rw [hd, DS.sts] at he
  have hn : ((dirtyL S.wet).drop k).Nodup := (nodup_dirtyL S.wet).sublist (List.drop_sublist _ _)
  rw [hd, List.nodup_cons] at hn
  refine ⟨h.ok.st h1 _, by rw [DS.st_len, h.len], he, fun j hj => ?_, h.off⟩
  have hne : (dirtyL S.wet).getD k 0 ≠ j := fun e => hn.1 (e ▸ hj)
  simp only [DS.st, getD_set]
  rw [if_neg (fun q => hne q.1)]
  exact h.wet j (by rw [hd]; exact List.mem_cons_of_mem _ hj)
theorem Rem.done {S T : DS} {kf : Nat → Nat} {k : Nat} (h : Rem S kf k T) (hk : (dirtyL S.wet).length ≤ k) : T = S.sts kf (dirtyL S.wet) 0 := by
  have := h.eq
  rwa [List.drop_eq_nil_of_le hk] at this

set_option maxHeartbeats 4000000 in
theorem sync_any {w : World} {p bl bd : Nat} {S : DS} (h : PD w p bl bd S) (hops : S.ops < 4611686018427387904) :
    Calls Try.prog 13 #[dp p] w fun e w' => e = .returned (.int .i64 S.offE) ∧ PD w' p bl bd S.sync ∧ Kp [p, bl, bd] w w' := by
  obtain ⟨c0, c1, c2, c3, c4, c5⟩ := h.cells
  have HH := Lib.hid h
  have HDL0 := Lib.hid (dL_length S.wet)
  have hlt := h.lt
  clear h
  go_enter Try.func13, Try.ntmps13
  cases hoff : S.off with
  | true =>
    rw [hoff] at c5
    go_wp2_with fail
    go_ret
    exact ⟨by simp [DS.offE, hoff], by simp only [DS.sync, hoff]; exact HH.out, Kp.refl _ _⟩
  | false =>
    rw [hoff] at c5
    go_wp2_with (go_at_call 17; refine (dirty_any HH.out).mono ?_; rintro e w1 ⟨v, rfl, hrow, hb1⟩; obtain ⟨A, c, rfl, hir, hA⟩ := row_form hrow)
    have HIR := Lib.hid hir
    have HA := Lib.hid hA
    have HB1 := Lib.hid hb1
    have hsz := HB1.out.size
    have hmax : (dL S.wet).length ≤ 1024 := by
      rw [HDL0.out]
      exact dirtyL_le HH.out.ok
    have hdl := HDL0.out
    generalize hn : (dL S.wet).length = n at hmax hdl ⊢
    have HN := Lib.hid hn
    have HDL := Lib.hid hdl
    clear hir hA hb1 hrow hn hdl
    go_loopw [4, 16] (fun x kv wr => ∃ (k : Nat) (T : DS), kv = .int .i64 (k : Int) ∧ k ≤ n ∧ PD wr p bl bd T ∧ Rem S (fun _ => 128) k T ∧ Kp [p, bl, bd] w wr ∧ IR wr A (dL S.wet)) (fun _ kv _ => n - (intOf kv).toNat)
    case atStart => exact ⟨0, S, rfl, by omega, HH.out.below HB1.out, Rem.start HH.out.ok _, Kp.of_below HB1.out _, HIR.out⟩
    case round =>
      obtain ⟨k, T, rfl, hkn, hP, hR, hK, hI⟩ := hrel
      have HP := Lib.hid hP
      have HR := Lib.hid hR
      have HK := Lib.hid hK
      have HI := Lib.hid hI
      by_cases hk : k < n
      · obtain ⟨b, o, hAe, hb, hc⟩ := hI k (by rw [HN.out]; exact hk)
        rw [getD_dL] at hc
        obtain ⟨q1, q2⟩ := hR.lt HH.out.ok (by rw [← HDL.out]; exact hk)
        have HST := Lib.hid (hR.step HH.out.ok (by rw [← HDL.out]; exact hk))
        have cset := Lib.hid (settle_any hP q1 q2 (m := 128) (Nat.le_refl _))
        have HAB := Lib.hid (HA.out _ hAe)
        have hki : (k : Int) < (n : Int) := by omega
        have hwr : IntKind.i64.wrap ((k : Int) + 1) = (k : Int) + 1 := IntWalk.i64_in _ (by omega)
        have hfree : True := trivial
        generalize (dirtyL S.wet).getD k 0 = d at hc q1 q2 HST cset
        have HAE := Lib.hid hAe
        rw [hAe]
        clear hP hR hK hI hAe q1 q2 hb
        go_wp2_with (go_at_call 34; refine cset.out.mono ?_; rintro e w3 ⟨rfl, hP3, hk3⟩)
        go_roundw
        case rel =>
          refine ⟨k + 1, _, by go_num, by omega, hP3, HST.out, HK.out.trans hk3 (fun j hj _ => hj), ?_⟩
          rw [← HAE.out]
          refine HI.out.kp hk3 (fun a ha _ => ?_)
          have := HA.out a ha
          obtain ⟨l1, l2, l3⟩ := hlt
          simp
          omega
        case measure => simp [intOf]; omega
      · have hk2 : ¬ (k : Int) < (n : Int) := by omega
        have HD := Lib.hid (hR.done (by rw [← HDL.out]; omega))
        have cdone := Lib.hid (done_any hP (by rw [hR.off.2]; exact hops))
        clear hP hR hK hI
        go_wp2_with (go_at_call 33; refine cdone.out.mono ?_; rintro e w3 ⟨rfl, hP3, hk3⟩)
        go_ret
        refine ⟨by simp [DS.offE, hoff], ?_, HK.out.trans hk3 (fun j hj _ => by simp at hj; simp [hj])⟩
        unfold DS.sync
        rw [hoff, ← HD.out]
        exact hP3
end Go.Proofs.Ytechpecnanodfaa
