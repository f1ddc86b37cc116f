/-
  The contracts of head.Hops and head.Plain.
-/
import Derived.Test.YtkffdhdhjfbhjaaDoorHGet
namespace Go.Proofs.YtkffdhdhjfbhjaaDoor
set_option linter.unusedSimpArgs false
set_option linter.unusedVariables false
open Go Go.RowKit Go.Shelf
set_option maxRecDepth 100000
attribute [local go_sem] Oper.semAt_some

/-- Between two rounds of Hops. -/
def HopsI (w : World) (pre : List FI) (W : World) : Prop :=
  Boxed W w.heap.size 3 (.int .i64 (pre.length : Int)) ∧ Below w.heap.size w W ∧ w.heap.size + 4 ≤ W.heap.size

theorem hopsI_from {w : World} {B : Nat} (hB : w.heap.size + 4 ≤ B) : OwnFrom B (HopsI w) := by
  rintro pre W W' row ⟨h3, hb, hs⟩ hg hr
  have ne : ∀ k, k < B → some k ≠ row := fun k hk e => by have := (hr k e.symm).1; omega
  exact ⟨h3.kept hg (ne _ (by omega)), hb.grown hg hb.size fun k e => by have := (hr k e).1; omega, Nat.le_trans hs hg.size⟩

set_option maxHeartbeats 4000000 in
theorem hops_any (s : List UInt8) (w : World) (hs : s.length ≤ 1000000) (hM : ML w) :
    Calls Tryd.prog 14 #[sv s] w fun e w' => e = .returned (.int .i64 (hopsL s : Int)) ∧ Below w.heap.size w w' := by
  have HM := Lib.hid hM
  have H0 := Lib.hid hM.lt
  clear hM
  refine (callsIn_wide (n := 6)).1 ?_
  refine callsIn_of_wp_marks Tryd.func14 rfl trivial (wpIn_calmly ?_) rfl
  simp only [Tryd.ntmps14, List.size_toArray, List.length_cons, List.length_nil, Nat.reduceAdd, Nat.reduceSub, Array.replicate_succ, Array.replicate_zero, List.push_toArray, List.append_toArray, List.nil_append, List.cons_append]
  gi_wp2_with (first | (refine ⟨trivial, ?_⟩; gi_at_call 37; refine (callsIn_wide.2 (named_call _ _)).mono ?_; rintro e w' ⟨rfl, rfl⟩) | (refine ⟨trivial, ?_⟩; gi_at_call 36; refine (callsIn_wide.2 (counted_call _ _ _ _ _)).mono ?_; rintro e w' ⟨rfl, rfl⟩))
  obtain ⟨Wl, hWl⟩ : ∃ Wl, Wl = (((w.alloc (.cells #[.int .i64 0] 3)).alloc (.cells #[sv recL] 9)).alloc (.cells #[sv s] 9)).alloc (.cells #[namedV (w.heap.size + 1)] 59) := ⟨_, rfl⟩
  rw [show (((w.alloc (.cells #[.int .i64 0] 3)).alloc (.cells #[.string { data := #[82, 101, 99, 101, 105, 118, 101, 100] }] 9)).alloc (.cells #[sv s] 9)).alloc (.cells #[namedV (w.heap.size + 1)] 59) = Wl from hWl.symm]
  have hsz : Wl.heap.size = w.heap.size + 4 := by rw [hWl]; simp
  have hbel : Below w.heap.size w Wl := by rw [hWl]; exact ((((Below.refl _ w).alloc (Nat.le_refl _) _).alloc (by simp) _).alloc (by simp; omega) _).alloc (by simp; omega) _
  have b0 : Boxed Wl w.heap.size 3 (.int .i64 0) := by rw [hWl]; exact (((Boxed.new w _ _).alloc _).alloc _).alloc _
  have b1 : Boxed Wl (w.heap.size + 1) 9 (sv recL) := by rw [hWl]; have := Boxed.new (w.alloc (.cells #[.int .i64 0] 3)) 9 (sv recL); rw [World.size_alloc] at this; exact (this.alloc _).alloc _
  have b2 : Boxed Wl (w.heap.size + 2) 9 (sv s) := by rw [hWl]; have := Boxed.new ((w.alloc (.cells #[.int .i64 0] 3)).alloc (.cells #[sv recL] 9)) 9 (sv s); rw [World.size_alloc, World.size_alloc] at this; exact this.alloc _
  have b3 : Boxed Wl (w.heap.size + 3) 59 (namedV (w.heap.size + 1)) := by rw [hWl]; have := Boxed.new (((w.alloc (.cells #[.int .i64 0] 3)).alloc (.cells #[sv recL] 9)).alloc (.cells #[sv s] 9)) 59 (namedV (w.heap.size + 1)); rw [World.size_alloc, World.size_alloc, World.size_alloc] at this; exact this
  have hG : KpG (KpR w.heap.size [w.heap.size] w.heap.size) (FreeR [w.heap.size] w.heap.size) w.heap.size Wl := kpr_g (by omega) (by simp; omega) b0.cell rfl
  have hHC := counted_hands (w.heap.size + 2) (w.heap.size + 3) (w.heap.size + 1) s recL hs (by decide) H0.out Wl hG (HM.out.step hbel) (by omega) b2.cell b3 b1 (fun hb => free_at b0.cell rfl (by omega) hb (by simp)) (fun hb => free_at b0.cell rfl (by omega) hb (by simp))
  have HG := Lib.hid hG
  have HWL := Lib.hid hWl
  have HSZ := Lib.hid hsz
  have hI0 : HopsI w [] Wl := ⟨b0, hbel, by omega⟩
  clear hG hWl b1 b2 b3 hbel
  refine wpIn_rangeFunc_hd (α := FI) (w := Wl) rfl (by omega) (gf := 51) (lb := #[.pointer (some ⟨w.heap.size + 2, 0, none⟩), .pointer (some ⟨w.heap.size + 3, 0, none⟩)]) rfl trivial (enters_of Tryd.func51 (by kernel_rfl) rfl)
    (handsO_wide hHC) HG.out.trans (fun W' o o' ho hc => HG.out.put W' _ o o' (Nat.le_succ _) ho hc) (fun _ => rfl) (HopsI w) (fun _ _ _ => False) (hopsI_from (by omega)) (fun _ _ _ _ _ h _ _ => h) hI0
    (fun x a' W' => a' = { tmps := #[sv s, undef, .int .i64 0, .pointer (some ⟨w.heap.size, 0, none⟩), sv s, namedV (w.heap.size + 1), .func (.func 51) #[] #[.pointer (some ⟨w.heap.size + 1 + 1, 0, none⟩), .pointer (some ⟨w.heap.size + 1 + 1 + 1, 0, none⟩)], fv x.1, undef, undef, undef], defers := [] })
    (fun x a' s A B row e hg hr => e)
    ?assign ?body ?done ?stop
  case assign =>
    intro l' pre x W' K hi hnx hK
    have hsz' : Wl.heap.size ≤ W'.heap.size := by rw [HSZ.out]; exact hi.2.2
    have hk := hK _ _ (KeepsFrom.refl _ _) (HG.out.below hsz' (Below.refl _ _)) hi rfl
    gi_wp2
    simpa using hk
  case body =>
    rintro l' pre x a' W' ⟨h3, hb, hsW⟩ hnx rfl
    have c3 := h3.cell
    have f3 := h3.frozen
    have hol : pre.length ≤ 1000000 := by
      have h1 := hnx.length_le
      have h2 := cF_len s recL
      rw [valsF_snoc, List.length_append] at h1
      unfold valsF at h1
      rw [List.length_map] at h1
      omega
    obtain ⟨n, hn⟩ : ∃ n, n = pre.length := ⟨_, rfl⟩
    rw [← hn] at c3 hol
    have HN := Lib.hid hn
    have H3 := Lib.hid h3
    have HB := Lib.hid hb
    have HS := Lib.hid hsW
    clear h3 hb hnx hn
    gi_wp2
    refine ⟨(KeepsOthers.setCell _ _ _).from _, kpr_set (by simp) (Nat.le_refl _) (.inr rfl), ?_, HB.out.setCell (p := ⟨w.heap.size, 0, none⟩) (Nat.le_refl _) _, by rw [size_setCell]; exact HS.out⟩
    have := H3.out.set (.int .i64 ((n : Int) + 1))
    rw [List.length_append, ← HN.out]
    exact this
  case done =>
    rintro D xs W' hD hxs ⟨h3, hb, hsW⟩ hK
    rw [HSZ.out] at hD
    have c3 := h3.cell
    have hv : xs.length = hopsL s := by
      have := congrArg List.length hxs
      unfold valsF at this
      rw [List.length_map] at this
      unfold hopsL
      rw [get_cF, List.length_map, this]
    rw [hv] at c3
    have HBP := Lib.hid (below_put w W' D (.deferred none) (by omega) hb)
    have HK := Lib.hid hK
    clear h3 hb hK hxs hv
    gi_wp2
    refine ⟨by simp, .inl ⟨_, _, rfl, run_takeDeferred HK.out, ?_⟩⟩
    exact ⟨.int .i64 (hopsL s : Int), by simp [results, Tryd.results14, go_sem], rfl, HBP.out⟩
  case stop =>
    rintro D c pre W' hD hp h
    exact h.elim

theorem Ows.cell0 {W : World} {base : Nat} {A : Option Addr} {c : Nat} {xs : List (List UInt8)} (h : Ows W base (.slice A xs.length c) xs) (k : Nat) (hk : k < xs.length) : ∃ g, A = some ⟨g, 0, none⟩ ∧ W.cell? ⟨g, k, none⟩ = some (sv xs[k]) := by
  rcases h.2 with ⟨e, h0⟩ | ⟨g, cap, cur, e, hb, hg, h1, h2, h3, h4⟩
  · omega
  · obtain ⟨rfl, _⟩ : A = some ⟨g, 0, none⟩ ∧ c = cap := by simpa using e
    refine ⟨g, rfl, ?_⟩
    rw [cellAt hg]
    have h5 : (cur.toList.take xs.length)[k]? = (xs.map sv)[k]? := congrArg (fun l => l[k]?) (by simpa using h4)
    rw [List.getElem?_take, if_pos hk, List.getElem?_map, List.getElem?_eq_getElem hk] at h5
    simpa using h5

theorem get_len_le (s nm : List UInt8) : ∀ v ∈ getL s nm, v.length ≤ s.length := by
  have key : ∀ (k : Nat) (ls : List (List UInt8)), ∀ f ∈ flN k ls, f.2.length ≤ ls.flatten.length := by
    intro k
    induction k with
    | zero => intro ls f hf; simp [flN] at hf
    | succ k ih =>
      intro ls f hf
      cases ls with
      | nil => simp [flN] at hf
      | cons l r =>
        simp only [flN] at hf
        cases hb : beginB l with
        | none => rw [hb] at hf; simp at hf
        | some p =>
          rw [hb] at hf
          have h2 := flatten_take_le goesB r
          simp only [List.flatten_cons, List.length_append]
          rcases List.mem_cons.1 hf with rfl | hf
          · have h1 := trimL_le (p.2 ++ (r.takeWhile goesB).flatten)
            rw [List.length_append] at h1
            have h3 : p.2.length ≤ l.length := by
              have h4 := (cut58_le l).2
              unfold beginB at hb
              dsimp only at hb
              split at hb
              · have : (Lib.cut l [58]).2.1 = p.2 := by cases hb; rfl
                rw [this] at h4; exact h4
              · cases hb
            dsimp only
            omega
          · have := ih _ f hf
            omega
  intro v hv
  rw [get_cF] at hv
  obtain ⟨f, hf, rfl⟩ := List.mem_map.1 hv
  have h1 := key _ _ f ((List.mem_filter.1 hf).1)
  have h2 := head_len s
  omega

/-- Just one, and that one No. -/
def onlyB (vs : List (List UInt8)) : Bool := match vs with
  | [v] => likeB v [78, 111]
  | _ => false

set_option maxHeartbeats 2000000 in
theorem plain_any (s : List UInt8) (w : World) (hs : s.length ≤ 1000000) (hM : ML w) :
    Calls Tryd.prog 12 #[sv s] w fun e w' => e = .returned (.bool (plainL s)) ∧ Below w.heap.size w w' := by
  have HG := Lib.hid (get_any s reqL w hs (by decide) hM)
  obtain ⟨vs, hvs⟩ : ∃ vs, vs = getL s reqL := ⟨_, rfl⟩
  have hvl : ∀ v ∈ vs, v.length ≤ 1000000 := by rw [hvs]; intro v hv; have := get_len_le s reqL v hv; omega
  have HP := Lib.hid (show plainL s = onlyB vs by rw [hvs]; rfl)
  rw [← hvs] at HG
  clear hvs hM
  cases vs with
  | nil =>
    go_enter Tryd.func12, Tryd.ntmps12
    go_wp2_with (go_at_call 17; refine HG.out.mono ?_; rintro e w1 ⟨v, rfl, hb1, ho⟩; obtain ⟨A, c, rfl⟩ := ho.form)
    go_ret
    rw [HP.out]
    exact ⟨rfl, hb1⟩
  | cons v r =>
    cases r with
    | cons u r =>
      have hne : (((r.length + 1 + 1 : Nat) : Int) == 1) = false := by rw [beq_eq_false_iff_ne]; omega
      go_enter Tryd.func12, Tryd.ntmps12
      go_wp2_with (go_at_call 17; refine HG.out.mono ?_; rintro e w1 ⟨v, rfl, hb1, ho⟩; obtain ⟨A, c, rfl⟩ := ho.form)
      go_ret
      rw [HP.out]
      exact ⟨rfl, hb1⟩
    | nil =>
      have HL := Lib.hid (fun w => like_any v [78, 111] w (hvl v (by simp)) (by decide))
      obtain ⟨b, hb⟩ : ∃ b, b = likeB v [78, 111] := ⟨_, rfl⟩
      rw [← hb] at HL
      have HP2 := Lib.hid (show plainL s = b by rw [HP.out, hb]; rfl)
      clear hb HP hvl
      go_enter Tryd.func12, Tryd.ntmps12
      go_wp2_with (go_at_call 17; refine HG.out.mono ?_; rintro e w1 ⟨v, rfl, hb1, ho⟩; obtain ⟨A, c, rfl⟩ := ho.form; obtain ⟨g, rfl, hc0⟩ := Ows.cell0 ho 0 (Nat.lt_succ_self 0); have HB1 := Lib.hid hb1; clear ho hb1)
      refine (HL.out _).mono ?_
      rintro e w2 ⟨rfl, hb2⟩
      have HB2 := Lib.hid (HB1.out.trans (hb2.mono HB1.out.size))
      clear hb2
      go_wp2_with fail
      go_ret
      rw [HP2.out]
      exact ⟨rfl, HB2.out⟩
end Go.Proofs.YtkffdhdhjfbhjaaDoor
