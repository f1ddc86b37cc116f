/-
  For ReplySteps: two readers of the program's, and the last reply told, from call to call.
-/
import Derived.Test.YtanfonpbnamjmaaDoorYAwake
namespace Go.Proofs.YtanfonpbnamjmaaDoor
open Go Go.RowKit Go.Shelf
set_option maxRecDepth 100000

/-- Two readers that say the same of what comes. -/
def Rel (st sa : RS) : Prop := st.d = false ∧ sa.d = false ∧ sa.ls = st.ls ∧ (st.ls ≠ [] → sa.c = st.c)
theorem Rel.start : Rel rs0 rs0 := ⟨rfl, rfl, rfl, fun _ => rfl⟩
theorem rel_bad {st sa : RS} (h : Rel st sa) (s : List UInt8) : badL sa s = badL st s := by
  obtain ⟨_, _, h3, h4⟩ := h
  unfold badL
  rw [h3]
  by_cases h0 : st.ls = []
  · rw [h0]; simp
  · rw [h4 h0]
theorem rel_done {st sa : RS} (h : Rel st sa) (s : List UInt8) : doneR sa s = doneR st s := by
  have hb := rel_bad h s
  obtain ⟨h1, h2, h3, _⟩ := h
  unfold doneR
  rw [hb, h1, h2, h3]
theorem rel_err {st sa : RS} (h : Rel st sa) (s : List UInt8) : errR sa s = errR st s := by
  have hb := rel_bad h s
  obtain ⟨h1, h2, h3, _⟩ := h
  unfold errR
  rw [hb, h1, h2, h3]
/-- The three ways. -/
theorem rel_step {st sa : RS} (h : Rel st sa) (s : List UInt8) :
    (doneR st s = true ∧ errR st s = 0 ∧ Rel (stepR st s) rs0 ∧ (stepR sa s).lc = (stepR st s).lc ∧ (stepR sa s).lst = (stepR st s).lst ∧ (stepR sa s).lls = (stepR st s).lls ∧ 0 < (stepR st s).lls.length) ∨
    (doneR st s = false ∧ errR st s = 0 ∧ Rel (stepR st s) (stepR sa s) ∧ (stepR st s).lc = st.lc ∧ (stepR st s).lst = st.lst ∧ (stepR st s).lls = st.lls) ∨
    (doneR st s = false ∧ errR st s ≠ 0 ∧ (stepR st s).d = true ∧ (stepR st s).lc = st.lc ∧ (stepR st s).lst = st.lst ∧ (stepR st s).lls = st.lls) := by
  have hb := rel_bad h s
  obtain ⟨h1, h2, h3, h4⟩ := h
  cases hbad : badL st s with
  | true =>
    rw [hbad] at hb
    refine .inr (.inr ?_)
    unfold doneR errR stepR
    rw [h1, hbad]
    exact ⟨by simp, by simp, rfl, rfl, rfl, rfl⟩
  | false =>
    rw [hbad] at hb
    by_cases h32 : st.ls.length = 32
    · refine .inr (.inr ?_)
      unfold doneR errR stepR
      rw [h1, hbad, if_pos h32, if_pos h32, decide_eq_true h32]
      exact ⟨by simp, by simp, rfl, rfl, rfl, rfl⟩
    · have h32' : ¬ sa.ls.length = 32 := by rw [h3]; exact h32
      cases hm : moreR s with
      | true =>
        refine .inr (.inl ?_)
        unfold doneR errR stepR Rel
        rw [h1, h2, hbad, hb, if_neg h32, if_neg h32, if_neg h32', hm]
        exact ⟨by simp, rfl, ⟨rfl, rfl, by show sa.ls ++ _ = st.ls ++ _; rw [h3], fun _ => rfl⟩, rfl, rfl, rfl⟩
      | false =>
        refine .inl ?_
        unfold doneR errR stepR Rel
        rw [h1, h2, hbad, hb, if_neg h32, if_neg h32, if_neg h32', hm, decide_eq_false h32]
        exact ⟨rfl, rfl, ⟨rfl, rfl, rfl, fun e => absurd rfl e⟩, rfl, rfl, by show sa.ls ++ _ = st.ls ++ _; rw [h3], by show 0 < (st.ls ++ _).length; simp⟩

/-- The two readers, and the variable that holds the last reply. -/
structure SP (w W : World) (b : Nat) (F : List Nat) (st : RS) (a : Nat) (H : List Nat) (sa : RS) (kl : Nat) (lc : Nat) (lst : List UInt8) (ul : Value) (G : List Nat) (xs : List (List UInt8)) : Prop where
  bl : BL w W
  r : Rd w.heap.size W b F st
  al : Rd w.heap.size W a H sa
  box : Bk W kl lc lst ul
  row : Rw w.heap.size W G ul xs
  fh : ∀ k ∈ F, k ∉ H
  kf : kl ∉ F
  kh : kl ∉ H
  kg : kl ∉ G
  gf : ∀ k ∈ G, k ∉ F
  gh : ∀ k ∈ G, k ∉ H
  kb : w.heap.size ≤ kl ∧ 4 + 1 ≤ kl

section
variable {w W W' : World} {b a kl lc : Nat} {F F' H H' G G' : List Nat} {st st' sa sa' : RS} {lst : List UInt8} {ul : Value} {xs : List (List UInt8)}
theorem SP.turnR (h : SP w W b F st a H sa kl lc lst ul G xs) (hr : Rd w.heap.size W' b F' st') (hb : BL w W') (hk : Kp F W W') (hn : Nw W F F') : SP w W' b F' st' a H sa kl lc lst ul G xs where
  bl := hb
  r := hr
  al := h.al.kp hk (fun k e e' => h.fh k e' e)
  box := h.box.kp hk h.kf
  row := h.row.kp hk h.gf
  fh := fun k e e' => (hn k e).elim (fun e1 => h.fh k e1 e') (fun e1 => by have := h.al.lt k e'; omega)
  kf := hn.not h.box.lt h.kf
  kh := h.kh
  kg := h.kg
  gf := hn.all h.row.lt h.gf
  gh := h.gh
  kb := h.kb
theorem SP.turnA (h : SP w W b F st a H sa kl lc lst ul G xs) (hr : Rd w.heap.size W' a H' sa') (hb : BL w W') (hk : Kp H W W') (hn : Nw W H H') : SP w W' b F st a H' sa' kl lc lst ul G xs where
  bl := hb
  r := h.r.kp hk h.fh
  al := hr
  box := h.box.kp hk h.kh
  row := h.row.kp hk h.gh
  fh := fun k e e' => (hn k e').elim (fun e1 => h.fh k e e1) (fun e1 => by have := h.r.lt k e; omega)
  kf := h.kf
  kh := hn.not h.box.lt h.kh
  kg := h.kg
  gf := h.gf
  gh := hn.all h.row.lt h.gh
  kb := h.kb
theorem SP.below (h : SP w W b F st a H sa kl lc lst ul G xs) (hb : Below W.heap.size W W') : SP w W' b F st a H sa kl lc lst ul G xs :=
  ⟨h.bl.step hb, h.r.below hb, h.al.below hb, h.box.below hb, h.row.below hb, h.fh, h.kf, h.kh, h.kg, h.gf, h.gh, h.kb⟩
theorem SP.newA (h : SP w W b F st a H sa kl lc lst ul G xs) (hb : Below W.heap.size W W') {a' : Nat} (hr : Rd w.heap.size W' a' H' sa') (hn : ∀ k ∈ H', W.heap.size ≤ k) : SP w W' b F st a' H' sa' kl lc lst ul G xs :=
  ⟨h.bl.step hb, h.r.below hb, hr, h.box.below hb, h.row.below hb, fun k e e' => by have := h.r.lt k e; have := hn k e'; omega, h.kf, fun e => by have := h.box.lt; have := hn _ e; omega, h.kg, h.gf, fun k e e' => by have := h.row.lt k e; have := hn k e'; omega, h.kb⟩
/-- The variable is written. -/
theorem SP.setL (h : SP w W b F st a H sa kl lc lst ul G xs) {lc' : Nat} {lst' : List UInt8} {u' : Value} {xs' : List (List UInt8)} (hg : Rw w.heap.size W G' u' xs') (h1 : kl ∉ G') (h2 : ∀ k ∈ G', k ∉ F) (h3 : ∀ k ∈ G', k ∉ H) :
    SP w (((W.setCell ⟨kl, 0, none⟩ (.int .i64 (lc' : Int))).setCell ⟨kl, 1, none⟩ (sv lst')).setCell ⟨kl, 2, none⟩ u') b F st a H sa kl lc' lst' u' G' xs' := by
  have hk := kp_set3 W kl (.int .i64 (lc' : Int)) (sv lst') u'
  exact ⟨h.bl.kp hk (fun k e => by simp at e; subst e; exact h.kb), h.r.kp hk (fun k e e' => by simp at e'; subst e'; exact h.kf e), h.al.kp hk (fun k e e' => by simp at e'; subst e'; exact h.kh e), h.box.set _ _ _, hg.kp hk (fun k e e' => by simp at e'; subst e'; exact h1 e), h.fh, h.kf, h.kh, h1, h2, h3, h.kb⟩
/-- Another variable is written. -/
theorem SP.setX (h : SP w W b F st a H sa kl lc lst ul G xs) {kx : Nat} (hk : Kp [kx] W W') (h0 : kx ≠ kl) (h1 : kx ∉ F) (h2 : kx ∉ H) (h3 : kx ∉ G) (h4 : w.heap.size ≤ kx ∧ 4 + 1 ≤ kx) : SP w W' b F st a H sa kl lc lst ul G xs :=
  ⟨h.bl.kp hk (fun k e => by simp at e; subst e; exact h4), h.r.kp hk (fun k e e' => by simp at e'; subst e'; exact h1 e), h.al.kp hk (fun k e e' => by simp at e'; subst e'; exact h2 e), h.box.kp hk (by simpa using fun e => h0 e.symm), h.row.kp hk (fun k e e' => by simp at e'; subst e'; exact h3 e), h.fh, h.kf, h.kh, h.kg, h.gf, h.gh, h.kb⟩

theorem bulk_mem {x : List UInt8} (h : x ∈ xs) : 5 + min 9000 x.length ≤ bulk xs := by
  obtain ⟨l1, l2, rfl⟩ := List.append_of_mem h
  unfold bulk
  simp
  omega
/-- r.Copy().Take(), and the reply in a variable of its own. -/
theorem copytake_of (h : SP w W b F st a H sa kl lc lst ul G xs) :
    Calls Tryd.prog 18 #[.pointer (some ⟨b, 0, none⟩)] W fun e W1 => ∃ c HC, e = .returned (.pointer (some ⟨c, 0, none⟩)) ∧ Rd w.heap.size W1 c HC st ∧ BL w W1 ∧ Below W.heap.size W W1 ∧ (∀ k ∈ HC, W.heap.size ≤ k) := copy_of h.r h.bl
end
end Go.Proofs.YtanfonpbnamjmaaDoor
