/-
  For the laws' walks: Line and Take at known answers; what lies there through such a call.
-/
import Derived.Test.YtanfonpbnamjmaaDoorYSame
namespace Go.Proofs.YtanfonpbnamjmaaDoor
open Go Go.RowKit Go.Shelf
set_option maxRecDepth 100000

section
variable {w W W' : World} {b : Nat} {F F' : List Nat} {st st' : RS}

/-- These blocks are among those, or are new. -/
def Nw (W : World) (F F' : List Nat) : Prop := ∀ k ∈ F', k ∈ F ∨ W.heap.size ≤ k
theorem Nw.refl (W : World) (F : List Nat) : Nw W F F := fun _ h => .inl h
theorem Nw.not {k : Nat} (h : Nw W F F') (hk : k < W.heap.size) (hn : k ∉ F) : k ∉ F' := fun e => (h k e).elim hn (fun e => by omega)
theorem Nw.all {G : List Nat} (h : Nw W F F') (hk : ∀ k ∈ G, k < W.heap.size) (hn : ∀ k ∈ G, k ∉ F) : ∀ k ∈ G, k ∉ F' := fun k e => h.not (hk k e) (hn k e)

theorem line_of (h : Rd w.heap.size W b F st) (hw : BL w W) {s : List UInt8} {dn : Bool} {er : Int} (hs : s.length ≤ 1000000) (h1 : doneR st s = dn) (h2 : errR st s = er) (h3 : stepR st s = st') :
    Calls Tryd.prog 20 #[.pointer (some ⟨b, 0, none⟩), sv s] W fun e W' => ∃ F', e = .returned (.tuple #[.bool dn, .int .i64 er]) ∧ Rd w.heap.size W' b F' st' ∧ BL w W' ∧ Kp F W W' ∧ Nw W F F' := by
  subst h1; subst h2; subst h3
  refine (line_any h hw.lw s hs).mono ?_
  rintro e W' ⟨F', he, hr, hk, hn⟩
  exact ⟨F', he, hr, hw.kp hk (fun k e => ⟨(h.up k e).1, (h.up k e).2.1⟩), hk, hn⟩
theorem take_of (h : Rd w.heap.size W b F st) (hw : BL w W) {lc : Nat} {lst : List UInt8} {lls : List (List UInt8)} {has : Bool} (h1 : st.lc = lc) (h2 : st.lst = lst) (h3 : st.lls = lls) (h4 : decide (0 < lls.length) = has) :
    Calls Tryd.prog 23 #[.pointer (some ⟨b, 0, none⟩)] W fun e W' => ∃ u F' G, e = .returned (.tuple #[repV lc lst u, .bool has]) ∧ Rd w.heap.size W' b F' (takenR st) ∧ Rw w.heap.size W' G u lls ∧ BL w W' ∧ Kp F W W' ∧ Nw W F F' ∧ Nw W F G ∧ (∀ k ∈ G, k ∉ F') ∧ (∀ k ∈ G, k ∈ F) := by
  subst h1; subst h2; subst h3; subst h4
  refine (take_any h).mono ?_
  rintro e W' ⟨u, F', G, he, hr, hg, hk, hn, hn2, hd⟩
  exact ⟨u, F', G, he, hr, hg, hw.kp hk (fun k e => ⟨(h.up k e).1, (h.up k e).2.1⟩), hk, fun k e => .inl (hn k e), fun k e => .inl (hn2 k e), hd, hn2⟩
theorem new_of (hw : BL w W) : Calls Tryd.prog 17 #[] W fun e W' => ∃ b, e = .returned (.pointer (some ⟨b, 0, none⟩)) ∧ b = W.heap.size ∧ Rd w.heap.size W' b [b] rs0 ∧ BL w W' ∧ Below W.heap.size W W' :=
  (new_any w.heap.size W hw.size hw.lw).mono fun e W' ⟨b, h1, h2, h3, h4⟩ => ⟨b, h1, h2, h3, hw.step h4, h4⟩
theorem reset_of (h : Rd w.heap.size W b F st) (hw : BL w W) :
    Calls Tryd.prog 26 #[.pointer (some ⟨b, 0, none⟩)] W fun e W' => e = .returned (.tuple #[]) ∧ Rd w.heap.size W' b [b] rs0 ∧ BL w W' ∧ Kp F W W' ∧ Nw W F [b] :=
  (reset_any h).mono fun e W' ⟨h1, h2, h3⟩ => ⟨h1, h2, hw.kp h3 (fun k e => ⟨(h.up k e).1, (h.up k e).2.1⟩), h3, fun k e => .inl (by simp at e; subst e; exact h.mem)⟩
theorem copy_of (h : Rd w.heap.size W b F st) (hw : BL w W) :
    Calls Tryd.prog 18 #[.pointer (some ⟨b, 0, none⟩)] W fun e W' => ∃ c H, e = .returned (.pointer (some ⟨c, 0, none⟩)) ∧ Rd w.heap.size W' c H st ∧ BL w W' ∧ Below W.heap.size W W' ∧ (∀ k ∈ H, W.heap.size ≤ k) :=
  (copy_any h).mono fun e W' ⟨c, H, h1, h2, h3, h4⟩ => ⟨c, H, h1, h2, hw.step h3, h3, h4⟩

theorem blk_kp {k : Nat} {o : Obj} {S : List Nat} (h : W.heap[k]? = some o) (hk : Kp S W W') (hs : k ∉ S) : W'.heap[k]? = some o := (hk.block k (lt_of_blk h) hs).trans h
theorem blk_below {k : Nat} {o : Obj} (h : W.heap[k]? = some o) (hk : Below W.heap.size W W') : W'.heap[k]? = some o := (hk.block k (lt_of_blk h)).trans h
theorem RowIs.kp {v : Value} {xs : List (List UInt8)} {G S : List Nat} {n : Nat} (h : Rw n W G v xs) (hk : Kp S W W') (hs : ∀ k ∈ G, k ∉ S) : RowIs W' v xs := (h.kp hk hs).row
theorem Rd.lt (h : Rd w.heap.size W b F st) : ∀ k ∈ F, k < W.heap.size := fun k e => (h.up k e).2.2
theorem Rd.ge (h : Rd w.heap.size W b F st) : ∀ k ∈ F, w.heap.size ≤ k := fun k e => (h.up k e).1
theorem Rw.lt {n : Nat} {G : List Nat} {v : Value} {xs : List (List UInt8)} (h : Rw n W G v xs) : ∀ k ∈ G, k < W.heap.size := h.2.2
theorem Rd.notin (h : Rd w.heap.size W b F st) {k : Nat} (hk : W.heap.size ≤ k) : k ∉ F := fun e => by have := h.lt k e; omega
end

/-! ### The laws' own functions: is, statusOf -/
set_option maxHeartbeats 4000000 in
theorem is_any (c1 c2 : Nat) (a1 a2 : List UInt8) (xs ys : List (List UInt8)) (v u : Value) (w : World) (hx : RowIs w v xs) (hy : RowIs w u ys) (hxl : xs.length ≤ 1000000) (hyl : ys.length ≤ 1000000) :
    Calls Tryd.prog 51 #[repV c1 a1 v, .int .i64 (c2 : Int), sv a2, u] w fun e w' => e = .returned (.bool (decide (c1 = c2) && (a1 == a2) && (xs == ys))) ∧ Below w.heap.size w w' := by
  obtain ⟨W, hW⟩ : ∃ W, W = w.alloc (.cells #[.int .i64 (c1 : Int), sv a1, v] 42) := ⟨_, rfl⟩
  have hbW : Below w.heap.size w W := by rw [hW]; exact (Below.refl _ w).alloc (Nat.le_refl _) _
  have HC := Lib.hid (lsame_any xs ys v u W (hx.step hbW) (hy.step hbW) hxl hyl)
  obtain ⟨A, c, rfl, _⟩ := hx
  have HBW := Lib.hid hbW
  have HW := Lib.hid hW
  clear hbW hy
  rw [hW] at HC
  clear hW
  cases hc : decide (c1 = c2) with
  | false =>
    have hci : ((c1 : Int) == (c2 : Int)) = false := by rw [beq_eq_false_iff_ne]; have := of_decide_eq_false hc; omega
    clear hc
    unfold repV
    go_enter Tryd.func51, Tryd.ntmps51
    go_wp2_with fail
    go_ret
    exact ⟨by simp, by rw [← HW.out]; exact HBW.out⟩
  | true =>
    have hci : ((c1 : Int) == (c2 : Int)) = true := by have := of_decide_eq_true hc; rw [this]; simp
    clear hc
    cases ha : a1 == a2 with
    | false =>
      have hai : (a1 != a2) = true := by simp only [bne, ha]; rfl
      unfold repV
      go_enter Tryd.func51, Tryd.ntmps51
      go_wp2_with fail
      go_ret
      exact ⟨by simp, by rw [← HW.out]; exact HBW.out⟩
    | true =>
      obtain rfl : a1 = a2 := by simpa using ha
      clear ha
      unfold repV
      go_enter Tryd.func51, Tryd.ntmps51
      go_wp2_with (go_at_call 80; refine (HC.out).mono ?_; rintro e w1 ⟨rfl, hb⟩; have HX := Lib.hid hb; clear hb)
      go_ret
      have := HX.out
      rw [← HW.out] at this
      exact ⟨by simp, HBW.out.trans (this.mono HBW.out.size)⟩

/-- What a reader of one line tells. -/
def statL (s : List UInt8) : List UInt8 := (stepR rs0 s).lst
end Go.Proofs.YtanfonpbnamjmaaDoor
