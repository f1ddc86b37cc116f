/-
  For ReplyPlays: a reader of the program's beside one of the reference's.
-/
import Derived.Test.YtanfonpbnamjmaaDoorYRxT
namespace Go.Proofs.YtanfonpbnamjmaaDoor
open Go Go.RowKit Go.Shelf
set_option maxRecDepth 100000

theorem RowG.shrink {w : World} {G : List Nat} {v : Value} {xs : List (List UInt8)} (h : RowG w G v xs) : RowG w (G.filter (fun k => decide (k < w.heap.size))) v xs := by
  obtain ⟨A, c, rfl, h⟩ := h
  exact ⟨A, c, rfl, fun hp => by obtain ⟨g, hg, e, hl, r⟩ := h hp; exact ⟨g, List.mem_filter.2 ⟨hg, by simpa using hl⟩, e, hl, r⟩⟩
theorem Rx.shrink {n : Nat} {w : World} {b : Nat} {G raw} {st : RS} (h : Rx n w b G raw st) : Rx n w b (G.filter (fun k => decide (k < w.heap.size))) raw st := by
  obtain ⟨a1, a2, a3, a4, a5, a6, a7, v, u, hb, hv, hu, e1, e2⟩ := h
  exact ⟨fun e => a1 (List.mem_filter.1 e).1, a2, a3, a4, a5, a6, a7, v, u, hb, hv.shrink, hu.shrink, e1, e2⟩

/-- The program's reader at b, the reference's at x. -/
structure PP (w W : World) (b : Nat) (F : List Nat) (s1 : RS) (x : Nat) (G : List Nat) (raw : List (List UInt8)) (s2 : RS) : Prop where
  r : Rd w.heap.size W b F s1
  xr : Rx w.heap.size W x G raw s2
  xf : x ∉ F
  gf : ∀ k ∈ G, k ∉ F
  gl : ∀ k ∈ G, k < W.heap.size
/-- Two such, apart. -/
structure P2 (F : List Nat) (x : Nat) (G : List Nat) (H : List Nat) (y : Nat) (K : List Nat) : Prop where
  fh : ∀ k ∈ F, k ∉ H
  xh : x ∉ H
  yf : y ∉ F
  xy : x ≠ y
  gh : ∀ k ∈ G, k ∉ H
  kf : ∀ k ∈ K, k ∉ F
  yg : y ∉ G
  xk : x ∉ K
theorem P2.symm {F H G K : List Nat} {x y : Nat} (h : P2 F x G H y K) : P2 H y K F x G := ⟨fun k e e' => h.fh k e' e, h.yf, h.xh, fun e => h.xy e.symm, h.kf, h.gh, h.xk, h.yg⟩

section
variable {w W W' : World} {b x c y : Nat} {F F' G G' H H' K K' S : List Nat} {raw raw' rawy : List (List UInt8)} {s1 s2 t1 t2 s' : RS}
theorem PP.kp (h : PP w W b F s1 x G raw s2) (hk : Kp S W W') (h1 : ∀ k ∈ F, k ∉ S) (h2 : x ∉ S) (h3 : ∀ k ∈ G, k ∉ S) : PP w W' b F s1 x G raw s2 :=
  ⟨h.r.kp hk h1, h.xr.kp hk h2 h3, h.xf, h.gf, fun k e => Nat.lt_of_lt_of_le (h.gl k e) hk.size⟩
theorem PP.below (h : PP w W b F s1 x G raw s2) (hb : Below W.heap.size W W') : PP w W' b F s1 x G raw s2 := h.kp (Kp.of_below hb []) (fun k _ => by simp) (by simp) (fun k _ => by simp)
/-- The program's moves. -/
theorem PP.left (h : PP w W b F s1 x G raw s2) (hk : Kp F W W') (hn : Nw W F F') (hr : Rd w.heap.size W' b F' s') : PP w W' b F' s' x G raw s2 :=
  ⟨hr, h.xr.kp hk h.xf h.gf, hn.not h.xr.lt h.xf, hn.all h.gl h.gf, fun k e => Nat.lt_of_lt_of_le (h.gl k e) hk.size⟩
/-- The reference's moves. -/
theorem PP.right (h : PP w W b F s1 x G raw s2) (hk : Kp [x] W W') (hn : Nw W G G') (hx : Rx w.heap.size W' x G' raw' s') : PP w W' b F s1 x (G'.filter (fun k => decide (k < W'.heap.size))) raw' s' :=
  ⟨h.r.kp hk (fun k e e' => by simp at e'; subst e'; exact h.xf e), hx.shrink, h.xf, fun k e e' => by
    have e := (List.mem_filter.1 e).1
    rcases hn k e with e | e
    · exact h.gf k e e'
    · have := h.r.lt k e'; omega, fun k e => by simpa using (List.mem_filter.1 e).2⟩
/-- Another pair, where the first one's moves. -/
theorem P2.left (h : P2 F x G H y K) (hq : PP w W c H t1 y K rawy t2) (hn : Nw W F F') : P2 F' x G H y K :=
  ⟨fun k e e' => (hn k e).elim (fun e => h.fh k e e') (fun e => by have := hq.r.lt k e'; omega), h.xh, hn.not hq.xr.lt h.yf, h.xy, h.gh, hn.all hq.gl h.kf, h.yg, h.xk⟩
theorem P2.right (h : P2 F x G H y K) (hq : PP w W c H t1 y K rawy t2) (hn : Nw W G G') : P2 F x (G'.filter (fun k => decide (k < W'.heap.size))) H y K :=
  ⟨h.fh, h.xh, h.yf, h.xy, fun k e e' => (hn k (List.mem_filter.1 e).1).elim (fun e => h.gh k e e') (fun e => by have := hq.r.lt k e'; omega), h.kf, fun e => (hn y (List.mem_filter.1 e).1).elim h.yg (fun e => by have := hq.xr.lt; omega), h.xk⟩
theorem P2.kpF (h : P2 F x G H y K) (hq : PP w W c H t1 y K rawy t2) (hk : Kp F W W') : PP w W' c H t1 y K rawy t2 := hq.kp hk (fun k e e' => h.fh k e' e) h.yf h.kf
theorem P2.kpX (h : P2 F x G H y K) (hq : PP w W c H t1 y K rawy t2) (hk : Kp [x] W W') : PP w W' c H t1 y K rawy t2 :=
  hq.kp hk (fun k e e' => by simp at e'; subst e'; exact h.xh e) (by simpa using fun e => h.xy e.symm) (fun k e e' => by simp at e'; subst e'; exact h.xk e)

/-- Both, in a world that came of the first. -/
structure Two (w W : World) (b : Nat) (F : List Nat) (s1 : RS) (x : Nat) (G : List Nat) (raw : List (List UInt8)) (s2 : RS) (c : Nat) (H : List Nat) (t1 : RS) (y : Nat) (K : List Nat) (rawy : List (List UInt8)) (t2 : RS) : Prop where
  bl : BL w W
  p : PP w W b F s1 x G raw s2
  q : PP w W c H t1 y K rawy t2
  d : P2 F x G H y K
theorem Two.symm (h : Two w W b F s1 x G raw s2 c H t1 y K rawy t2) : Two w W c H t1 y K rawy t2 b F s1 x G raw s2 := ⟨h.bl, h.q, h.p, h.d.symm⟩
theorem Two.below (h : Two w W b F s1 x G raw s2 c H t1 y K rawy t2) (hb : Below W.heap.size W W') : Two w W' b F s1 x G raw s2 c H t1 y K rawy t2 := ⟨h.bl.step hb, h.p.below hb, h.q.below hb, h.d⟩
theorem Two.left (h : Two w W b F s1 x G raw s2 c H t1 y K rawy t2) (hb : BL w W') (hk : Kp F W W') (hn : Nw W F F') (hr : Rd w.heap.size W' b F' s') : Two w W' b F' s' x G raw s2 c H t1 y K rawy t2 :=
  ⟨hb, h.p.left hk hn hr, h.d.kpF h.q hk, h.d.left h.q hn⟩
theorem Two.right (h : Two w W b F s1 x G raw s2 c H t1 y K rawy t2) (hk : Kp [x] W W') (hn : Nw W G G') (hx : Rx w.heap.size W' x G' raw' s') : Two w W' b F s1 x (G'.filter (fun k => decide (k < W'.heap.size))) raw' s' c H t1 y K rawy t2 :=
  ⟨h.bl.kp hk (fun k e => by simp at e; subst e; exact h.p.xr.up), h.p.right hk hn hx, h.d.kpX h.q hk, h.d.right h.q hn⟩
/-- Blocks that are no more anyone's are written. -/
theorem Two.wrote {S0 : List Nat} (h : Two w W b F s1 x G raw s2 c H t1 y K rawy t2) (hk : Kp S W W') (hs : ∀ k ∈ S, w.heap.size ≤ k ∧ 4 + 1 ≤ k) (h1 : ∀ k ∈ S, k ∉ F) (h2 : x ∉ S) (h3 : ∀ k ∈ G, k ∉ S) (h4 : ∀ k ∈ H, k ∉ S) (h5 : y ∉ S) (h6 : ∀ k ∈ K, k ∉ S) : Two w W' b F s1 x G raw s2 c H t1 y K rawy t2 :=
  ⟨h.bl.kp hk hs, h.p.kp hk (fun k e e' => h1 k e' e) h2 h3, h.q.kp hk h4 h5 h6, h.d⟩

/-! ### The calls -/
theorem two_line (h : Two w W b F s1 x G raw s2 c H t1 y K rawy t2) {s : List UInt8} {dn : Bool} {er : Int} (hs : s.length ≤ 1000000) (h1 : doneR s1 s = dn) (h2 : errR s1 s = er) (h3 : stepR s1 s = s') :
    Calls Tryd.prog 20 #[.pointer (some ⟨b, 0, none⟩), sv s] W fun e W' => ∃ F', e = .returned (.tuple #[.bool dn, .int .i64 er]) ∧ Two w W' b F' s' x G raw s2 c H t1 y K rawy t2 :=
  (line_of h.p.r h.bl hs h1 h2 h3).mono fun e W' ⟨F', he, hr, hb, hk, hn⟩ => ⟨F', he, h.left hb hk hn hr⟩
theorem two_xline (h : Two w W b F s1 x G raw s2 c H t1 y K rawy t2) {s : List UInt8} {dn : Bool} {er : Int} (hs : s.length ≤ 1000000) (h1 : doneR s2 s = dn) (h2 : errR s2 s = er) (h3 : stepR s2 s = s') :
    Calls Tryd.prog 21 #[.pointer (some ⟨x, 0, none⟩), sv s] W fun e W' => ∃ G' raw', e = .returned (.tuple #[.bool dn, .int .i64 er]) ∧ Two w W' b F s1 x G' raw' s' c H t1 y K rawy t2 := by
  subst h1; subst h2; subst h3
  exact (rline_any h.p.xr s hs).mono fun e W' ⟨G', raw', he, hx, hk, hn⟩ => ⟨_, raw', he, h.right hk hn hx⟩
/-- A reply taken: its row is no more the reader's. -/
theorem two_take (h : Two w W b F s1 x G raw s2 c H t1 y K rawy t2) {lc : Nat} {lst : List UInt8} {lls : List (List UInt8)} {has : Bool} (h1 : s1.lc = lc) (h2 : s1.lst = lst) (h3 : s1.lls = lls) (h4 : decide (0 < lls.length) = has) :
    Calls Tryd.prog 23 #[.pointer (some ⟨b, 0, none⟩)] W fun e W' => ∃ u F' S, e = .returned (.tuple #[repV lc lst u, .bool has]) ∧ Two w W' b F' (takenR s1) x G raw s2 c H t1 y K rawy t2 ∧ Rw w.heap.size W' S u lls ∧
      ((∀ k ∈ S, w.heap.size ≤ k ∧ 4 + 1 ≤ k) ∧ (∀ k ∈ S, k ∉ F') ∧ x ∉ S ∧ (∀ k ∈ G, k ∉ S) ∧ (∀ k ∈ H, k ∉ S) ∧ y ∉ S ∧ (∀ k ∈ K, k ∉ S)) :=
  (take_of h.p.r h.bl h1 h2 h3 h4).mono fun e W' ⟨u, F', S, he, hr, hg, hb, hk, hn, _, hd, hs⟩ =>
    ⟨u, F', S, he, h.left hb hk hn hr, hg, fun k e => ⟨(h.p.r.up k (hs k e)).1, (h.p.r.up k (hs k e)).2.1⟩, hd, fun e => h.p.xf (hs _ e), fun k e e' => h.p.gf k e (hs _ e'), fun k e e' => h.d.fh k (hs _ e') e, fun e => h.d.yf (hs _ e), fun k e e' => h.d.kf k e (hs _ e')⟩
theorem two_xtake (h : Two w W b F s1 x G raw s2 c H t1 y K rawy t2) {lc : Nat} {lst : List UInt8} {lls : List (List UInt8)} {has : Bool} (h1 : s2.lc = lc) (h2 : s2.lst = lst) (h3 : s2.lls = lls) (h4 : decide (0 < lls.length) = has) {S : List Nat} {v : Value} {zs : List (List UInt8)}
    (hg : Rw w.heap.size W S v zs) (hd : (∀ k ∈ S, w.heap.size ≤ k ∧ 4 + 1 ≤ k) ∧ (∀ k ∈ S, k ∉ F) ∧ x ∉ S ∧ (∀ k ∈ G, k ∉ S) ∧ (∀ k ∈ H, k ∉ S) ∧ y ∉ S ∧ (∀ k ∈ K, k ∉ S)) :
    Calls Tryd.prog 24 #[.pointer (some ⟨x, 0, none⟩)] W fun e W' => ∃ u G', e = .returned (.tuple #[repV lc lst u, .bool has]) ∧ Two w W' b F s1 x G' raw (takenR s2) c H t1 y K rawy t2 ∧ RowG W' G' u lls ∧ Rw w.heap.size W' S v zs ∧ Kp [x] W W' ∧
      ((∀ k ∈ S, w.heap.size ≤ k ∧ 4 + 1 ≤ k) ∧ (∀ k ∈ S, k ∉ F) ∧ x ∉ S ∧ (∀ k ∈ G', k ∉ S) ∧ (∀ k ∈ H, k ∉ S) ∧ y ∉ S ∧ (∀ k ∈ K, k ∉ S)) := by
  subst h1; subst h2; subst h3; subst h4
  refine (xtake_any h.p.xr).mono fun e W' ⟨u, he, hx, hu, hk⟩ => ⟨u, _, he, h.right hk (Nw.refl _ _) hx, hu.shrink, hg.kp hk (fun k e e' => by simp at e'; subst e'; exact hd.2.2.1 e), hk, hd.1, hd.2.1, hd.2.2.1, fun k e => hd.2.2.2.1 k (List.mem_filter.1 e).1, hd.2.2.2.2⟩
theorem two_told (h : Two w W b F s1 x G raw s2 c H t1 y K rawy t2) {lc : Nat} {lst : List UInt8} {lls : List (List UInt8)} {S : List Nat} {v u : Value} (hg : Rw w.heap.size W S v lls) (hu : RowIs W u lls) (hl : lls.length ≤ 1000000)
    (hd : (∀ k ∈ S, w.heap.size ≤ k ∧ 4 + 1 ≤ k) ∧ (∀ k ∈ S, k ∉ F) ∧ x ∉ S ∧ (∀ k ∈ G, k ∉ S) ∧ (∀ k ∈ H, k ∉ S) ∧ y ∉ S ∧ (∀ k ∈ K, k ∉ S)) :
    Calls Tryd.prog 25 #[repV lc lst v, repV lc lst u] W fun e W' => e = .returned (.bool true) ∧ Two w W' b F s1 x G raw s2 c H t1 y K rawy t2 :=
  (told_any lc lst lls v u W S hg hu hl).mono fun e W' ⟨he, hk⟩ => ⟨he, h.wrote (S0 := S) hk hd.1 hd.2.1 hd.2.2.1 hd.2.2.2.1 hd.2.2.2.2.1 hd.2.2.2.2.2.1 hd.2.2.2.2.2.2⟩
theorem two_reset (h : Two w W b F s1 x G raw s2 c H t1 y K rawy t2) :
    Calls Tryd.prog 26 #[.pointer (some ⟨b, 0, none⟩)] W fun e W' => e = .returned (.tuple #[]) ∧ Two w W' b [b] rs0 x G raw s2 c H t1 y K rawy t2 :=
  (reset_of h.p.r h.bl).mono fun e W' ⟨he, hr, hb, hk, hn⟩ => ⟨he, h.left hb hk hn hr⟩
theorem xreset_kp (W : World) (x : Nat) (a1 a2 a3 a4 a5 a6 : Value) : Kp [x] W ((((((W.setCell ⟨x, 0, none⟩ a1).setCell ⟨x, 1, none⟩ a2).setCell ⟨x, 2, none⟩ a3).setCell ⟨x, 3, none⟩ a4).setCell ⟨x, 4, none⟩ a5).setCell ⟨x, 5, none⟩ a6) :=
  ((((((Kp.refl [x] W).setCell (p := ⟨x, 0, none⟩) (by simp) _).setCell (p := ⟨x, 1, none⟩) (by simp) _).setCell (p := ⟨x, 2, none⟩) (by simp) _).setCell (p := ⟨x, 3, none⟩) (by simp) _).setCell (p := ⟨x, 4, none⟩) (by simp) _).setCell (p := ⟨x, 5, none⟩) (by simp) _
/-- The reference's reader as one anew. -/
theorem Two.xreset (h : Two w W b F s1 x G raw s2 c H t1 y K rawy t2) :
    Two w ((((((W.setCell ⟨x, 0, none⟩ (.slice none 0 0)).setCell ⟨x, 1, none⟩ (.int .i64 0)).setCell ⟨x, 2, none⟩ (sv [])).setCell ⟨x, 3, none⟩ (.slice none 0 0)).setCell ⟨x, 4, none⟩ (.bool false)).setCell ⟨x, 5, none⟩ (.bool false)) b F s1 x [] [] rs0 c H t1 y K rawy t2 := by
  have hk := xreset_kp W x (.slice none 0 0) (.int .i64 0) (sv []) (.slice none 0 0) (.bool false) (.bool false)
  obtain ⟨a1, a2, a3, a4, a5, a6, a7, v, u, hb, _⟩ := h.p.xr
  exact h.right (G' := []) hk (fun k e => by simp at e) ⟨by simp, a2, rfl, fun x h => by simp at h, fun h => absurd rfl h, by decide, fun _ => ⟨rfl, rfl⟩, .slice none 0 0, .slice none 0 0, (((((hb.set0 _).set1 0).set2 []).set3 _).set4 false).set5 false, RowG.nil _ _, RowG.nil _ _, fun _ => rfl, fun _ => rfl⟩
theorem two_dead (h : Two w W b F s1 x G raw s2 c H t1 y K rawy t2) {d : Bool} (hd : s1.d = d) :
    Calls Tryd.prog 22 #[.pointer (some ⟨b, 0, none⟩)] W fun e W' => e = .returned (.bool d) ∧ W = W' := by
  subst hd; exact dead_any h.p.r
theorem Two.xdead (h : Two w W b F s1 x G raw s2 c H t1 y K rawy t2) {d : Bool} (hd : s2.d = d) : W.cell? ⟨x, 5, none⟩ = some (.bool d) := by
  subst hd
  obtain ⟨_, _, _, _, _, _, _, v, u, hb, _⟩ := h.p.xr
  exact hb.c5
/-- The copies. -/
theorem pp_copy (h : PP w W b F s1 x G raw s2) (hb : BL w W) :
    Calls Tryd.prog 18 #[.pointer (some ⟨b, 0, none⟩)] W fun e W' => ∃ c H, e = .returned (.pointer (some ⟨c, 0, none⟩)) ∧ Rd w.heap.size W' c H s1 ∧ BL w W' ∧ PP w W' b F s1 x G raw s2 ∧ (∀ k ∈ H, W.heap.size ≤ k) ∧ W.heap.size ≤ W'.heap.size ∧ x < W.heap.size ∧ (∀ k ∈ F, k < W.heap.size) ∧ (∀ k ∈ G, k < W.heap.size) :=
  (copy_of h.r hb).mono fun e W' ⟨c, H, he, hr, hb', hl, hn⟩ => ⟨c, H, he, hr, hb', h.below hl, hn, hl.size, h.xr.lt, h.r.lt, h.gl⟩
theorem pp_xcopy {n0 : Nat} (h : PP w W b F s1 x G raw s2) (hb : BL w W) (hr : Rd w.heap.size W c H t1) (hn : ∀ k ∈ H, n0 ≤ k) (hs : n0 ≤ W.heap.size) (h1 : x < n0) (h2 : ∀ k ∈ F, k < n0) (h3 : ∀ k ∈ G, k < n0) :
    Calls Tryd.prog 19 #[.pointer (some ⟨x, 0, none⟩)] W fun e W' => ∃ y, e = .returned (.pointer (some ⟨y, 0, none⟩)) ∧ Two w W' b F s1 x G raw s2 c H t1 y G raw s2 := by
  refine (xcopy_any h.xr hb.size hb.lw.pos h.gl).mono fun e W' ⟨y, he, hy, hx, hl⟩ => ⟨y, he, hb.step hl, h.below hl, ⟨hr.below hl, hx, fun e => by have := hr.lt y e; omega, fun k e e' => by have := h3 k e; have := hn k e'; omega, fun k e => Nat.lt_of_lt_of_le (h.gl k e) hl.size⟩, ?_⟩
  exact ⟨fun k e e' => by have := h2 k e; have := hn k e'; omega, fun e => by have := hn x e; omega, fun e => by have := h2 y e; omega, by omega, fun k e e' => by have := h3 k e; have := hn k e'; omega, h.gf, fun e => by have := h3 y e; omega, h.xr.nb⟩
end
end Go.Proofs.YtanfonpbnamjmaaDoor
