/-
  The reference's reader: what it holds; Copy; Line where it is dead, or dies by it.
-/
import Derived.Test.YtanfonpbnamjmaaDoorYRStat
namespace Go.Proofs.YtanfonpbnamjmaaDoor
open Go Go.RowKit Go.Shelf
set_option maxRecDepth 100000

/-- A row of texts that nobody writes any more, in these blocks. -/
def RowG (w : World) (G : List Nat) (v : Value) (xs : List (List UInt8)) : Prop :=
  ∃ A c, v = .slice A xs.length c ∧ (0 < xs.length → ∃ g, g ∈ G ∧ A = some ⟨g, 0, none⟩ ∧ g < w.heap.size ∧ (∀ j, j < xs.length → w.cell? ⟨g, j, none⟩ = some (sv (xs.getD j []))))
theorem RowG.kp {w w' : World} {G S : List Nat} {v : Value} {xs : List (List UInt8)} (h : RowG w G v xs) (hk : Kp S w w') (hs : ∀ k ∈ G, k ∉ S) : RowG w' G v xs := by
  obtain ⟨A, c, rfl, h⟩ := h
  refine ⟨A, c, rfl, fun hp => ?_⟩
  obtain ⟨g, hg, e, hl, hc⟩ := h hp
  exact ⟨g, hg, e, Nat.lt_of_lt_of_le hl hk.size, fun j hj => (World.cell?_of_block (w := w) (hk.block g hl (hs g hg))).trans (hc j hj)⟩
theorem RowG.mono {w : World} {G G' : List Nat} {v : Value} {xs : List (List UInt8)} (h : RowG w G v xs) (hs : ∀ k ∈ G, k ∈ G') : RowG w G' v xs := by
  obtain ⟨A, c, rfl, h⟩ := h
  exact ⟨A, c, rfl, fun hp => by obtain ⟨g, hg, r⟩ := h hp; exact ⟨g, hs g hg, r⟩⟩
theorem RowG.row {w : World} {G : List Nat} {v : Value} {xs : List (List UInt8)} (h : RowG w G v xs) : RowIs w v xs := by
  obtain ⟨A, c, rfl, h⟩ := h
  exact ⟨A, c, rfl, fun hp => by obtain ⟨g, _, r⟩ := h hp; exact ⟨g, r⟩⟩
theorem RowG.of_owns {n : Nat} {w : World} {v : Value} {xs : List (List UInt8)} {G : List Nat} (h : w.ownsRow n 9 1 v xs.length (xs.map sv)) (hG : ∀ g, v.ownBlock = some g → g ∈ G) : RowG w G v xs := by
  have hr : RowIs w v xs := Rw.row (n := n) (G := v.ownBlock.toList) ⟨h, fun g e => by rw [e]; simp, fun k hk => (h.lt k (by simpa using hk)).2⟩
  obtain ⟨A, c, rfl, hc⟩ := hr
  exact ⟨A, c, rfl, fun hp => by obtain ⟨g, e, r⟩ := hc hp; subst e; exact ⟨g, hG g rfl, rfl, r⟩⟩
theorem RowG.nil (w : World) (G : List Nat) : RowG w G (.slice none 0 0) [] := ⟨none, 0, rfl, fun h => absurd h (by simp)⟩

/-- The reference's block. -/
def Xlk (w : World) (b : Nat) (v : Value) (lc : Nat) (lst : List UInt8) (u : Value) (has d : Bool) : Prop :=
  w.heap[b]? = some (.cells #[v, .int .i64 (lc : Int), sv lst, u, .bool has, .bool d] 37 (0, 0))
section
variable {w w' : World} {b lc : Nat} {v u : Value} {lst : List UInt8} {has d : Bool}
theorem Xlk.c0 (h : Xlk w b v lc lst u has d) : w.cell? ⟨b, 0, none⟩ = some v := by rw [cellAt h]; rfl
theorem Xlk.c1 (h : Xlk w b v lc lst u has d) : w.cell? ⟨b, 1, none⟩ = some (.int .i64 (lc : Int)) := by rw [cellAt h]; rfl
theorem Xlk.c2 (h : Xlk w b v lc lst u has d) : w.cell? ⟨b, 2, none⟩ = some (sv lst) := by rw [cellAt h]; rfl
theorem Xlk.c3 (h : Xlk w b v lc lst u has d) : w.cell? ⟨b, 3, none⟩ = some u := by rw [cellAt h]; rfl
theorem Xlk.c4 (h : Xlk w b v lc lst u has d) : w.cell? ⟨b, 4, none⟩ = some (.bool has) := by rw [cellAt h]; rfl
theorem Xlk.c5 (h : Xlk w b v lc lst u has d) : w.cell? ⟨b, 5, none⟩ = some (.bool d) := by rw [cellAt h]; rfl
theorem Xlk.fr (h : Xlk w b v lc lst u has d) (i : Nat) : w.frozen? ⟨b, i, none⟩ = false := freeAt h i
theorem Xlk.lt (h : Xlk w b v lc lst u has d) : b < w.heap.size := lt_of_blk h
theorem Xlk.below (h : Xlk w b v lc lst u has d) (hb : Below w.heap.size w w') : Xlk w' b v lc lst u has d := (hb.block b h.lt).trans h
theorem Xlk.kp {S : List Nat} (h : Xlk w b v lc lst u has d) (hk : Kp S w w') (hs : b ∉ S) : Xlk w' b v lc lst u has d := (hk.block b h.lt hs).trans h
theorem Xlk.set0 (h : Xlk w b v lc lst u has d) (x : Value) : Xlk (w.setCell ⟨b, 0, none⟩ x) b x lc lst u has d := blk_set h 0 _
theorem Xlk.set1 (h : Xlk w b v lc lst u has d) (x : Nat) : Xlk (w.setCell ⟨b, 1, none⟩ (.int .i64 (x : Int))) b v x lst u has d := blk_set h 1 _
theorem Xlk.set2 (h : Xlk w b v lc lst u has d) (x : List UInt8) : Xlk (w.setCell ⟨b, 2, none⟩ (sv x)) b v lc x u has d := blk_set h 2 _
theorem Xlk.set3 (h : Xlk w b v lc lst u has d) (x : Value) : Xlk (w.setCell ⟨b, 3, none⟩ x) b v lc lst x has d := blk_set h 3 _
theorem Xlk.set4 (h : Xlk w b v lc lst u has d) (x : Bool) : Xlk (w.setCell ⟨b, 4, none⟩ (.bool x)) b v lc lst u x d := blk_set h 4 _
theorem Xlk.set5 (h : Xlk w b v lc lst u has d) (x : Bool) : Xlk (w.setCell ⟨b, 5, none⟩ (.bool x)) b v lc lst u has x := blk_set h 5 _
end

/-- A reader of the reference's, at block b; the blocks that its rows lie in; the lines that it holds. -/
structure Rx (n : Nat) (w : World) (b : Nat) (G : List Nat) (raw : List (List UInt8)) (st : RS) : Prop where
  nb : b ∉ G
  up : n ≤ b ∧ 4 + 1 ≤ b
  ls : st.ls = raw.map textR
  ok : ∀ x ∈ raw, okForm x = true ∧ x.length ≤ 1000000
  c : raw ≠ [] → codeR (raw.getD 0 []) = st.c
  len : raw.length ≤ 32 ∧ st.lls.length ≤ 32
  em : st.lls = [] → st.lc = 0 ∧ st.lst = []
  is : ∃ v u, Xlk w b v st.lc st.lst u (decide (0 < st.lls.length)) st.d ∧ RowG w G v raw ∧ RowG w G u st.lls ∧ (raw = [] → v = .slice none 0 0) ∧ (st.lls = [] → u = .slice none 0 0)
theorem Rx.kp {n : Nat} {w w' : World} {b : Nat} {G S raw} {st : RS} (h : Rx n w b G raw st) (hk : Kp S w w') (h1 : b ∉ S) (h2 : ∀ k ∈ G, k ∉ S) : Rx n w' b G raw st := by
  obtain ⟨a1, a2, a3, a4, a5, a6, a7, v, u, hb, hv, hu, e1, e2⟩ := h
  exact ⟨a1, a2, a3, a4, a5, a6, a7, v, u, hb.kp hk h1, hv.kp hk h2, hu.kp hk h2, e1, e2⟩
theorem Rx.below {n : Nat} {w w' : World} {b : Nat} {G raw} {st : RS} (h : Rx n w b G raw st) (hb : Below w.heap.size w w') : Rx n w' b G raw st := h.kp (Kp.of_below hb []) (by simp) (fun k _ => by simp)
theorem Rx.lt {n : Nat} {w : World} {b : Nat} {G raw} {st : RS} (h : Rx n w b G raw st) : b < w.heap.size := by
  obtain ⟨_, _, _, _, _, _, _, v, u, hb, _⟩ := h
  exact hb.lt

/-- What the reference's Line tells and leaves. -/
def RLinePost (n : Nat) (w : World) (b : Nat) (G : List Nat) (st : RS) (s : List UInt8) (e : Ending) (w' : World) : Prop :=
  ∃ G' raw', e = .returned (.tuple #[.bool (doneR st s), .int .i64 (errR st s)]) ∧ Rx n w' b G' raw' (stepR st s) ∧ Kp [b] w w' ∧ (∀ k ∈ G', k ∈ G ∨ w.heap.size ≤ k)

theorem rline_dead {n : Nat} {w : World} {b : Nat} {G raw} {st : RS} (h : Rx n w b G raw st) (s : List UInt8) (hd : st.d = true) :
    Calls Tryd.prog 21 #[.pointer (some ⟨b, 0, none⟩), sv s] w (RLinePost n w b G st s) := by
  have H := Lib.hid (show RLinePost n w b G st s (.returned (.tuple #[.bool false, .int .i64 7])) w from
    ⟨G, raw, by unfold doneR errR; rw [hd]; rfl, by unfold stepR; rw [if_pos hd]; exact h, Kp.refl _ _, fun k hk => .inl hk⟩)
  obtain ⟨_, _, _, _, _, _, _, v, u, hb, _⟩ := h
  have c5 := hb.c5
  rw [hd] at c5
  clear hb hd
  go_enter Tryd.func21, Tryd.ntmps21
  go_wp2_with fail
  go_ret2
  exact H.out

theorem Rx.died {n : Nat} {w : World} {b : Nat} {G raw} {st : RS} (h : Rx n w b G raw st) :
    Rx n ((w.setCell ⟨b, 5, none⟩ (.bool true)).setCell ⟨b, 0, none⟩ (.slice none 0 0)) b G [] { st with ls := [], d := true } ∧ Kp [b] w ((w.setCell ⟨b, 5, none⟩ (.bool true)).setCell ⟨b, 0, none⟩ (.slice none 0 0)) := by
  obtain ⟨a1, a2, a3, a4, a5, a6, a7, v, u, hb, hv, hu, e1, e2⟩ := h
  have hk : Kp [b] w ((w.setCell ⟨b, 5, none⟩ (.bool true)).setCell ⟨b, 0, none⟩ (.slice none 0 0)) := ((Kp.refl [b] w).setCell (p := ⟨b, 5, none⟩) (by simp) _).setCell (p := ⟨b, 0, none⟩) (by simp) _
  exact ⟨⟨a1, a2, rfl, fun x hx => by simp at hx, fun h => absurd rfl h, ⟨by simp, a6.2⟩, a7, .slice none 0 0, u, (hb.set5 true).set0 _, RowG.nil _ _, hu.kp hk (fun k hg hg' => by simp at hg'; subst hg'; exact a1 hg), fun _ => rfl, e2⟩, hk⟩
theorem rline_dies {n : Nat} {w w1 : World} {b : Nat} {G raw} {st : RS} {s : List UInt8} {x : Int} (h : Rx n w b G raw st) (hb : Below w.heap.size w w1) (h1 : doneR st s = false) (h2 : errR st s = x) (h3 : stepR st s = { st with ls := [], d := true }) :
    RLinePost n w b G st s (.returned (.tuple #[.bool false, .int .i64 x])) ((w1.setCell ⟨b, 5, none⟩ (.bool true)).setCell ⟨b, 0, none⟩ (.slice none 0 0)) := by
  have := (h.below hb).died
  exact ⟨G, [], by rw [h1, h2], by rw [h3]; exact this.1, (Kp.of_below hb [b]).trans this.2 (fun k hk _ => hk), fun k hk => .inl hk⟩

/-- What Line asks of the lines that it holds. -/
theorem Rx.head {n : Nat} {w : World} {b : Nat} {G raw} {st : RS} (h : Rx n w b G raw st) (h0 : 0 < raw.length) : ∃ x, x = raw.getD 0 [] ∧ okForm x = true ∧ x.length ≤ 1000000 ∧ codeR x = st.c := by
  have hm : raw.getD 0 [] ∈ raw := by
    rw [List.getD_eq_getElem?_getD, List.getElem?_eq_getElem h0]
    exact List.getElem_mem h0
  exact ⟨_, rfl, (h.ok _ hm).1, (h.ok _ hm).2, h.c (by rintro rfl; simp at h0)⟩
end Go.Proofs.YtanfonpbnamjmaaDoor
