/-
  Readers of the program's: Line, where it is dead, or dies by it.
-/
import Derived.Test.YtanfonpbnamjmaaDoorYCopy
namespace Go.Proofs.YtanfonpbnamjmaaDoor
open Go Go.RowKit Go.Shelf
set_option maxRecDepth 100000

/-- What Line tells and leaves. -/
def LinePost (n : Nat) (w : World) (b : Nat) (F : List Nat) (st : RS) (s : List UInt8) (e : Ending) (w' : World) : Prop :=
  ∃ F', e = .returned (.tuple #[.bool (doneR st s), .int .i64 (errR st s)]) ∧ Rd n w' b F' (stepR st s) ∧ Kp F w w' ∧ (∀ k ∈ F', k ∈ F ∨ w.heap.size ≤ k)

theorem line_dead {n : Nat} {w : World} {b : Nat} {F : List Nat} {st : RS} (h : Rd n w b F st) (s : List UInt8) (hd : st.d = true) :
    Calls Tryd.prog 20 #[.pointer (some ⟨b, 0, none⟩), sv s] w (LinePost n w b F st s) := by
  have H := Lib.hid (show LinePost n w b F st s (.returned (.tuple #[.bool false, .int .i64 7])) w by
    refine ⟨F, ?_, ?_, Kp.refl _ _, fun k hk => .inl hk⟩
    · unfold doneR errR; rw [hd]; rfl
    · unfold stepR; rw [if_pos hd]; exact h)
  obtain ⟨_, _, _, _, v, u, hb, _⟩ := h
  have hb0 : Blk w b st.c v st.lc st.lst u st.d := hb
  have c5 := hb0.c5
  rw [hd] at c5
  clear hb hb0 hd
  go_enter Tryd.func20, Tryd.ntmps20
  go_wp2_with fail
  go_ret2
  exact H.out

theorem Rd.died {n : Nat} {w : World} {b : Nat} {F : List Nat} {st : RS} (h : Rd n w b F st) :
    Rd n ((w.setCell ⟨b, 1, none⟩ (.slice none 0 0)).setCell ⟨b, 5, none⟩ (.bool true)) b F { st with ls := [], d := true } ∧ Kp F w ((w.setCell ⟨b, 1, none⟩ (.slice none 0 0)).setCell ⟨b, 5, none⟩ (.bool true)) := by
  obtain ⟨hm, hu, hl, he, v, u, hb, hv, hu', h1, h2, h3, h4, h5⟩ := h
  have hb0 : Blk w b st.c v st.lc st.lst u st.d := hb
  have hk : Kp [b] w ((w.setCell ⟨b, 1, none⟩ (.slice none 0 0)).setCell ⟨b, 5, none⟩ (.bool true)) := ((Kp.refl [b] w).setCell (p := ⟨b, 1, none⟩) (by simp) _).setCell (p := ⟨b, 5, none⟩) (by simp) _
  refine ⟨Rd.make (st := { st with ls := [], d := true }) (v := .slice none 0 0) (u := u) ((hb0.set1 _).set5 true) hm (fun k e => ?_) ⟨by simp, hl.2⟩ he (World.ownsRow_nil _ _ _ _) (ownsRow_kp hu' hk (fun g e hg => hb0.ne hu' (by rw [e]; simp at hg; rw [hg])))
    (fun g e => by simp [Value.ownBlock] at e) h2 (fun g e => by simp [Value.ownBlock] at e) (fun _ => rfl) h5, hk.mono (fun k e => by simp at e; subst e; exact hm)⟩
  have := hu k e
  simpa [World.setCell] using this

/-- The end where it dies by this. -/
theorem line_dies {n : Nat} {w w1 : World} {b : Nat} {F : List Nat} {st : RS} {s : List UInt8} {x : Int} (h : Rd n w b F st) (hb : Below w.heap.size w w1) (h1 : doneR st s = false) (h2 : errR st s = x) (h3 : stepR st s = { st with ls := [], d := true }) :
    LinePost n w b F st s (.returned (.tuple #[.bool false, .int .i64 x])) ((w1.setCell ⟨b, 1, none⟩ (.slice none 0 0)).setCell ⟨b, 5, none⟩ (.bool true)) := by
  have := (h.below hb).died
  exact ⟨F, by rw [h1, h2], by rw [h3]; exact this.1, (Kp.of_below hb F).trans this.2 (fun k hk _ => hk), fun k hk => .inl hk⟩

set_option maxHeartbeats 4000000 in
theorem line_bad {n : Nat} {w : World} {b : Nat} {F : List Nat} {st : RS} (h : Rd n w b F st) (hw : LW w) (s : List UInt8) (hs : s.length ≤ 1000000) (hd : st.d = false) (hbad : badL st s = true) :
    Calls Tryd.prog 20 #[.pointer (some ⟨b, 0, none⟩), sv s] w (LinePost n w b F st s) := by
  have HP := Lib.hid (parse_any s w hs hw)
  have e1 : doneR st s = false := by unfold doneR; rw [hbad]; simp
  have e2 : errR st s = 4 := by unfold errR; rw [hd, hbad]; rfl
  have e3 : stepR st s = { st with ls := [], d := true } := by unfold stepR; rw [hd, hbad]; rfl
  have HE := Lib.hid (fun w1 (hb : Below w.heap.size w w1) => line_dies (x := 4) h hb e1 e2 e3)
  obtain ⟨_, _, _, _, v, u, hb, hv, _⟩ := h
  obtain ⟨Av, cv, rfl⟩ := owns_form hv
  have hb0 : Blk w b st.c (.slice Av st.ls.length cv) st.lc st.lst u st.d := hb
  have c5 := hb0.c5
  rw [hd] at c5
  have HB := Lib.hid hb0
  clear hb hb0 hd hv e1 e2 e3 hw
  have HDIE := Lib.hid (fun w1 (hb : Below w.heap.size w w1) => die_any 4 b w1 (HB.out.below hb))
  have HCC := Lib.hid (fun w1 (hb : Below w.heap.size w w1) => (HB.out.below hb).c0)
  have HCV := Lib.hid (fun w1 (hb : Below w.heap.size w w1) => (HB.out.below hb).c1)
  cases hf : okForm s with
  | false =>
    have hv : parseV s = .tuple #[.int .i64 0, .bool false, sv [], .int .i64 4] := by unfold parseV; rw [hf]; rfl
    rw [hv] at HP
    clear hf hbad hv
    go_enter Tryd.func20, Tryd.ntmps20
    go_wp2_with first
      | (go_at_call 52; refine (HP.out).mono ?_; rintro e w1 ⟨rfl, hb1⟩)
      | (go_at_call 54; refine (HDIE.out _ hb1).mono ?_; rintro e w2 ⟨rfl, rfl⟩)
    go_ret2
    exact HE.out _ hb1
  | true =>
    have hv : parseV s = .tuple #[.int .i64 (codeR s : Int), .bool (moreR s), sv (textR s), .int .i64 0] := by unfold parseV; rw [if_pos hf]
    rw [hv] at HP
    unfold badL at hbad
    rw [hf] at hbad
    have hb2 : 0 < st.ls.length ∧ ¬ codeR s = st.c := by simpa using hbad
    have hl : (0 : Int) < st.ls.length := by omega
    obtain ⟨q, hq⟩ : ∃ q, q = codeR s := ⟨_, rfl⟩
    rw [← hq] at HP hb2
    have hne : ((q : Int) != (st.c : Int)) = true := by rw [bne_iff_ne]; omega
    clear hf hbad hv hb2 hq
    go_enter Tryd.func20, Tryd.ntmps20
    go_wp2_with first
      | (go_at_call 52; refine (HP.out).mono ?_; rintro e w1 ⟨rfl, hb1⟩; have hc1 := HCC.out _ hb1; have hc2 := HCV.out _ hb1; have HB1 := Lib.hid hb1; clear hb1)
      | (go_at_call 54; refine (HDIE.out _ HB1.out).mono ?_; rintro e w2 ⟨rfl, rfl⟩)
    go_ret2
    exact HE.out _ HB1.out

set_option maxHeartbeats 4000000 in
theorem line_full {n : Nat} {w : World} {b : Nat} {F : List Nat} {st : RS} (h : Rd n w b F st) (hw : LW w) (s : List UInt8) (hs : s.length ≤ 1000000) (hd : st.d = false) (hbad : badL st s = false) (h32 : st.ls.length = 32) :
    Calls Tryd.prog 20 #[.pointer (some ⟨b, 0, none⟩), sv s] w (LinePost n w b F st s) := by
  have HP := Lib.hid (parse_any s w hs hw)
  have e1 : doneR st s = false := by unfold doneR; rw [h32]; simp
  have e2 : errR st s = 40 := by unfold errR; rw [hd, hbad, if_pos h32]; rfl
  have e3 : stepR st s = { st with ls := [], d := true } := by unfold stepR; rw [hd, hbad, if_pos h32]; rfl
  have HE := Lib.hid (fun w1 (hb : Below w.heap.size w w1) => line_dies (x := 40) h hb e1 e2 e3)
  obtain ⟨_, _, _, _, v, u, hb, hv, _⟩ := h
  obtain ⟨Av, cv, rfl⟩ := owns_form hv
  rw [h32] at hb
  have hb0 : Blk w b st.c (.slice Av 32 cv) st.lc st.lst u st.d := hb
  have c5 := hb0.c5
  rw [hd] at c5
  have HB := Lib.hid hb0
  clear hb hb0 hd hv e1 e2 e3 hw
  have HDIE := Lib.hid (fun w1 (hb : Below w.heap.size w w1) => die_any 40 b w1 (HB.out.below hb))
  have HCC := Lib.hid (fun w1 (hb : Below w.heap.size w w1) => (HB.out.below hb).c0)
  have HCV := Lib.hid (fun w1 (hb : Below w.heap.size w w1) => (HB.out.below hb).c1)
  have hf : okForm s = true := by
    unfold badL at hbad
    cases e : okForm s with
    | true => rfl
    | false => rw [e] at hbad; simp at hbad
  have hv : parseV s = .tuple #[.int .i64 (codeR s : Int), .bool (moreR s), sv (textR s), .int .i64 0] := by unfold parseV; rw [if_pos hf]
  rw [hv] at HP
  unfold badL at hbad
  rw [hf, h32] at hbad
  have hb2 : codeR s = st.c := by simpa using hbad
  obtain ⟨q, hq⟩ : ∃ q, q = codeR s := ⟨_, rfl⟩
  rw [← hq] at HP hb2
  have hne : ((q : Int) != (st.c : Int)) = false := by rw [hb2]; simp
  clear hf hbad hv hb2 hq h32
  go_enter Tryd.func20, Tryd.ntmps20
  go_wp2_with first
    | (go_at_call 52; refine (HP.out).mono ?_; rintro e w1 ⟨rfl, hb1⟩; have hc1 := HCC.out _ hb1; have hc2 := HCV.out _ hb1; have HB1 := Lib.hid hb1; clear hb1)
    | (go_at_call 54; refine (HDIE.out _ HB1.out).mono ?_; rintro e w2 ⟨rfl, rfl⟩)
  go_ret2
  exact HE.out _ HB1.out
end Go.Proofs.YtanfonpbnamjmaaDoor
