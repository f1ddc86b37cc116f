/-
  The reference's Line: where it dies by it.
-/
import Derived.Test.YtanfonpbnamjmaaDoorYRx
namespace Go.Proofs.YtanfonpbnamjmaaDoor
open Go Go.RowKit Go.Shelf
set_option maxRecDepth 100000

set_option maxHeartbeats 8000000 in
theorem rline_bad {n : Nat} {w : World} {b : Nat} {G raw} {st : RS} (h : Rx n w b G raw st) (s : List UInt8) (hs : s.length ≤ 1000000) (hd : st.d = false) (hbad : badL st s = true) :
    Calls Tryd.prog 21 #[.pointer (some ⟨b, 0, none⟩), sv s] w (RLinePost n w b G st s) := by
  have e1 : doneR st s = false := by unfold doneR; rw [hbad]; simp
  have e2 : errR st s = 4 := by unfold errR; rw [hd, hbad]; rfl
  have e3 : stepR st s = { st with ls := [], d := true } := by unfold stepR; rw [hd, hbad]; rfl
  have HE := Lib.hid (fun w1 (hb : Below w.heap.size w w1) => rline_dies (x := 4) h hb e1 e2 e3)
  have HP := Lib.hid (rparse_any s w hs)
  have HH := Lib.hid h
  obtain ⟨_, _, hls, _, _, _, _, v, u, hb, hv, _, _, _⟩ := h
  have hlen : st.ls.length = raw.length := by rw [hls, List.length_map]
  obtain ⟨Av, cv, rfl, hrow⟩ := hv
  have c5 := hb.c5
  rw [hd] at c5
  have HB := Lib.hid hb
  have HX := Lib.hid (show ∀ w1, Below w.heap.size w w1 → w1.cell? ⟨b, 0, none⟩ = some (.slice Av raw.length cv) ∧ w1.cell? ⟨b, 5, none⟩ = some (.bool st.d) ∧ w1.frozen? ⟨b, 0, none⟩ = false ∧ w1.frozen? ⟨b, 5, none⟩ = false from fun w1 hb1 => have h := (HB.out).below hb1; ⟨h.c0, h.c5, h.fr 0, h.fr 5⟩)
  cases hf : okForm s with
  | false =>
    have hv : parseV s = .tuple #[.int .i64 0, .bool false, sv [], .int .i64 4] := by unfold parseV; rw [hf]; rfl
    rw [hv] at HP
    clear hf hbad hv hb hrow hls hlen e1 e2 e3 hd
    go_enter Tryd.func21, Tryd.ntmps21
    go_wp2_with fail
    refine (HP.out).mono ?_
    rintro e w1 ⟨rfl, hb1⟩
    obtain ⟨k0, k5, f0, f5⟩ := HX.out _ hb1
    have HB1 := Lib.hid hb1
    clear hb1
    go_wp2_with fail
    go_ret2
    exact HE.out _ HB1.out
  | true =>
    have hv : parseV s = .tuple #[.int .i64 (codeR s : Int), .bool (moreR s), sv (textR s), .int .i64 0] := by unfold parseV; rw [if_pos hf]
    rw [hv] at HP
    unfold badL at hbad
    rw [hf] at hbad
    have hb2 : 0 < st.ls.length ∧ ¬ codeR s = st.c := by simpa using hbad
    rw [hlen] at hb2
    obtain ⟨x, hx, hok, hxl, hcx⟩ := HH.out.head hb2.1
    obtain ⟨g, hgG, rfl, hgl, hcell⟩ := hrow hb2.1
    have HC0 := Lib.hid (show ∀ w1, Below w.heap.size w w1 → w1.cell? ⟨g, 0, none⟩ = some (sv x) from fun w1 hb1 => by rw [hx]; exact (hb1.cell (p := ⟨g, 0, none⟩) hgl).trans (hcell 0 hb2.1))
    have HP2 := Lib.hid (fun W => rparse_any x W hxl)
    rw [show parseV x = .tuple #[.int .i64 (codeR x : Int), .bool (moreR x), sv (textR x), .int .i64 0] by unfold parseV; rw [if_pos hok]] at HP2
    obtain ⟨q, hq⟩ : ∃ q, q = codeR s := ⟨_, rfl⟩
    rw [← hq] at HP hb2
    rw [hcx] at HP2
    have hne : ((st.c : Int) != (q : Int)) = true := by rw [bne_iff_ne]; have := hb2.2; omega
    have hl : (0 : Int) < raw.length := by have := hb2.1; omega
    clear hf hbad hv hb hrow hls hlen e1 e2 e3 hd hb2 hx hok hxl hcx hgl hcell hq
    go_enter Tryd.func21, Tryd.ntmps21
    go_wp2_with fail
    refine (HP.out).mono ?_
    rintro e w1 ⟨rfl, hb1⟩
    obtain ⟨k0, k5, f0, f5⟩ := HX.out _ hb1
    have kg := HC0.out _ hb1
    have HB1 := Lib.hid hb1
    clear hb1
    go_wp2_with fail
    refine (HP2.out w1).mono ?_
    rintro e w2 ⟨rfl, hb2⟩
    have HB2 := Lib.hid ((HB1.out).trans (hb2.mono HB1.out.size))
    obtain ⟨k0', k5', f0', f5'⟩ := HX.out _ HB2.out
    clear hb2 k0 k5 f0 f5 kg
    go_wp2_with fail
    go_ret2
    exact HE.out _ HB2.out

set_option maxHeartbeats 8000000 in
theorem rline_full {n : Nat} {w : World} {b : Nat} {G raw} {st : RS} (h : Rx n w b G raw st) (s : List UInt8) (hs : s.length ≤ 1000000) (hd : st.d = false) (hbad : badL st s = false) (h32 : st.ls.length = 32) :
    Calls Tryd.prog 21 #[.pointer (some ⟨b, 0, none⟩), sv s] w (RLinePost n w b G st s) := by
  have e1 : doneR st s = false := by unfold doneR; rw [h32]; simp
  have e2 : errR st s = 40 := by unfold errR; rw [hd, hbad, if_pos h32]; rfl
  have e3 : stepR st s = { st with ls := [], d := true } := by unfold stepR; rw [hd, hbad, if_pos h32]; rfl
  have HE := Lib.hid (fun w1 (hb : Below w.heap.size w w1) => rline_dies (x := 40) h hb e1 e2 e3)
  have HP := Lib.hid (rparse_any s w hs)
  have HH := Lib.hid h
  obtain ⟨_, _, hls, _, _, _, _, v, u, hb, hv, _, _, _⟩ := h
  have hlen : st.ls.length = raw.length := by rw [hls, List.length_map]
  obtain ⟨Av, cv, rfl, hrow⟩ := hv
  have c5 := hb.c5
  rw [hd] at c5
  have HB := Lib.hid hb
  have HX := Lib.hid (show ∀ w1, Below w.heap.size w w1 → w1.cell? ⟨b, 0, none⟩ = some (.slice Av raw.length cv) ∧ w1.cell? ⟨b, 5, none⟩ = some (.bool st.d) ∧ w1.frozen? ⟨b, 0, none⟩ = false ∧ w1.frozen? ⟨b, 5, none⟩ = false from fun w1 hb1 => have h := (HB.out).below hb1; ⟨h.c0, h.c5, h.fr 0, h.fr 5⟩)
  have hf : okForm s = true := by
    unfold badL at hbad
    cases e : okForm s with
    | true => rfl
    | false => rw [e] at hbad; simp at hbad
  have hv : parseV s = .tuple #[.int .i64 (codeR s : Int), .bool (moreR s), sv (textR s), .int .i64 0] := by unfold parseV; rw [if_pos hf]
  rw [hv] at HP
  unfold badL at hbad
  rw [hf, h32] at hbad
  have hb2 : codeR s = st.c := by simpa using hbad
  have hr32 : raw.length = 32 := by omega
  obtain ⟨x, hx, hok, hxl, hcx⟩ := HH.out.head (by omega)
  obtain ⟨g, hgG, rfl, hgl, hcell⟩ := hrow (by omega)
  have HC0 := Lib.hid (show ∀ w1, Below w.heap.size w w1 → w1.cell? ⟨g, 0, none⟩ = some (sv x) from fun w1 hb1 => by rw [hx]; exact (hb1.cell (p := ⟨g, 0, none⟩) hgl).trans (hcell 0 (by omega)))
  have HP2 := Lib.hid (fun W => rparse_any x W hxl)
  rw [show parseV x = .tuple #[.int .i64 (codeR x : Int), .bool (moreR x), sv (textR x), .int .i64 0] by unfold parseV; rw [if_pos hok]] at HP2
  rw [hb2] at HP
  rw [hcx] at HP2
  have hne : ((st.c : Int) != (st.c : Int)) = false := by simp
  have hl : (0 : Int) < raw.length := by omega
  have hl2 : (32 : Int) ≤ raw.length := by omega
  clear hf hbad hv hb hrow hls hlen e1 e2 e3 hd hb2 hx hok hxl hcx hgl hcell h32 hr32
  go_enter Tryd.func21, Tryd.ntmps21
  go_wp2_with fail
  refine (HP.out).mono ?_
  rintro e w1 ⟨rfl, hb1⟩
  obtain ⟨k0, k5, f0, f5⟩ := HX.out _ hb1
  have kg := HC0.out _ hb1
  have HB1 := Lib.hid hb1
  clear hb1
  go_wp2_with fail
  refine (HP2.out w1).mono ?_
  rintro e w2 ⟨rfl, hb2⟩
  have HB2 := Lib.hid ((HB1.out).trans (hb2.mono HB1.out.size))
  obtain ⟨k0', k5', f0', f5'⟩ := HX.out _ HB2.out
  clear hb2 k0 k5 f0 f5 kg
  go_wp2_with fail
  go_ret2
  exact HE.out _ HB2.out
end Go.Proofs.YtanfonpbnamjmaaDoor
