/-
  The calls of a law over a row of certificates of its own.
-/
import Derived.Test.YtoinicmhkfomjaaGreatDoorJLinkQ
namespace Go.Proofs.YtoinicmhkfomjaaGreatDoor
set_option linter.unusedSimpArgs false
set_option linter.unusedVariables false
open Go Go.RowKit
set_option maxRecDepth 100000

theorem bounds_u8 {a : Int} (h : (Lit.int .u8 a).wf = true) : 0 ≤ a ∧ a ≤ 255 := by
  simp only [Lit.wf, IntKind.min, IntKind.max, IntKind.signed, IntKind.bits, Bool.and_eq_true, decide_eq_true_eq] at h
  simpa using h
theorem CO.lower {base base' : Nat} {w : World} {v : Value} {ps : List Cn} (h : CO base w v ps) (hb : base' ≤ base) : CO base' w v ps := by
  refine ⟨h.1, ?_⟩
  rcases h.2 with h | ⟨g, cap, cur, h1, h2, h3⟩
  · exact .inl h
  · exact .inr ⟨g, cap, cur, h1, by omega, h3⟩
theorem CO.free {base g n c : Nat} {w : World} {ps : List Cn} (h : CO base w (.slice (some ⟨g, 0, none⟩) n c) ps) (j : Nat) : w.frozen? ⟨g, j, none⟩ = false := by
  rcases h.2 with ⟨e, _⟩ | ⟨g', cap, cur, e, _, hb, _⟩
  · cases e
  · cases e
    exact freeAt hb j
theorem CO.blk {base : Nat} {w : World} {v : Value} {ps : List Cn} (h : CO base w v ps) (hp : 0 < ps.length) : ∃ g c, v = .slice (some ⟨g, 0, none⟩) ps.length c ∧ base ≤ g ∧ g < w.heap.size ∧ ps.length ≤ c := by
  rcases h.2 with ⟨_, h0⟩ | ⟨g, cap, cur, rfl, hb, hgg, hc, _⟩
  · omega
  · exact ⟨g, cap, rfl, hb, lt_of_blk hgg, hc⟩
theorem CO.crs {base g n c : Nat} {w : World} {ps : List Cn} (h : CO base w (.slice (some ⟨g, 0, none⟩) n c) ps) (hn : NO base w ps) : CR w (some ⟨g, 0, none⟩) (ps.map (·.1)) (nvOf ps) := by
  obtain ⟨A, c', e, _, h1⟩ := h.cr hn
  simp only [Value.slice.injEq] at e
  obtain ⟨rfl, _, _⟩ := e
  exact h1
section
variable {P : World → Prop} {W : World} (hP : Ca P) (h : P W)
include hP h
theorem linked_o {od : List Ct} {A : Option Addr} {N cp : Nat} {nv : Nat → Value} (hl : od.length = N) (hr : CR W A od nv) (hs : shortR od) :
    Calls Tryz.prog 35 #[.slice A N cp] W fun e w' => e = .returned (.bool (linkedB od)) ∧ P w' := by
  subst hl
  exact (linked_any od A cp nv hr hs (hP.ga h)).mono fun e w' ⟨h1, h2⟩ => ⟨h1, hP.step h h2⟩
theorem anch_o {od : List Ct} {A : Option Addr} {N cp R : Nat} {nv : Nat → Value} {b : Bool} (hl : od.length = N) (hr : CR W A od nv) (hs : shortR od) (hc : N ≤ cp) (hx : SX W (.slice (some ⟨R, 0, none⟩) 1 1) [rtL]) (hb : anchB od 15 [rtL] = b) :
    Calls Tryz.prog 36 #[.slice A N cp, .int .i64 15, .slice (some ⟨R, 0, none⟩) 1 1] W fun e w' => e = .returned (.bool b) ∧ P w' := by
  subst hl
  subst hb
  exact (anch_any od A cp nv 15 [rtL] (some ⟨R, 0, none⟩) 1 hr hs hc hx (by simp) (hP.ga h)).mono fun e w' ⟨h1, h2⟩ => ⟨h1, hP.step h h2⟩
theorem sent_o {od : List Ct} {A : Option Addr} {N cp : Nat} {nv : Nat → Value} (hl : od.length = N) (hr : CR W A od nv) (hs : shortR od) (hN : N ≤ 4) :
    Calls Tryz.prog 33 #[.slice A N cp] W fun e w' => ∃ A' c', e = .returned (.slice A' N c') ∧ SX w' (.slice A' N c') (od.map encL) ∧ N ≤ c' ∧ P w' := by
  subst hl
  refine (sent_any od A cp nv hr (fun k hk => hs.at hk) (by omega) (hP.ga h).gl).mono fun e w' ⟨A', c', h1, h2, h3⟩ => ⟨A', c', h1, ?_, ?_, hP.step h h3⟩
  · have := h2.sx
    exact this
  · obtain ⟨a, c, e1, hc⟩ := h2.cap
    simp only [Value.slice.injEq] at e1
    obtain ⟨_, _, rfl⟩ := e1
    rw [List.length_map] at hc; exact hc
theorem judge_o {od : List Ct} {A : Option Addr} {N cp R z : Nat} (hl : od.length = N) (hN : N ≤ 4) (hx : SX W (.slice A N cp) (od.map encL)) (hc : N ≤ cp) (hr : SX W (.slice (some ⟨R, 0, none⟩) 1 1) [rtL]) (hz : judgeN (od.map encL) xyT 15 [rtL] = z) :
    Calls Tryz.prog 32 #[.slice A N cp, .string { data := #[120, 46, 121] }, .int .i64 15, .slice (some ⟨R, 0, none⟩) 1 1] W fun e w' => e = .returned (.int .u8 (z : Nat)) ∧ P w' := by
  subst hl
  subst hz
  have := @judge_any W (od.map encL) A cp xyT 15 [rtL] (some ⟨R, 0, none⟩) 1 (by rw [List.length_map]; exact hx) (fun s hs => by
    obtain ⟨c, _, rfl⟩ := List.mem_map.1 hs
    have := encL_le c; omega) (by rw [List.length_map]; exact hc) (by rw [List.length_map]; omega) (by decide) hr (by simp) (hP.ga h)
  rw [List.length_map] at this
  exact this.mono fun e w' ⟨h1, h2⟩ => ⟨h1, hP.step h h2⟩
end
theorem digest_root {w : World} (hw : GA w) : Calls Tryz.prog 15 #[.string { data := #[114, 111, 111, 116] }] w fun e w' => e = .returned (sv rtL) ∧ Below w.heap.size w w' := digest_any rootT (by decide) hw.lw
theorem links_shortR {N : Nat} (hN : N ≤ 4) : shortR (linksL N) := ⟨by rw [links_len]; omega, fun c hc => by
  obtain ⟨i, hi, rfl⟩ := List.mem_map.1 hc
  exact links_short (List.mem_range.1 hi) hN⟩
theorem odd_shortR {N k : Nat} {c : Ct} (hN : N ≤ 4) (hc : shortC c) : shortR ((linksL N).set k c) := ⟨by rw [List.length_set, links_len]; omega, fun d hd => by
  rcases List.mem_or_eq_of_mem_set hd with h | rfl
  · exact (links_shortR hN).2 d h
  · exact hc⟩
/-- A copy of the row, and what one field's store leaves. -/
theorem odd_ready {Q2 : World → Prop} (hQ : Ca Q2) {w9 u : World} (q9 : Q2 w9) {ps : List Cn} {N g cp : Nat} (hco : CO u.heap.size w9 (.slice (some ⟨g, 0, none⟩) N cp) ps) (hno : NO u.heap.size w9 ps) (hu : u.heap.size ≤ w9.heap.size) (hpl : ps.length = N) (h1 : 1 ≤ N) (h4 : N ≤ 4) (hml : ps.map (·.1) = linksL N) :
    ∃ g2 cap2 w10, (Builtin.append_ #[29, 29] 29 #[.slice (some ⟨w9.heap.size, 0, none⟩) 0 0, .slice (some ⟨g, 0, none⟩) N cp]).run Tryz.prog (w9.alloc (.cells #[] 27)) = .ok (.slice (some ⟨g2, 0, none⟩) N cap2) w10 ∧
      Q2 w10 ∧ N ≤ cap2 ∧ (∀ j, w10.frozen? ⟨g2, j, none⟩ = false) ∧ (∀ k i, k < N → i < 6 → w10.cell? ⟨g2, k * 6 + i, none⟩ = (cvs (linkC N k) (nvOf ps k))[i]?) ∧ (∀ k i, k < N → i < 6 → w10.cell? ⟨g, k * 6 + i, none⟩ = (cvs (linkC N k) (nvOf ps k))[i]?) ∧
      ∀ k f val c', k < N → f < 6 → (∀ i, i < 6 → (cvs c' (nvOf ps k))[i]? = if i = f then some val else (cvs (linkC N k) (nvOf ps k))[i]?) → c'.names = (linkC N k).names →
        Q2 (w10.setCell ⟨g2, k * 6 + f, none⟩ val) ∧ CR (w10.setCell ⟨g2, k * 6 + f, none⟩ val) (some ⟨g2, 0, none⟩) ((linksL N).set k c') (nvOf ps) := by
  subst hpl
  obtain ⟨g2, cap2, w10, hr, hco2, hb2⟩ := co_copy hco (by omega) (by omega)
  have hbg2 := (hco2.lt (g := g2) rfl).1
  have hno10 := hno.below hb2
  have hcr2 : CR w10 (some ⟨g2, 0, none⟩) (linksL ps.length) (nvOf ps) := by
    have := (hco2.lower hu).crs hno10
    rw [hml] at this; exact this
  have hcr9 : CR w9 (some ⟨g, 0, none⟩) (linksL ps.length) (nvOf ps) := by
    have := hco.crs hno
    rw [hml] at this; exact this
  have hcr1 := hcr9.step hb2
  have cells : ∀ {G : Nat}, CR w10 (some ⟨G, 0, none⟩) (linksL ps.length) (nvOf ps) → ∀ k i, k < ps.length → i < 6 → w10.cell? ⟨G, k * 6 + i, none⟩ = (cvs (linkC ps.length k) (nvOf ps k))[i]? := by
    intro G h k i hk hi
    obtain ⟨g', off', e, _, hcc, _⟩ := h.at (k := k) (by rw [links_len]; exact hk)
    cases e
    have := cc_iff.1 hcc i hi
    rw [Nat.zero_add, links_at hk] at this
    exact this
  refine ⟨g2, cap2, w10, hr, hQ.step q9 hb2, ?_, hco2.free, cells hcr2, cells hcr1, fun k f val c' hk hf hc hcn => ⟨hQ.step q9 (hb2.setCell (p := ⟨g2, k * 6 + f, none⟩) hbg2 val), ?_⟩⟩
  · obtain ⟨A, c, e, hc⟩ := hco2.form
    simp only [Value.slice.injEq] at e
    obtain ⟨_, _, rfl⟩ := e
    exact hc
  · refine cr_set hcr2 (fun j hj => hcr9.sx hj) hb2 hbg2 (by rw [links_len]; exact hk) hf val c' ?_ ?_
    · rw [links_at hk]; exact hc
    · rw [links_at hk]; exact hcn
end Go.Proofs.YtoinicmhkfomjaaGreatDoor
