/-
  The reference's disk: Fail, Read, Write.
-/
import Derived.Test.YtechpecnanodfaaDRef0
namespace Go.Proofs.Ytechpecnanodfaa
open Go Go.RowKit Go.Maps
set_option maxRecDepth 100000
set_option linter.unusedSimpArgs false
set_option linter.unusedVariables false

theorem fail_rd {w : World} {q g1 g2 g3 : Nat} {S : DS} (h : RD w q g1 g2 g3 S) {a : Int} (ha : (-9223372036854775808 : Int) ≤ a ∧ a ≤ 9223372036854775807) :
    Calls Try.prog 41 #[dp q, .int .i64 a] w fun e w' => e = .returned (.tuple #[]) ∧ RD w' q g1 g2 g3 (S.fail a) ∧ Kp [q] w w' := by
  obtain ⟨c1, c2, c3, left, fails, hq, h1, h2, h3, hr⟩ := h.box
  obtain ⟨n1, n2, n3, _⟩ := h.ne
  refine (fail_r hq (a := a)).mono fun e w' ⟨he, hq', hk⟩ => ⟨he, ⟨h.ok.fail ha, ⟨c1, c2, c3, a, _, hq', h1.of_block (hk.block _ h1.lt (by simp; omega)), h2.of_block (hk.block _ h2.lt (by simp; omega)), h3.of_block (hk.block _ h3.lt (by simp; omega)), ⟨ha, fun _ => ⟨rfl, fun _ => rfl⟩⟩⟩, h.ne⟩, hk⟩

set_option maxHeartbeats 2000000 in
theorem read_rd {w : World} {q g1 g2 g3 : Nat} {S : DS} (h : RD w q g1 g2 g3 S) (a : Int) :
    Calls Try.prog 43 #[dp q, .int .i64 a] w fun e w' => e = .returned (.tuple #[sv (S.rdV a), .int .i64 (S.rdE a)]) ∧ Below w.heap.size w w' := by
  obtain ⟨c1, c2, c3, left, fails, hq, h1, h2, h3, hr⟩ := h.box
  have k1 : w.cell? ⟨q, 1, none⟩ = some (.slice (some ⟨g2, 0, none⟩) S.was.length c2) := cellAt hq 1
  have k6 : w.cell? ⟨q, 6, none⟩ = some (.bool S.off) := cellAt hq 6
  have HOK := Lib.hid h.ok
  have H2 := Lib.hid h2
  have HRV := Lib.hid (show S.rdV a = if S.rdE a = 0 then S.now.getD a.toNat [] else [] from rfl)
  have HRE := Lib.hid (show S.rdE a = if S.off then 42 else if S.has a then 0 else 1 from rfl)
  have HHA := Lib.hid (DS.has_iff (S := S) (a := a))
  generalize hn : S.was.length = n at k1 HHA
  have HN := Lib.hid hn
  have hn2 : n ≤ 1024 := by have := h.ok.n2; omega
  clear h hq h1 h2 h3 hr hn
  generalize S.rdE a = re at HRV HRE ⊢
  generalize S.rdV a = rv at HRV ⊢
  go_enter Try.func43, Try.ntmps43
  cases hoff : S.off with
  | true =>
    rw [hoff] at k6
    have e1 : re = 42 := by rw [HRE.out, hoff]; rfl
    have e2 : rv = [] := by rw [HRV.out, e1]; rfl
    subst e1 e2
    clear hoff
    go_wp2_with fail
    go_ret2
    exact ⟨rfl, Below.refl _ _⟩
  | false =>
    rw [hoff] at k6
    by_cases ha0 : a < 0
    · have hh : S.has a = false := by
        cases hx : S.has a with
        | false => rfl
        | true => have := HHA.out.1 hx; omega
      have e1 : re = 1 := by rw [HRE.out, hoff, hh]; rfl
      have e2 : rv = [] := by rw [HRV.out, e1]; rfl
      subst e1 e2
      clear hoff hh
      go_wp2_with fail
      go_ret2
      exact ⟨rfl, Below.refl _ _⟩
    · by_cases ha1 : (n : Int) ≤ a
      · have hh : S.has a = false := by
          cases hx : S.has a with
          | false => rfl
          | true => have := HHA.out.1 hx; omega
        have e1 : re = 1 := by rw [HRE.out, hoff, hh]; rfl
        have e2 : rv = [] := by rw [HRV.out, e1]; rfl
        subst e1 e2
        clear hoff hh
        go_wp2_with fail
        go_ret2
        exact ⟨rfl, Below.refl _ _⟩
      · have hh : S.has a = true := HHA.out.2 ⟨by omega, by omega⟩
        obtain ⟨i, rfl⟩ : ∃ i : Nat, a = (i : Int) := ⟨a.toNat, by omega⟩
        have hil : i < S.now.length := by rw [HOK.out.hn, HN.out]; omega
        have hc := (H2.out.cell (j := i) (by rw [txs_length]; exact hil)).1
        rw [txs_getD hil] at hc
        have e1 : re = 0 := by rw [HRE.out, hoff, hh]; rfl
        have e2 : rv = S.now.getD i [] := by rw [HRV.out, e1]; rfl
        have hin : (i : Int) < (n : Int) := by omega
        have hi0 : (0 : Int) ≤ (i : Int) := by omega
        have hni : ¬ (n : Int) ≤ (i : Int) := ha1
        have hn0 : ¬ (i : Int) < 0 := ha0
        subst e1
        rw [← e2] at hc
        clear hoff hh e2 hil HRV HRE HHA ha0 ha1
        go_wp2_with fail
        go_ret2
        exact ⟨rfl, Below.refl _ _⟩
end Go.Proofs.Ytechpecnanodfaa
