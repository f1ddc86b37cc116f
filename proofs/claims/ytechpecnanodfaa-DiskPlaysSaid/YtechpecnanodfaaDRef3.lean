/-
  The reference's disk: Sync.
-/
import Derived.Test.YtechpecnanodfaaDRef2
namespace Go.Proofs.Ytechpecnanodfaa
open Go Go.RowKit Go.Maps
set_option maxRecDepth 100000
set_option linter.unusedSimpArgs false
set_option linter.unusedVariables false

theorem info9r : (Try.prog.info? 9).map (fun i => (i.zero, i.size, i.bytes)) = some (some (.string ⟨#[]⟩), 1, 16) := by kernel_rfl
theorem info4r : (Try.prog.info? 4).map (fun i => (i.zero, i.size, i.bytes)) = some (some (.bool false), 1, 1) := by kernel_rfl
theorem txs_cell (xs : List (List UInt8)) : ∀ v ∈ txs xs, v.oneCell' = true := by
  intro v hv
  simp only [txs, List.mem_map] at hv
  obtain ⟨s, _, rfl⟩ := hv
  rfl
theorem bls_cell (xs : List Bool) : ∀ v ∈ bls xs, v.oneCell' = true := by
  intro v hv
  simp only [bls, List.mem_map] at hv
  obtain ⟨s, _, rfl⟩ := hv
  rfl
theorem XR.news {w : World} {e : TypeId} {g cap : Nat} {xs : List Value} (hx : XR w e g cap xs) (o : Obj) : ∃ ad, some (⟨g, 0, none⟩ : Addr) = some ad ∧ ∀ j u, xs[j]? = some u → (w.alloc o).cell? (ad.add j) = some u := by
  refine ⟨_, rfl, fun j u hu => ?_⟩
  have hj : j < xs.length := (List.getElem?_eq_some_iff.1 hu).1
  have hx' := hx.of_block (w' := w.alloc o) (Lib.alloc_old w _ g hx.lt)
  rw [Addr.add_mid, Nat.zero_add, (hx'.cell hj).1, ← hu, List.getD_eq_getElem?_getD, List.getElem?_eq_getElem hj]; rfl
theorem fresh_t (w : World) {g cap n c : Nat} {xs : List (List UInt8)} (hx : XR w 9 g cap (txs xs)) (hn : n = xs.length) (hp : 0 < n) (hn2 : n ≤ 100000) :
    ∃ g' cap' w', (Builtin.append_ #[51, 51] 51 #[.slice (some ⟨w.heap.size, 0, none⟩) 0 0, .slice (some ⟨g, 0, none⟩) n c]).run Try.prog (w.alloc (.cells #[] 9)) = .ok (.slice (some ⟨g', 0, none⟩) n cap') w' ∧ XR w' 9 g' cap' (txs xs) ∧ Below w.heap.size w w' ∧ w.heap.size ≤ g' :=
  run_fresh (z := .string ⟨#[]⟩) (by_ := 16) Try.underlying51 info9r rfl (by omega) w (by rw [txs_length]; exact hn) hp (by omega) (hx.news _) (txs_cell xs)
theorem fresh_b (w : World) {g cap n c : Nat} {xs : List Bool} (hx : XR w 4 g cap (bls xs)) (hn : n = xs.length) (hp : 0 < n) (hn2 : n ≤ 100000) :
    ∃ g' cap' w', (Builtin.append_ #[76, 76] 76 #[.slice (some ⟨w.heap.size, 0, none⟩) 0 0, .slice (some ⟨g, 0, none⟩) n c]).run Try.prog (w.alloc (.cells #[] 4)) = .ok (.slice (some ⟨g', 0, none⟩) n cap') w' ∧ XR w' 4 g' cap' (bls xs) ∧ Below w.heap.size w w' ∧ w.heap.size ≤ g' :=
  run_fresh (z := .bool false) (by_ := 1) Try.underlying76 info4r rfl (by omega) w (by rw [bls_length]; exact hn) hp (by omega) (hx.news _) (bls_cell xs)

/-- The reference's disk has turned: its blocks are the old ones, or new ones. -/
def RT (w w' : World) (q g1 g2 g3 : Nat) (T : DS) : Prop := ∃ h1 h2 h3, RD w' q h1 h2 h3 T ∧ Kp [q, g1, g2, g3] w w' ∧ ∀ b ∈ [q, h1, h2, h3], b ∈ [q, g1, g2, g3] ∨ w.heap.size ≤ b
theorem RT.same {w w' : World} {q g1 g2 g3 : Nat} {T : DS} (h : RD w' q g1 g2 g3 T) (hk : Kp [q, g1, g2, g3] w w') : RT w w' q g1 g2 g3 T := ⟨g1, g2, g3, h, hk, fun b hb => .inl hb⟩

set_option maxHeartbeats 4000000 in
theorem sync_rd {w : World} {q g1 g2 g3 : Nat} {S : DS} (h : RD w q g1 g2 g3 S) (hops : S.ops < 4611686018427387904) :
    Calls Try.prog 40 #[dp q] w fun e w' => e = .returned (.int .i64 S.offE) ∧ RT w w' q g1 g2 g3 S.sync := by
  have HH := Lib.hid h
  obtain ⟨c1, c2, c3, left, fails, hq, h1, h2, h3, hr⟩ := h.box
  have k1 : w.cell? ⟨q, 1, none⟩ = some (.slice (some ⟨g2, 0, none⟩) S.was.length c2) := cellAt hq 1
  have k6 : w.cell? ⟨q, 6, none⟩ = some (.bool S.off) := cellAt hq 6
  have HOK := Lib.hid h.ok
  have HQ := Lib.hid hq
  have H2 := Lib.hid h2
  have HR := Lib.hid hr
  have HRE := Lib.hid (show S.offE = if S.off then 42 else 0 from rfl)
  have HWR := Lib.hid (show S.sync = if S.off then S else (S.sts (fun _ => 128) (dirtyL S.wet) 0).did from rfl)
  generalize hn : S.was.length = n at k1 HQ
  have HN := Lib.hid hn
  have hn2 : n ≤ 1024 := by have := h.ok.n2; omega
  have hn1 : 1 ≤ n := by have := h.ok.n1; omega
  have HNN := Lib.hid (show n = S.now.length by rw [h.ok.hn]; exact hn.symm)
  have HLT0 := Lib.hid h2.lt
  clear h hq h1 h2 h3 hr hn
  go_enter Try.func40, Try.ntmps40
  cases hoff : S.off with
  | true =>
    rw [hoff] at k6
    have HE1 := Lib.hid (show S.offE = 42 by rw [HRE.out, hoff]; rfl)
    have HW1 := Lib.hid (show S.sync = S by rw [HWR.out, if_pos hoff])
    clear hoff
    go_wp2_with fail
    go_ret
    exact ⟨by rw [HE1.out]; rfl, by rw [HW1.out]; exact .same HH.out (Kp.refl _ _)⟩
  | false =>
    rw [hoff] at k6 HQ
    have HE1 := Lib.hid (show S.offE = 0 by rw [HRE.out, hoff]; rfl)
    have HSE := Lib.hid (DS.sync_eq HOK.out hoff)
    have HOT := Lib.hid HOK.out.sync
    have HLT := Lib.hid (show fails = true → 0 < left ∧ left ≤ 9223372036854775807 from fun hf => by
      obtain ⟨q1, q2⟩ := HR.out.on hoff
      rw [hf] at q1
      have h0 : 0 < S.left := by simpa using q1.symm
      exact ⟨by rw [q2 h0]; exact h0, HR.out.b.2⟩)
    have HRT := Lib.hid (HR.out.did hoff (T := ({ S with was := S.now, now := S.now, wet := List.replicate S.was.length false } : DS).did) rfl rfl)
    have k1b : (w.alloc (.cells #[] 9)).cell? ⟨q, 1, none⟩ = some (.slice (some ⟨g2, 0, none⟩) n c2) := (World.cell?_of_block (w := w) (Lib.alloc_old w _ q (lt_of_blk HQ.out))).trans k1
    clear hoff HRE HWR
    go_wp2_with (at_builtin; obtain ⟨G1, C1, wa, hra, hxa, hba, hga⟩ := fresh_t (n := n) (c := c2) w H2.out HNN.out (by omega) (by omega); refine wpList_builtin2_run _ rfl .append Builtin.append_ _ _ _ _ rfl (fun _ _ _ => rfl) _ _ rfl rfl hra ?_; have HXA := Lib.hid hxa; have HBA := Lib.hid hba; have HGA := Lib.hid hga; have hqa := (hba.block q (lt_of_blk HQ.out)).trans HQ.out; have j0 : wa.cell? ⟨q, 0, none⟩ = some (.slice (some ⟨g1, 0, none⟩) n c1) := cellAt hqa 0; have l0 := freeAt hqa 0; have j1 : wa.cell? ⟨q, 1, none⟩ = some (.slice (some ⟨g2, 0, none⟩) n c2) := cellAt hqa 1; have HQA := Lib.hid hqa; clear hra hxa hba hga hqa)
    rw [make_bools n hn2]
    simp only [Result.andThen]
    rw [Oper.upon_value]
    have hk1 : Kp [q] wa (wa.setCell ⟨q, 0, none⟩ (.slice (some ⟨G1, 0, none⟩) n C1)) := (Kp.refl _ _).setCell (by simp) _
    have hq1 := blk_set HQA.out 0 (.slice (some ⟨G1, 0, none⟩) n C1)
    generalize wa.setCell ⟨q, 0, none⟩ (.slice (some ⟨G1, 0, none⟩) n C1) = W1 at hk1 hq1 ⊢
    have hx := XR.new W1 4 (bls (List.replicate n false)) (by rw [bls_length, List.length_replicate]; omega)
    have hlen : (bls (List.replicate n false)).length = n := by rw [bls_length, List.length_replicate]
    rw [hlen] at hx
    have hk2 : Kp [q] wa (W1.alloc (.cells (bls (List.replicate n false)).toArray 4)) := hk1.alloc _
    have hq2 : (W1.alloc (.cells (bls (List.replicate n false)).toArray 4)).heap[q]? = some (.cells (rCells n G1 C1 g2 c2 g3 c3 S.ops left fails false) 78 (0, 0)) := (Lib.alloc_old W1 _ q (lt_of_blk hq1)).trans (by rw [hq1]; simp [rCells])
    have HG3 := Lib.hid hk1.size
    generalize W1.alloc (.cells (bls (List.replicate n false)).toArray 4) = w2 at hx hk2 hq2 ⊢
    generalize W1.heap.size = G3 at hx HG3 ⊢
    have j2 : w2.cell? ⟨q, 2, none⟩ = some (.slice (some ⟨g3, 0, none⟩) n c3) := cellAt hq2 2
    have l2 := freeAt hq2 2
    have hk3 : Kp [q] w2 (w2.setCell ⟨q, 2, none⟩ (.slice (some ⟨G3, 0, none⟩) n n)) := (Kp.refl _ _).setCell (by simp) _
    have hq3 : (w2.setCell ⟨q, 2, none⟩ (.slice (some ⟨G3, 0, none⟩) n n)).heap[q]? = some (.cells (rCells n G1 C1 g2 c2 G3 n S.ops left fails false) 78 (0, 0)) := by rw [blk_set hq2 2]; simp [rCells]
    have HK2 := Lib.hid hk2
    have HK3 := Lib.hid hk3
    have HQ3 := Lib.hid hq3
    have HX := Lib.hid hx
    clear hk1 hq1 hlen hx hk2 hq2 hk3 hq3 j0 l0 j1 k1b k1
    go_wp2_with (go_at_call 49; refine (did_r HQ3.out hops HLT.out).mono ?_; rintro e w4 ⟨rfl, hq4, hk4⟩)
    go_ret
    obtain ⟨n1, n2, n3, n4, n5, n6⟩ := HH.out.ne
    have hqw := lt_of_blk HQ.out
    have hK24 : Kp [q] w2 w4 := HK3.out.trans hk4 (fun k hk _ => hk)
    have hKa4 : Kp [q] wa w4 := HK2.out.trans hK24 (fun k hk _ => hk)
    have hKw4 : Kp [q] w w4 := (Kp.of_below HBA.out [q]).trans hKa4 (fun k hk _ => hk)
    have hG1 := HXA.out.lt
    have hGA := HGA.out
    have hwa := HBA.out.size
    have hG3 := HG3.out
    have h2lt := HLT0.out
    refine ⟨by rw [HE1.out]; rfl, G1, g2, G3, ⟨HOT.out, ?_, by omega, by omega, by omega, by omega, by omega, by omega⟩, hKw4.mono (by simp), fun b hb => ?_⟩
    · rw [HSE.out]
      refine ⟨C1, c2, n, _, fails, ?_, HXA.out.of_block (hKa4.block G1 hG1 (by simp; omega)), H2.out.of_block (hKw4.block g2 h2lt (by simp; omega)), ?_, HRT.out.1⟩
      · show w4.heap[q]? = some (.cells (rCells S.now.length G1 C1 g2 c2 G3 n (S.ops + 1) _ fails (({ S with was := S.now, now := S.now, wet := List.replicate S.was.length false } : DS).did).off) 78 (0, 0))
        have e := HRT.out.2
        rw [← e, hq4, ← HNN.out]
      · show XR w4 4 G3 n (bls (List.replicate S.was.length false))
        rw [HN.out]
        exact HX.out.of_block (hK24.block G3 HX.out.lt (by simp; omega))
    · simp at hb
      rcases hb with rfl | rfl | rfl | rfl
      · simp
      · right; omega
      · simp
      · right; omega
end Go.Proofs.Ytechpecnanodfaa
