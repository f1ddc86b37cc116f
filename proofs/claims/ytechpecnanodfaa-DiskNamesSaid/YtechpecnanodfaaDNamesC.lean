/-
  DiskNames' walk.
-/
import Derived.Test.YtechpecnanodfaaDNm
namespace Go.Proofs.Ytechpecnanodfaa
open Go Go.RowKit Go.Maps
set_option maxRecDepth 100000
set_option linter.unusedSimpArgs false
set_option linter.unusedVariables false

theorem fail_nil (a : Int) (w : World) : Calls Try.prog 8 #[.pointer none, .int .i64 a] w fun e w' => e = .returned (.tuple #[]) ∧ Below w.heap.size w w' := by
  go_enter Try.func8, Try.ntmps8
  go_wp2
  go_end0
  exact ⟨rfl, Below.refl _ _⟩
theorem read_nil (a : Int) (w : World) : Calls Try.prog 9 #[.pointer none, .int .i64 a] w fun e w' => e = .returned (.tuple #[sv [], .int .i64 2]) ∧ Below w.heap.size w w' := by
  go_enter Try.func9, Try.ntmps9
  go_wp2
  go_ret2
  exact ⟨rfl, Below.refl _ _⟩
theorem write_nil (a : Int) (s : List UInt8) (w : World) : Calls Try.prog 11 #[.pointer none, .int .i64 a, sv s] w fun e w' => e = .returned (.int .i64 2) ∧ Below w.heap.size w w' := by
  go_enter Try.func11, Try.ntmps11
  go_wp2
  go_ret
  exact ⟨rfl, Below.refl _ _⟩
theorem sync_nil (w : World) : Calls Try.prog 13 #[.pointer none] w fun e w' => e = .returned (.int .i64 2) ∧ Below w.heap.size w w' := by
  go_enter Try.func13, Try.ntmps13
  go_wp2
  go_ret
  exact ⟨rfl, Below.refl _ _⟩
theorem boot_nil (w : World) : Calls Try.prog 14 #[.pointer none, .slice none 0 0] w fun e w' => e = .returned (.int .i64 2) ∧ Below w.heap.size w w' := by
  go_enter Try.func14, Try.ntmps14
  go_wp2
  go_ret
  exact ⟨rfl, Below.refl _ _⟩
theorem on_nil (w : World) : Calls Try.prog 15 #[.pointer none] w fun e w' => e = .returned (.bool false) ∧ Below w.heap.size w w' := by
  go_enter Try.func15, Try.ntmps15
  go_wp2
  go_ret
  exact ⟨rfl, Below.refl _ _⟩
theorem sectors_nil (w : World) : Calls Try.prog 16 #[.pointer none] w fun e w' => e = .returned (.int .i64 0) ∧ Below w.heap.size w w' := by
  go_enter Try.func16, Try.ntmps16
  go_wp2
  go_ret
  exact ⟨rfl, Below.refl _ _⟩
theorem dirty_nil (w : World) : Calls Try.prog 17 #[.pointer none] w fun e w' => e = .returned (.slice none 0 0) ∧ Below w.heap.size w w' := by
  go_enter Try.func17, Try.ntmps17
  go_wp2
  go_ret
  exact ⟨rfl, Below.refl _ _⟩
theorem ops_nil (w : World) : Calls Try.prog 18 #[.pointer none] w fun e w' => e = .returned (.int .i64 0) ∧ Below w.heap.size w w' := by
  go_enter Try.func18, Try.ntmps18
  go_wp2
  go_ret
  exact ⟨rfl, Below.refl _ _⟩
theorem copy_nil (w : World) : Calls Try.prog 19 #[.pointer none] w fun e w' => e = .returned (.pointer none) ∧ Below w.heap.size w w' := by
  go_enter Try.func19, Try.ntmps19
  go_wp2
  go_ret
  exact ⟨rfl, Below.refl _ _⟩

/-- A Sync of a disk with nothing dirty. -/
theorem sync_clean {S : DS} (h : S.Ok) (ho : S.off = false) (hl : S.left ≤ 0) (hn : S.now = S.was) (hw : S.wet = List.replicate S.was.length false) : S.sync = { S with ops := S.ops + 1 } := by
  rw [DS.sync_eq h ho]
  have hp : ¬ 0 < S.left := by omega
  exact DS.ext' hn rfl hw.symm rfl (by simp [DS.did, hp]) (by simp [DS.did, hp])
theorem ok0 : nS0.Ok := DS.Ok.new (by omega) (by omega)
theorem ok5 : nS5.Ok := (((((ok0.fail (by omega)).wr _ _).wr _ _).fail (by omega)).boot _)
theorem boot_on {S : DS} (ho : S.off = false) (L : List Int) : S.boot L = S := by
  unfold DS.boot
  rw [ho]
  rfl
theorem boot_clean {S : DS} (h : S.Ok) (ho : S.off = true) (L : List Int) : (S.boot L).now = (S.boot L).was ∧ (S.boot L).wet = List.replicate (S.boot L).was.length false := by
  have hc := DS.sts_clean h (keptN L)
  have hl := DS.sts_len (kf := keptN L) (dirtyL S.wet) 0 S
  unfold DS.boot
  rw [if_pos ho]
  exact ⟨hc.2, by rw [hc.1]; show _ = List.replicate (S.sts (keptN L) (dirtyL S.wet) 0).was.length false; rw [hl]⟩
theorem clean5 : nS5.now = nS5.was ∧ nS5.wet = List.replicate nS5.was.length false :=
  boot_clean ((((ok0.fail (by omega)).wr _ _).wr _ _).fail (by omega)) n2.2.1 _
theorem dL_rep (n : Nat) : dL (List.replicate n false) = [] := by
  unfold dL
  have : dirtyL (List.replicate n false) = [] := by
    unfold dirtyL
    rw [List.filter_eq_nil_iff]
    intro i hi
    rw [List.getD_eq_getElem?_getD, List.getElem?_replicate]
    split <;> simp
  rw [this]; rfl
theorem dl5 : dL nS5.wet = [] := by rw [clean5.2, dL_rep]
theorem same_err {S : DS} {a : Int} {s : List UInt8} (h : S.wrE a s ≠ 0) : S.wr a s = S := by unfold DS.wr; rw [if_neg h]

set_option maxHeartbeats 8000000 in
theorem diskNames_walk {w : World} : Calls Try.prog 3 #[] w fun e w' => e = .returned (.bool true) ∧ Below w.heap.size w w' := by
  have H0 := Lib.hid (Obs.start w)
  have fl : ∀ y, (fullL y).length = 128 := fun y => fullL_length y
  have FL := Lib.hid fl
  have FU0 := Lib.hid (show ∀ W os', Obs w W os' → Calls Try.prog 12 #[.int .u8 0] W fun e w' => e = .returned (sv (fullL 0)) ∧ Obs w w' os' from fun W os' h => full_o h 0)
  have FU1 := Lib.hid (show ∀ W os', Obs w W os' → Calls Try.prog 12 #[.int .u8 1] W fun e w' => e = .returned (sv (fullL 1)) ∧ Obs w w' os' from fun W os' h => full_o h 1)
  have FU2 := Lib.hid (show ∀ W os', Obs w W os' → Calls Try.prog 12 #[.int .u8 2] W fun e w' => e = .returned (sv (fullL 2)) ∧ Obs w w' os' from fun W os' h => full_o h 2)
  have FU120 := Lib.hid (show ∀ W os', Obs w W os' → Calls Try.prog 12 #[.int .u8 120] W fun e w' => e = .returned (sv (fullL 120)) ∧ Obs w w' os' from fun W os' h => full_o h 120)
  have FU121 := Lib.hid (show ∀ W os', Obs w W os' → Calls Try.prog 12 #[.int .u8 121] W fun e w' => e = .returned (sv (fullL 121)) ∧ Obs w w' os' from fun W os' h => full_o h 121)
  have FU122 := Lib.hid (show ∀ W os', Obs w W os' → Calls Try.prog 12 #[.int .u8 122] W fun e w' => e = .returned (sv (fullL 122)) ∧ Obs w w' os' from fun W os' h => full_o h 122)
  clear fl
  go_enter Try.func3, Try.ntmps3
  go_wp2_with (first
    | (go_at_call 8; refine (fail_nil _ _).mono ?_; rintro e w1 ⟨rfl, h1⟩; have H1 := Lib.hid (H0.out.step h1); clear h1 H0)
    | (go_at_call 9; refine (read_nil _ _).mono ?_; rintro e w2 ⟨rfl, h1⟩; have H2 := Lib.hid (H1.out.step h1); clear h1 H1)
    | (go_at_call 10; refine (works_any).mono ?_; rintro e w3 ⟨rfl, h1⟩; have H3 := Lib.hid (H2.out.step h1); clear h1 H2)
    | (go_at_call 12; refine (FU1.out _ _ H3.out).mono ?_; rintro e w4 ⟨rfl, h1⟩; have H4 := Lib.hid h1; clear h1 H3)
    | (go_at_call 11; refine (write_nil _ _ _).mono ?_; rintro e w5 ⟨rfl, h1⟩; have H5 := Lib.hid (H4.out.step h1); clear h1 H4)
    | (go_at_call 13; refine (sync_nil _).mono ?_; rintro e w6 ⟨rfl, h1⟩; have H6 := Lib.hid (H5.out.step h1); clear h1 H5)
    | (go_at_call 14; refine (boot_nil _).mono ?_; rintro e w7 ⟨rfl, h1⟩; have H7 := Lib.hid (H6.out.step h1); clear h1 H6)
    | (go_at_call 15; refine (on_nil _).mono ?_; rintro e w8 ⟨rfl, h1⟩; have H8 := Lib.hid (H7.out.step h1); clear h1 H7)
    | (go_at_call 16; refine (sectors_nil _).mono ?_; rintro e w9 ⟨rfl, h1⟩; have H9 := Lib.hid (H8.out.step h1); clear h1 H8)
    | (go_at_call 17; refine (dirty_nil _).mono ?_; rintro e w10 ⟨rfl, h1⟩; have H10 := Lib.hid (H9.out.step h1); clear h1 H9)
    | (go_at_call 18; refine (ops_nil _).mono ?_; rintro e w11 ⟨rfl, h1⟩; have H11 := Lib.hid (H10.out.step h1); clear h1 H10)
    | (go_at_call 19; refine (copy_nil _).mono ?_; rintro e w12 ⟨rfl, h1⟩; have H12 := Lib.hid (H11.out.step h1); clear h1 H11))
  have H12s := H12
  go_loopw [75] (fun kx wr => ∃ k : Nat, kx = .int .i64 (k : Int) ∧ k ≤ 5 ∧ Obs w wr [] ∧ wr.heap[w12.heap.size]? = some (.cells #[.int .i64 0, .int .i64 (-1), .int .i64 1025, .int .i64 (-9223372036854775808), .int .i64 9223372036854775807] 3 (0, 0))) (fun kx _ => 5 - (RowKit.intOf kx).toNat)
  case atStart => exact ⟨0, rfl, by omega, H12.out.alloc _, heap_alloc_new w12 _⟩
  case round =>
    obtain ⟨k, rfl, hk5, hOb, hbk⟩ := hrel
    have H13 := Lib.hid hOb
    have HBK := Lib.hid hbk
    clear hOb
    by_cases hk : k < 5
    · have hki : (k : Int) < 5 := by omega
      have hk0 : (0 : Int) ≤ (k : Int) := by omega
      have hwr : IntKind.i64.wrap ((k : Int) + 1) = (k : Int) + 1 := IntWalk.i64_in _ (by omega)
      obtain ⟨x, hx, hx2⟩ : ∃ x : Int, wr.cell? ⟨w12.heap.size, k, none⟩ = some (.int .i64 x) ∧ (x < 1 ∨ 1024 < x) := by
        rw [cellAt hbk]
        match k, hk with
        | 0, _ => exact ⟨_, rfl, by omega⟩
        | 1, _ => exact ⟨_, rfl, by omega⟩
        | 2, _ => exact ⟨_, rfl, by omega⟩
        | 3, _ => exact ⟨_, rfl, by omega⟩
        | 4, _ => exact ⟨_, rfl, by omega⟩
      have CN := Lib.hid (new_none (w := wr) hx2)
      clear hbk hx2
      go_wp2_with (go_at_call 20; refine CN.out.mono ?_; rintro e x1 ⟨rfl, hb1⟩; have H14 := Lib.hid (H13.out.step hb1); have HB14 := Lib.hid ((hb1.block _ (lt_of_blk HBK.out)).trans HBK.out); clear hb1)
      go_roundw
      case rel => exact ⟨k + 1, by go_num, by omega, H14.out, HB14.out⟩
      case measure => simp [RowKit.intOf]; omega
    · have hki : ¬ (k : Int) < 5 := by omega
      clear hbk
      have hsec : nS0.was.length = 1024 := by show (List.replicate 1024 zrL).length = 1024; simp
      obtain ⟨f1, f2, f3, f4, f5, f6, f7, _⟩ := n0
      have f8 : dL nS0.wet = [] := dL_rep 1024
      have OPS0 := Lib.hid (show nS0.ops < 4611686018427387904 by rw [f7]; omega)
      have OPS1 := Lib.hid (show nS1.ops < 4611686018427387904 by show nS0.ops < _; rw [f7]; omega)
      have OPS2 := Lib.hid (show nS2.ops < 4611686018427387904 by have h1 := (wr_len nS1 3 (fullL 1)).2; have h2 : nS1.ops = 0 := f7; have h3 : nS2.ops = (nS1.wr 3 (fullL 1)).ops := rfl; omega)
      have hl1 : (fullL 1).length = 128 := FL.out 1
      have HSX := Lib.hid (show (str (fullL 1)).extract 1 128 = str ((fullL 1).drop 1) by decide +kernel)
      have HSY := Lib.hid (show (str (fullL 1)) ++ { data := #[120] } = str (fullL 1 ++ [120]) by decide +kernel)
      obtain ⟨g1, g2, g3, g4, g5, g6, g7⟩ := n1
      obtain ⟨h1', h2', h3', h4', h5', h6'⟩ := n2
      obtain ⟨i1, i2, i3, i4, i5, i6, i7⟩ := n3
      obtain ⟨j1, j2, j3⟩ := n4
      have D5 := dl5
      have OPS8 := Lib.hid (show nS8.ops < 4611686018427387904 by show 13 < _; omega)
      have OPS9 := Lib.hid (show nS9.ops < 4611686018427387904 by have h1 := (wr_len nS8 5 (fullL 120)).2; have h2 : nS8.ops = 13 := rfl; have h3 : nS9.ops = (nS8.wr 5 (fullL 120)).ops := rfl; omega)
      have OPS11 := Lib.hid (show nS11.ops < 4611686018427387904 by have h1 := (wr_len nS8 5 (fullL 120)).2; have h2 : nS8.ops = 13 := rfl; have h3 : nS9.ops = (nS8.wr 5 (fullL 120)).ops := rfl; have h4 := (wr_len nS9 5 (fullL 121)).2; have h5 : nS11.ops = (nS9.wr 5 (fullL 121)).ops := rfl; omega)
      have hl122 : (fullL 122).length = 128 := FL.out 122
      have HSZ := Lib.hid (show (str (fullL 122)).extract 0 127 ++ { data := #[0] } = str ((fullL 122).take 127 ++ [0]) by decide +kernel)
      have BON := Lib.hid (show nS0.boot [] = nS0 from boot_on rfl [])
      go_wp2_with (go_at_call 20; refine (new_o (n := 1024) H13.out (by omega) (by omega)).mono ?_; rintro e x1 ⟨p, bl, bd, rfl, h1⟩; have H100 := Lib.hid (show Obs w x1 [pdOb p bl bd nS0] from h1); clear h1 H13)

      go_wp2_with (first
        | (go_at_call 16; refine (sectors_o H100.out 0 rfl).mono ?_; rintro e w101 ⟨rfl, h1⟩; have H101 := Lib.hid h1; clear h1 H100)
        | (go_at_call 12; refine (FU0.out _ _ H101.out).mono ?_; rintro e w102 ⟨rfl, h1⟩; have H102 := Lib.hid h1; clear h1 H101)
        | (go_at_call 21; refine (is_o H102.out 0 rfl 1023 (fullL 0)).mono ?_; rintro e w103 ⟨rfl, h1⟩; have H103 := Lib.hid h1; clear h1 H102)
        | (go_at_call 12; refine (FU1.out _ _ H103.out).mono ?_; rintro e w104 ⟨rfl, h1⟩; have H104 := Lib.hid h1; clear h1 H103)
        | (go_at_call 11; refine (write_o H104.out 0 rfl OPS0.out (1024) (fullL 1) (by simp [FL.out])).mono ?_; rintro e w105 ⟨rfl, h1⟩; have H105 := Lib.hid (show Obs w w105 [pdOb p bl bd nS0] by (have h2 : Obs w w105 [pdOb p bl bd (nS0.wr (1024) (fullL 1))] := h1); rw [same_err (by rw [f2]; decide)] at h2; exact h2); clear h1 H104)
        | (go_at_call 12; refine (FU1.out _ _ H105.out).mono ?_; rintro e w106 ⟨rfl, h1⟩; have H106 := Lib.hid h1; clear h1 H105)
        | (go_at_call 11; refine (write_o H106.out 0 rfl OPS0.out (-1) (fullL 1) (by simp [FL.out])).mono ?_; rintro e w107 ⟨rfl, h1⟩; have H107 := Lib.hid (show Obs w w107 [pdOb p bl bd nS0] by (have h2 : Obs w w107 [pdOb p bl bd (nS0.wr (-1) (fullL 1))] := h1); rw [same_err (by rw [f3]; decide)] at h2; exact h2); clear h1 H106)
        | (go_at_call 12; refine (FU1.out _ _ H107.out).mono ?_; rintro e w108 ⟨rfl, h1⟩; have H108 := Lib.hid h1; clear h1 H107))
      rw [HSX.out]
      go_wp2_with (first
        | (go_at_call 11; refine (write_o H108.out 0 rfl OPS0.out (0) ((fullL 1).drop 1) (by simp [FL.out])).mono ?_; rintro e w109 ⟨rfl, h1⟩; have H109 := Lib.hid (show Obs w w109 [pdOb p bl bd nS0] by (have h2 : Obs w w109 [pdOb p bl bd (nS0.wr (0) ((fullL 1).drop 1))] := h1); rw [same_err (by rw [f4]; decide)] at h2; exact h2); clear h1 H108)
        | (go_at_call 12; refine (FU1.out _ _ H109.out).mono ?_; rintro e w110 ⟨rfl, h1⟩; have H110 := Lib.hid h1; clear h1 H109))
      rw [HSY.out]
      go_wp2_with (first
        | (go_at_call 11; refine (write_o H110.out 0 rfl OPS0.out (0) (fullL 1 ++ [120]) (by simp [FL.out])).mono ?_; rintro e w111 ⟨rfl, h1⟩; have H111 := Lib.hid (show Obs w w111 [pdOb p bl bd nS0] by (have h2 : Obs w w111 [pdOb p bl bd (nS0.wr (0) (fullL 1 ++ [120]))] := h1); rw [same_err (by rw [f5]; decide)] at h2; exact h2); clear h1 H110)
        | (go_at_call 14; refine (boot_o (ck := 0) (L := []) (Ak := none) H111.out 0 rfl (fun j hj => by cases hj) (by simp) (by decide)).mono ?_; rintro e w112 ⟨rfl, h1⟩; have H112 := Lib.hid (show Obs w w112 [pdOb p bl bd nS0] by (have h2 : Obs w w112 [pdOb p bl bd (nS0.boot [])] := h1); rw [BON.out] at h2; exact h2); clear h1 H111)
        | (go_at_call 18; refine (ops_o H112.out 0 rfl).mono ?_; rintro e w113 ⟨rfl, h1⟩; have H113 := Lib.hid h1; clear h1 H112)
        | (go_at_call 17; refine (dirty_o H113.out 0 rfl).mono ?_; rintro e w114 ⟨AH114, cH114, rfl, hIH114, hAH114, h1⟩; have H114 := Lib.hid (H113.out.step h1); have IH114 := Lib.hid hIH114; clear hIH114 hAH114; clear h1 H113)
        | (go_at_call 8; refine (fail_o H114.out 0 rfl (a := 2) (by omega)).mono ?_; rintro e w115 ⟨rfl, h1⟩; have H115 := Lib.hid (show Obs w w115 [pdOb p bl bd nS1] from h1); clear h1 H114)
        | (go_at_call 11; refine (write_o H115.out 0 rfl OPS1.out (0) ([]) (by simp [FL.out])).mono ?_; rintro e w116 ⟨rfl, h1⟩; have H116 := Lib.hid (show Obs w w116 [pdOb p bl bd nS1] by (have h2 : Obs w w116 [pdOb p bl bd (nS1.wr (0) ([]))] := h1); rw [same_err (by rw [g1]; decide)] at h2; exact h2); clear h1 H115)
        | (go_at_call 9; refine (read_o H116.out 0 rfl 0).mono ?_; rintro e w117 ⟨rfl, h1⟩; have H117 := Lib.hid h1; clear h1 H116)
        | (go_at_call 12; refine (FU1.out _ _ H117.out).mono ?_; rintro e w118 ⟨rfl, h1⟩; have H118 := Lib.hid h1; clear h1 H117)
        | (go_at_call 11; refine (write_o H118.out 0 rfl OPS1.out 3 (fullL 1) (by rw [FL.out]; omega)).mono ?_; rintro e w119 ⟨rfl, h1⟩; have H119 := Lib.hid (show Obs w w119 [pdOb p bl bd nS2] from h1); clear h1 H118)
        | (go_at_call 15; refine (on_o H119.out 0 rfl).mono ?_; rintro e w120 ⟨rfl, h1⟩; have H120 := Lib.hid h1; clear h1 H119)
        | (go_at_call 12; refine (FU2.out _ _ H120.out).mono ?_; rintro e w121 ⟨rfl, h1⟩; have H121 := Lib.hid h1; clear h1 H120)
        | (go_at_call 11; refine (write_o H121.out 0 rfl OPS2.out 2 (fullL 2) (by rw [FL.out]; omega)).mono ?_; rintro e w122 ⟨rfl, h1⟩; have H122 := Lib.hid (show Obs w w122 [pdOb p bl bd nS3] from h1); clear h1 H121)
        | (go_at_call 15; refine (on_o H122.out 0 rfl).mono ?_; rintro e w123 ⟨rfl, h1⟩; have H123 := Lib.hid h1; clear h1 H122)
        | (go_at_call 18; refine (ops_o H123.out 0 rfl).mono ?_; rintro e w124 ⟨rfl, h1⟩; have H124 := Lib.hid h1; clear h1 H123)
        | (go_at_call 17; refine (dirty_o H124.out 0 rfl).mono ?_; rintro e w125 ⟨AH125, cH125, rfl, hIH125, hAH125, h1⟩; have H125 := Lib.hid (H124.out.step h1); have IH125 := Lib.hid hIH125; clear hIH125 hAH125; clear h1 H124))
      go_wp2_with (first
        | (go_at_call 22; refine (ints_any (L := [2, 3]) (M := [2, 3]) ((g7 ▸ IH125.out : IR w125 AH125 [2, 3]).below ((Below.refl _ w125).alloc (Nat.le_refl _) _)) (IR.lit w125 [2, 3]) (by decide) (by decide)).mono ?_; rintro e w126 ⟨rfl, h1⟩; have H126 := Lib.hid ((H125.out.alloc _).step h1); clear h1 H125))
      go_wp2_with (first
        | (go_at_call 9; refine (read_o H126.out 0 rfl 0).mono ?_; rintro e w127 ⟨rfl, h1⟩; have H127 := Lib.hid h1; clear h1 H126)
        | (go_at_call 8; refine (fail_o H127.out 0 rfl (a := 5) (by omega)).mono ?_; rintro e w128 ⟨rfl, h1⟩; have H128 := Lib.hid (show Obs w w128 [pdOb p bl bd nS4] from h1); clear h1 H127)
        | (go_at_call 15; refine (on_o H128.out 0 rfl).mono ?_; rintro e w129 ⟨rfl, h1⟩; have H129 := Lib.hid h1; clear h1 H128)
        | (go_at_call 14; refine (boot_o (ck := 3) (L := [-1, 129, 7]) (H129.out.alloc _) 0 rfl (IR.lit _ [-1, 129, 7]) (fun a ha _ hm => by cases ha; exact absurd ((H129.out.get (i := 0) rfl : PD _ p bl bd nS4).lts _ hm) (Nat.lt_irrefl _)) (by decide)).mono ?_; rintro e w130 ⟨rfl, h1⟩; have H130 := Lib.hid (show Obs w w130 [pdOb p bl bd nS5] from h1); clear h1 H129)
        | (go_at_call 15; refine (on_o H130.out 0 rfl).mono ?_; rintro e w131 ⟨rfl, h1⟩; have H131 := Lib.hid h1; clear h1 H130)
        | (go_at_call 12; refine (FU0.out _ _ H131.out).mono ?_; rintro e w132 ⟨rfl, h1⟩; have H132 := Lib.hid h1; clear h1 H131)
        | (go_at_call 21; refine (is_o H132.out 0 rfl 2 (fullL 0)).mono ?_; rintro e w133 ⟨rfl, h1⟩; have H133 := Lib.hid h1; clear h1 H132)
        | (go_at_call 12; refine (FU1.out _ _ H133.out).mono ?_; rintro e w134 ⟨rfl, h1⟩; have H134 := Lib.hid h1; clear h1 H133)
        | (go_at_call 21; refine (is_o H134.out 0 rfl 3 (fullL 1)).mono ?_; rintro e w135 ⟨rfl, h1⟩; have H135 := Lib.hid h1; clear h1 H134)
        | (go_at_call 17; refine (dirty_o H135.out 0 rfl).mono ?_; rintro e w136 ⟨AH136, cH136, rfl, hIH136, hAH136, h1⟩; have H136 := Lib.hid (H135.out.step h1); have IH136 := Lib.hid hIH136; clear hIH136 hAH136; clear h1 H135))
      have OKK := Lib.hid (show ∀ k : Nat, ({ nS5 with ops := 2 + k } : DS).sync = { nS5 with ops := 2 + (k + 1) } from fun k => sync_clean (S := { nS5 with ops := 2 + k }) ⟨ok5.n1, ok5.n2, ok5.hn, ok5.hw, ok5.l1, ok5.l2, ok5.dry, ok5.lf⟩ h4' (by show nS5.left ≤ 0; omega) clean5.1 clean5.2)
      have HOF := Lib.hid h4'
      have E5 := Lib.hid (show nS5 = { nS5 with ops := 2 + 0 } from DS.ext' rfl rfl rfl i1 rfl rfl)
      have HS0 := Lib.hid (show Obs w w136 [pdOb p bl bd { nS5 with ops := 2 + 0 }] by rw [← E5.out]; exact H136.out)
      clear f1 f2 f3 f4 f5 f6 f7 f8 g1 g2 g3 g4 g5 g6 g7 h1' h2' h3' h4' h5' h6' D5
      go_loopw [12] (fun kx wr => ∃ m : Nat, kx = .int .i64 (m : Int) ∧ m ≤ 9 ∧ Obs w wr [pdOb p bl bd { nS5 with ops := 2 + m }]) (fun kx _ => 9 - (RowKit.intOf kx).toNat)
      case atStart => exact ⟨0, rfl, by omega, HS0.out⟩
      case round =>
        obtain ⟨m, rfl, hm9, hOb⟩ := hrel
        have H200 := Lib.hid hOb
        clear hOb
        by_cases hm : m < 9
        · have hmi : (m : Int) < 9 := by omega
          have hmw : IntKind.i64.wrap ((m : Int) + 1) = (m : Int) + 1 := IntWalk.i64_in _ (by omega)
          have CSY := Lib.hid (sync_o H200.out 0 rfl (by show 2 + m < _; omega))
          have HOE := Lib.hid (show ({ nS5 with ops := 2 + m } : DS).offE = 0 by unfold DS.offE; show (if nS5.off = true then _ else _) = _; rw [HOF.out]; rfl)
          go_wp2_with (go_at_call 13; refine CSY.out.mono ?_; rintro e y1 ⟨rfl, h1⟩; have H201 := Lib.hid (show Obs w y1 [pdOb p bl bd { nS5 with ops := 2 + (m + 1) }] by (have h2 : Obs w y1 [pdOb p bl bd ({ nS5 with ops := 2 + m } : DS).sync] := h1); rw [OKK.out] at h2; exact h2); rw [HOE.out]; clear h1 H200)
          go_roundw
          case rel => exact ⟨m + 1, by go_num, by omega, H201.out⟩
          case measure => simp [RowKit.intOf]; omega
        · have hmi : ¬ (m : Int) < 9 := by omega
          have hm10 : m = 9 := by omega
          have H300 := Lib.hid (show Obs w wr [pdOb p bl bd nS6] by (have h2 := H200.out); rw [hm10] at h2; exact h2)
          have ok7 : nS7.Ok := ⟨ok5.n1, ok5.n2, ok5.hn, ok5.hw, ok5.l1, ok5.l2, ok5.dry, by show (-9223372036854775808 : Int) ≤ -3 ∧ (-3 : Int) ≤ 9223372036854775807; omega⟩
          have S12 := Lib.hid (show nS7.sync = { nS7 with ops := 12 } from sync_clean (S := nS7) ok7 HOF.out (by show (-3 : Int) ≤ 0; omega) clean5.1 clean5.2)
          have S13 := Lib.hid (show ({ nS7 with ops := 12 } : DS).sync = nS8 from sync_clean (S := { nS7 with ops := 12 }) ⟨ok7.n1, ok7.n2, ok7.hn, ok7.hw, ok7.l1, ok7.l2, ok7.dry, ok7.lf⟩ HOF.out (by show (-3 : Int) ≤ 0; omega) clean5.1 clean5.2)
          have i3' : ({ nS7 with ops := 12 } : DS).offE = 0 := i3
          have i8 : nS8.ops = 13 := rfl
          clear hm10 ok7 hm
          go_wp2_with (first
            | (go_at_call 8; refine (fail_o H300.out 0 rfl (a := 1) (by omega)).mono ?_; rintro e w301 ⟨rfl, h1⟩; have H301 := Lib.hid (show Obs w w301 [pdOb p bl bd (nS6.fail 1)] from h1); clear h1 H300)
            | (go_at_call 8; refine (fail_o H301.out 0 rfl (a := -3) (by omega)).mono ?_; rintro e w302 ⟨rfl, h1⟩; have H302 := Lib.hid (show Obs w w302 [pdOb p bl bd nS7] from h1); clear h1 H301)
            | (go_at_call 13; refine (sync_o H302.out 0 rfl (by show _ < 4611686018427387904; first | (show 11 < _; omega) | (show 12 < _; omega))).mono ?_; rintro e w303 ⟨rfl, h1⟩; have H303 := Lib.hid (show Obs w w303 [pdOb p bl bd ({ nS7 with ops := 12 } : DS)] by (have h2 := h1); simp only [List.set_cons_zero] at h2; rw [S12.out] at h2; exact h2); clear h1 H302)
            | (go_at_call 13; refine (sync_o H303.out 0 rfl (by show _ < 4611686018427387904; first | (show 11 < _; omega) | (show 12 < _; omega))).mono ?_; rintro e w304 ⟨rfl, h1⟩; have H304 := Lib.hid (show Obs w w304 [pdOb p bl bd nS8] by (have h2 := h1); simp only [List.set_cons_zero] at h2; rw [S13.out] at h2; exact h2); clear h1 H303)
            | (go_at_call 18; refine (ops_o H304.out 0 rfl).mono ?_; rintro e w305 ⟨rfl, h1⟩; have H305 := Lib.hid h1; clear h1 H304)
            | (go_at_call 12; refine (FU120.out _ _ H305.out).mono ?_; rintro e w306 ⟨rfl, h1⟩; have H306 := Lib.hid h1; clear h1 H305)
            | (go_at_call 11; refine (write_o H306.out 0 rfl OPS8.out 5 (fullL 120) (by rw [FL.out]; omega)).mono ?_; rintro e w307 ⟨rfl, h1⟩; have H307 := Lib.hid (show Obs w w307 [pdOb p bl bd nS9] from h1); clear h1 H306)
            | (go_at_call 12; refine (FU121.out _ _ H307.out).mono ?_; rintro e w308 ⟨rfl, h1⟩; have H308 := Lib.hid h1; clear h1 H307)
            | (go_at_call 11; refine (write_o H308.out 0 rfl OPS9.out 5 (fullL 121) (by rw [FL.out]; omega)).mono ?_; rintro e w309 ⟨rfl, h1⟩; have H309 := Lib.hid (show Obs w w309 [pdOb p bl bd nS10] from h1); clear h1 H308)
            | (go_at_call 8; refine (fail_o H309.out 0 rfl (a := 1) (by omega)).mono ?_; rintro e w310 ⟨rfl, h1⟩; have H310 := Lib.hid (show Obs w w310 [pdOb p bl bd nS11] from h1); clear h1 H309)
            | (go_at_call 12; refine (FU122.out _ _ H310.out).mono ?_; rintro e w311 ⟨rfl, h1⟩; have H311 := Lib.hid h1; clear h1 H310)
            | (go_at_call 11; refine (write_o H311.out 0 rfl OPS11.out 6 (fullL 122) (by rw [FL.out]; omega)).mono ?_; rintro e w312 ⟨rfl, h1⟩; have H312 := Lib.hid (show Obs w w312 [pdOb p bl bd nS12] from h1); clear h1 H311)
            | (go_at_call 14; refine (boot_o (ck := 2) (L := [128, 127]) (H312.out.alloc _) 0 rfl (IR.lit _ [128, 127]) (fun a ha _ hm => by cases ha; exact absurd ((H312.out.get (i := 0) rfl : PD _ p bl bd nS12).lts _ hm) (Nat.lt_irrefl _)) (by decide)).mono ?_; rintro e w313 ⟨rfl, h1⟩; have H313 := Lib.hid (show Obs w w313 [pdOb p bl bd nS13] from h1); clear h1 H312)
            | (go_at_call 12; refine (FU121.out _ _ H313.out).mono ?_; rintro e w314 ⟨rfl, h1⟩; have H314 := Lib.hid h1; clear h1 H313)
            | (go_at_call 21; refine (is_o H314.out 0 rfl 5 (fullL 121)).mono ?_; rintro e w315 ⟨rfl, h1⟩; have H315 := Lib.hid h1; clear h1 H314)
            | (go_at_call 12; refine (FU122.out _ _ H315.out).mono ?_; rintro e w316 ⟨rfl, h1⟩; have H316 := Lib.hid h1; clear h1 H315))
          rw [HSZ.out]
          go_wp2_with (first
            | (go_at_call 21; refine (is_o H316.out 0 rfl 6 ((fullL 122).take 127 ++ [0])).mono ?_; rintro e w317 ⟨rfl, h1⟩; have H317 := Lib.hid h1; clear h1 H316)
            | (go_at_call 18; refine (ops_o H317.out 0 rfl).mono ?_; rintro e w318 ⟨rfl, h1⟩; have H318 := Lib.hid h1; clear h1 H317))
          go_ret
          exact ⟨rfl, H318.out.bel⟩
end Go.Proofs.Ytechpecnanodfaa
