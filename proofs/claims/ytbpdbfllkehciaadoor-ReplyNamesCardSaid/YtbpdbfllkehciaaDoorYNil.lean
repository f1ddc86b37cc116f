/-
  Nobody's reader; the lines that Show puts together.
-/
import Derived.Lib.ItoaLen
import Derived.Test.YtbpdbfllkehciaaDoorYAwake
namespace Go.Proofs.YtbpdbfllkehciaaDoor
open Go Go.RowKit Go.Shelf
set_option maxRecDepth 100000

theorem nil_reset (w : World) : Calls Tryd.prog 9 #[.pointer none] w fun e w' => e = .returned (.tuple #[]) ∧ w = w' := by
  go_enter Tryd.func9, Tryd.ntmps9
  go_wp2
  go_end0
  exact ⟨rfl, rfl⟩
theorem nil_line (s : List UInt8) (w : World) : Calls Tryd.prog 10 #[.pointer none, sv s] w fun e w' => e = .returned (.tuple #[.bool false, .int .i64 2]) ∧ w = w' := by
  go_enter Tryd.func10, Tryd.ntmps10
  go_wp2
  go_ret2
  exact ⟨rfl, rfl⟩
theorem nil_dead (w : World) : Calls Tryd.prog 13 #[.pointer none] w fun e w' => e = .returned (.bool false) ∧ w = w' := by
  go_enter Tryd.func13, Tryd.ntmps13
  go_wp2
  go_ret
  exact ⟨rfl, rfl⟩
theorem nil_copy (w : World) : Calls Tryd.prog 14 #[.pointer none] w fun e w' => e = .returned (.pointer none) ∧ w = w' := by
  go_enter Tryd.func14, Tryd.ntmps14
  go_wp2
  go_ret
  exact ⟨rfl, rfl⟩
theorem nil_take (w : World) : Calls Tryd.prog 11 #[.pointer none] w fun e w' => e = .returned (.tuple #[repV 0 [] (.slice none 0 0), .bool false]) ∧ Below w.heap.size w w' := by
  go_enter Tryd.func11, Tryd.ntmps11
  go_wp2
  refine bodyPost_ret (results_cell_tmp (p := 2) (q := 3) (fr := (0, 0)) Tryd.results11 _ _ w.heap.size 28 _ _ rfl (heap_alloc_new w _) Tryd.underlying28 rfl (by kernel_rfl)) rfl ?_
  exact ⟨rfl, below_alloc _ _⟩

/-! ### Show -/
/-- A line of a reply. -/
def shL (code : Nat) (more : Bool) (t : List UInt8) : List UInt8 := Lib.itoa code ++ (if more then 45 :: t else if t = [] then [] else 32 :: t)
theorem str_append (a b : List UInt8) : str a ++ str b = str (a ++ b) := by
  apply ByteArray.ext
  simp [str, ByteArray.data_append]

set_option maxHeartbeats 4000000 in
theorem shown_any (code : Nat) (more : Bool) (t : List UInt8) (w : World) (hc : code ≤ 1000000) (ht : t.length ≤ 1000000) (hw : LW w) :
    Calls Tryd.prog 39 #[.int .i64 (code : Int), .bool more, sv t] w fun e w' => e = .returned (sv (shL code more t)) ∧ Below w.heap.size w w' := by
  have HI := Lib.hid (itoa_call (code : Int) w (by omega) (by omega) hw)
  obtain ⟨q, hq⟩ : ∃ q, q = Lib.itoa (code : Int) := ⟨_, rfl⟩
  have hql : q.length ≤ 1000000 := by
    rw [hq]; exact Nat.le_trans (Lib.itoa_length_le _ (by omega) (by omega)) (by decide)
  rw [← hq] at HI
  have HS := Lib.hid (show shL code more t = q ++ (if more then 45 :: t else if t = [] then [] else 32 :: t) by unfold shL; rw [hq])
  clear hq hw
  cases more with
  | true =>
    go_enter Tryd.func39, Tryd.ntmps39
    go_wp2_with (go_at_call 49; refine (HI.out).mono ?_; rintro e w1 ⟨rfl, hb⟩; have HX := Lib.hid hb; clear hb)
    go_ret
    rw [HS.out]
    refine ⟨?_, HX.out⟩
    show Ending.returned (.string (str q ++ str [45] ++ str t)) = _
    rw [str_append, str_append]
    simp
  | false =>
    by_cases h0 : t = []
    · subst h0
      go_enter Tryd.func39, Tryd.ntmps39
      go_wp2_with (go_at_call 49; refine (HI.out).mono ?_; rintro e w1 ⟨rfl, hb⟩; have HX := Lib.hid hb; clear hb)
      go_ret
      rw [HS.out]
      exact ⟨by simp, HX.out⟩
    · have hb0 : (t == []) = false := by simpa using h0
      go_enter Tryd.func39, Tryd.ntmps39
      go_wp2_with (go_at_call 49; refine (HI.out).mono ?_; rintro e w1 ⟨rfl, hb⟩; have HX := Lib.hid hb; clear hb)
      go_ret
      rw [HS.out]
      refine ⟨?_, HX.out⟩
      show Ending.returned (.string (str q ++ str [32] ++ str t)) = _
      rw [str_append, str_append]
      simp [h0]
theorem shL_len (code : Nat) (more : Bool) (t : List UInt8) (hc : code ≤ 1000000) (ht : t.length ≤ 100000) : (shL code more t).length ≤ 1000000 := by
  have := Lib.itoa_length_le (code : Int) (by omega) (by omega)
  unfold shL
  rw [List.length_append]
  split
  · simp; omega
  · split
    · simp; omega
    · simp; omega
def okSh (code : Nat) (xs : List (List UInt8)) (k : Nat) : Bool := okForm (shL code (decide (k + 1 < xs.length)) (xs.getD k []))
/-- How many lines Show tells. -/
def showN (code : Nat) (xs : List (List UInt8)) : Nat := if 32 < xs.length then 0 else if (List.range xs.length).all (okSh code xs) then xs.length else 0

set_option maxHeartbeats 8000000 in
theorem show_any (code : Nat) (lst : List UInt8) (xs : List (List UInt8)) (u : Value) (w : World) (hx : RowIs w u xs) (hc : code ≤ 1000000) (ht : ∀ k, k < xs.length → (xs.getD k []).length ≤ 100000) (hxl : xs.length ≤ 1000000) (hw : LW w) :
    Calls Tryd.prog 19 #[repV code lst u] w fun e w' => ∃ A c, e = .returned (.slice A (showN code xs) c) ∧ Below w.heap.size w w' := by
  obtain ⟨A, c, rfl, hx⟩ := hx
  obtain ⟨kb, hkb⟩ : ∃ k, k = w.heap.size := ⟨_, rfl⟩
  obtain ⟨W, hW⟩ : ∃ W, W = w.alloc (.cells #[.int .i64 (code : Int), sv lst, .slice A xs.length c] 28) := ⟨_, rfl⟩
  have hbel : Below w.heap.size w W := by rw [hW]; exact below_alloc _ _
  have hbk : Bk W kb code lst (.slice A xs.length c) := by rw [hW, hkb]; exact heap_alloc_new _ _
  have HBEL := Lib.hid hbel
  have HBK := Lib.hid hbk
  have HX := Lib.hid hx
  have HT := Lib.hid ht
  have HLW := Lib.hid (hw.below hbel)
  have HKB := Lib.hid hkb
  have HWE := Lib.hid hW
  clear hbel hbk hx ht hw hkb hW
  by_cases h32 : 32 < xs.length
  · have HN := Lib.hid (show showN code xs = 0 by unfold showN; rw [if_pos h32])
    have h32i : (32 : Int) < xs.length := by omega
    unfold repV
    clear h32
    go_enter Tryd.func19, Tryd.ntmps19
    go_wp2_with fail
    go_ret
    rw [HN.out]
    exact ⟨none, 0, rfl, by rw [← HWE.out]; exact HBEL.out⟩
  · have h32i : ¬ (32 : Int) < xs.length := by omega
    have H32 := Lib.hid h32
    have H0 := Lib.hid (Below.refl W.heap.size W)
    unfold repV
    clear h32
    go_enter Tryd.func19, Tryd.ntmps19
    go_wp2_with fail
    rw [← HKB.out, ← HWE.out]
    go_loopw [3, 4, 5, 6, 7, 8, 9, 10, 18] (fun o _ _ _ _ _ _ _ i wr => ∃ k : Nat, k ≤ xs.length ∧ i = .int .i64 k ∧ (∀ j, j < k → okSh code xs j = true) ∧ Below W.heap.size W wr ∧ ∃ ss : List (List UInt8), ss.length = k ∧ wr.ownsRow W.heap.size 9 1 o ss.length (ss.map sv)) (fun _ _ _ _ _ _ _ _ i _ => xs.length - (intOf i).toNat)
    case atStart => exact ⟨0, Nat.zero_le _, rfl, fun j hj => absurd hj (by omega), H0.out, [], rfl, World.ownsRow_nil _ _ _ _⟩
    case round =>
      obtain ⟨k, hk, rfl, hok, hbl, ss, hss, ho⟩ := hrel
      obtain ⟨Ao, co, rfl⟩ := owns_form ho
      by_cases hlt : k < xs.length
      · obtain ⟨g, rfl, hg, hcc⟩ := HX.out (by omega)
        obtain ⟨x, hxe⟩ : ∃ x, x = xs.getD k [] := ⟨_, rfl⟩
        have hsz := HBEL.out.size
        have c1 : wr.cell? ⟨g, k, none⟩ = some (sv x) := by rw [hxe]; exact (hbl.cell (p := ⟨g, k, none⟩) (by show g < _; omega)).trans ((HBEL.out.cell (p := ⟨g, k, none⟩) hg).trans (hcc k hlt))
        have hb := (HBK.out).below hbl
        have q0 := hb.c0
        have q2 := hb.c2
        have hxl : x.length ≤ 100000 := by rw [hxe]; exact HT.out k hlt
        obtain ⟨m, hm⟩ : ∃ m, m = decide (k + 1 < xs.length) := ⟨_, rfl⟩
        have hmi : decide ((k : Int) < (xs.length : Int) - 1) = m := by rw [hm, decide_eq_decide]; omega
        have HSH := Lib.hid (shown_any code m x wr hc (by omega) ((HLW.out).below hbl))
        obtain ⟨z, hz⟩ : ∃ z, z = shL code m x := ⟨_, rfl⟩
        have hzl : z.length ≤ 1000000 := by rw [hz]; exact shL_len code m x hc hxl
        rw [← hz] at HSH
        have HLW1 := Lib.hid ((HLW.out).below hbl)
        have HP := Lib.hid (fun w1 (h : LW w1) => parse_any z w1 hzl h)
        have hoks : okSh code xs k = okForm z := by unfold okSh; rw [hz, hm, hxe]
        have HBL := Lib.hid hbl
        have HOK := Lib.hid hok
        have HO := Lib.hid ho
        have HSS := Lib.hid hss
        cases hf : okForm z with
        | true =>
          rw [show parseV z = .tuple #[.int .i64 (codeR z : Int), .bool (moreR z), sv (textR z), .int .i64 0] by unfold parseV; rw [if_pos hf]] at HP
          have HN := Lib.hid (upto_all HOK.out (by rw [hoks, hf]))
          clear hxe hcc hsz hb hm hz hoks hf hbl hok ho hss hzl
          go_wp2_with first
            | (go_at_call 39; refine (HSH.out).mono ?_; rintro e w1 ⟨rfl, hb1⟩; have HB1 := Lib.hid hb1; clear hb1)
            | (go_at_call 15; refine (HP.out _ ((HLW1.out).below HB1.out)).mono ?_; rintro e w2 ⟨rfl, hb2⟩; have HB2 := Lib.hid ((HBL.out).trans (((HB1.out).mono HBL.out.size).trans (hb2.mono (Nat.le_trans HBL.out.size HB1.out.size)))); have HO2 := Lib.hid (ownsRow_kp (ownsRow_kp HO.out (Kp.of_below HB1.out []) (fun g _ => by simp)) (Kp.of_below hb2 []) (fun g _ => by simp)); clear hb2)
            | (at_builtin; refine row_append (n := W.heap.size) (ls := ss) HO2.out HB2.out.size (by have := HSS.out; have := H32.out; omega) z _ ?hC (.tmp 42) (.tmp 44) rfl rfl rfl _ rfl ?_; rotate_left; intro g3 cap w3 hown hgr hor hlt3; have HB3 := Lib.hid (Below.grown ((HB2.out).alloc HB2.out.size _) hgr (by have := HB2.out.size; simp; omega) (fun j hj => (HO2.out.lt j hj).1)); have HO3 := Lib.hid hown; clear hown hgr hor hlt3)
          case hC => rfl
          go_roundw
          case rel => exact ⟨k + 1, by omega, by go_num, HN.out, HB3.out, ss ++ [z], by rw [List.length_append, HSS.out]; rfl, by rw [List.length_append]; exact HO3.out⟩
          case measure => simp [intOf]; omega
        | false =>
          rw [show parseV z = .tuple #[.int .i64 0, .bool false, sv [], .int .i64 4] by unfold parseV; rw [hf]; rfl] at HP
          have HN := Lib.hid (show showN code xs = 0 by
            unfold showN
            rw [if_neg H32.out, if_neg]
            intro h
            have := List.all_eq_true.1 h k (List.mem_range.2 hlt)
            rw [hoks, hf] at this
            cases this)
          clear hxe hcc hsz hb hm hz hoks hf hbl hok ho hss hzl
          go_wp2_with first
            | (go_at_call 39; refine (HSH.out).mono ?_; rintro e w1 ⟨rfl, hb1⟩; have HB1 := Lib.hid hb1; clear hb1)
            | (go_at_call 15; refine (HP.out _ ((HLW1.out).below HB1.out)).mono ?_; rintro e w2 ⟨rfl, hb2⟩; have HB2 := Lib.hid ((HBL.out).trans (((HB1.out).mono HBL.out.size).trans (hb2.mono (Nat.le_trans HBL.out.size HB1.out.size)))); clear hb2)
          go_ret
          rw [HN.out]
          exact ⟨none, 0, rfl, HBEL.out.trans (HB2.out.mono HBEL.out.size)⟩
      · obtain rfl : k = xs.length := by omega
        have HN := Lib.hid (show showN code xs = xs.length by
          unfold showN
          rw [if_neg H32.out, if_pos]
          exact List.all_eq_true.2 fun j hj => hok j (List.mem_range.1 hj))
        have HBL := Lib.hid hbl
        have HSS := Lib.hid hss
        clear hok hbl ho hss
        go_wp2_with fail
        go_ret
        rw [HN.out, ← HSS.out]
        exact ⟨_, _, rfl, HBEL.out.trans (HBL.out.mono HBEL.out.size)⟩
end Go.Proofs.YtbpdbfllkehciaaDoor
