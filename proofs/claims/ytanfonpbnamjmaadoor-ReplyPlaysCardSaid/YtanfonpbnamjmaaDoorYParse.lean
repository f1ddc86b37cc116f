/-
  The contract of package reply's Parse.
-/
import Derived.Test.YtanfonpbnamjmaaDoorYText
namespace Go.Proofs.YtanfonpbnamjmaaDoor
open Go Go.RowKit Go.Shelf
set_option maxRecDepth 100000

theorem index_call (l : List UInt8) (b : UInt8) (w : World) : Calls Tryd.prog 81 #[sv l, .int .u8 (b.toNat : Int)] w fun e w' => e = .returned (.int .i64 (Lib.indexByte l b)) ∧ w = w' := by
  have := Tryd.strings_IndexByte (str l) (b.toNat : Int) w
  have e1 : (b.toNat : Int).toNat.toUInt8 = b := by simp
  rw [e1] at this
  exact this.mono fun _ _ ⟨h1, h2⟩ => ⟨h1, h2.symm⟩
theorem prefix_call (s p : List UInt8) (w : World) : Calls Tryd.prog 83 #[sv s, sv p] w fun e w' => e = .returned (.bool (Lib.hasPrefix s p)) ∧ w = w' :=
  (Tryd.strings_HasPrefix (str s) (str p) w).mono fun _ _ ⟨h1, h2⟩ => ⟨h1, h2.symm⟩
theorem clone_call (s : List UInt8) (w : World) (hs : s.length ≤ 1000000) : Calls Tryd.prog 62 #[sv s] w fun e w' => e = .returned (sv s) ∧ Below w.heap.size w w' := by
  have HB := Lib.hid (show (str s).size ≤ 281474976710656 by simp [ByteArray.size]; omega)
  go_enter Tryd.func62, Tryd.ntmps62
  go_wp2_with (go_at_call 96; refine (Tryd.stringslite_Clone (str s) w HB.out).mono ?_; rintro e w1 ⟨rfl, hb⟩; have HX := Lib.hid hb; clear hb)
  go_ret
  exact ⟨rfl, HX.out⟩

def firstsV : Value := .agg #[sv (firstsL 0), sv (firstsL 1), sv (firstsL 2), sv (firstsL 3)]

theorem results_tmp4 {fn : Func} {t u v x : Tmp} (h : fn.results = #[.tmp t, .tmp u, .tmp v, .tmp x]) (tmps : Array Value) (P : Program) (w : World) :
    (results fn tmps).run P w = .ok (.tuple #[tmps.getD t undef, tmps.getD u undef, tmps.getD v undef, tmps.getD x undef]) w := by
  simp [results, h]

set_option maxHeartbeats 4000000 in
theorem parse_short (s : List UInt8) (w : World) (hs : s.length < 3) : Calls Tryd.prog 52 #[sv s] w fun e w' => e = .returned (parseV s) ∧ Below w.heap.size w w' := by
  have hf : okForm s = false := by
    cases e : okForm s with
    | false => rfl
    | true => have := okForm_len e; omega
  have HV := Lib.hid (show parseV s = .tuple #[.int .i64 0, .bool false, sv [], .int .i64 4] by unfold parseV; rw [hf]; rfl)
  have h1 : ((s.length : Int)) < 3 := by omega
  clear hf hs
  go_enter Tryd.func52, Tryd.ntmps52
  go_wp2_with fail
  ((try simp only [Exit.inBlock, Exit.then]); refine bodyPost_ret (results_tmp4 rfl _ _ _) rfl ?_)
  rw [HV.out]
  exact ⟨rfl, Below.refl _ _⟩

theorem upto_all {p : Nat → Bool} {k : Nat} (ha : ∀ j, j < k → p j = true) (h : p k = true) : ∀ j, j < k + 1 → p j = true := by
  intro j hj
  by_cases e : j = k
  · rw [e]; exact h
  · exact ha j (by omega)
theorem run_first (w : World) (k : Nat) (hk : k < 4) : (Instr.index 115 (.agg #[sv (firstsL 0), sv (firstsL 1), sv (firstsL 2), sv (firstsL 3)]) (.int .i64 (k : Int))).run Tryd.prog w = .ok (sv (firstsL k)) w := by
  rcases (show k = 0 ∨ k = 1 ∨ k = 2 ∨ k = 3 by omega) with rfl | rfl | rfl | rfl
  all_goals kernel_rfl

/-- The number's first k digits. -/
def codeN (s : List UInt8) : Nat → Nat
  | 0 => 0
  | k + 1 => 10 * codeN s k + dig s k
theorem codeN_3 (s : List UInt8) : codeN s 3 = codeR s := by
  unfold codeR
  simp only [codeN]
  omega
theorem more_prefix (s : List UInt8) (h : 3 ≤ s.length) : Lib.hasPrefix (s.drop 3) [45] = moreR s := by
  unfold moreR
  by_cases h3 : 3 < s.length
  · rw [List.drop_eq_getElem_cons h3, getD_str s 3 h3]
    generalize s[3] = b
    generalize s.drop (3 + 1) = l
    show (45 == b && true) = (b == 45)
    rw [Bool.and_true, Bool.eq_iff_iff, beq_iff_eq, beq_iff_eq]
    exact eq_comm
  · have : s.drop 3 = [] := List.drop_eq_nil_of_le (by omega)
    rw [this, List.getD_eq_getElem?_getD, List.getElem?_eq_none (by omega)]
    rfl

set_option maxHeartbeats 4000000 in
theorem parse_long (s : List UInt8) (w : World) (hs : 3 ≤ s.length) (hs2 : s.length ≤ 1000000) (hw : LW w) : Calls Tryd.prog 52 #[sv s] w fun e w' => e = .returned (parseV s) ∧ Below w.heap.size w w' := by
  have c0 := hw.cell 0 (by omega)
  have c1 := hw.cell 1 (by omega)
  have c2 := hw.cell 2 (by omega)
  have c3 := hw.cell 3 (by omega)
  have h1 : ¬ ((s.length : Int)) < 3 := by omega
  clear hw
  go_enter Tryd.func52, Tryd.ntmps52
  go_wp2_with fail
  go_loopw [2, 6, 7, 13] (fun q _ _ i wr => ∃ k : Nat, k ≤ 4 ∧ i = .int .i64 k ∧ (∀ j, j < k → okF s j = true) ∧ q = .int .i64 0 ∧ w = wr) (fun _ _ _ i _ => 4 - (intOf i).toNat)
  case atStart => exact ⟨0, Nat.zero_le _, rfl, fun j hj => absurd hj (by omega), rfl, rfl⟩
  case round =>
    obtain ⟨k, hk, rfl, hrun, rfl, rfl⟩ := hrel
    have HRU := Lib.hid hrun
    clear hrun
    by_cases hlt : k < 4
    · by_cases hl : k < s.length
      · obtain ⟨b, hb⟩ : ∃ b, s.getD k 0 = b := ⟨_, rfl⟩
        have hcs : (((str s)[k]'(by simpa [ByteArray.size] using hl)).toNat) = b.toNat := by rw [str_getD s k hl, hb]
        obtain ⟨z, hz⟩ : ∃ z, z = Lib.indexByte (firstsL k) b := ⟨_, rfl⟩
        have HC := Lib.hid (show Calls Tryd.prog 81 #[sv (firstsL k), .int .u8 (b.toNat : Int)] w fun e w' => e = .returned (.int .i64 z) ∧ w = w' by rw [hz]; exact index_call _ b w)
        have hix := run_first w k hlt
        cases hc : (firstsL k).contains b with
        | true =>
          have hz2 := indexByte_in hc
          rw [← hz] at hz2
          have HN := Lib.hid (show ∀ j, j < k + 1 → okF s j = true from upto_all HRU.out (by unfold okF; rw [hb, hc, Bool.or_true]))
          clear hb hz hc
          go_wp2_with (go_at_call 81; refine (HC.out).mono ?_; rintro e w1 ⟨rfl, rfl⟩)
          go_roundw
          case rel => exact ⟨k + 1, by omega, by go_num, HN.out, by simp, by simp⟩
          case measure => simp [intOf]; omega
        | false =>
          have hz2 := indexByte_out hc
          rw [← hz] at hz2
          have HN := Lib.hid (show parseV s = .tuple #[.int .i64 0, .bool false, sv [], .int .i64 4] by
            unfold parseV
            rw [okForm_no hlt (by unfold okF; rw [hb, hc, decide_eq_false (by omega)]; rfl)]; rfl)
          clear hb hz hc
          go_wp2_with (go_at_call 81; refine (HC.out).mono ?_; rintro e w1 ⟨rfl, rfl⟩)
          ((try simp only [Exit.inBlock, Exit.then]); refine bodyPost_ret (results_tmp4 rfl _ _ _) rfl ?_)
          rw [HN.out]
          exact ⟨rfl, Below.refl _ _⟩
      · have HN := Lib.hid (show ∀ j, j < k + 1 → okF s j = true from upto_all HRU.out (by unfold okF; rw [decide_eq_true (by omega)]; rfl))
        have hix := run_first w k hlt
        go_wp2_with fail
        go_roundw
        case rel => exact ⟨k + 1, by omega, by go_num, HN.out, by simp, by simp⟩
        case measure => simp [intOf]; omega
    · obtain rfl : k = 4 := by omega
      rw [show ((4 : Nat) : Int) = 4 from rfl]
      have hte : (str s).extract (min (s.length : Int) 4).toNat s.length = str (textR s) := by
        rw [str_extract, List.take_length]
        unfold textR
        rcases Nat.le_total 4 s.length with h | h
        · rw [show (min (s.length : Int) 4).toNat = 4 by omega]
        · rw [show (min (s.length : Int) 4).toNat = s.length by omega, List.drop_length, List.drop_eq_nil_of_le h]
      go_wp2_with fail
      have htl : (textR s).length ≤ 1000000 := by unfold textR; rw [List.length_drop]; omega
      obtain ⟨t, ht⟩ : ∃ t, t = textR s := ⟨_, rfl⟩
      rw [← ht] at htl ⊢
      have HTL := Lib.hid htl
      clear htl hte c0 c1 c2 c3
      refine (isText_any t w HTL.out).mono ?_
      rintro e w1 ⟨rfl, rfl⟩
      cases htx : t.all txC with
      | false =>
        have HN := Lib.hid (show parseV s = .tuple #[.int .i64 0, .bool false, sv [], .int .i64 4] by
          unfold parseV
          have : okForm s = false := by
            cases e : okForm s with
            | false => rfl
            | true => rw [← okForm_text e, ← ht, htx]
          rw [this]; rfl)
        have HTT := Lib.hid ht
        clear ht htx
        go_wp2_with fail
        ((try simp only [Exit.inBlock, Exit.then]); refine bodyPost_ret (results_tmp4 rfl _ _ _) rfl ?_)
        rw [HN.out]
        exact ⟨rfl, Below.refl _ _⟩
      | true =>
        have hok : okForm s = true := okForm_all hs HRU.out (by rw [← htx, ht]; rfl)
        have HN := Lib.hid (show parseV s = .tuple #[.int .i64 (codeR s : Int), .bool (moreR s), sv t, .int .i64 0] by
          unfold parseV
          rw [if_pos hok, ht])
        have HO := Lib.hid hok
        have HTT := Lib.hid ht
        have HS := Lib.hid hs
        have hp3 : (3 : Int) ≤ s.length := by omega
        clear ht htx hok hs h1
        go_wp2_with fail
        go_loopw [2, 8, 38] (fun q _ i wr => ∃ k : Nat, k ≤ 3 ∧ i = .int .i64 k ∧ q = .int .i64 (codeN s k : Int) ∧ w = wr) (fun _ _ i _ => 3 - (intOf i).toNat)
        case atStart => exact ⟨0, Nat.zero_le _, rfl, rfl, rfl⟩
        case round =>
          obtain ⟨k, hk, rfl, rfl, rfl⟩ := hrel
          by_cases hlt : k < 3
          · have hl : k < s.length := by have := HS.out; omega
            obtain ⟨c, hc⟩ : ∃ c, (s.getD k 0).toNat = c := ⟨_, rfl⟩
            have hcs : (((str s)[k]'(by simpa [ByteArray.size] using hl)).toNat) = c := by rw [str_getD s k hl, hc]
            obtain ⟨hc1, hc2⟩ := okF_low hlt hl (okForm_at HO.out (by omega))
            rw [hc] at hc1 hc2
            have hd : (dig s k : Int) = (c : Int) - 48 := by unfold dig; rw [hc]; omega
            have hcn : (codeN s (k + 1) : Int) = 10 * (codeN s k : Int) + ((c : Int) - 48) := by rw [← hd]; simp only [codeN]; omega
            have HCN := Lib.hid hcn
            have hw1 : IntKind.u8.wrap ((c : Int) - 48) = (c : Int) - 48 := by unfold IntKind.wrap; simp [IntKind.signed, IntKind.bits]; omega
            have hcb : codeN s k ≤ 99 := by
              have d0 : dig s 0 ≤ 9 := by
                have := okF_low (k := 0) (by omega) (by omega) (okForm_at HO.out (by omega))
                unfold dig; omega
              have d1 : 0 < k → dig s 1 ≤ 9 := fun h => by
                have := okF_low (k := 1) (by omega) (by omega) (okForm_at HO.out (by omega))
                unfold dig; omega
              rcases (show k = 0 ∨ k = 1 ∨ k = 2 by omega) with rfl | rfl | rfl <;> simp only [codeN]
              · omega
              · omega
              · have := d1 (by omega); omega
            obtain ⟨q, hq⟩ : ∃ q, q = codeN s k := ⟨_, rfl⟩
            rw [← hq] at hcb HCN ⊢
            clear hc hd hcn hq
            go_wp2_with fail
            go_roundw
            case rel => exact ⟨k + 1, by omega, by go_num, by rw [HCN.out], by simp⟩
            case measure => simp [intOf]; omega
          · obtain rfl : k = 3 := by omega
            rw [show ((3 : Nat) : Int) = 3 from rfl, codeN_3]
            have hsl : (str s).extract 3 s.length = str (s.drop 3) := by rw [str_extract, List.take_length]
            have HP := Lib.hid (show Calls Tryd.prog 83 #[sv (s.drop 3), .string { data := #[45] }] w fun e w' => e = .returned (.bool (moreR s)) ∧ w = w' by
              rw [← more_prefix s HS.out]; exact prefix_call _ [45] w)
            have HC := Lib.hid (clone_call t w HTL.out)
            go_wp2_with first
              | (go_at_call 83; refine (HP.out).mono ?_; rintro e w1 ⟨rfl, rfl⟩)
              | (go_at_call 62; refine (HC.out).mono ?_; rintro e w1 ⟨rfl, hb⟩; have HX := Lib.hid hb; clear hb)
            ((try simp only [Exit.inBlock, Exit.then]); refine bodyPost_ret (results_tmp4 rfl _ _ _) rfl ?_)
            rw [HN.out]
            exact ⟨rfl, HX.out⟩

theorem parse_any (s : List UInt8) (w : World) (hs2 : s.length ≤ 1000000) (hw : LW w) : Calls Tryd.prog 52 #[sv s] w fun e w' => e = .returned (parseV s) ∧ Below w.heap.size w w' := by
  by_cases hs : 3 ≤ s.length
  · exact parse_long s w hs hs2 hw
  · exact parse_short s w (by omega)

end Go.Proofs.YtanfonpbnamjmaaDoor
