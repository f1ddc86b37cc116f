/-
  The contracts of package addr's Domains, Mail.
-/
import Derived.Test.YtbmjmiioobgbfaaGreatDoorARcpt
import Derived.Test.YtbmjmiioobgbfaaGreatDoorAText
namespace Go.Proofs.YtbmjmiioobgbfaaGreatDoor
open Go Go.RowKit
set_option maxRecDepth 100000

/-- A mail, as a value: where it is from, its recipients, does it Require, its Envid, its Text. -/
abbrev mailV (f : List UInt8) (rv : Value) (q : Bool) (en tx : List UInt8) : Value := .agg #[sv f, rv, .bool q, sv en, sv tx]
abbrev mailCells (f : List UInt8) (rv : Value) (q : Bool) (en tx : List UInt8) : Array Value := #[sv f, rv, .bool q, sv en, sv tx]

def domL (xs : List (List UInt8)) : List (List UInt8) := xs.filterMap fun x => (parseL x).map (·.2)
theorem domL_take {xs : List (List UInt8)} {k : Nat} (hk : k < xs.length) : domL (xs.take (k + 1)) = domL (xs.take k) ++ (match parseL (xs.getD k []) with | some (_, d) => [d] | none => []) := by
  unfold domL
  rw [List.take_succ_eq_append_getElem hk, List.filterMap_append, List.getD_eq_getElem?_getD, List.getElem?_eq_getElem hk]
  congr 1
  simp only [Option.getD_some]
  cases h : parseL xs[k] with
  | none => simp [h]
  | some p => obtain ⟨a, d⟩ := p; simp [h]
theorem domL_len (xs : List (List UInt8)) : (domL xs).length ≤ xs.length := by unfold domL; exact List.length_filterMap_le _ _

set_option maxHeartbeats 4000000 in
theorem domains_any (f en tx : List UInt8) (q : Bool) (rs : List RC) (v : Value) (w : World) (hv : RcIs w v rs) (hl : rs.length ≤ 100000) (hx : ∀ r ∈ rs, r.1.length ≤ 1000000) (hM : ML w) :
    Calls Tryz.prog 10 #[mailV f v q en tx] w (CompPost w (uniqS (domL (tosL rs)))) := by
  have HV := Lib.hid hv
  obtain ⟨A, c, rfl, _⟩ := hv
  have HM := Lib.hid hM
  have HX := Lib.hid hx
  have hxl : (tosL rs).length = rs.length := List.length_map _
  have HXL := Lib.hid hxl
  clear hM hx hxl
  go_enter Tryz.func10, Tryz.ntmps10
  go_wp2_with fail
  obtain ⟨wb, hwb⟩ : ∃ wb, wb = w.alloc (.cells #[.string (str f), .slice A rs.length c, .bool q, .string (str en), .string (str tx)] 24) := ⟨_, rfl⟩
  have HW := Lib.hid (show Below w.heap.size w wb by rw [hwb]; exact (Below.refl _ _).alloc (Nat.le_refl _) _)
  change Code.wp _ _ _ _ (w.alloc (.cells #[.string (str f), .slice A rs.length c, .bool q, .string (str en), .string (str tx)] 24))
  rw [← hwb]
  clear hwb
  go_loopw [3, 12] (fun v i wr => ∃ k : Nat, k ≤ rs.length ∧ i = .int .i64 k ∧ GT w v (domL ((tosL rs).take k)) wr) (fun _ i _ => rs.length - (intOf i).toNat)
  case atStart => exact ⟨0, Nat.zero_le _, rfl, (GT.nil w).behind HW.out⟩
  case round =>
    obtain ⟨k, hk, rfl, hg⟩ := hrel
    have HG := Lib.hid hg
    obtain ⟨A2, c2, rfl⟩ := hg.form
    obtain ⟨sn, hsn⟩ : ∃ sn, sn = domL ((tosL rs).take k) := ⟨_, rfl⟩
    rw [← hsn] at HG ⊢
    have hsl : sn.length ≤ 1000000 := by rw [hsn]; have := domL_len ((tosL rs).take k); simp at this; omega
    have HSN := Lib.hid hsn
    clear hg hsn
    by_cases hlt : k < rs.length
    · obtain ⟨A', c', e, h⟩ := HV.out.step HG.out.below
      simp only [Value.slice.injEq, true_and] at e
      obtain ⟨rfl, rfl⟩ := e
      obtain ⟨g, off, rfl, hgl, hc⟩ := h (by omega)
      obtain ⟨q1, q2⟩ := hc k hlt
      obtain ⟨x, hx⟩ : ∃ x, x = (rs.getD k rc0).1 := ⟨_, rfl⟩
      obtain ⟨n, hn⟩ : ∃ n, n = (rs.getD k rc0).2 := ⟨_, rfl⟩
      rw [← hx] at q1
      rw [← hn] at q2
      have HTX := Lib.hid (show (tosL rs).getD k [] = x by rw [tos_getD hlt, hx])
      have hxl : x.length ≤ 1000000 := by
        rw [hx]; refine HX.out _ ?_
        rw [List.getD_eq_getElem?_getD, List.getElem?_eq_getElem hlt]
        exact List.getElem_mem hlt
      have HTK := Lib.hid (show domL ((tosL rs).take (k + 1)) = sn ++ (match parseL x with | some (_, d) => [d] | none => []) by rw [domL_take (by rw [HXL.out]; exact hlt), ← HSN.out, HTX.out])
      clear h hc hx hn
      go_wp2_with fail
      have HBW := Lib.hid (fun w2 (hb : Below (wr.alloc (.cells #[.string (str x), .bool n] 31)).heap.size (wr.alloc (.cells #[.string (str x), .bool n] 31)) w2) => ((Below.refl wr.heap.size wr).alloc (Nat.le_refl _) (.cells #[.string (str x), .bool n] 31)).trans (hb.mono (by simp)))
      have HMW := Lib.hid (HM.out.step (HG.out.below.alloc HG.out.below.size (.cells #[.string (str x), .bool n] 31)))
      clear q1 q2
      cases hp : parseL x with
      | none =>
        have HC := Lib.hid (show sn = domL ((tosL rs).take (k + 1)) by rw [HTK.out, hp]; simp)
        have HP := Lib.hid hp
        clear hp
        refine (parse_any x _ hxl HMW.out).mono ?_
        rintro e w2 ⟨rfl, hb⟩
        rw [HP.out]
        have hg2 := HG.out.behind (HBW.out w2 hb)
        have HG2 := Lib.hid (show GT w (.slice A2 sn.length c2) (domL ((tosL rs).take (k + 1))) w2 by rw [← HC.out]; exact hg2)
        clear hb hg2
        unfold parseV
        go_wp2_with fail
        exact ⟨⟨k + 1, by omega, by go_num, HG2.out⟩, by simp [intOf]; omega⟩
      | some p =>
        obtain ⟨a, d⟩ := p
        have HC := Lib.hid (show sn ++ [d] = domL ((tosL rs).take (k + 1)) by rw [HTK.out, hp])
        have HP := Lib.hid hp
        clear hp
        refine (parse_any x _ hxl HMW.out).mono ?_
        rintro e w2 ⟨rfl, hb⟩
        rw [HP.out]
        have HG2 := Lib.hid (HG.out.behind (HBW.out w2 hb))
        clear hb
        unfold parseV
        go_wp2_with (first | (at_builtin; refine gt_append HG2.out (by omega) d _ ?hC (.tmp 25) (.tmp 27) rfl rfl rfl _ rfl ?_; rotate_left; intro g2 cap w' hg) | fail)
        case hC => simp
        rw [HC.out] at hg
        exact ⟨⟨k + 1, by omega, by go_num, hg⟩, by simp [intOf]; omega⟩
    · obtain rfl : k = rs.length := by omega
      have HS2 := Lib.hid (show sn = domL (tosL rs) by rw [HSN.out, ← HXL.out, List.take_length])
      clear hlt hk
      go_wp2_with fail
      refine (sort_gt HG.out hsl).mono ?_
      rintro e w2 ⟨rfl, hg⟩
      have hsl2 : (sortS sn).length ≤ 1000000 := by rw [sort_len]; exact hsl
      have HG3 := Lib.hid (compact_gt hg hsl2)
      clear hg
      go_wp2_with fail
      refine (HG3.out).mono ?_
      rintro e w3 ⟨u, rfl, hg⟩
      have HU := Lib.hid (show GT w u (uniqS (domL (tosL rs))) w3 by rw [← HS2.out]; exact hg)
      clear hg
      go_wp2_with fail
      go_ret
      exact ⟨u, rfl, HU.out⟩

/-! ### Mail -/
/-- What Mail tells. -/
def mailL (f : List UInt8) (xs : List (List UInt8)) (en tx : List UInt8) (r m : Int) : Int :=
  if m < tx.length ∨ r < xs.length then 40 else if endL f && areL xs && envidL en && mtextL tx then 0 else 4

/-- Behind w, with the mail's box as it was. -/
def MB (w : World) (cs : Array Value) (W : World) : Prop := BL w W ∧ W.heap[w.heap.size]? = some (.cells cs 24 (0, 0))
theorem mb {w W : World} {cs : Array Value} {f : Nat} {args : Array Value} {v : Value} (h : Calls Tryz.prog f args W fun e w' => e = .returned v ∧ Below W.heap.size W w') (hb : MB w cs W) :
    Calls Tryz.prog f args W fun e w' => e = .returned v ∧ MB w cs w' := h.mono fun _ _ ⟨he, h⟩ => ⟨he, hb.1.step h, (h.block _ (lt_of_blk hb.2)).trans hb.2⟩
theorem MB.cells {w W : World} {f en tx : List UInt8} {q : Bool} {rv : Value} (h : MB w (mailCells f rv q en tx) W) :
    W.cell? ⟨w.heap.size, 0, none⟩ = some (sv f) ∧ W.cell? ⟨w.heap.size, 1, none⟩ = some rv ∧ W.cell? ⟨w.heap.size, 3, none⟩ = some (sv en) ∧ W.cell? ⟨w.heap.size, 4, none⟩ = some (sv tx) := by
  refine ⟨?_, ?_, ?_, ?_⟩ <;> (rw [cellAt h.2]; rfl)

set_option maxHeartbeats 4000000 in
theorem mail_any (f en tx : List UInt8) (q : Bool) (rs : List RC) (v : Value) (r m : Int) (w : World) (hv : RcIs w v rs) (hl : rs.length ≤ 100000) (hx : ∀ r ∈ rs, r.1.length ≤ 1000000) (hf : f.length ≤ 1000000) (hen : en.length ≤ 1000000) (htx : tx.length ≤ 1000000) (hM : ML w) :
    Calls Tryz.prog 13 #[mailV f v q en tx, .int .i64 r, .int .i64 m] w fun e w' => e = .returned (.int .i64 (mailL f (tosL rs) en tx r m)) ∧ Below w.heap.size w w' := by
  obtain ⟨z, hz⟩ : ∃ z, z = mailL f (tosL rs) en tx r m := ⟨_, rfl⟩
  rw [← hz]
  unfold mailL at hz
  rw [List.length_map] at hz
  have HV := Lib.hid (fun w1 (hb : Below w.heap.size w w1) => hv.step hb)
  obtain ⟨A, c, rfl, _⟩ := hv
  have HW := Lib.hid (show ∀ w1, w1 = w.alloc (.cells (mailCells f (.slice A rs.length c) q en tx) 24) → Below w.heap.size w w1 ∧ w1.heap[w.heap.size]? = some (.cells (mailCells f (.slice A rs.length c) q en tx) 24 (0, 0)) by
    rintro w1 rfl
    exact ⟨(Below.refl _ _).alloc (Nat.le_refl _) _, heap_alloc_new _ _⟩)
  have HM := Lib.hid hM
  clear hM
  by_cases h1 : m < tx.length
  · rw [if_pos (.inl h1)] at hz
    subst hz
    go_enter Tryz.func13, Tryz.ntmps13
    go_wp2_with fail
    go_ret
    exact ⟨rfl, (HW.out _ rfl).1⟩
  by_cases h2 : r < rs.length
  · rw [if_pos (.inr h2)] at hz
    subst hz
    have h1' : (tx.length : Int) ≤ m := by omega
    clear h1
    go_enter Tryz.func13, Tryz.ntmps13
    go_wp2_with fail
    go_ret
    exact ⟨rfl, (HW.out _ rfl).1⟩
  rw [if_neg (by rintro (h | h) <;> omega)] at hz
  have h1' : (tx.length : Int) ≤ m := by omega
  have h2' : (rs.length : Int) ≤ r := by omega
  clear h1 h2
  obtain ⟨a1, e1⟩ : ∃ a, a = endL f := ⟨_, rfl⟩
  obtain ⟨a2, e2⟩ : ∃ a, a = areL (tosL rs) := ⟨_, rfl⟩
  obtain ⟨a3, e3⟩ : ∃ a, a = envidL en := ⟨_, rfl⟩
  obtain ⟨a4, e4⟩ : ∃ a, a = mtextL tx := ⟨_, rfl⟩
  rw [← e1, ← e2, ← e3, ← e4] at hz
  have E1 := Lib.hid e1
  have E2 := Lib.hid e2
  have E3 := Lib.hid e3
  have E4 := Lib.hid e4
  clear e1 e2 e3 e4
  have HMB0 := Lib.hid (show ∀ w1, w1 = w.alloc (.cells (mailCells f (.slice A rs.length c) q en tx) 24) → MB w (mailCells f (.slice A rs.length c) q en tx) w1 from fun w1 h => ⟨(BL.start HM.out).step (HW.out w1 h).1, (HW.out w1 h).2⟩)
  cases a1 with
  | false =>
    obtain rfl : z = 4 := hz
    go_enter Tryz.func13, Tryz.ntmps13
    go_wp2_with fail
    refine (mb (isEnd_any f _ hf (HMB0.out _ rfl).1.ml) (HMB0.out _ rfl)).mono ?_
    rintro e w1 ⟨rfl, hb⟩
    rw [← E1.out]
    obtain ⟨c0, c1, c3, c4⟩ := hb.cells
    have HMB1 := Lib.hid hb
    clear hb
    have HB := Lib.hid HMB1.out.1.below
    clear c0 c1 c3 c4
    go_wp2_with fail
    go_ret
    exact ⟨rfl, HB.out⟩
  | true =>
    cases a2 with
    | false =>
      obtain rfl : z = 4 := hz
      go_enter Tryz.func13, Tryz.ntmps13
      go_wp2_with fail
      refine (mb (isEnd_any f _ hf (HMB0.out _ rfl).1.ml) (HMB0.out _ rfl)).mono ?_
      rintro e w1 ⟨rfl, hb⟩
      rw [← E1.out]
      obtain ⟨c0, c1, c3, c4⟩ := hb.cells
      have HMB1 := Lib.hid hb
      clear hb
      go_wp2_with fail
      refine (mb (areRcpts_any rs _ _ (HV.out _ HMB1.out.1.below) hl hx HMB1.out.1.ml) HMB1.out).mono ?_
      rintro e w2 ⟨rfl, hb⟩
      rw [← E2.out]
      obtain ⟨c0, c1, c3, c4⟩ := hb.cells
      have HMB2 := Lib.hid hb
      clear hb
      have HB := Lib.hid HMB2.out.1.below
      clear c0 c1 c3 c4
      go_wp2_with fail
      go_ret
      exact ⟨rfl, HB.out⟩
    | true =>
      cases a3 with
      | false =>
        obtain rfl : z = 4 := hz
        go_enter Tryz.func13, Tryz.ntmps13
        go_wp2_with fail
        refine (mb (isEnd_any f _ hf (HMB0.out _ rfl).1.ml) (HMB0.out _ rfl)).mono ?_
        rintro e w1 ⟨rfl, hb⟩
        rw [← E1.out]
        obtain ⟨c0, c1, c3, c4⟩ := hb.cells
        have HMB1 := Lib.hid hb
        clear hb
        go_wp2_with fail
        refine (mb (areRcpts_any rs _ _ (HV.out _ HMB1.out.1.below) hl hx HMB1.out.1.ml) HMB1.out).mono ?_
        rintro e w2 ⟨rfl, hb⟩
        rw [← E2.out]
        obtain ⟨c0, c1, c3, c4⟩ := hb.cells
        have HMB2 := Lib.hid hb
        clear hb
        go_wp2_with fail
        refine (mb (isEnvid_any en _ (by omega)) HMB2.out).mono ?_
        rintro e w3 ⟨rfl, hb⟩
        rw [← E3.out]
        obtain ⟨c0, c1, c3, c4⟩ := hb.cells
        have HMB3 := Lib.hid hb
        clear hb
        have HB := Lib.hid HMB3.out.1.below
        clear c0 c1 c3 c4
        go_wp2_with fail
        go_ret
        exact ⟨rfl, HB.out⟩
      | true =>
        cases a4 with
        | false =>
          obtain rfl : z = 4 := hz
          go_enter Tryz.func13, Tryz.ntmps13
          go_wp2_with fail
          refine (mb (isEnd_any f _ hf (HMB0.out _ rfl).1.ml) (HMB0.out _ rfl)).mono ?_
          rintro e w1 ⟨rfl, hb⟩
          rw [← E1.out]
          obtain ⟨c0, c1, c3, c4⟩ := hb.cells
          have HMB1 := Lib.hid hb
          clear hb
          go_wp2_with fail
          refine (mb (areRcpts_any rs _ _ (HV.out _ HMB1.out.1.below) hl hx HMB1.out.1.ml) HMB1.out).mono ?_
          rintro e w2 ⟨rfl, hb⟩
          rw [← E2.out]
          obtain ⟨c0, c1, c3, c4⟩ := hb.cells
          have HMB2 := Lib.hid hb
          clear hb
          go_wp2_with fail
          refine (mb (isEnvid_any en _ (by omega)) HMB2.out).mono ?_
          rintro e w3 ⟨rfl, hb⟩
          rw [← E3.out]
          obtain ⟨c0, c1, c3, c4⟩ := hb.cells
          have HMB3 := Lib.hid hb
          clear hb
          go_wp2_with fail
          refine (mb (isText_any tx _ (by omega)) HMB3.out).mono ?_
          rintro e w4 ⟨rfl, hb⟩
          rw [← E4.out]
          obtain ⟨c0, c1, c3, c4⟩ := hb.cells
          have HMB4 := Lib.hid hb
          clear hb
          have HB := Lib.hid HMB4.out.1.below
          clear c0 c1 c3 c4
          go_wp2_with fail
          go_ret
          exact ⟨rfl, HB.out⟩
        | true =>
          obtain rfl : z = 0 := hz
          go_enter Tryz.func13, Tryz.ntmps13
          go_wp2_with fail
          refine (mb (isEnd_any f _ hf (HMB0.out _ rfl).1.ml) (HMB0.out _ rfl)).mono ?_
          rintro e w1 ⟨rfl, hb⟩
          rw [← E1.out]
          obtain ⟨c0, c1, c3, c4⟩ := hb.cells
          have HMB1 := Lib.hid hb
          clear hb
          go_wp2_with fail
          refine (mb (areRcpts_any rs _ _ (HV.out _ HMB1.out.1.below) hl hx HMB1.out.1.ml) HMB1.out).mono ?_
          rintro e w2 ⟨rfl, hb⟩
          rw [← E2.out]
          obtain ⟨c0, c1, c3, c4⟩ := hb.cells
          have HMB2 := Lib.hid hb
          clear hb
          go_wp2_with fail
          refine (mb (isEnvid_any en _ (by omega)) HMB2.out).mono ?_
          rintro e w3 ⟨rfl, hb⟩
          rw [← E3.out]
          obtain ⟨c0, c1, c3, c4⟩ := hb.cells
          have HMB3 := Lib.hid hb
          clear hb
          go_wp2_with fail
          refine (mb (isText_any tx _ (by omega)) HMB3.out).mono ?_
          rintro e w4 ⟨rfl, hb⟩
          rw [← E4.out]
          obtain ⟨c0, c1, c3, c4⟩ := hb.cells
          have HMB4 := Lib.hid hb
          clear hb
          have HB := Lib.hid HMB4.out.1.below
          clear c0 c1 c3 c4
          go_wp2_with fail
          go_ret
          exact ⟨rfl, HB.out⟩
end Go.Proofs.YtbmjmiioobgbfaaGreatDoor
