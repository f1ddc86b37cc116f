/-
  The contracts of package addr's areRcpts, Domains.
-/
import Derived.Laws.NewBlocks
import Derived.Laws.Rows
import Derived.Test.YtbmjmiioobgbfaaGreatDoorAMay
import Derived.Test.YtbmjmiioobgbfaaGreatDoorASort
namespace Go.Proofs.YtbmjmiioobgbfaaGreatDoor
open Go Go.RowKit
set_option maxRecDepth 100000

/-- A recipient: whom it is to, and whether it is Never. -/
abbrev RC := List UInt8 × Bool
abbrev rc0 : RC := ([], false)
/-- Recipients, as a slice's value names them. -/
def RcIs (w : World) (v : Value) (rs : List RC) : Prop :=
  ∃ A c, v = .slice A rs.length c ∧ (0 < rs.length → ∃ g off, A = some ⟨g, off, none⟩ ∧ g < w.heap.size ∧
    ∀ j, j < rs.length → w.cell? ⟨g, off + j * 2, none⟩ = some (sv (rs.getD j rc0).1) ∧ w.cell? ⟨g, off + j * 2 + 1, none⟩ = some (.bool (rs.getD j rc0).2))
theorem RcIs.step {w w' : World} {v : Value} {rs : List RC} (h : RcIs w v rs) (hb : Below w.heap.size w w') : RcIs w' v rs := by
  obtain ⟨A, c, rfl, h⟩ := h
  refine ⟨A, c, rfl, fun hp => ?_⟩
  obtain ⟨g, off, e, hl, hc⟩ := h hp
  exact ⟨g, off, e, Nat.lt_of_lt_of_le hl hb.size, fun j hj => ⟨(hb.cell (p := ⟨g, off + j * 2, none⟩) hl).trans (hc j hj).1, (hb.cell (p := ⟨g, off + j * 2 + 1, none⟩) hl).trans (hc j hj).2⟩⟩

def canL (x : List UInt8) : List UInt8 := match parseL x with | some (a, d) => a ++ 64 :: d | none => []
def areL (xs : List (List UInt8)) : Bool := decide (0 < xs.length) && xs.all amayL && decide (xs.map canL).Nodup
abbrev tosL (rs : List RC) : List (List UInt8) := rs.map (·.1)
theorem can_is {x a d : List UInt8} (h : parseL x = some (a, d)) : canL x = a ++ 64 :: d := by unfold canL; rw [h]
theorem tos_getD {rs : List RC} {k : Nat} (hk : k < rs.length) : (tosL rs).getD k [] = (rs.getD k rc0).1 := by
  rw [List.getD_eq_getElem?_getD, List.getD_eq_getElem?_getD, List.getElem?_map, List.getElem?_eq_getElem hk]; rfl
theorem take_can {xs : List (List UInt8)} {k : Nat} (hk : k < xs.length) : (xs.take k).map canL ++ [canL (xs.getD k [])] = (xs.take (k + 1)).map canL := by
  rw [List.take_succ_eq_append_getElem hk, List.map_append, List.getD_eq_getElem?_getD, List.getElem?_eq_getElem hk]; rfl
theorem upto_rows {xs : List (List UInt8)} {p : List UInt8 → Bool} {k : Nat} (ha : ∀ j, j < k → p (xs.getD j []) = true) (h : p (xs.getD k []) = true) : ∀ j, j < k + 1 → p (xs.getD j []) = true := by
  intro j hj
  by_cases e : j = k
  · rw [e]; exact h
  · exact ha j (by omega)
theorem all_rows {xs : List (List UInt8)} {p : List UInt8 → Bool} (h : ∀ j, j < xs.length → p (xs.getD j []) = true) : xs.all p = true := by
  rw [List.all_eq_true]
  intro x hx
  obtain ⟨j, hj, rfl⟩ := List.getElem_of_mem hx
  have := h j hj
  rwa [List.getD_eq_getElem?_getD, List.getElem?_eq_getElem hj] at this
theorem not_row {xs : List (List UInt8)} {p : List UInt8 → Bool} {j : Nat} (hj : j < xs.length) (h : p (xs.getD j []) = false) : xs.all p = false := by
  rw [List.all_eq_false]
  refine ⟨xs[j], List.getElem_mem hj, ?_⟩
  rw [List.getD_eq_getElem?_getD, List.getElem?_eq_getElem hj] at h
  simpa using h

set_option maxHeartbeats 4000000 in
theorem areRcpts_any (rs : List RC) (v : Value) (w : World) (hv : RcIs w v rs) (hl : rs.length ≤ 100000) (hx : ∀ r ∈ rs, r.1.length ≤ 1000000) (hM : ML w) :
    Calls Tryz.prog 44 #[v] w fun e w' => e = .returned (.bool (areL (tosL rs))) ∧ Below w.heap.size w w' := by
  have HV := Lib.hid hv
  obtain ⟨A, c, rfl, _⟩ := hv
  have HM := Lib.hid hM
  have HX := Lib.hid hx
  have hxl : (tosL rs).length = rs.length := List.length_map _
  have HXL := Lib.hid hxl
  clear hM hx hxl
  go_enter Tryz.func44, Tryz.ntmps44
  go_wp2_with fail
  go_loopw [3, 11] (fun v i wr => ∃ k : Nat, k ≤ rs.length ∧ i = .int .i64 k ∧ GT w v (((tosL rs).take k).map canL) wr ∧ ∀ j, j < k → amayL ((tosL rs).getD j []) = true) (fun _ i _ => rs.length - (intOf i).toNat)
  case atStart => exact ⟨0, Nat.zero_le _, rfl, GT.nil w, fun j hj => absurd hj (by omega)⟩
  case round =>
    obtain ⟨k, hk, rfl, hg, ha⟩ := hrel
    have HG := Lib.hid hg
    have HA := Lib.hid ha
    obtain ⟨A2, c2, rfl⟩ := hg.form
    obtain ⟨sn, hsn⟩ : ∃ sn, sn = ((tosL rs).take k).map canL := ⟨_, rfl⟩
    rw [← hsn] at HG ⊢
    have hsl : sn.length ≤ 1000000 := by rw [hsn]; simp; omega
    have HSN := Lib.hid hsn
    clear ha hg hsn
    by_cases hlt : k < rs.length
    · obtain ⟨A', c', e, h⟩ := HV.out.step HG.out.below
      simp only [Value.slice.injEq, true_and] at e
      obtain ⟨rfl, rfl⟩ := e
      obtain ⟨g, off, rfl, hgl, hc⟩ := h (by omega)
      obtain ⟨q1, q2⟩ := hc k hlt
      obtain ⟨x, hx⟩ : ∃ x, x = (rs.getD k rc0).1 := ⟨_, rfl⟩
      obtain ⟨n, hn⟩ : ∃ n, n = (rs.getD k rc0).2 := ⟨_, rfl⟩
      rw [← hx] at q1
      rw [← hn] at q2
      have HTX := Lib.hid (show (tosL rs).getD k [] = x by rw [tos_getD hlt, hx])
      have hxl : x.length ≤ 1000000 := by
        rw [hx]; refine HX.out _ ?_
        rw [List.getD_eq_getElem?_getD, List.getElem?_eq_getElem hlt]
        exact List.getElem_mem hlt
      clear h hc hx hn
      go_wp2_with fail
      have HBW := Lib.hid (fun w2 (hb : Below (wr.alloc (.cells #[.string (str x), .bool n] 31)).heap.size (wr.alloc (.cells #[.string (str x), .bool n] 31)) w2) => ((Below.refl wr.heap.size wr).alloc (Nat.le_refl _) (.cells #[.string (str x), .bool n] 31)).trans (hb.mono (by simp)))
      have HMW := Lib.hid (HM.out.step (HG.out.below.alloc HG.out.below.size (.cells #[.string (str x), .bool n] 31)))
      clear q1 q2
      cases hp : parseL x with
      | none =>
        have HF := Lib.hid (show areL (tosL rs) = false by
          unfold areL
          rw [not_row (j := k) (by rw [HXL.out]; exact hlt) (by rw [HTX.out]; unfold amayL; rw [hp]; rfl)]; simp)
        have HP := Lib.hid hp
        clear hp
        refine (parse_any x _ hxl HMW.out).mono ?_
        rintro e w2 ⟨rfl, hb⟩
        rw [HP.out]
        have HB := Lib.hid (HG.out.below.trans ((HBW.out w2 hb).mono HG.out.below.size))
        clear hb
        unfold parseV
        go_wp2_with fail
        go_ret
        rw [HF.out]
        exact ⟨rfl, HB.out⟩
      | some p =>
        obtain ⟨a, d⟩ := p
        have HN := Lib.hid (upto_rows HA.out (show amayL ((tosL rs).getD k []) = true by rw [HTX.out]; unfold amayL; rw [hp]; rfl))
        have HC := Lib.hid (show sn ++ [a ++ 64 :: d] = ((tosL rs).take (k + 1)).map canL by
          rw [HSN.out, ← take_can (by rw [HXL.out]; exact hlt), HTX.out, can_is hp])
        have hpl := parse_len hp
        have ht := show_text a d
        have HP := Lib.hid hp
        clear hp
        obtain ⟨t, htt⟩ : ∃ t, t = a ++ 64 :: d := ⟨_, rfl⟩
        rw [← htt] at HC ht
        clear htt
        have n2 : a.length ≤ 64 := hpl.2.2.1
        have n3 : d.length ≤ 253 := hpl.2.2.2
        clear hpl
        refine (parse_any x _ hxl HMW.out).mono ?_
        rintro e w2 ⟨rfl, hb⟩
        rw [HP.out]
        have HG2 := Lib.hid (HG.out.behind (HBW.out w2 hb))
        clear hb
        unfold parseV
        go_wp2_with (first | (at_builtin; refine gt_append HG2.out (by omega) t _ ?hC (.tmp 24) (.tmp 29) rfl rfl rfl _ rfl ?_; rotate_left; intro g2 cap w' hg) | fail)
        case hC => simp
        rw [HC.out] at hg
        exact ⟨⟨k + 1, by omega, by go_num, hg, HN.out⟩, by simp [intOf]; omega⟩
    · obtain rfl : k = rs.length := by omega
      have HS2 := Lib.hid (show sn = (tosL rs).map canL by rw [HSN.out, ← HXL.out, List.take_length])
      have HSL := Lib.hid (show sn.length = rs.length by rw [HS2.out, List.length_map, HXL.out])
      have HAR := Lib.hid (show areL (tosL rs) = (decide (0 < rs.length) && decide ((uniqS sn).length = rs.length)) by
        unfold areL
        rw [all_rows (by rw [HXL.out]; exact HA.out), HXL.out, ← HS2.out, Bool.and_true]
        congr 1
        rw [decide_eq_decide, ← HSL.out]
        exact (uniq_len sn).symm)
      clear hlt hk
      go_wp2_with fail
      refine (sort_gt HG.out hsl).mono ?_
      rintro e w2 ⟨rfl, hg⟩
      have HG2 := Lib.hid hg
      clear hg
      by_cases h0 : 0 < rs.length
      · have hsl2 : (sortS sn).length ≤ 1000000 := by rw [sort_len]; exact hsl
        have HG3 := Lib.hid (compact_gt HG2.out hsl2)
        obtain ⟨A3, c3, e3⟩ := HG2.out.form
        simp only [Value.slice.injEq] at e3
        have HL3 := Lib.hid (show sn.length = (sortS sn).length by rw [sort_len])
        clear e3
        go_wp2_with fail
        refine (HG3.out).mono ?_
        rintro e w3 ⟨u, rfl, hg⟩
        obtain ⟨A4, c4, rfl⟩ := hg.form
        have HB := Lib.hid hg.below
        obtain ⟨m, hm⟩ : ∃ m, m = (Lib.compact (sortS sn)).length := ⟨_, rfl⟩
        have HR2 := Lib.hid (show areL (tosL rs) = decide (m = rs.length) by rw [HAR.out, decide_eq_true h0, hm]; rfl)
        rw [← hm]
        have hml : m ≤ 1000000 := by rw [hm]; have := compact_len_le (sortS sn); omega
        clear hg hm
        by_cases he : m = rs.length
        · have HE := Lib.hid (show areL (tosL rs) = true by rw [HR2.out]; exact decide_eq_true he)
          have e1 : ((m : Int) == (rs.length : Int)) = true := by rw [he]; simp
          clear he
          go_wp2_with fail
          go_ret
          rw [HE.out]
          exact ⟨rfl, HB.out⟩
        · have HE := Lib.hid (show areL (tosL rs) = false by rw [HR2.out]; exact decide_eq_false he)
          have e1 : ((m : Int) == (rs.length : Int)) = false := by rw [beq_eq_false_iff_ne]; omega
          clear he
          go_wp2_with fail
          go_ret
          rw [HE.out]
          exact ⟨rfl, HB.out⟩
      · have HE := Lib.hid (show areL (tosL rs) = false by rw [HAR.out, decide_eq_false h0]; rfl)
        have HB := Lib.hid HG2.out.below
        have h0' : rs.length ≤ 0 := by omega
        clear h0
        go_wp2_with fail
        go_ret
        rw [HE.out]
        exact ⟨rfl, HB.out⟩
end Go.Proofs.YtbmjmiioobgbfaaGreatDoor
