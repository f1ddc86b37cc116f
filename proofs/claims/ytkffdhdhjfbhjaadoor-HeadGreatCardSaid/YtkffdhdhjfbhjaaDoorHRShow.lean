/-
  The reference's Show.
-/
import Derived.Test.YtkffdhdhjfbhjaaDoorHRRest3
namespace Go.Proofs.YtkffdhdhjfbhjaaDoor
set_option linter.unusedSimpArgs false
set_option linter.unusedVariables false
open Go Go.RowKit Go.Shelf
set_option maxRecDepth 100000

theorem col_name {n : List UInt8} (h : n ≠ []) : (colL (n ++ [58]) = n.length) ↔ nameB n = true := by
  have hpos : 0 < n.length := List.length_pos_iff.2 h
  have hE : n.isEmpty = false := by simpa using h
  constructor
  · intro hc
    have hne : colL (n ++ [58]) ≠ 0 := by omega
    unfold colL at hc hne
    dsimp only at hc hne
    split at hc
    · have hall : n.all okN = true := by
        rw [List.all_eq_true]
        intro c hcm
        obtain ⟨k, hk, rfl⟩ := List.getElem_of_mem hcm
        have := tw_at (p := okN) (l := n ++ [58]) (k := k) (by omega) (by simp; omega)
        rwa [List.getElem_append_left hk] at this
      unfold nameB
      rw [hall, hE]; rfl
    · omega
  · intro hn
    unfold nameB at hn
    rw [hE] at hn
    have hall : n.all okN = true := by simpa using hn
    have hk : ((n ++ [58]).takeWhile okN).length = n.length := by
      refine tw_of_all (fun j hj hjl => ?_) (by simp) (fun hjl => ?_)
      · rw [List.getElem_append_left hj]
        exact List.all_eq_true.1 hall _ (List.getElem_mem hj)
      · rw [List.getElem_append_right (Nat.le_refl _)]
        simp [okN]
    unfold colL
    dsimp only
    rw [hk, List.getElem?_append_right (Nat.le_refl _)]
    simp

set_option maxHeartbeats 4000000 in
theorem rshow_any (f : FP) (w : World) (hn : f.1.length ≤ 1000000) (hv : f.2.length ≤ 1000000) (hn' : f.1.length + 1 ≤ 1000000) :
    Calls Tryd.prog 25 #[fv f] w fun e w' => e = .returned (.tuple #[sv (showL f).1, .int .i64 (showL f).2]) ∧ Below w.heap.size w w' := by
  obtain ⟨n, v⟩ := f
  dsimp only at hn hv hn' ⊢
  obtain ⟨W, hW⟩ : ∃ W, W = w.alloc (.cells #[sv n, sv v] 45) := ⟨_, rfl⟩
  have hbox : W.heap[w.heap.size]? = some (.cells #[sv n, sv v] 45 (0, 0)) := by rw [hW]; exact heap_alloc_new w _
  have hbel : Below w.heap.size w W := by rw [hW]; exact below_alloc _ _
  obtain ⟨a, ha⟩ : ∃ a, a = nameB n := ⟨_, rfl⟩
  obtain ⟨b, hb⟩ : ∃ b, b = valB v := ⟨_, rfl⟩
  have HS := Lib.hid (show showL (n, v) = if a && b then (n ++ 58 :: 32 :: v, 0) else ([], 4) by rw [ha, hb]; rfl)
  have d0 : W.cell? ⟨w.heap.size, 0, none⟩ = some (sv n) := by rw [cellAt hbox]; rfl
  have d1 : W.cell? ⟨w.heap.size, 1, none⟩ = some (sv v) := by rw [cellAt hbox]; rfl
  have q0 : W.drew.cell? ⟨w.heap.size, 0, none⟩ = some (sv n) := d0
  have q1 : W.drew.cell? ⟨w.heap.size, 1, none⟩ = some (sv v) := d1
  have HD := Lib.hid (show ∀ m, (W.drewN m).cell? ⟨w.heap.size, 0, none⟩ = some (sv n) ∧ (W.drewN m).cell? ⟨w.heap.size, 1, none⟩ = some (sv v) from fun m => ⟨d0, d1⟩)
  have HBX := Lib.hid hbox
  have HBL := Lib.hid hbel
  have HW := Lib.hid hW
  clear hbox hbel hW
  by_cases h0 : n = []
  · have HR := Lib.hid (show showL (n, v) = ([], 4) by rw [HS.out, ha, h0]; rfl)
    subst h0
    clear ha hb
    go_enter Tryd.func25, Tryd.ntmps25
    go_wp2_with fail
    rw [← HW.out]
    go_wp2_with fail
    go_quiet (fail)
    go_wp2_with fail
    go_ret2
    rw [HR.out]
    exact ⟨rfl, below_drewN HBL.out _⟩
  · have h0e : n.isEmpty = false := by simpa using h0
    have h0b : (n == []) = false := by simpa using h0
    have HCN := Lib.hid (col_name h0)
    obtain ⟨cl, hcl⟩ : ∃ cl, cl = colL (n ++ [58]) := ⟨_, rfl⟩
    rw [← hcl, ← ha] at HCN
    have HCO := Lib.hid (fun m => colon_same (n ++ [58]) (W.drewN m) (by simp; omega))
    rw [← hcl] at HCO
    have eadd : str n ++ { data := #[58] } = str (n ++ [58]) := by apply ByteArray.ext; simp
    have hadd : ¬ 9223372036854775807 < n.length + 1 := by omega
    have EADD := Lib.hid eadd
    clear hcl eadd
    by_cases hc : cl = n.length
    · have hcb : ((cl : Int) != (n.length : Int)) = false := by rw [hc]; simp
      obtain ⟨t, ht⟩ : ∃ t, t = trimL v := ⟨_, rfl⟩
      have HTR := Lib.hid (fun m => rtrim_same v (W.drewN m) hv)
      rw [← ht] at HTR
      have HA := Lib.hid (HCN.out.1 hc)
      have hv1 : valB v = (v.all okV && (t == v)) := by rw [ht]; rfl
      by_cases htv : t = v
      · subst htv
        have hA1 : n.length ≤ 1000000 := hn
        have HAE := Lib.hid (show a = true from HA.out)
        have HV1 := Lib.hid (show b = t.all okV by rw [hb, hv1]; simp)
        clear ha hb hc ht hv1
        go_enter Tryd.func25, Tryd.ntmps25
        go_wp2_with fail
        rw [← HW.out]
        go_wp2_with fail
        go_quiet ((first | (go_at_call 43; rw [EADD.out]; exact Calls.quiet_of_same (HCO.out _)) | (go_at_call 44; exact Calls.quiet_of_same (HTR.out _))))
        obtain ⟨X, hX⟩ : ∃ X, X = W.drewN nq := ⟨_, rfl⟩
        have x0 : X.cell? ⟨w.heap.size, 0, none⟩ = some (sv n) := by rw [hX]; exact (HD.out nq).1
        have x1 : X.cell? ⟨w.heap.size, 1, none⟩ = some (sv t) := by rw [hX]; exact (HD.out nq).2
        have HBX2 := Lib.hid (show Below w.heap.size w X by rw [hX]; exact below_drewN HBL.out _)
        rw [← hX]
        clear hX
        go_wp2_with fail
        go_loopw [4] (fun i wr => ∃ k : Nat, k ≤ t.length ∧ i = .int .i64 k ∧ (∀ j, j < k → okV (t.getD j 0) = true) ∧ wr = X) (fun i _ => t.length - (intOf i).toNat)
        case atStart => exact ⟨0, Nat.zero_le _, rfl, (fun j hj => absurd hj (by omega)), by first | rfl | trivial⟩
        case round =>
          obtain ⟨k, hk, rfl, hall, rfl⟩ := hrel
          have HALL := Lib.hid hall
          clear hall
          by_cases hlt : k < t.length
          · obtain ⟨x, hx⟩ : ∃ x, (t.getD k 0).toNat = x := ⟨_, rfl⟩
            have hxs : (((str t)[k]'(by simpa [ByteArray.size] using hlt)).toNat) = x := by rw [str_getD t k hlt, hx]
            have HF := Lib.hid (fun h0 h => show showL (n, t) = ([], 4) by rw [HS.out, HV1.out, all_no hlt (okV_no hx h0 h)]; simp)
            have HY := Lib.hid (fun h => upto_next HALL.out (okV_yes hx h))
            clear hx
            by_cases h9 : x = 9
            · subst h9
              go_wp2_with fail
              go_roundw
              case rel => exact ⟨k + 1, by omega, by go_num, HY.out (.inl rfl), by first | rfl | trivial⟩
              case measure => simp [intOf]; omega
            · have e9 : ((x : Int) != 9) = true := by rw [bne_iff_ne]; omega
              by_cases h1 : x < 32
              · have i1 : (x : Int) < 32 := by omega
                go_wp2_with fail
                go_ret2
                rw [HF.out h9 (.inl h1)]
                exact ⟨rfl, HBX2.out⟩
              · by_cases h2 : 126 < x
                · have i1 : ¬ (x : Int) < 32 := by omega
                  have i2 : (126 : Int) < (x : Int) := by omega
                  go_wp2_with fail
                  go_ret2
                  rw [HF.out h9 (.inr h2)]
                  exact ⟨rfl, HBX2.out⟩
                · have i1 : ¬ (x : Int) < 32 := by omega
                  have i2 : ¬ (126 : Int) < (x : Int) := by omega
                  go_wp2_with fail
                  go_roundw
                  case rel => exact ⟨k + 1, by omega, by go_num, HY.out (.inr ⟨by omega, by omega⟩), by first | rfl | trivial⟩
                  case measure => simp [intOf]; omega
          · obtain rfl : k = t.length := by omega
            have HR := Lib.hid (show showL (n, t) = (n ++ 58 :: 32 :: t, 0) by rw [HS.out, HV1.out, HAE.out, all_yes HALL.out]; rfl)
            have e5 : ((str n ++ { data := #[58, 32] } : ByteArray) ++ str t) = str (n ++ 58 :: 32 :: t) := by apply ByteArray.ext; simp
            have E5 := Lib.hid e5
            clear e5
            go_wp2_with fail
            go_ret2
            rw [HR.out]
            refine ⟨?_, HBX2.out⟩
            show Ending.returned (.tuple #[.string ((str n ++ { data := #[58, 32] } : ByteArray) ++ str t), .int .i64 0]) = _
            rw [E5.out]
      · have htb : (t == v) = false := by simpa using htv
        have htb2 : (t != v) = true := by simpa using htv
        have HR := Lib.hid (show showL (n, v) = ([], 4) by rw [HS.out, hb, hv1, htb]; simp)
        clear ha hb hc ht hv1
        go_enter Tryd.func25, Tryd.ntmps25
        go_wp2_with fail
        rw [← HW.out]
        go_wp2_with fail
        go_quiet ((first | (go_at_call 43; rw [EADD.out]; exact Calls.quiet_of_same (HCO.out _)) | (go_at_call 44; exact Calls.quiet_of_same (HTR.out _))))
        go_wp2_with fail
        go_ret2
        rw [HR.out]
        exact ⟨rfl, below_drewN HBL.out _⟩
    · have hcb : ((cl : Int) != (n.length : Int)) = true := by rw [bne_iff_ne]; omega
      have HR := Lib.hid (show showL (n, v) = ([], 4) by
        have : a = false := by
          cases a with
          | false => rfl
          | true => exact absurd (HCN.out.2 rfl) hc
        rw [HS.out, this]; rfl)
      clear ha hb hc
      go_enter Tryd.func25, Tryd.ntmps25
      go_wp2_with fail
      rw [← HW.out]
      go_wp2_with fail
      go_quiet ((go_at_call 43; rw [EADD.out]; exact Calls.quiet_of_same (HCO.out _)))
      go_wp2_with fail
      go_ret2
      rw [HR.out]
      exact ⟨rfl, below_drewN HBL.out _⟩
end Go.Proofs.YtkffdhdhjfbhjaaDoor
