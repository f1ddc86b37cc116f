/-
  The law's long: texts, records.
-/
import Derived.Test.YtnaoandleelbkaaGreatDoorURm
import Derived.Test.YtnaoandleelbkaaGreatDoorJWm
namespace Go.Proofs.YtnaoandleelbkaaGreatDoor
set_option linter.unusedSimpArgs false
set_option linter.unusedVariables false
open Go Go.RowKit
set_option maxRecDepth 100000

def bulk9 (ns : List Nat) : Nat := (ns.map fun n => 10 + min 9000 n).sum
theorem bulk9_take {ns : List Nat} {k : Nat} (h : k < ns.length) : bulk9 (ns.take (k + 1)) = bulk9 (ns.take k) + (10 + min 9000 ns[k]) := by
  unfold bulk9
  rw [List.take_succ_eq_append_getElem h]
  simp only [List.map_append, List.map_cons, List.map_nil, List.sum_append, List.sum_cons, List.sum_nil]
  omega
theorem bulk9_mem {ns : List Nat} {n : Nat} (h : n ∈ ns) : 10 + min 9000 n ≤ bulk9 ns := by
  induction ns with
  | nil => cases h
  | cons y ns ih =>
    have e : bulk9 (y :: ns) = 10 + min 9000 y + bulk9 ns := by simp [bulk9]
    rw [e]
    rcases List.mem_cons.1 h with rfl | h
    · omega
    · have := ih h; omega
theorem bulk9_len (ns : List Nat) : 10 * ns.length ≤ bulk9 ns := by
  induction ns with
  | nil => simp
  | cons y ns ih =>
    have e : bulk9 (y :: ns) = 10 + min 9000 y + bulk9 ns := by simp [bulk9]
    rw [e, List.length_cons]; omega
def lensT (xs : List (List UInt8)) : List Nat := xs.map List.length
def lensR (l : List Rc) : List Nat := l.map fun r => r.da.length
theorem lensT_len (xs : List (List UInt8)) : (lensT xs).length = xs.length := List.length_map _
theorem lensR_len (l : List Rc) : (lensR l).length = l.length := List.length_map _
/-- Texts, records, that are not too long for the statements. -/
def few9 (xs : List (List UInt8)) (l : List Rc) : Prop := xs.length ≤ 900 ∧ (∀ x ∈ xs, x.length ≤ 9000) ∧ l.length ≤ 900 ∧ ∀ r ∈ l, r.da.length ≤ 9000
theorem few9_of {xs : List (List UInt8)} {l : List Rc} (h : bulk9 (lensT xs) + bulk9 (lensR l) < 9000) : few9 xs l := by
  have h1 := bulk9_len (lensT xs)
  have h2 := bulk9_len (lensR l)
  rw [lensT_len] at h1
  rw [lensR_len] at h2
  refine ⟨by omega, fun x hx => ?_, by omega, fun r hr => ?_⟩
  · have := bulk9_mem (ns := lensT xs) (List.mem_map.2 ⟨x, hx, rfl⟩)
    omega
  · have := bulk9_mem (ns := lensR l) (List.mem_map.2 ⟨r, hr, rfl⟩)
    omega
theorem bulk_nextT {xs : List (List UInt8)} {k : Nat} (h : k < xs.length) : bulk9 ((lensT xs).take (k + 1)) = bulk9 ((lensT xs).take k) + (10 + min 9000 (xs.getD k []).length) := by
  rw [bulk9_take (by rw [lensT_len]; exact h)]
  congr 3
  unfold lensT
  rw [List.getElem_map, List.getD_eq_getElem?_getD, List.getElem?_eq_getElem h]; rfl
theorem bulk_nextR {l : List Rc} {k : Nat} (h : k < l.length) : bulk9 ((lensR l).take (k + 1)) = bulk9 ((lensR l).take k) + (10 + min 9000 (rcAt l k).da.length) := by
  rw [bulk9_take (by rw [lensR_len]; exact h)]
  congr 3
  unfold lensR
  rw [List.getElem_map, rcAt_get h]
set_option maxHeartbeats 8000000 in
theorem long9_any {w : World} (xs : List (List UInt8)) (A : Option Addr) (c : Nat) (l : List Rc) (B : Option Addr) (bc : Nat) (hx : SX w (.slice A xs.length c) xs) (hl : xs.length ≤ 9223372036854775807) (hn : ∀ n ∈ xs, n.length ≤ 9223372036854775807)
    (hr : RR w B l) (hrl : l.length ≤ 9223372036854775807) (hrn : ∀ r ∈ l, r.da.length ≤ 9223372036854775807) :
    Calls Tryz.prog 54 #[.slice A xs.length c, .slice B l.length bc] w fun e w' => ((e = .returned (.bool false) ∧ few9 xs l) ∨ e = .returned (.bool true)) ∧ w' = w := by
  have HX := Lib.hid hx
  have HN := Lib.hid hn
  have HR := Lib.hid hr
  have HRN := Lib.hid hrn
  clear hx hn hr hrn
  go_enter Tryz.func54, Tryz.ntmps54
  go_wp2_with fail
  go_loop [5, 6] (fun n i => ∃ k : Nat, k ≤ xs.length ∧ i = .int .i64 k ∧ n = .int .i64 ((bulk9 ((lensT xs).take k) : Nat) : Int) ∧ bulk9 ((lensT xs).take k) < 40000) (fun _ i => xs.length - (intOf i).toNat)
  case atStart => exact ⟨0, Nat.zero_le _, rfl, by simp [bulk9], by simp [bulk9]⟩
  case round =>
    obtain ⟨k, hk, rfl, rfl, hb⟩ := hrel
    obtain ⟨T, hT⟩ : ∃ T, T = bulk9 ((lensT xs).take k) := ⟨_, rfl⟩
    rw [← hT] at hb ⊢
    have HT := Lib.hid hT
    clear hT
    by_cases h9 : T < 9000
    · have h9' : (T : Int) < 9000 := by omega
      by_cases hlt : k < xs.length
      · have hlt' : (k : Int) < (xs.length : Int) := by omega
        obtain ⟨g, off, rfl, _, a0⟩ := HX.out.at hlt
        have hxl := HN.out _ (mem_getD hlt)
        have HK := Lib.hid (bulk_nextT hlt)
        obtain ⟨x, hxe⟩ : ∃ x, x = xs.getD k [] := ⟨_, rfl⟩
        rw [← hxe] at a0 hxl HK
        have hz2 := str_size x
        have n1 : (0 : Int) ≤ min 9000 (x.length : Int) := by omega
        have n2 : min 9000 (x.length : Int) ≤ 9000 := by omega
        have HST := Lib.hid (show bulk9 ((lensT xs).take (k + 1)) = T + 10 + min 9000 x.length by rw [HK.out, HT.out]; omega)
        clear hxe
        go_wp2_with fail
        go_round
        case rel => exact ⟨k + 1, by omega, by go_num, by rw [HST.out]; go_num, by rw [HST.out]; omega⟩
        case measure => simp [intOf]; omega
      · obtain rfl : k = xs.length := by omega
        rw [← lensT_len, List.take_length] at HT
        have hlt' : ¬ (xs.length : Int) < (xs.length : Int) := by omega
        obtain ⟨m, hm⟩ : ∃ m, m = xs.length := ⟨_, rfl⟩
        clear hlt hlt' hk
        go_wp2_with fail
        go_loop [5, 7] (fun n i => ∃ k : Nat, k ≤ l.length ∧ i = .int .i64 k ∧ n = .int .i64 ((T + bulk9 ((lensR l).take k) : Nat) : Int) ∧ T + bulk9 ((lensR l).take k) < 40000) (fun _ i => l.length - (intOf i).toNat)
        case atStart => exact ⟨0, Nat.zero_le _, rfl, by simp [bulk9], by simp [bulk9]; omega⟩
        case round =>
          obtain ⟨k, hk, rfl, rfl, hb2⟩ := hrel
          obtain ⟨U, hU⟩ : ∃ U, U = T + bulk9 ((lensR l).take k) := ⟨_, rfl⟩
          rw [← hU] at hb2 ⊢
          have HU := Lib.hid hU
          clear hU
          by_cases h9u : U < 9000
          · have h9u' : (U : Int) < 9000 := by omega
            by_cases hltu : k < l.length
            · have hltu' : (k : Int) < (l.length : Int) := by omega
              obtain ⟨x, hxe⟩ : ∃ x, x = rcAt l k := ⟨_, rfl⟩
              obtain ⟨g, off, rfl, _, p0, p1, p2, p3⟩ := HR.out.at hltu hxe.symm
              have hxl := HRN.out _ (rcAt_mem hltu)
              have HK := Lib.hid (bulk_nextR hltu)
              rw [← hxe] at hxl HK
              have hz2 := str_size x.da
              have n1 : (0 : Int) ≤ min 9000 (x.da.length : Int) := by omega
              have n2 : min 9000 (x.da.length : Int) ≤ 9000 := by omega
              have HST := Lib.hid (show T + bulk9 ((lensR l).take (k + 1)) = U + 10 + min 9000 x.da.length by rw [HK.out, HU.out]; omega)
              clear hxe
              go_wp2_with fail
              go_round
              case rel => exact ⟨k + 1, by omega, by go_num, by rw [HST.out]; go_num, by rw [HST.out]; omega⟩
              case measure => simp [intOf]; omega
            · obtain rfl : k = l.length := by omega
              rw [← lensR_len, List.take_length] at HU
              have HF := Lib.hid (few9_of (show bulk9 (lensT xs) + bulk9 (lensR l) < 9000 by rw [← HT.out, ← HU.out]; exact h9u))
              have h9e : ¬ (9000 : Int) ≤ (U : Int) := by omega
              have h9f : decide ((9000 : Int) ≤ (U : Int)) = false := by simpa using h9e
              go_wp2_with fail
              go_ret
              exact ⟨.inl ⟨rfl, HF.out⟩, rfl⟩
          · have h9u' : ¬ (U : Int) < 9000 := by omega
            have h9g : decide ((U : Int) < 9000) = false := by simpa using h9u'
            have h9d : decide ((9000 : Int) ≤ (U : Int)) = true := by simpa using h9u'
            have h9e : (9000 : Int) ≤ (U : Int) := by omega
            by_cases hltu : k < l.length
            · have hltu' : (k : Int) < (l.length : Int) := by omega
              go_wp2_with fail
              go_ret
              exact ⟨.inr rfl, rfl⟩
            · have hltu' : ¬ (k : Int) < (l.length : Int) := by omega
              have hltd : decide ((k : Int) < (l.length : Int)) = false := by simpa using hltu'
              go_wp2_with fail
              go_ret
              exact ⟨.inr rfl, rfl⟩
    · have h9' : ¬ (T : Int) < 9000 := by omega
      have h9g : decide ((T : Int) < 9000) = false := by simpa using h9'
      have h9d : decide ((9000 : Int) ≤ (T : Int)) = true := by simpa using h9'
      have h9e : (9000 : Int) ≤ (T : Int) := by omega
      by_cases hlt : k < xs.length
      · have hlt' : (k : Int) < (xs.length : Int) := by omega
        go_wp2_with fail
        go_loop [5, 7] (fun n i => i = .int .i64 (0 : Nat) ∧ n = .int .i64 (T : Int)) (fun _ _ => 0)
        case atStart => exact ⟨rfl, rfl⟩
        case round =>
          obtain ⟨rfl, rfl⟩ := hrel
          rw [show ((0 : Nat) : Int) = 0 from rfl]
          by_cases hl0 : 0 < l.length
          · have hl0' : (0 : Int) < (l.length : Int) := by omega
            go_wp2_with fail
            go_ret
            exact ⟨.inr rfl, rfl⟩
          · have hl0' : ¬ (0 : Int) < (l.length : Int) := by omega
            have hl0d : decide ((0 : Int) < (l.length : Int)) = false := by simpa using hl0'
            go_wp2_with fail
            go_ret
            exact ⟨.inr rfl, rfl⟩
      · have hlt' : ¬ (k : Int) < (xs.length : Int) := by omega
        have hltd : decide ((k : Int) < (xs.length : Int)) = false := by simpa using hlt'
        go_wp2_with fail
        go_loop [5, 7] (fun n i => i = .int .i64 (0 : Nat) ∧ n = .int .i64 (T : Int)) (fun _ _ => 0)
        case atStart => exact ⟨rfl, rfl⟩
        case round =>
          obtain ⟨rfl, rfl⟩ := hrel
          rw [show ((0 : Nat) : Int) = 0 from rfl]
          by_cases hl0 : 0 < l.length
          · have hl0' : (0 : Int) < (l.length : Int) := by omega
            go_wp2_with fail
            go_ret
            exact ⟨.inr rfl, rfl⟩
          · have hl0' : ¬ (0 : Int) < (l.length : Int) := by omega
            have hl0d : decide ((0 : Int) < (l.length : Int)) = false := by simpa using hl0'
            go_wp2_with fail
            go_ret
            exact ⟨.inr rfl, rfl⟩
end Go.Proofs.YtnaoandleelbkaaGreatDoor
