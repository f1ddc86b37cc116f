/-
  The contracts of put, isKey, isTime, Spki, Digest, arePatterns, putNames.
-/
import Derived.Test.YtamlblfhjpajhaaDoorGRow
import Derived.Test.YtamlblfhjpajhaaDoorGPat
import Derived.Test.YtamlblfhjpajhaaDoorZSum
namespace Go.Proofs.YtamlblfhjpajhaaDoor
set_option linter.unusedSimpArgs false
set_option linter.unusedVariables false
open Go Go.RowKit
set_option maxRecDepth 100000

theorem put_one (z : Int) (t : UInt8) (v : List UInt8) (hz : z = (t.toNat : Int)) (ht : tagB t = true) (hv : v.length ≤ 65535) {w : World} :
    Calls Tryd.prog 23 #[.int .u8 z, sv v] w fun e w' => e = .returned (sv (putT t v)) ∧ Below w.heap.size w w' := by
  obtain ⟨h1, h2⟩ := putE_ok (t := t) (v := v) ht hv
  have hp := fun W => @put_any W t v (by omega)
  unfold itv at hp
  rw [h1, h2, ← hz] at hp
  have HP := Lib.hid (fun W => show Calls Tryd.prog 36 #[.agg #[.int .u8 z, sv v]] W (fun e w' => e = .returned (.tuple #[sv (putT t v), .int .i64 0]) ∧ Below W.heap.size W w') from hp W)
  clear hp h1 h2 hz ht hv
  go_enter Tryd.func23, Tryd.ntmps23
  go_wp2_with (go_at_call 36; refine (HP.out _).mono ?_; rintro e w1 ⟨rfl, hb1⟩)
  go_ret
  exact ⟨rfl, hb1⟩
theorem put48 (v : List UInt8) (hv : v.length ≤ 65535) {w : World} : Calls Tryd.prog 23 #[.int .u8 48, sv v] w fun e w' => e = .returned (sv (putT 48 v)) ∧ Below w.heap.size w w' := put_one 48 48 v rfl tag48 hv
theorem put4 (v : List UInt8) (hv : v.length ≤ 65535) {w : World} : Calls Tryd.prog 23 #[.int .u8 4, sv v] w fun e w' => e = .returned (sv (putT 4 v)) ∧ Below w.heap.size w w' := put_one 4 4 v rfl tag4 hv
theorem put130 (v : List UInt8) (hv : v.length ≤ 65535) {w : World} : Calls Tryd.prog 23 #[.int .u8 130, sv v] w fun e w' => e = .returned (sv (putT 130 v)) ∧ Below w.heap.size w w' := put_one 130 130 v rfl tag130 hv

theorem isKey_any {w : World} (s : List UInt8) (hs : s.length ≤ 9223372036854775807) : Calls Tryd.prog 18 #[sv s] w fun e w' => e = .returned (.bool (keyB s)) ∧ w = w' := by
  have hz := str_size s
  cases s with
  | nil =>
    go_enter Tryd.func18, Tryd.ntmps18
    go_wp2_with fail
    go_ret
    exact ⟨rfl, rfl⟩
  | cons b l =>
    have HK := Lib.hid (show keyB (b :: l) = decide ((((b :: l).length : Nat) : Int) ≤ 64) by
      unfold keyB
      rw [decide_eq_decide]
      simp only [List.length_cons]
      omega)
    have hne : (b :: l).isEmpty = false := rfl
    obtain ⟨t, ht⟩ : ∃ t, t = b :: l := ⟨_, rfl⟩
    rw [← ht] at HK hne hz hs ⊢
    have hne2 : ¬ t = [] := by rw [ht]; simp
    clear ht
    go_enter Tryd.func18, Tryd.ntmps18
    go_wp2_with fail
    go_ret
    rw [HK.out]
    exact ⟨rfl, rfl⟩

theorem isTime_any {w : World} (n : Int) : Calls Tryd.prog 20 #[.int .i64 n] w fun e w' => e = .returned (.bool (timeB n)) ∧ w = w' := by
  by_cases h : 0 ≤ n
  · have HK := Lib.hid (show timeB n = decide (n ≤ 1099511627776) by
      unfold timeB
      rw [decide_eq_decide]
      omega)
    go_enter Tryd.func20, Tryd.ntmps20
    go_wp2_with fail
    go_ret
    rw [HK.out]
    exact ⟨rfl, rfl⟩
  · have HK := Lib.hid (show timeB n = false by
      unfold timeB
      rw [decide_eq_false_iff_not]
      omega)
    go_enter Tryd.func20, Tryd.ntmps20
    go_wp2_with fail
    go_ret
    rw [HK.out]
    exact ⟨rfl, rfl⟩

theorem spki_any {w : World} (s : List UInt8) (hs : s.length ≤ 9223372036854775807) : Calls Tryd.prog 12 #[sv s] w fun e w' => e = .returned (sv (spkiL s)) ∧ Below w.heap.size w w' := by
  have HK := Lib.hid (fun W : World => @isKey_any W s hs)
  cases hk : keyB s with
  | false =>
    have HS := Lib.hid (show spkiL s = [] by unfold spkiL; rw [hk]; rfl)
    rw [hk] at HK
    have HB := Lib.hid (Below.refl w.heap.size w)
    clear hk
    go_enter Tryd.func12, Tryd.ntmps12
    go_wp2_with (go_at_call 18; refine (HK.out _).mono ?_; rintro e w1 ⟨rfl, rfl⟩)
    go_ret
    rw [HS.out]
    exact ⟨rfl, HB.out⟩
  | true =>
    have HS := Lib.hid (show spkiL s = putT 48 (putT 4 s) by unfold spkiL; rw [hk]; rfl)
    obtain ⟨_, h64⟩ := keyB_iff.1 hk
    have hm := putT_most 4 s
    have H4 := Lib.hid (fun W : World => @put4 s (by omega) W)
    have H48 := Lib.hid (fun W : World => @put48 (putT 4 s) (by omega) W)
    rw [hk] at HK
    have HB := Lib.hid (Below.refl w.heap.size w)
    clear hk hm
    go_enter Tryd.func12, Tryd.ntmps12
    go_wp2_with (first | (go_at_call 18; with_reducible refine (HK.out _).mono ?_; rintro e w1 ⟨rfl, rfl⟩) | (go_at_call 23; with_reducible refine (H4.out _).mono ?_; rintro e w2 ⟨rfl, hb2⟩) | (go_at_call 23; with_reducible refine (H48.out _).mono ?_; rintro e w3 ⟨rfl, hb3⟩))
    go_ret
    rw [HS.out]
    exact ⟨rfl, hb2.trans (hb3.mono hb2.size)⟩

/-- What Digest tells. -/
def digestL (s : List UInt8) : List UInt8 := if keyB s then sumP (spkiL s) else []
theorem digest_any {w : World} (s : List UInt8) (hs : s.length ≤ 9223372036854775807) (hw : LWc w) : Calls Tryd.prog 13 #[sv s] w fun e w' => e = .returned (sv (digestL s)) ∧ Below w.heap.size w w' := by
  have HK := Lib.hid (fun W : World => @isKey_any W s hs)
  have HP := Lib.hid (fun W : World => @spki_any W s hs)
  cases hk : keyB s with
  | false =>
    have HS := Lib.hid (show digestL s = [] by unfold digestL; rw [hk]; rfl)
    rw [hk] at HK
    have HB := Lib.hid (Below.refl w.heap.size w)
    clear hk hw
    go_enter Tryd.func13, Tryd.ntmps13
    go_wp2_with (go_at_call 18; refine (HK.out _).mono ?_; rintro e w1 ⟨rfl, rfl⟩)
    go_ret
    rw [HS.out]
    exact ⟨rfl, HB.out⟩
  | true =>
    obtain ⟨_, h64⟩ := keyB_iff.1 hk
    have hl : (spkiL s).length ≤ 100000 := by unfold spkiL; rw [hk]; have := form_length h64; show (formL s).length ≤ _; omega
    have HS := Lib.hid (show digestL s = sumP (spkiL s) by unfold digestL; rw [hk]; rfl)
    have HM := Lib.hid (fun W (h : LWc W) => sum_any (spkiL s) W hl h)
    rw [hk] at HK
    have HB := Lib.hid (Below.refl w.heap.size w)
    have HW := Lib.hid hw
    clear hk hw hl
    go_enter Tryd.func13, Tryd.ntmps13
    go_wp2_with (first | (go_at_call 18; with_reducible refine (HK.out _).mono ?_; rintro e w1 ⟨rfl, rfl⟩) | (go_at_call 12; with_reducible refine (HP.out _).mono ?_; rintro e w2 ⟨rfl, hb2⟩) | (go_at_call 24; with_reducible refine (HM.out _ (HW.out.below hb2)).mono ?_; rintro e w3 ⟨rfl, hb3⟩))
    go_ret
    rw [HS.out]
    exact ⟨rfl, hb2.trans (hb3.mono hb2.size)⟩

theorem all_take {p : List UInt8 → Bool} {xs : List (List UInt8)} {k : Nat} (hk : k < xs.length) : (xs.take (k + 1)).all p = ((xs.take k).all p && p (xs.getD k [])) := by
  rw [take_text hk, List.all_append]; simp
set_option maxHeartbeats 2000000 in
theorem arePatterns_any {w : World} (xs : List (List UInt8)) (A : Option Addr) (c : Nat) (hx : SX w (.slice A xs.length c) xs) (hl : ∀ n ∈ xs, n.length ≤ 1000000) (hn : xs.length ≤ 1000000) (hw : GL w) :
    Calls Tryd.prog 19 #[.slice A xs.length c] w fun e w' => e = .returned (.bool (xs.all patL)) ∧ Below w.heap.size w w' := by
  have HX := Lib.hid hx
  have HG := Lib.hid (Gb.start hw)
  have HL := Lib.hid hl
  clear hx hw hl
  go_enter Tryd.func19, Tryd.ntmps19
  go_wp2_with fail
  go_loopw [7] (fun i wr => ∃ k : Nat, k ≤ xs.length ∧ i = .int .i64 k ∧ (xs.take k).all patL = true ∧ Gb w wr) (fun i _ => xs.length - (intOf i).toNat)
  case atStart => exact ⟨0, Nat.zero_le _, rfl, rfl, HG.out⟩
  case round =>
    obtain ⟨k, hk, rfl, hall, hgb⟩ := hrel
    have HA := Lib.hid hall
    have HB := Lib.hid hgb
    clear hall hgb
    by_cases hlt : k < xs.length
    · obtain ⟨g, off, rfl, _, c0⟩ := (HX.out.step HB.out.1).at hlt
      have hlt' : (k : Int) < (xs.length : Int) := by omega
      have hal := all_take (p := patL) hlt
      rw [HA.out, Bool.true_and] at hal
      have HXL := Lib.hid (HL.out _ (mem_getD hlt))
      obtain ⟨x, hxe⟩ : ∃ x, x = xs.getD k [] := ⟨_, rfl⟩
      rw [← hxe] at c0 hal HXL
      have HXE := Lib.hid hxe
      clear hxe
      cases hp : patL x with
      | true =>
        rw [hp] at hal
        have HAL := Lib.hid hal
        have HP := Lib.hid (show Calls Tryd.prog 28 #[sv x] wr (fun e w' => e = .returned (.bool true) ∧ Below wr.heap.size wr w') by rw [← hp]; exact pattern_any x wr HXL.out HB.out.2.ml)
        clear hal hp
        go_wp2_with (go_at_call 28; refine HP.out.mono ?_; rintro e w1 ⟨rfl, hb1⟩)
        go_roundw
        case rel => exact ⟨k + 1, by omega, by go_num, HAL.out, HB.out.step hb1⟩
        case measure => simp [intOf]; omega
      | false =>
        have HALL := Lib.hid (show xs.all patL = false by
          rw [List.all_eq_false]
          exact ⟨x, by rw [HXE.out]; exact mem_getD hlt, by rw [hp]; simp⟩)
        have HP := Lib.hid (show Calls Tryd.prog 28 #[sv x] wr (fun e w' => e = .returned (.bool false) ∧ Below wr.heap.size wr w') by rw [← hp]; exact pattern_any x wr HXL.out HB.out.2.ml)
        clear hal hp
        go_wp2_with (go_at_call 28; refine HP.out.mono ?_; rintro e w1 ⟨rfl, hb1⟩)
        go_ret
        rw [HALL.out]
        exact ⟨rfl, (HB.out.step hb1).1⟩
    · obtain rfl : k = xs.length := by omega
      rw [List.take_length] at HA
      go_wp2_with fail
      go_ret
      rw [HA.out]
      exact ⟨rfl, HB.out.1⟩

theorem namesL_take {xs : List (List UInt8)} {k : Nat} (hk : k < xs.length) : namesL (xs.take (k + 1)) = namesL (xs.take k) ++ putT 130 (xs.getD k []) := by
  rw [take_text hk]
  unfold namesL
  rw [List.map_append, putsL_app]
  show _ ++ (putT 130 _ ++ []) = _
  rw [List.append_nil]; rfl
theorem names_take_le {xs : List (List UInt8)} (h : ∀ n ∈ xs, patL n = true) (hl : xs.length ≤ 64) (k : Nat) : (namesL (xs.take k)).length ≤ 16576 :=
  names_le (fun n hn => h n (List.mem_of_mem_take hn)) (by rw [List.length_take]; omega)
set_option maxHeartbeats 2000000 in
theorem putNames_any {w : World} (xs : List (List UInt8)) (A : Option Addr) (c : Nat) (hx : SX w (.slice A xs.length c) xs) (hp : ∀ n ∈ xs, patL n = true) (hn : xs.length ≤ 64) :
    Calls Tryd.prog 25 #[.slice A xs.length c] w fun e w' => e = .returned (sv (namesL xs)) ∧ Below w.heap.size w w' := by
  have HX := Lib.hid hx
  have HP := Lib.hid hp
  have HB0 := Lib.hid (Below.refl w.heap.size w)
  clear hx hp
  go_enter Tryd.func25, Tryd.ntmps25
  go_wp2_with fail
  go_loopw [3, 8] (fun s i wr => ∃ k : Nat, k ≤ xs.length ∧ i = .int .i64 k ∧ s = sv (namesL (xs.take k)) ∧ Below w.heap.size w wr) (fun _ i _ => xs.length - (intOf i).toNat)
  case atStart => exact ⟨0, Nat.zero_le _, rfl, rfl, HB0.out⟩
  case round =>
    obtain ⟨k, hk, rfl, rfl, hb⟩ := hrel
    have HB := Lib.hid hb
    clear hb
    by_cases hlt : k < xs.length
    · obtain ⟨g, off, rfl, _, c0⟩ := (HX.out.step HB.out).at hlt
      have hlt' : (k : Int) < (xs.length : Int) := by omega
      have HT := Lib.hid (namesL_take hlt)
      have hz1 := names_take_le HP.out hn k
      have hpl := pat_len (HP.out _ (mem_getD hlt))
      obtain ⟨x, hxe⟩ : ∃ x, x = xs.getD k [] := ⟨_, rfl⟩
      rw [← hxe] at c0 HT hpl
      obtain ⟨s, hse⟩ : ∃ s, s = namesL (xs.take k) := ⟨_, rfl⟩
      rw [← hse] at HT hz1 ⊢
      have hz2 := str_size s
      have hz3 := str_size (putT 130 x)
      have hz4 := putT_most 130 x
      have hcat : str s ++ str (putT 130 x) = str (s ++ putT 130 x) := str_appendE _ _
      have H1 := Lib.hid (fun W : World => @put130 x (by omega) W)
      clear hxe hse
      go_wp2_with (go_at_call 23; refine (H1.out _).mono ?_; rintro e w1 ⟨rfl, hb1⟩)
      go_roundw
      case rel => exact ⟨k + 1, by omega, by go_num, by rw [HT.out], HB.out.trans (hb1.mono HB.out.size)⟩
      case measure => simp [intOf]; omega
    · obtain rfl : k = xs.length := by omega
      rw [List.take_length]
      go_wp2_with fail
      go_ret
      exact ⟨rfl, HB.out⟩
end Go.Proofs.YtamlblfhjpajhaaDoor
