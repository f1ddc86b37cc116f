/-
  The contracts of put, isKey, isTime, Spki, Digest, arePatterns, putNames.
  The contract of May.
-/
import Derived.Test.YtnaoandleelbkaaGreatDoorGRow
import Derived.Test.YtnaoandleelbkaaGreatDoorNJm
import Derived.Test.YtnaoandleelbkaaGreatDoorZSm
namespace Go.Proofs.YtnaoandleelbkaaGreatDoor
set_option linter.unusedSimpArgs false
set_option linter.unusedVariables false
open Go Go.RowKit
set_option maxRecDepth 100000

theorem put_one (z : Int) (t : UInt8) (v : List UInt8) (hz : z = (t.toNat : Int)) (ht : tagB t = true) (hv : v.length ≤ 65535) {w : World} :
    Calls Tryz.prog 65 #[.int .u8 z, sv v] w fun e w' => e = .returned (sv (putT t v)) ∧ Below w.heap.size w w' := by
  obtain ⟨h1, h2⟩ := putE_ok (t := t) (v := v) ht hv
  have hp := fun W => @put_any W t v (by omega)
  unfold itv at hp
  rw [h1, h2, ← hz] at hp
  have HP := Lib.hid (fun W => show Calls Tryz.prog 118 #[.agg #[.int .u8 z, sv v]] W (fun e w' => e = .returned (.tuple #[sv (putT t v), .int .i64 0]) ∧ Below W.heap.size W w') from hp W)
  clear hp h1 h2 hz ht hv
  go_enter Tryz.func65, Tryz.ntmps65
  go_wp2_with (go_at_call 118; refine (HP.out _).mono ?_; rintro e w1 ⟨rfl, hb1⟩)
  go_ret
  exact ⟨rfl, hb1⟩
theorem put48 (v : List UInt8) (hv : v.length ≤ 65535) {w : World} : Calls Tryz.prog 65 #[.int .u8 48, sv v] w fun e w' => e = .returned (sv (putT 48 v)) ∧ Below w.heap.size w w' := put_one 48 48 v rfl tag48 hv
theorem put4 (v : List UInt8) (hv : v.length ≤ 65535) {w : World} : Calls Tryz.prog 65 #[.int .u8 4, sv v] w fun e w' => e = .returned (sv (putT 4 v)) ∧ Below w.heap.size w w' := put_one 4 4 v rfl tag4 hv
theorem put130 (v : List UInt8) (hv : v.length ≤ 65535) {w : World} : Calls Tryz.prog 65 #[.int .u8 130, sv v] w fun e w' => e = .returned (sv (putT 130 v)) ∧ Below w.heap.size w w' := put_one 130 130 v rfl tag130 hv

theorem isKey_any {w : World} (s : List UInt8) (hs : s.length ≤ 9223372036854775807) : Calls Tryz.prog 64 #[sv s] w fun e w' => e = .returned (.bool (keyB s)) ∧ w = w' := by
  have hz := str_size s
  cases s with
  | nil =>
    go_enter Tryz.func64, Tryz.ntmps64
    go_wp2_with fail
    go_ret
    exact ⟨rfl, rfl⟩
  | cons b l =>
    have HK := Lib.hid (show keyB (b :: l) = decide ((((b :: l).length : Nat) : Int) ≤ 64) by
      unfold keyB
      rw [decide_eq_decide]
      simp only [List.length_cons]
      omega)
    have hne : (b :: l).isEmpty = false := rfl
    obtain ⟨t, ht⟩ : ∃ t, t = b :: l := ⟨_, rfl⟩
    rw [← ht] at HK hne hz hs ⊢
    have hne2 : ¬ t = [] := by rw [ht]; simp
    clear ht
    go_enter Tryz.func64, Tryz.ntmps64
    go_wp2_with fail
    go_ret
    rw [HK.out]
    exact ⟨rfl, rfl⟩

theorem isTime_any {w : World} (n : Int) : Calls Tryz.prog 68 #[.int .i64 n] w fun e w' => e = .returned (.bool (timeB n)) ∧ w = w' := by
  by_cases h : 0 ≤ n
  · have HK := Lib.hid (show timeB n = decide (n ≤ 1099511627776) by
      unfold timeB
      rw [decide_eq_decide]
      omega)
    go_enter Tryz.func68, Tryz.ntmps68
    go_wp2_with fail
    go_ret
    rw [HK.out]
    exact ⟨rfl, rfl⟩
  · have HK := Lib.hid (show timeB n = false by
      unfold timeB
      rw [decide_eq_false_iff_not]
      omega)
    go_enter Tryz.func68, Tryz.ntmps68
    go_wp2_with fail
    go_ret
    rw [HK.out]
    exact ⟨rfl, rfl⟩

theorem spki_any {w : World} (s : List UInt8) (hs : s.length ≤ 9223372036854775807) : Calls Tryz.prog 14 #[sv s] w fun e w' => e = .returned (sv (spkiL s)) ∧ Below w.heap.size w w' := by
  have HK := Lib.hid (fun W : World => @isKey_any W s hs)
  cases hk : keyB s with
  | false =>
    have HS := Lib.hid (show spkiL s = [] by unfold spkiL; rw [hk]; rfl)
    rw [hk] at HK
    have HB := Lib.hid (Below.refl w.heap.size w)
    clear hk
    go_enter Tryz.func14, Tryz.ntmps14
    go_wp2_with (go_at_call 64; refine (HK.out _).mono ?_; rintro e w1 ⟨rfl, rfl⟩)
    go_ret
    rw [HS.out]
    exact ⟨rfl, HB.out⟩
  | true =>
    have HS := Lib.hid (show spkiL s = putT 48 (putT 4 s) by unfold spkiL; rw [hk]; rfl)
    obtain ⟨_, h64⟩ := keyB_iff.1 hk
    have hm := putT_most 4 s
    have H4 := Lib.hid (fun W : World => @put4 s (by omega) W)
    have H48 := Lib.hid (fun W : World => @put48 (putT 4 s) (by omega) W)
    rw [hk] at HK
    have HB := Lib.hid (Below.refl w.heap.size w)
    clear hk hm
    go_enter Tryz.func14, Tryz.ntmps14
    go_wp2_with (first | (go_at_call 64; with_reducible refine (HK.out _).mono ?_; rintro e w1 ⟨rfl, rfl⟩) | (go_at_call 65; with_reducible refine (H4.out _).mono ?_; rintro e w2 ⟨rfl, hb2⟩) | (go_at_call 65; with_reducible refine (H48.out _).mono ?_; rintro e w3 ⟨rfl, hb3⟩))
    go_ret
    rw [HS.out]
    exact ⟨rfl, hb2.trans (hb3.mono hb2.size)⟩

/-- What Digest tells. -/
def digestL (s : List UInt8) : List UInt8 := if keyB s then sumP (spkiL s) else []
theorem digest_any {w : World} (s : List UInt8) (hs : s.length ≤ 9223372036854775807) (hw : LWc w) : Calls Tryz.prog 16 #[sv s] w fun e w' => e = .returned (sv (digestL s)) ∧ Below w.heap.size w w' := by
  have HK := Lib.hid (fun W : World => @isKey_any W s hs)
  have HP := Lib.hid (fun W : World => @spki_any W s hs)
  cases hk : keyB s with
  | false =>
    have HS := Lib.hid (show digestL s = [] by unfold digestL; rw [hk]; rfl)
    rw [hk] at HK
    have HB := Lib.hid (Below.refl w.heap.size w)
    clear hk hw
    go_enter Tryz.func16, Tryz.ntmps16
    go_wp2_with (go_at_call 64; refine (HK.out _).mono ?_; rintro e w1 ⟨rfl, rfl⟩)
    go_ret
    rw [HS.out]
    exact ⟨rfl, HB.out⟩
  | true =>
    obtain ⟨_, h64⟩ := keyB_iff.1 hk
    have hl : (spkiL s).length ≤ 100000 := by unfold spkiL; rw [hk]; have := form_length h64; show (formL s).length ≤ _; omega
    have HS := Lib.hid (show digestL s = sumP (spkiL s) by unfold digestL; rw [hk]; rfl)
    have HM := Lib.hid (fun W (h : LWc W) => sum_any (spkiL s) W hl h)
    rw [hk] at HK
    have HB := Lib.hid (Below.refl w.heap.size w)
    have HW := Lib.hid hw
    clear hk hw hl
    go_enter Tryz.func16, Tryz.ntmps16
    go_wp2_with (first | (go_at_call 64; with_reducible refine (HK.out _).mono ?_; rintro e w1 ⟨rfl, rfl⟩) | (go_at_call 14; with_reducible refine (HP.out _).mono ?_; rintro e w2 ⟨rfl, hb2⟩) | (go_at_call 48; with_reducible refine (HM.out _ (HW.out.below hb2)).mono ?_; rintro e w3 ⟨rfl, hb3⟩))
    go_ret
    rw [HS.out]
    exact ⟨rfl, hb2.trans (hb3.mono hb2.size)⟩

theorem all_take {p : List UInt8 → Bool} {xs : List (List UInt8)} {k : Nat} (hk : k < xs.length) : (xs.take (k + 1)).all p = ((xs.take k).all p && p (xs.getD k [])) := by
  rw [take_text hk, List.all_append]; simp
set_option maxHeartbeats 2000000 in
theorem arePatterns_any {w : World} (xs : List (List UInt8)) (A : Option Addr) (c : Nat) (hx : SX w (.slice A xs.length c) xs) (hl : ∀ n ∈ xs, n.length ≤ 1000000) (hn : xs.length ≤ 1000000) (hw : GL w) :
    Calls Tryz.prog 67 #[.slice A xs.length c] w fun e w' => e = .returned (.bool (xs.all patL)) ∧ Below w.heap.size w w' := by
  have HX := Lib.hid hx
  have HG := Lib.hid (Gb.start hw)
  have HL := Lib.hid hl
  clear hx hw hl
  go_enter Tryz.func67, Tryz.ntmps67
  go_wp2_with fail
  go_loopw [7] (fun i wr => ∃ k : Nat, k ≤ xs.length ∧ i = .int .i64 k ∧ (xs.take k).all patL = true ∧ Gb w wr) (fun i _ => xs.length - (intOf i).toNat)
  case atStart => exact ⟨0, Nat.zero_le _, rfl, rfl, HG.out⟩
  case round =>
    obtain ⟨k, hk, rfl, hall, hgb⟩ := hrel
    have HA := Lib.hid hall
    have HB := Lib.hid hgb
    clear hall hgb
    by_cases hlt : k < xs.length
    · obtain ⟨g, off, rfl, _, c0⟩ := (HX.out.step HB.out.1).at hlt
      have hlt' : (k : Int) < (xs.length : Int) := by omega
      have hal := all_take (p := patL) hlt
      rw [HA.out, Bool.true_and] at hal
      have HXL := Lib.hid (HL.out _ (mem_getD hlt))
      obtain ⟨x, hxe⟩ : ∃ x, x = xs.getD k [] := ⟨_, rfl⟩
      rw [← hxe] at c0 hal HXL
      have HXE := Lib.hid hxe
      clear hxe
      cases hp : patL x with
      | true =>
        rw [hp] at hal
        have HAL := Lib.hid hal
        have HP := Lib.hid (show Calls Tryz.prog 122 #[sv x] wr (fun e w' => e = .returned (.bool true) ∧ Below wr.heap.size wr w') by rw [← hp]; exact pattern_any x wr HXL.out HB.out.2.ml)
        clear hal hp
        go_wp2_with (go_at_call 122; refine HP.out.mono ?_; rintro e w1 ⟨rfl, hb1⟩)
        go_roundw
        case rel => exact ⟨k + 1, by omega, by go_num, HAL.out, HB.out.step hb1⟩
        case measure => simp [intOf]; omega
      | false =>
        have HALL := Lib.hid (show xs.all patL = false by
          rw [List.all_eq_false]
          exact ⟨x, by rw [HXE.out]; exact mem_getD hlt, by rw [hp]; simp⟩)
        have HP := Lib.hid (show Calls Tryz.prog 122 #[sv x] wr (fun e w' => e = .returned (.bool false) ∧ Below wr.heap.size wr w') by rw [← hp]; exact pattern_any x wr HXL.out HB.out.2.ml)
        clear hal hp
        go_wp2_with (go_at_call 122; refine HP.out.mono ?_; rintro e w1 ⟨rfl, hb1⟩)
        go_ret
        rw [HALL.out]
        exact ⟨rfl, (HB.out.step hb1).1⟩
    · obtain rfl : k = xs.length := by omega
      rw [List.take_length] at HA
      go_wp2_with fail
      go_ret
      rw [HA.out]
      exact ⟨rfl, HB.out.1⟩

theorem namesL_take {xs : List (List UInt8)} {k : Nat} (hk : k < xs.length) : namesL (xs.take (k + 1)) = namesL (xs.take k) ++ putT 130 (xs.getD k []) := by
  rw [take_text hk]
  unfold namesL
  rw [List.map_append, putsL_app]
  show _ ++ (putT 130 _ ++ []) = _
  rw [List.append_nil]; rfl
theorem names_take_le {xs : List (List UInt8)} (h : ∀ n ∈ xs, patL n = true) (hl : xs.length ≤ 64) (k : Nat) : (namesL (xs.take k)).length ≤ 16576 :=
  names_le (fun n hn => h n (List.mem_of_mem_take hn)) (by rw [List.length_take]; omega)
set_option maxHeartbeats 2000000 in
theorem putNames_any {w : World} (xs : List (List UInt8)) (A : Option Addr) (c : Nat) (hx : SX w (.slice A xs.length c) xs) (hp : ∀ n ∈ xs, patL n = true) (hn : xs.length ≤ 64) :
    Calls Tryz.prog 119 #[.slice A xs.length c] w fun e w' => e = .returned (sv (namesL xs)) ∧ Below w.heap.size w w' := by
  have HX := Lib.hid hx
  have HP := Lib.hid hp
  have HB0 := Lib.hid (Below.refl w.heap.size w)
  clear hx hp
  go_enter Tryz.func119, Tryz.ntmps119
  go_wp2_with fail
  go_loopw [3, 8] (fun s i wr => ∃ k : Nat, k ≤ xs.length ∧ i = .int .i64 k ∧ s = sv (namesL (xs.take k)) ∧ Below w.heap.size w wr) (fun _ i _ => xs.length - (intOf i).toNat)
  case atStart => exact ⟨0, Nat.zero_le _, rfl, rfl, HB0.out⟩
  case round =>
    obtain ⟨k, hk, rfl, rfl, hb⟩ := hrel
    have HB := Lib.hid hb
    clear hb
    by_cases hlt : k < xs.length
    · obtain ⟨g, off, rfl, _, c0⟩ := (HX.out.step HB.out).at hlt
      have hlt' : (k : Int) < (xs.length : Int) := by omega
      have HT := Lib.hid (namesL_take hlt)
      have hz1 := names_take_le HP.out hn k
      have hpl := pat_len (HP.out _ (mem_getD hlt))
      obtain ⟨x, hxe⟩ : ∃ x, x = xs.getD k [] := ⟨_, rfl⟩
      rw [← hxe] at c0 HT hpl
      obtain ⟨s, hse⟩ : ∃ s, s = namesL (xs.take k) := ⟨_, rfl⟩
      rw [← hse] at HT hz1 ⊢
      have hz2 := str_size s
      have hz3 := str_size (putT 130 x)
      have hz4 := putT_most 130 x
      have hcat : str s ++ str (putT 130 x) = str (s ++ putT 130 x) := str_appendE _ _
      have H1 := Lib.hid (fun W : World => @put130 x (by omega) W)
      clear hxe hse
      go_wp2_with (go_at_call 65; refine (H1.out _).mono ?_; rintro e w1 ⟨rfl, hb1⟩)
      go_roundw
      case rel => exact ⟨k + 1, by omega, by go_num, by rw [HT.out], HB.out.trans (hb1.mono HB.out.size)⟩
      case measure => simp [intOf]; omega
    · obtain rfl : k = xs.length := by omega
      rw [List.take_length]
      go_wp2_with fail
      go_ret
      exact ⟨rfl, HB.out⟩
end Go.Proofs.YtnaoandleelbkaaGreatDoor

namespace Go.Proofs.YtnaoandleelbkaaGreatDoor
set_option linter.unusedSimpArgs false
set_option linter.unusedVariables false
open Go Go.RowKit
set_option maxRecDepth 100000

/-- A certificate's box. -/
abbrev cellsC (c : Ct) (nv : Value) : Obj := .cells #[sv c.key, sv c.sig, nv, .int .i64 c.fr, .int .i64 c.un, .bool c.ca] 27
/-- Block k is a box with a certificate. -/
def CB (W : World) (k : Nat) (c : Ct) (nv : Value) : Prop := W.heap[k]? = some (.cells #[sv c.key, sv c.sig, nv, .int .i64 c.fr, .int .i64 c.un, .bool c.ca] 27 (0, 0))
theorem CB.lt {W : World} {k : Nat} {c : Ct} {nv : Value} (h : CB W k c nv) : k < W.heap.size := lt_of_blk h
theorem CB.new (W : World) (c : Ct) (nv : Value) : CB (W.alloc (cellsC c nv)) W.heap.size c nv := heap_alloc_new W _
theorem CB.below {W W' : World} {k n : Nat} {c : Ct} {nv : Value} (h : CB W k c nv) (hb : Below n W W') (hn : k < n) : CB W' k c nv := (hb.block k hn).trans h
theorem CB.step {W W' : World} {k : Nat} {c : Ct} {nv : Value} (h : CB W k c nv) (hb : Below W.heap.size W W') : CB W' k c nv := h.below hb h.lt
theorem CB.c0 {W : World} {k : Nat} {c : Ct} {nv : Value} (h : CB W k c nv) : W.cell? ⟨k, 0, none⟩ = some (sv c.key) := by rw [cellAt h]; rfl
theorem CB.c1 {W : World} {k : Nat} {c : Ct} {nv : Value} (h : CB W k c nv) : W.cell? ⟨k, 1, none⟩ = some (sv c.sig) := by rw [cellAt h]; rfl
theorem CB.c2 {W : World} {k : Nat} {c : Ct} {nv : Value} (h : CB W k c nv) : W.cell? ⟨k, 2, none⟩ = some nv := by rw [cellAt h]; rfl
theorem CB.c3 {W : World} {k : Nat} {c : Ct} {nv : Value} (h : CB W k c nv) : W.cell? ⟨k, 3, none⟩ = some (.int .i64 c.fr) := by rw [cellAt h]; rfl
theorem CB.c4 {W : World} {k : Nat} {c : Ct} {nv : Value} (h : CB W k c nv) : W.cell? ⟨k, 4, none⟩ = some (.int .i64 c.un) := by rw [cellAt h]; rfl
theorem CB.c5 {W : World} {k : Nat} {c : Ct} {nv : Value} (h : CB W k c nv) : W.cell? ⟨k, 5, none⟩ = some (.bool c.ca) := by rw [cellAt h]; rfl
theorem CB.free {W : World} {k : Nat} {c : Ct} {nv : Value} (h : CB W k c nv) (j : Nat) : W.frozen? ⟨k, j, none⟩ = false := freeAt h j

set_option maxHeartbeats 4000000 in
theorem mayC_any {w : World} (c : Ct) (A : Option Addr) (cp : Nat) (hx : SX w (.slice A c.names.length cp) c.names) (hs : shortC c) (hw : GL w) :
    Calls Tryz.prog 19 #[certV c (.slice A c.names.length cp)] w fun e w' => e = .returned (.bool (mayC c)) ∧ Below w.heap.size w w' := by
  obtain ⟨key, sig, names, fr, un, ca⟩ := c
  obtain ⟨s1, s2, s3, s4⟩ := hs
  simp only at s1 s2 s3 s4 hx
  have HG := Lib.hid ((Gb.start hw).alloc (.cells #[sv key, sv sig, .slice A names.length cp, .int .i64 fr, .int .i64 un, .bool ca] 27))
  have HC := Lib.hid (CB.new w ⟨key, sig, names, fr, un, ca⟩ (.slice A names.length cp))
  have HX := Lib.hid hx
  have hN := fun W (h : Gb w W) => arePatterns_any names A cp (HX.out.step h.1) s4 s3 h.2
  have hK := fun W : World => @isKey_any W key (by omega)
  have hF := fun W : World => @isTime_any W fr
  have hU := fun W : World => @isTime_any W un
  have hz := str_size sig
  have hm : mayC ⟨key, sig, names, fr, un, ca⟩ = ((((keyB key && (sig.length == 32)) && names.all patL) && timeB fr) && timeB un) := rfl
  obtain ⟨b1, h1⟩ : ∃ b, b = keyB key := ⟨_, rfl⟩
  obtain ⟨b2, h2⟩ : ∃ b, b = names.all patL := ⟨_, rfl⟩
  obtain ⟨b3, h3⟩ : ∃ b, b = timeB fr := ⟨_, rfl⟩
  obtain ⟨b4, h4⟩ : ∃ b, b = timeB un := ⟨_, rfl⟩
  rw [← h1] at hK hm
  rw [← h2] at hN hm
  rw [← h3] at hF hm
  rw [← h4] at hU hm
  have HN := Lib.hid hN
  have HK := Lib.hid hK
  have HF := Lib.hid hF
  have HU := Lib.hid hU
  have HM := Lib.hid hm
  show Calls Tryz.prog 19 #[.agg #[sv key, sv sig, .slice A names.length cp, .int .i64 fr, .int .i64 un, .bool ca]] w _
  clear hx hw hN hK hF hU hm h1 h2 h3 h4
  by_cases h32 : sig.length = 32
  all_goals have h32' : ((sig.length : Int) == 32) = (sig.length == 32) := by rw [Bool.eq_iff_iff, beq_iff_eq, beq_iff_eq]; omega
  · rw [show (sig.length == 32) = true from by simp [h32]] at HM
    cases b1
    all_goals (cases b2)
    all_goals (cases b3)
    all_goals
      go_enter Tryz.func19, Tryz.ntmps19
      go_wp2_with (first | (go_at_call 64; with_reducible refine (HK.out _).mono ?_; rintro e w1 ⟨rfl, rfl⟩) | (go_at_call 67; with_reducible refine (HN.out _ HG.out).mono ?_; rintro e w2 ⟨rfl, hb2⟩; have HB2 := Lib.hid (HG.out.step hb2); have q3 := (HC.out.step hb2).c3; have q4 := (HC.out.step hb2).c4; simp only at q3 q4; clear hb2) | (go_at_call 68; with_reducible refine (HF.out _).mono ?_; rintro e w1 ⟨rfl, rfl⟩) | (go_at_call 68; with_reducible refine (HU.out _).mono ?_; rintro e w1 ⟨rfl, rfl⟩))
      go_ret
      rw [HM.out]
      exact ⟨rfl, by first | exact HB2.out.1 | exact HG.out.1⟩
  · rw [show (sig.length == 32) = false from by simp [h32]] at HM
    have hni : ¬ (sig.length : Int) = 32 := by omega
    cases b1
    all_goals
      go_enter Tryz.func19, Tryz.ntmps19
      go_wp2_with (first | (go_at_call 64; with_reducible refine (HK.out _).mono ?_; rintro e w1 ⟨rfl, rfl⟩))
      go_ret
      rw [HM.out]
      exact ⟨rfl, HG.out.1⟩
end Go.Proofs.YtnaoandleelbkaaGreatDoor
