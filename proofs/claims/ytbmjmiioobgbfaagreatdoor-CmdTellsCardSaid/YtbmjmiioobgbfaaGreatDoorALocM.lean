/-
  The contracts of package addr's isLetterOrDigit, isGraphicOrBlank, each, isAtoms, isQuoted, isLocal.
  The contracts of package addr's isAtoms, isQuoted, isLocal.
  The contracts of package addr's isQuoted, isLocal; what the library's cuts are at one byte.
-/
import Derived.Shelf.Abstract
import Derived.Outline
import Derived.Test.YtbmjmiioobgbfaaGreatDoorAPureM
import Derived.Test.YtbmjmiioobgbfaaGreatDoorNFold
import Derived.Test.YtbmjmiioobgbfaaGreatDoorNW
import Derived.Laws.EntriesVeiled
import Derived.Laws.Rows
namespace Go.Proofs.YtbmjmiioobgbfaaGreatDoor
set_option linter.unusedSimpArgs false
set_option linter.unusedVariables false
open Go Go.RowKit Go.Shelf
set_option maxRecDepth 100000

theorem alnC_nat {b : UInt8} {c : Nat} (hc : b.toNat = c) : alnC b = decide ((97 ≤ c ∧ c ≤ 122) ∨ (65 ≤ c ∧ c ≤ 90) ∨ (48 ≤ c ∧ c ≤ 57)) := by
  unfold alnC
  rw [← hc, Bool.eq_iff_iff]
  simp only [Bool.or_eq_true, Bool.and_eq_true, decide_eq_true_eq, UInt8.le_iff_toNat_le]
  exact or_assoc
theorem grC_nat {b : UInt8} {c : Nat} (hc : b.toNat = c) : grC b = decide (32 ≤ c ∧ c ≤ 126) := by
  unfold grC
  rw [← hc, Bool.eq_iff_iff]
  simp only [Bool.and_eq_true, decide_eq_true_eq, UInt8.le_iff_toNat_le]
  exact Iff.rfl

theorem aln_any (b : UInt8) (w : World) : Calls Tryz.prog 83 #[.int .u8 (b.toNat : Int)] w fun e w' => e = .returned (.bool (alnC b)) ∧ w = w' := by
  obtain ⟨c, hc⟩ : ∃ c, b.toNat = c := ⟨_, rfl⟩
  obtain ⟨r, hr⟩ : ∃ r, r = alnC b := ⟨_, rfl⟩
  rw [← hr]
  rw [alnC_nat hc] at hr
  rw [hc]
  clear hc
  by_cases hP : (97 ≤ c ∧ c ≤ 122) ∨ (65 ≤ c ∧ c ≤ 90) ∨ (48 ≤ c ∧ c ≤ 57)
  · obtain rfl : r = true := by rw [hr, decide_eq_true hP]
    clear hr
    rcases hP with ⟨h, h'⟩ | ⟨h, h'⟩ | ⟨h, h'⟩
    all_goals
      go_enter Tryz.func83, Tryz.ntmps83
      go_wp2
      go_ret
      exact ⟨by first | (simp; done) | (simp; omega), rfl⟩
  · obtain rfl : r = false := by rw [hr, decide_eq_false hP]
    clear hr
    rcases (show c < 48 ∨ (57 < c ∧ c < 65) ∨ (90 < c ∧ c < 97) ∨ 122 < c by omega) with h | ⟨h, h'⟩ | ⟨h, h'⟩ | h
    all_goals clear hP
    all_goals
      go_enter Tryz.func83, Tryz.ntmps83
      go_wp2
      go_ret
      exact ⟨by first | (simp; done) | (simp; omega), rfl⟩

theorem gr_any (b : UInt8) (w : World) : Calls Tryz.prog 85 #[.int .u8 (b.toNat : Int)] w fun e w' => e = .returned (.bool (grC b)) ∧ w = w' := by
  obtain ⟨c, hc⟩ : ∃ c, b.toNat = c := ⟨_, rfl⟩
  obtain ⟨r, hr⟩ : ∃ r, r = grC b := ⟨_, rfl⟩
  rw [← hr]
  rw [grC_nat hc] at hr
  rw [hc]
  clear hc
  by_cases hP : 32 ≤ c ∧ c ≤ 126
  · obtain rfl : r = true := by rw [hr, decide_eq_true hP]
    clear hr
    rcases hP with ⟨h, h'⟩
    all_goals
      go_enter Tryz.func85, Tryz.ntmps85
      go_wp2
      go_ret
      exact ⟨by first | (simp; done) | (simp; omega), rfl⟩
  · obtain rfl : r = false := by rw [hr, decide_eq_false hP]
    clear hr
    rcases (show c < 32 ∨ 126 < c by omega) with h | h
    all_goals clear hP
    all_goals
      go_enter Tryz.func85, Tryz.ntmps85
      go_wp2
      go_ret
      exact ⟨by first | (simp; done) | (simp; omega), rfl⟩

set_option maxHeartbeats 1000000 in
/-- 'each': whatever the closure is. -/
theorem each_any {σ : Type} {ok : σ → UInt8 → Bool} {nx : σ → UInt8 → σ} {N : Nat} {caps : Array Value} (he : ∀ args w, (callFunc N args).run Tryz.prog w = .ok (.enter N args) w) (Inv : σ → World → Prop)
    (hstep : ∀ st (b : UInt8) W, Inv st W → Calls Tryz.prog N (#[.int .u8 (b.toNat : Int)] ++ caps) W fun e w' => e = .returned (.bool (ok st b)) ∧ Inv (nx st b) w')
    (s : List UInt8) (hs : s.length ≤ 1000000) (st0 : σ) (w : World) (h0 : Inv st0 w) :
    Calls Tryz.prog 81 #[sv s, .func (.func N) #[] caps] w fun e w' => e = .returned (.bool (runF ok nx st0 s).1) ∧ Inv (runF ok nx st0 s).2 w' := by
  obtain ⟨R, hR⟩ : ∃ R, R = runF ok nx st0 s := ⟨_, rfl⟩
  rw [← hR]
  have HS := Lib.hid hstep
  have H0 := Lib.hid h0
  have HR := Lib.hid hR
  clear hstep h0 hR
  go_enter Tryz.func81, Tryz.ntmps81
  go_wp2_with fail
  go_loopw [5, 8] (fun _ i wr => ∃ k : Nat, ∃ st : σ, k ≤ s.length ∧ i = .int .i64 k ∧ runF ok nx st (s.drop k) = R ∧ Inv st wr) (fun _ i _ => s.length - (intOf i).toNat)
  case atStart => exact ⟨0, st0, Nat.zero_le _, rfl, HR.out.symm, H0.out⟩
  case round =>
    obtain ⟨k, st, hk, rfl, hrun, hinv⟩ := hrel
    have HRU := Lib.hid hrun
    clear hrun
    by_cases hlt : k < s.length
    · obtain ⟨b, hb⟩ : ∃ b, s.getD k 0 = b := ⟨_, rfl⟩
      have hcs : (((str s)[k]'(by simpa [ByteArray.size] using hlt)).toNat) = b.toNat := by rw [str_getD s k hlt, hb]
      have HST := Lib.hid (HS.out st b wr hinv)
      have hd : s.drop k = b :: s.drop (k + 1) := by rw [List.drop_eq_getElem_cons hlt, ← getD_str s k hlt, hb]
      have HD := Lib.hid hd
      clear hb hd hinv
      cases ho : ok st b with
      | true =>
        have HN := Lib.hid (show runF ok nx (nx st b) (s.drop (k + 1)) = R by rw [← HRU.out, HD.out, runF_true ho])
        have HO := Lib.hid ho
        clear ho
        go_wp2_with (go_at_fn N; refine (HST.out).mono ?_; rintro e w1 ⟨rfl, hi⟩; rw [HO.out]; have HI := Lib.hid hi; clear hi)
        go_roundw
        case rel => exact ⟨k + 1, nx st b, by omega, by go_num, HN.out, HI.out⟩
        case measure => simp [intOf]; omega
      | false =>
        have HN := Lib.hid (show R = (false, nx st b) by rw [← HRU.out, HD.out, runF_false ho])
        have HO := Lib.hid ho
        clear ho
        go_wp2_with (go_at_fn N; refine (HST.out).mono ?_; rintro e w1 ⟨rfl, hi⟩; rw [HO.out]; have HI := Lib.hid hi; clear hi)
        go_ret
        rw [HN.out]
        exact ⟨rfl, HI.out⟩
    · obtain rfl : k = s.length := by omega
      have HN := Lib.hid (show R = (true, st) by rw [← HRU.out, List.drop_length]; rfl)
      have HI := Lib.hid hinv
      clear hinv
      go_wp2
      go_ret
      rw [HN.out]
      exact ⟨rfl, HI.out⟩
end Go.Proofs.YtbmjmiioobgbfaaGreatDoor

namespace Go.Proofs.YtbmjmiioobgbfaaGreatDoor
set_option linter.unusedSimpArgs false
set_option linter.unusedVariables false
open Go Go.RowKit Go.Shelf
set_option maxRecDepth 100000

theorem indexByte_has : ∀ (l : List UInt8) (c : UInt8), decide (0 ≤ Lib.indexByte l c) = l.contains c
  | [], c => by simp [Lib.indexByte]
  | b :: l, c => by
    have ih := indexByte_has l c
    unfold Lib.indexByte
    by_cases h : b = c
    · subst h; simp
    · have h1 : (b == c) = false := by simpa using h
      have h2 : (c == b) = false := by simpa using fun e => h e.symm
      rw [h1, List.contains_cons, h2, Bool.false_or, ← ih]
      by_cases h3 : Lib.indexByte l c = -1
      · simp [h3]
      · have h4 : (Lib.indexByte l c == -1) = false := by simpa using h3
        rw [h4]
        simp only [Bool.false_eq_true, if_false]
        have h5 : -1 ≤ Lib.indexByte l c := Lib.indexByte_ge l c
        rw [decide_eq_decide]
        omega

def signsB : ByteArray := { data := #[33, 35, 36, 37, 38, 39, 42, 43, 45, 47, 61, 63, 94, 95, 96, 123, 124, 125, 126] }
theorem sign_call (b : UInt8) (w : World) : Calls Tryz.prog 147 #[.string { data := #[33, 35, 36, 37, 38, 39, 42, 43, 45, 47, 61, 63, 94, 95, 96, 123, 124, 125, 126] }, .int .u8 (b.toNat : Int)] w fun e w' => e = .returned (.int .i64 (Lib.indexByte signsL b)) ∧ w = w' := by
  have := Tryz.strings_IndexByte { data := #[33, 35, 36, 37, 38, 39, 42, 43, 45, 47, 61, 63, 94, 95, 96, 123, 124, 125, 126] } (b.toNat : Int) w
  have e1 : (b.toNat : Int).toNat.toUInt8 = b := by simp
  rw [e1] at this
  exact this.mono fun _ _ ⟨h1, h2⟩ => ⟨h1, h2.symm⟩

theorem bx_set {w : World} {k : Nat} {v : Value} {T : TypeId} (h : Bx w k v T) (x : Value) : Bx (w.setCell ⟨k, 0, none⟩ x) k x T ∧ Below k w (w.setCell ⟨k, 0, none⟩ x) :=
  ⟨h.set x, (Below.refl _ w).setCell (p := ⟨k, 0, none⟩) (Nat.le_refl _) x⟩

set_option maxHeartbeats 1000000 in
theorem atoms1_any (k : Nat) (st : Bool) (b : UInt8) (w : World) (h : Bx w k (.bool st) 4) :
    Calls Tryz.prog 146 #[.int .u8 (b.toNat : Int), .pointer (some ⟨k, 0, none⟩)] w fun e w' => e = .returned (.bool (okA st b)) ∧ Bx w' k (.bool (nxA st b)) 4 ∧ Below k w w' := by
  have c0 := h.cell
  have f0 := h.free
  have HX := Lib.hid (fun x => bx_set h x)
  obtain ⟨r, hr⟩ : ∃ r, r = okA st b := ⟨_, rfl⟩
  obtain ⟨x, hx⟩ : ∃ x, x = nxA st b := ⟨_, rfl⟩
  rw [← hr, ← hx]
  unfold okA at hr
  unfold nxA at hx
  obtain ⟨n, hn⟩ : ∃ n, n = Lib.indexByte signsL b := ⟨_, rfl⟩
  have hs := indexByte_has signsL b
  rw [← hn] at hs
  clear h
  have k1 := Bx.cell (HX.out (.bool x)).1
  have k2 := Bx.free (HX.out (.bool x)).1
  have hsg : signC b = (alnC b || decide (0 ≤ n)) := by rw [hs]; rfl
  rw [hsg] at hx hr
  clear hs hsg
  obtain ⟨d, hd⟩ : ∃ d, d = (b == 46) := ⟨_, rfl⟩
  rw [← hd] at hr
  have hdn : ((b.toNat : Int) == 46) = d := by
    rw [hd, Bool.eq_iff_iff, beq_iff_eq, beq_iff_eq, ← UInt8.toNat_inj]
    have : (46 : UInt8).toNat = 46 := rfl
    omega
  clear hd
  cases ha : alnC b with
  | true =>
    rw [ha] at hx hr
    obtain rfl : x = true := by rw [hx]; rfl
    obtain rfl : r = true := by rw [hr]; rfl
    have HA := Lib.hid ha
    clear ha hx hr hn
    go_enter Tryz.func146, Tryz.ntmps146
    go_wp2_with (go_at_call 83; refine (aln_any _ _).mono ?_; rintro e w' ⟨rfl, rfl⟩; rw [HA.out])
    go_ret
    exact ⟨rfl, (HX.out _).1, (HX.out _).2⟩
  | false =>
    rw [ha] at hx hr
    have HA := Lib.hid ha
    have HN := Lib.hid hn
    clear ha hn
    by_cases hn0 : 0 ≤ n
    · obtain rfl : x = true := by rw [hx, decide_eq_true hn0]; rfl
      obtain rfl : r = true := by rw [hr, decide_eq_true hn0]; rfl
      clear hx hr
      go_enter Tryz.func146, Tryz.ntmps146
      go_wp2_with (first | (go_at_call 83; refine (aln_any _ _).mono ?_; rintro e w' ⟨rfl, rfl⟩; rw [HA.out]) | (go_at_call 147; refine (sign_call _ _).mono ?_; rintro e w' ⟨rfl, rfl⟩; rw [← HN.out]))
      go_ret
      exact ⟨rfl, (HX.out _).1, (HX.out _).2⟩
    · obtain rfl : x = false := by rw [hx, decide_eq_false hn0]; rfl
      obtain rfl : r = (st && d) := by rw [hr, decide_eq_false hn0]; rfl
      have hnd : decide (0 ≤ n) = false := decide_eq_false hn0
      clear hx hr
      cases st with
      | false =>
        go_enter Tryz.func146, Tryz.ntmps146
        go_wp2_with (first | (go_at_call 83; refine (aln_any _ _).mono ?_; rintro e w' ⟨rfl, rfl⟩; rw [HA.out]) | (go_at_call 147; refine (sign_call _ _).mono ?_; rintro e w' ⟨rfl, rfl⟩; rw [← HN.out]))
        go_ret
        exact ⟨rfl, (HX.out _).1, (HX.out _).2⟩
      | true =>
        go_enter Tryz.func146, Tryz.ntmps146
        go_wp2_with (first | (go_at_call 83; refine (aln_any _ _).mono ?_; rintro e w' ⟨rfl, rfl⟩; rw [HA.out]) | (go_at_call 147; refine (sign_call _ _).mono ?_; rintro e w' ⟨rfl, rfl⟩; rw [← HN.out]))
        go_ret
        exact ⟨rfl, (HX.out _).1, (HX.out _).2⟩

theorem eq_nat {b : UInt8} (m : Nat) (hm : m < 256) : ((b.toNat : Int) == (m : Int)) = (b == UInt8.ofNat m) := by
  rw [Bool.eq_iff_iff, beq_iff_eq, beq_iff_eq, ← UInt8.toNat_inj, UInt8.toNat_ofNat', Nat.mod_eq_of_lt hm]
  omega

set_option maxHeartbeats 1000000 in
theorem quot1_any (k : Nat) (st : Bool) (b : UInt8) (w : World) (h : Bx w k (.bool st) 4) :
    Calls Tryz.prog 148 #[.int .u8 (b.toNat : Int), .pointer (some ⟨k, 0, none⟩)] w fun e w' => e = .returned (.bool (okQ st b)) ∧ Bx w' k (.bool (nxQ st b)) 4 ∧ Below k w w' := by
  have c0 := h.cell
  have f0 := h.free
  have HX := Lib.hid (fun x => bx_set h x)
  obtain ⟨r, hr⟩ : ∃ r, r = okQ st b := ⟨_, rfl⟩
  obtain ⟨x, hx⟩ : ∃ x, x = nxQ st b := ⟨_, rfl⟩
  rw [← hr, ← hx]
  unfold okQ at hr
  unfold nxQ at hx
  obtain ⟨g, hg⟩ : ∃ g, g = grC b := ⟨_, rfl⟩
  obtain ⟨q, hq⟩ : ∃ q, q = (b != 34) := ⟨_, rfl⟩
  obtain ⟨s, hs⟩ : ∃ s, s = (b == 92) := ⟨_, rfl⟩
  rw [← hg, ← hq] at hr
  rw [← hs] at hx
  have hqn : ((b.toNat : Int) != 34) = q := by rw [hq, bne, bne]; congr 1; exact eq_nat 34 (by omega)
  have hsn : ((b.toNat : Int) == 92) = s := by rw [hs]; exact eq_nat 92 (by omega)
  have HG := Lib.hid hg
  clear h hq hs hg
  subst hr hx
  cases st <;> cases s <;> cases g
  all_goals
    go_enter Tryz.func148, Tryz.ntmps148
    go_wp2_with (go_at_call 85; refine (gr_any _ _).mono ?_; rintro e w' ⟨rfl, rfl⟩; rw [← HG.out])
    go_ret
    exact ⟨rfl, (HX.out _).1, (HX.out _).2⟩

/-- What a state in a box is, behind w0. -/
def BoxB (w0 : World) (k : Nat) (st : Bool) (w : World) : Prop := Bx w k (.bool st) 4 ∧ Below k w0 w

set_option maxHeartbeats 1000000 in
theorem isAtoms_any (s : List UInt8) (w : World) (hs : s.length ≤ 1000000) : Calls Tryz.prog 109 #[sv s] w fun e w' => e = .returned (.bool (atomsL s)) ∧ Below w.heap.size w w' := by
  have HR := Lib.hid (show atomsL s = ((runF okA nxA false s).1 && (runF okA nxA false s).2) from atomsF_run false s)
  obtain ⟨r1, h1⟩ : ∃ r, r = (runF okA nxA false s).1 := ⟨_, rfl⟩
  obtain ⟨r2, h2⟩ : ∃ r, r = (runF okA nxA false s).2 := ⟨_, rfl⟩
  rw [← h1, ← h2] at HR
  have H1 := Lib.hid h1
  have H2 := Lib.hid h2
  clear h1 h2
  have HB := Lib.hid ((Below.refl w.heap.size w).alloc (Nat.le_refl _) (.cells #[.bool false] 4))
  have HE := Lib.hid (fun (w1 : World) (k : Nat) (h0 : Bx w1 k (.bool false) 4) => each_any (ok := okA) (nx := nxA) (N := 146) (caps := #[.pointer (some ⟨k, 0, none⟩)]) (enters_of Tryz.func146 (by kernel_rfl) rfl) (BoxB w1 k)
    (fun st b W hI => (atoms1_any k st b W hI.1).mono fun _ _ ⟨e1, e2, e3⟩ => ⟨e1, e2, hI.2.trans e3⟩) s hs false w1 ⟨h0, Below.refl _ _⟩)
  cases r1 with
  | false =>
    go_enter Tryz.func109, Tryz.ntmps109
    go_wp2_with fail
    refine (HE.out _ _ (Bx.new _ _ _)).mono ?_
    rintro e w2 ⟨rfl, hb⟩
    rw [← H1.out]
    rw [← H2.out] at hb
    have HB2 := Lib.hid hb.2
    clear hb
    go_wp2_with fail
    go_ret
    rw [HR.out]
    exact ⟨rfl, HB.out.trans HB2.out⟩
  | true =>
    go_enter Tryz.func109, Tryz.ntmps109
    go_wp2_with fail
    refine (HE.out _ _ (Bx.new _ _ _)).mono ?_
    rintro e w2 ⟨rfl, hb⟩
    rw [← H1.out]
    rw [← H2.out] at hb
    have c0 := hb.1.cell
    have HB2 := Lib.hid hb.2
    clear hb
    go_wp2_with fail
    go_ret
    rw [HR.out]
    exact ⟨rfl, HB.out.trans HB2.out⟩
end Go.Proofs.YtbmjmiioobgbfaaGreatDoor

namespace Go.Proofs.YtbmjmiioobgbfaaGreatDoor
set_option linter.unusedSimpArgs false
set_option linter.unusedVariables false
open Go Go.RowKit Go.Shelf
set_option maxRecDepth 100000

theorem has_suf (l : List UInt8) (c : UInt8) : Lib.hasSuffix l [c] = (l.getLast? == some c) := by
  unfold Lib.hasSuffix
  rw [Bool.eq_iff_iff, List.isSuffixOf_iff_suffix, beq_iff_eq]
  constructor
  · rintro ⟨t, rfl⟩; simp
  · intro h
    obtain ⟨t, rfl⟩ := List.getLast?_eq_some_iff.1 h
    exact ⟨t, rfl⟩
theorem trim_suf (l : List UInt8) (c : UInt8) : Lib.trimSuffix l [c] = if l.getLast? = some c then l.dropLast else l := by
  unfold Lib.trimSuffix
  rw [has_suf]
  by_cases h : l.getLast? = some c
  · rw [if_pos h, if_pos (by simpa using h)]
    simp [List.dropLast_eq_take]
  · rw [if_neg h, if_neg (by simpa using h)]
theorem has_pre (l : List UInt8) (c : UInt8) : Lib.hasPrefix l [c] = (l.head? == some c) := by
  unfold Lib.hasPrefix
  cases l with
  | nil => simp [List.isPrefixOf]
  | cons x t =>
    rw [Bool.eq_iff_iff]
    simp [List.isPrefixOf]
    exact eq_comm
theorem trim_pre (l : List UInt8) (c : UInt8) : Lib.trimPrefix l [c] = if l.head? = some c then l.tail else l := by
  unfold Lib.trimPrefix
  rw [has_pre]
  by_cases h : l.head? = some c
  · rw [if_pos h, if_pos (by simpa using h)]
    simp
  · rw [if_neg h, if_neg (by simpa using h)]

/-- What is cut off at the front, and was there one? -/
def preV (l : List UInt8) (c : UInt8) : Value := .tuple #[sv (if l.head? = some c then l.tail else l), .bool (l.head? == some c)]
def sufV (l : List UInt8) (c : UInt8) : Value := .tuple #[sv (if l.getLast? = some c then l.dropLast else l), .bool (l.getLast? == some c)]
theorem cutpre_any (l : List UInt8) (c : UInt8) (w : World) : Calls Tryz.prog 74 #[sv l, .string ⟨#[c]⟩] w fun e w' => e = .returned (preV l c) ∧ w = w' := by
  have := Tryz.strings_CutPrefix (str l) ⟨#[c]⟩ w
  have e1 : (str l).data.toList = l := by simp
  have e2 : (⟨#[c]⟩ : ByteArray).data.toList = [c] := rfl
  rw [e1, e2, trim_pre, has_pre] at this
  exact this.mono fun _ _ ⟨h1, h2⟩ => ⟨h1, h2.symm⟩
theorem cutsuf_any (l : List UInt8) (c : UInt8) (w : World) (hl : l.length ≤ 140737488351232) : Calls Tryz.prog 75 #[sv l, .string ⟨#[c]⟩] w fun e w' => e = .returned (sufV l c) ∧ w = w' := by
  have := Tryz.strings_CutSuffix (str l) ⟨#[c]⟩ w (by simp [ByteArray.size]; omega)
  have e1 : (str l).data.toList = l := by simp
  have e2 : (⟨#[c]⟩ : ByteArray).data.toList = [c] := rfl
  rw [e1, e2, trim_suf, has_suf] at this
  exact this.mono fun _ _ ⟨h1, h2⟩ => ⟨h1, h2.symm⟩

/-- The three ways of a text about which two marks are to stand. -/
theorem marks (s : List UInt8) (c d : UInt8) :
    (s.head? ≠ some c ∧ preV s c = .tuple #[sv s, .bool false]) ∨
    (∃ t, s = c :: t ∧ preV s c = .tuple #[sv t, .bool true] ∧ t.getLast? ≠ some d ∧ sufV t d = .tuple #[sv t, .bool false]) ∨
    (∃ t, s = c :: (t ++ [d]) ∧ preV s c = .tuple #[sv (t ++ [d]), .bool true] ∧ sufV (t ++ [d]) d = .tuple #[sv t, .bool true]) := by
  by_cases h : s.head? = some c
  · cases s with
    | nil => simp at h
    | cons x t =>
      simp only [List.head?_cons, Option.some.injEq] at h
      subst h
      by_cases h2 : t.getLast? = some d
      · obtain ⟨u, rfl⟩ := List.getLast?_eq_some_iff.1 h2
        refine .inr (.inr ⟨u, rfl, ?_, ?_⟩)
        · unfold preV; simp
        · unfold sufV; simp
      · refine .inr (.inl ⟨t, rfl, ?_, h2, ?_⟩)
        · unfold preV; simp
        · unfold sufV; rw [if_neg h2]; simp [h2]
  · refine .inl ⟨h, ?_⟩
    unfold preV; rw [if_neg h]; simp [h]

theorem quoted_no1 {s : List UInt8} (h : s.head? ≠ some 34) : quotedL s = false := by
  unfold quotedL
  have : (s.head? == some 34) = false := by simpa using h
  rw [this]; rfl
theorem quoted_no2 {t : List UInt8} (h : t.getLast? ≠ some 34) : quotedL (34 :: t) = false := by
  cases t with
  | nil => rfl
  | cons x u =>
    unfold quotedL
    have : ((34 :: x :: u).getLast? == some 34) = false := by
      rw [List.getLast?_cons_cons]; simpa using h
    rw [this]; simp
theorem quoted_in (t : List UInt8) : quotedL (34 :: (t ++ [34])) = quotF false t := by
  unfold quotedL
  simp [List.getLast?_cons]

set_option maxHeartbeats 2000000 in
theorem isQuoted_any (s : List UInt8) (w : World) (hs : s.length ≤ 1000000) : Calls Tryz.prog 110 #[sv s] w fun e w' => e = .returned (.bool (quotedL s)) ∧ Below w.heap.size w w' := by
  rcases marks s 34 34 with ⟨h, hp⟩ | ⟨t, rfl, hp, h, hq⟩ | ⟨t, rfl, hp, hq⟩
  · have HF := Lib.hid (quoted_no1 h)
    have HP := Lib.hid hp
    have HB := Lib.hid ((Below.refl w.heap.size w).alloc (Nat.le_refl _) (.cells #[.bool false] 4))
    clear h hp
    obtain ⟨u, hu⟩ : ∃ u, u = sufV s 34 := ⟨_, rfl⟩
    have HU := Lib.hid hu
    clear hu
    have hsh : ∃ x b, u = .tuple #[sv x, .bool b] := ⟨_, _, HU.out⟩
    obtain ⟨x, b, rfl⟩ := hsh
    go_enter Tryz.func110, Tryz.ntmps110
    go_wp2_with fail
    refine (cutpre_any s 34 _).mono ?_
    rintro e w1 ⟨rfl, rfl⟩
    rw [HP.out]
    go_wp2_with fail
    refine (cutsuf_any s 34 _ (by omega)).mono ?_
    rintro e w1 ⟨rfl, rfl⟩
    rw [← HU.out]
    go_wp2_with fail
    go_ret
    rw [HF.out]
    exact ⟨rfl, HB.out⟩
  · have HF := Lib.hid (quoted_no2 h)
    have HP := Lib.hid hp
    have HQ := Lib.hid hq
    have HB := Lib.hid ((Below.refl w.heap.size w).alloc (Nat.le_refl _) (.cells #[.bool false] 4))
    have ht : t.length ≤ 1000000 := by simp at hs; omega
    obtain ⟨s, hs'⟩ : ∃ s, s = 34 :: t := ⟨_, rfl⟩
    rw [← hs'] at HF HP ⊢
    clear h hp hq hs hs'
    go_enter Tryz.func110, Tryz.ntmps110
    go_wp2_with fail
    refine (cutpre_any s 34 _).mono ?_
    rintro e w1 ⟨rfl, rfl⟩
    rw [HP.out]
    go_wp2_with fail
    refine (cutsuf_any t 34 _ (by omega)).mono ?_
    rintro e w1 ⟨rfl, rfl⟩
    rw [HQ.out]
    go_wp2_with fail
    go_ret
    rw [HF.out]
    exact ⟨rfl, HB.out⟩
  · have HR := Lib.hid ((quoted_in t).trans (quotF_run false t))
    have HP := Lib.hid hp
    have HQ := Lib.hid hq
    have HB := Lib.hid ((Below.refl w.heap.size w).alloc (Nat.le_refl _) (.cells #[.bool false] 4))
    have ht : t.length ≤ 1000000 := by simp at hs; omega
    have htl : (t ++ [34]).length ≤ 1000000 := by simp at hs ⊢; omega
    obtain ⟨s, hs'⟩ : ∃ s, s = 34 :: (t ++ [34]) := ⟨_, rfl⟩
    obtain ⟨v, hv'⟩ : ∃ v, v = t ++ [34] := ⟨_, rfl⟩
    rw [← hs'] at HR HP ⊢
    rw [← hv'] at HP HQ htl
    clear hp hq hs hs' hv'
    obtain ⟨r1, h1⟩ : ∃ r, r = (runF okQ nxQ false t).1 := ⟨_, rfl⟩
    obtain ⟨r2, h2⟩ : ∃ r, r = (runF okQ nxQ false t).2 := ⟨_, rfl⟩
    rw [← h1, ← h2] at HR
    have H1 := Lib.hid h1
    have H2 := Lib.hid h2
    clear h1 h2
    have HE := Lib.hid (fun (w1 : World) (k : Nat) (h0 : Bx w1 k (.bool false) 4) => each_any (ok := okQ) (nx := nxQ) (N := 148) (caps := #[.pointer (some ⟨k, 0, none⟩)]) (enters_of Tryz.func148 (by kernel_rfl) rfl) (BoxB w1 k)
      (fun st b W hI => (quot1_any k st b W hI.1).mono fun _ _ ⟨e1, e2, e3⟩ => ⟨e1, e2, hI.2.trans e3⟩) t ht false w1 ⟨h0, Below.refl _ _⟩)
    cases r1 with
    | false =>
      go_enter Tryz.func110, Tryz.ntmps110
      go_wp2_with fail
      refine (cutpre_any s 34 _).mono ?_
      rintro e w1 ⟨rfl, rfl⟩
      rw [HP.out]
      go_wp2_with fail
      refine (cutsuf_any v 34 _ (by omega)).mono ?_
      rintro e w1 ⟨rfl, rfl⟩
      rw [HQ.out]
      go_wp2_with fail
      refine (HE.out _ _ (Bx.new _ _ _)).mono ?_
      rintro e w2 ⟨rfl, hb⟩
      rw [← H1.out]
      rw [← H2.out] at hb
      have HB2 := Lib.hid hb.2
      clear hb
      go_wp2_with fail
      go_ret
      rw [HR.out]
      exact ⟨rfl, HB.out.trans HB2.out⟩
    | true =>
      go_enter Tryz.func110, Tryz.ntmps110
      go_wp2_with fail
      refine (cutpre_any s 34 _).mono ?_
      rintro e w1 ⟨rfl, rfl⟩
      rw [HP.out]
      go_wp2_with fail
      refine (cutsuf_any v 34 _ (by omega)).mono ?_
      rintro e w1 ⟨rfl, rfl⟩
      rw [HQ.out]
      go_wp2_with fail
      refine (HE.out _ _ (Bx.new _ _ _)).mono ?_
      rintro e w2 ⟨rfl, hb⟩
      rw [← H1.out]
      rw [← H2.out] at hb
      have c0 := hb.1.cell
      have HB2 := Lib.hid hb.2
      clear hb
      go_wp2_with fail
      go_ret
      rw [HR.out]
      exact ⟨rfl, HB.out.trans HB2.out⟩

/-- What is known at the loop's head. -/
def LocAt (s : List UInt8) (i : Value) : Prop := i = .int .i64 0 ∨ (i = .int .i64 1 ∧ atomsL s = false) ∨ (i = .int .i64 2 ∧ localL s = false)

set_option maxHeartbeats 2000000 in
theorem isLocal_any (s : List UInt8) (w : World) (hs : s.length ≤ 140737488351232) : Calls Tryz.prog 71 #[sv s] w fun e w' => e = .returned (.bool (localL s)) ∧ Below w.heap.size w w' := by
  by_cases h64 : 64 < s.length
  · have HF := Lib.hid (show localL s = false by unfold localL; rw [decide_eq_false (by omega)]; rfl)
    go_enter Tryz.func71, Tryz.ntmps71
    go_wp2
    go_ret
    rw [HF.out]
    exact ⟨rfl, by first | exact Below.refl _ _ | exact (Below.refl _ _).alloc (Nat.le_refl _) _⟩
  have h64' : s.length ≤ 64 := by omega
  have hs2 : s.length ≤ 1000000 := by omega
  clear h64 hs
  have HL := Lib.hid (show localL s = (atomsL s || quotedL s) by unfold localL; rw [decide_eq_true h64']; rfl)
  have HB := Lib.hid ((Below.refl w.heap.size w).alloc (Nat.le_refl _) (.cells #[.func (.func 109) #[] #[], .func (.func 110) #[] #[]] 134))
  have i0 : ∀ w, (Instr.index 134 (.agg #[.func (.func 109) #[] #[], .func (.func 110) #[] #[]]) (.int .i64 0)).run Tryz.prog w = .ok (.func (.func 109) #[] #[]) w := fun _ => by kernel_rfl
  have i1 : ∀ w, (Instr.index 134 (.agg #[.func (.func 109) #[] #[], .func (.func 110) #[] #[]]) (.int .i64 1)).run Tryz.prog w = .ok (.func (.func 110) #[] #[]) w := fun _ => by kernel_rfl
  go_enter Tryz.func71, Tryz.ntmps71
  go_wp2_with (refine wpList_load_row rfl 134 (.tmp 3) rfl w.heap.size rfl 134 #[.func (.func 109) #[] #[], .func (.func 110) #[] #[]] (0, 0) _ (heap_alloc_new _ _) Tryz.underlying134 rfl (by kernel_rfl) ?_)
  obtain ⟨w1, hw1⟩ : ∃ w1, w1 = w.alloc (.cells #[.func (.func 109) #[] #[], .func (.func 110) #[] #[]] 134) := ⟨_, rfl⟩
  rw [← hw1] at HB ⊢
  clear hw1
  go_loopw [5, 11] (fun _ i wr => Below w.heap.size w wr ∧ LocAt s i) (fun _ i _ => 2 - (intOf i).toNat)
  case atStart => exact ⟨HB.out, .inl rfl⟩
  case round =>
    obtain ⟨hb, rfl | ⟨rfl, ha⟩ | ⟨rfl, hl⟩⟩ := hrel
    · have HBR := Lib.hid hb
      clear hb
      cases ha : atomsL s with
      | true =>
        have HA := Lib.hid ha
        clear ha
        go_wp2_with (go_at_call 109; refine (isAtoms_any _ _ hs2).mono ?_; rintro e w2 ⟨rfl, hb2⟩; rw [HA.out]; have HB2 := Lib.hid hb2; clear hb2)
        go_ret
        rw [HL.out, HA.out]
        exact ⟨rfl, HBR.out.trans (HB2.out.mono HBR.out.size)⟩
      | false =>
        have HA := Lib.hid ha
        clear ha
        go_wp2_with (go_at_call 109; refine (isAtoms_any _ _ hs2).mono ?_; rintro e w2 ⟨rfl, hb2⟩; rw [HA.out]; have HB2 := Lib.hid hb2; clear hb2)
        go_roundw
        case rel => exact ⟨HBR.out.trans (HB2.out.mono HBR.out.size), .inr (.inl ⟨rfl, HA.out⟩)⟩
        case measure => simp [intOf]
    · have HBR := Lib.hid hb
      have HA := Lib.hid ha
      clear hb ha
      cases hq : quotedL s with
      | true =>
        have HQ := Lib.hid hq
        clear hq
        go_wp2_with (go_at_call 110; refine (isQuoted_any _ _ hs2).mono ?_; rintro e w2 ⟨rfl, hb2⟩; rw [HQ.out]; have HB2 := Lib.hid hb2; clear hb2)
        go_ret
        rw [HL.out, HA.out, HQ.out]
        exact ⟨rfl, HBR.out.trans (HB2.out.mono HBR.out.size)⟩
      | false =>
        have HQ := Lib.hid hq
        clear hq
        go_wp2_with (go_at_call 110; refine (isQuoted_any _ _ hs2).mono ?_; rintro e w2 ⟨rfl, hb2⟩; rw [HQ.out]; have HB2 := Lib.hid hb2; clear hb2)
        go_roundw
        case rel => exact ⟨HBR.out.trans (HB2.out.mono HBR.out.size), .inr (.inr ⟨rfl, by rw [HL.out, HA.out, HQ.out]; rfl⟩)⟩
        case measure => simp [intOf]
    · have HBR := Lib.hid hb
      have HF := Lib.hid hl
      clear hb hl
      go_wp2
      go_ret
      rw [HF.out]
      exact ⟨rfl, HBR.out⟩
end Go.Proofs.YtbmjmiioobgbfaaGreatDoor
