/-
  The contract of the laws' own function 'great'; the walk of NameFolds.
-/
import Derived.Test.YtnlmlhjegjphiaaDoorNAwake
import Derived.Test.YtnlmlhjegjphiaaDoorTop
namespace Go.Proofs.YtnlmlhjegjphiaaDoor
open Go Go.RowKit
set_option maxRecDepth 100000

theorem likeL_of : ∀ {l s : List UInt8}, l.length = s.length → (∀ j, j < s.length → LikeC (l.getD j 0) (s.getD j 0)) → LikeL l s
  | [], [], _, _ => trivial
  | [], _ :: _, h, _ => by simp at h
  | _ :: _, [], h, _ => by simp at h
  | x :: l, y :: s, h, hc => by
    refine ⟨by have := hc 0 (by simp); simpa using this, likeL_of (by simpa using h) fun j hj => ?_⟩
    have := hc (j + 1) (by simpa using hj)
    simpa using this

/-- Some letters are great, from byte k on none. -/
def GreatAt (s l : List UInt8) (k : Nat) : Prop := l.length = s.length ∧ (∀ j, j < s.length → LikeC (l.getD j 0) (s.getD j 0)) ∧ ∀ j, k ≤ j → l.getD j 0 = s.getD j 0
theorem GreatAt.keep {s l : List UInt8} {k : Nat} (h : GreatAt s l k) : GreatAt s l (k + 1) := ⟨h.1, h.2.1, fun j hj => h.2.2 j (by omega)⟩
theorem getD_set (l : List UInt8) (k j : Nat) (x : UInt8) (hk : k < l.length) : (l.set k x).getD j 0 = if j = k then x else l.getD j 0 := by
  rw [List.getD_eq_getElem?_getD, List.getD_eq_getElem?_getD]
  by_cases e : j = k
  · subst e; rw [List.getElem?_set_self hk, if_pos rfl]; rfl
  · rw [List.getElem?_set_ne (fun h => e h.symm), if_neg e]
theorem GreatAt.set {s l : List UInt8} {k c : Nat} (h : GreatAt s l k) (hk : k < s.length) (hc : (s.getD k 0).toNat = c) (h1 : 97 ≤ c) (h2 : c ≤ 122) :
    GreatAt s (l.set k (UInt8.ofNat (c - 32))) (k + 1) ∧ (UInt8.ofNat (c - 32)).toNat = c - 32 := by
  obtain ⟨a1, a2, a3⟩ := h
  have e : (UInt8.ofNat (c - 32)).toNat = c - 32 := by rw [UInt8.toNat_ofNat']; exact Nat.mod_eq_of_lt (by have := UInt8.toNat_lt (s.getD k 0); omega)
  refine ⟨⟨by rw [List.length_set]; exact a1, fun j hj => ?_, fun j hj => ?_⟩, e⟩
  · rw [getD_set l k j _ (by omega)]
    by_cases ej : j = k
    · rw [if_pos ej, ej]
      refine .inr ⟨?_, ?_, ?_⟩
      · rw [UInt8.le_iff_toNat_le, hc]; exact h1
      · rw [UInt8.le_iff_toNat_le, hc]; exact h2
      · apply UInt8.toNat_inj.1
        rw [e, UInt8.toNat_sub_of_le _ _ (by rw [UInt8.le_iff_toNat_le, hc]; show 32 ≤ c; omega), hc]
        rfl
    · rw [if_neg ej]; exact a2 j hj
  · rw [getD_set l k j _ (by omega), if_neg (by omega)]
    exact a3 j (by omega)

/-- What 'great' leaves. -/
def GreatPost (w : World) (s : List UInt8) (e : Ending) (w' : World) : Prop := ∃ g, e = .returned (sv g) ∧ LikeL g s ∧ Below w.heap.size w w'

set_option maxHeartbeats 4000000 in
theorem great_any (s : List UInt8) (A : Option Addr) (n c : Nat) (B : Nat → Bool) (w : World) (hs : s.length ≤ 1000000) (hn : n ≤ 9223372036854775807) (hB : BoolsIn w A n B) :
    Calls Tryd.prog 29 #[.string (str s), .slice A n c] w (GreatPost w s) := by
  obtain ⟨cp, W1, hrun, hbuf, hbel, hcap⟩ := run_bytes w s
  have HBU := Lib.hid hbuf
  have HL := Lib.hid hbel
  have HBO := Lib.hid hB
  clear hbuf hbel hB
  go_enter Tryd.func29, Tryd.ntmps29
  go_wp2_with fail
  go_loopw [6] (fun i wr => ∃ (k : Nat) (l : List UInt8), k ≤ s.length ∧ i = .int .i64 k ∧ GreatAt s l k ∧ BufAt wr w.heap.size l ∧ Below w.heap.size w wr) (fun i _ => s.length - (intOf i).toNat)
  case atStart => exact ⟨0, s, Nat.zero_le _, rfl, ⟨rfl, fun j _ => .inl rfl, fun j _ => rfl⟩, HBU.out, HL.out⟩
  case round =>
    obtain ⟨k, l, hk, rfl, hga, hb, hl⟩ := hrel
    have hll := hga.1
    by_cases hlt : k < s.length ∧ k < n
    · obtain ⟨h1, h2⟩ := hlt
      obtain ⟨ba, off, rfl, hbl, hcell⟩ := HBO.out (by omega)
      obtain ⟨x, hx⟩ : ∃ x, (s.getD k 0).toNat = x := ⟨_, rfl⟩
      have hx256 : x < 256 := by rw [← hx]; exact UInt8.toNat_lt _
      have hc : wr.cell? ⟨w.heap.size, k, none⟩ = some (.int .u8 (x : Int)) := by rw [hb.cell (by omega), hga.2.2 k (Nat.le_refl _), hx]
      have hf : wr.frozen? ⟨w.heap.size, k, none⟩ = false := hb.free (by omega)
      have hw : wr.cell? ⟨ba, off + k, none⟩ = some (.bool (B k)) := (hl.cell (p := ⟨ba, off + k, none⟩) hbl).trans (hcell k h2)
      have HGA := Lib.hid hga
      have HB := Lib.hid hb
      have HL2 := Lib.hid hl
      have HLL := Lib.hid hll
      have HX := Lib.hid hx
      clear hga hb hl hll hx hcell
      cases hBk : B k with
      | false =>
        rw [hBk] at hw
        clear hBk
        go_wp2_with fail
        go_roundw
        case rel => exact ⟨k + 1, l, by omega, by go_num, HGA.out.keep, HB.out, HL2.out⟩
        case measure => simp [intOf]; omega
      | true =>
        rw [hBk] at hw
        clear hBk
        by_cases hr : 97 ≤ x ∧ x ≤ 122
        · obtain ⟨r1, r2⟩ := hr
          obtain ⟨g1, g2⟩ := HGA.out.set h1 HX.out r1 r2
          have HS := Lib.hid (HB.out.set (k := k) (by have := HLL.out; omega) (UInt8.ofNat (x - 32)) (v := (x : Int) - 32) (by rw [g2]; omega))
          have HG1 := Lib.hid g1
          have HL3 := Lib.hid (HL2.out.setCell (p := ⟨w.heap.size, k, none⟩) (Nat.le_refl _) (.int .u8 ((x : Int) - 32)))
          clear g1 g2
          go_wp2_with fail
          go_roundw
          case rel => exact ⟨k + 1, _, by omega, by go_num, HG1.out, HS.out, HL3.out⟩
          case measure => simp [intOf]; omega
        · rcases (show x < 97 ∨ 122 < x by omega) with r | r
          all_goals
            clear hr
            go_wp2_with fail
            go_roundw
            case rel => exact ⟨k + 1, l, by omega, by go_num, HGA.out.keep, HB.out, HL2.out⟩
            case measure => simp [intOf]; omega
    · have hback := run_text hb cp s.length hll.symm
      have HG := Lib.hid (show LikeL l s from likeL_of hll hga.2.1)
      have HL2 := Lib.hid hl
      clear hb hl hga hll
      rcases (show s.length ≤ k ∨ (k < s.length ∧ n ≤ k) by omega) with h | ⟨h, h'⟩
      all_goals
        clear hlt
        go_wp2_with fail
        go_ret
        exact ⟨l, rfl, HG.out, HL2.out⟩

theorem LikeL.length_ : ∀ {a b : List UInt8}, LikeL a b → a.length = b.length
  | [], [], _ => rfl
  | _ :: _, _ :: _, h => by simp [LikeL.length_ h.2]
  | [], _ :: _, h => h.elim
  | _ :: _, [], h => h.elim

theorem app_dot (x : List UInt8) : str x ++ (⟨#[46]⟩ : ByteArray) = str (x ++ [46]) := by
  apply ByteArray.ext
  simp [str, ByteArray.data_append]

theorem bl_great {w0 w : World} {s : List UInt8} {A : Option Addr} {n c : Nat} {B : Nat → Bool} (hs : s.length ≤ 1000000) (hn : n ≤ 9223372036854775807) (hB : BoolsIn w0 A n B) (h : BL w0 w) :
    Calls Tryd.prog 29 #[.string (str s), .slice A n c] w fun e w' => ∃ g, e = .returned (sv g) ∧ LikeL g s ∧ BL w0 w' :=
  (great_any s A n c B w hs hn (hB.step h.below)).mono fun _ _ ⟨g, h1, h2, h3⟩ => ⟨g, h1, h2, h.step h3⟩

theorem nameFolds_long (s : List UInt8) (A : Option Addr) (n c : Nat) (w : World) (hs : s.length ≤ 140737488351232) (h : 5000 < s.length) (hM : ML w) :
    Calls Tryd.prog 6 #[.string (str s), .slice A n c] w fun e w' => e = .returned (.bool true) ∧ Below w.heap.size w w' := by
  have B0 := BL.start hM
  have h' : (5000 : Int) < (s.length : Int) := by omega
  clear hM h
  go_enter Tryd.func6, Tryd.ntmps6
  go_wp2_with fail
  refine (awake_bl _ B0).mono ?_
  rintro e w1 ⟨rfl, B1⟩
  have HB := Lib.hid B1.below
  go_wp2
  go_ret
  exact ⟨rfl, HB.out⟩

set_option maxHeartbeats 4000000 in
theorem nameFolds_short (s : List UInt8) (A : Option Addr) (n c : Nat) (B : Nat → Bool) (w : World) (hs : s.length ≤ 5000) (hn : n ≤ 9223372036854775807) (hB : BoolsIn w A n B) (hM : ML w) :
    Calls Tryd.prog 6 #[.string (str s), .slice A n c] w fun e w' => e = .returned (.bool true) ∧ Below w.heap.size w w' := by
  have B0 := BL.start hM
  have HBO := Lib.hid hB
  clear hM hB
  cases hf : foldL s with
  | none =>
    have HF := Lib.hid hf
    have HQ := Lib.hid (show mayL s = false by
      cases e : mayL s with
      | false => rfl
      | true => rw [fold_may e] at hf; cases hf)
    clear hf
    go_enter Tryd.func6, Tryd.ntmps6
    go_wp2_with fail
    refine (awake_bl _ B0).mono ?_
    rintro e w1 ⟨rfl, B1⟩
    go_wp2_with fail
    refine (bl_fold HF.out (by omega) B1).mono ?_
    rintro e w2 ⟨rfl, B2⟩
    unfold foldV
    go_wp2_with fail
    refine (bl_may HQ.out (by omega) B2).mono ?_
    rintro e w3 ⟨rfl, B3⟩
    go_wp2_with fail
    refine (bl_great (by omega) hn HBO.out B3).mono ?_
    rintro e w4 ⟨g, rfl, hlg, B4⟩
    have HLG := Lib.hid (show foldL g = _ from hlg.fold.trans HF.out)
    have hgl : g.length ≤ 5000 := by have := hlg.length_; omega
    clear hlg
    go_wp2_with fail
    refine (bl_fold HLG.out (by omega) B4).mono ?_
    rintro e w5 ⟨rfl, B5⟩
    unfold foldV
    have HB := Lib.hid B5.below
    go_wp2_with fail
    go_ret
    exact ⟨rfl, HB.out⟩
  | some a =>
    have HF := Lib.hid hf
    have HMA := Lib.hid (fold_is hf)
    have HF2 := Lib.hid (fold_may (fold_is hf))
    have hal : a.length ≤ 253 := may_len (fold_is hf)
    cases hq : mayL s with
    | true =>
      obtain rfl : s = a := by have := fold_may hq; rw [hf] at this; exact (Option.some.inj this).symm
      have HQ := Lib.hid hq
      clear hf hq
      go_enter Tryd.func6, Tryd.ntmps6
      go_wp2_with fail
      refine (awake_bl _ B0).mono ?_
      rintro e w1 ⟨rfl, B1⟩
      go_wp2_with fail
      refine (bl_fold HF.out (by omega) B1).mono ?_
      rintro e w2 ⟨rfl, B2⟩
      unfold foldV
      go_wp2_with fail
      refine (bl_may HQ.out (by omega) B2).mono ?_
      rintro e w3 ⟨rfl, B3⟩
      go_wp2_with fail
      refine (bl_great (by omega) hn HBO.out B3).mono ?_
      rintro e w4 ⟨g, rfl, hlg, B4⟩
      have HLG := Lib.hid (show foldL g = _ from hlg.fold.trans HF.out)
      have hgl : g.length ≤ 5000 := by have := hlg.length_; omega
      clear hlg
      go_wp2_with fail
      refine (bl_fold HLG.out (by omega) B4).mono ?_
      rintro e w5 ⟨rfl, B5⟩
      unfold foldV
      go_wp2_with fail
      refine (bl_fold HF2.out (by omega) B5).mono ?_
      rintro e w6 ⟨rfl, B6⟩
      unfold foldV
      go_wp2_with fail
      refine (bl_great (by omega) hn HBO.out B6).mono ?_
      rintro e w7 ⟨g2, rfl, hlg, B7⟩
      have HLG2 := Lib.hid (hlg.fold_dot HMA.out)
      have hgl2 : g2.length ≤ 5000 := by have := hlg.length_; omega
      clear hlg
      go_wp2_with fail
      rw [app_dot]
      refine (bl_fold HLG2.out (by simp; omega) B7).mono ?_
      rintro e w8 ⟨rfl, B8⟩
      unfold foldV
      go_wp2_with fail
      refine (bl_may HMA.out (by omega) B8).mono ?_
      rintro e w9 ⟨rfl, B9⟩
      have HB := Lib.hid B9.below
      go_wp2_with fail
      go_ret
      exact ⟨rfl, HB.out⟩
    | false =>
      have HQ := Lib.hid hq
      clear hf hq
      go_enter Tryd.func6, Tryd.ntmps6
      go_wp2_with fail
      refine (awake_bl _ B0).mono ?_
      rintro e w1 ⟨rfl, B1⟩
      go_wp2_with fail
      refine (bl_fold HF.out (by omega) B1).mono ?_
      rintro e w2 ⟨rfl, B2⟩
      unfold foldV
      go_wp2_with fail
      refine (bl_may HQ.out (by omega) B2).mono ?_
      rintro e w3 ⟨rfl, B3⟩
      go_wp2_with fail
      refine (bl_great (by omega) hn HBO.out B3).mono ?_
      rintro e w4 ⟨g, rfl, hlg, B4⟩
      have HLG := Lib.hid (show foldL g = _ from hlg.fold.trans HF.out)
      have hgl : g.length ≤ 5000 := by have := hlg.length_; omega
      clear hlg
      go_wp2_with fail
      refine (bl_fold HLG.out (by omega) B4).mono ?_
      rintro e w5 ⟨rfl, B5⟩
      unfold foldV
      go_wp2_with fail
      refine (bl_fold HF2.out (by omega) B5).mono ?_
      rintro e w6 ⟨rfl, B6⟩
      unfold foldV
      go_wp2_with fail
      refine (bl_great (by omega) hn HBO.out B6).mono ?_
      rintro e w7 ⟨g2, rfl, hlg, B7⟩
      have HLG2 := Lib.hid (hlg.fold_dot HMA.out)
      have hgl2 : g2.length ≤ 5000 := by have := hlg.length_; omega
      clear hlg
      go_wp2_with fail
      rw [app_dot]
      refine (bl_fold HLG2.out (by simp; omega) B7).mono ?_
      rintro e w8 ⟨rfl, B8⟩
      unfold foldV
      go_wp2_with fail
      refine (bl_may HMA.out (by omega) B8).mono ?_
      rintro e w9 ⟨rfl, B9⟩
      have HB := Lib.hid B9.below
      go_wp2_with fail
      go_ret
      exact ⟨rfl, HB.out⟩

theorem nameFolds_walk (s : ByteArray) (A : Option Addr) (n c : Nat) (B : Nat → Bool) (hs : s.data.size ≤ 140737488351232) {w : World} (hB : BoolsIn w A n B) (hn : n ≤ 9223372036854775807) (hM : ML w) :
    Calls Tryd.prog 6 #[.string s, .slice A n c] w fun e w' => e = .returned (.bool true) ∧ Below w.heap.size w w' := by
  obtain ⟨s, rfl, _⟩ := to_str s
  have hs' : s.length ≤ 140737488351232 := by simpa using hs
  by_cases h : 5000 < s.length
  · exact nameFolds_long s A n c w hs' h hM
  · exact nameFolds_short s A n c B w (by omega) hn hB hM
end Go.Proofs.YtnlmlhjegjphiaaDoor
