/-
  Contracts of Hex, Unhex, Base64, Unbase64.
  Texts of 100000 bytes at most.
-/
import Derived.Test.YtdniojbplakeoaaDoorUnspell
namespace Go.Proofs.YtdniojbplakeoaaDoor
open Go Go.RowKit
set_option maxRecDepth 100000

theorem str_append (a b : List UInt8) : str a ++ str b = str (a ++ b) := by apply ByteArray.ext; simp

theorem padded_hex (s : List UInt8) : padded 4 (bits8 s) = bits8 s := by
  have h : (bits8 s).length % 4 = 0 := by rw [bits8_length]; omega
  rw [padded, h]; simp

theorem hex_any (s : List UInt8) (w : World) (hs : s.length ≤ 100000) :
    Calls Tryd.prog 12 #[.string (str s)] w fun e w' => e = .returned (sv (hexL s)) ∧ Below w.heap.size w w' := by
  go_enter Tryd.func12, Tryd.ntmps12
  go_wp2_with fail
  refine (spell_any s sixteen 4 w signs16 (.inl rfl) hs).mono ?_
  rw [padded_hex]
  rintro e w' ⟨rfl, hb⟩
  have HB := Lib.hid hb
  clear hb
  go_wp2
  go_ret
  exact ⟨rfl, HB.out⟩

theorem unhex_any (s : List UInt8) (w : World) (hs : s.length ≤ 100000) :
    Calls Tryd.prog 14 #[.string (str s)] w fun e w' => e = .returned (resO (unhexL s)) ∧ Below w.heap.size w w' := by
  by_cases h2 : s.length % 2 = 0
  · have h3 : (s.length : Int) % 2 = 0 := by omega
    have hu := unspell_any s sixteen 4 w signs16 hs
    rw [unhexL, if_pos h2]
    generalize unspellL 4 sixteen s = r at *
    have HU := Lib.hid hu
    clear hu
    cases r with
    | none =>
      go_enter Tryd.func14, Tryd.ntmps14
      go_wp2_with fail
      refine HU.out.mono ?_
      rintro e w' ⟨rfl, hb⟩
      have HB := Lib.hid hb
      clear hb
      unfold resO
      go_wp2
      go_ret2
      exact ⟨rfl, HB.out⟩
    | some x =>
      go_enter Tryd.func14, Tryd.ntmps14
      go_wp2_with fail
      refine HU.out.mono ?_
      rintro e w' ⟨rfl, hb⟩
      have HB := Lib.hid hb
      clear hb
      unfold resO
      go_wp2
      go_ret2
      exact ⟨rfl, HB.out⟩
  · have HU := Lib.hid (show unhexL s = none by rw [unhexL, if_neg h2])
    have h3 : (s.length : Int) % 2 = 1 := by omega
    go_enter Tryd.func14, Tryd.ntmps14
    go_wp2
    go_ret2
    rw [HU.out]
    exact ⟨rfl, Below.refl _ _⟩

theorem repeat_any (c : UInt8) (n : Nat) (w : World) (hn : n ≤ 100000) :
    Calls Tryd.prog 40 #[.string { data := #[c] }, .int .i64 n] w fun e w' => e = .returned (sv (List.replicate n c)) ∧ Below w.heap.size w w' := by
  refine (Tryd.strings_Repeat (str [c]) n w (by omega) (by simp [ByteArray.size]; omega)).mono ?_
  rintro e w' ⟨rfl, hb⟩
  refine ⟨?_, hb⟩
  have e : Lib.repeatL (str [c]).data.toList n = List.replicate n c := by
    show Lib.repeatL [c] n = _
    induction n with
    | zero => rfl
    | succ n ih => rw [Lib.repeatL, ih (by omega), List.replicate_succ]; rfl
  rw [e]

theorem base_any (s : List UInt8) (w : World) (hs : s.length ≤ 100000) :
    Calls Tryd.prog 18 #[.string (str s)] w fun e w' => e = .returned (sv (b64L s)) ∧ Below w.heap.size w w' := by
  have hl := b64T_length s
  go_enter Tryd.func18, Tryd.ntmps18
  go_wp2_with fail
  refine (spell_any s letters 6 w signs64 (.inr rfl) hs).mono ?_
  rw [← b64T]
  rintro e w' ⟨rfl, hb⟩
  have HB := Lib.hid hb
  have hl2 : (b64T s).length ≤ 400000 := by omega
  have HE := Lib.hid (show b64L s = b64T s ++ fill (b64T s).length from rfl)
  clear hb hl
  generalize b64T s = t at *
  have hf2 : (-((t.length : Int) % 4) % 4) = (((4 - t.length % 4) % 4 : Nat) : Int) := by omega
  have HF2 := Lib.hid hf2
  clear hf2
  go_wp2_with fail
  rw [HF2.out]
  have hfl := fill_length t.length
  have HF := Lib.hid (show fill t.length = List.replicate ((4 - t.length % 4) % 4) 61 from rfl)
  generalize fill t.length = f at *
  refine (repeat_any 61 ((4 - t.length % 4) % 4) w' (by omega)).mono ?_
  rw [← HF.out]
  rintro e w2 ⟨rfl, hb2⟩
  have HB2 := Lib.hid (HB.out.trans (hb2.mono HB.out.size))
  have hfl4 : f.length ≤ 4 := by omega
  clear hb2 hfl
  go_wp2
  go_ret
  rw [HE.out]
  exact ⟨by simp [str_append], HB2.out⟩

theorem trim_any (s : List UInt8) (w : World) (hs : s.length ≤ 100000) :
    Calls Tryd.prog 36 #[.string (str s), .string { data := #[61] }] w fun e w' => e = .returned (sv (Lib.trimSuffix s [61])) ∧ w = w' := by
  refine (Tryd.strings_TrimSuffix (str s) (str [61]) w (by simp [ByteArray.size]; omega)).mono ?_
  rintro e w' ⟨rfl, rfl⟩
  exact ⟨rfl, rfl⟩

theorem trim_le (s : List UInt8) : (Lib.trimSuffix s [61]).length ≤ s.length := by
  unfold Lib.trimSuffix
  split
  · rw [List.length_take]; omega
  · exact Nat.le_refl _

theorem unbase_any (s : List UInt8) (w : World) (hs : s.length ≤ 100000) :
    Calls Tryd.prog 15 #[.string (str s)] w fun e w' => e = .returned (resO (unb64L s)) ∧ Below w.heap.size w w' := by
  by_cases h2 : s.length % 4 = 0
  · have h3 : (s.length : Int) % 4 = 0 := by omega
    have hl1 := trim_le s
    have hl2 := trim_le (Lib.trimSuffix s [61])
    have HT := Lib.hid (show trim2 s = Lib.trimSuffix (Lib.trimSuffix s [61]) [61] from rfl)
    have HT1 := Lib.hid (trim_any s w hs)
    have HT2 := Lib.hid (trim_any (Lib.trimSuffix s [61]) w (by omega))
    have hu := unspell_any (trim2 s) letters 6 w signs64 (by rw [HT.out]; omega)
    rw [unb64L, if_pos h2]
    rw [← HT.out] at HT2
    generalize unspellL 6 letters (trim2 s) = r at *
    generalize trim2 s = s2 at *
    generalize Lib.trimSuffix s [61] = s1 at *
    have HU := Lib.hid hu
    clear hu hl1 hl2
    cases r with
    | none =>
      go_enter Tryd.func15, Tryd.ntmps15
      go_wp2_with fail
      refine HT1.out.mono ?_
      rintro e w' ⟨rfl, rfl⟩
      go_wp2_with fail
      refine HT2.out.mono ?_
      rintro e w' ⟨rfl, rfl⟩
      go_wp2_with fail
      refine HU.out.mono ?_
      rintro e w' ⟨rfl, hb⟩
      have HB := Lib.hid hb
      clear hb
      unfold resO
      go_wp2
      go_ret2
      exact ⟨rfl, HB.out⟩
    | some x =>
      go_enter Tryd.func15, Tryd.ntmps15
      go_wp2_with fail
      refine HT1.out.mono ?_
      rintro e w' ⟨rfl, rfl⟩
      go_wp2_with fail
      refine HT2.out.mono ?_
      rintro e w' ⟨rfl, rfl⟩
      go_wp2_with fail
      refine HU.out.mono ?_
      rintro e w' ⟨rfl, hb⟩
      have HB := Lib.hid hb
      clear hb
      unfold resO
      go_wp2
      go_ret2
      exact ⟨rfl, HB.out⟩
  · have HU := Lib.hid (show unb64L s = none by rw [unb64L, if_neg h2])
    have h3 : ((s.length : Int) % 4 == 0) = false := by simp; omega
    have h4 : ((s.length : Int) % 4 != 0) = true := by simp; omega
    go_enter Tryd.func15, Tryd.ntmps15
    go_wp2
    go_ret2
    rw [HU.out]
    exact ⟨rfl, Below.refl _ _⟩

end Go.Proofs.YtdniojbplakeoaaDoor
