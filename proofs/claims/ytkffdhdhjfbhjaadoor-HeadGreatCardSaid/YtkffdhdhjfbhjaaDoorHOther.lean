/-
  The law's other: a text with some letters great that were small, or the other way about.
-/
import Derived.Test.YtkffdhdhjfbhjaaDoorHPureK
import Derived.Test.YtkffdhdhjfbhjaaDoorBuf
namespace Go.Proofs.YtkffdhdhjfbhjaaDoor
set_option linter.unusedSimpArgs false
set_option linter.unusedVariables false
open Go Go.RowKit Go.Shelf
set_option maxRecDepth 100000

theorem xor_all : ∀ n : _root_.Fin 256, (65 ≤ n.val ∧ n.val ≤ 90) ∨ (97 ≤ n.val ∧ n.val ≤ 122) → smallB (UInt8.ofNat n.val ^^^ 32) = smallB (UInt8.ofNat n.val) := by decide +kernel
theorem xor_small {x : UInt8} (h : (65 ≤ x.toNat ∧ x.toNat ≤ 90) ∨ (97 ≤ x.toNat ∧ x.toNat ≤ 122)) : smallB (x ^^^ 32) = smallB x := by
  have := xor_all ⟨x.toNat, UInt8.toNat_lt _⟩ h
  simpa using this
theorem xor_val (x : UInt8) : bits BinOp.xor IntKind.u8 (x.toNat : Int) 32 = ((x ^^^ 32).toNat : Int) := by
  have : ∀ n : _root_.Fin 256, bits BinOp.xor IntKind.u8 ((UInt8.ofNat n.val).toNat : Int) 32 = ((UInt8.ofNat n.val ^^^ 32).toNat : Int) := by decide +kernel
  have := this ⟨x.toNat, UInt8.toNat_lt _⟩
  simpa using this

set_option maxHeartbeats 8000000 in
theorem other_any (s : List UInt8) (a : Int) (w : World) (hs : s.length ≤ 100000) (ha : 0 ≤ a ∧ a < 18446744073709551616) :
    Calls Tryd.prog 30 #[sv s, .int .u64 a] w fun e w' => ∃ t, e = .returned (sv t) ∧ t.map smallB = s.map smallB ∧ Below w.heap.size w w' := by
  obtain ⟨c, W1, hrun, hbuf, hbel, hcap⟩ := run_bytes w s
  have HB := Lib.hid hbuf
  have HL := Lib.hid hbel
  obtain ⟨a0, a1⟩ := ha
  clear hbuf hbel
  go_enter Tryd.func30, Tryd.ntmps30
  go_wp2_with fail
  go_loopw [6] (fun i wr => ∃ (k : Nat) (t : List UInt8), k ≤ s.length ∧ i = .int .i64 k ∧ t.length = s.length ∧ t.map smallB = s.map smallB ∧ BufAt wr w.heap.size t ∧ Below w.heap.size w wr) (fun i _ => s.length - (intOf i).toNat)
  case atStart => exact ⟨0, s, Nat.zero_le _, rfl, rfl, rfl, HB.out, HL.out⟩
  case round =>
    obtain ⟨k, t, hk, rfl, htl, htm, hb, hl⟩ := hrel
    by_cases hlt : k < s.length
    · obtain ⟨x, hx⟩ : ∃ x, x = t.getD k 0 := ⟨_, rfl⟩
      obtain ⟨b, hbk⟩ : ∃ b, x.toNat = b := ⟨_, rfl⟩
      have hb256 : b < 256 := by rw [← hbk]; exact UInt8.toNat_lt _
      have hc : wr.cell? ⟨w.heap.size, k, none⟩ = some (.int .u8 (b : Int)) := by rw [hb.cell (by omega), ← hx, hbk]
      have hf : wr.frozen? ⟨w.heap.size, k, none⟩ = false := hb.free (by omega)
      have hk1 : (0 : Int) ≤ (k : Int) := by omega
      have hk2 : (k : Int) < (s.length : Int) := by omega
      have HT := Lib.hid htl
      have HM := Lib.hid htm
      have HX := Lib.hid hx
      have HK := Lib.hid hbk
      have HB2 := Lib.hid hb
      have HL2 := Lib.hid hl
      have HS := Lib.hid (hb.set (k := k) (by omega) (x ^^^ 32) (v := bits BinOp.xor IntKind.u8 (b : Int) 32) (by rw [← hbk]; exact xor_val x))
      have HL3 := Lib.hid (hl.setCell (p := ⟨w.heap.size, k, none⟩) (Nat.le_refl _) (.int .u8 (bits BinOp.xor IntKind.u8 (b : Int) 32)))
      have HSM := Lib.hid (show (65 ≤ b ∧ b ≤ 90) ∨ (97 ≤ b ∧ b ≤ 122) → (t.set k (x ^^^ 32)).map smallB = s.map smallB from fun h => by
        rw [← hbk] at h
        rw [List.map_set, xor_small h, hx, ← htm]
        refine List.ext_getElem? fun j => ?_
        rw [List.getElem?_set]
        split
        · rename_i e
          subst e
          rw [List.length_map, if_pos (by omega), List.getElem?_map, List.getD_eq_getElem?_getD, List.getElem?_eq_getElem (by omega)]
          rfl
        · rfl)
      clear hb hl htl htm hx hbk
      go_wp2_with fail
      all_goals first
        | exact ⟨⟨k + 1, t, by omega, by go_num, HT.out, HM.out, HB2.out, HL2.out⟩, by simp [intOf]; omega⟩
        | exact ⟨⟨k + 1, _, by omega, by go_num, by rw [List.length_set]; exact HT.out, HSM.out (by omega), HS.out, HL3.out⟩, by simp [intOf]; omega⟩
    · obtain rfl : k = s.length := by omega
      have hback := run_text hb c s.length htl.symm
      have HL2 := Lib.hid hl
      have HM := Lib.hid htm
      clear hb hl htl htm
      go_wp2_with fail
      go_ret
      exact ⟨_, rfl, HM.out, HL2.out⟩
end Go.Proofs.YtkffdhdhjfbhjaaDoor
