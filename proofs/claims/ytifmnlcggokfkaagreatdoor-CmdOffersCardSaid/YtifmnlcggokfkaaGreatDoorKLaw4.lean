/-
  The laws' helper other: the same letters, but for great and small ones before a place.
-/
import Derived.Test.YtifmnlcggokfkaaGreatDoorKLaw1
namespace Go.Proofs.YtifmnlcggokfkaaGreatDoor
open Go Go.RowKit Go.Shelf
set_option maxRecDepth 100000

/-- The same letters; the same text from place n on. -/
def Sim (s : List UInt8) (n : Nat) (t : List UInt8) : Prop := t.length = s.length ∧ gr t = gr s ∧ t.drop n = s.drop n
theorem Sim.set {s t : List UInt8} {n k : Nat} {x : UInt8} (h : Sim s n t) (hk : k < s.length) (hn : k < n) (hx : greatC x = greatC (t.getD k 0)) : Sim s n (t.set k x) := by
  obtain ⟨h1, h2, h3⟩ := h
  refine ⟨by rw [List.length_set]; exact h1, ?_, by rw [List.drop_set_of_lt hn]; exact h3⟩
  rw [← h2]
  unfold gr
  apply List.ext_getElem (by simp)
  intro i a1 a2
  rw [List.getElem_map, List.getElem_map, List.getElem_set]
  split
  · rename_i hi
    subst hi
    rw [hx, List.getD_eq_getElem?_getD, List.getElem?_eq_getElem (by rw [h1]; exact hk)]
    rfl
  · rfl
theorem great_flip {b x : UInt8} {c d : Nat} (hb : b.toNat = c) (hx : x.toNat = d) (h : (97 ≤ c ∧ c ≤ 122 ∧ d + 32 = c) ∨ (65 ≤ c ∧ c ≤ 90 ∧ d = c + 32)) : greatC x = greatC b := by
  rcases h with ⟨h1, h2, h3⟩ | ⟨h1, h2, h3⟩
  · obtain ⟨e1, e2⟩ := greatC_small hb h1 h2
    rw [e1, greatC_other hx (by omega)]
    apply UInt8.toNat_inj.1
    rw [e2]; omega
  · obtain ⟨e1, e2⟩ := greatC_small hx (by omega) (by omega)
    rw [e1, greatC_other hb (by omega)]
    apply UInt8.toNat_inj.1
    rw [e2]; omega
theorem flip_all : ∀ x : _root_.Fin 256, (97 ≤ x.1 → x.1 ≤ 122 → bits BinOp.xor .u8 (x.1 : Int) 32 = ((x.1 - 32 : Nat) : Int)) ∧ (65 ≤ x.1 → x.1 ≤ 90 → bits BinOp.xor .u8 (x.1 : Int) 32 = ((x.1 + 32 : Nat) : Int)) := by decide +kernel
def OtPost (w : World) (s : List UInt8) (n : Nat) (e : Ending) (w' : World) : Prop := ∃ t, e = .returned (sv t) ∧ Sim s n t ∧ Below w.heap.size w w'

set_option maxHeartbeats 4000000 in
theorem other_any (s : List UInt8) (q : Int) (n : Nat) (w : World) (hs : s.length ≤ 1000000) (hn : n ≤ 1000) (h0 : 0 ≤ q) (h1 : q < 18446744073709551616) : Calls Tryz.prog 31 #[.string (str s), .int .u64 q, .int .i64 (n : Int)] w (OtPost w s n) := by
  obtain ⟨cp, W1, hrun, hbuf, hbel, hcap⟩ := run_bytes w s
  have HBU := Lib.hid hbuf
  have HL := Lib.hid hbel
  clear hbuf hbel
  go_enter Tryz.func31, Tryz.ntmps31
  go_wp2_with fail
  go_loopw [8] (fun i wr => ∃ (k : Nat) (l : List UInt8), k ≤ s.length ∧ i = .int .i64 k ∧ Sim s n l ∧ BufAt wr w.heap.size l ∧ Below w.heap.size w wr) (fun i _ => s.length - (intOf i).toNat)
  case atStart => exact ⟨0, s, Nat.zero_le _, rfl, ⟨rfl, rfl, rfl⟩, HBU.out, HL.out⟩
  case round =>
    obtain ⟨k, l, hk, rfl, hga, hb, hl⟩ := hrel
    have hll := hga.1
    have hback := run_text hb cp s.length hll.symm
    have HGA := Lib.hid hga
    have HB := Lib.hid hb
    have HL2 := Lib.hid hl
    by_cases hlt : k < s.length
    · by_cases hkn : k < n
      · obtain ⟨x, hx⟩ : ∃ x, (l.getD k 0).toNat = x := ⟨_, rfl⟩
        have hx256 : x < 256 := by rw [← hx]; exact UInt8.toNat_lt _
        have hc : wr.cell? ⟨w.heap.size, k, none⟩ = some (.int .u8 (x : Int)) := by rw [hb.cell (by omega), hx]
        have hf : wr.frozen? ⟨w.heap.size, k, none⟩ = false := hb.free (by omega)
        have HFL := Lib.hid (fun (y : UInt8) (z : Int) (hz : z = (y.toNat : Int)) (hg : greatC y = greatC (l.getD k 0)) =>
          (show Sim s n (l.set k y) ∧ BufAt (wr.setCell ⟨w.heap.size, k, none⟩ (.int .u8 z)) w.heap.size (l.set k y) ∧ Below w.heap.size w (wr.setCell ⟨w.heap.size, k, none⟩ (.int .u8 z)) from
            ⟨hga.set hlt hkn hg, hb.set (k := k) (by omega) y (v := z) hz, hl.setCell (p := ⟨w.heap.size, k, none⟩) (Nat.le_refl _) _⟩))
        have HX := Lib.hid hx
        clear hga hb hl hll hback hx
        rcases (show (97 ≤ x ∧ x ≤ 122) ∨ (65 ≤ x ∧ x ≤ 90) ∨ (x < 65) ∨ (90 < x ∧ x < 97) ∨ 122 < x by omega) with ⟨u1, u2⟩ | ⟨u1, u2⟩ | u1 | ⟨u1, u2⟩ | u1
        · have HZ := Lib.hid (show bits BinOp.xor .u8 (x : Int) 32 = ((UInt8.ofNat (x - 32)).toNat : Int) ∧ greatC (UInt8.ofNat (x - 32)) = greatC (l.getD k 0) by
            have e : (UInt8.ofNat (x - 32)).toNat = x - 32 := by rw [UInt8.toNat_ofNat']; exact Nat.mod_eq_of_lt (by omega)
            refine ⟨by rw [e]; exact (flip_all ⟨x, hx256⟩).1 u1 u2, great_flip HX.out e (by omega)⟩)
          go_wp2_with fail
          all_goals
            refine ⟨?_, by simp [intOf]; omega⟩
            first
              | exact ⟨k + 1, l, by omega, by go_num, HGA.out, HB.out, HL2.out⟩
              | (obtain ⟨y1, y2, y3⟩ := HFL.out (UInt8.ofNat (x - 32)) _ HZ.out.1 HZ.out.2; exact ⟨k + 1, _, by omega, by go_num, y1, y2, y3⟩)
        · have HZ := Lib.hid (show bits BinOp.xor .u8 (x : Int) 32 = ((UInt8.ofNat (x + 32)).toNat : Int) ∧ greatC (UInt8.ofNat (x + 32)) = greatC (l.getD k 0) by
            have e : (UInt8.ofNat (x + 32)).toNat = x + 32 := by rw [UInt8.toNat_ofNat']; exact Nat.mod_eq_of_lt (by omega)
            refine ⟨by rw [e]; exact (flip_all ⟨x, hx256⟩).2 u1 u2, great_flip HX.out e (by omega)⟩)
          go_wp2_with fail
          all_goals
            refine ⟨?_, by simp [intOf]; omega⟩
            first
              | exact ⟨k + 1, l, by omega, by go_num, HGA.out, HB.out, HL2.out⟩
              | (obtain ⟨y1, y2, y3⟩ := HFL.out (UInt8.ofNat (x + 32)) _ HZ.out.1 HZ.out.2; exact ⟨k + 1, _, by omega, by go_num, y1, y2, y3⟩)
        · go_wp2_with fail
          all_goals exact ⟨⟨k + 1, l, by omega, by go_num, HGA.out, HB.out, HL2.out⟩, by simp [intOf]; omega⟩
        · go_wp2_with fail
          all_goals exact ⟨⟨k + 1, l, by omega, by go_num, HGA.out, HB.out, HL2.out⟩, by simp [intOf]; omega⟩
        · go_wp2_with fail
          all_goals exact ⟨⟨k + 1, l, by omega, by go_num, HGA.out, HB.out, HL2.out⟩, by simp [intOf]; omega⟩
      · clear hga hb hl
        go_wp2_with fail
        go_ret
        exact ⟨l, rfl, HGA.out, HL2.out⟩
    · obtain rfl : k = s.length := by omega
      clear hga hb hl
      go_wp2_with fail
      go_ret
      exact ⟨l, rfl, HGA.out, HL2.out⟩
end Go.Proofs.YtifmnlcggokfkaaGreatDoor
