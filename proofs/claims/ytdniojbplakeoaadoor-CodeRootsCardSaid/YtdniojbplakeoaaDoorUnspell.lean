/-
  Contracts of unspell, Hex, Unhex, Base64, Unbase64.
  Texts of 100000 bytes at most.
-/
import Derived.Test.YtdniojbplakeoaaDoorSpell
namespace Go.Proofs.YtdniojbplakeoaaDoor
open Go Go.RowKit
set_option maxRecDepth 100000

theorem index_any (S : List UInt8) (c : UInt8) (w : World) : Calls Tryd.prog 53 #[.string (str S), .int .u8 (c.toNat : Int)] w fun e w' => e = .returned (.int .i64 (Lib.indexByte S c)) ∧ w = w' := by
  refine (Tryd.strings_IndexByte (str S) c.toNat w).mono ?_
  rintro e w' ⟨rfl, rfl⟩
  simp

/-- A text and no error, or none and ErrForm. -/
def resO : Option (List UInt8) → Value
  | some x => .tuple #[sv x, .int .i64 0]
  | none => .tuple #[.string { data := #[] }, .int .i64 4]

theorem idx_take_succ {S s : List UInt8} {j : Nat} (h : j < s.length) : idx S (s.take (j + 1)) = idx S (s.take j) ++ [(Lib.indexByte S (s.getD j 0)).toNat] := by
  rw [List.take_succ_eq_append_getElem h, idx_append, List.getD_eq_getElem?_getD, List.getElem?_eq_getElem h]; rfl

theorem allIn_take_succ {S s : List UInt8} {j : Nat} (h : j < s.length) (ha : allIn S (s.take j)) (hi : 0 ≤ Lib.indexByte S (s.getD j 0)) : allIn S (s.take (j + 1)) := by
  rw [List.take_succ_eq_append_getElem h]
  intro c hc
  rcases List.mem_append.1 hc with hc | hc
  · exact ha c hc
  · rw [List.mem_singleton.1 hc]
    rwa [List.getD_eq_getElem?_getD, List.getElem?_eq_getElem h] at hi

theorem not_allIn {S s : List UInt8} {j : Nat} (h : j < s.length) (hi : Lib.indexByte S (s.getD j 0) < 0) : ¬ allIn S s := by
  intro ha
  have := ha s[j] (List.getElem_mem h)
  rw [List.getD_eq_getElem?_getD, List.getElem?_eq_getElem h] at hi
  simp at hi
  omega

theorem bytesOf_append (l m : List Bool) : bytesOf (l ++ m) = bytesOf l ++ (emit 8 (rest 8 l ++ m)).map UInt8.ofNat := by
  rw [bytesOf, (emit_append (by decide) l m).1, List.map_append]; rfl

set_option maxHeartbeats 2000000 in
theorem unspell_any (s S : List UInt8) (k : Nat) (w : World) (hS : Signs k S) (hs : s.length ≤ 100000) :
    Calls Tryd.prog 35 #[.string (str s), .string (str S), .int .i64 k] w fun e w' => e = .returned (resO (unspellL k S s)) ∧ Below w.heap.size w w' := by
  have hk0 : 0 < k := hS.pos
  have hk8 := hS.le
  obtain ⟨wb, hwb⟩ : ∃ wb, wb = w.alloc (.cells #[.pointer none, .slice none 0 0] 47) := ⟨_, rfl⟩
  have hsz : wb.heap.size = w.heap.size + 1 := by rw [hwb]; simp
  have hbk : wb.heap[w.heap.size]? = some (.cells #[.pointer none, .slice none 0 0] 47 (0, 0)) := by rw [hwb]; exact heap_alloc_new _ _
  have hbl : Below w.heap.size w wb := by rw [hwb]; exact (Below.refl _ _).alloc (Nat.le_refl _) _
  have HS := Lib.hid hS
  have HSZ := Lib.hid hsz
  have HBK := Lib.hid hbk
  have HBL := Lib.hid hbl
  have HWB := Lib.hid hwb
  have hkl : s.length * k ≤ 800000 := by
    have := Nat.mul_le_mul hs hk8
    omega
  have hkl' : (s.length : Int) * (k : Int) = ((s.length * k : Nat) : Int) := by push_cast; rfl
  clear hsz hbk hbl hwb hS
  generalize s.length * k = P at hkl hkl'
  go_enter Tryd.func35, Tryd.ntmps35
  go_wp2_with fail
  rw [← HWB.out, show ((P : Int) / 8) = ((P / 8 : Nat) : Int) by omega]
  refine (Tryd.Builder_Grow_fresh w.heap.size w.heap.size (P / 8) wb (Nat.le_refl _) HBK.out (by have := HSZ.out; omega) (by omega)).mono ?_
  rintro e w1 ⟨rfl, hb1, hl1⟩
  have hlt := hb1.lt
  have HB1 := Lib.hid (Lib.BuilderAtF.of hb1)
  have HL1 := Lib.hid (HBL.out.trans hl1)
  clear hb1 hl1
  go_wp2_with fail
  refine (gather_any 8 52 _ w1).mono ?_
  rintro e w2 ⟨rfl, hw2⟩
  have hn := nums_own (n := w1.heap.size) (B := w.heap.size) (b := w.heap.size) (by omega) hlt
  have hg := gather_ga (B := w.heap.size) (b := w.heap.size) (out := []) hw2 (.inr HB1.out) (siz_new hw2) (by omega)
  have hl2 : Below w.heap.size w w2 := by
    rw [hw2]
    exact (((HL1.out.alloc (by omega) _).alloc (by simp; omega) _).alloc (by simp; omega) _).alloc (by simp; omega) _
  have HN := Lib.hid hn
  have HG := Lib.hid hg
  have HL2 := Lib.hid hl2
  clear hw2 hn hg hl2
  obtain ⟨m, hm⟩ : ∃ m, m = w1.heap.size := ⟨_, rfl⟩
  rw [← hm] at HN HG ⊢
  clear hm hlt HB1 HL1
  go_wp2_with fail
  go_loopw [10, 23] (fun l i wr => ∃ j : Nat, j ≤ s.length ∧ i = .int .i64 j ∧ l = .int .i64 (num (rest 8 (bitsK k (idx S (s.take j)))) : Nat) ∧ allIn S (s.take j) ∧ Ga wr w.heap.size w.heap.size m m (m + 1) (m + 2) (m + 3) (.int .i64 8) 3 8 (.func (.func 52) #[] #[.pointer (some ⟨w.heap.size, 0, none⟩)]) (num (rest 8 (bitsK k (idx S (s.take j))))) (rest 8 (bitsK k (idx S (s.take j)))).length (bytesOf (bitsK k (idx S (s.take j)))) ∧ Below w.heap.size w wr) (fun _ i _ => s.length - (intOf i).toNat)
  case atStart =>
    have e0 : bitsK k (idx S (s.take 0)) = [] := rfl
    have e1 := emit_short (k := 8) (l := []) (by decide)
    refine ⟨0, Nat.zero_le _, rfl, ?_, fun c hc => by simp at hc, ?_, HL2.out⟩
    · rw [e0, e1.2]; rfl
    · rw [e0, bytesOf, e1.1, e1.2]; exact HG.out
  case round =>
    obtain ⟨j, hj, rfl, rfl, ha, hg, hl⟩ := hrel
    have HA := Lib.hid ha
    have HG2 := Lib.hid hg
    have HL3 := Lib.hid hl
    clear hg hl ha
    have hol : (bytesOf (bitsK k (idx S (s.take j)))).length ≤ 100000 := by
      rw [bytesOf, List.length_map, emit_length, bitsK_length, idx_length, List.length_take]
      have : k * min j s.length ≤ 8 * 100000 := Nat.mul_le_mul hk8 (by omega)
      omega
    have hrl := rest_lt (k := 8) (by decide) (bitsK k (idx S (s.take j)))
    obtain ⟨q, hq⟩ : ∃ q, q = num (rest 8 (bitsK k (idx S (s.take j)))) := ⟨_, rfl⟩
    rw [← hq]
    have HQ := Lib.hid hq
    clear hq
    by_cases hlt : j < s.length
    · go_wp2_with fail
      rw [str_getD s j hlt]
      refine (index_any S (s.getD j 0) wr).mono ?_
      rintro e w3 ⟨rfl, rfl⟩
      by_cases hneg : Lib.indexByte S (s.getD j 0) < 0
      · have HU := Lib.hid (show unspellL k S s = none by rw [unspellL, if_neg (fun h => not_allIn hlt hneg h.1)])
        generalize Lib.indexByte S (s.getD j 0) = iv at *
        go_wp2
        go_ret2
        rw [HU.out]
        exact ⟨rfl, HL3.out⟩
      · have hil := indexByte_lt S (s.getD j 0)
        have HAS := Lib.hid (allIn_take_succ hlt HA.out (by omega))
        have HIS := Lib.hid (idx_take_succ (S := S) hlt)
        rw [HS.out.length] at hil
        obtain ⟨t, ht⟩ : ∃ t : Nat, Lib.indexByte S (s.getD j 0) = t := ⟨(Lib.indexByte S (s.getD j 0)).toNat, by omega⟩
        rw [ht] at HIS hil hneg ⊢
        have ht2 : t < 2 ^ k := by exact_mod_cast hil
        have ht8 : t < 256 := Nat.lt_of_lt_of_le ht2 (Nat.pow_le_pow_right (n := 2) (by decide) hk8 : 2 ^ k ≤ 2 ^ 8)
        clear hil ht hneg
        rw [show (t : Int).toNat = t from Int.toNat_natCast t] at HIS
        go_wp2_with fail
        refine (gath52 HN.out hand52 (rest 8 (bitsK k (idx S (s.take j)))) t k _ wr (by rw [← HQ.out]; rw [← HQ.out] at HG2; exact HG2.out) (by decide) (by decide) hrl ht8 ht2 hk8 (by omega)).mono ?_
        rintro e w3 ⟨rfl, hl3, hg3⟩
        have HG3 := Lib.hid hg3
        have HL4 := Lib.hid (HL3.out.trans hl3)
        have HB := Lib.hid (show bitsK k (idx S (s.take (j + 1))) = bitsK k (idx S (s.take j)) ++ bitsN k t by rw [HIS.out, bitsK_append, bitsK_one])
        clear hg3 hl3 hol hrl
        obtain ⟨q', hq'⟩ : ∃ q', q' = num (rest 8 (rest 8 (bitsK k (idx S (s.take j))) ++ bitsN k t)) := ⟨_, rfl⟩
        rw [← hq'] at HG3 ⊢
        have HQ' := Lib.hid hq'
        clear hq'
        go_wp2
        go_roundw
        case rel =>
          refine ⟨j + 1, by omega, by go_num, ?_, HAS.out, ?_, HL4.out⟩
          · rw [HB.out, (emit_append (by decide) _ _).2, HQ'.out]
          · rw [HB.out, (emit_append (by decide) _ _).2, bytesOf_append, ← HQ'.out]
            exact HG3.out
        case measure => simp [intOf]; omega
    · obtain rfl : j = s.length := by omega
      rw [List.take_of_length_le (Nat.le_refl _)] at HG2 hol hrl HA HQ
      by_cases hz : q = 0
      · have HU := Lib.hid (show unspellL k S s = some (bytesOf (bitsK k (idx S s))) by rw [unspellL, if_pos ⟨HA.out, by rw [← HQ.out]; exact hz⟩])
        subst hz
        go_wp2_with fail
        refine (Tryd.Builder_String_any_k w.heap.size w.heap.size _ wr HG2.out.bld HG2.out.base).mono ?_
        rintro e w4 ⟨rfl, hb5, hl5, hk5⟩
        have HL5 := Lib.hid (HL3.out.trans hl5)
        clear hb5 hl5 hk5
        go_wp2
        go_ret2
        rw [HU.out]
        exact ⟨rfl, HL5.out⟩
      · have HU := Lib.hid (show unspellL k S s = none by rw [unspellL, if_neg (fun h => hz (by rw [HQ.out]; exact h.2))])
        have hz1 : ((q : Int) == 0) = false := by simpa using hz
        have hz2 : ((q : Int) != 0) = true := by simpa using hz
        go_wp2
        go_ret2
        rw [HU.out]
        exact ⟨rfl, HL3.out⟩
end Go.Proofs.YtdniojbplakeoaaDoor
