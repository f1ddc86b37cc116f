/-
  Contracts of what is handed groups, of gather, of spell: what is written of bytes, by signs.
  Texts of 100000 bytes at most.
-/
import Derived.Test.YtdniojbplakeoaaDoorGath
namespace Go.Proofs.YtdniojbplakeoaaDoor
open Go Go.RowKit
set_option maxRecDepth 100000

theorem str_getD (S : List UInt8) (v : Nat) (h : v < S.length) (h' : v < (str S).size) : (str S)[v]'h' = S.getD v 0 := by
  rw [List.getD_eq_getElem?_getD, List.getElem?_eq_getElem h]; rfl

theorem hand48 {B b sg k : Nat} {S : List UInt8} (hS : Signs k S) : Hands 48 #[.pointer (some ⟨b, 0, none⟩), .pointer (some ⟨sg, 0, none⟩)] (S.getD · 0) k B b sg (sv S) 9 1000000 := by
  intro v out w hv ht hb hs hB
  have hl : v < S.length := by rw [hS.length]; exact hv
  have c1 := hs.cell
  have HB := Lib.hid hb
  have HS := Lib.hid hS
  clear hb hS hs
  go_enter Tryd.func48, Tryd.ntmps48
  go_wp2_with fail
  rw [str_getD S v hl]
  refine (write_byte B b out (S.getD v 0) w HB.out ht hB).mono ?_
  rintro e w' ⟨rfl, h1, h2, h3⟩
  have H1 := Lib.hid h1
  have H2 := Lib.hid h2
  have H3 := Lib.hid h3
  clear h1 h2 h3
  go_wp2
  go_end0
  exact ⟨rfl, H1.out, H2.out, H3.out⟩

theorem hand52 {B b sg : Nat} {so : Value} {sT : TypeId} : Hands 52 #[.pointer (some ⟨b, 0, none⟩)] UInt8.ofNat 8 B b sg so sT 1000000 := by
  intro v out w hv ht hb hs hB
  have HB := Lib.hid hb
  have e : (v : Int) = ((UInt8.ofNat v).toNat : Int) := by
    rw [UInt8.toNat_ofNat_of_lt' hv]
  have HE := Lib.hid e
  clear hb hs e
  go_enter Tryd.func52, Tryd.ntmps52
  go_wp2_with fail
  rw [HE.out]
  refine (write_byte B b out (UInt8.ofNat v) w HB.out ht hB).mono ?_
  rintro e w' ⟨rfl, h1, h2, h3⟩
  have H1 := Lib.hid h1
  have H2 := Lib.hid h2
  have H3 := Lib.hid h3
  clear h1 h2 h3
  go_wp2
  go_end0
  exact ⟨rfl, H1.out, H2.out, H3.out⟩

/-- gather's closure, over blocks n, n + 1 (its parameters), n + 2, n + 3 (what it has). -/
abbrev clo (n : Nat) : Value := .func (.func 63) #[] #[.pointer (some ⟨n + 2, 0, none⟩), .pointer (some ⟨n + 3, 0, none⟩), .pointer (some ⟨n, 0, none⟩), .pointer (some ⟨n + 1, 0, none⟩)]

theorem gather_any (k K : Nat) (cap : Array Value) (w : World) :
    Calls Tryd.prog 47 #[.int .i64 k, .func (.func K) #[] cap] w fun e w' => e = .returned (clo w.heap.size) ∧
      w' = (((w.alloc (.cells #[.int .i64 k] 3)).alloc (.cells #[.func (.func K) #[] cap] 69)).alloc (.cells #[.int .i64 0] 3)).alloc (.cells #[.int .i64 0] 3) := by
  go_enter Tryd.func47, Tryd.ntmps47
  go_wp2_with fail
  go_ret
  exact ⟨rfl, rfl⟩

/-- What stands behind gather's call. -/
theorem gather_ga {w w' : World} {B b sg k K : Nat} {so : Value} {sT : TypeId} {cap : Array Value} {out : List UInt8}
    (hw : w' = (((w.alloc (.cells #[.int .i64 k] 3)).alloc (.cells #[.func (.func K) #[] cap] 69)).alloc (.cells #[.int .i64 0] 3)).alloc (.cells #[.int .i64 0] 3))
    (hb : Lib.IsBuilderF 47 5 B b (Lib.byteCells out) w) (hs : Bx w' sg so sT) (hB : B ≤ w.heap.size) :
    Ga w' B b sg w.heap.size (w.heap.size + 1) (w.heap.size + 2) (w.heap.size + 3) so sT k (.func (.func K) #[] cap) 0 0 out := by
  subst hw
  have e1 : (w.alloc (.cells #[.int .i64 (k : Int)] 3)).heap.size = w.heap.size + 1 := by simp
  have e2 : ((w.alloc (.cells #[.int .i64 (k : Int)] 3)).alloc (.cells #[.func (.func K) #[] cap] 69)).heap.size = w.heap.size + 2 := by simp
  have e3 : (((w.alloc (.cells #[.int .i64 (k : Int)] 3)).alloc (.cells #[.func (.func K) #[] cap] 69)).alloc (.cells #[.int .i64 0] 3)).heap.size = w.heap.size + 3 := by simp
  refine ⟨builder_alloc (builder_alloc (builder_alloc (builder_alloc hb _) _) _) _, hs, (((Bx.new w _ 3).alloc _).alloc _).alloc _, ?_, ?_, ?_, by simp; omega⟩
  · have := ((Bx.new (w.alloc (.cells #[.int .i64 (k : Int)] 3)) (.func (.func K) #[] cap) 69).alloc (.cells #[.int .i64 0] 3)).alloc (.cells #[.int .i64 0] 3)
    rwa [e1] at this
  · have := (Bx.new ((w.alloc (.cells #[.int .i64 (k : Int)] 3)).alloc (.cells #[.func (.func K) #[] cap] 69)) (.int .i64 0) 3).alloc (.cells #[.int .i64 0] 3)
    rwa [e2] at this
  · have := Bx.new (((w.alloc (.cells #[.int .i64 (k : Int)] 3)).alloc (.cells #[.func (.func K) #[] cap] 69)).alloc (.cells #[.int .i64 0] 3)) (.int .i64 0) 3
    rwa [e3] at this

theorem siz_new {w w' : World} {k K : Nat} {cap : Array Value}
    (hw : w' = (((w.alloc (.cells #[.int .i64 k] 3)).alloc (.cells #[.func (.func K) #[] cap] 69)).alloc (.cells #[.int .i64 0] 3)).alloc (.cells #[.int .i64 0] 3)) : Bx w' w.heap.size (.int .i64 k) 3 := by
  subst hw
  exact (((Bx.new w _ 3).alloc _).alloc _).alloc _

theorem nums_own {n B b : Nat} (hB : B ≤ n) (hb : b < n) : Nums B b n n (n + 1) (n + 2) (n + 3) 3 :=
  ⟨by omega, by omega, by omega, by omega, by omega, by omega, by omega, by omega, by omega, by omega, by omega, by omega, by omega, by omega, by decide⟩

theorem nums_of {n B b sg : Nat} {sT : TypeId} (hB : B ≤ n) (hb : b < n) (hs : sg < n) (hsb : sg ≠ b) (hT : sT ≠ 5) : Nums B b sg n (n + 1) (n + 2) (n + 3) sT :=
  ⟨by omega, by omega, by omega, by omega, by omega, by omega, by omega, by omega, by omega, by omega, by omega, hsb, by omega, by omega, hT⟩

theorem pad_eq {n k : Nat} (hk : k = 4 ∨ k = 6) : (8 * n + k - 1) / k * k - 8 * n = (k - 8 * n % k) % k := by
  rcases hk with rfl | rfl <;> omega

theorem bitsN_zero (n : Nat) : bitsN n 0 = List.replicate n false := by
  induction n with
  | zero => rfl
  | succ n ih => rw [bitsN, ih, List.replicate_succ, Nat.zero_testBit]

theorem count_eq {n k : Nat} (hk : 0 < k) : (8 * (n : Int) + (k : Int) - 1) / (k : Int) = (((8 * n + k - 1) / k : Nat) : Int) := by
  rw [Int.natCast_ediv]
  congr 1
  omega

theorem count_le {n k : Nat} (hk : 0 < k) (hk8 : k ≤ 8) (hn : n ≤ 100000) : (8 * n + k - 1) / k ≤ 1000000 ∧ 8 * n ≤ (8 * n + k - 1) / k * k := by
  constructor
  · exact Nat.le_trans (Nat.div_le_self _ _) (by omega)
  · have h1 := Nat.div_add_mod (8 * n + k - 1) k
    have h2 := Nat.mod_lt (8 * n + k - 1) hk
    rw [Nat.mul_comm] at h1
    omega

theorem bits8_take_succ {s : List UInt8} {j : Nat} (h : j < s.length) : bits8 (s.take (j + 1)) = bits8 (s.take j) ++ bitsN 8 (s.getD j 0).toNat := by
  rw [List.take_succ_eq_append_getElem h, bits8_append, List.getD_eq_getElem?_getD, List.getElem?_eq_getElem h]
  simp [bits8, nats, bitsK]

theorem spellL_append {k : Nat} (hk : 0 < k) (S : List UInt8) (l m : List Bool) : spellL k S (l ++ m) = spellL k S l ++ (emit k (rest k l ++ m)).map (S.getD · 0) := by
  rw [spellL, (emit_append hk l m).1, List.map_append]; rfl

theorem padn {C k n : Nat} (hC : C ≤ 1000000) (hk : k ≤ 8) (h : 8 * n ≤ C * k) (hn : n ≤ 100000) : wrap64 (wrap64 ((C : Int) * (k : Int)) - 8 * (n : Int)) = ((C * k - 8 * n : Nat) : Int) := by
  have h1 : C * k ≤ 1000000 * 8 := Nat.mul_le_mul hC hk
  have e : (C : Int) * (k : Int) = ((C * k : Nat) : Int) := by push_cast; rfl
  rw [e]
  generalize C * k = P at *
  unfold wrap64
  omega

set_option maxHeartbeats 2000000 in
theorem spell_any (s S : List UInt8) (k : Nat) (w : World) (hS : Signs k S) (hk : k = 4 ∨ k = 6) (hs : s.length ≤ 100000) :
    Calls Tryd.prog 29 #[.string (str s), .string (str S), .int .i64 k] w fun e w' => e = .returned (.string (str (spellL k S (padded k (bits8 s))))) ∧ Below w.heap.size w w' := by
  have hk0 : 0 < k := hS.pos
  have hk8 := hS.le
  have hB0 : (w.alloc (.cells #[sv S] 9)).heap.size = w.heap.size + 1 := by simp
  obtain ⟨wb, hwb⟩ : ∃ wb, wb = (w.alloc (.cells #[sv S] 9)).alloc (.cells #[.pointer none, .slice none 0 0] 47) := ⟨_, rfl⟩
  have hsz : wb.heap.size = w.heap.size + 2 := by rw [hwb]; simp
  have hbk : wb.heap[w.heap.size + 1]? = some (.cells #[.pointer none, .slice none 0 0] 47 (0, 0)) := by rw [hwb, ← hB0]; exact heap_alloc_new _ _
  have hbx : Bx wb w.heap.size (sv S) 9 := by rw [hwb]; exact (Bx.new w (sv S) 9).alloc _
  have hbl : Below w.heap.size w wb := by rw [hwb]; exact ((Below.refl _ _).alloc (Nat.le_refl _) _).alloc (by simp) _
  have HS := Lib.hid hS
  have HSZ := Lib.hid hsz
  have HBK := Lib.hid hbk
  have HBX := Lib.hid hbx
  have HBL := Lib.hid hbl
  have HWB := Lib.hid hwb
  have HK := Lib.hid hk
  clear hsz hbk hbx hbl hwb hB0 hS hk
  go_enter Tryd.func29, Tryd.ntmps29
  go_wp2_with fail
  rw [count_eq hk0, ← HWB.out]
  have hcl := count_le hk0 hk8 hs
  have hpad := pad_eq (n := s.length) HK.out
  obtain ⟨C, hC⟩ : ∃ C, C = (8 * s.length + k - 1) / k := ⟨_, rfl⟩
  rw [← hC] at hcl hpad ⊢
  obtain ⟨hC1, hC2⟩ := hcl
  refine (Tryd.Builder_Grow_fresh (w.heap.size + 1) (w.heap.size + 1) C wb (Nat.le_refl _) HBK.out (by have := HSZ.out; omega) (by omega)).mono ?_
  rintro e w1 ⟨rfl, hb1, hl1⟩
  have hlt := hb1.lt
  have HB1 := Lib.hid (Lib.BuilderAtF.of hb1)
  have HX1 := Lib.hid (HBX.out.below hl1 (by omega))
  have HL1 := Lib.hid (HBL.out.trans (hl1.mono (by omega)))
  have HPAD := Lib.hid hpad
  have HCC := Lib.hid hC
  clear hb1 hl1 hpad hC
  go_wp2_with fail
  refine (gather_any k 48 _ w1).mono ?_
  rintro e w2 ⟨rfl, hw2⟩
  have hn := nums_of (n := w1.heap.size) (B := w.heap.size + 1) (b := w.heap.size + 1) (sg := w.heap.size) (sT := 9) (by omega) (by omega) (by omega) (by omega) (by decide)
  have hg := gather_ga (B := w.heap.size + 1) (b := w.heap.size + 1) (out := []) hw2 (.inr HB1.out) (by rw [hw2]; exact (((HX1.out.alloc _).alloc _).alloc _).alloc _) (by omega)
  have hl2 : Below w.heap.size w w2 := by
    rw [hw2]
    exact (((HL1.out.alloc (by omega) _).alloc (by simp; omega) _).alloc (by simp; omega) _).alloc (by simp; omega) _
  have HN := Lib.hid hn
  have HG := Lib.hid hg
  have HL2 := Lib.hid hl2
  clear hw2 hn hg hl2
  obtain ⟨m, hm⟩ : ∃ m, m = w1.heap.size := ⟨_, rfl⟩
  rw [← hm] at HN HG ⊢
  clear hm hlt HX1 HB1 HL1
  go_wp2_with fail
  go_loopw [26] (fun i wr => ∃ j : Nat, j ≤ s.length ∧ i = .int .i64 j ∧ Ga wr (w.heap.size + 1) (w.heap.size + 1) w.heap.size m (m + 1) (m + 2) (m + 3) (sv S) 9 k (.func (.func 48) #[] #[.pointer (some ⟨w.heap.size + 1, 0, none⟩), .pointer (some ⟨w.heap.size, 0, none⟩)]) (num (rest k (bits8 (s.take j)))) (rest k (bits8 (s.take j))).length (spellL k S (bits8 (s.take j))) ∧ Below w.heap.size w wr) (fun i _ => s.length - (intOf i).toNat)
  case atStart =>
    refine ⟨0, Nat.zero_le _, rfl, ?_, HL2.out⟩
    have e0 : bits8 (s.take 0) = [] := rfl
    rw [e0, spellL, (emit_short (k := k) (l := []) hk0).1, (emit_short (k := k) (l := []) hk0).2]
    exact HG.out
  case round =>
    obtain ⟨j, hj, rfl, hg, hl⟩ := hrel
    have HG2 := Lib.hid hg
    have HL3 := Lib.hid hl
    clear hg hl
    have hol : (spellL k S (bits8 (s.take j))).length ≤ 800000 := by
      rw [spellL_length, bits8_length, List.length_take]
      exact Nat.le_trans (Nat.div_le_self _ _) (by omega)
    have hrl := rest_lt hk0 (bits8 (s.take j))
    by_cases hlt : j < s.length
    · go_wp2_with fail
      rw [str_getD s j hlt]
      refine (gath48 HN.out (hand48 HS.out) (rest k (bits8 (s.take j))) (s.getD j 0).toNat 8 _ wr HG2.out hk0 hk8 hrl (UInt8.toNat_lt _) (UInt8.toNat_lt _) (by decide) (by omega)).mono ?_
      rintro e w3 ⟨rfl, hl3, hg3⟩
      have HG3 := Lib.hid hg3
      have HL4 := Lib.hid (HL3.out.trans (hl3.mono (by omega)))
      have HT := Lib.hid (bits8_take_succ hlt)
      clear hg3 hl3 hol hrl
      go_wp2
      go_roundw
      case rel =>
        refine ⟨j + 1, by omega, by go_num, ?_, HL4.out⟩
        rw [HT.out, (emit_append hk0 _ _).2, spellL_append hk0]
        exact HG3.out
      case measure => simp [intOf]; omega
    · obtain rfl : j = s.length := by omega
      rw [List.take_of_length_le (Nat.le_refl _)] at HG2 hol hrl
      go_wp2_with fail
      rw [padn hC1 hk8 hC2 hs, HPAD.out]
      have hpk : (k - 8 * s.length % k) % k < k := Nat.mod_lt _ hk0
      refine (gath48 HN.out (hand48 HS.out) (rest k (bits8 s)) 0 ((k - 8 * s.length % k) % k) _ wr HG2.out hk0 hk8 hrl (by decide) (Nat.two_pow_pos _) (by omega) (by omega)).mono ?_
      rintro e w3 ⟨rfl, hl3, hg3⟩
      have hb3 := hg3.bld
      rw [bitsN_zero, ← spellL_append hk0, ← bits8_length, ← padded] at hb3
      have HB3 := Lib.hid hb3
      have HB4 := Lib.hid hg3.base
      have HL4 := Lib.hid (HL3.out.trans (hl3.mono (by omega)))
      clear hg3 hl3 hol hrl hpk hb3
      go_wp2_with fail
      refine (Tryd.Builder_String_any_k (w.heap.size + 1) (w.heap.size + 1) _ w3 HB3.out HB4.out).mono ?_
      rintro e w4 ⟨rfl, hb5, hl5, hk5⟩
      have HL5 := Lib.hid (HL4.out.trans (hl5.mono (by omega)))
      clear hb5 hl5 hk5
      go_wp2
      go_ret
      exact ⟨rfl, HL5.out⟩
end Go.Proofs.YtdniojbplakeoaaDoor
