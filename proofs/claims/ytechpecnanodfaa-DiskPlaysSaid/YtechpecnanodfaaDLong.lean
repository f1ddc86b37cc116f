/-
  What the laws use: full, is, ints, long; steps as they lie.
-/
import Derived.Test.YtechpecnanodfaaDBytes
namespace Go.Proofs.Ytechpecnanodfaa
open Go Go.RowKit Go.Maps
set_option maxRecDepth 100000
set_option linter.unusedSimpArgs false
set_option linter.unusedVariables false

set_option maxHeartbeats 1000000 in
theorem full_any {w : World} (y : UInt8) : Calls Try.prog 12 #[.int .u8 (y.toNat : Int)] w fun e w' => e = .returned (sv (fullL y)) ∧ Below w.heap.size w w' := by
  have cb := bytes_any (w := w) 0 0 y (odd := 0) (.slice none 0 0) rfl (by omega)
  rw [stB_zero] at cb
  have CB := Lib.hid cb
  clear cb
  go_enter Try.func12, Try.ntmps12
  go_wp2_with (go_at_call 28; refine CB.out.mono ?_; rintro e w1 ⟨rfl, hb1⟩)
  go_ret
  exact ⟨rfl, hb1⟩

def isD (S : DS) (a : Int) (s : List UInt8) : Bool := decide (S.rdE a = 0) && decide (S.rdV a = s)
set_option maxHeartbeats 1000000 in
theorem is_any {w : World} {p bl bd : Nat} {S : DS} (h : PD w p bl bd S) (a : Int) (s : List UInt8) :
    Calls Try.prog 21 #[dp p, .int .i64 a, sv s] w fun e w' => e = .returned (.bool (isD S a s)) ∧ Below w.heap.size w w' := by
  have CR := Lib.hid (read_any h a)
  have HD := Lib.hid (show isD S a s = (decide (S.rdE a = 0) && decide (S.rdV a = s)) from rfl)
  clear h
  generalize S.rdV a = v at CR HD
  generalize S.rdE a = er at CR HD
  go_enter Try.func21, Try.ntmps21
  by_cases he : er = 0
  · subst he
    go_wp2_with (go_at_call 9; refine CR.out.mono ?_; rintro e w1 ⟨rfl, hb1⟩)
    go_ret
    refine ⟨?_, hb1⟩
    rw [HD.out]
    have e : (v == s) = decide (v = s) := by rw [Bool.eq_iff_iff]; simp
    simp [e]
  · have he2 : (er == 0) = false := by simpa using he
    go_wp2_with (go_at_call 9; refine CR.out.mono ?_; rintro e w1 ⟨rfl, hb1⟩)
    go_ret
    refine ⟨?_, hb1⟩
    rw [HD.out]
    simp [he]

theorem ints_eq {L M : List Int} (hl : L.length = M.length) (h : ∀ j, j < L.length → L.getD j 0 = M.getD j 0) : L = M := by
  refine List.ext_getElem hl fun j h1 h2 => ?_
  have := h j h1
  rwa [List.getD_eq_getElem?_getD, List.getD_eq_getElem?_getD, List.getElem?_eq_getElem h1, List.getElem?_eq_getElem h2] at this
set_option maxHeartbeats 2000000 in
theorem ints_any {w : World} {A B : Option Addr} {c d : Nat} {L M : List Int} (hL : IR w A L) (hM : IR w B M) (h1 : L.length ≤ 100000) (h2 : M.length ≤ 9223372036854775807) :
    Calls Try.prog 22 #[.slice A L.length c, .slice B M.length d] w fun e w' => e = .returned (.bool (decide (L = M))) ∧ Below w.heap.size w w' := by
  by_cases hlen : L.length = M.length
  · have hM' : ∀ j, j < L.length → ∃ b o, B = some ⟨b, o, none⟩ ∧ b < w.heap.size ∧ w.cell? ⟨b, o + j, none⟩ = some (.int .i64 (M.getD j 0)) := fun j hj => hM j (by omega)
    rw [← hlen]
    have HLN := Lib.hid hlen
    generalize hn : L.length = n at h1 ⊢
    have HN := Lib.hid hn
    have HL := Lib.hid hL
    have HM := Lib.hid hM'
    clear hL hM hM' hlen hn h2
    go_enter Try.func22, Try.ntmps22
    go_wp2_with fail
    go_loopw [5] (fun kv wr => ∃ (k : Nat), kv = .int .i64 (k : Int) ∧ k ≤ n ∧ (∀ j, j < k → L.getD j 0 = M.getD j 0) ∧ Below w.heap.size w wr) (fun kv _ => n - (RowKit.intOf kv).toNat)
    case atStart => exact ⟨0, rfl, by omega, fun j hj => by omega, Below.refl _ _⟩
    case round =>
      obtain ⟨k, rfl, hkn, hsame, hB⟩ := hrel
      have HS := Lib.hid hsame
      have HB := Lib.hid hB
      by_cases hk : k < n
      · obtain ⟨b, o, rfl, hb, hc⟩ := HL.out k (by rw [HN.out]; exact hk)
        obtain ⟨b', o', rfl, hb', hc'⟩ := HM.out k (by rw [HN.out]; exact hk)
        have hx : wr.cell? ⟨b, o + k, none⟩ = _ := (hB.cell (p := ⟨b, o + k, none⟩) hb).trans hc
        have hy : wr.cell? ⟨b', o' + k, none⟩ = _ := (hB.cell (p := ⟨b', o' + k, none⟩) hb').trans hc'
        have hki : (k : Int) < (n : Int) := by omega
        have hk0 : (0 : Int) ≤ (k : Int) := by omega
        have hwr : IntKind.i64.wrap ((k : Int) + 1) = (k : Int) + 1 := IntWalk.i64_in _ (by omega)
        have HQ : Hid (∀ x y, x = L.getD k 0 → y = M.getD k 0 → x = y → ∀ j, j < k + 1 → L.getD j 0 = M.getD j 0) := by
          intro x y h1 h2 h3 j hj
          by_cases e : j = k
          · subst e; rw [← h1, ← h2, h3]
          · exact HS.out j (by omega)
        have HE : Hid (∀ x y, x = L.getD k 0 → y = M.getD k 0 → x ≠ y → ¬ L = M) := by
          intro x y h1 h2 h3 e
          exact h3 (by rw [h1, h2, e])
        obtain ⟨x, hxe⟩ : ∃ x, x = L.getD k 0 := ⟨_, rfl⟩
        obtain ⟨y, hye⟩ : ∃ y, y = M.getD k 0 := ⟨_, rfl⟩
        rw [← hxe] at hx
        rw [← hye] at hy
        have HXE := Lib.hid hxe
        have HYE := Lib.hid hye
        clear hsame hB hc hc' hxe hye
        by_cases hxy : x = y
        · have HXY := Lib.hid hxy
          rw [← hxy] at hy
          clear hxy
          go_wp2_with fail
          go_big_quiet (fail)
          go_wp2_with fail
          go_roundw
          case rel => exact ⟨k + 1, by go_num, by omega, HQ.out x y HXE.out HYE.out HXY.out, ⟨HB.out.os, HB.out.tape, HB.out.output, HB.out.size, HB.out.block⟩⟩
          case measure => simp [RowKit.intOf]; omega
        · have hne : (x != y) = true := by simpa using hxy
          have hne2 : (x == y) = false := by simpa using hxy
          go_wp2_with fail
          go_big_quiet (fail)
          go_wp2_with fail
          go_ret
          exact ⟨by simp [HE.out x y HXE.out HYE.out hxy], ⟨HB.out.os, HB.out.tape, HB.out.output, HB.out.size, HB.out.block⟩⟩
      · have hk2 : ¬ (k : Int) < (n : Int) := by omega
        have hkk : k = n := by omega
        have HE := Lib.hid (ints_eq HLN.out (fun j hj => HS.out j (by rw [hkk, ← HN.out]; exact hj)))
        clear hsame hB hkk
        go_wp2_with fail
        go_ret
        exact ⟨by simp [HE.out], HB.out⟩
  · have hne : ((L.length : Int) != (M.length : Int)) = true := by simp; omega
    have HE := Lib.hid (show ¬ L = M from fun e => hlen (by rw [e]))
    generalize L.length = n at h1 hne ⊢
    generalize M.length = m at h2 hne ⊢
    clear hL hM hlen
    go_enter Try.func22, Try.ntmps22
    go_wp2_with fail
    all_goals (try go_ret)
    all_goals (try exact ⟨by simp [HE.out], Below.refl _ _⟩)
end Go.Proofs.Ytechpecnanodfaa
