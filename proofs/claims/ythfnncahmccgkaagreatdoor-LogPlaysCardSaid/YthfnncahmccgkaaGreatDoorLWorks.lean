/-
  The laws' works.
-/
import Derived.Test.YthfnncahmccgkaaGreatDoorLLaw
namespace Go.Proofs.YthfnncahmccgkaaGreatDoor
open Go Go.RowKit Go.Maps
set_option maxRecDepth 100000
set_option linter.unusedSimpArgs false
set_option linter.unusedVariables false

section
variable {w0 w : World} {os : List Ob} {p bl bd : Nat} {S : DS} (h : Obs w0 w os) (i : Nat) (hi : os[i]? = some (pdOb p bl bd S))
include h hi
theorem begin_ok_o (hops : S.ops < 4611686018427380000) (half age : Int) (s : List UInt8) (hs : s.length ≤ 140737488351232) (h0 : begE S half age s = 0) :
    Calls Tryz.prog 7 #[dp p, .int .i64 half, .int .i64 age, sv s] w fun e w' => ∃ q, e = .returned (.tuple #[dp q, .int .i64 0]) ∧ Obs w0 w' (os.set i (pdOb p bl bd (begS S half age s)) ++ [lgOb q p (begL S half age s)]) := by
  refine (begin_o h i hi hops half age s hs).mono ?_
  rintro e w' ⟨v, rfl, ⟨_, q, rfl, hO⟩ | ⟨hne, _⟩⟩
  · exact ⟨q, by rw [h0], hO⟩
  · exact absurd h0 hne
theorem begin_no_o (hops : S.ops < 4611686018427380000) (half age : Int) (s : List UInt8) (hs : s.length ≤ 140737488351232) {z : Int} (h0 : begE S half age s = z) (hz : z ≠ 0) :
    Calls Tryz.prog 7 #[dp p, .int .i64 half, .int .i64 age, sv s] w fun e w' => e = .returned (.tuple #[.pointer none, .int .i64 z]) ∧ Obs w0 w' (os.set i (pdOb p bl bd (begS S half age s))) := by
  refine (begin_o h i hi hops half age s hs).mono ?_
  rintro e w' ⟨v, rfl, ⟨h1, _⟩ | ⟨hne, rfl, hO⟩⟩
  · exact absurd (h0 ▸ h1) hz
  · exact ⟨by rw [h0], hO⟩
end
theorem zr_old : oldL zrL = 0 := by decide +kernel
theorem topL_new (n : Nat) : topL (DS.new n).now = 0 := by
  rw [topL_eq]
  have : topM (DS.new n).now ≤ 0 := topM_le.2 fun x hx => by
    simp only [DS.new, List.mem_replicate] at hx
    rw [hx.2, zr_old]
    exact Nat.le_refl _
  omega
theorem agL_zr : agL zrL = 0 := by have := agL_le zrL; have := zr_old; omega
/-- A half of which the first sector has no age. -/
theorem scn_none {S : DS} (ho : S.off = false) {half : Nat} (hh : half < 2) (ha : ageH (hsec S half) = 0) : scnE S (half : Int) = 5 := by
  have e : scnR S half = [] := by
    rw [scnR, ha]
    show recsF _ 0 (_ + 1) 0 = []
    rw [recsF, if_neg (by rw [join_zero]; simp)]
  rw [scnE, if_pos (by omega), if_neg (by rw [ho]; simp), Int.toNat_natCast, if_pos e]
theorem ageH_new (n half : Nat) : ageH (hsec (DS.new n) half) = 0 := by
  unfold ageH
  cases h : (hsec (DS.new n) half)[0]? with
  | none => rw [List.getD_eq_getElem?_getD, h]; exact agL_nil
  | some x =>
    rw [List.getD_eq_getElem?_getD, h]
    have hm : x ∈ (DS.new n).now := List.mem_of_mem_drop (List.mem_of_mem_take (List.mem_of_getElem? h))
    simp only [DS.new, List.mem_replicate] at hm
    show agL x = 0
    rw [hm.2]; exact agL_zr
/-- What works comes by. -/
structure WkF (S1 S2 : DS) (l1 l2 : LS) : Prop where
  b : begE (DS.new 4) 1 1 [115] = 0
  bs : begS (DS.new 4) 1 1 [115] = S1
  bl : begL (DS.new 4) 1 1 [115] = l1
  o0 : (DS.new 4).ops < 1000
  o1 : S1.ops < 1000
  n1 : S1.was.length = 4
  k1 : l1.Ok S1.was.length
  r1 : S1.was.length / 2 - l1.used = 1
  a : addE S1 l1 [114] = 0
  asx : addS S1 l1 [114] = S2
  alx : addL S1 l1 [114] = l2
  o2 : S2.ops < 1000
  n2 : S2.was.length = 4
  k2 : l2.Ok S2.was.length
  r2 : S2.was.length / 2 - l2.used = 0
  c : addE S2 l2 [] = 41
  cs : addS S2 l2 [] = S2
  cl : addL S2 l2 [] = l2
  sc : scnE S2 0 = 5
  hs : HasB S2 1 1 [[115], [114]]
  tp : topZ S2 = 1
theorem wkF : ∃ S1 S2 l1 l2, WkF S1 S2 l1 l2 := by
  have m1 : manyN [(115 : UInt8)].length = 1 := by decide
  have m2 : manyN [(114 : UInt8)].length = 1 := by decide
  have m0 : manyN ([] : List UInt8).length = 1 := by decide
  have hok := DS.Ok.new (n := 4) (by omega) (by omega)
  have hl4 : (DS.new 4).was.length = 4 := by decide +kernel
  rcases LI.begin (S := DS.new 4) hok rfl (by decide) (half := 1) (age := 1) (by decide) (by rw [topL_new]; decide) [115] with ⟨_, b, h1, b1, b2, b3, b4, _, b6⟩ | ⟨hn, _⟩
  · obtain ⟨L1, hL1⟩ : ∃ L1, L1 = begL (DS.new 4) 1 1 [115] := ⟨_, rfl⟩
    have hL1' : lwrL (DS.new 4) (newL 1 1) [115] = L1 := hL1.symm
    rw [hL1'] at h1 b1 b2 b3
    have n1 : (begS (DS.new 4) 1 1 [115]).was.length = 4 := by rw [b6, hl4]
    rcases h1.add [114] with ⟨_, a, h2, a1, a2, a3, a4, _, a6⟩ | ⟨hn, _⟩
    · have n2 : (addS (begS (DS.new 4) 1 1 [115]) L1 [114]).was.length = 4 := by rw [a6, n1]
      have u2 : (addL (begS (DS.new 4) 1 1 [115]) L1 [114]).used = 2 := by rw [a3, b3, m1, m2]
      rcases h2.add [] with ⟨hc, _⟩ | ⟨_, c, c2, c3⟩
      · rw [m0, n2, u2] at hc; omega
      · have hh := h2.has (by simp)
        have ht := h2.topIs (by simp)
        have e1 : (addL (begS (DS.new 4) 1 1 [115]) L1 [114]).half = 1 := by rw [a1, b1]; rfl
        have e2 : (addL (begS (DS.new 4) 1 1 [115]) L1 [114]).age = 1 := by rw [a2, b2]; rfl
        rw [e1, e2] at hh
        rw [e2] at ht
        have hoth := h2.other
        rw [e1] at hoth
        refine ⟨_, _, _, _, ⟨b, rfl, hL1.symm, by decide, by rw [b4, m1]; decide, n1, h1.lo, ?_, a, rfl, rfl, by rw [a4, b4, m1, m2]; decide, n2, h2.lo, by rw [n2, u2], c, c2, c3, ?_, hh, by rw [topZ, h2.on, if_neg (by simp), ht]; rfl⟩⟩
        · rw [n1]
          rw [b3, m1]
        · exact scn_none h2.on (half := 0) (by omega) (by rw [show (0 : Nat) = 1 - 1 from rfl, hoth]; exact ageH_new 4 _)
    · exfalso
      have u1 : L1.used = 1 := by rw [b3, m1]
      rw [m2, n1, u1] at hn; omega
  · rw [m1, hl4] at hn; omega

set_option maxHeartbeats 16000000 in
theorem works12_any {w : World} : Calls Tryz.prog 10 #[] w fun e w' => e = .returned (.bool true) ∧ Below w.heap.size w w' := by
  obtain ⟨S1, S2, l1, l2, F⟩ := wkF
  have O0 := Obs.start w
  have NW := show Calls Tryz.prog 14 #[.int .i64 4] w (fun e w' => ∃ p bl bd, e = .returned (.tuple #[dp p, .int .i64 0]) ∧ Obs w w' [pdOb p bl bd (DS.new 4)]) from new_o O0 (n := 4) (by omega) (by omega)
  have HA := fun W => @half_any W 4 1 (by omega)
  rw [show halfF 4 1 = (2, 2) by decide] at HA
  have BG := Lib.hid (fun W p bl bd (hO : Obs w W [pdOb p bl bd (DS.new 4)]) => show Calls Tryz.prog 7 #[dp p, .int .i64 1, .int .i64 1, .string ⟨#[115]⟩] W (fun e w' => ∃ q, e = .returned (.tuple #[dp q, .int .i64 0]) ∧ Obs w w' [pdOb p bl bd S1, lgOb q p l1]) from by
    have := begin_ok_o hO 0 rfl (by have := F.o0; omega) 1 1 [115] (by decide) F.b
    rw [F.bs, F.bl] at this
    exact this)
  have R1 := Lib.hid (fun W p bl bd q (hO : Obs w W [pdOb p bl bd S1, lgOb q p l1]) => show Calls Tryz.prog 12 #[dp q] W (fun e w' => e = .returned (.int .i64 1) ∧ Obs w w' [pdOb p bl bd S1, lgOb q p l1]) from by
    have := room_o hO 0 rfl 1 rfl F.k1
    rw [F.r1] at this
    exact this)
  have AD := Lib.hid (fun W p bl bd q (hO : Obs w W [pdOb p bl bd S1, lgOb q p l1]) => show Calls Tryz.prog 11 #[dp q, .string ⟨#[114]⟩] W (fun e w' => e = .returned (.int .i64 0) ∧ Obs w w' [pdOb p bl bd S2, lgOb q p l2]) from by
    have := add_o hO 0 rfl 1 (by decide) rfl F.k1 (by have := F.o1; omega) [114] (by decide)
    rw [F.a, F.asx, F.alx] at this
    exact this)
  have R2 := Lib.hid (fun W p bl bd q (hO : Obs w W [pdOb p bl bd S2, lgOb q p l2]) => show Calls Tryz.prog 12 #[dp q] W (fun e w' => e = .returned (.int .i64 0) ∧ Obs w w' [pdOb p bl bd S2, lgOb q p l2]) from by
    have := room_o hO 0 rfl 1 rfl F.k2
    rw [F.r2] at this
    exact this)
  have AE := Lib.hid (fun W p bl bd q (hO : Obs w W [pdOb p bl bd S2, lgOb q p l2]) => show Calls Tryz.prog 11 #[dp q, .string ⟨#[]⟩] W (fun e w' => e = .returned (.int .i64 41) ∧ Obs w w' [pdOb p bl bd S2, lgOb q p l2]) from by
    have := add_o hO 0 rfl 1 (by decide) rfl F.k2 (by have := F.o2; omega) [] (by decide)
    rw [F.c, F.cs, F.cl] at this
    exact this)
  have SC := Lib.hid (fun W p bl bd q (hO : Obs w W [pdOb p bl bd S2, lgOb q p l2]) => show Calls Tryz.prog 8 #[dp p, .int .i64 0] W (fun e w' => ∃ a A c, e = .returned (.tuple #[.int .i64 a, .slice A (scnL S2 0).length c, .int .i64 5]) ∧ Obs w w' [pdOb p bl bd S2, lgOb q p l2]) from by
    refine (scan_o hO 0 rfl 0).mono ?_
    rintro e w' ⟨v, rfl, hro⟩
    obtain ⟨A, c, rfl, _⟩ := hro.form
    rw [F.sc]
    exact ⟨_, A, c, rfl, hO.step hro.below⟩)
  have HS := Lib.hid (fun W p bl bd q (hO : Obs w W [pdOb p bl bd S2, lgOb q p l2]) => show Calls Tryz.prog 20 #[dp p, .int .i64 1, .int .i64 1, .slice (some ⟨W.heap.size, 0, none⟩) 2 2] (W.alloc (.cells #[.string ⟨#[115]⟩, .string ⟨#[114]⟩] 9)) (fun e w' => e = .returned (.bool true) ∧ Obs w w' [pdOb p bl bd S2, lgOb q p l2]) from by
    have hO2 := hO.alloc (.cells #[.string ⟨#[115]⟩, .string ⟨#[114]⟩] 9)
    have hT : Tx (W.alloc (.cells #[.string ⟨#[115]⟩, .string ⟨#[114]⟩] 9)) (some ⟨W.heap.size, 0, none⟩) [[115], [114]] := TB.tx (xs := [[115], [114]]) (heap_alloc_new W _)
    refine (has12_any (hO2.get (i := 0) rfl) 1 1 (c := 2) hT (by decide)).mono ?_
    rintro e w' ⟨rfl, hb⟩
    exact ⟨by rw [hasB_true F.hs], hO2.step hb⟩)
  have TP := Lib.hid (fun W p bl bd q (hO : Obs w W [pdOb p bl bd S2, lgOb q p l2]) => show Calls Tryz.prog 15 #[dp p] W (fun e w' => e = .returned (.int .i64 1) ∧ Obs w w' [pdOb p bl bd S2, lgOb q p l2]) from by
    refine (top12_any (hO.get (i := 0) rfl)).mono ?_
    rintro e w' ⟨rfl, hb⟩
    exact ⟨by rw [F.tp], hO.step hb⟩)
  clear F O0
  generalize (scnL S2 0).length = nl at SC
  go_enter Tryz.func10, Tryz.ntmps10
  go_wp2_with (first
    | (go_at_call 14; with_reducible refine NW.mono ?_; rintro e w1 ⟨p, bl, bd, rfl, hO1⟩)
    | (go_at_call 16; with_reducible refine (HA _).mono ?_; rintro e w2 ⟨rfl, rfl⟩)
    | (go_at_call 7; with_reducible refine (BG.out _ p bl bd hO1).mono ?_; rintro e w3 ⟨q, rfl, hO3⟩)
    | (go_at_call 8; with_reducible refine (SC.out _ p bl bd q hO7).mono ?_; rintro e w8 ⟨a8, A8, c8, rfl, hO8⟩)
    | (go_at_call 20; with_reducible refine (HS.out _ p bl bd q hO8).mono ?_; rintro e w9 ⟨rfl, hO9⟩)
    | (go_at_call 15; with_reducible refine (TP.out _ p bl bd q hO9).mono ?_; rintro e w10 ⟨rfl, hO10⟩)
    | (go_at_call 12; with_reducible refine (R2.out _ p bl bd q hO5).mono ?_; rintro e w6 ⟨rfl, hO6⟩; clear hO5)
    | (go_at_call 12; with_reducible refine (R1.out _ p bl bd q hO3).mono ?_; rintro e w4 ⟨rfl, hO4⟩; clear hO3)
    | (go_at_call 11; with_reducible refine (AE.out _ p bl bd q hO6).mono ?_; rintro e w7 ⟨rfl, hO7⟩; clear hO6)
    | (go_at_call 11; with_reducible refine (AD.out _ p bl bd q hO4).mono ?_; rintro e w5 ⟨rfl, hO5⟩; clear hO4))
  go_ret
  exact ⟨rfl, hO10.bel⟩
end Go.Proofs.YthfnncahmccgkaaGreatDoor
