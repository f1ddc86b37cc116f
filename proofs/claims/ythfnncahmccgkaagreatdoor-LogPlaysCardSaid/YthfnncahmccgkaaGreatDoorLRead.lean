/-
  What is read of a disk's places: the sectors that stand there; a half's age; the greatest number.
-/
import Derived.Test.YthfnncahmccgkaaGreatDoorLProg
import Derived.Test.YthfnncahmccgkaaGreatDoorFRsM
import Derived.Test.YthfnncahmccgkaaGreatDoorFGtM
namespace Go.Proofs.YthfnncahmccgkaaGreatDoor
open Go Go.RowKit Go.Maps
set_option maxRecDepth 100000
set_option linter.unusedSimpArgs false
set_option linter.unusedVariables false

/-- What was read of these places: the sectors, in a row of one's own; none: the power is off. -/
def RdPost (w : World) (S : DS) (f m : Nat) (e : Ending) (w' : World) : Prop :=
  ∃ v, e = .returned (.tuple #[v, .int .i64 (topE S)]) ∧ Ro w w' v (if S.off then [] else (S.now.drop f).take m)
theorem drop_next {l : List (List UInt8)} {f k : Nat} (h : f + k < l.length) : (l.drop f).take (k + 1) = (l.drop f).take k ++ [l.getD (f + k) []] := by
  rw [List.take_add_one, List.getElem?_drop, List.getElem?_eq_getElem h, List.getD_eq_getElem?_getD, List.getElem?_eq_getElem h]
  rfl
set_option maxHeartbeats 4000000 in
theorem rdlog_any {w : World} {p bl bd : Nat} {S : DS} (h : PD w p bl bd S) {A : Option Addr} {c f m : Nat} (hA : IR w A (upF f m)) (hfm : f + m ≤ S.was.length) :
    Calls Tryz.prog 36 #[dp p, .slice A m c] w (RdPost w S f m) := by
  have ON := on_any h
  cases hoff : S.off with
  | true =>
    rw [hoff] at ON
    have HE := Lib.hid (show topE S = 42 by simp [topE, hoff])
    have HO := Lib.hid hoff
    clear h hoff
    go_enter Tryz.func36, Tryz.ntmps36
    go_wp2_with (go_at_call 33; refine ON.mono ?_; rintro e w1 ⟨rfl, hb1⟩)
    go_ret2
    exact ⟨.slice none 0 0, by rw [HE.out]; rfl, by rw [HO.out]; exact (Ro.nil w).step hb1⟩
  | false =>
    rw [hoff] at ON
    have HE := Lib.hid (show topE S = 0 by simp [topE, hoff])
    have HO := Lib.hid hoff
    have HH := Lib.hid h
    have HA := Lib.hid hA
    have hn2 := h.ok.n2
    have hnl := h.ok.hn
    have RDA := Lib.hid (fun W (hW : PD W p bl bd S) (k : Nat) (hk : k < m) => show Calls Tryz.prog 59 #[dp p, .int .i64 ((f + k : Nat) : Int)] W fun e w' => e = .returned (.tuple #[sv (S.now.getD (f + k) []), .int .i64 0]) ∧ Below W.heap.size W w' from by
      have := read_any hW ((f + k : Nat) : Int)
      have e1 : S.rdE ((f + k : Nat) : Int) = 0 := by simp [DS.rdE, hoff, DS.has]; omega
      have e2 : S.rdV ((f + k : Nat) : Int) = S.now.getD (f + k) [] := by rw [DS.rdV, e1, if_pos rfl]; rfl
      rwa [e1, e2] at this)
    have HNX := Lib.hid (fun k (hk : k < m) => @drop_next S.now f k (by omega))
    have HLN := Lib.hid (fun k (hk : k ≤ m) => show ((S.now.drop f).take k).length = k by simp; omega)
    have hm : m ≤ 1024 := by omega
    clear h hoff hA hn2 hnl hfm
    go_enter Tryz.func36, Tryz.ntmps36
    go_wp2_with (go_at_call 33; refine ON.mono ?_; rintro e w1 ⟨rfl, hb1⟩)
    have HB1 := Lib.hid hb1
    clear hb1 ON
    go_loopw [6, 16] (fun o i wr => ∃ k : Nat, k ≤ m ∧ i = .int .i64 k ∧ Ro w wr o ((S.now.drop f).take k)) (fun _ i _ => m - (intOf i).toNat)
    case atStart => exact ⟨0, Nat.zero_le _, rfl, by simpa using (Ro.nil w).step HB1.out⟩
    case round =>
      obtain ⟨k, hk, rfl, hro⟩ := hrel
      have HRO := Lib.hid hro
      obtain ⟨A', c', rfl, _⟩ := hro.form
      have hlen := HLN.out k hk
      clear hro
      by_cases hlt : k < m
      · have hlt' : (k : Int) < (m : Int) := by omega
        obtain ⟨b, o, rfl, hbw, c1⟩ := (HA.out.below HRO.out.below) k (by rw [upF_length]; exact hlt)
        rw [upF_get hlt] at c1
        have RK := fun W hW => RDA.out W hW k hlt
        have HN := Lib.hid (HNX.out k hlt)
        obtain ⟨P, hP⟩ : ∃ P, P = (S.now.drop f).take k := ⟨_, rfl⟩
        rw [← hP] at HN HRO hlen ⊢
        have HLEN := Lib.hid hlen
        obtain ⟨X, hX⟩ : ∃ X, X = S.now.getD (f + k) [] := ⟨_, rfl⟩
        rw [← hX] at HN RK
        obtain ⟨z, hz⟩ : ∃ z : Int, z = ((f + k : Nat) : Int) := ⟨_, rfl⟩
        rw [← hz] at RK c1
        clear hP hX hz hbw hlen
        go_wp2_with (first
          | (go_at_call 59; with_reducible refine (RK _ (HH.out.below HRO.out.below)).mono ?_; rintro e w5 ⟨rfl, hb5⟩)
          | (at_builtin; obtain ⟨v7, w7, hr7, HR7⟩ := Ro.app ((HRO.out.step hb5).step (below_alloc w5 (.cells #[sv X] 9))) (Tx.lit1 w5 X) 1 (by rw [HLEN.out, List.length_singleton]; omega); rw [List.length_singleton] at hr7; refine wpList_builtin2_runF _ rfl .append Builtin.append_ _ _ _ _ rfl (fun _ _ _ => rfl) (.slice A' P.length c') (.slice (some ⟨w5.heap.size, 0, none⟩) 1 1) rfl rfl hr7 ?_; clear hr7))
        go_roundw
        case rel => exact ⟨k + 1, by omega, by go_num, by rw [HN.out]; exact HR7⟩
        case measure => simp [intOf]; omega
      · obtain rfl : k = m := by omega
        go_wp2_with fail
        go_ret2
        exact ⟨_, by rw [HE.out]; rfl, by rw [HO.out]; exact HRO.out⟩

/-- A half's age. -/
theorem ageOf_any {w : World} (l : List (List UInt8)) (A : Option Addr) (c : Nat) (ht : Tx w A l) (hx : ∀ x ∈ l, x.length ≤ 9223372036854775807) :
    Calls Tryz.prog 38 #[.slice A l.length c] w fun e w' => e = .returned (.int .i64 (ageH l)) ∧ Below w.heap.size w w' := by
  cases l with
  | nil =>
    have HG := Lib.hid (show ageH [] = 0 from agL_nil)
    go_enter Tryz.func38, Tryz.ntmps38
    go_wp2_with fail
    go_ret
    exact ⟨by rw [HG.out]; rfl, Below.refl _ _⟩
  | cons x xs =>
    have GE := fun W => @get_any W x (hx x (by simp))
    have HG := Lib.hid (show ageH (x :: xs) = agL x from rfl)
    obtain ⟨b, o, rfl, c1⟩ := ht.cell (k := 0) (by simp)
    have c2 : w.cell? ⟨b, o, none⟩ = some (sv x) := c1
    have hl : ((x :: xs).length : Int) ≠ 0 := by simp; omega
    have hl2 : (((x :: xs).length : Int) == 0) = false := by rw [beq_eq_false_iff_ne]; exact hl
    have hp : 0 < (x :: xs).length := by simp
    have hp2 : (0 : Int) < ((x :: xs).length : Int) := by omega
    generalize (x :: xs).length = n at hl hl2 hp hp2
    clear ht hx c1
    go_enter Tryz.func38, Tryz.ntmps38
    go_wp2_with (go_at_call 62; refine (GE _).mono ?_; rintro e w1 ⟨rfl, hb1⟩)
    go_ret
    exact ⟨by rw [HG.out]; rfl, hb1⟩

theorem take_max {l : List (List UInt8)} {k : Nat} (h : k < l.length) : topL (l.take (k + 1)) = max (topL (l.take k)) (oldL (l.getD k [])) := by
  unfold topL
  rw [List.take_add_one, List.getElem?_eq_getElem h, List.foldl_append, List.getD_eq_getElem?_getD, List.getElem?_eq_getElem h]
  rfl
set_option maxHeartbeats 4000000 in
theorem top_log {w : World} {p bl bd : Nat} {S : DS} (h : PD w p bl bd S) : Calls Tryz.prog 9 #[dp p] w fun e w' => e = .returned (.tuple #[.int .i64 (topV S : Nat), .int .i64 (topE S)]) ∧ Below w.heap.size w w' := by
  have PA := places_any h
  have RD := Lib.hid (fun W g (hb : Below w.heap.size w W) (hg : IB W g (plc S.was.length S.was.length)) => rdlog_any (h.below hb) (A := some ⟨g, 0, none⟩) (c := S.was.length) (hg.ir (f := 0) (m := S.was.length) (by omega) (fun _ => rfl)) (by omega))
  have hnl := h.ok.hn
  have hl2 := h.ok.l2
  have hn2 := h.ok.n2
  have HT := Lib.hid (show (topV S : Nat) = topL (if S.off then [] else (S.now.drop 0).take S.was.length) by
    unfold topV
    split
    · rfl
    · rw [List.drop_zero, List.take_of_length_le (by omega)])
  have hlen : ∀ x ∈ (if S.off then [] else (S.now.drop 0).take S.was.length), x.length ≤ 9223372036854775807 := by
    split
    · simp
    · intro x hx
      have := hl2 x (by simpa using List.mem_of_mem_take hx)
      omega
  have hll : (if S.off then [] else (S.now.drop 0).take S.was.length).length ≤ 1024 := by
    split
    · simp
    · simp; omega
  have RD2 : Hid (∀ W g, Below w.heap.size w W → IB W g (plc S.was.length S.was.length) → Calls Tryz.prog 36 #[dp p, .slice (some ⟨g, 0, none⟩) S.was.length S.was.length] W fun e w' => ∃ v, e = .returned (.tuple #[v, .int .i64 (topE S)]) ∧ Ro W w' v (if S.off then [] else (S.now.drop 0).take S.was.length)) := Lib.hid (fun W g hb hg => RD.out W g hb hg)
  generalize (if S.off then [] else (S.now.drop 0).take S.was.length) = L at HT hlen hll RD2
  generalize S.was.length = n at PA RD2 hn2
  have AG := Lib.hid (fun W k (hk : k < L.length) => @age_top W (L.getD k []) (hlen _ (by rw [List.getD_eq_getElem?_getD, List.getElem?_eq_getElem hk]; exact List.getElem_mem hk)))
  have HNX := Lib.hid (fun k (hk : k < L.length) => @take_max L k hk)
  have HLT := Lib.hid (fun k => show topL (L.take k) < 4294967296 by rw [topL_eq]; exact topM_lt _)
  have HLO := Lib.hid (fun x => oldL_lt x)
  clear h RD hnl hl2 hlen
  generalize topE S = te at RD2 ⊢
  go_enter Tryz.func9, Tryz.ntmps9
  go_wp2_with (first
    | (go_at_call 40; refine PA.mono ?_; rintro e w1 ⟨g, rfl, hg, hb1, _⟩)
    | (go_at_call 36; refine (RD2.out _ _ hb1 hg).mono ?_; rintro e w2 ⟨v, rfl, hro⟩; obtain ⟨A, c, rfl, htx, _⟩ := hro.form))
  have HTX := Lib.hid htx
  have HB := Lib.hid (hb1.trans (hro.below.mono hb1.size))
  clear hro htx hg hb1 PA
  go_loopw [6, 20] (fun t i wr => ∃ k : Nat, k ≤ L.length ∧ i = .int .i64 k ∧ t = .int .i64 (topL (L.take k) : Nat) ∧ Below w2.heap.size w2 wr) (fun _ i _ => L.length - (intOf i).toNat)
  case atStart => exact ⟨0, Nat.zero_le _, rfl, rfl, Below.refl _ _⟩
  case round =>
    obtain ⟨k, hk, rfl, rfl, hB2⟩ := hrel
    have HB2 := Lib.hid hB2
    clear hB2
    by_cases hlt : k < L.length
    · have hlt' : (k : Int) < (L.length : Int) := by omega
      obtain ⟨b, o, rfl, c1⟩ := (HTX.out.below HB2.out).cell hlt
      have AK := fun W => AG.out W k hlt
      have HN := Lib.hid (HNX.out k hlt)
      have l1 := HLT.out k
      have l2 := HLO.out (L.getD k [])
      obtain ⟨X, hX⟩ : ∃ X, X = L.getD k [] := ⟨_, rfl⟩
      rw [← hX] at c1 AK HN l2
      obtain ⟨t, ht⟩ : ∃ t, t = topL (L.take k) := ⟨_, rfl⟩
      rw [← ht] at HN l1 ⊢
      obtain ⟨u, hu⟩ : ∃ u, u = oldL X := ⟨_, rfl⟩
      rw [← hu] at HN l2 AK
      clear hX ht hu
      go_wp2_with (go_at_call 41; refine (AK _).mono ?_; rintro e w5 ⟨rfl, hb5⟩)
      go_roundw
      case rel => exact ⟨k + 1, by omega, by go_num, by rw [HN.out]; congr 1; omega, HB2.out.trans (hb5.mono HB2.out.size)⟩
      case measure => simp [intOf]; omega
    · obtain rfl : k = L.length := by omega
      have HF := Lib.hid (show topL (L.take L.length) = topL L by rw [List.take_length])
      generalize topL (L.take L.length) = t at HF
      go_wp2_with fail
      go_ret2
      exact ⟨by rw [HT.out, ← HF.out]; rfl, HB.out.trans (HB2.out.mono HB.out.size)⟩
end Go.Proofs.YthfnncahmccgkaaGreatDoor
