/-
  The iterator over a text's lines ('cuts'): its contract, in the form of a loop over an iterator that keeps its state in a captured box.
  The text is shorter than 100000 bytes; it stands in box Bs, the number of bytes that a line may have in the box behind it.
-/
import Derived.RangeFuncNested
import Derived.RangeFuncBound
import Derived.RangeFuncCalls
import Derived.RangeFuncLeaves
import Derived.Shelf.Abstract
import Derived.Shelf.RegionOpen
import Derived.WalkKit
import Derived.OwnWalkIn
import Derived.TacticsInMore
import Derived.LoopNIn
import Derived.LoopIn
import Derived.Test.YtgjngldkeiblbaaPure
import Derived.Test.YtgjngldkeiblbaaIter
import Derived.Test.YtgjngldkeiblbaaLeaf
namespace Go.Proofs.Ytgjngldkeiblbaa
open Go Go.RowKit Go.Shelf

attribute [local go_sem] Oper.semAt_some

/-- The library's variable holds some number. -/
def ML (w : World) : Prop := ∃ m : Int, w.cell? ⟨0, 0, none⟩ = some (.int .i64 m)

/-- The iterator's state: the text that is left. -/
def St (Bs m : Nat) (t : List UInt8) (w : World) : Prop :=
  w.heap[Bs]? = some (.cells #[.string (str t)] 9 (0, 0)) ∧ w.heap[Bs + 1]? = some (.cells #[.int .i64 m] 3 (0, 0)) ∧ ML w ∧ t.length ≤ 100000

/-- One step of it: the line that it hands over, and the text behind. -/
def Nx (m : Nat) (t : List UInt8) (x : List UInt8 × List UInt8) (t' : List UInt8) : Prop :=
  ∃ i : Nat, Lib.index (t.take m) [13, 10] = i ∧ x = (t.take i, t') ∧ t' = t.drop (i + 2)

def Fin (m : Nat) (t : List UInt8) : Prop := Lib.index (t.take m) [13, 10] = -1

/-- How much is left: for the measure. -/
def leftOf (Bs : Nat) (w : World) : Nat := match w.cell? ⟨Bs, 0, none⟩ with
  | some (.string s) => s.size
  | _ => 0

theorem leftOf_eq {Bs m : Nat} {t : List UInt8} {w : World} (h : St Bs m t w) : leftOf Bs w = t.length := by
  unfold leftOf
  rw [cellAt h.1]
  simp [ByteArray.size]

theorem cut_miss {p : List UInt8} (h : Lib.index p [13, 10] = -1) : Lib.cut p [13, 10] = (p, [], false) := by
  unfold Lib.cut
  rw [h, if_neg (by omega)]
theorem cut_found {p : List UInt8} {i : Nat} (h : Lib.index p [13, 10] = i) : Lib.cut p [13, 10] = (p.take i, p.drop (i + 2), true) := by
  unfold Lib.cut
  rw [h, if_pos (by omega)]
  rfl
theorem str_extract (t : List UInt8) (i j : Nat) : (str t).extract i j = str ((t.take j).drop i) := by
  apply ByteArray.ext
  simp [str, ByteArray.data_extract, List.extract_eq_take_drop, List.drop_take]

theorem cut_call (p : List UInt8) (mx : Int) (w : World) (n : Nat) (hp : p.length ≤ 100000) (hm : w.cell? ⟨0, 0, none⟩ = some (.int .i64 mx)) (a b : List UInt8) (c : Bool) (h : Lib.cut p [13, 10] = (a, b, c)) :
    CallsIn Fence.wide n Try.prog 34 #[.string (str p), .string { data := #[13, 10] }] w fun e w' => e = .returned (.tuple #[.string (str a), .string (str b), .bool c]) ∧ ∃ n, w' = w.drewN n := by
  have := Try.strings_Cut (str p) { data := #[13, 10] } mx w (by simp [ByteArray.size]; omega) hm
  have e1 : (str p).data.toList = p := by simp
  have e2 : (⟨#[13, 10]⟩ : ByteArray).data.toList = [13, 10] := rfl
  rw [e1, e2, h] at this
  exact callsIn_wide.2 this

theorem grownBy_drewN (w : World) (n : Nat) (row : Option Nat) : w.grownBy (w.drewN n) row := ⟨rfl, rfl, rfl, Nat.le_refl _, fun _ _ _ => rfl⟩

theorem St.drewN {Bs m : Nat} {t : List UInt8} {w : World} (h : St Bs m t w) (n : Nat) : St Bs m t (w.drewN n) := h

theorem St.store {Bs m : Nat} {t t' : List UInt8} {w : World} (h : St Bs m t w) (h0 : 0 < Bs) (hl : t'.length ≤ t.length) : St Bs m t' (w.setCell ⟨Bs, 0, none⟩ (.string (str t'))) := by
  obtain ⟨h1, h2, ⟨mx, h3⟩, h4⟩ := h
  refine ⟨by rw [heap_setCell_same _ _ _ _ _ _ h1]; rfl, by rw [heap_setCell_other _ _ _ _ (by simp)]; exact h2, ⟨mx, ?_⟩, by omega⟩
  rw [World.cell?_setCell_other w _ _ _ (by intro e; simp at e <;> omega)]
  exact h3

set_option maxRecDepth 100000 in
set_option maxHeartbeats 1000000 in
theorem cuts1_in (l Bs m : Nat) (J : List UInt8 → World → Prop) (W : World) (t0 : List UInt8) (h0B : 0 < Bs)
    (hJ : ∀ s W1 W2, J s W1 → W1.grownBy W2 (some Bs) → J s W2)
    (hY : ∀ s x s' W1, Nx m s x s' → J s W1 → St Bs m s' W1 → YieldAt Fence.wide 1 Try.prog l #[.string (str x.1), .string (str x.2)] W1 fun e W2 => e = .returned (.bool true) ∧ J s' W2 ∧ St Bs m s' W2)
    (h0 : J t0 W) (hS : St Bs m t0 W) :
    CallsIn Fence.wide 2 Try.prog 33 #[.func (.yield l) #[] #[], .pointer (some ⟨Bs, 0, none⟩), .pointer (some ⟨Bs + 1, 0, none⟩)] W fun e W' => (∃ v, e = .returned v) ∧ ∃ s, Fin m s ∧ J s W' ∧ St Bs m s W' := by
  refine callsIn_of_wp Try.func33 rfl trivial ?_ rfl
  simp only [Try.ntmps33, List.size_toArray, List.length_cons, List.length_nil, Nat.reduceAdd, Nat.reduceSub, Array.replicate_succ, Array.replicate_zero, List.push_toArray, List.append_toArray, List.nil_append, List.cons_append]
  gi_wp2
  gi_loopw [4] (fun _ wr => ∃ t, J t wr ∧ St Bs m t wr) (fun _ wr => leftOf Bs wr)
  case atStart => exact ⟨t0, h0, hS⟩
  case round =>
    obtain ⟨t, hj, hst⟩ := hrel
    have hst' := hst
    obtain ⟨hB, hM, ⟨mx, hmx⟩, hlen⟩ := hst
    have c0 : wr.cell? ⟨Bs, 0, none⟩ = some (.string (str t)) := by rw [cellAt hB]; rfl
    have c1 : wr.cell? ⟨Bs + 1, 0, none⟩ = some (.int .i64 m) := by rw [cellAt hM]; rfl
    have f0 := freeAt hB 0
    have HB := Lib.hid hB
    have HM := Lib.hid hM
    have HJ := Lib.hid hj
    have HS := Lib.hid hst'
    clear hB hM hj hst'
    have e0 : (str t).extract 0 (min (t.length : Int) (m : Int)).toNat = str (t.take m) := by
      rw [str_extract, List.drop_zero]
      congr 1
      rcases Nat.le_total t.length m with h | h
      · rw [show (min (t.length : Int) (m : Int)).toNat = t.length by omega, List.take_of_length_le (Nat.le_refl _), List.take_of_length_le h]
      · rw [show (min (t.length : Int) (m : Int)).toNat = m by omega]
    have E0 := Lib.hid e0
    clear e0
    rcases Lib.index_spec (t.take m) [13, 10] with ⟨hix, _⟩ | ⟨i, hix, _⟩
    · have hcut := Lib.hid (cut_miss hix)
      have HX := Lib.hid hix
      clear hix
      gi_wp2_with (refine ⟨trivial, ?_⟩; gi_at_call 34; rw [E0.out]; refine (cut_call _ _ _ _ (by simp; omega) hmx _ _ _ hcut.out).mono ?_; rintro e w' ⟨rfl, n, rfl⟩)
      refine bodyPost_ret (results_none rfl _ _ _) rfl ?_
      exact ⟨⟨_, rfl⟩, t, HX.out, hJ _ _ _ HJ.out (grownBy_drewN _ _ _), HS.out.drewN n⟩
    · have hl2 : i + 2 ≤ (t.take m).length := (hit_of_index hix).2.2
      rw [List.length_take] at hl2
      have hc := cut_found hix
      rw [List.take_take, Nat.min_eq_left (by omega)] at hc
      obtain ⟨a, ha⟩ : ∃ a, a = t.take i := ⟨_, rfl⟩
      obtain ⟨r, hr⟩ : ∃ r, r = t.drop (i + 2) := ⟨_, rfl⟩
      have hal : a.length = i := by rw [ha, List.length_take]; omega
      have hnx : Nx m t (a, r) r := ⟨i, hix, by rw [ha], hr⟩
      rw [← ha] at hc
      have e1 : (str t).extract (a.length + 2) t.length = str r := by
        rw [str_extract, List.take_of_length_le (Nat.le_refl _), hal, hr]
      have hrl : r.length ≤ t.length := by rw [hr, List.length_drop]; omega
      have hb1 : a.length + 2 ≤ t.length := by omega
      have hcut := Lib.hid hc
      have HX := Lib.hid hix
      have E1 := Lib.hid e1
      have HA := Lib.hid hal
      have HR := Lib.hid hr
      clear hix hc e1 hal ha hr
      gi_wp2_with (refine ⟨trivial, ?_⟩; gi_at_call 34; rw [E0.out]; refine (cut_call _ _ _ _ (by simp; omega) hmx _ _ _ hcut.out).mono ?_; rintro e w' ⟨rfl, n, rfl⟩)
      rw [E1.out]
      have hs1 : St Bs m r ((wr.drewN n).setCell ⟨Bs, 0, none⟩ (.string (str r))) := (HS.out.drewN n).store h0B hrl
      have hj1 : J t ((wr.drewN n).setCell ⟨Bs, 0, none⟩ (.string (str r))) := hJ _ _ _ (hJ _ _ _ HJ.out (grownBy_drewN _ n _)) (grownBy_setCell' _ _ _)
      obtain ⟨fn, tmps, assign, body, hy, hR⟩ := hY t (a, r) r _ hnx hj1 hs1
      dsimp only at hy
      have hrlt : r.length < t.length := by have := HA.out; have := HR.out; rw [this, List.length_drop]; omega
      have HJ1 := Lib.hid hj1
      have HS1 := Lib.hid hs1
      clear hj1 hs1
      rw [hy]
      gi_wp2
      refine hR.mono ?_
      rintro e W3 ⟨rfl, hJ3, hS3⟩
      have HJ3 := Lib.hid hJ3
      have HS3 := Lib.hid hS3
      clear hJ3 hS3
      gi_wp2
      go_roundw
      case rel => exact ⟨r, HJ3.out, HS3.out⟩
      case measure => rw [leftOf_eq HS3.out, leftOf_eq HS.out]; exact hrlt

theorem cuts_steps (Bs m : Nat) (t0 : List UInt8) (w : World) (h0B : 0 < Bs) :
    StepsOver Fence.wide 2 Try.prog 33 #[.pointer (some ⟨Bs, 0, none⟩), .pointer (some ⟨Bs + 1, 0, none⟩)] (fun x : List UInt8 × List UInt8 => #[Value.string (str x.1), Value.string (str x.2)]) Bs (Nx m) (Fin m) (St Bs m) t0 w :=
  fun l J W _ hJ hY h0 hS => cuts1_in l Bs m J W t0 h0B hJ hY h0 hS

theorem St.out {Bs m B : Nat} (hB : Bs + 1 < B) {t : List UInt8} {W W' : World} {row : Option Nat} (h : St Bs m t W) (hg : W.grownBy W' row) (hr : ∀ r, row = some r → B ≤ r) : St Bs m t W' := by
  obtain ⟨h1, h2, ⟨mx, h3⟩, h4⟩ := h
  have ne : ∀ k, k < B → some k ≠ row := fun k hk e => by have := hr k e.symm; omega
  refine ⟨(hg.block _ (lt_of_block h1) (ne _ (by omega))).trans h1, (hg.block _ (lt_of_block h2) (ne _ (by omega))).trans h2, ⟨mx, ?_⟩, h4⟩
  exact hg.cell h3 (ne 0 (by omega))

end Go.Proofs.Ytgjngldkeiblbaa
