/-
  The iterator over what stands between a text's dots ('labels'): its contract, in the form of a loop over an iterator whose body may leave early.
  The text is shorter than 100000 bytes; it stands in box Bs.
-/
import Derived.RangeFuncNested
import Derived.RangeFuncBound
import Derived.RangeFuncCalls
import Derived.RangeFuncLeaves
import Derived.Shelf.Abstract
import Derived.Shelf.RegionOpen
import Derived.OwnWalkIn
import Derived.TacticsInMore
import Derived.LoopNIn
import Derived.LoopIn
import Derived.Test.YtamlblfhjpajhaaDoorNPure2
import Derived.Test.YtamlblfhjpajhaaDoorBase
import Derived.Test.YtamlblfhjpajhaaDoorShelf
namespace Go.Proofs.YtamlblfhjpajhaaDoor
set_option linter.unusedSimpArgs false
set_option linter.unusedVariables false
open Go Go.RowKit Go.Shelf
set_option maxRecDepth 100000
attribute [local go_sem] Oper.semAt_some

/-- The library's variable holds some number. -/
def ML (w : World) : Prop := ∃ m : Int, w.cell? ⟨3, 0, none⟩ = some (.int .i64 m)
theorem ML.below {n : Nat} {w w' : World} (h : ML w) (hb : Below n w w') (hn : 3 < n) : ML w' := by
  obtain ⟨m, h⟩ := h
  exact ⟨m, (hb.cell (p := ⟨3, 0, none⟩) hn).trans h⟩
theorem ML.lt {w : World} (h : ML w) : 3 < w.heap.size := by
  obtain ⟨m, h⟩ := h
  rcases Nat.lt_or_ge 3 w.heap.size with hlt | hge
  · exact hlt
  · simp [World.cell?, Array.getElem?_eq_none hge] at h
theorem ML.step {w w' : World} (h : ML w) (hb : Below w.heap.size w w') : ML w' := h.below hb h.lt
theorem ML.drewN {w : World} (h : ML w) (k : Nat) : ML (w.drewN k) := h

theorem occ_one (s : List UInt8) (j : Nat) : Lib.occAt s [46] j = (s[j]? == some 46) := by
  unfold Lib.occAt
  rcases Nat.lt_or_ge j s.length with h | h
  · rw [List.getElem?_eq_getElem h, List.drop_eq_getElem_cons h]
    generalize s[j] = c
    generalize List.drop (j + 1) s = t
    show ((46 : UInt8) == c && List.isPrefixOf [] t) = (some c == some 46)
    rw [show List.isPrefixOf [] t = true by cases t <;> rfl, Bool.and_true, Option.some_beq_some, BEq.comm]
  · rw [List.getElem?_eq_none h, List.drop_eq_nil_of_le h]; rfl

theorem cut_nodot {s : List UInt8} (h : ∀ c ∈ s, c ≠ 46) : Lib.cut s [46] = (s, [], false) := by
  have : Lib.index s [46] = -1 := Lib.index_none fun j _ => by
    rw [occ_one]
    rcases Nat.lt_or_ge j s.length with hj | hj
    · rw [List.getElem?_eq_getElem hj]
      have := h s[j] (List.getElem_mem hj)
      simp [this]
    · rw [List.getElem?_eq_none hj]; rfl
  unfold Lib.cut
  rw [this, if_neg (by omega)]

theorem cut_dot {a : List UInt8} (t : List UInt8) (h : ∀ c ∈ a, c ≠ 46) : Lib.cut (a ++ 46 :: t) [46] = (a, t, true) := by
  have : Lib.index (a ++ 46 :: t) [46] = a.length := Lib.index_first (by simp) (by rw [occ_one]; simp) fun j hj => by
    rw [occ_one, List.getElem?_append_left hj, List.getElem?_eq_getElem hj]
    have := h a[j] (List.getElem_mem hj)
    simp [this]
  unfold Lib.cut
  rw [this, if_pos (by omega)]
  simp

theorem grownBy_drewN (w : World) (n : Nat) (row : Option Nat) : w.grownBy (w.drewN n) row := ⟨rfl, rfl, rfl, Nat.le_refl _, fun _ _ _ => rfl⟩

/-- Cut's contract where what it tells is known. -/
theorem cutd_call (p : List UInt8) (w : World) (hp : p.length ≤ 1000000) (hm : ML w) {a b : List UInt8} {c : Bool} (h : Lib.cut p [46] = (a, b, c)) :
    Calls Tryd.prog 69 #[.string (str p), .string { data := #[46] }] w fun e w' => e = .returned (.tuple #[.string (str a), .string (str b), .bool c]) ∧ ∃ n, w' = w.drewN n := by
  obtain ⟨mx, hm⟩ := hm
  have := Tryd.strings_Cut (str p) { data := #[46] } mx w (by simp [ByteArray.size]; omega) hm
  have e1 : (str p).data.toList = p := by simp
  have e2 : (⟨#[46]⟩ : ByteArray).data.toList = [46] := rfl
  rw [e1, e2, h] at this
  exact this

/-- A part of a text: what the iterator hands over. -/
abbrev Part := { x : List UInt8 // x.length ≤ 100000 }
def vals (l : List Part) : List (List UInt8) := l.map (·.1)
theorem vals_snoc (l : List Part) (x : Part) : vals (l ++ [x]) = vals l ++ [x.1] := by simp [vals]

def leftM : Value → Value → Nat
  | .string s, .bool true => s.size + 1
  | _, _ => 0

/-- What has come, and what is left. -/
def Come (s0 : List UInt8) (pre : List Part) (rest : List UInt8) (more : Bool) : Prop := if more then vals pre ++ cutD rest = cutD s0 else vals pre = cutD s0

set_option maxHeartbeats 2000000 in
theorem labels1_in (l Bs n₀ : Nat) (s0 : List UInt8) (hs : s0.length ≤ 100000) (hn0 : 3 < n₀) (J Jx : List Part → World → Prop) (W : World) (hJ : AbidesFrom W.heap.size J)
    (hY : ∀ pre x W1, J pre W1 → pre.length < (cutD s0).length → YieldAt Fence.wide 1 Tryd.prog l #[.string (str x.1)] W1 fun e W' =>
      (e = .returned (.bool true) ∧ J (pre ++ [x]) W' ∧ Below n₀ W1 W') ∨ (e = .returned (.bool false) ∧ Jx (pre ++ [x]) W'))
    (hM : ML W) (hB : W.cell? ⟨Bs, 0, none⟩ = some (sv s0)) (h0 : J [] W) :
    CallsIn Fence.wide 2 Tryd.prog 68 #[.func (.yield l) #[] #[], .pointer (some ⟨Bs, 0, none⟩)] W fun e W' => (∃ v, e = .returned v) ∧ ((∃ xs, vals xs = cutD s0 ∧ J xs W') ∨ (∃ pre, vals pre <+: cutD s0 ∧ Jx pre W')) := by
  have hd : ∀ pre (A : World) k, J pre A → J pre (A.drewN k) := fun pre A k h => hJ _ _ _ none h (grownBy_drewN _ _ _) (fun r e => by cases e)
  have HD := Lib.hid hd
  have HYY := Lib.hid hY
  have H0 := Lib.hid h0
  clear hJ hd hY h0
  refine callsIn_of_wp Tryd.func68 rfl trivial ?_ rfl
  simp only [Tryd.ntmps68, List.size_toArray, List.length_cons, List.length_nil, Nat.reduceAdd, Nat.reduceSub, Array.replicate_succ, Array.replicate_zero, List.push_toArray, List.append_toArray, List.nil_append, List.cons_append]
  gi_wp2
  gi_loopw [3, 4] (fun r m wr => ∃ (pre : List Part) (rest : List UInt8) (more : Bool), r = .string (str rest) ∧ m = .bool more ∧ rest.length ≤ s0.length ∧ Come s0 pre rest more ∧ J pre wr ∧ ML wr) (fun r m _ => leftM r m)
  case atStart => exact ⟨[], s0, true, rfl, rfl, Nat.le_refl _, by simp [Come, vals], H0.out, hM⟩
  case round =>
    obtain ⟨pre, rest, more, rfl, rfl, hlen, hcome, hj, hml⟩ := hrel
    have HC := Lib.hid hcome
    have HJ := Lib.hid hj
    have HM := Lib.hid hml
    clear hcome hj hml hB
    cases more with
    | false =>
      gi_wp2
      go_end0
      exact ⟨⟨_, rfl⟩, .inl ⟨pre, by have := HC.out; simpa [Come] using this, HJ.out⟩⟩
    | true =>
      have hpl : pre.length < (cutD s0).length := by
        have h1 := HC.out
        unfold Come at h1
        rw [if_pos rfl] at h1
        have h2 := cutD_ne rest
        rw [← h1]
        cases e : cutD rest with
        | nil => exact absurd e h2
        | cons a r => simp [vals]
      rcases dot_cases rest with ⟨_, h2, _⟩ | ⟨a, t, h1, h2, _, _⟩
      · have hcut := Lib.hid (cut_nodot h2)
        have HN := Lib.hid (show Come s0 (pre ++ [⟨rest, by omega⟩]) [] false by
          have h1 := HC.out
          unfold Come at h1 ⊢
          rw [if_pos rfl, cutD_plain h2] at h1
          rw [vals_snoc]
          simpa using h1)
        clear h2
        gi_wp2_with (refine ⟨trivial, ?_⟩; gi_at_call 69; refine (callsIn_wide.2 (cutd_call _ _ (by omega) HM.out hcut.out)).mono ?_; rintro e w' ⟨rfl, n, rfl⟩)
        obtain ⟨fn, tmps, assign, body, hy, hR⟩ := HYY.out pre ⟨rest, by omega⟩ (wr.drewN n) (HD.out _ _ _ HJ.out) hpl
        dsimp only at hy
        rw [hy]
        gi_wp2
        refine hR.mono ?_
        rintro e W3 (⟨rfl, hJ3, hk3⟩ | ⟨rfl, hJ3⟩)
        · have HJ3 := Lib.hid hJ3
          have HM3 := Lib.hid ((HM.out.drewN n).below hk3 hn0)
          clear hJ3 hk3
          gi_wp2
          go_roundw
          case rel => exact ⟨_, [], false, rfl, rfl, Nat.zero_le _, HN.out, HJ3.out, HM3.out⟩
          case measure => simp [leftM]
        · have HJ3 := Lib.hid hJ3
          clear hJ3
          gi_wp2
          refine bodyPost_ret (results_none rfl _ _ _) rfl ?_
          exact ⟨⟨_, rfl⟩, .inr ⟨_, by have := HN.out; unfold Come at this; simp only [Bool.false_eq_true, if_false] at this; rw [this]; exact List.prefix_refl _, HJ3.out⟩⟩
      · have hcut := Lib.hid (show Lib.cut rest [46] = (a, t, true) by rw [h1]; exact cut_dot t h2)
        have hal : a.length + t.length + 1 = rest.length := by rw [h1]; simp; omega
        have htl : t.length < rest.length := by omega
        have hal' : a.length ≤ 100000 := by omega
        have HN := Lib.hid (show Come s0 (pre ++ [⟨a, hal'⟩]) t true by
          have h3 := HC.out
          unfold Come at h3 ⊢
          rw [if_pos rfl, h1, cutD_dot t h2] at h3
          rw [vals_snoc, if_pos rfl, List.append_assoc]
          exact h3)
        clear h1 h2 hal
        gi_wp2_with (refine ⟨trivial, ?_⟩; gi_at_call 69; refine (callsIn_wide.2 (cutd_call _ _ (by omega) HM.out hcut.out)).mono ?_; rintro e w' ⟨rfl, n, rfl⟩)
        obtain ⟨fn, tmps, assign, body, hy, hR⟩ := HYY.out pre ⟨a, hal'⟩ (wr.drewN n) (HD.out _ _ _ HJ.out) hpl
        dsimp only at hy
        rw [hy]
        gi_wp2
        refine hR.mono ?_
        rintro e W3 (⟨rfl, hJ3, hk3⟩ | ⟨rfl, hJ3⟩)
        · have HJ3 := Lib.hid hJ3
          have HM3 := Lib.hid ((HM.out.drewN n).below hk3 hn0)
          clear hJ3 hk3
          gi_wp2
          go_roundw
          case rel => exact ⟨_, t, true, rfl, rfl, by omega, HN.out, HJ3.out, HM3.out⟩
          case measure => simp [leftM, ByteArray.size]; omega
        · have HJ3 := Lib.hid hJ3
          clear hJ3
          gi_wp2
          refine bodyPost_ret (results_none rfl _ _ _) rfl ?_
          exact ⟨⟨_, rfl⟩, .inr ⟨_, by have := HN.out; unfold Come at this; rw [if_pos rfl] at this; exact ⟨_, this⟩, HJ3.out⟩⟩

theorem labels_any (s : ByteArray) (w : World) :
    Calls Tryd.prog 54 #[.string s] w fun e w' => e = .returned (.func (.func 68) #[] #[.pointer (some ⟨w.heap.size, 0, none⟩)]) ∧ w' = w.alloc (.cells #[.string s] 9) := by
  go_enter Tryd.func54, Tryd.ntmps54
  go_wp2
  go_ret
  exact ⟨rfl, rfl⟩

theorem clone_any (s : ByteArray) (w : World) (hlim : s.size ≤ 281474976710656) :
    Calls Tryd.prog 59 #[.string s] w fun e w' => e = .returned (.string s) ∧ Below w.heap.size w w' := by
  go_enter Tryd.func59, Tryd.ntmps59
  go_wp2_with (go_at_call 79; refine (Tryd.stringslite_Clone _ _ hlim).mono ?_; rintro e w' ⟨rfl, hb⟩)
  go_ret
  exact ⟨rfl, hb⟩

/-- The iterator, as a loop's law wants it. -/
theorem labels_stops (Bs n₀ : Nat) (s0 : List UInt8) (hs : s0.length ≤ 100000) (hn0 : 3 < n₀) (w : World) (hM : ML w) (hBw : Bs < w.heap.size) (hB : w.cell? ⟨Bs, 0, none⟩ = some (sv s0)) :
    SeqStopsK Fence.wide 2 Tryd.prog 68 #[.pointer (some ⟨Bs, 0, none⟩)] (fun x : Part => #[Value.string (str x.1)]) (Below n₀) (fun xs => vals xs = cutD s0) (fun pre => vals pre <+: cutD s0) (cutD s0).length w :=
  fun l J Jx W hW hJ _ hY h0 => labels1_in l Bs n₀ s0 hs hn0 J Jx W hJ hY (hM.step hW) ((hW.cell (p := ⟨Bs, 0, none⟩) hBw).trans hB) h0
end Go.Proofs.YtamlblfhjpajhaaDoor
