/-
  Contracts of package caps: what the closures set; parts; sizeText.
-/
import Derived.Lib.ItoaLen
import Derived.Test.YtanfonpbnamjmaaDoorCGreat
namespace Go.Proofs.YtanfonpbnamjmaaDoor
open Go Go.RowKit Go.Shelf
set_option maxRecDepth 100000

def cpL (c : Cp) : Array Value := #[.bool c.st, .bool c.pi, .bool c.rq, .bool c.ds, .bool c.eb, .bool c.sz, .int .i64 c.mo]
/-- Block b is what a peer can. -/
def CB (w : World) (b : Nat) (c : Cp) : Prop := w.heap[b]? = some (.cells (cpL c) 50 (0, 0))
/-- Block k points at block b. -/
def PB (w : World) (k b : Nat) : Prop := w.heap[k]? = some (.cells #[.pointer (some ⟨b, 0, none⟩)] 97 (0, 0))

def SetPost (b : Nat) (w : World) (c : Cp) (e : Ending) (w' : World) : Prop := e = .returned (.tuple #[]) ∧ Kp [b] w w' ∧ CB w' b c

theorem set1_any {b k : Nat} {w : World} {c : Cp} {n : Int} (hk : PB w k b) (hb : CB w b c) :
    Calls Tryd.prog 89 #[.int .i64 n, .pointer (some ⟨k, 0, none⟩)] w (SetPost b w { c with st := true }) := by
  have c0 : w.cell? ⟨k, 0, none⟩ = some (.pointer (some ⟨b, 0, none⟩)) := by rw [cellAt hk]; rfl
  have c1 : w.cell? ⟨b, 0, none⟩ = some (.bool c.st) := by rw [cellAt hb]; rfl
  have f1 := freeAt hb 0
  have HP := Lib.hid (show SetPost b w { c with st := true } (.returned (.tuple #[])) (w.setCell ⟨b, 0, none⟩ (.bool true)) from ⟨rfl, (Kp.refl [b] w).setCell (p := ⟨b, 0, none⟩) (by simp) _, (blk_set hb 0 _).trans rfl⟩)
  clear hk hb
  go_enter Tryd.func89, Tryd.ntmps89
  go_wp2_with fail
  go_end0
  exact HP.out

theorem set2_any {b k : Nat} {w : World} {c : Cp} {n : Int} (hk : PB w k b) (hb : CB w b c) :
    Calls Tryd.prog 90 #[.int .i64 n, .pointer (some ⟨k, 0, none⟩)] w (SetPost b w { c with pi := true }) := by
  have c0 : w.cell? ⟨k, 0, none⟩ = some (.pointer (some ⟨b, 0, none⟩)) := by rw [cellAt hk]; rfl
  have c1 : w.cell? ⟨b, 1, none⟩ = some (.bool c.pi) := by rw [cellAt hb]; rfl
  have f1 := freeAt hb 1
  have HP := Lib.hid (show SetPost b w { c with pi := true } (.returned (.tuple #[])) (w.setCell ⟨b, 1, none⟩ (.bool true)) from ⟨rfl, (Kp.refl [b] w).setCell (p := ⟨b, 1, none⟩) (by simp) _, (blk_set hb 1 _).trans rfl⟩)
  clear hk hb
  go_enter Tryd.func90, Tryd.ntmps90
  go_wp2_with fail
  go_end0
  exact HP.out

theorem set3_any {b k : Nat} {w : World} {c : Cp} {n : Int} (hk : PB w k b) (hb : CB w b c) :
    Calls Tryd.prog 91 #[.int .i64 n, .pointer (some ⟨k, 0, none⟩)] w (SetPost b w { c with rq := true }) := by
  have c0 : w.cell? ⟨k, 0, none⟩ = some (.pointer (some ⟨b, 0, none⟩)) := by rw [cellAt hk]; rfl
  have c1 : w.cell? ⟨b, 2, none⟩ = some (.bool c.rq) := by rw [cellAt hb]; rfl
  have f1 := freeAt hb 2
  have HP := Lib.hid (show SetPost b w { c with rq := true } (.returned (.tuple #[])) (w.setCell ⟨b, 2, none⟩ (.bool true)) from ⟨rfl, (Kp.refl [b] w).setCell (p := ⟨b, 2, none⟩) (by simp) _, (blk_set hb 2 _).trans rfl⟩)
  clear hk hb
  go_enter Tryd.func91, Tryd.ntmps91
  go_wp2_with fail
  go_end0
  exact HP.out

theorem set4_any {b k : Nat} {w : World} {c : Cp} {n : Int} (hk : PB w k b) (hb : CB w b c) :
    Calls Tryd.prog 92 #[.int .i64 n, .pointer (some ⟨k, 0, none⟩)] w (SetPost b w { c with ds := true }) := by
  have c0 : w.cell? ⟨k, 0, none⟩ = some (.pointer (some ⟨b, 0, none⟩)) := by rw [cellAt hk]; rfl
  have c1 : w.cell? ⟨b, 3, none⟩ = some (.bool c.ds) := by rw [cellAt hb]; rfl
  have f1 := freeAt hb 3
  have HP := Lib.hid (show SetPost b w { c with ds := true } (.returned (.tuple #[])) (w.setCell ⟨b, 3, none⟩ (.bool true)) from ⟨rfl, (Kp.refl [b] w).setCell (p := ⟨b, 3, none⟩) (by simp) _, (blk_set hb 3 _).trans rfl⟩)
  clear hk hb
  go_enter Tryd.func92, Tryd.ntmps92
  go_wp2_with fail
  go_end0
  exact HP.out

theorem set5_any {b k : Nat} {w : World} {c : Cp} {n : Int} (hk : PB w k b) (hb : CB w b c) :
    Calls Tryd.prog 93 #[.int .i64 n, .pointer (some ⟨k, 0, none⟩)] w (SetPost b w { c with eb := true }) := by
  have c0 : w.cell? ⟨k, 0, none⟩ = some (.pointer (some ⟨b, 0, none⟩)) := by rw [cellAt hk]; rfl
  have c1 : w.cell? ⟨b, 4, none⟩ = some (.bool c.eb) := by rw [cellAt hb]; rfl
  have f1 := freeAt hb 4
  have HP := Lib.hid (show SetPost b w { c with eb := true } (.returned (.tuple #[])) (w.setCell ⟨b, 4, none⟩ (.bool true)) from ⟨rfl, (Kp.refl [b] w).setCell (p := ⟨b, 4, none⟩) (by simp) _, (blk_set hb 4 _).trans rfl⟩)
  clear hk hb
  go_enter Tryd.func93, Tryd.ntmps93
  go_wp2_with fail
  go_end0
  exact HP.out

theorem set6_any {b k : Nat} {w : World} {c : Cp} {n : Int} (hk : PB w k b) (hb : CB w b c) :
    Calls Tryd.prog 94 #[.int .i64 n, .pointer (some ⟨k, 0, none⟩)] w (SetPost b w { c with sz := true, mo := if c.mo = 0 then n else c.mo }) := by
  obtain ⟨mx, hmx⟩ : ∃ x, x = if c.mo = 0 then n else c.mo := ⟨_, rfl⟩
  rw [← hmx]
  have hkb : k ≠ b := by
    rintro rfl
    have := hk.symm.trans hb
    simp [cpL] at this
  obtain ⟨w1, hw1⟩ : ∃ w1, w1 = w.setCell ⟨b, 5, none⟩ (.bool true) := ⟨_, rfl⟩
  have hb1 : CB w1 b { c with sz := true } := by rw [hw1]; exact (blk_set hb 5 _).trans rfl
  have hk1 : PB w1 k b := by rw [hw1]; exact (Below.heap_setCell _ _ _ _ (by exact hkb)).trans hk
  have kp1 : Kp [b] w w1 := by rw [hw1]; exact (Kp.refl [b] w).setCell (p := ⟨b, 5, none⟩) (by simp) _
  have c0 : w.cell? ⟨k, 0, none⟩ = some (.pointer (some ⟨b, 0, none⟩)) := by rw [cellAt hk]; rfl
  have c1 : w.cell? ⟨b, 5, none⟩ = some (.bool c.sz) := by rw [cellAt hb]; rfl
  have f1 := freeAt hb 5
  have d0 : w1.cell? ⟨k, 0, none⟩ = some (.pointer (some ⟨b, 0, none⟩)) := by rw [cellAt hk1]; rfl
  have d6 : w1.cell? ⟨b, 6, none⟩ = some (.int .i64 c.mo) := by rw [cellAt hb1]; rfl
  have g6 := freeAt hb1 6
  by_cases hz : c.mo = 0
  · have HP := Lib.hid (show SetPost b w { c with sz := true, mo := mx } (.returned (.tuple #[])) (w1.setCell ⟨b, 6, none⟩ (.int .i64 n)) from
      ⟨rfl, kp1.setCell (p := ⟨b, 6, none⟩) (by simp) _, by rw [hmx, if_pos hz]; exact (blk_set hb1 6 _).trans rfl⟩)
    have hq : (c.mo == 0) = true := by simpa using hz
    rw [hw1] at d0 d6 g6 HP
    generalize c.mo = mo at d6 hq
    clear hk hb hb1 hk1 kp1 hw1 hz hkb hmx
    go_enter Tryd.func94, Tryd.ntmps94
    go_wp2_with fail
    go_end0
    exact HP.out
  · have HP := Lib.hid (show SetPost b w { c with sz := true, mo := mx } (.returned (.tuple #[])) w1 from
      ⟨rfl, kp1, by rw [hmx, if_neg hz]; exact hb1⟩)
    have hq : (c.mo == 0) = false := by simpa using hz
    rw [hw1] at d0 d6 g6 HP
    generalize c.mo = mo at d6 hq
    clear hk hb hb1 hk1 kp1 hw1 hz hkb hmx
    go_enter Tryd.func94, Tryd.ntmps94
    go_wp2_with fail
    go_end0
    exact HP.out

/-! ### parts -/
def partsV (t : List UInt8) : Value := .tuple #[sv (partsR t).1, .int .i64 (partsR t).2]
theorem cutsize_any (t : List UInt8) (w : World) : Calls Tryd.prog 95 #[sv t, .string { data := #[83, 73, 90, 69, 32] }] w fun e w' => e = .returned (.tuple #[sv (if wSB.isPrefixOf t then t.drop 5 else t), .bool (wSB.isPrefixOf t)]) ∧ w = w' := by
  have := Tryd.strings_CutPrefix (str t) { data := #[83, 73, 90, 69, 32] } w
  have e1 : (str t).data.toList = t := by simp
  have e2 : ({ data := #[83, 73, 90, 69, 32] } : ByteArray).data.toList = wSB := rfl
  rw [e1, e2] at this
  unfold Lib.trimPrefix Lib.hasPrefix at this
  exact this.mono fun _ _ ⟨h1, h2⟩ => ⟨h1, h2.symm⟩

set_option maxHeartbeats 1000000 in
theorem parts_any (t : List UInt8) (w : World) (ht : t.length ≤ 1000000) (hw : LW w) : Calls Tryd.prog 60 #[sv t] w fun e w' => e = .returned (partsV t) ∧ Below w.heap.size w w' := by
  have HC := Lib.hid (cutsize_any t w)
  cases hp : wSB.isPrefixOf t with
  | false =>
    rw [hp] at HC
    have HV := Lib.hid (show partsV t = .tuple #[sv t, .int .i64 0] by unfold partsV partsR sizedB; rw [hp]; rfl)
    clear hp hw
    simp only [Bool.false_eq_true, if_false] at HC
    go_enter Tryd.func60, Tryd.ntmps60
    go_wp2_with fail
    refine (HC.out).mono ?_
    rintro e w' ⟨rfl, rfl⟩
    go_wp2_with fail
    go_ret2
    rw [HV.out]
    exact ⟨rfl, Below.refl _ _⟩
  | true =>
    rw [hp] at HC
    simp only [if_true] at HC
    obtain ⟨u, hu⟩ : ∃ u, u = t.drop 5 := ⟨_, rfl⟩
    have hul : u.length ≤ 1000000 := by rw [hu]; simp; omega
    have HN := Lib.hid (num_any u topN w hul (by decide) (by decide) hw)
    rw [← hu] at HC
    cases hn : isNumB u with
    | false =>
      have HV := Lib.hid (show partsV t = .tuple #[sv t, .int .i64 0] by unfold partsV partsR sizedB; rw [hp, ← hu, hn]; rfl)
      have hv : numV u topN = .tuple #[.int .i64 0, .int .i64 4] := by unfold numV numR; rw [hn]; rfl
      rw [hv] at HN
      clear hp hw hv hn hu
      go_enter Tryd.func60, Tryd.ntmps60
      go_wp2_with fail
      refine (HC.out).mono ?_
      rintro e w' ⟨rfl, rfl⟩
      go_wp2_with fail
      refine (HN.out).mono ?_
      rintro e w1 ⟨rfl, hb⟩
      have HB := Lib.hid hb
      clear hb
      go_wp2_with fail
      go_ret2
      rw [HV.out]
      exact ⟨rfl, HB.out⟩
    | true =>
      obtain ⟨n, er, hr, hne⟩ : ∃ n er, numR u topN = (n, er) ∧ (er == 4) = false := by
        unfold numR
        rw [if_pos hn]
        split
        · exact ⟨_, _, rfl, rfl⟩
        · exact ⟨_, _, rfl, rfl⟩
      have HV := Lib.hid (show partsV t = .tuple #[sv wSZ, .int .i64 n] by unfold partsV partsR sizedB; rw [hp, ← hu, hn, hr]; rfl)
      have hv : numV u topN = .tuple #[.int .i64 n, .int .i64 er] := by unfold numV; rw [hr]
      rw [hv] at HN
      clear hp hw hv hn hu hr
      go_enter Tryd.func60, Tryd.ntmps60
      go_wp2_with fail
      refine (HC.out).mono ?_
      rintro e w' ⟨rfl, rfl⟩
      go_wp2_with fail
      refine (HN.out).mono ?_
      rintro e w1 ⟨rfl, hb⟩
      have HB := Lib.hid hb
      clear hb
      go_wp2_with fail
      go_ret2
      rw [HV.out]
      exact ⟨rfl, HB.out⟩

/-! ### sizeText -/
theorem dec_len20 {m : Nat} (h : m < 18446744073709551616) : (Lib.decDigits m).length ≤ 20 := by
  rw [Lib.decDigits_length]
  exact Lib.nDigits_le20 m h
theorem sizeText_any (n : Int) (w : World) (h0 : -9223372036854775808 ≤ n) (h1 : n ≤ 9223372036854775807) (hw : LW w) : Calls Tryd.prog 64 #[.int .i64 n] w fun e w' => e = .returned (sv (sizeT n)) ∧ Below w.heap.size w w' := by
  have HS := Lib.hid (show_any n w h0 h1 hw)
  rcases (show n < 1 ∨ (¬ n < 1 ∧ 1099511627776 < n) ∨ (¬ n < 1 ∧ ¬ 1099511627776 < n) by omega) with h | ⟨h, h2⟩ | ⟨h, h2⟩
  · have HF := Lib.hid (show sizeT n = wSZ by unfold sizeT mayN; rw [decide_eq_false (by omega)]; rfl)
    have hd : decide (n < 1) = true := by simpa using h
    clear hw
    go_enter Tryd.func64, Tryd.ntmps64
    go_wp2_with fail
    go_ret
    rw [HF.out]
    exact ⟨rfl, Below.refl _ _⟩
  · have HF := Lib.hid (show sizeT n = wSZ by unfold sizeT mayN topN; rw [decide_eq_false (show ¬ n ≤ 1099511627776 by omega), Bool.and_false]; rfl)
    have hd : decide (n < 1) = false := by simpa using h
    clear hw
    go_enter Tryd.func64, Tryd.ntmps64
    go_wp2_with fail
    go_ret
    rw [HF.out]
    exact ⟨rfl, Below.refl _ _⟩
  · have HF := Lib.hid (show sizeT n = wSB ++ Lib.itoa n by unfold sizeT mayN topN; rw [decide_eq_true (show n ≤ 1099511627776 by omega), decide_eq_true (show 1 ≤ n by omega)]; rfl)
    have HL := Lib.hid (itoa_pos (n := n) (by omega))
    have HLL := Lib.hid (dec_len20 (m := n.toNat) (by omega))
    have hd : decide (n < 1) = false := by simpa using h
    have hd2 : decide (n > 1099511627776) = false := by simpa using h2
    obtain ⟨t, ht⟩ : ∃ t, t = Lib.itoa n := ⟨_, rfl⟩
    have hlt : t.length ≤ 20 := by rw [ht, HL.out]; exact HLL.out
    rw [← ht] at HS HF
    have HA := Lib.hid (str_append wSB t)
    clear hw ht HL HLL
    go_enter Tryd.func64, Tryd.ntmps64
    go_wp2_with fail
    refine (HS.out).mono ?_
    rintro e w1 ⟨rfl, hb⟩
    have HB := Lib.hid hb
    clear hb
    go_wp2_with fail
    go_ret
    refine ⟨?_, HB.out⟩
    rw [HF.out]
    exact congrArg (fun x => Ending.returned (.string x)) HA.out
end Go.Proofs.YtanfonpbnamjmaaDoor
