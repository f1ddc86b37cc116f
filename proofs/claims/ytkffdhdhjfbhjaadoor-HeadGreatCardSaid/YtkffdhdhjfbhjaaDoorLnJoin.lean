/-
  Package line's Join: of any slice of texts, each of them with CR LF behind it, one behind the other. All the texts together, with their ends, have at most 4000000 bytes.
-/
import Derived.Lib.Builder
import Derived.Lib.AppendStr
import Derived.Laws.Externs
import Derived.Test.YtkffdhdhjfbhjaaDoorLnCut
namespace Go.Proofs.YtkffdhdhjfbhjaaDoor
open Go Go.RowKit Go.Shelf
set_option maxRecDepth 100000

theorem below_alloc (w : World) (o : Obj) : Below w.heap.size w (w.alloc o) := (Below.refl _ _).alloc (Nat.le_refl _) _
/-- The slice v reads as these texts. -/
def SR (W : World) (v : Value) (xs : List (List UInt8)) : Prop :=
  ∃ A c, v = .slice A xs.length c ∧ (xs = [] ∨ ∃ b o, A = some ⟨b, o, none⟩ ∧ ∀ k, ∀ h : k < xs.length, W.cell? ⟨b, o + k, none⟩ = some (sv xs[k]))

theorem SR.of_own {W : World} {base : Nat} {v : Value} {xs : List (List UInt8)} (h : Ows W base v xs) : SR W v xs := by
  rcases h.2 with ⟨rfl, h0⟩ | ⟨g, cap, cur, rfl, hb, hg, h1, h2, h3, h4⟩
  · exact ⟨none, 0, by rw [h0], .inl (List.eq_nil_of_length_eq_zero h0)⟩
  · refine ⟨_, _, rfl, .inr ⟨g, 0, rfl, fun k hk => ?_⟩⟩
    rw [cellAt hg, Nat.zero_add]
    have : cur.toList[k]? = some (sv xs[k]) := by
      have e := congrArg (fun l => l[k]?) h4
      simp only [List.getElem?_take, List.getElem?_map] at e
      rw [if_pos (by omega)] at e
      rw [e, List.getElem?_eq_getElem hk]
      rfl
    simpa using this

theorem SR.drewN {W : World} {v : Value} {xs : List (List UInt8)} (h : SR W v xs) (n : Nat) : SR (W.drewN n) v xs := h

theorem check_used (b : Nat) (w : World) (h0 : w.cell? ⟨b, 0, none⟩ = some (.pointer (some ⟨b, 0, none⟩))) :
    Calls Tryd.prog 63 #[.pointer (some ⟨b, 0, none⟩)] w fun e w' => e = .returned (.tuple #[]) ∧ w = w' := by
  obtain ⟨j, hj, _⟩ := Option.map_eq_some_iff.1 Tryd.Builder_Extra_169.sizeBuilder
  go_enter Tryd.func63, Tryd.ntmps63
  go_wp2
  rw [Lib.run_neq_ptr_same w _ Tryd.underlying70 hj]
  go_wp2
  go_end0
  exact ⟨rfl, rfl⟩

theorem check_fresh (b : Nat) (w : World) (h0 : w.cell? ⟨b, 0, none⟩ = some (.pointer none)) (hsh : w.shape? b = some (72, 2)) (hfz : w.frozen? ⟨b, 0, none⟩ = false) :
    Calls Tryd.prog 63 #[.pointer (some ⟨b, 0, none⟩)] w fun e w' => e = .returned (.tuple #[]) ∧ w' = w.setCell ⟨b, 0, none⟩ (.pointer (some ⟨b, 0, none⟩)) := by
  obtain ⟨j, hj, hjs⟩ := Option.map_eq_some_iff.1 Tryd.Builder_Extra_169.sizeBuilder
  go_enter Tryd.func63, Tryd.ntmps63
  go_wp2
  rw [Lib.run_to_unsafe w ⟨b, 0, none⟩ Tryd.underlying70 Tryd.underlying95 hj (by rw [hjs]; decide) hsh (Nat.zero_lt_succ 1)]
  simp only [Result.andThen]
  rw [Oper.upon_value]
  go_wp2
  rw [run_callFunc_extern Tryd.func74 (by kernel_rfl) (by kernel_rfl) (by kernel_rfl) (e := Extern.AbiNoEscape.same) (by kernel_rfl)]
  rw [Lib.run_noEscape]
  simp only [Result.andThen]
  rw [Oper.upon_value]
  go_wp2
  rw [Lib.run_from_unsafe w ⟨b, 0, none⟩ Tryd.underlying95 Tryd.underlying70 hj hsh Tryd.Builder_Extra_169.liesBuilder]
  simp only [Result.andThen]
  rw [Oper.upon_value]
  go_wp2
  go_end0
  exact ⟨rfl, rfl⟩

theorem check_any (B b : Nat) (bs : List Value) (w : World) (h : Lib.IsBuilder 72 5 B b bs w) :
    Calls Tryd.prog 63 #[.pointer (some ⟨b, 0, none⟩)] w fun e w' => e = .returned (.tuple #[]) ∧ Lib.BuilderAt 72 5 B b (.pointer (some ⟨b, 0, none⟩)) bs w' ∧ Below B w w' := by
  rcases h with h | h
  · refine (check_fresh b w h.cell0 h.shape h.frozen0).mono ?_
    rintro e w' ⟨rfl, rfl⟩
    exact ⟨rfl, h.used _, (Below.refl B w).setCell (p := ⟨b, 0, none⟩) h.1 _⟩
  · refine (check_used b w h.cell0).mono ?_
    rintro e w' ⟨rfl, rfl⟩
    exact ⟨rfl, h, Below.refl B _⟩

set_option maxHeartbeats 1000000 in
theorem write_any (B b : Nat) (bs : List Value) (s : List UInt8) (w : World) (h : Lib.IsBuilder 72 5 B b bs w) (hlen : bs.length + s.length ≤ 100000000) (hBw : B ≤ w.heap.size) :
    Calls Tryd.prog 48 #[.pointer (some ⟨b, 0, none⟩), .string (str s)] w fun e w' => e = .returned (.tuple #[.int .i64 s.length, .nilIface]) ∧ Lib.IsBuilder 72 5 B b (bs ++ Lib.byteCells s) w' ∧ Below B w w' := by
  obtain ⟨i0, hi, hz0, hz1, hz2⟩ := info_parts info5'
  have hss : (str s).size = s.length := by simp [ByteArray.size]
  go_enter Tryd.func48, Tryd.ntmps48
  go_wp2_with (go_at_call 63; refine (check_any B b bs _ h).mono ?_)
  rintro e w1 ⟨rfl, h1, hb1⟩
  obtain ⟨hB, v, hbk, hown, hne⟩ := h1
  have c0 : w1.cell? ⟨b, 0, none⟩ = some (.pointer (some ⟨b, 0, none⟩)) := by rw [cellAt hbk]; rfl
  have c1 : w1.cell? ⟨b, 1, none⟩ = some v := by rw [cellAt hbk]; rfl
  go_wp2_with (at_builtin; refine Lib.wpList_append_own_string _ rfl _ _ 66 9 rfl B 5 i0 Tryd.underlying66 Tryd.underlying9 hi hz0 hz1 hz2 _ _ _ rfl hown (str s) rfl ?c3 ?c4 ?c5 ?_)
  case c3 => unfold maxLen; omega
  case c4 => omega
  case c5 => have := hb1.size; omega
  intro v' w2 hown' hgrow _
  have hlt : b < w1.heap.size := lt_of_block hbk
  have hb2 : w2.heap[b]? = some (.cells #[.pointer (some ⟨b, 0, none⟩), v] 72 (0, 0)) := by
    rw [hgrow.block b hlt (fun e => hne e.symm)]
    exact hbk
  have d0 : w2.cell? ⟨b, 0, none⟩ = some (.pointer (some ⟨b, 0, none⟩)) := by rw [cellAt hb2]; rfl
  have d1 : w2.cell? ⟨b, 1, none⟩ = some v := by rw [cellAt hb2]; rfl
  have f1 : w2.frozen? ⟨b, 1, none⟩ = false := freeAt hb2 1
  obtain ⟨ao, n', cap, rfl⟩ : ∃ ao n' cap, v' = .slice ao n' cap := by
    rcases hown'.2 with ⟨hv, _⟩ | ⟨g, cap, cur, hv, _⟩
    · exact ⟨_, _, _, hv⟩
    · exact ⟨_, _, _, hv⟩
  have hput := Lib.BuilderAt.put (T := 72) (e := 5) hB hb2 (bs' := bs ++ Lib.byteCells s) (v' := .slice ao n' cap) (by simpa [Lib.byteCells_length, Lib.strCells_eq, hss] using hown') (by decide)
  have HPUT := Lib.hid hput
  have HOWN := Lib.hid hown
  have HG := Lib.hid hgrow
  have HB1 := Lib.hid hb1
  have HBB := Lib.hid hB
  clear hput hown hown' hgrow hb1 hb2 hbk hne h hB
  go_wp2
  go_ret2
  refine ⟨rfl, .inr HPUT.out, ?_⟩
  exact (HB1.out.grown HG.out (by have := HB1.out.size; omega) (fun k hk => (HOWN.out.lt k hk).1)).setCell (p := ⟨b, 1, none⟩) HBB.out _

/-- Each line, with its end. -/
def joinL (xs : List (List UInt8)) : List UInt8 := xs.flatMap fun x => x ++ [13, 10]

theorem joinL_snoc (xs : List (List UInt8)) (x : List UInt8) : joinL (xs ++ [x]) = joinL xs ++ x ++ [13, 10] := by simp [joinL]

theorem joinL_take_le (xs : List (List UInt8)) (k : Nat) : (joinL (xs.take k)).length ≤ (joinL xs).length := by
  have e : joinL xs = joinL (xs.take k) ++ joinL (xs.drop k) := by
    unfold joinL
    rw [← List.flatMap_append, List.take_append_drop]
  rw [e, List.length_append]
  omega

/-- A slice of texts, whose cells lie below block n0. -/
def SRB (n0 : Nat) (W : World) (v : Value) (xs : List (List UInt8)) : Prop :=
  ∃ A c, v = .slice A xs.length c ∧ (xs = [] ∨ ∃ b o, A = some ⟨b, o, none⟩ ∧ b < n0 ∧ ∀ k, ∀ h : k < xs.length, W.cell? ⟨b, o + k, none⟩ = some (sv xs[k]))

theorem SR.bounded {W : World} {v : Value} {xs : List (List UInt8)} (h : SR W v xs) : SRB W.heap.size W v xs := by
  obtain ⟨A, c, e, h⟩ := h
  refine ⟨A, c, e, ?_⟩
  rcases h with h | ⟨b, o, e', hc⟩
  · exact .inl h
  · by_cases h0 : xs = []
    · exact .inl h0
    · have h1 : 0 < xs.length := by
        rcases Nat.eq_zero_or_pos xs.length with h | h
        · exact absurd (List.eq_nil_of_length_eq_zero h) h0
        · exact h
      exact .inr ⟨b, o, e', block_lt_of_cell (hc 0 h1), hc⟩

set_option maxRecDepth 100000 in
set_option maxHeartbeats 2000000 in
theorem join_any (xs : List (List UInt8)) (v : Value) (w : World) (h : SR w v xs) (hn : (joinL xs).length ≤ 4000000) (hx : xs.length ≤ 4000000) :
    Calls Tryd.prog 33 #[v] w fun e w' => e = .returned (.string (str (joinL xs))) ∧ Below w.heap.size w w' := by
  obtain ⟨A, c, rfl, hA⟩ := h.bounded
  have hB0 : Lib.IsBuilder 72 5 w.heap.size w.heap.size [] (w.alloc (.cells #[.pointer none, .slice none 0 0] 72)) :=
    .inl ⟨Nat.le_refl _, .slice none 0 0, heap_alloc_new w _, World.ownsRow_nil _ _ _ _, by simp [Value.ownBlock]⟩
  have HB0 := Lib.hid hB0
  have HA := Lib.hid hA
  clear hB0 hA h
  go_enter Tryd.func33, Tryd.ntmps33
  go_wp2_with fail
  go_loopw [8] (fun i wr => ∃ k : Nat, k ≤ xs.length ∧ i = .int .i64 k ∧ Lib.IsBuilder 72 5 w.heap.size w.heap.size (Lib.byteCells (joinL (xs.take k))) wr ∧ Below w.heap.size w wr ∧ w.heap.size ≤ wr.heap.size) (fun i _ => xs.length - (intOf i).toNat)
  case atStart => exact ⟨0, Nat.zero_le _, rfl, HB0.out, below_alloc _ _, by simp⟩
  case round =>
    obtain ⟨k, hk, rfl, hb, hbl, hsz⟩ := hrel
    have HB := Lib.hid hb
    have HL := Lib.hid hbl
    have HZ := Lib.hid hsz
    clear hb hbl hsz
    by_cases hlt : k < xs.length
    · rcases HA.out with h0 | ⟨b, o, rfl, hbn, hc⟩
      · subst h0; simp at hlt
      · have e1 : wr.cell? ⟨b, o + k, none⟩ = some (sv xs[k]) := (HL.out.cell (p := ⟨b, o + k, none⟩) hbn).trans (hc k hlt)
        have hjk : joinL (xs.take (k + 1)) = joinL (xs.take k) ++ xs[k] ++ [13, 10] := by rw [List.take_succ_eq_append_getElem hlt, joinL_snoc]
        have hjl := joinL_take_le xs (k + 1)
        rw [hjk] at hjl
        have hjl' : (joinL (xs.take k)).length + xs[k].length + 2 ≤ 4000000 := by simp at hjl; omega
        have HJ := Lib.hid hjk
        clear hjk hjl hc
        go_wp2_with fail
        refine (write_any w.heap.size w.heap.size _ xs[k] wr HB.out (by rw [Lib.byteCells_length]; omega) HZ.out).mono ?_
        rintro e w2 ⟨rfl, hb2, hl2⟩
        have HB2 := Lib.hid hb2
        have HL2 := Lib.hid hl2
        have HZ2 := Lib.hid (Nat.le_trans HZ.out hl2.size)
        clear hb2 hl2
        go_wp2_with fail
        refine (write_any w.heap.size w.heap.size _ [13, 10] w2 HB2.out (by rw [List.length_append, Lib.byteCells_length, Lib.byteCells_length]; simp; omega) HZ2.out).mono ?_
        rintro e w3 ⟨rfl, hb3, hl3⟩
        have HB3 := Lib.hid hb3
        have HL3 := Lib.hid hl3
        have HZ3 := Lib.hid (Nat.le_trans HZ2.out hl3.size)
        clear hb3 hl3
        go_wp2
        go_roundw
        case rel =>
          refine ⟨k + 1, by omega, by go_num, ?_, (HL.out.trans HL2.out).trans HL3.out, HZ3.out⟩
          rw [HJ.out, Lib.byteCells_append, Lib.byteCells_append]
          exact HB3.out
        case measure => simp [intOf]; omega
    · obtain rfl : k = xs.length := by omega
      go_wp2_with fail
      refine (Tryd.Builder_String_any w.heap.size w.heap.size (joinL xs) wr (by have := HB.out; rwa [List.take_of_length_le (Nat.le_refl _)] at this) HZ.out).mono ?_
      rintro e w2 ⟨rfl, hl2⟩
      have HL2 := Lib.hid hl2
      clear hl2
      go_wp2
      go_ret
      exact ⟨rfl, HL.out.trans HL2.out⟩
end Go.Proofs.YtkffdhdhjfbhjaaDoor
