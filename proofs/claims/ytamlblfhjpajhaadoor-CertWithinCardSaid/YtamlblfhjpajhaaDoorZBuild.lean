/-
  Contracts of the Builder's methods that write: WriteByte, WriteString, copyCheck: of a builder that a call has made itself, with what lies beside it kept.
  The bytes written are 1000000 at most.
-/
import Derived.Lib.AppendStr
import Derived.Laws.Externs
import Derived.Lib.FrozenHead2
import Derived.Test.YtamlblfhjpajhaaDoorShelf
import Derived.Lib.Builder
import Derived.Lib.FrozenHead
import Derived.Test.YtamlblfhjpajhaaDoorBase
namespace Go.Proofs.YtamlblfhjpajhaaDoor
open Go Go.RowKit Go.Shelf
set_option maxRecDepth 100000

theorem Bx.kept {w w' : World} {k b : Nat} {v : Value} {T e : TypeId} (h : Bx w k v T) (hk : Lib.OthersKept e (some b) w w') (hb : k ≠ b) (hT : T ≠ e) : Bx w' k v T :=
  hk k _ h (fun e => hb (by simpa using e)) (fun c fz e => by simp at e; exact hT e.2.1)
/-- A builder stands as it stood where another block's cell is written, that is of another type than its bytes. -/
theorem builder_set {w : World} {B b k : Nat} {v x : Value} {T U : TypeId} {bs : List Value} (h : Lib.IsBuilderF T 5 B b bs w) (hk : Bx w k v U) (hU : U ≠ 5) (hne : k ≠ b) : Lib.IsBuilderF T 5 B b bs (w.setCell ⟨k, 0, none⟩ x) := by
  have one : ∀ p, Lib.BuilderAtF T 5 B b p bs w → Lib.BuilderAtF T 5 B b p bs (w.setCell ⟨k, 0, none⟩ x) := by
    rintro p ⟨hB, v', hb, hown, hnb⟩
    refine ⟨hB, v', (heap_set_ne x hne).trans hb, ?_, hnb⟩
    refine hown.kept (row := some k) ⟨rfl, rfl, rfl, by simp [World.setCell], fun j _ hj => heap_set_ne x (fun e => hj (by rw [e]))⟩ (Or.inr ?_)
    exact Lib.ownBlock_neF hown hk hU
  exact h.elim (fun h => .inl (one _ h)) (fun h => .inr (one _ h))

theorem builder_alloc {w : World} {B b : Nat} {T : TypeId} {bs : List Value} (h : Lib.IsBuilderF T 5 B b bs w) (o : Obj) : Lib.IsBuilderF T 5 B b bs (w.alloc o) :=
  h.elim (fun h => .inl (h.alloc o)) (fun h => .inr (h.alloc o))

theorem builder_lt {w : World} {B b : Nat} {T : TypeId} {bs : List Value} (h : Lib.IsBuilderF T 5 B b bs w) : b < w.heap.size :=
  h.elim (fun h => h.lt) (fun h => h.lt)


theorem Tryd.info5 : (Tryd.prog.info? 5).map (fun i => (i.zero, i.size, i.bytes)) = some (some (.int .u8 0), 1, 1) := by kernel_rfl

theorem check_used (b : Nat) (w : World) (h0 : w.cell? ⟨b, 0, none⟩ = some (.pointer (some ⟨b, 0, none⟩))) :
    Calls Tryd.prog 52 #[.pointer (some ⟨b, 0, none⟩)] w fun e w' => e = .returned (.tuple #[]) ∧ w = w' := by
  obtain ⟨j, hj, _⟩ := Option.map_eq_some_iff.1 Tryd.Builder_Extra_169.sizeBuilder
  go_enter Tryd.func52, Tryd.ntmps52
  go_wp2
  rw [Lib.run_neq_ptr_same w _ Tryd.underlying70 hj]
  go_wp2
  go_end0
  exact ⟨rfl, rfl⟩

theorem check_fresh (b : Nat) (w : World) (h0 : w.cell? ⟨b, 0, none⟩ = some (.pointer none)) (hsh : w.shape? b = some (73, 2)) (hfz : w.frozen? ⟨b, 0, none⟩ = false) :
    Calls Tryd.prog 52 #[.pointer (some ⟨b, 0, none⟩)] w fun e w' => e = .returned (.tuple #[]) ∧ w' = w.setCell ⟨b, 0, none⟩ (.pointer (some ⟨b, 0, none⟩)) := by
  obtain ⟨j, hj, hjs⟩ := Option.map_eq_some_iff.1 Tryd.Builder_Extra_169.sizeBuilder
  go_enter Tryd.func52, Tryd.ntmps52
  go_wp2
  rw [Lib.run_to_unsafe w ⟨b, 0, none⟩ Tryd.underlying70 Tryd.underlying105 hj (by rw [hjs]; decide) hsh (Nat.zero_lt_succ 1)]
  simp only [Result.andThen]
  rw [Oper.upon_value]
  go_wp2
  rw [run_callFunc_extern Tryd.func67 (by kernel_rfl) (by kernel_rfl) (by kernel_rfl) (e := Extern.AbiNoEscape.same) (by kernel_rfl)]
  rw [Lib.run_noEscape]
  simp only [Result.andThen]
  rw [Oper.upon_value]
  go_wp2
  rw [Lib.run_from_unsafe w ⟨b, 0, none⟩ Tryd.underlying105 Tryd.underlying70 hj hsh Tryd.Builder_Extra_169.liesBuilder]
  simp only [Result.andThen]
  rw [Oper.upon_value]
  go_wp2
  go_end0
  exact ⟨rfl, rfl⟩

theorem check_any (B b : Nat) (bs : List Value) (w : World) (h : Lib.IsBuilderF 73 5 B b bs w) :
    Calls Tryd.prog 52 #[.pointer (some ⟨b, 0, none⟩)] w fun e w' => e = .returned (.tuple #[]) ∧ Lib.BuilderAtF 73 5 B b (.pointer (some ⟨b, 0, none⟩)) bs w' ∧ Below B w w' ∧ Lib.OthersKept 5 (some b) w w' := by
  rcases h with h | h
  · refine (check_fresh b w h.cell0 h.shape h.frozen0).mono ?_
    rintro e w' ⟨rfl, rfl⟩
    exact ⟨rfl, h.used _, (Below.refl B w).setCell (p := ⟨b, 0, none⟩) h.1 _, (Lib.OthersKept.refl 5 (some b) w).setCell ⟨b, 0, none⟩ rfl _⟩
  · refine (check_used b w h.cell0).mono ?_
    rintro e w' ⟨rfl, rfl⟩
    exact ⟨rfl, h, Below.refl B _, Lib.OthersKept.refl _ _ _⟩

theorem slice_form {w : World} {B e : Nat} {v : Value} {n : Nat} {xs : List Value} (h : w.ownsRowF B e 1 v n xs) : ∃ ao n' cap, v = .slice ao n' cap := by
  rcases h.2 with ⟨hv, _⟩ | ⟨g, cap, cur, fz, hv, _⟩
  · exact ⟨_, _, _, hv⟩
  · exact ⟨_, _, _, hv⟩

theorem owner_le {w : World} {B e : Nat} {v : Value} {n : Nat} {xs : List Value} (h : w.ownsRowF B e 1 v n xs) : ∀ k, v.ownBlock = some k → B ≤ k := by
  intro k hk
  rcases h.2 with ⟨rfl, _⟩ | ⟨g, cap, cur, fz, rfl, hg, _⟩
  · simp [Value.ownBlock] at hk
  · simp [Value.ownBlock] at hk; omega

set_option maxHeartbeats 1000000 in
theorem write_str (B b : Nat) (bs : List Value) (s : List UInt8) (w : World) (h : Lib.IsBuilderF 73 5 B b bs w) (hlen : bs.length + s.length ≤ 1000000) (hBw : B ≤ w.heap.size) :
    Calls Tryd.prog 39 #[.pointer (some ⟨b, 0, none⟩), .string (str s)] w fun e w' => e = .returned (.tuple #[.int .i64 s.length, .nilIface]) ∧ Lib.IsBuilderF 73 5 B b (bs ++ Lib.byteCells s) w' ∧ Below B w w' ∧ Lib.OthersKept 5 (some b) w w' := by
  obtain ⟨i0, hi, hz0, hz1, hz2⟩ := info_parts Tryd.info5
  have hss : (str s).size = s.length := by simp [ByteArray.size]
  go_enter Tryd.func39, Tryd.ntmps39
  go_wp2_with (go_at_call 52; refine (check_any B b bs _ h).mono ?_)
  rintro e w1 ⟨rfl, h1, hb1, hk1⟩
  obtain ⟨hB, v, hbk, hown, hne⟩ := h1
  have c0 : w1.cell? ⟨b, 0, none⟩ = some (.pointer (some ⟨b, 0, none⟩)) := by rw [cellAt hbk]; rfl
  have c1 : w1.cell? ⟨b, 1, none⟩ = some v := by rw [cellAt hbk]; rfl
  go_wp2_with (at_builtin; refine Lib.wpList_append_own_stringF _ rfl _ _ 71 9 rfl B 5 i0 Tryd.underlying71 Tryd.underlying9 hi hz0 hz1 hz2 _ _ _ rfl hown (str s) rfl ?c3 ?c4 ?c5 ?_)
  case c3 => unfold maxLen; omega
  case c4 => omega
  case c5 => have := hb1.size; omega
  intro v' w2 hown' hgrow _
  have hlt : b < w1.heap.size := lt_of_blk hbk
  have hb2 : w2.heap[b]? = some (.cells #[.pointer (some ⟨b, 0, none⟩), v] 73 (0, 0)) := by
    rw [hgrow.block b hlt (fun e => hne e.symm)]
    exact hbk
  have d0 : w2.cell? ⟨b, 0, none⟩ = some (.pointer (some ⟨b, 0, none⟩)) := by rw [cellAt hb2]; rfl
  have d1 : w2.cell? ⟨b, 1, none⟩ = some v := by rw [cellAt hb2]; rfl
  have f1 : w2.frozen? ⟨b, 1, none⟩ = false := freeAt hb2 1
  obtain ⟨ao, n', cap, rfl⟩ := slice_form hown'
  have hput := Lib.BuilderAtF.put (T := 73) (e := 5) hB hb2 (bs' := bs ++ Lib.byteCells s) (v' := .slice ao n' cap) (by simpa [Lib.byteCells_length, Lib.strCells_eq, hss] using hown') (by decide)
  have HPUT := Lib.hid hput
  have HOWN := Lib.hid hown
  have HG := Lib.hid hgrow
  have HB1 := Lib.hid hb1
  have HBB := Lib.hid hB
  have HK := Lib.hid (hk1.grown hgrow (Lib.ownsRowF_kind hown))
  clear hput hown hown' hgrow hb1 hb2 hbk hne h hB hk1
  go_wp2
  go_ret2
  refine ⟨rfl, .inr HPUT.out, ?_, HK.out.setCell ⟨b, 1, none⟩ rfl _⟩
  exact (HB1.out.grown HG.out (by have := HB1.out.size; omega) (owner_le HOWN.out)).setCell (p := ⟨b, 1, none⟩) HBB.out _

set_option maxHeartbeats 1000000 in
theorem write_byte (B b : Nat) (bs : List UInt8) (x : UInt8) (w : World) (h : Lib.IsBuilderF 73 5 B b (Lib.byteCells bs) w) (hlen : bs.length + 1 ≤ 1000000) (hBw : B ≤ w.heap.size) :
    Calls Tryd.prog 53 #[.pointer (some ⟨b, 0, none⟩), .int .u8 (x.toNat : Int)] w fun e w' => e = .returned .nilIface ∧ Lib.IsBuilderF 73 5 B b (Lib.byteCells (bs ++ [x])) w' ∧ Below B w w' ∧ Lib.OthersKept 5 (some b) w w' := by
  obtain ⟨i0, hi, hz0, hz1, hz2⟩ := info_parts Tryd.info5
  have hbl := Lib.byteCells_length bs
  go_enter Tryd.func53, Tryd.ntmps53
  go_wp2_with (go_at_call 52; refine (check_any B b _ _ h).mono ?_)
  rintro e w1 ⟨rfl, h1, hb1, hk1⟩
  obtain ⟨hB, v, hbk, hown, hne⟩ := h1
  have c0 : w1.cell? ⟨b, 0, none⟩ = some (.pointer (some ⟨b, 0, none⟩)) := by rw [cellAt hbk]; rfl
  have c1 : w1.cell? ⟨b, 1, none⟩ = some v := by rw [cellAt hbk]; rfl
  obtain ⟨m, hm⟩ : ∃ m, m = (Lib.byteCells bs).length := ⟨_, rfl⟩
  rw [← hm] at hbl hown
  have HM := Lib.hid hm
  clear hm
  go_wp2_with (at_builtin; refine wpList_append_ownF _ rfl _ _ 71 rfl B 5 i0 (.int .u8 0) 1 1 Tryd.underlying71 hi hz0 hz1 hz2 rfl (by decide) _ _ _ rfl (hown.alloc _) ⟨w1.heap.size, 0, none⟩ 1 1 [.int .u8 (x.toNat : Int)] rfl rfl ?c1 ?c2 ?c3 ?c4 ?c5 ?_)
  case c1 =>
    intro j u hj
    cases j with
    | zero =>
      obtain rfl : Value.int .u8 (x.toNat : Int) = u := by simpa using hj
      exact (Bx.new w1 _ 5).cell
    | succ j => simp at hj
  case c2 => intro u hu; obtain rfl := List.mem_singleton.1 hu; rfl
  case c3 => unfold maxLen; omega
  case c4 => omega
  case c5 => have := hb1.size; simp; omega
  intro v' w2 hown' hgrow _
  have hlt : b < w1.heap.size := lt_of_blk hbk
  have hba : (w1.alloc (.cells #[.int .u8 (x.toNat : Int)] 5)).heap[b]? = some (.cells #[.pointer (some ⟨b, 0, none⟩), v] 73 (0, 0)) := (Lib.alloc_old w1 _ b hlt).trans hbk
  have hb2 : w2.heap[b]? = some (.cells #[.pointer (some ⟨b, 0, none⟩), v] 73 (0, 0)) := by
    rw [hgrow.block b (lt_of_blk hba) (fun e => hne e.symm)]
    exact hba
  have d0 : w2.cell? ⟨b, 0, none⟩ = some (.pointer (some ⟨b, 0, none⟩)) := by rw [cellAt hb2]; rfl
  have d1 : w2.cell? ⟨b, 1, none⟩ = some v := by rw [cellAt hb2]; rfl
  have f1 : w2.frozen? ⟨b, 1, none⟩ = false := freeAt hb2 1
  obtain ⟨ao, n', cap, rfl⟩ := slice_form hown'
  have hcs : Lib.byteCells (bs ++ [x]) = Lib.byteCells bs ++ [Value.int .u8 (x.toNat : Int)] := by rw [Lib.byteCells_append]; rfl
  have hput := Lib.BuilderAtF.put (T := 73) (e := 5) hB hb2 (bs' := Lib.byteCells (bs ++ [x])) (v' := .slice ao n' cap) (by rw [hcs, List.length_append, Lib.byteCells_length]; exact hown') (by decide)
  have HPUT := Lib.hid hput
  have HOWN := Lib.hid (hown.alloc (.cells #[.int .u8 (x.toNat : Int)] 5))
  have HG := Lib.hid hgrow
  have HB1 := Lib.hid (hb1.alloc (by have := hb1.size; omega) (.cells #[.int .u8 (x.toNat : Int)] 5))
  have HBB := Lib.hid hB
  have HK := Lib.hid ((hk1.alloc (.cells #[.int .u8 (x.toNat : Int)] 5)).grown hgrow (Lib.ownsRowF_kind (hown.alloc (.cells #[.int .u8 (x.toNat : Int)] 5))))
  have hsz := hb1.size
  clear hput hown hown' hgrow hb1 hb2 hbk hba hne h hB hk1 hcs
  go_wp2
  go_ret
  refine ⟨rfl, .inr HPUT.out, ?_, HK.out.setCell ⟨b, 1, none⟩ rfl _⟩
  exact (HB1.out.grown HG.out (by simp; omega) (owner_le HOWN.out)).setCell (p := ⟨b, 1, none⟩) HBB.out _

end Go.Proofs.YtamlblfhjpajhaaDoor
