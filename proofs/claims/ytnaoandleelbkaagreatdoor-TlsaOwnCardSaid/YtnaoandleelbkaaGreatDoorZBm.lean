/-
  Contracts of the Builder's methods that write: WriteByte, WriteString, copyCheck: of a builder that a call has made itself, with what lies beside it kept.
  The bytes written are 1000000 at most.
  What the digest's contracts share: the laid words, as words of a world; strings.Repeat.
-/
import Derived.Lib.AppendStr
import Derived.Laws.Externs
import Derived.Lib.FrozenHead2
import Derived.Test.YtnaoandleelbkaaGreatDoorShelf
import Derived.Lib.Builder
import Derived.Lib.FrozenHead
import Derived.Test.YtnaoandleelbkaaGreatDoorBase
import Derived.Laws.Strings
import Derived.Lib.LaidTab
import Derived.WalkLawsBesides
import Derived.Laws.BitsLemmas
import Derived.Deep.QuietTactic
import Derived.BigQuiet
import Derived.BigRegion
import Derived.StillTailTactics
namespace Go.Proofs.YtnaoandleelbkaaGreatDoor
open Go Go.RowKit Go.Shelf
set_option maxRecDepth 100000

theorem Bx.kept {w w' : World} {k b : Nat} {v : Value} {T e : TypeId} (h : Bx w k v T) (hk : Lib.OthersKept e (some b) w w') (hb : k ≠ b) (hT : T ≠ e) : Bx w' k v T :=
  hk k _ h (fun e => hb (by simpa using e)) (fun c fz e => by simp at e; exact hT e.2.1)
/-- A builder stands as it stood where another block's cell is written, that is of another type than its bytes. -/
theorem builder_set {w : World} {B b k : Nat} {v x : Value} {T U : TypeId} {bs : List Value} (h : Lib.IsBuilderF T 5 B b bs w) (hk : Bx w k v U) (hU : U ≠ 5) (hne : k ≠ b) : Lib.IsBuilderF T 5 B b bs (w.setCell ⟨k, 0, none⟩ x) := by
  have one : ∀ p, Lib.BuilderAtF T 5 B b p bs w → Lib.BuilderAtF T 5 B b p bs (w.setCell ⟨k, 0, none⟩ x) := by
    rintro p ⟨hB, v', hb, hown, hnb⟩
    refine ⟨hB, v', (heap_set_ne x hne).trans hb, ?_, hnb⟩
    refine hown.kept (row := some k) ⟨rfl, rfl, rfl, by simp [World.setCell], fun j _ hj => heap_set_ne x (fun e => hj (by rw [e]))⟩ (Or.inr ?_)
    exact Lib.ownBlock_neF hown hk hU
  exact h.elim (fun h => .inl (one _ h)) (fun h => .inr (one _ h))

theorem builder_alloc {w : World} {B b : Nat} {T : TypeId} {bs : List Value} (h : Lib.IsBuilderF T 5 B b bs w) (o : Obj) : Lib.IsBuilderF T 5 B b bs (w.alloc o) :=
  h.elim (fun h => .inl (h.alloc o)) (fun h => .inr (h.alloc o))

theorem builder_lt {w : World} {B b : Nat} {T : TypeId} {bs : List Value} (h : Lib.IsBuilderF T 5 B b bs w) : b < w.heap.size :=
  h.elim (fun h => h.lt) (fun h => h.lt)


theorem Tryz.info5 : (Tryz.prog.info? 5).map (fun i => (i.zero, i.size, i.bytes)) = some (some (.int .u8 0), 1, 1) := by kernel_rfl

theorem check_used (b : Nat) (w : World) (h0 : w.cell? ⟨b, 0, none⟩ = some (.pointer (some ⟨b, 0, none⟩))) :
    Calls Tryz.prog 155 #[.pointer (some ⟨b, 0, none⟩)] w fun e w' => e = .returned (.tuple #[]) ∧ w = w' := by
  obtain ⟨j, hj, _⟩ := Option.map_eq_some_iff.1 Tryz.Builder_Extra_169.sizeBuilder
  go_enter Tryz.func155, Tryz.ntmps155
  go_wp2
  rw [Lib.run_neq_ptr_same w _ Tryz.underlying119 hj]
  go_wp2
  go_end0
  exact ⟨rfl, rfl⟩

theorem check_fresh (b : Nat) (w : World) (h0 : w.cell? ⟨b, 0, none⟩ = some (.pointer none)) (hsh : w.shape? b = some (121, 2)) (hfz : w.frozen? ⟨b, 0, none⟩ = false) :
    Calls Tryz.prog 155 #[.pointer (some ⟨b, 0, none⟩)] w fun e w' => e = .returned (.tuple #[]) ∧ w' = w.setCell ⟨b, 0, none⟩ (.pointer (some ⟨b, 0, none⟩)) := by
  obtain ⟨j, hj, hjs⟩ := Option.map_eq_some_iff.1 Tryz.Builder_Extra_169.sizeBuilder
  go_enter Tryz.func155, Tryz.ntmps155
  go_wp2
  rw [Lib.run_to_unsafe w ⟨b, 0, none⟩ Tryz.underlying119 Tryz.underlying198 hj (by rw [hjs]; decide) hsh (Nat.zero_lt_succ 1)]
  simp only [Result.andThen]
  rw [Oper.upon_value]
  go_wp2
  rw [run_callFunc_extern Tryz.func188 (by kernel_rfl) (by kernel_rfl) (by kernel_rfl) (e := Extern.AbiNoEscape.same) (by kernel_rfl)]
  rw [Lib.run_noEscape]
  simp only [Result.andThen]
  rw [Oper.upon_value]
  go_wp2
  rw [Lib.run_from_unsafe w ⟨b, 0, none⟩ Tryz.underlying198 Tryz.underlying119 hj hsh Tryz.Builder_Extra_169.liesBuilder]
  simp only [Result.andThen]
  rw [Oper.upon_value]
  go_wp2
  go_end0
  exact ⟨rfl, rfl⟩

theorem check_any (B b : Nat) (bs : List Value) (w : World) (h : Lib.IsBuilderF 121 5 B b bs w) :
    Calls Tryz.prog 155 #[.pointer (some ⟨b, 0, none⟩)] w fun e w' => e = .returned (.tuple #[]) ∧ Lib.BuilderAtF 121 5 B b (.pointer (some ⟨b, 0, none⟩)) bs w' ∧ Below B w w' ∧ Lib.OthersKept 5 (some b) w w' := by
  rcases h with h | h
  · refine (check_fresh b w h.cell0 h.shape h.frozen0).mono ?_
    rintro e w' ⟨rfl, rfl⟩
    exact ⟨rfl, h.used _, (Below.refl B w).setCell (p := ⟨b, 0, none⟩) h.1 _, (Lib.OthersKept.refl 5 (some b) w).setCell ⟨b, 0, none⟩ rfl _⟩
  · refine (check_used b w h.cell0).mono ?_
    rintro e w' ⟨rfl, rfl⟩
    exact ⟨rfl, h, Below.refl B _, Lib.OthersKept.refl _ _ _⟩

theorem slice_form {w : World} {B e : Nat} {v : Value} {n : Nat} {xs : List Value} (h : w.ownsRowF B e 1 v n xs) : ∃ ao n' cap, v = .slice ao n' cap := by
  rcases h.2 with ⟨hv, _⟩ | ⟨g, cap, cur, fz, hv, _⟩
  · exact ⟨_, _, _, hv⟩
  · exact ⟨_, _, _, hv⟩

theorem owner_le {w : World} {B e : Nat} {v : Value} {n : Nat} {xs : List Value} (h : w.ownsRowF B e 1 v n xs) : ∀ k, v.ownBlock = some k → B ≤ k := by
  intro k hk
  rcases h.2 with ⟨rfl, _⟩ | ⟨g, cap, cur, fz, rfl, hg, _⟩
  · simp [Value.ownBlock] at hk
  · simp [Value.ownBlock] at hk; omega

set_option maxHeartbeats 1000000 in
theorem write_str (B b : Nat) (bs : List Value) (s : List UInt8) (w : World) (h : Lib.IsBuilderF 121 5 B b bs w) (hlen : bs.length + s.length ≤ 1000000) (hBw : B ≤ w.heap.size) :
    Calls Tryz.prog 100 #[.pointer (some ⟨b, 0, none⟩), .string (str s)] w fun e w' => e = .returned (.tuple #[.int .i64 s.length, .nilIface]) ∧ Lib.IsBuilderF 121 5 B b (bs ++ Lib.byteCells s) w' ∧ Below B w w' ∧ Lib.OthersKept 5 (some b) w w' := by
  obtain ⟨i0, hi, hz0, hz1, hz2⟩ := info_parts Tryz.info5
  have hss : (str s).size = s.length := by simp [ByteArray.size]
  go_enter Tryz.func100, Tryz.ntmps100
  go_wp2_with (go_at_call 155; refine (check_any B b bs _ h).mono ?_)
  rintro e w1 ⟨rfl, h1, hb1, hk1⟩
  obtain ⟨hB, v, hbk, hown, hne⟩ := h1
  have c0 : w1.cell? ⟨b, 0, none⟩ = some (.pointer (some ⟨b, 0, none⟩)) := by rw [cellAt hbk]; rfl
  have c1 : w1.cell? ⟨b, 1, none⟩ = some v := by rw [cellAt hbk]; rfl
  go_wp2_with (at_builtin; refine Lib.wpList_append_own_stringF _ rfl _ _ 41 9 rfl B 5 i0 Tryz.underlying41 Tryz.underlying9 hi hz0 hz1 hz2 _ _ _ rfl hown (str s) rfl ?c3 ?c4 ?c5 ?_)
  case c3 => unfold maxLen; omega
  case c4 => omega
  case c5 => have := hb1.size; omega
  intro v' w2 hown' hgrow _
  have hlt : b < w1.heap.size := lt_of_blk hbk
  have hb2 : w2.heap[b]? = some (.cells #[.pointer (some ⟨b, 0, none⟩), v] 121 (0, 0)) := by
    rw [hgrow.block b hlt (fun e => hne e.symm)]
    exact hbk
  have d0 : w2.cell? ⟨b, 0, none⟩ = some (.pointer (some ⟨b, 0, none⟩)) := by rw [cellAt hb2]; rfl
  have d1 : w2.cell? ⟨b, 1, none⟩ = some v := by rw [cellAt hb2]; rfl
  have f1 : w2.frozen? ⟨b, 1, none⟩ = false := freeAt hb2 1
  obtain ⟨ao, n', cap, rfl⟩ := slice_form hown'
  have hput := Lib.BuilderAtF.put (T := 121) (e := 5) hB hb2 (bs' := bs ++ Lib.byteCells s) (v' := .slice ao n' cap) (by simpa [Lib.byteCells_length, Lib.strCells_eq, hss] using hown') (by decide)
  have HPUT := Lib.hid hput
  have HOWN := Lib.hid hown
  have HG := Lib.hid hgrow
  have HB1 := Lib.hid hb1
  have HBB := Lib.hid hB
  have HK := Lib.hid (hk1.grown hgrow (Lib.ownsRowF_kind hown))
  clear hput hown hown' hgrow hb1 hb2 hbk hne h hB hk1
  go_wp2
  go_ret2
  refine ⟨rfl, .inr HPUT.out, ?_, HK.out.setCell ⟨b, 1, none⟩ rfl _⟩
  exact (HB1.out.grown HG.out (by have := HB1.out.size; omega) (owner_le HOWN.out)).setCell (p := ⟨b, 1, none⟩) HBB.out _

set_option maxHeartbeats 1000000 in
theorem write_byte (B b : Nat) (bs : List UInt8) (x : UInt8) (w : World) (h : Lib.IsBuilderF 121 5 B b (Lib.byteCells bs) w) (hlen : bs.length + 1 ≤ 1000000) (hBw : B ≤ w.heap.size) :
    Calls Tryz.prog 156 #[.pointer (some ⟨b, 0, none⟩), .int .u8 (x.toNat : Int)] w fun e w' => e = .returned .nilIface ∧ Lib.IsBuilderF 121 5 B b (Lib.byteCells (bs ++ [x])) w' ∧ Below B w w' ∧ Lib.OthersKept 5 (some b) w w' := by
  obtain ⟨i0, hi, hz0, hz1, hz2⟩ := info_parts Tryz.info5
  have hbl := Lib.byteCells_length bs
  go_enter Tryz.func156, Tryz.ntmps156
  go_wp2_with (go_at_call 155; refine (check_any B b _ _ h).mono ?_)
  rintro e w1 ⟨rfl, h1, hb1, hk1⟩
  obtain ⟨hB, v, hbk, hown, hne⟩ := h1
  have c0 : w1.cell? ⟨b, 0, none⟩ = some (.pointer (some ⟨b, 0, none⟩)) := by rw [cellAt hbk]; rfl
  have c1 : w1.cell? ⟨b, 1, none⟩ = some v := by rw [cellAt hbk]; rfl
  obtain ⟨m, hm⟩ : ∃ m, m = (Lib.byteCells bs).length := ⟨_, rfl⟩
  rw [← hm] at hbl hown
  have HM := Lib.hid hm
  clear hm
  go_wp2_with (at_builtin; refine wpList_append_ownF _ rfl _ _ 41 rfl B 5 i0 (.int .u8 0) 1 1 Tryz.underlying41 hi hz0 hz1 hz2 rfl (by decide) _ _ _ rfl (hown.alloc _) ⟨w1.heap.size, 0, none⟩ 1 1 [.int .u8 (x.toNat : Int)] rfl rfl ?c1 ?c2 ?c3 ?c4 ?c5 ?_)
  case c1 =>
    intro j u hj
    cases j with
    | zero =>
      obtain rfl : Value.int .u8 (x.toNat : Int) = u := by simpa using hj
      exact (Bx.new w1 _ 5).cell
    | succ j => simp at hj
  case c2 => intro u hu; obtain rfl := List.mem_singleton.1 hu; rfl
  case c3 => unfold maxLen; omega
  case c4 => omega
  case c5 => have := hb1.size; simp; omega
  intro v' w2 hown' hgrow _
  have hlt : b < w1.heap.size := lt_of_blk hbk
  have hba : (w1.alloc (.cells #[.int .u8 (x.toNat : Int)] 5)).heap[b]? = some (.cells #[.pointer (some ⟨b, 0, none⟩), v] 121 (0, 0)) := (Lib.alloc_old w1 _ b hlt).trans hbk
  have hb2 : w2.heap[b]? = some (.cells #[.pointer (some ⟨b, 0, none⟩), v] 121 (0, 0)) := by
    rw [hgrow.block b (lt_of_blk hba) (fun e => hne e.symm)]
    exact hba
  have d0 : w2.cell? ⟨b, 0, none⟩ = some (.pointer (some ⟨b, 0, none⟩)) := by rw [cellAt hb2]; rfl
  have d1 : w2.cell? ⟨b, 1, none⟩ = some v := by rw [cellAt hb2]; rfl
  have f1 : w2.frozen? ⟨b, 1, none⟩ = false := freeAt hb2 1
  obtain ⟨ao, n', cap, rfl⟩ := slice_form hown'
  have hcs : Lib.byteCells (bs ++ [x]) = Lib.byteCells bs ++ [Value.int .u8 (x.toNat : Int)] := by rw [Lib.byteCells_append]; rfl
  have hput := Lib.BuilderAtF.put (T := 121) (e := 5) hB hb2 (bs' := Lib.byteCells (bs ++ [x])) (v' := .slice ao n' cap) (by rw [hcs, List.length_append, Lib.byteCells_length]; exact hown') (by decide)
  have HPUT := Lib.hid hput
  have HOWN := Lib.hid (hown.alloc (.cells #[.int .u8 (x.toNat : Int)] 5))
  have HG := Lib.hid hgrow
  have HB1 := Lib.hid (hb1.alloc (by have := hb1.size; omega) (.cells #[.int .u8 (x.toNat : Int)] 5))
  have HBB := Lib.hid hB
  have HK := Lib.hid ((hk1.alloc (.cells #[.int .u8 (x.toNat : Int)] 5)).grown hgrow (Lib.ownsRowF_kind (hown.alloc (.cells #[.int .u8 (x.toNat : Int)] 5))))
  have hsz := hb1.size
  clear hput hown hown' hgrow hb1 hb2 hbk hba hne h hB hk1 hcs
  go_wp2
  go_ret
  refine ⟨rfl, .inr HPUT.out, ?_, HK.out.setCell ⟨b, 1, none⟩ rfl _⟩
  exact (HB1.out.grown HG.out (by simp; omega) (owner_le HOWN.out)).setCell (p := ⟨b, 1, none⟩) HBB.out _

end Go.Proofs.YtnaoandleelbkaaGreatDoor

namespace Go.Proofs.YtnaoandleelbkaaGreatDoor
open Go Go.RowKit
set_option maxRecDepth 100000
set_option linter.unusedSimpArgs false
set_option linter.unusedVariables false

theorem str_appendC (a b : List UInt8) : str a ++ str b = str (a ++ b) := by
  apply ByteArray.ext
  simp [str, ByteArray.data_append]
theorem below_drewNC {n : Nat} {w w' : World} (h : Below n w w') (k : Nat) : Below n w (w'.drewN k) := ⟨h.os, h.tape, h.output, h.size, h.block⟩
def firstZ : List Int := [1779033703, 3144134277, 1013904242, 2773480762, 1359893119, 2600822924, 528734635, 1541459225]
def roundZ : List Int := [0x428a2f98, 0x71374491, 0xb5c0fbcf, 0xe9b5dba5, 0x3956c25b, 0x59f111f1, 0x923f82a4, 0xab1c5ed5,
  0xd807aa98, 0x12835b01, 0x243185be, 0x550c7dc3, 0x72be5d74, 0x80deb1fe, 0x9bdc06a7, 0xc19bf174,
  0xe49b69c1, 0xefbe4786, 0x0fc19dc6, 0x240ca1cc, 0x2de92c6f, 0x4a7484aa, 0x5cb0a9dc, 0x76f988da,
  0x983e5152, 0xa831c66d, 0xb00327c8, 0xbf597fc7, 0xc6e00bf3, 0xd5a79147, 0x06ca6351, 0x14292967,
  0x27b70a85, 0x2e1b2138, 0x4d2c6dfc, 0x53380d13, 0x650a7354, 0x766a0abb, 0x81c2c92e, 0x92722c85,
  0xa2bfe8a1, 0xa81a664b, 0xc24b8b70, 0xc76c51a3, 0xd192e819, 0xd6990624, 0xf40e3585, 0x106aa070,
  0x19a4c116, 0x1e376c08, 0x2748774c, 0x34b0bcb5, 0x391c0cb3, 0x4ed8aa4a, 0x5b9cca4f, 0x682e6ff3,
  0x748f82ee, 0x78a5636f, 0x84c87814, 0x8cc70208, 0x90befffa, 0xa4506ceb, 0xbef9a3f7, 0xc67178f2]

/-- The laid variables are as their texts lay them. -/
structure LWc (w : World) : Prop where
  first : Lib.TabIs Tryz.prog w "mailroom/code.firstWords" .u32 firstZ
  round : Lib.TabIs Tryz.prog w "mailroom/code.roundWords" .u32 roundZ

theorem gFirst : Tryz.prog.globalNamed "mailroom/code.firstWords" = some 0 := by kernel_rfl
theorem gRound : Tryz.prog.globalNamed "mailroom/code.roundWords" = some 2 := by kernel_rfl

theorem tab_lt {w : World} {n : String} {k : IntKind} {zs : List Int} {g : Nat} (h : Lib.TabIs Tryz.prog w n k zs) (hg : Tryz.prog.globalNamed n = some g) : g < w.heap.size := by
  unfold Lib.TabIs World.var? at h
  rw [hg] at h
  rcases Nat.lt_or_ge g w.heap.size with h' | h'
  · exact h'
  · simp [Array.getElem?_eq_none h'] at h

theorem tab_below {w w' : World} {n : String} {k : IntKind} {zs : List Int} {g : Nat} (h : Lib.TabIs Tryz.prog w n k zs) (hg : Tryz.prog.globalNamed n = some g) (hb : Below w.heap.size w w') : Lib.TabIs Tryz.prog w' n k zs := by
  have hl := tab_lt h hg
  unfold Lib.TabIs World.var? at h ⊢
  rw [hg] at h ⊢
  simp only [Option.bind_some] at h ⊢
  rw [hb.block g hl]
  exact h

theorem LWc.below {w w' : World} (h : LWc w) (hb : Below w.heap.size w w') : LWc w' := ⟨tab_below h.first gFirst hb, tab_below h.round gRound hb⟩
theorem LWc.pos0 {w : World} (h : LWc w) : 0 < w.heap.size := tab_lt h.first gFirst
theorem LWc.pos {w : World} (h : LWc w) : 2 < w.heap.size := tab_lt h.round gRound

theorem below_more {w w' : World} {os : Array Obj} (hh : w'.heap = w.heap ++ os) (h1 : w'.os = w.os) (h2 : w'.tape = w.tape) (h3 : w'.output = w.output) : Below w.heap.size w w' := by
  refine ⟨h1, h2, h3, by rw [hh]; simp, fun k hk => ?_⟩
  rw [hh, Array.getElem?_append_left hk]

theorem repeat_any (c : UInt8) (n : Nat) (w : World) (hn : n ≤ 100000) :
    Calls Tryz.prog 154 #[.string { data := #[c] }, .int .i64 n] w fun e w' => e = .returned (sv (List.replicate n c)) ∧ Below w.heap.size w w' := by
  refine (Tryz.strings_Repeat (str [c]) n w (by omega) (by simp [ByteArray.size]; omega)).mono ?_
  rintro e w' ⟨rfl, hb⟩
  refine ⟨?_, hb⟩
  have e : Lib.repeatL (str [c]).data.toList n = List.replicate n c := by
    show Lib.repeatL [c] n = _
    induction n with
    | zero => rfl
    | succ n ih => rw [Lib.repeatL, ih (by omega), List.replicate_succ]; rfl
  rw [e]

end Go.Proofs.YtnaoandleelbkaaGreatDoor
