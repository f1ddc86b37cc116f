/-
  gather's closure: bits that come are handed on by groups, the upper ones first; what is left waits.
  Contracts of what is handed groups, of gather, of spell: what is written of bytes, by signs.
  Texts of 100000 bytes at most.
  Contracts of unspell, Hex, Unhex, Base64, Unbase64.
  Texts of 100000 bytes at most.
  Contracts of Hex, Unhex, Base64, Unbase64.
  Texts of 100000 bytes at most.
-/
import Derived.Deep.LoopGhost
import Derived.Deep.QuietTactic
import Derived.BigQuiet
import Derived.BigRegion
import Derived.StillTailTactics
import Derived.Laws.BitsLemmas
import Derived.Test.YtnaoandleelbkaaGreatDoorZBm
import Derived.Test.YtnaoandleelbkaaGreatDoorXCm
namespace Go.Proofs.YtnaoandleelbkaaGreatDoor.Hx
open Go Go.RowKit
set_option linter.unusedSimpArgs false
set_option linter.unusedVariables false
set_option maxRecDepth 100000

/-- What a gathering closure stands on. -/
structure Gq (w : World) (B b sg sz bh hv ct : Nat) (so : Value) (sT : TypeId) (k : Nat) (fn : Value) (h c : Nat) (out : List UInt8) : Prop where
  bld : Lib.IsBuilderF 121 5 B b (Lib.byteCells out) w
  sgn : Bx w sg so sT
  siz : Bx w sz (.int .i64 k) 3
  hnd : Bx w bh fn 206
  hav : Bx w hv (.int .i64 h) 3
  cnt : Bx w ct (.int .i64 c) 3
  base : B ≤ w.heap.size

/-- The blocks' numbers. -/
structure Nums (B b sg sz bh hv ct : Nat) (sT : TypeId) : Prop where
  B1 : B ≤ hv
  B2 : B ≤ ct
  n1 : hv ≠ b
  n2 : ct ≠ b
  n3 : hv ≠ ct
  n4 : hv ≠ sz
  n5 : ct ≠ sz
  n6 : hv ≠ bh
  n7 : ct ≠ bh
  n8 : hv ≠ sg
  n9 : ct ≠ sg
  n10 : sg ≠ b
  n11 : sz ≠ b
  n12 : bh ≠ b
  n13 : sT ≠ 5

section
variable {w : World} {B b sg sz bh hv ct : Nat} {so fn : Value} {sT : TypeId} {k h c : Nat} {out : List UInt8}
theorem Gq.setH (g : Gq w B b sg sz bh hv ct so sT k fn h c out) (n : Nums B b sg sz bh hv ct sT) (h' : Nat) : Gq (w.setCell ⟨hv, 0, none⟩ (.int .i64 h')) B b sg sz bh hv ct so sT k fn h' c out :=
  ⟨builder_set g.bld g.hav (by decide) n.n1, g.sgn.other _ n.n8, g.siz.other _ n.n4, g.hnd.other _ n.n6, g.hav.set _, g.cnt.other _ n.n3, by simpa [World.setCell] using g.base⟩
theorem Gq.setC (g : Gq w B b sg sz bh hv ct so sT k fn h c out) (n : Nums B b sg sz bh hv ct sT) (c' : Nat) : Gq (w.setCell ⟨ct, 0, none⟩ (.int .i64 c')) B b sg sz bh hv ct so sT k fn h c' out :=
  ⟨builder_set g.bld g.cnt (by decide) n.n2, g.sgn.other _ n.n9, g.siz.other _ n.n5, g.hnd.other _ n.n7, g.hav.other _ (fun e => n.n3 e.symm), g.cnt.set _, by simpa [World.setCell] using g.base⟩
theorem Gq.kept {w' : World} {out' : List UInt8} (g : Gq w B b sg sz bh hv ct so sT k fn h c out) (n : Nums B b sg sz bh hv ct sT) (hb : Lib.IsBuilderF 121 5 B b (Lib.byteCells out') w') (hl : Below B w w') (hk : Lib.OthersKept 5 (some b) w w') :
    Gq w' B b sg sz bh hv ct so sT k fn h c out' :=
  ⟨hb, g.sgn.kept hk n.n10 n.n13, g.siz.kept hk n.n11 (by decide), g.hnd.kept hk n.n12 (by decide), g.hav.kept hk n.n1 (by decide), g.cnt.kept hk n.n2 (by decide), Nat.le_trans g.base hl.size⟩
theorem Gq.drew (g : Gq w B b sg sz bh hv ct so sT k fn h c out) : Gq w.drew B b sg sz bh hv ct so sT k fn h c out :=
  ⟨g.bld.elim (fun x => .inl x.drew) (fun x => .inr x.drew), g.sgn, g.siz, g.hnd, g.hav, g.cnt, g.base⟩
end

/-- What a function does that is handed groups of k bits: f of each is written behind. -/
def Hands (K : Nat) (cap : Array Value) (f : Nat → UInt8) (k : Nat) (B b sg : Nat) (so : Value) (sT : TypeId) (top : Nat) : Prop :=
  ∀ (v : Nat) (out : List UInt8) (w : World), v < 2 ^ k → out.length + 1 ≤ top → Lib.IsBuilderF 121 5 B b (Lib.byteCells out) w → Bx w sg so sT → B ≤ w.heap.size →
    Calls Tryz.prog K (#[.int .u8 v] ++ cap) w fun e w' => e = .returned (.tuple #[]) ∧ Lib.IsBuilderF 121 5 B b (Lib.byteCells (out ++ [f v])) w' ∧ Below B w w' ∧ Lib.OthersKept 5 (some b) w w'

/-! ### The numbers -/

theorem wraps_i64 (n : Int) (h₀ : 0 ≤ n) (h₁ : n < 2 ^ 62) : IntKind.i64.wrap n = n := by rw [IntKind.wrap_i64]; omega

theorem pow_le8 {n : Nat} (h : n ≤ 16) : 2 ^ n ≤ 65536 := Nat.pow_le_pow_right (by decide) h

theorem or_go {p : List Bool} {v n : Nat} (hp : p.length ≤ 8) (hn : n ≤ 8) (hv : v < 2 ^ n) :
    bits BinOp.or IntKind.i64 (wrap64 (((num p : Nat) : Int) * 2 ^ n)) ((v : Nat) : Int) = ((num (p ++ bitsN n v) : Nat) : Int) := by
  have h1 := num_lt p
  have h2 : num p * 2 ^ n < 2 ^ 16 := by
    calc num p * 2 ^ n < 2 ^ p.length * 2 ^ n := Nat.mul_lt_mul_of_pos_right h1 (Nat.two_pow_pos n)
      _ = 2 ^ (p.length + n) := (Nat.pow_add ..).symm
      _ ≤ 2 ^ 16 := Nat.pow_le_pow_right (by decide) (by omega)
  have hv2 : v < 2 ^ 8 := Nat.lt_of_lt_of_le hv (Nat.pow_le_pow_right (by decide) hn)
  have e : (((num p : Nat) : Int) * 2 ^ n) = ((num p * 2 ^ n : Nat) : Int) := by push_cast; rfl
  rw [e]
  have hw : wrap64 ((num p * 2 ^ n : Nat) : Int) = ((num p * 2 ^ n : Nat) : Int) := by unfold wrap64; omega
  rw [hw, bits_join .i64 62 (by decide) wraps_i64 n _ _ (by omega) (by norm_cast; exact Nat.mul_mod_left ..) (by omega) (by omega) (by exact_mod_cast hv) (by omega)]
  rw [num_append, bitsN_length, num_bitsN_lt hv]
  push_cast; rfl

theorem num_split (r : List Bool) (k : Nat) : num r = num (r.take k) * 2 ^ (r.length - k) + num (r.drop k) := by
  conv => lhs; rw [← List.take_append_drop k r, num_append, List.length_drop]

theorem shr_go {r : List Bool} {k : Nat} (hk : k ≤ 8) : ((num r : Nat) : Int) / 2 ^ (r.length - k) % 256 = ((num (r.take k) : Nat) : Int) := by
  have h1 := num_split r k
  have h2 := num_lt (r.drop k)
  rw [List.length_drop] at h2
  have h3 := num_lt (r.take k)
  have h4 : 2 ^ (r.take k).length ≤ 2 ^ 8 := Nat.pow_le_pow_right (by decide) (by rw [List.length_take]; omega)
  have e : num r / 2 ^ (r.length - k) = num (r.take k) := by
    rw [h1, Nat.mul_comm, Nat.mul_add_div (Nat.two_pow_pos _), Nat.div_eq_of_lt h2, Nat.add_zero]
  have e2 : (((num r : Nat) : Int) / 2 ^ (r.length - k)) = ((num r / 2 ^ (r.length - k) : Nat) : Int) := by push_cast; rfl
  rw [e2, e]
  omega

theorem take_lt (r : List Bool) (k : Nat) : num (r.take k) < 2 ^ k :=
  Nat.lt_of_lt_of_le (num_lt _) (Nat.pow_le_pow_right (by decide) (by rw [List.length_take]; omega))

theorem and_go {r : List Bool} {k : Nat} (h16 : r.length ≤ 16) :
    bits BinOp.and IntKind.i64 ((num r : Nat) : Int) (wrap64 (wrap64 (2 ^ (r.length - k)) - 1)) = ((num (r.drop k) : Nat) : Int) := by
  have h1 := num_split r k
  have h2 := num_lt (r.drop k)
  rw [List.length_drop] at h2
  have h3 : 2 ^ (r.length - k) ≤ 2 ^ 16 := Nat.pow_le_pow_right (by decide) (by omega)
  have h4 : 0 < 2 ^ (r.length - k) := Nat.two_pow_pos _
  have h5 : num r < 2 ^ 16 := Nat.lt_of_lt_of_le (num_lt r) (Nat.pow_le_pow_right (by decide) h16)
  have e : ((2 : Int) ^ (r.length - k)) = ((2 ^ (r.length - k) : Nat) : Int) := by push_cast; rfl
  have hw : wrap64 (wrap64 (2 ^ (r.length - k)) - 1) = 2 ^ (r.length - k) - 1 := by
    rw [e]
    generalize 2 ^ (r.length - k) = P at h3 h4
    unfold wrap64
    omega
  rw [hw, bits_mask .i64 62 (by decide) wraps_i64 (r.length - k) (by omega) _ (by omega) (by omega)]
  have e2 : num r % 2 ^ (r.length - k) = num (r.drop k) := by
    rw [h1, Nat.mul_comm, Nat.mul_add_mod, Nat.mod_eq_of_lt h2]
  rw [e, ← Int.natCast_emod, e2]

set_option maxHeartbeats 1000000 in
theorem gath48 {B b sg sz bh hv ct : Nat} {so : Value} {sT : TypeId} {k : Nat} {cap : Array Value} {f : Nat → UInt8} {top : Nat} (hn : Nums B b sg sz bh hv ct sT)
    (hh : Hands 197 cap f k B b sg so sT top) (p : List Bool) (v n : Nat) (out : List UInt8) (w : World)
    (hg : Gq w B b sg sz bh hv ct so sT k (.func (.func 197) #[] cap) (num p) p.length out) (hk : 0 < k) (hk8 : k ≤ 8) (hp : p.length < k) (hv8 : v < 256) (hvn : v < 2 ^ n) (hn8 : n ≤ 8) (htop : out.length + 16 ≤ top) :
    Calls Tryz.prog 224 #[.int .u8 v, .int .i64 n, .pointer (some ⟨hv, 0, none⟩), .pointer (some ⟨ct, 0, none⟩), .pointer (some ⟨sz, 0, none⟩), .pointer (some ⟨bh, 0, none⟩)] w fun e w' =>
      e = .returned (.int .i64 (num (rest k (p ++ bitsN n v)) : Nat)) ∧ Below B w w' ∧ Gq w' B b sg sz bh hv ct so sT k (.func (.func 197) #[] cap) (num (rest k (p ++ bitsN n v))) (rest k (p ++ bitsN n v)).length (out ++ (emit k (p ++ bitsN n v)).map f) := by
  obtain ⟨q, hq⟩ : ∃ q, q = p ++ bitsN n v := ⟨_, rfl⟩
  have hql : q.length = p.length + n := by rw [hq]; simp [bitsN_length]
  have ho : bits BinOp.or IntKind.i64 (wrap64 (((num p : Nat) : Int) * 2 ^ n)) ((v : Nat) : Int) = ((num q : Nat) : Int) := by rw [hq]; exact or_go (by omega) hn8 hvn
  have g1 := hg.setH hn (num q)
  have c1 := hg.hav.cell
  have f1 := hg.hav.free
  have c2 := g1.cnt.cell
  have f2 := g1.cnt.free
  have G2 := Lib.hid (g1.setC hn q.length)
  have BL := Lib.hid ((((Below.refl B w).setCell (p := ⟨hv, 0, none⟩) hn.B1 (.int .i64 (num q : Nat))).setCell (p := ⟨ct, 0, none⟩) hn.B2 (.int .i64 (q.length : Nat))))
  rw [← hq]
  have HN := Lib.hid hn
  have HH := Lib.hid hh
  clear hn hh hg hq g1
  generalize p.length = pl at *
  rw [hql] at G2 BL
  have HQ := Lib.hid hql
  clear hql
  go_enter Tryz.func224, Tryz.ntmps224
  go_wp2_with fail
  rw [Int.natCast_add] at G2 BL
  obtain ⟨w2, hw2⟩ : ∃ w2, w2 = (w.setCell ⟨hv, 0, none⟩ (.int .i64 (num q : Nat))).setCell ⟨ct, 0, none⟩ (.int .i64 ((pl : Int) + (n : Int))) := ⟨_, rfl⟩
  rw [← hw2] at G2 BL ⊢
  rw [← HQ.out] at G2
  clear hw2 c1 f1 c2 f2 ho
  go_loopg [] q.length (fun j wr => ∃ (r : List Bool) (o : List UInt8), j = r.length ∧ Gq wr B b sg sz bh hv ct so sT k (.func (.func 197) #[] cap) (num r) r.length o ∧ o ++ (emit k r).map f = out ++ (emit k q).map f ∧ rest k r = rest k q ∧ Below B w wr ∧ r.length ≤ 16)
  case atStart => exact ⟨q, out, rfl, G2.out, rfl, rfl, BL.out, by have := HQ.out; omega⟩
  case round =>
    obtain ⟨r, o, rfl, hg, he, hr, hb, h16⟩ := hrel
    have c1 := hg.hav.cell
    have c2 := hg.cnt.cell
    have c3 := hg.siz.cell
    by_cases hlt : r.length < k
    · have HG := Lib.hid hg
      have HE := Lib.hid he
      have HR := Lib.hid hr
      have HB := Lib.hid hb
      have HS := Lib.hid (emit_short hlt)
      clear hg he hr hb
      obtain ⟨rl, hrl⟩ : ∃ rl, r.length = rl := ⟨_, rfl⟩
      rw [hrl] at c2 hlt HG h16
      have HRL := Lib.hid hrl
      clear hrl
      go_wp2
      go_ret
      obtain ⟨e1, e2⟩ := HS.out
      have he := HE.out
      rw [e1, List.map_nil, List.append_nil] at he
      rw [← HR.out, ← he, e2, HRL.out]
      exact ⟨rfl, HB.out, HG.out⟩
    · have f2 := hg.cnt.free
      have hle : k ≤ r.length := by omega
      have g1 := hg.setC HN.out (r.length - k)
      have BL1 := hb.setCell (p := ⟨ct, 0, none⟩) HN.out.B2 (.int .i64 (r.length - k : Nat))
      rw [Int.natCast_sub hle] at g1 BL1
      have HG := Lib.hid g1
      have HE := Lib.hid he
      have HR := Lib.hid hr
      have HB := Lib.hid BL1
      clear hg he hr hb g1 BL1
      go_wp2_with fail
      obtain ⟨wa, hwa⟩ : ∃ wa, wa = wr.setCell ⟨ct, 0, none⟩ (.int .i64 ((r.length : Int) - (k : Int))) := ⟨_, rfl⟩
      rw [← hwa] at HG HB ⊢
      clear hwa c1 c2 c3 f2
      have c4 := HG.out.hnd.cell
      have c5 := HG.out.hav.cell
      have c6 := HG.out.cnt.cell
      rw [Int.natCast_sub hle] at c6
      go_still_tail 5, (by kernel_rfl)
      change wpList _ _ _ _ _ wa.drew
      go_wp2_with fail
      rw [shr_go hk8]
      have hel : o.length + r.length / k = out.length + q.length / k := by
        have := congrArg List.length HE.out
        simpa [emit_length] using this
      have hqk : q.length / k ≤ 16 := Nat.le_trans (Nat.div_le_self _ _) (by have := HQ.out; omega)
      have hrk : 1 ≤ r.length / k := (Nat.le_div_iff_mul_le hk).2 (by omega)
      refine (HH.out (num (r.take k)) o wa.drew (take_lt r k) (by omega) HG.out.drew.bld HG.out.drew.sgn HG.out.drew.base).mono ?_
      rintro e wb ⟨rfl, hb1, hb2, hb3⟩
      have G4 := Lib.hid (HG.out.drew.kept HN.out hb1 hb2 hb3)
      have B4 := Lib.hid (HB.out.trans (show Below B wa wb from (Below.refl B wa).drew.trans hb2))
      clear c4 c5 c6 hb1 hb2 hb3 HG HB hel hqk hrk
      have c5 := G4.out.hav.cell
      have c6 := G4.out.cnt.cell
      have f5 := G4.out.hav.free
      rw [Int.natCast_sub hle] at c6
      go_wp2_with fail
      go_still_tail 5, (by kernel_rfl)
      change wpList _ _ _ _ _ wb.drew
      go_wp2_with fail
      rw [and_go h16]
      have hst := emit_step (k := k) (a := r.take k) (l := r.drop k) (by rw [List.length_take]; omega) hk
      rw [List.take_append_drop] at hst
      have hld : (r.drop k).length = r.length - k := List.length_drop
      go_roundg (r.length - k)
      case measure => omega
      case rel =>
        refine ⟨r.drop k, o ++ [f (num (r.take k))], hld.symm, ?_, ?_, ?_, ?_, by omega⟩
        · rw [hld]
          exact (G4.out.setH HN.out (num (r.drop k))).drew
        · rw [← HE.out, hst.1]
          simp
        · rw [← HR.out, hst.2]
        · exact (B4.out.setCell (p := ⟨hv, 0, none⟩) HN.out.B1 _).drew
set_option maxHeartbeats 1000000 in
theorem gath52 {B b sg sz bh hv ct : Nat} {so : Value} {sT : TypeId} {k : Nat} {cap : Array Value} {f : Nat → UInt8} {top : Nat} (hn : Nums B b sg sz bh hv ct sT)
    (hh : Hands 222 cap f k B b sg so sT top) (p : List Bool) (v n : Nat) (out : List UInt8) (w : World)
    (hg : Gq w B b sg sz bh hv ct so sT k (.func (.func 222) #[] cap) (num p) p.length out) (hk : 0 < k) (hk8 : k ≤ 8) (hp : p.length < k) (hv8 : v < 256) (hvn : v < 2 ^ n) (hn8 : n ≤ 8) (htop : out.length + 16 ≤ top) :
    Calls Tryz.prog 224 #[.int .u8 v, .int .i64 n, .pointer (some ⟨hv, 0, none⟩), .pointer (some ⟨ct, 0, none⟩), .pointer (some ⟨sz, 0, none⟩), .pointer (some ⟨bh, 0, none⟩)] w fun e w' =>
      e = .returned (.int .i64 (num (rest k (p ++ bitsN n v)) : Nat)) ∧ Below B w w' ∧ Gq w' B b sg sz bh hv ct so sT k (.func (.func 222) #[] cap) (num (rest k (p ++ bitsN n v))) (rest k (p ++ bitsN n v)).length (out ++ (emit k (p ++ bitsN n v)).map f) := by
  obtain ⟨q, hq⟩ : ∃ q, q = p ++ bitsN n v := ⟨_, rfl⟩
  have hql : q.length = p.length + n := by rw [hq]; simp [bitsN_length]
  have ho : bits BinOp.or IntKind.i64 (wrap64 (((num p : Nat) : Int) * 2 ^ n)) ((v : Nat) : Int) = ((num q : Nat) : Int) := by rw [hq]; exact or_go (by omega) hn8 hvn
  have g1 := hg.setH hn (num q)
  have c1 := hg.hav.cell
  have f1 := hg.hav.free
  have c2 := g1.cnt.cell
  have f2 := g1.cnt.free
  have G2 := Lib.hid (g1.setC hn q.length)
  have BL := Lib.hid ((((Below.refl B w).setCell (p := ⟨hv, 0, none⟩) hn.B1 (.int .i64 (num q : Nat))).setCell (p := ⟨ct, 0, none⟩) hn.B2 (.int .i64 (q.length : Nat))))
  rw [← hq]
  have HN := Lib.hid hn
  have HH := Lib.hid hh
  clear hn hh hg hq g1
  generalize p.length = pl at *
  rw [hql] at G2 BL
  have HQ := Lib.hid hql
  clear hql
  go_enter Tryz.func224, Tryz.ntmps224
  go_wp2_with fail
  rw [Int.natCast_add] at G2 BL
  obtain ⟨w2, hw2⟩ : ∃ w2, w2 = (w.setCell ⟨hv, 0, none⟩ (.int .i64 (num q : Nat))).setCell ⟨ct, 0, none⟩ (.int .i64 ((pl : Int) + (n : Int))) := ⟨_, rfl⟩
  rw [← hw2] at G2 BL ⊢
  rw [← HQ.out] at G2
  clear hw2 c1 f1 c2 f2 ho
  go_loopg [] q.length (fun j wr => ∃ (r : List Bool) (o : List UInt8), j = r.length ∧ Gq wr B b sg sz bh hv ct so sT k (.func (.func 222) #[] cap) (num r) r.length o ∧ o ++ (emit k r).map f = out ++ (emit k q).map f ∧ rest k r = rest k q ∧ Below B w wr ∧ r.length ≤ 16)
  case atStart => exact ⟨q, out, rfl, G2.out, rfl, rfl, BL.out, by have := HQ.out; omega⟩
  case round =>
    obtain ⟨r, o, rfl, hg, he, hr, hb, h16⟩ := hrel
    have c1 := hg.hav.cell
    have c2 := hg.cnt.cell
    have c3 := hg.siz.cell
    by_cases hlt : r.length < k
    · have HG := Lib.hid hg
      have HE := Lib.hid he
      have HR := Lib.hid hr
      have HB := Lib.hid hb
      have HS := Lib.hid (emit_short hlt)
      clear hg he hr hb
      obtain ⟨rl, hrl⟩ : ∃ rl, r.length = rl := ⟨_, rfl⟩
      rw [hrl] at c2 hlt HG h16
      have HRL := Lib.hid hrl
      clear hrl
      go_wp2
      go_ret
      obtain ⟨e1, e2⟩ := HS.out
      have he := HE.out
      rw [e1, List.map_nil, List.append_nil] at he
      rw [← HR.out, ← he, e2, HRL.out]
      exact ⟨rfl, HB.out, HG.out⟩
    · have f2 := hg.cnt.free
      have hle : k ≤ r.length := by omega
      have g1 := hg.setC HN.out (r.length - k)
      have BL1 := hb.setCell (p := ⟨ct, 0, none⟩) HN.out.B2 (.int .i64 (r.length - k : Nat))
      rw [Int.natCast_sub hle] at g1 BL1
      have HG := Lib.hid g1
      have HE := Lib.hid he
      have HR := Lib.hid hr
      have HB := Lib.hid BL1
      clear hg he hr hb g1 BL1
      go_wp2_with fail
      obtain ⟨wa, hwa⟩ : ∃ wa, wa = wr.setCell ⟨ct, 0, none⟩ (.int .i64 ((r.length : Int) - (k : Int))) := ⟨_, rfl⟩
      rw [← hwa] at HG HB ⊢
      clear hwa c1 c2 c3 f2
      have c4 := HG.out.hnd.cell
      have c5 := HG.out.hav.cell
      have c6 := HG.out.cnt.cell
      rw [Int.natCast_sub hle] at c6
      go_still_tail 5, (by kernel_rfl)
      change wpList _ _ _ _ _ wa.drew
      go_wp2_with fail
      rw [shr_go hk8]
      have hel : o.length + r.length / k = out.length + q.length / k := by
        have := congrArg List.length HE.out
        simpa [emit_length] using this
      have hqk : q.length / k ≤ 16 := Nat.le_trans (Nat.div_le_self _ _) (by have := HQ.out; omega)
      have hrk : 1 ≤ r.length / k := (Nat.le_div_iff_mul_le hk).2 (by omega)
      refine (HH.out (num (r.take k)) o wa.drew (take_lt r k) (by omega) HG.out.drew.bld HG.out.drew.sgn HG.out.drew.base).mono ?_
      rintro e wb ⟨rfl, hb1, hb2, hb3⟩
      have G4 := Lib.hid (HG.out.drew.kept HN.out hb1 hb2 hb3)
      have B4 := Lib.hid (HB.out.trans (show Below B wa wb from (Below.refl B wa).drew.trans hb2))
      clear c4 c5 c6 hb1 hb2 hb3 HG HB hel hqk hrk
      have c5 := G4.out.hav.cell
      have c6 := G4.out.cnt.cell
      have f5 := G4.out.hav.free
      rw [Int.natCast_sub hle] at c6
      go_wp2_with fail
      go_still_tail 5, (by kernel_rfl)
      change wpList _ _ _ _ _ wb.drew
      go_wp2_with fail
      rw [and_go h16]
      have hst := emit_step (k := k) (a := r.take k) (l := r.drop k) (by rw [List.length_take]; omega) hk
      rw [List.take_append_drop] at hst
      have hld : (r.drop k).length = r.length - k := List.length_drop
      go_roundg (r.length - k)
      case measure => omega
      case rel =>
        refine ⟨r.drop k, o ++ [f (num (r.take k))], hld.symm, ?_, ?_, ?_, ?_, by omega⟩
        · rw [hld]
          exact (G4.out.setH HN.out (num (r.drop k))).drew
        · rw [← HE.out, hst.1]
          simp
        · rw [← HR.out, hst.2]
        · exact (B4.out.setCell (p := ⟨hv, 0, none⟩) HN.out.B1 _).drew
end Go.Proofs.YtnaoandleelbkaaGreatDoor.Hx

namespace Go.Proofs.YtnaoandleelbkaaGreatDoor.Hx
open Go Go.RowKit
set_option linter.unusedSimpArgs false
set_option linter.unusedVariables false
set_option maxRecDepth 100000

theorem str_getD (S : List UInt8) (v : Nat) (h : v < S.length) (h' : v < (str S).size) : (str S)[v]'h' = S.getD v 0 := by
  rw [List.getD_eq_getElem?_getD, List.getElem?_eq_getElem h]; rfl

theorem hand48 {B b sg k : Nat} {S : List UInt8} (hS : Signs k S) : Hands 197 #[.pointer (some ⟨b, 0, none⟩), .pointer (some ⟨sg, 0, none⟩)] (S.getD · 0) k B b sg (sv S) 9 1000000 := by
  intro v out w hv ht hb hs hB
  have hl : v < S.length := by rw [hS.length]; exact hv
  have c1 := hs.cell
  have HB := Lib.hid hb
  have HS := Lib.hid hS
  clear hb hS hs
  go_enter Tryz.func197, Tryz.ntmps197
  go_wp2_with fail
  rw [str_getD S v hl]
  refine (write_byte B b out (S.getD v 0) w HB.out ht hB).mono ?_
  rintro e w' ⟨rfl, h1, h2, h3⟩
  have H1 := Lib.hid h1
  have H2 := Lib.hid h2
  have H3 := Lib.hid h3
  clear h1 h2 h3
  go_wp2
  go_end0
  exact ⟨rfl, H1.out, H2.out, H3.out⟩

theorem hand52 {B b sg : Nat} {so : Value} {sT : TypeId} : Hands 222 #[.pointer (some ⟨b, 0, none⟩)] UInt8.ofNat 8 B b sg so sT 1000000 := by
  intro v out w hv ht hb hs hB
  have HB := Lib.hid hb
  have e : (v : Int) = ((UInt8.ofNat v).toNat : Int) := by
    rw [UInt8.toNat_ofNat_of_lt' hv]
  have HE := Lib.hid e
  clear hb hs e
  go_enter Tryz.func222, Tryz.ntmps222
  go_wp2_with fail
  rw [HE.out]
  refine (write_byte B b out (UInt8.ofNat v) w HB.out ht hB).mono ?_
  rintro e w' ⟨rfl, h1, h2, h3⟩
  have H1 := Lib.hid h1
  have H2 := Lib.hid h2
  have H3 := Lib.hid h3
  clear h1 h2 h3
  go_wp2
  go_end0
  exact ⟨rfl, H1.out, H2.out, H3.out⟩

/-- gather's closure, over blocks n, n + 1 (its parameters), n + 2, n + 3 (what it has). -/
abbrev clo (n : Nat) : Value := .func (.func 224) #[] #[.pointer (some ⟨n + 2, 0, none⟩), .pointer (some ⟨n + 3, 0, none⟩), .pointer (some ⟨n, 0, none⟩), .pointer (some ⟨n + 1, 0, none⟩)]

theorem gather_any (k K : Nat) (cap : Array Value) (w : World) :
    Calls Tryz.prog 196 #[.int .i64 k, .func (.func K) #[] cap] w fun e w' => e = .returned (clo w.heap.size) ∧
      w' = (((w.alloc (.cells #[.int .i64 k] 3)).alloc (.cells #[.func (.func K) #[] cap] 206)).alloc (.cells #[.int .i64 0] 3)).alloc (.cells #[.int .i64 0] 3) := by
  go_enter Tryz.func196, Tryz.ntmps196
  go_wp2_with fail
  go_ret
  exact ⟨rfl, rfl⟩

/-- What stands behind gather's call. -/
theorem gather_ga {w w' : World} {B b sg k K : Nat} {so : Value} {sT : TypeId} {cap : Array Value} {out : List UInt8}
    (hw : w' = (((w.alloc (.cells #[.int .i64 k] 3)).alloc (.cells #[.func (.func K) #[] cap] 206)).alloc (.cells #[.int .i64 0] 3)).alloc (.cells #[.int .i64 0] 3))
    (hb : Lib.IsBuilderF 121 5 B b (Lib.byteCells out) w) (hs : Bx w' sg so sT) (hB : B ≤ w.heap.size) :
    Gq w' B b sg w.heap.size (w.heap.size + 1) (w.heap.size + 2) (w.heap.size + 3) so sT k (.func (.func K) #[] cap) 0 0 out := by
  subst hw
  have e1 : (w.alloc (.cells #[.int .i64 (k : Int)] 3)).heap.size = w.heap.size + 1 := by simp
  have e2 : ((w.alloc (.cells #[.int .i64 (k : Int)] 3)).alloc (.cells #[.func (.func K) #[] cap] 206)).heap.size = w.heap.size + 2 := by simp
  have e3 : (((w.alloc (.cells #[.int .i64 (k : Int)] 3)).alloc (.cells #[.func (.func K) #[] cap] 206)).alloc (.cells #[.int .i64 0] 3)).heap.size = w.heap.size + 3 := by simp
  refine ⟨builder_alloc (builder_alloc (builder_alloc (builder_alloc hb _) _) _) _, hs, (((Bx.new w _ 3).alloc _).alloc _).alloc _, ?_, ?_, ?_, by simp; omega⟩
  · have := ((Bx.new (w.alloc (.cells #[.int .i64 (k : Int)] 3)) (.func (.func K) #[] cap) 206).alloc (.cells #[.int .i64 0] 3)).alloc (.cells #[.int .i64 0] 3)
    rwa [e1] at this
  · have := (Bx.new ((w.alloc (.cells #[.int .i64 (k : Int)] 3)).alloc (.cells #[.func (.func K) #[] cap] 206)) (.int .i64 0) 3).alloc (.cells #[.int .i64 0] 3)
    rwa [e2] at this
  · have := Bx.new (((w.alloc (.cells #[.int .i64 (k : Int)] 3)).alloc (.cells #[.func (.func K) #[] cap] 206)).alloc (.cells #[.int .i64 0] 3)) (.int .i64 0) 3
    rwa [e3] at this

theorem siz_new {w w' : World} {k K : Nat} {cap : Array Value}
    (hw : w' = (((w.alloc (.cells #[.int .i64 k] 3)).alloc (.cells #[.func (.func K) #[] cap] 206)).alloc (.cells #[.int .i64 0] 3)).alloc (.cells #[.int .i64 0] 3)) : Bx w' w.heap.size (.int .i64 k) 3 := by
  subst hw
  exact (((Bx.new w _ 3).alloc _).alloc _).alloc _

theorem nums_own {n B b : Nat} (hB : B ≤ n) (hb : b < n) : Nums B b n n (n + 1) (n + 2) (n + 3) 3 :=
  ⟨by omega, by omega, by omega, by omega, by omega, by omega, by omega, by omega, by omega, by omega, by omega, by omega, by omega, by omega, by decide⟩

theorem nums_of {n B b sg : Nat} {sT : TypeId} (hB : B ≤ n) (hb : b < n) (hs : sg < n) (hsb : sg ≠ b) (hT : sT ≠ 5) : Nums B b sg n (n + 1) (n + 2) (n + 3) sT :=
  ⟨by omega, by omega, by omega, by omega, by omega, by omega, by omega, by omega, by omega, by omega, by omega, hsb, by omega, by omega, hT⟩

theorem pad_eq {n k : Nat} (hk : k = 4 ∨ k = 6) : (8 * n + k - 1) / k * k - 8 * n = (k - 8 * n % k) % k := by
  rcases hk with rfl | rfl <;> omega

theorem bitsN_zero (n : Nat) : bitsN n 0 = List.replicate n false := by
  induction n with
  | zero => rfl
  | succ n ih => rw [bitsN, ih, List.replicate_succ, Nat.zero_testBit]

theorem count_eq {n k : Nat} (hk : 0 < k) : (8 * (n : Int) + (k : Int) - 1) / (k : Int) = (((8 * n + k - 1) / k : Nat) : Int) := by
  rw [Int.natCast_ediv]
  congr 1
  omega

theorem count_le {n k : Nat} (hk : 0 < k) (hk8 : k ≤ 8) (hn : n ≤ 100000) : (8 * n + k - 1) / k ≤ 1000000 ∧ 8 * n ≤ (8 * n + k - 1) / k * k := by
  constructor
  · exact Nat.le_trans (Nat.div_le_self _ _) (by omega)
  · have h1 := Nat.div_add_mod (8 * n + k - 1) k
    have h2 := Nat.mod_lt (8 * n + k - 1) hk
    rw [Nat.mul_comm] at h1
    omega

theorem bits8_take_succ {s : List UInt8} {j : Nat} (h : j < s.length) : bits8 (s.take (j + 1)) = bits8 (s.take j) ++ bitsN 8 (s.getD j 0).toNat := by
  rw [List.take_succ_eq_append_getElem h, bits8_append, List.getD_eq_getElem?_getD, List.getElem?_eq_getElem h]
  simp [bits8, nats, bitsK]

theorem spellL_append {k : Nat} (hk : 0 < k) (S : List UInt8) (l m : List Bool) : spellL k S (l ++ m) = spellL k S l ++ (emit k (rest k l ++ m)).map (S.getD · 0) := by
  rw [spellL, (emit_append hk l m).1, List.map_append]; rfl

theorem padn {C k n : Nat} (hC : C ≤ 1000000) (hk : k ≤ 8) (h : 8 * n ≤ C * k) (hn : n ≤ 100000) : wrap64 (wrap64 ((C : Int) * (k : Int)) - 8 * (n : Int)) = ((C * k - 8 * n : Nat) : Int) := by
  have h1 : C * k ≤ 1000000 * 8 := Nat.mul_le_mul hC hk
  have e : (C : Int) * (k : Int) = ((C * k : Nat) : Int) := by push_cast; rfl
  rw [e]
  generalize C * k = P at *
  unfold wrap64
  omega

set_option maxHeartbeats 2000000 in
theorem spell_any (s S : List UInt8) (k : Nat) (w : World) (hS : Signs k S) (hk : k = 4 ∨ k = 6) (hs : s.length ≤ 100000) :
    Calls Tryz.prog 164 #[.string (str s), .string (str S), .int .i64 k] w fun e w' => e = .returned (.string (str (spellL k S (padded k (bits8 s))))) ∧ Below w.heap.size w w' := by
  have hk0 : 0 < k := hS.pos
  have hk8 := hS.le
  have hB0 : (w.alloc (.cells #[sv S] 9)).heap.size = w.heap.size + 1 := by simp
  obtain ⟨wb, hwb⟩ : ∃ wb, wb = (w.alloc (.cells #[sv S] 9)).alloc (.cells #[.pointer none, .slice none 0 0] 121) := ⟨_, rfl⟩
  have hsz : wb.heap.size = w.heap.size + 2 := by rw [hwb]; simp
  have hbk : wb.heap[w.heap.size + 1]? = some (.cells #[.pointer none, .slice none 0 0] 121 (0, 0)) := by rw [hwb, ← hB0]; exact heap_alloc_new _ _
  have hbx : Bx wb w.heap.size (sv S) 9 := by rw [hwb]; exact (Bx.new w (sv S) 9).alloc _
  have hbl : Below w.heap.size w wb := by rw [hwb]; exact ((Below.refl _ _).alloc (Nat.le_refl _) _).alloc (by simp) _
  have HS := Lib.hid hS
  have HSZ := Lib.hid hsz
  have HBK := Lib.hid hbk
  have HBX := Lib.hid hbx
  have HBL := Lib.hid hbl
  have HWB := Lib.hid hwb
  have HK := Lib.hid hk
  clear hsz hbk hbx hbl hwb hB0 hS hk
  go_enter Tryz.func164, Tryz.ntmps164
  go_wp2_with fail
  rw [count_eq hk0, ← HWB.out]
  have hcl := count_le hk0 hk8 hs
  have hpad := pad_eq (n := s.length) HK.out
  obtain ⟨C, hC⟩ : ∃ C, C = (8 * s.length + k - 1) / k := ⟨_, rfl⟩
  rw [← hC] at hcl hpad ⊢
  obtain ⟨hC1, hC2⟩ := hcl
  refine (Tryz.Builder_Grow_fresh (w.heap.size + 1) (w.heap.size + 1) C wb (Nat.le_refl _) HBK.out (by have := HSZ.out; omega) (by omega)).mono ?_
  rintro e w1 ⟨rfl, hb1, hl1⟩
  have hlt := hb1.lt
  have HB1 := Lib.hid (Lib.BuilderAtF.of hb1)
  have HX1 := Lib.hid (HBX.out.below hl1 (by omega))
  have HL1 := Lib.hid (HBL.out.trans (hl1.mono (by omega)))
  have HPAD := Lib.hid hpad
  have HCC := Lib.hid hC
  clear hb1 hl1 hpad hC
  go_wp2_with fail
  refine (gather_any k 197 _ w1).mono ?_
  rintro e w2 ⟨rfl, hw2⟩
  have hn := nums_of (n := w1.heap.size) (B := w.heap.size + 1) (b := w.heap.size + 1) (sg := w.heap.size) (sT := 9) (by omega) (by omega) (by omega) (by omega) (by decide)
  have hg := gather_ga (B := w.heap.size + 1) (b := w.heap.size + 1) (out := []) hw2 (.inr HB1.out) (by rw [hw2]; exact (((HX1.out.alloc _).alloc _).alloc _).alloc _) (by omega)
  have hl2 : Below w.heap.size w w2 := by
    rw [hw2]
    exact (((HL1.out.alloc (by omega) _).alloc (by simp; omega) _).alloc (by simp; omega) _).alloc (by simp; omega) _
  have HN := Lib.hid hn
  have HG := Lib.hid hg
  have HL2 := Lib.hid hl2
  clear hw2 hn hg hl2
  obtain ⟨m, hm⟩ : ∃ m, m = w1.heap.size := ⟨_, rfl⟩
  rw [← hm] at HN HG ⊢
  clear hm hlt HX1 HB1 HL1
  go_wp2_with fail
  go_loopw [26] (fun i wr => ∃ j : Nat, j ≤ s.length ∧ i = .int .i64 j ∧ Gq wr (w.heap.size + 1) (w.heap.size + 1) w.heap.size m (m + 1) (m + 2) (m + 3) (sv S) 9 k (.func (.func 197) #[] #[.pointer (some ⟨w.heap.size + 1, 0, none⟩), .pointer (some ⟨w.heap.size, 0, none⟩)]) (num (rest k (bits8 (s.take j)))) (rest k (bits8 (s.take j))).length (spellL k S (bits8 (s.take j))) ∧ Below w.heap.size w wr) (fun i _ => s.length - (intOf i).toNat)
  case atStart =>
    refine ⟨0, Nat.zero_le _, rfl, ?_, HL2.out⟩
    have e0 : bits8 (s.take 0) = [] := rfl
    rw [e0, spellL, (emit_short (k := k) (l := []) hk0).1, (emit_short (k := k) (l := []) hk0).2]
    exact HG.out
  case round =>
    obtain ⟨j, hj, rfl, hg, hl⟩ := hrel
    have HG2 := Lib.hid hg
    have HL3 := Lib.hid hl
    clear hg hl
    have hol : (spellL k S (bits8 (s.take j))).length ≤ 800000 := by
      rw [spellL_length, bits8_length, List.length_take]
      exact Nat.le_trans (Nat.div_le_self _ _) (by omega)
    have hrl := rest_lt hk0 (bits8 (s.take j))
    by_cases hlt : j < s.length
    · go_wp2_with fail
      rw [str_getD s j hlt]
      refine (gath48 HN.out (hand48 HS.out) (rest k (bits8 (s.take j))) (s.getD j 0).toNat 8 _ wr HG2.out hk0 hk8 hrl (UInt8.toNat_lt _) (UInt8.toNat_lt _) (by decide) (by omega)).mono ?_
      rintro e w3 ⟨rfl, hl3, hg3⟩
      have HG3 := Lib.hid hg3
      have HL4 := Lib.hid (HL3.out.trans (hl3.mono (by omega)))
      have HT := Lib.hid (bits8_take_succ hlt)
      clear hg3 hl3 hol hrl
      go_wp2
      go_roundw
      case rel =>
        refine ⟨j + 1, by omega, by go_num, ?_, HL4.out⟩
        rw [HT.out, (emit_append hk0 _ _).2, spellL_append hk0]
        exact HG3.out
      case measure => simp [intOf]; omega
    · obtain rfl : j = s.length := by omega
      rw [List.take_of_length_le (Nat.le_refl _)] at HG2 hol hrl
      go_wp2_with fail
      rw [padn hC1 hk8 hC2 hs, HPAD.out]
      have hpk : (k - 8 * s.length % k) % k < k := Nat.mod_lt _ hk0
      refine (gath48 HN.out (hand48 HS.out) (rest k (bits8 s)) 0 ((k - 8 * s.length % k) % k) _ wr HG2.out hk0 hk8 hrl (by decide) (Nat.two_pow_pos _) (by omega) (by omega)).mono ?_
      rintro e w3 ⟨rfl, hl3, hg3⟩
      have hb3 := hg3.bld
      rw [bitsN_zero, ← spellL_append hk0, ← bits8_length, ← padded] at hb3
      have HB3 := Lib.hid hb3
      have HB4 := Lib.hid hg3.base
      have HL4 := Lib.hid (HL3.out.trans (hl3.mono (by omega)))
      clear hg3 hl3 hol hrl hpk hb3
      go_wp2_with fail
      refine (Tryz.Builder_String_any_k (w.heap.size + 1) (w.heap.size + 1) _ w3 HB3.out HB4.out).mono ?_
      rintro e w4 ⟨rfl, hb5, hl5, hk5⟩
      have HL5 := Lib.hid (HL4.out.trans (hl5.mono (by omega)))
      clear hb5 hl5 hk5
      go_wp2
      go_ret
      exact ⟨rfl, HL5.out⟩
end Go.Proofs.YtnaoandleelbkaaGreatDoor.Hx

namespace Go.Proofs.YtnaoandleelbkaaGreatDoor.Hx
open Go Go.RowKit
set_option linter.unusedSimpArgs false
set_option linter.unusedVariables false
set_option maxRecDepth 100000

theorem index_any (S : List UInt8) (c : UInt8) (w : World) : Calls Tryz.prog 223 #[.string (str S), .int .u8 (c.toNat : Int)] w fun e w' => e = .returned (.int .i64 (Lib.indexByte S c)) ∧ w = w' := by
  refine (Tryz.strings_IndexByte (str S) c.toNat w).mono ?_
  rintro e w' ⟨rfl, rfl⟩
  simp

/-- A text and no error, or none and ErrForm. -/
def resO : Option (List UInt8) → Value
  | some x => .tuple #[sv x, .int .i64 0]
  | none => .tuple #[.string { data := #[] }, .int .i64 4]

theorem idx_take_succ {S s : List UInt8} {j : Nat} (h : j < s.length) : idx S (s.take (j + 1)) = idx S (s.take j) ++ [(Lib.indexByte S (s.getD j 0)).toNat] := by
  rw [List.take_succ_eq_append_getElem h, idx_append, List.getD_eq_getElem?_getD, List.getElem?_eq_getElem h]; rfl

theorem allIn_take_succ {S s : List UInt8} {j : Nat} (h : j < s.length) (ha : allIn S (s.take j)) (hi : 0 ≤ Lib.indexByte S (s.getD j 0)) : allIn S (s.take (j + 1)) := by
  rw [List.take_succ_eq_append_getElem h]
  intro c hc
  rcases List.mem_append.1 hc with hc | hc
  · exact ha c hc
  · rw [List.mem_singleton.1 hc]
    rwa [List.getD_eq_getElem?_getD, List.getElem?_eq_getElem h] at hi

theorem not_allIn {S s : List UInt8} {j : Nat} (h : j < s.length) (hi : Lib.indexByte S (s.getD j 0) < 0) : ¬ allIn S s := by
  intro ha
  have := ha s[j] (List.getElem_mem h)
  rw [List.getD_eq_getElem?_getD, List.getElem?_eq_getElem h] at hi
  simp at hi
  omega

theorem bytesOf_append (l m : List Bool) : bytesOf (l ++ m) = bytesOf l ++ (emit 8 (rest 8 l ++ m)).map UInt8.ofNat := by
  rw [bytesOf, (emit_append (by decide) l m).1, List.map_append]; rfl

set_option maxHeartbeats 2000000 in
theorem unspell_any (s S : List UInt8) (k : Nat) (w : World) (hS : Signs k S) (hs : s.length ≤ 100000) :
    Calls Tryz.prog 195 #[.string (str s), .string (str S), .int .i64 k] w fun e w' => e = .returned (resO (unspellL k S s)) ∧ Below w.heap.size w w' := by
  have hk0 : 0 < k := hS.pos
  have hk8 := hS.le
  obtain ⟨wb, hwb⟩ : ∃ wb, wb = w.alloc (.cells #[.pointer none, .slice none 0 0] 121) := ⟨_, rfl⟩
  have hsz : wb.heap.size = w.heap.size + 1 := by rw [hwb]; simp
  have hbk : wb.heap[w.heap.size]? = some (.cells #[.pointer none, .slice none 0 0] 121 (0, 0)) := by rw [hwb]; exact heap_alloc_new _ _
  have hbl : Below w.heap.size w wb := by rw [hwb]; exact (Below.refl _ _).alloc (Nat.le_refl _) _
  have HS := Lib.hid hS
  have HSZ := Lib.hid hsz
  have HBK := Lib.hid hbk
  have HBL := Lib.hid hbl
  have HWB := Lib.hid hwb
  have hkl : s.length * k ≤ 800000 := by
    have := Nat.mul_le_mul hs hk8
    omega
  have hkl' : (s.length : Int) * (k : Int) = ((s.length * k : Nat) : Int) := by push_cast; rfl
  clear hsz hbk hbl hwb hS
  generalize s.length * k = P at hkl hkl'
  go_enter Tryz.func195, Tryz.ntmps195
  go_wp2_with fail
  rw [← HWB.out, show ((P : Int) / 8) = ((P / 8 : Nat) : Int) by omega]
  refine (Tryz.Builder_Grow_fresh w.heap.size w.heap.size (P / 8) wb (Nat.le_refl _) HBK.out (by have := HSZ.out; omega) (by omega)).mono ?_
  rintro e w1 ⟨rfl, hb1, hl1⟩
  have hlt := hb1.lt
  have HB1 := Lib.hid (Lib.BuilderAtF.of hb1)
  have HL1 := Lib.hid (HBL.out.trans hl1)
  clear hb1 hl1
  go_wp2_with fail
  refine (gather_any 8 222 _ w1).mono ?_
  rintro e w2 ⟨rfl, hw2⟩
  have hn := nums_own (n := w1.heap.size) (B := w.heap.size) (b := w.heap.size) (by omega) hlt
  have hg := gather_ga (B := w.heap.size) (b := w.heap.size) (out := []) hw2 (.inr HB1.out) (siz_new hw2) (by omega)
  have hl2 : Below w.heap.size w w2 := by
    rw [hw2]
    exact (((HL1.out.alloc (by omega) _).alloc (by simp; omega) _).alloc (by simp; omega) _).alloc (by simp; omega) _
  have HN := Lib.hid hn
  have HG := Lib.hid hg
  have HL2 := Lib.hid hl2
  clear hw2 hn hg hl2
  obtain ⟨m, hm⟩ : ∃ m, m = w1.heap.size := ⟨_, rfl⟩
  rw [← hm] at HN HG ⊢
  clear hm hlt HB1 HL1
  go_wp2_with fail
  go_loopw [10, 23] (fun l i wr => ∃ j : Nat, j ≤ s.length ∧ i = .int .i64 j ∧ l = .int .i64 (num (rest 8 (bitsK k (idx S (s.take j)))) : Nat) ∧ allIn S (s.take j) ∧ Gq wr w.heap.size w.heap.size m m (m + 1) (m + 2) (m + 3) (.int .i64 8) 3 8 (.func (.func 222) #[] #[.pointer (some ⟨w.heap.size, 0, none⟩)]) (num (rest 8 (bitsK k (idx S (s.take j))))) (rest 8 (bitsK k (idx S (s.take j)))).length (bytesOf (bitsK k (idx S (s.take j)))) ∧ Below w.heap.size w wr) (fun _ i _ => s.length - (intOf i).toNat)
  case atStart =>
    have e0 : bitsK k (idx S (s.take 0)) = [] := rfl
    have e1 := emit_short (k := 8) (l := []) (by decide)
    refine ⟨0, Nat.zero_le _, rfl, ?_, fun c hc => by simp at hc, ?_, HL2.out⟩
    · rw [e0, e1.2]; rfl
    · rw [e0, bytesOf, e1.1, e1.2]; exact HG.out
  case round =>
    obtain ⟨j, hj, rfl, rfl, ha, hg, hl⟩ := hrel
    have HA := Lib.hid ha
    have HG2 := Lib.hid hg
    have HL3 := Lib.hid hl
    clear hg hl ha
    have hol : (bytesOf (bitsK k (idx S (s.take j)))).length ≤ 100000 := by
      rw [bytesOf, List.length_map, emit_length, bitsK_length, idx_length, List.length_take]
      have : k * min j s.length ≤ 8 * 100000 := Nat.mul_le_mul hk8 (by omega)
      omega
    have hrl := rest_lt (k := 8) (by decide) (bitsK k (idx S (s.take j)))
    obtain ⟨q, hq⟩ : ∃ q, q = num (rest 8 (bitsK k (idx S (s.take j)))) := ⟨_, rfl⟩
    rw [← hq]
    have HQ := Lib.hid hq
    clear hq
    by_cases hlt : j < s.length
    · go_wp2_with fail
      rw [str_getD s j hlt]
      refine (index_any S (s.getD j 0) wr).mono ?_
      rintro e w3 ⟨rfl, rfl⟩
      by_cases hneg : Lib.indexByte S (s.getD j 0) < 0
      · have HU := Lib.hid (show unspellL k S s = none by rw [unspellL, if_neg (fun h => not_allIn hlt hneg h.1)])
        generalize Lib.indexByte S (s.getD j 0) = iv at *
        go_wp2
        go_ret2
        rw [HU.out]
        exact ⟨rfl, HL3.out⟩
      · have hil := indexByte_lt S (s.getD j 0)
        have HAS := Lib.hid (allIn_take_succ hlt HA.out (by omega))
        have HIS := Lib.hid (idx_take_succ (S := S) hlt)
        rw [HS.out.length] at hil
        obtain ⟨t, ht⟩ : ∃ t : Nat, Lib.indexByte S (s.getD j 0) = t := ⟨(Lib.indexByte S (s.getD j 0)).toNat, by omega⟩
        rw [ht] at HIS hil hneg ⊢
        have ht2 : t < 2 ^ k := by exact_mod_cast hil
        have ht8 : t < 256 := Nat.lt_of_lt_of_le ht2 (Nat.pow_le_pow_right (n := 2) (by decide) hk8 : 2 ^ k ≤ 2 ^ 8)
        clear hil ht hneg
        rw [show (t : Int).toNat = t from Int.toNat_natCast t] at HIS
        go_wp2_with fail
        refine (gath52 HN.out hand52 (rest 8 (bitsK k (idx S (s.take j)))) t k _ wr (by rw [← HQ.out]; rw [← HQ.out] at HG2; exact HG2.out) (by decide) (by decide) hrl ht8 ht2 hk8 (by omega)).mono ?_
        rintro e w3 ⟨rfl, hl3, hg3⟩
        have HG3 := Lib.hid hg3
        have HL4 := Lib.hid (HL3.out.trans hl3)
        have HB := Lib.hid (show bitsK k (idx S (s.take (j + 1))) = bitsK k (idx S (s.take j)) ++ bitsN k t by rw [HIS.out, bitsK_append, bitsK_one])
        clear hg3 hl3 hol hrl
        obtain ⟨q', hq'⟩ : ∃ q', q' = num (rest 8 (rest 8 (bitsK k (idx S (s.take j))) ++ bitsN k t)) := ⟨_, rfl⟩
        rw [← hq'] at HG3 ⊢
        have HQ' := Lib.hid hq'
        clear hq'
        go_wp2
        go_roundw
        case rel =>
          refine ⟨j + 1, by omega, by go_num, ?_, HAS.out, ?_, HL4.out⟩
          · rw [HB.out, (emit_append (by decide) _ _).2, HQ'.out]
          · rw [HB.out, (emit_append (by decide) _ _).2, bytesOf_append, ← HQ'.out]
            exact HG3.out
        case measure => simp [intOf]; omega
    · obtain rfl : j = s.length := by omega
      rw [List.take_of_length_le (Nat.le_refl _)] at HG2 hol hrl HA HQ
      by_cases hz : q = 0
      · have HU := Lib.hid (show unspellL k S s = some (bytesOf (bitsK k (idx S s))) by rw [unspellL, if_pos ⟨HA.out, by rw [← HQ.out]; exact hz⟩])
        subst hz
        go_wp2_with fail
        refine (Tryz.Builder_String_any_k w.heap.size w.heap.size _ wr HG2.out.bld HG2.out.base).mono ?_
        rintro e w4 ⟨rfl, hb5, hl5, hk5⟩
        have HL5 := Lib.hid (HL3.out.trans hl5)
        clear hb5 hl5 hk5
        go_wp2
        go_ret2
        rw [HU.out]
        exact ⟨rfl, HL5.out⟩
      · have HU := Lib.hid (show unspellL k S s = none by rw [unspellL, if_neg (fun h => hz (by rw [HQ.out]; exact h.2))])
        have hz1 : ((q : Int) == 0) = false := by simpa using hz
        have hz2 : ((q : Int) != 0) = true := by simpa using hz
        go_wp2
        go_ret2
        rw [HU.out]
        exact ⟨rfl, HL3.out⟩
end Go.Proofs.YtnaoandleelbkaaGreatDoor.Hx

namespace Go.Proofs.YtnaoandleelbkaaGreatDoor.Hx
open Go Go.RowKit
set_option linter.unusedSimpArgs false
set_option linter.unusedVariables false
set_option maxRecDepth 100000

theorem str_append (a b : List UInt8) : str a ++ str b = str (a ++ b) := by apply ByteArray.ext; simp

theorem padded_hex (s : List UInt8) : padded 4 (bits8 s) = bits8 s := by
  have h : (bits8 s).length % 4 = 0 := by rw [bits8_length]; omega
  rw [padded, h]; simp

theorem hex_any (s : List UInt8) (w : World) (hs : s.length ≤ 100000) :
    Calls Tryz.prog 109 #[.string (str s)] w fun e w' => e = .returned (sv (hexL s)) ∧ Below w.heap.size w w' := by
  go_enter Tryz.func109, Tryz.ntmps109
  go_wp2_with fail
  refine (spell_any s sixteen 4 w signs16 (.inl rfl) hs).mono ?_
  rw [padded_hex]
  rintro e w' ⟨rfl, hb⟩
  have HB := Lib.hid hb
  clear hb
  go_wp2
  go_ret
  exact ⟨rfl, HB.out⟩

theorem unhex_any (s : List UInt8) (w : World) (hs : s.length ≤ 100000) :
    Calls Tryz.prog 163 #[.string (str s)] w fun e w' => e = .returned (resO (unhexL s)) ∧ Below w.heap.size w w' := by
  by_cases h2 : s.length % 2 = 0
  · have h3 : (s.length : Int) % 2 = 0 := by omega
    have hu := unspell_any s sixteen 4 w signs16 hs
    rw [unhexL, if_pos h2]
    generalize unspellL 4 sixteen s = r at *
    have HU := Lib.hid hu
    clear hu
    cases r with
    | none =>
      go_enter Tryz.func163, Tryz.ntmps163
      go_wp2_with fail
      refine HU.out.mono ?_
      rintro e w' ⟨rfl, hb⟩
      have HB := Lib.hid hb
      clear hb
      unfold resO
      go_wp2
      go_ret2
      exact ⟨rfl, HB.out⟩
    | some x =>
      go_enter Tryz.func163, Tryz.ntmps163
      go_wp2_with fail
      refine HU.out.mono ?_
      rintro e w' ⟨rfl, hb⟩
      have HB := Lib.hid hb
      clear hb
      unfold resO
      go_wp2
      go_ret2
      exact ⟨rfl, HB.out⟩
  · have HU := Lib.hid (show unhexL s = none by rw [unhexL, if_neg h2])
    have h3 : (s.length : Int) % 2 = 1 := by omega
    go_enter Tryz.func163, Tryz.ntmps163
    go_wp2
    go_ret2
    rw [HU.out]
    exact ⟨rfl, Below.refl _ _⟩

end Go.Proofs.YtnaoandleelbkaaGreatDoor.Hx
