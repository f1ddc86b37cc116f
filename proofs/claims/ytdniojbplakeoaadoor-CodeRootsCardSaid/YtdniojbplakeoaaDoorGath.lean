/-
  gather's closure: bits that come are handed on by groups, the upper ones first; what is left waits.
-/
import Derived.Deep.LoopGhost
import Derived.Deep.QuietTactic
import Derived.BigQuiet
import Derived.BigRegion
import Derived.StillTailTactics
import Derived.Laws.BitsLemmas
import Derived.Test.YtdniojbplakeoaaDoorBuild
namespace Go.Proofs.YtdniojbplakeoaaDoor
open Go Go.RowKit
set_option maxRecDepth 100000

/-- What a gathering closure stands on. -/
structure Ga (w : World) (B b sg sz bh hv ct : Nat) (so : Value) (sT : TypeId) (k : Nat) (fn : Value) (h c : Nat) (out : List UInt8) : Prop where
  bld : Lib.IsBuilderF 47 5 B b (Lib.byteCells out) w
  sgn : Bx w sg so sT
  siz : Bx w sz (.int .i64 k) 3
  hnd : Bx w bh fn 69
  hav : Bx w hv (.int .i64 h) 3
  cnt : Bx w ct (.int .i64 c) 3
  base : B ≤ w.heap.size

/-- The blocks' numbers. -/
structure Nums (B b sg sz bh hv ct : Nat) (sT : TypeId) : Prop where
  B1 : B ≤ hv
  B2 : B ≤ ct
  n1 : hv ≠ b
  n2 : ct ≠ b
  n3 : hv ≠ ct
  n4 : hv ≠ sz
  n5 : ct ≠ sz
  n6 : hv ≠ bh
  n7 : ct ≠ bh
  n8 : hv ≠ sg
  n9 : ct ≠ sg
  n10 : sg ≠ b
  n11 : sz ≠ b
  n12 : bh ≠ b
  n13 : sT ≠ 5

section
variable {w : World} {B b sg sz bh hv ct : Nat} {so fn : Value} {sT : TypeId} {k h c : Nat} {out : List UInt8}
theorem Ga.setH (g : Ga w B b sg sz bh hv ct so sT k fn h c out) (n : Nums B b sg sz bh hv ct sT) (h' : Nat) : Ga (w.setCell ⟨hv, 0, none⟩ (.int .i64 h')) B b sg sz bh hv ct so sT k fn h' c out :=
  ⟨builder_set g.bld g.hav (by decide) n.n1, g.sgn.other _ n.n8, g.siz.other _ n.n4, g.hnd.other _ n.n6, g.hav.set _, g.cnt.other _ n.n3, by simpa [World.setCell] using g.base⟩
theorem Ga.setC (g : Ga w B b sg sz bh hv ct so sT k fn h c out) (n : Nums B b sg sz bh hv ct sT) (c' : Nat) : Ga (w.setCell ⟨ct, 0, none⟩ (.int .i64 c')) B b sg sz bh hv ct so sT k fn h c' out :=
  ⟨builder_set g.bld g.cnt (by decide) n.n2, g.sgn.other _ n.n9, g.siz.other _ n.n5, g.hnd.other _ n.n7, g.hav.other _ (fun e => n.n3 e.symm), g.cnt.set _, by simpa [World.setCell] using g.base⟩
theorem Ga.kept {w' : World} {out' : List UInt8} (g : Ga w B b sg sz bh hv ct so sT k fn h c out) (n : Nums B b sg sz bh hv ct sT) (hb : Lib.IsBuilderF 47 5 B b (Lib.byteCells out') w') (hl : Below B w w') (hk : Lib.OthersKept 5 (some b) w w') :
    Ga w' B b sg sz bh hv ct so sT k fn h c out' :=
  ⟨hb, g.sgn.kept hk n.n10 n.n13, g.siz.kept hk n.n11 (by decide), g.hnd.kept hk n.n12 (by decide), g.hav.kept hk n.n1 (by decide), g.cnt.kept hk n.n2 (by decide), Nat.le_trans g.base hl.size⟩
theorem Ga.drew (g : Ga w B b sg sz bh hv ct so sT k fn h c out) : Ga w.drew B b sg sz bh hv ct so sT k fn h c out :=
  ⟨g.bld.elim (fun x => .inl x.drew) (fun x => .inr x.drew), g.sgn, g.siz, g.hnd, g.hav, g.cnt, g.base⟩
end

/-- What a function does that is handed groups of k bits: f of each is written behind. -/
def Hands (K : Nat) (cap : Array Value) (f : Nat → UInt8) (k : Nat) (B b sg : Nat) (so : Value) (sT : TypeId) (top : Nat) : Prop :=
  ∀ (v : Nat) (out : List UInt8) (w : World), v < 2 ^ k → out.length + 1 ≤ top → Lib.IsBuilderF 47 5 B b (Lib.byteCells out) w → Bx w sg so sT → B ≤ w.heap.size →
    Calls Tryd.prog K (#[.int .u8 v] ++ cap) w fun e w' => e = .returned (.tuple #[]) ∧ Lib.IsBuilderF 47 5 B b (Lib.byteCells (out ++ [f v])) w' ∧ Below B w w' ∧ Lib.OthersKept 5 (some b) w w'

/-! ### The numbers -/

theorem wraps_i64 (n : Int) (h₀ : 0 ≤ n) (h₁ : n < 2 ^ 62) : IntKind.i64.wrap n = n := by rw [IntKind.wrap_i64]; omega

theorem pow_le8 {n : Nat} (h : n ≤ 16) : 2 ^ n ≤ 65536 := Nat.pow_le_pow_right (by decide) h

theorem or_go {p : List Bool} {v n : Nat} (hp : p.length ≤ 8) (hn : n ≤ 8) (hv : v < 2 ^ n) :
    bits BinOp.or IntKind.i64 (wrap64 (((num p : Nat) : Int) * 2 ^ n)) ((v : Nat) : Int) = ((num (p ++ bitsN n v) : Nat) : Int) := by
  have h1 := num_lt p
  have h2 : num p * 2 ^ n < 2 ^ 16 := by
    calc num p * 2 ^ n < 2 ^ p.length * 2 ^ n := Nat.mul_lt_mul_of_pos_right h1 (Nat.two_pow_pos n)
      _ = 2 ^ (p.length + n) := (Nat.pow_add ..).symm
      _ ≤ 2 ^ 16 := Nat.pow_le_pow_right (by decide) (by omega)
  have hv2 : v < 2 ^ 8 := Nat.lt_of_lt_of_le hv (Nat.pow_le_pow_right (by decide) hn)
  have e : (((num p : Nat) : Int) * 2 ^ n) = ((num p * 2 ^ n : Nat) : Int) := by push_cast; rfl
  rw [e]
  have hw : wrap64 ((num p * 2 ^ n : Nat) : Int) = ((num p * 2 ^ n : Nat) : Int) := by unfold wrap64; omega
  rw [hw, bits_join .i64 62 (by decide) wraps_i64 n _ _ (by omega) (by norm_cast; exact Nat.mul_mod_left ..) (by omega) (by omega) (by exact_mod_cast hv) (by omega)]
  rw [num_append, bitsN_length, num_bitsN_lt hv]
  push_cast; rfl

theorem num_split (r : List Bool) (k : Nat) : num r = num (r.take k) * 2 ^ (r.length - k) + num (r.drop k) := by
  conv => lhs; rw [← List.take_append_drop k r, num_append, List.length_drop]

theorem shr_go {r : List Bool} {k : Nat} (hk : k ≤ 8) : ((num r : Nat) : Int) / 2 ^ (r.length - k) % 256 = ((num (r.take k) : Nat) : Int) := by
  have h1 := num_split r k
  have h2 := num_lt (r.drop k)
  rw [List.length_drop] at h2
  have h3 := num_lt (r.take k)
  have h4 : 2 ^ (r.take k).length ≤ 2 ^ 8 := Nat.pow_le_pow_right (by decide) (by rw [List.length_take]; omega)
  have e : num r / 2 ^ (r.length - k) = num (r.take k) := by
    rw [h1, Nat.mul_comm, Nat.mul_add_div (Nat.two_pow_pos _), Nat.div_eq_of_lt h2, Nat.add_zero]
  have e2 : (((num r : Nat) : Int) / 2 ^ (r.length - k)) = ((num r / 2 ^ (r.length - k) : Nat) : Int) := by push_cast; rfl
  rw [e2, e]
  omega

theorem take_lt (r : List Bool) (k : Nat) : num (r.take k) < 2 ^ k :=
  Nat.lt_of_lt_of_le (num_lt _) (Nat.pow_le_pow_right (by decide) (by rw [List.length_take]; omega))

theorem and_go {r : List Bool} {k : Nat} (h16 : r.length ≤ 16) :
    bits BinOp.and IntKind.i64 ((num r : Nat) : Int) (wrap64 (wrap64 (2 ^ (r.length - k)) - 1)) = ((num (r.drop k) : Nat) : Int) := by
  have h1 := num_split r k
  have h2 := num_lt (r.drop k)
  rw [List.length_drop] at h2
  have h3 : 2 ^ (r.length - k) ≤ 2 ^ 16 := Nat.pow_le_pow_right (by decide) (by omega)
  have h4 : 0 < 2 ^ (r.length - k) := Nat.two_pow_pos _
  have h5 : num r < 2 ^ 16 := Nat.lt_of_lt_of_le (num_lt r) (Nat.pow_le_pow_right (by decide) h16)
  have e : ((2 : Int) ^ (r.length - k)) = ((2 ^ (r.length - k) : Nat) : Int) := by push_cast; rfl
  have hw : wrap64 (wrap64 (2 ^ (r.length - k)) - 1) = 2 ^ (r.length - k) - 1 := by
    rw [e]
    generalize 2 ^ (r.length - k) = P at h3 h4
    unfold wrap64
    omega
  rw [hw, bits_mask .i64 62 (by decide) wraps_i64 (r.length - k) (by omega) _ (by omega) (by omega)]
  have e2 : num r % 2 ^ (r.length - k) = num (r.drop k) := by
    rw [h1, Nat.mul_comm, Nat.mul_add_mod, Nat.mod_eq_of_lt h2]
  rw [e, ← Int.natCast_emod, e2]

set_option maxHeartbeats 1000000 in
theorem gath48 {B b sg sz bh hv ct : Nat} {so : Value} {sT : TypeId} {k : Nat} {cap : Array Value} {f : Nat → UInt8} {top : Nat} (hn : Nums B b sg sz bh hv ct sT)
    (hh : Hands 48 cap f k B b sg so sT top) (p : List Bool) (v n : Nat) (out : List UInt8) (w : World)
    (hg : Ga w B b sg sz bh hv ct so sT k (.func (.func 48) #[] cap) (num p) p.length out) (hk : 0 < k) (hk8 : k ≤ 8) (hp : p.length < k) (hv8 : v < 256) (hvn : v < 2 ^ n) (hn8 : n ≤ 8) (htop : out.length + 16 ≤ top) :
    Calls Tryd.prog 63 #[.int .u8 v, .int .i64 n, .pointer (some ⟨hv, 0, none⟩), .pointer (some ⟨ct, 0, none⟩), .pointer (some ⟨sz, 0, none⟩), .pointer (some ⟨bh, 0, none⟩)] w fun e w' =>
      e = .returned (.int .i64 (num (rest k (p ++ bitsN n v)) : Nat)) ∧ Below B w w' ∧ Ga w' B b sg sz bh hv ct so sT k (.func (.func 48) #[] cap) (num (rest k (p ++ bitsN n v))) (rest k (p ++ bitsN n v)).length (out ++ (emit k (p ++ bitsN n v)).map f) := by
  obtain ⟨q, hq⟩ : ∃ q, q = p ++ bitsN n v := ⟨_, rfl⟩
  have hql : q.length = p.length + n := by rw [hq]; simp [bitsN_length]
  have ho : bits BinOp.or IntKind.i64 (wrap64 (((num p : Nat) : Int) * 2 ^ n)) ((v : Nat) : Int) = ((num q : Nat) : Int) := by rw [hq]; exact or_go (by omega) hn8 hvn
  have g1 := hg.setH hn (num q)
  have c1 := hg.hav.cell
  have f1 := hg.hav.free
  have c2 := g1.cnt.cell
  have f2 := g1.cnt.free
  have G2 := Lib.hid (g1.setC hn q.length)
  have BL := Lib.hid ((((Below.refl B w).setCell (p := ⟨hv, 0, none⟩) hn.B1 (.int .i64 (num q : Nat))).setCell (p := ⟨ct, 0, none⟩) hn.B2 (.int .i64 (q.length : Nat))))
  rw [← hq]
  have HN := Lib.hid hn
  have HH := Lib.hid hh
  clear hn hh hg hq g1
  generalize p.length = pl at *
  rw [hql] at G2 BL
  have HQ := Lib.hid hql
  clear hql
  go_enter Tryd.func63, Tryd.ntmps63
  go_wp2_with fail
  rw [Int.natCast_add] at G2 BL
  obtain ⟨w2, hw2⟩ : ∃ w2, w2 = (w.setCell ⟨hv, 0, none⟩ (.int .i64 (num q : Nat))).setCell ⟨ct, 0, none⟩ (.int .i64 ((pl : Int) + (n : Int))) := ⟨_, rfl⟩
  rw [← hw2] at G2 BL ⊢
  rw [← HQ.out] at G2
  clear hw2 c1 f1 c2 f2 ho
  go_loopg [] q.length (fun j wr => ∃ (r : List Bool) (o : List UInt8), j = r.length ∧ Ga wr B b sg sz bh hv ct so sT k (.func (.func 48) #[] cap) (num r) r.length o ∧ o ++ (emit k r).map f = out ++ (emit k q).map f ∧ rest k r = rest k q ∧ Below B w wr ∧ r.length ≤ 16)
  case atStart => exact ⟨q, out, rfl, G2.out, rfl, rfl, BL.out, by have := HQ.out; omega⟩
  case round =>
    obtain ⟨r, o, rfl, hg, he, hr, hb, h16⟩ := hrel
    have c1 := hg.hav.cell
    have c2 := hg.cnt.cell
    have c3 := hg.siz.cell
    by_cases hlt : r.length < k
    · have HG := Lib.hid hg
      have HE := Lib.hid he
      have HR := Lib.hid hr
      have HB := Lib.hid hb
      have HS := Lib.hid (emit_short hlt)
      clear hg he hr hb
      obtain ⟨rl, hrl⟩ : ∃ rl, r.length = rl := ⟨_, rfl⟩
      rw [hrl] at c2 hlt HG h16
      have HRL := Lib.hid hrl
      clear hrl
      go_wp2
      go_ret
      obtain ⟨e1, e2⟩ := HS.out
      have he := HE.out
      rw [e1, List.map_nil, List.append_nil] at he
      rw [← HR.out, ← he, e2, HRL.out]
      exact ⟨rfl, HB.out, HG.out⟩
    · have f2 := hg.cnt.free
      have hle : k ≤ r.length := by omega
      have g1 := hg.setC HN.out (r.length - k)
      have BL1 := hb.setCell (p := ⟨ct, 0, none⟩) HN.out.B2 (.int .i64 (r.length - k : Nat))
      rw [Int.natCast_sub hle] at g1 BL1
      have HG := Lib.hid g1
      have HE := Lib.hid he
      have HR := Lib.hid hr
      have HB := Lib.hid BL1
      clear hg he hr hb g1 BL1
      go_wp2_with fail
      obtain ⟨wa, hwa⟩ : ∃ wa, wa = wr.setCell ⟨ct, 0, none⟩ (.int .i64 ((r.length : Int) - (k : Int))) := ⟨_, rfl⟩
      rw [← hwa] at HG HB ⊢
      clear hwa c1 c2 c3 f2
      have c4 := HG.out.hnd.cell
      have c5 := HG.out.hav.cell
      have c6 := HG.out.cnt.cell
      rw [Int.natCast_sub hle] at c6
      go_still_tail 5, (by kernel_rfl)
      change wpList _ _ _ _ _ wa.drew
      go_wp2_with fail
      rw [shr_go hk8]
      have hel : o.length + r.length / k = out.length + q.length / k := by
        have := congrArg List.length HE.out
        simpa [emit_length] using this
      have hqk : q.length / k ≤ 16 := Nat.le_trans (Nat.div_le_self _ _) (by have := HQ.out; omega)
      have hrk : 1 ≤ r.length / k := (Nat.le_div_iff_mul_le hk).2 (by omega)
      refine (HH.out (num (r.take k)) o wa.drew (take_lt r k) (by omega) HG.out.drew.bld HG.out.drew.sgn HG.out.drew.base).mono ?_
      rintro e wb ⟨rfl, hb1, hb2, hb3⟩
      have G4 := Lib.hid (HG.out.drew.kept HN.out hb1 hb2 hb3)
      have B4 := Lib.hid (HB.out.trans (show Below B wa wb from (Below.refl B wa).drew.trans hb2))
      clear c4 c5 c6 hb1 hb2 hb3 HG HB hel hqk hrk
      have c5 := G4.out.hav.cell
      have c6 := G4.out.cnt.cell
      have f5 := G4.out.hav.free
      rw [Int.natCast_sub hle] at c6
      go_wp2_with fail
      go_still_tail 5, (by kernel_rfl)
      change wpList _ _ _ _ _ wb.drew
      go_wp2_with fail
      rw [and_go h16]
      have hst := emit_step (k := k) (a := r.take k) (l := r.drop k) (by rw [List.length_take]; omega) hk
      rw [List.take_append_drop] at hst
      have hld : (r.drop k).length = r.length - k := List.length_drop
      go_roundg (r.length - k)
      case measure => omega
      case rel =>
        refine ⟨r.drop k, o ++ [f (num (r.take k))], hld.symm, ?_, ?_, ?_, ?_, by omega⟩
        · rw [hld]
          exact (G4.out.setH HN.out (num (r.drop k))).drew
        · rw [← HE.out, hst.1]
          simp
        · rw [← HR.out, hst.2]
        · exact (B4.out.setCell (p := ⟨hv, 0, none⟩) HN.out.B1 _).drew
set_option maxHeartbeats 1000000 in
theorem gath52 {B b sg sz bh hv ct : Nat} {so : Value} {sT : TypeId} {k : Nat} {cap : Array Value} {f : Nat → UInt8} {top : Nat} (hn : Nums B b sg sz bh hv ct sT)
    (hh : Hands 52 cap f k B b sg so sT top) (p : List Bool) (v n : Nat) (out : List UInt8) (w : World)
    (hg : Ga w B b sg sz bh hv ct so sT k (.func (.func 52) #[] cap) (num p) p.length out) (hk : 0 < k) (hk8 : k ≤ 8) (hp : p.length < k) (hv8 : v < 256) (hvn : v < 2 ^ n) (hn8 : n ≤ 8) (htop : out.length + 16 ≤ top) :
    Calls Tryd.prog 63 #[.int .u8 v, .int .i64 n, .pointer (some ⟨hv, 0, none⟩), .pointer (some ⟨ct, 0, none⟩), .pointer (some ⟨sz, 0, none⟩), .pointer (some ⟨bh, 0, none⟩)] w fun e w' =>
      e = .returned (.int .i64 (num (rest k (p ++ bitsN n v)) : Nat)) ∧ Below B w w' ∧ Ga w' B b sg sz bh hv ct so sT k (.func (.func 52) #[] cap) (num (rest k (p ++ bitsN n v))) (rest k (p ++ bitsN n v)).length (out ++ (emit k (p ++ bitsN n v)).map f) := by
  obtain ⟨q, hq⟩ : ∃ q, q = p ++ bitsN n v := ⟨_, rfl⟩
  have hql : q.length = p.length + n := by rw [hq]; simp [bitsN_length]
  have ho : bits BinOp.or IntKind.i64 (wrap64 (((num p : Nat) : Int) * 2 ^ n)) ((v : Nat) : Int) = ((num q : Nat) : Int) := by rw [hq]; exact or_go (by omega) hn8 hvn
  have g1 := hg.setH hn (num q)
  have c1 := hg.hav.cell
  have f1 := hg.hav.free
  have c2 := g1.cnt.cell
  have f2 := g1.cnt.free
  have G2 := Lib.hid (g1.setC hn q.length)
  have BL := Lib.hid ((((Below.refl B w).setCell (p := ⟨hv, 0, none⟩) hn.B1 (.int .i64 (num q : Nat))).setCell (p := ⟨ct, 0, none⟩) hn.B2 (.int .i64 (q.length : Nat))))
  rw [← hq]
  have HN := Lib.hid hn
  have HH := Lib.hid hh
  clear hn hh hg hq g1
  generalize p.length = pl at *
  rw [hql] at G2 BL
  have HQ := Lib.hid hql
  clear hql
  go_enter Tryd.func63, Tryd.ntmps63
  go_wp2_with fail
  rw [Int.natCast_add] at G2 BL
  obtain ⟨w2, hw2⟩ : ∃ w2, w2 = (w.setCell ⟨hv, 0, none⟩ (.int .i64 (num q : Nat))).setCell ⟨ct, 0, none⟩ (.int .i64 ((pl : Int) + (n : Int))) := ⟨_, rfl⟩
  rw [← hw2] at G2 BL ⊢
  rw [← HQ.out] at G2
  clear hw2 c1 f1 c2 f2 ho
  go_loopg [] q.length (fun j wr => ∃ (r : List Bool) (o : List UInt8), j = r.length ∧ Ga wr B b sg sz bh hv ct so sT k (.func (.func 52) #[] cap) (num r) r.length o ∧ o ++ (emit k r).map f = out ++ (emit k q).map f ∧ rest k r = rest k q ∧ Below B w wr ∧ r.length ≤ 16)
  case atStart => exact ⟨q, out, rfl, G2.out, rfl, rfl, BL.out, by have := HQ.out; omega⟩
  case round =>
    obtain ⟨r, o, rfl, hg, he, hr, hb, h16⟩ := hrel
    have c1 := hg.hav.cell
    have c2 := hg.cnt.cell
    have c3 := hg.siz.cell
    by_cases hlt : r.length < k
    · have HG := Lib.hid hg
      have HE := Lib.hid he
      have HR := Lib.hid hr
      have HB := Lib.hid hb
      have HS := Lib.hid (emit_short hlt)
      clear hg he hr hb
      obtain ⟨rl, hrl⟩ : ∃ rl, r.length = rl := ⟨_, rfl⟩
      rw [hrl] at c2 hlt HG h16
      have HRL := Lib.hid hrl
      clear hrl
      go_wp2
      go_ret
      obtain ⟨e1, e2⟩ := HS.out
      have he := HE.out
      rw [e1, List.map_nil, List.append_nil] at he
      rw [← HR.out, ← he, e2, HRL.out]
      exact ⟨rfl, HB.out, HG.out⟩
    · have f2 := hg.cnt.free
      have hle : k ≤ r.length := by omega
      have g1 := hg.setC HN.out (r.length - k)
      have BL1 := hb.setCell (p := ⟨ct, 0, none⟩) HN.out.B2 (.int .i64 (r.length - k : Nat))
      rw [Int.natCast_sub hle] at g1 BL1
      have HG := Lib.hid g1
      have HE := Lib.hid he
      have HR := Lib.hid hr
      have HB := Lib.hid BL1
      clear hg he hr hb g1 BL1
      go_wp2_with fail
      obtain ⟨wa, hwa⟩ : ∃ wa, wa = wr.setCell ⟨ct, 0, none⟩ (.int .i64 ((r.length : Int) - (k : Int))) := ⟨_, rfl⟩
      rw [← hwa] at HG HB ⊢
      clear hwa c1 c2 c3 f2
      have c4 := HG.out.hnd.cell
      have c5 := HG.out.hav.cell
      have c6 := HG.out.cnt.cell
      rw [Int.natCast_sub hle] at c6
      go_still_tail 5, (by kernel_rfl)
      change wpList _ _ _ _ _ wa.drew
      go_wp2_with fail
      rw [shr_go hk8]
      have hel : o.length + r.length / k = out.length + q.length / k := by
        have := congrArg List.length HE.out
        simpa [emit_length] using this
      have hqk : q.length / k ≤ 16 := Nat.le_trans (Nat.div_le_self _ _) (by have := HQ.out; omega)
      have hrk : 1 ≤ r.length / k := (Nat.le_div_iff_mul_le hk).2 (by omega)
      refine (HH.out (num (r.take k)) o wa.drew (take_lt r k) (by omega) HG.out.drew.bld HG.out.drew.sgn HG.out.drew.base).mono ?_
      rintro e wb ⟨rfl, hb1, hb2, hb3⟩
      have G4 := Lib.hid (HG.out.drew.kept HN.out hb1 hb2 hb3)
      have B4 := Lib.hid (HB.out.trans (show Below B wa wb from (Below.refl B wa).drew.trans hb2))
      clear c4 c5 c6 hb1 hb2 hb3 HG HB hel hqk hrk
      have c5 := G4.out.hav.cell
      have c6 := G4.out.cnt.cell
      have f5 := G4.out.hav.free
      rw [Int.natCast_sub hle] at c6
      go_wp2_with fail
      go_still_tail 5, (by kernel_rfl)
      change wpList _ _ _ _ _ wb.drew
      go_wp2_with fail
      rw [and_go h16]
      have hst := emit_step (k := k) (a := r.take k) (l := r.drop k) (by rw [List.length_take]; omega) hk
      rw [List.take_append_drop] at hst
      have hld : (r.drop k).length = r.length - k := List.length_drop
      go_roundg (r.length - k)
      case measure => omega
      case rel =>
        refine ⟨r.drop k, o ++ [f (num (r.take k))], hld.symm, ?_, ?_, ?_, ?_, by omega⟩
        · rw [hld]
          exact (G4.out.setH HN.out (num (r.drop k))).drew
        · rw [← HE.out, hst.1]
          simp
        · rw [← HR.out, hst.2]
        · exact (B4.out.setCell (p := ⟨hv, 0, none⟩) HN.out.B1 _).drew
end Go.Proofs.YtdniojbplakeoaaDoor
