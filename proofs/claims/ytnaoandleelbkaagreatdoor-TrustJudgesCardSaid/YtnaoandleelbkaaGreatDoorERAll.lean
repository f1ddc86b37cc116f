/-
  The reference's All.
-/
import Derived.Test.YtnaoandleelbkaaGreatDoorERGet
import Derived.Test.YtnaoandleelbkaaGreatDoorEPm
import Derived.Test.YtnaoandleelbkaaGreatDoorEWm
import Derived.Test.YtnaoandleelbkaaGreatDoorJTm
namespace Go.Proofs.YtnaoandleelbkaaGreatDoor
set_option linter.unusedSimpArgs false
set_option linter.unusedVariables false
open Go Go.RowKit
set_option maxRecDepth 100000

def szOf : Value → Nat
  | .string b => b.size
  | _ => 0
theorem rto_app {w W : World} {v : Value} {ps : List Tv} (h : TO 89 w.heap.size W v ps) (hB : Below w.heap.size w W) (hlen : ps.length ≤ 1000000) (x : Tv) :
    ∃ g cap w2, (Builtin.append_ #[92, 92] 92 #[v, .slice (some ⟨W.heap.size, 0, none⟩) 1 1]).run Tryz.prog (W.alloc (.cells #[bvi x.1, sv x.2] 89)) = .ok (.slice (some ⟨g, 0, none⟩) (ps.length + 1) cap) w2 ∧
      TO 89 w.heap.size w2 (.slice (some ⟨g, 0, none⟩) (ps.length + 1) cap) (ps ++ [x]) ∧ Below w.heap.size w w2 := by
  obtain ⟨g, cap, w2, h1, h2, h3, h4⟩ := to_append (bytes := 24) Tryz.underlying92 info_ritem (by decide) h hB.size hlen x.1 x.2
  refine ⟨g, cap, w2, h1, h2, ?_⟩
  exact Below.grown (hB.alloc hB.size _) h3 (by simp; have := hB.size; omega) fun j hj => (h.lt hj).1
/-- What it tells. -/
def RAllPost (w : World) : Rd (List Tv) → Ending → World → Prop
  | .ok l, e, w' => (∃ A c, e = .returned (.tuple #[.slice A l.length c, .int .i64 0]) ∧ TO 89 w.heap.size w' (.slice A l.length c) l ∧ l.length ≤ 64) ∧ Below w.heap.size w w'
  | .er z, e, w' => e = .returned (.tuple #[.slice none 0 0, .int .i64 (z : Int)]) ∧ Below w.heap.size w w'
set_option maxHeartbeats 8000000 in
theorem rall_any {w : World} (s : List UInt8) (hs : s.length ≤ 1000000000) :
    Calls Tryz.prog 78 #[sv s] w (RAllPost w (allR s)) := by
  obtain ⟨R, hR⟩ : ∃ R, R = allR s := ⟨_, rfl⟩
  rw [← hR]
  have HR := Lib.hid (show R = allOf (seqL s) [] from hR)
  clear hR
  go_enter Tryz.func78, Tryz.ntmps78
  go_wp2_with fail
  go_loopw [0, 4] (fun u v wr => ∃ rest ps, u = sv rest ∧ rest.length ≤ 1000000000 ∧ R = allOf (seqL rest) ps ∧ ps.length ≤ 64 ∧ TO 89 w.heap.size wr v ps ∧ Below w.heap.size w wr) (fun u _ _ => szOf u)
  case atStart => exact ⟨s, [], rfl, hs, HR.out, by simp, TO.nil _ _ _, Below.refl _ _⟩
  case round =>
    clear HR hs
    obtain ⟨rest, ps, rfl, hrl, hR, hpl, hto, hb⟩ := hrel
    obtain ⟨A0, c0, rfl⟩ := hto.form
    have HTO := Lib.hid hto
    have HB := Lib.hid hb
    have HR := Lib.hid hR
    have hz := str_size rest
    clear hto hb hR
    by_cases h0 : rest = []
    · have HE := Lib.hid (show R = .ok ps by rw [HR.out, h0]; rfl)
      have hl0 : rest.length = 0 := by rw [h0]; rfl
      have hl1 : ¬ (0 : Int) < (rest.length : Int) := by omega
      clear h0
      go_wp2_with fail
      go_ret2
      rw [HE.out]
      exact ⟨⟨A0, c0, rfl, HTO.out, hpl⟩, HB.out⟩
    · have hl1 : (0 : Int) < (rest.length : Int) := by have := List.length_pos_iff.2 h0; omega
      have HG := Lib.hid (@rget_any wr rest hrl)
      cases hc : cutP rest with
      | er z =>
        rw [hc] at HG
        have hz4 := cutP_er hc
        have HE := Lib.hid (show R = .er z by
          rw [HR.out, seqL_er h0 hc]
          show (if z ≠ 0 then _ else _) = _
          rw [if_pos (by omega)])
        have HG2 := Lib.hid (show Calls Tryz.prog 77 #[sv rest] wr (fun e w' => e = .returned (.tuple #[.agg #[.int .u8 0, sv []], sv [], .int .i64 (z : Int)]) ∧ Below wr.heap.size wr w') from HG.out)
        have hz1 : ¬ (z : Int) = 0 := by omega
        have hz2 : ¬ z = 0 := by omega
        clear hc h0 HG hz4
        go_wp2_with (go_at_call 77; with_reducible refine HG2.out.mono ?_; rintro e w1 ⟨rfl, hb1⟩; have HB1 := Lib.hid (HB.out.trans (hb1.mono HB.out.size)); clear hb1)
        go_ret2
        rw [HE.out]
        exact ⟨rfl, HB1.out.alloc HB1.out.size _⟩
      | ok p =>
        obtain ⟨⟨t, v⟩, r⟩ := p
        rw [hc] at HG
        have HG2 := Lib.hid (show Calls Tryz.prog 77 #[sv rest] wr (fun e w' => e = .returned (.tuple #[.agg #[.int .u8 (t.toNat : Int), sv v], sv r, .int .i64 0]) ∧ Below wr.heap.size wr w') from HG.out)
        have hrl2 := cutP_shorter hc
        have hz2 := str_size r
        by_cases h64 : ps.length = 64
        · have HE := Lib.hid (show R = .er 40 by
            rw [HR.out, seqL_ok hc]
            show (if (0 : Nat) ≠ 0 then _ else if ps.length = 64 then _ else _) = _
            rw [if_neg (by simp), if_pos h64])
          have h64' : (ps.length : Int) = 64 := by omega
          clear hc h0 HG
          go_wp2_with (go_at_call 77; with_reducible refine HG2.out.mono ?_; rintro e w1 ⟨rfl, hb1⟩; have HB1 := Lib.hid (HB.out.trans (hb1.mono HB.out.size)); clear hb1)
          go_ret2
          rw [HE.out]
          exact ⟨rfl, HB1.out.alloc HB1.out.size _⟩
        · have HE := Lib.hid (show R = allOf (seqL r) (ps ++ [(t, v)]) by
            rw [HR.out, seqL_ok hc]
            show (if (0 : Nat) ≠ 0 then _ else if ps.length = 64 then _ else _) = _
            rw [if_neg (by simp), if_neg h64])
          have h64' : ¬ (ps.length : Int) = 64 := by omega
          clear hc h0 HG
          go_wp2_with (first
            | (go_at_call 77; with_reducible refine HG2.out.mono ?_; rintro e w1 ⟨rfl, hb1⟩; have HB1 := Lib.hid (HB.out.trans (hb1.mono HB.out.size)); obtain ⟨g2, cap2, w2, hrun, r1, r2⟩ := rto_app (w := w) (W := w1.alloc (.cells #[.int .u8 (t.toNat : Int), sv v] 89)) (HTO.out.below (hb1.trans ((below_alloc _ _).mono hb1.size))) (HB1.out.alloc HB1.out.size _) (by omega) (t, v); rw [World.size_alloc] at hrun; have HRUN := Lib.hid hrun; have R1 := Lib.hid r1; have R2 := Lib.hid r2; clear hrun r1 r2 hb1)
            | (at_builtin; refine stepApp rfl _ _ 92 rfl rfl rfl HRUN.out ?_))
          go_roundw
          case rel => exact ⟨r, ps ++ [(t, v)], rfl, by omega, HE.out, by simp; omega, R1.out, R2.out⟩
          case measure => simp [szOf]; omega
end Go.Proofs.YtnaoandleelbkaaGreatDoor
