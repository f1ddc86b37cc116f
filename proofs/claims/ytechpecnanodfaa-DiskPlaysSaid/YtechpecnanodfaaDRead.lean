/-
  Read of the program's disk.
-/
import Derived.Test.YtechpecnanodfaaDStep
namespace Go.Proofs.Ytechpecnanodfaa
open Go Go.RowKit Go.Maps
set_option maxRecDepth 100000
set_option linter.unusedSimpArgs false
set_option linter.unusedVariables false

theorem store_newC (W : World) {l : List UInt8} (hl : l.length = 128) : (storeCells ⟨W.heap.size, 0, none⟩ (cellsOf l)).run Try.prog (W.alloc (.cells (cellsOf zrL).toArray 66)) = .ok () (W.alloc (.cells (cellsOf l).toArray 66)) := by
  have := run_storeCells_new (P := Try.prog) W 66 (cellsOf zrL).toArray (cellsOf l).toArray (by rw [z66]; simp [cellsOf_length, hl]) (by simp [cellsOf_length, hl, zrL_length]) (cells_all l)
  simpa using this
theorem store_rowC {W : World} {g : Nat} {m l : List UInt8} (h : SB W g m) (hl : l.length = 128) : (storeCells ⟨g, 0, none⟩ (cellsOf l)).run Try.prog W = .ok () (W.setRow g (cellsOf l).toArray) := by
  have := run_storeCells_at Try.prog g 0 _ (cellsOf l) 0 _ W h.1 (by simp [cellsOf_length, hl, h.2]) (cellsOf_one l)
  rw [this]
  congr 2
  have hd : List.drop 128 (cellsOf m) = [] := List.drop_eq_nil_of_le (by simp [cellsOf_length, h.2])
  simp [cellsOf_length, hl, hd]

set_option maxHeartbeats 2000000 in
theorem read_any {w : World} {p bl bd : Nat} {S : DS} (h : PD w p bl bd S) (a : Int) :
    Calls Try.prog 9 #[dp p, .int .i64 a] w fun e w' => e = .returned (.tuple #[sv (S.rdV a), .int .i64 (S.rdE a)]) ∧ Below w.heap.size w w' := by
  obtain ⟨c0, c1, c2, c3, c4, c5⟩ := h.cells
  have HAS := fun W hW => has_any (w := W) (p := p) (bl := bl) (bd := bd) (S := S) hW a
  have HH := Lib.hid h
  have hz := hz66
  clear h
  go_enter Try.func9, Try.ntmps9
  cases hoff : S.off with
  | true =>
    rw [hoff] at c5
    go_wp2_with fail
    go_ret2
    exact ⟨by simp [DS.rdE, DS.rdV, hoff], Below.refl _ _⟩
  | false =>
    rw [hoff] at c5
    cases hha : S.has a with
    | false =>
      rw [hha] at HAS
      go_wp2_with (go_at_call 31; refine (HAS _ HH.out).mono ?_; rintro e w1 ⟨rfl, hb1⟩)
      go_ret2
      exact ⟨by simp [DS.rdE, DS.rdV, hoff, hha], hb1⟩
    | true =>
      rw [hha] at HAS
      obtain ⟨hh1, hh2⟩ := DS.has_iff.1 hha
      have hok := HH.out.ok
      have hn2 := hok.n2
      have hw := wfK hh1 (by omega : a < 1024)
      have hlk := fun W (hW : PD W p bl bd S) => hW.dir.look_ok hw
      have hfb : ∀ W, PD W p bl bd S → ∃ l : List UInt8, l.length = 128 ∧ (Instr.lookup 61 (.map (some bl)) (.int .i64 a) false).run Try.prog W = .ok (sec l) W ∧ l = S.was.getD a.toNat [] := by
        intro W hW
        obtain ⟨F, hF, hl⟩ := hW.las
        refine ⟨S.was.getD a.toNat [], hok.was_len (by omega), ?_, rfl⟩
        rw [← (hl a).1 ⟨hh1, hh2⟩]
        exact hF.look hw
      have hrd : S.rdV a = S.now.getD a.toNat [] := by simp [DS.rdV, DS.rdE, hoff, hha]
      have hre : S.rdE a = 0 := by simp [DS.rdE, hoff, hha]
      cases hwet : S.wet.getD a.toNat false with
      | true =>
        have hd : dirF S a = some (S.now.getD a.toNat []) := by unfold dirF; rw [if_pos ⟨hh1, hh2, hwet⟩]
        rw [hd] at hlk
        have hnl : (S.now.getD a.toNat []).length = 128 := hok.now_len (by omega)
        have HN := Lib.hid (show S.rdV a = _ from hrd)
        generalize S.now.getD a.toNat [] = l at hlk hnl HN
        simp only [Option.getD_some, Option.isSome_some] at hlk
        have hst := fun W => store_newC W hnl
        have hcl : (cellsOf l).length = 128 := by rw [cellsOf_length, hnl]
        have htx := fun W => (SB.new W hnl).text 128
        clear hfb hrd hd
        go_wp2_with (go_at_call 31; refine (HAS _ HH.out).mono ?_; rintro e w1 ⟨rfl, hb1⟩; obtain ⟨d0, d1, d2, d3, d4, d5⟩ := (HH.out.below hb1).cells; have hlk1 := hlk _ (HH.out.below hb1))
        go_ret2
        exact ⟨by rw [HN.out, hre]; rfl, hb1.alloc hb1.size _⟩
      | false =>
        have hd : dirF S a = none := by unfold dirF; rw [if_neg]; rintro ⟨_, _, h⟩; rw [hwet] at h; cases h
        rw [hd] at hlk
        simp only [Option.getD_none, Option.isSome_none] at hlk
        have hdr := hok.dry a.toNat hwet
        have hz128 := zrL_length
        have hst0 := fun W => store_newC W zrL_length
        have hcl0 : (cellsOf zrL).length = 128 := by rw [cellsOf_length, zrL_length]
        have HN := Lib.hid (show S.rdV a = _ from hrd.trans hdr)
        have hwl : (S.was.getD a.toNat []).length = 128 := hok.was_len (by omega)
        have hfb' : ∀ W, PD W p bl bd S → (Instr.lookup 61 (.map (some bl)) (.int .i64 a) false).run Try.prog W = .ok (sec (S.was.getD a.toNat [])) W := by
          intro W hW
          obtain ⟨l, h1, h2, h3⟩ := hfb W hW
          rw [← h3]; exact h2
        generalize S.was.getD a.toNat [] = l at hwl HN hfb'
        have hst := fun W => store_newC W hwl
        have hcl : (cellsOf l).length = 128 := by rw [cellsOf_length, hwl]
        have htx := fun W => (SB.new W hwl).text 128
        clear hfb hrd hd hdr
        go_wp2_with (go_at_call 31; refine (HAS _ HH.out).mono ?_; rintro e w1 ⟨rfl, hb1⟩; obtain ⟨d0, d1, d2, d3, d4, d5⟩ := (HH.out.below hb1).cells; have hlk1 := hlk _ (HH.out.below hb1); have hlk2 := hfb' _ ((HH.out.below hb1).below ((Below.refl _ w1).alloc (Nat.le_refl _) (.cells (cellsOf zrL).toArray 66))); have HB2 := Lib.hid hb1; have hp1 := (HH.out.below hb1).lt.1)
        go_ret2
        exact ⟨by rw [HN.out, hre]; rfl, hb1.alloc hb1.size _⟩
end Go.Proofs.Ytechpecnanodfaa
