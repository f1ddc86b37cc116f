/-
  The contracts of Read and Judge.
  What trust.Read tells, with the names' rows apart.
  The contract of Judge.
-/
import Derived.Test.YtnaoandleelbkaaGreatDoorJGm
import Derived.Test.YtnaoandleelbkaaGreatDoorGDm
import Derived.Test.YtnaoandleelbkaaGreatDoorGRm
namespace Go.Proofs.YtnaoandleelbkaaGreatDoor
set_option linter.unusedSimpArgs false
set_option linter.unusedVariables false
open Go Go.RowKit
set_option maxRecDepth 100000

/-- A certificate with its names' slice: an address and a room. -/
abbrev Cn := Ct × (Option Addr × Nat)
def nvC (x : Cn) : Value := .slice x.2.1 x.1.names.length x.2.2
def cn0 : Cn := (ct0, (none, 0))
def nvOf (ps : List Cn) (k : Nat) : Value := nvC (ps.getD k cn0)
/-- The cells of a row of certificates. -/
def flatC : List Cn → List Value
  | [] => []
  | x :: xs => sv x.1.key :: sv x.1.sig :: nvC x :: .int .i64 x.1.fr :: .int .i64 x.1.un :: .bool x.1.ca :: flatC xs
theorem flatC_len : ∀ xs : List Cn, (flatC xs).length = xs.length * 6
  | [] => rfl
  | x :: xs => by simp only [flatC, List.length_cons, flatC_len xs]; omega
theorem flatC_app : ∀ (xs : List Cn) (x : Cn), flatC xs ++ [sv x.1.key, sv x.1.sig, nvC x, .int .i64 x.1.fr, .int .i64 x.1.un, .bool x.1.ca] = flatC (xs ++ [x])
  | [], x => rfl
  | a :: xs, x => by simp only [flatC, List.cons_append, flatC_app xs x]
theorem flatC_at : ∀ (xs : List Cn) (j : Nat), j < xs.length → (flatC xs)[j * 6]? = some (sv (xs.getD j cn0).1.key) ∧ (flatC xs)[j * 6 + 1]? = some (sv (xs.getD j cn0).1.sig) ∧ (flatC xs)[j * 6 + 2]? = some (nvC (xs.getD j cn0)) ∧
    (flatC xs)[j * 6 + 3]? = some (.int .i64 (xs.getD j cn0).1.fr) ∧ (flatC xs)[j * 6 + 4]? = some (.int .i64 (xs.getD j cn0).1.un) ∧ (flatC xs)[j * 6 + 5]? = some (.bool (xs.getD j cn0).1.ca)
  | x :: xs, 0, _ => ⟨rfl, rfl, rfl, rfl, rfl, rfl⟩
  | x :: xs, j + 1, h => by
    have := flatC_at xs j (by simpa using h)
    rw [show (j + 1) * 6 = j * 6 + 5 + 1 by omega]
    exact this
/-- A row of the call's own that holds these. -/
def CO (base : Nat) (W : World) (v : Value) (ps : List Cn) : Prop := W.ownsRow base 27 6 v ps.length (flatC ps)
theorem CO.nil (base : Nat) (W : World) : CO base W (.slice none 0 0) [] := World.ownsRow_nil _ _ _ _
theorem CO.form {base : Nat} {W : World} {v : Value} {ps : List Cn} (h : CO base W v ps) : ∃ A c, v = .slice A ps.length c ∧ ps.length ≤ c := by
  rcases h.2 with ⟨rfl, h0⟩ | ⟨g, cap, cur, rfl, _, hgg, h1, h2, h3, h4⟩
  · exact ⟨none, 0, by rw [h0], by omega⟩
  · exact ⟨_, _, rfl, by omega⟩
theorem CO.lt {base g : Nat} {W : World} {v : Value} {ps : List Cn} (h : CO base W v ps) (hg : v.ownBlock = some g) : base ≤ g ∧ g < W.heap.size := World.ownsRow.lt h g hg
theorem CO.old {base : Nat} {w w' : World} {row : Option Nat} {v : Value} {ps : List Cn} (h : CO base w v ps) (hk : w.grownBy w' row) (hs : ∀ g, v.ownBlock = some g → some g ≠ row) : CO base w' v ps := by
  refine World.ownsRow.kept h hk ?_
  rcases h' : v.ownBlock with _ | g
  · exact .inl rfl
  · exact .inr (hs g h')
theorem CO.below {base : Nat} {w w' : World} {v : Value} {ps : List Cn} (h : CO base w v ps) (hb : Below w.heap.size w w') : CO base w' v ps :=
  h.old (row := none) ⟨hb.os, hb.tape, hb.output, hb.size, fun k hk _ => hb.block k hk⟩ (fun g _ => by simp)
/-- Each one's names lie in a row of the call's own. -/
def NO (base : Nat) (W : World) (ps : List Cn) : Prop := ∀ x ∈ ps, TW base W (nvC x) x.1.names
theorem NO.below {base : Nat} {w w' : World} {ps : List Cn} (h : NO base w ps) (hb : Below w.heap.size w w') : NO base w' ps := fun x hx => (h x hx).below hb
theorem tw_apart {base : Nat} {W W' : World} {v u : Value} {xs : List (List UInt8)} {ps : List Cn} (h : TW base W u xs) (h' : CO base W v ps) (hg : W.grownBy W' v.ownBlock) : TW base W' u xs := by
  refine h.old hg fun g e e1 => ?_
  rcases h.2 with ⟨rfl, h0⟩ | ⟨g1, cap, cur, rfl, _, hgg, _⟩
  · simp [Value.ownBlock] at e
  · simp only [Value.ownBlock, Option.some.injEq] at e
    subst e
    rcases h'.2 with ⟨rfl, _⟩ | ⟨g', cap', cur', rfl, _, hgg', _⟩
    · simp [Value.ownBlock] at e1
    · simp only [Value.ownBlock, Option.some.injEq] at e1
      subst e1
      rw [hgg] at hgg'
      simp only [Option.some.injEq, Obj.cells.injEq] at hgg'
      exact absurd hgg'.2.1 (by decide)
theorem CO.cr {base : Nat} {W : World} {v : Value} {ps : List Cn} (h : CO base W v ps) (hn : NO base W ps) : ∃ A c, v = .slice A ps.length c ∧ ps.length ≤ c ∧ CR W A (ps.map (·.1)) (nvOf ps) := by
  obtain ⟨A, c, e, hc⟩ := h.form
  refine ⟨A, c, e, hc, fun hp => ?_⟩
  rw [List.length_map] at hp
  rcases h.2 with ⟨e2, h0⟩ | ⟨g, cap, cur, e2, _, hb, _, _, _, ht⟩
  · omega
  · rw [e] at e2
    simp only [Value.slice.injEq] at e2
    refine ⟨g, 0, e2.1, (Array.getElem?_eq_some_iff.1 hb).1, fun j hj => ?_⟩
    rw [List.length_map] at hj
    have hcell : ∀ k, k < ps.length * 6 → W.cell? ⟨g, k, none⟩ = (flatC ps)[k]? := by
      intro k hk
      rw [cell_of_row W g k cur _ _ hb, ← ht, List.getElem?_take_of_lt hk]
      simp
    obtain ⟨h1, h2, h3, h4, h5, h6⟩ := flatC_at ps j hj
    have hat : ctAt (ps.map (·.1)) j = (ps.getD j cn0).1 := by
      unfold ctAt
      rw [List.getD_eq_getElem?_getD, List.getD_eq_getElem?_getD, List.getElem?_map, List.getElem?_eq_getElem hj]; rfl
    rw [hat, Nat.zero_add]
    refine ⟨⟨(hcell _ (by omega)).trans h1, (hcell _ (by omega)).trans h2, (hcell _ (by omega)).trans h3, (hcell _ (by omega)).trans h4, (hcell _ (by omega)).trans h5, (hcell _ (by omega)).trans h6⟩, ?_⟩
    refine (hn (ps.getD j cn0) ?_).sx
    rw [List.getD_eq_getElem?_getD, List.getElem?_eq_getElem hj]
    exact List.getElem_mem hj
theorem info_cert : (Tryz.prog.info? 27).map (fun i => (i.zero, i.size, i.bytes)) = some (some (.agg #[.string ⟨#[]⟩, .string ⟨#[]⟩, .slice none 0 0, .int .i64 0, .int .i64 0, .bool false]), 6, 80) := by kernel_rfl
/-- An append of one certificate. -/
theorem co_append {base : Nat} {W : World} {v : Value} {ps : List Cn} (h : CO base W v ps) (hbase : base ≤ W.heap.size) (hlen : ps.length ≤ 1000000) (x : Cn) :
    ∃ g cap w2, (Builtin.append_ #[29, 29] 29 #[v, .slice (some ⟨W.heap.size, 0, none⟩) 1 1]).run Tryz.prog (W.alloc (cellsC x.1 (nvC x))) = .ok (.slice (some ⟨g, 0, none⟩) (ps.length + 1) cap) w2 ∧
      CO base w2 (.slice (some ⟨g, 0, none⟩) (ps.length + 1) cap) (ps ++ [x]) ∧ (W.alloc (cellsC x.1 (nvC x))).grownBy w2 v.ownBlock ∧ (v.ownBlock = some g ∨ g = W.heap.size + 1) := by
  obtain ⟨i, hi, hz0, hz1, hz2⟩ := info_parts info_cert
  have hown : (W.alloc (cellsC x.1 (nvC x))).ownsRow base 27 6 v ps.length (flatC ps) := h.below (below_alloc _ _)
  obtain ⟨v', w2, hrun, hown2, hgrow, hnil, hor⟩ := run_append_own_at (P := Tryz.prog) (W.alloc (cellsC x.1 (nvC x))) base 29 29 27 i _ 6 80 Tryz.underlying29 hi hz0 hz1 hz2 rfl (by decide) v ps.length (flatC ps) hown
    ⟨W.heap.size, 0, none⟩ 1 1 [sv x.1.key, sv x.1.sig, nvC x, .int .i64 x.1.fr, .int .i64 x.1.un, .bool x.1.ca] rfl (World.news_of_block (heap_alloc_new W _)) (by simp [Value.oneCell', nvC]) (by unfold maxLen; omega) (by omega) (by simp; omega)
  have hown3 : CO base w2 v' (ps ++ [x]) := by
    unfold CO
    rw [List.length_append, ← flatC_app]
    exact hown2
  rcases hown2.2 with ⟨_, h0⟩ | ⟨g, cap, cur, rfl, hbg, hgb, _⟩
  · omega
  · refine ⟨g, cap, w2, hrun, hown3, hgrow, ?_⟩
    rcases hor with e | e
    · exact .inl (by rw [← e]; rfl)
    · refine .inr ?_
      simp only [Value.ownBlock, Option.some.injEq] at e
      rw [e, World.size_alloc]
theorem SX.take {w : World} {A : Option Addr} {n c : Nat} {xs : List (List UInt8)} (h : SX w (.slice A n c) xs) (k c' : Nat) : SX w (.slice A (xs.take k).length c') (xs.take k) := by
  obtain ⟨A', c1, e, h⟩ := h
  simp only [Value.slice.injEq] at e
  obtain ⟨rfl, _, rfl⟩ := e
  refine ⟨_, _, rfl, fun hp => ?_⟩
  rw [List.length_take] at hp
  obtain ⟨g, off, e, hl, hc⟩ := h (by omega)
  refine ⟨g, off, e, hl, fun j hj => ?_⟩
  rw [List.length_take] at hj
  rw [List.getD_eq_getElem?_getD, List.getElem?_take_of_lt (by omega), ← List.getD_eq_getElem?_getD]
  exact hc j (by omega)
theorem decE_none2 {s : List UInt8} (h : decO s = none) : ¬ decE s = 0 := by
  unfold decE
  split
  · decide
  · rw [h]; decide
/-- What Read tells. -/
def TReadPost (w : World) (chain : List (List UInt8)) (e : Ending) (w' : World) : Prop := ∃ v ps, e = .returned v ∧ ps.map (·.1) = chainT chain ∧ CO w.heap.size w' v ps ∧ NO w.heap.size w' ps ∧ Below w.heap.size w w'
theorem readL_drop {ch : List (List UInt8)} {k : Nat} (hk : k < ch.length) : readL (ch.drop k) = match decO (ch.getD k []) with
    | some c => c :: readL (ch.drop (k + 1))
    | none => [] := by
  rw [List.drop_eq_getElem_cons hk, List.getD_eq_getElem?_getD, List.getElem?_eq_getElem hk]; rfl
theorem TW.lower2 {base base' : Nat} {w : World} {v : Value} {xs : List (List UInt8)} (h : TW base w v xs) (hb : base' ≤ base) : TW base' w v xs := h.lower hb
theorem rd_step {w wr w1 : World} {v : Value} {ps : List Cn} (hco : CO w.heap.size wr v ps) (hno : NO w.heap.size wr ps) (hg : Gb w wr) (hb1 : Below wr.heap.size wr w1) {c : Ct} {A1 : Option Addr} {cp1 : Nat} (htw : TW wr.heap.size w1 (.slice A1 c.names.length cp1) c.names) (hl : ps.length ≤ 4) (HWG : GL w) :
    ∃ g cap w2, (Builtin.append_ #[29, 29] 29 #[v, .slice (some ⟨w1.heap.size + 1, 0, none⟩) 1 1]).run Tryz.prog ((w1.alloc (cellsC c (.slice A1 c.names.length cp1))).alloc (cellsC c (.slice A1 c.names.length cp1))) = .ok (.slice (some ⟨g, 0, none⟩) (ps.length + 1) cap) w2 ∧
      CO w.heap.size w2 (.slice (some ⟨g, 0, none⟩) (ps.length + 1) cap) (ps ++ [(c, (A1, cp1))]) ∧ NO w.heap.size w2 (ps ++ [(c, (A1, cp1))]) ∧ Gb w w2 := by
  obtain ⟨W, hW⟩ : ∃ W, W = w1.alloc (cellsC c (.slice A1 c.names.length cp1)) := ⟨_, rfl⟩
  have hz : W.heap.size = w1.heap.size + 1 := by rw [hW, World.size_alloc]
  have hb2 : Below w1.heap.size w1 W := by rw [hW]; exact below_alloc _ _
  have hbW : Below wr.heap.size wr W := hb1.trans (hb2.mono hb1.size)
  have hgW := hg.step hbW
  have hcoW := hco.below hbW
  obtain ⟨g, cap, w2, h1, h2, h3, h4⟩ := co_append hcoW hgW.1.size (by omega) (c, (A1, cp1))
  have h3' : W.grownBy w2 v.ownBlock := ⟨h3.os, h3.tape, h3.output, Nat.le_trans (by simp) h3.size, fun k hk hne => (h3.block k (by simp; omega) hne).trans (Below.heap_alloc _ _ _ hk)⟩
  have hbb : Below w.heap.size w w2 := Below.grown hgW.1 h3' hgW.1.size fun j hj => (hcoW.lt hj).1
  rw [← hW, ← hz]
  refine ⟨g, cap, w2, h1, h2, fun x hx => ?_, hbb, HWG.below hbb⟩
  rcases List.mem_append.1 hx with hx | hx
  · exact tw_apart ((hno x hx).below hbW) hcoW h3'
  · rw [List.mem_singleton.1 hx]
    exact tw_apart ((htw.below hb2).lower hg.1.size) hcoW h3'
set_option maxHeartbeats 8000000 in
theorem tread_any {w : World} (chain : List (List UInt8)) (A : Option Addr) (cp : Nat) (hx : SX w (.slice A chain.length cp) chain) (hl : ∀ s ∈ chain, s.length ≤ 9223372036854775807) (hcp : chain.length ≤ cp) (hlen : chain.length ≤ 9223372036854775807) (hw : GL w) :
    Calls Tryz.prog 35 #[.slice A chain.length cp] w (TReadPost w chain) := by
  obtain ⟨N, hN⟩ : ∃ N, N = (chain.take 4).length := ⟨_, rfl⟩
  have hN4 : N = min chain.length 4 := by rw [hN, List.length_take]; omega
  have hxt := hx.take 4 N
  rw [← hN] at hxt
  have hlt := fun s (h : s ∈ chain.take 4) => hl s (List.mem_of_mem_take h)
  obtain ⟨ch, hch⟩ : ∃ ch, ch = chain.take 4 := ⟨_, rfl⟩
  have HT := Lib.hid (show chainT chain = readL ch by rw [hch]; rfl)
  rw [← hch] at hxt hlt hN
  subst hN
  have HX := Lib.hid hxt
  have HL := Lib.hid hlt
  have HG := Lib.hid (Gb.start hw)
  have hmin : min (chain.length : Int) 4 = (ch.length : Int) := by omega
  have hncp : ch.length ≤ cp := by omega
  have hn4 : ch.length ≤ 4 := by omega
  obtain ⟨m, hm⟩ : ∃ m, m = chain.length := ⟨_, rfl⟩
  rw [← hm] at hmin ⊢
  clear hx hl hw hxt hlt hch hcp hm hN4 hlen
  go_enter Tryz.func35, Tryz.ntmps35
  go_wp2_with fail
  go_loopw [4, 17] (fun v i wr => ∃ k ps, k ≤ ch.length ∧ i = .int .i64 (k : Int) ∧ readL ch = ps.map (·.1) ++ readL (ch.drop k) ∧ ps.length = k ∧ CO w.heap.size wr v ps ∧ NO w.heap.size wr ps ∧ Gb w wr) (fun _ i _ => ch.length - (intOf i).toNat)
  case atStart => exact ⟨0, [], Nat.zero_le _, rfl, rfl, rfl, CO.nil _ _, fun x hx => (by cases hx), HG.out⟩
  case round =>
    obtain ⟨k, ps, hk, rfl, hrd, hpl, hco, hno, hgb⟩ := hrel
    obtain ⟨A0, c0, rfl, hpc⟩ := hco.form
    have HPL := Lib.hid hpl
    have HRD := Lib.hid hrd
    have HCO := Lib.hid hco
    have HNO := Lib.hid hno
    have HB := Lib.hid hgb
    clear hrd hco hno hgb hpl hpc
    by_cases hlt : k < ch.length
    · obtain ⟨g, off, rfl, _, c0⟩ := (HX.out.step HB.out.1).at hlt
      have hlt' : (k : Int) < (ch.length : Int) := by omega
      have hrl := readL_drop hlt
      have hsl := HL.out _ (mem_getD hlt)
      obtain ⟨s, hs⟩ : ∃ s, s = ch.getD k [] := ⟨_, rfl⟩
      rw [← hs] at c0 hrl hsl
      have HDC := Lib.hid (@decode_any wr s hsl HB.out.2)
      clear hs hsl
      cases hd : decO s with
      | none =>
        rw [hd] at hrl
        have hne := decE_none2 hd
        have HE := Lib.hid (show readL ch = ps.map (·.1) by rw [HRD.out, hrl]; simp)
        have HD := Lib.hid hd
        obtain ⟨z, hz⟩ : ∃ z, z = decE s := ⟨_, rfl⟩
        rw [← hz] at hne
        have HZ := Lib.hid hz
        have hne' : ¬ (z : Int) = 0 := by omega
        have hne2 : ((z : Int) != 0) = true := by rw [bne_iff_ne]; exact hne'
        clear hrl hd hz hne
        go_wp2_with (go_at_call 21; refine HDC.out.mono ?_; rintro e w1 ⟨hb1, hm⟩; rw [HD.out] at hm; subst hm; rw [← HZ.out]; have HB1 := Lib.hid hb1; clear hb1; unfold certV)
        go_ret
        exact ⟨_, ps, rfl, by rw [HT.out, HE.out], HCO.out.below (HB1.out.trans ((below_alloc _ _).mono HB1.out.size)), HNO.out.below (HB1.out.trans ((below_alloc _ _).mono HB1.out.size)), (HB.out.step (HB1.out.trans ((below_alloc _ _).mono HB1.out.size))).1⟩
      | some c =>
        rw [hd] at hrl
        have HD := Lib.hid hd
        have HE := Lib.hid (show ∀ x : Cn, x.1 = c → readL ch = (ps ++ [x]).map (·.1) ++ readL (ch.drop (k + 1)) by
          intro x hx
          rw [HRD.out, hrl, List.map_append, List.append_assoc]; simp [hx])
        clear hrl hd
        go_wp2_with (first
          | (go_at_call 21; refine HDC.out.mono ?_; rintro e w1 ⟨hb1, hm⟩; rw [HD.out] at hm; obtain ⟨A1, cp1, rfl, htw⟩ := hm; obtain ⟨g2, cap2, w2, hrun, r1, r2, r3⟩ := rd_step HCO.out HNO.out HB.out hb1 htw (by have := HPL.out; omega) HG.out.2; have HRUN := Lib.hid hrun; have R1 := Lib.hid r1; have R2 := Lib.hid r2; have R3 := Lib.hid r3; clear hrun r1 r2 r3 htw hb1; unfold certV)
          | (at_builtin; refine stepApp rfl _ _ 29 rfl rfl rfl HRUN.out ?_))
        go_roundw
        case rel => exact ⟨k + 1, ps ++ [(c, (A1, cp1))], by omega, by go_num, HE.out _ rfl, by rw [List.length_append, HPL.out]; rfl, R1.out, R2.out, R3.out⟩
        case measure => simp [intOf]; omega
    · obtain rfl : k = ch.length := by omega
      have HE := Lib.hid (show readL ch = ps.map (·.1) by rw [HRD.out, List.drop_length]; simp [readL])
      go_wp2_with fail
      go_ret
      exact ⟨_, ps, rfl, by rw [HT.out, HE.out], HCO.out, HNO.out, HB.out.1⟩
end Go.Proofs.YtnaoandleelbkaaGreatDoor

namespace Go.Proofs.YtnaoandleelbkaaGreatDoor
set_option linter.unusedSimpArgs false
set_option linter.unusedVariables false
open Go Go.RowKit
set_option maxRecDepth 100000

/-- Their names do not lie in one block. -/
def apartC (x y : Cn) : Prop := ∀ g, (nvC x).ownBlock = some g → (nvC y).ownBlock ≠ some g
theorem TW.lt2 {b : Nat} {W : World} {v : Value} {xs : List (List UInt8)} (h : TW b W v xs) (g : Nat) (e : v.ownBlock = some g) : b ≤ g ∧ g < W.heap.size := h.lt e
theorem pw_step {base : Nat} {wr w1 : World} {ps : List Cn} {x : Cn} (hno : NO base wr ps) (hp : ps.Pairwise apartC) (htw : TW wr.heap.size w1 (nvC x) x.1.names) : (ps ++ [x]).Pairwise apartC := by
  refine List.pairwise_append.2 ⟨hp, List.pairwise_singleton _ _, fun a ha b hb g e1 e2 => ?_⟩
  rw [List.mem_singleton.1 hb] at e2
  have h1 := ((hno a ha).lt2 g e1).2
  have h2 := (htw.lt2 g e2).1
  omega
/-- What Read tells. -/
def TReadPost2 (w : World) (chain : List (List UInt8)) (e : Ending) (w' : World) : Prop := ∃ v ps, e = .returned v ∧ ps.map (·.1) = chainT chain ∧ CO w.heap.size w' v ps ∧ NO w.heap.size w' ps ∧ Below w.heap.size w w' ∧ ps.Pairwise apartC
set_option maxHeartbeats 8000000 in
theorem tread2_any {w : World} (chain : List (List UInt8)) (A : Option Addr) (cp : Nat) (hx : SX w (.slice A chain.length cp) chain) (hl : ∀ s ∈ chain, s.length ≤ 9223372036854775807) (hcp : chain.length ≤ cp) (hlen : chain.length ≤ 9223372036854775807) (hw : GL w) :
    Calls Tryz.prog 35 #[.slice A chain.length cp] w (TReadPost2 w chain) := by
  obtain ⟨N, hN⟩ : ∃ N, N = (chain.take 4).length := ⟨_, rfl⟩
  have hN4 : N = min chain.length 4 := by rw [hN, List.length_take]; omega
  have hxt := hx.take 4 N
  rw [← hN] at hxt
  have hlt := fun s (h : s ∈ chain.take 4) => hl s (List.mem_of_mem_take h)
  obtain ⟨ch, hch⟩ : ∃ ch, ch = chain.take 4 := ⟨_, rfl⟩
  have HT := Lib.hid (show chainT chain = readL ch by rw [hch]; rfl)
  rw [← hch] at hxt hlt hN
  subst hN
  have HX := Lib.hid hxt
  have HL := Lib.hid hlt
  have HG := Lib.hid (Gb.start hw)
  have hmin : min (chain.length : Int) 4 = (ch.length : Int) := by omega
  have hncp : ch.length ≤ cp := by omega
  have hn4 : ch.length ≤ 4 := by omega
  obtain ⟨m, hm⟩ : ∃ m, m = chain.length := ⟨_, rfl⟩
  rw [← hm] at hmin ⊢
  clear hx hl hw hxt hlt hch hcp hm hN4 hlen
  go_enter Tryz.func35, Tryz.ntmps35
  go_wp2_with fail
  go_loopw [4, 17] (fun v i wr => ∃ k ps, k ≤ ch.length ∧ i = .int .i64 (k : Int) ∧ readL ch = ps.map (·.1) ++ readL (ch.drop k) ∧ ps.length = k ∧ CO w.heap.size wr v ps ∧ NO w.heap.size wr ps ∧ Gb w wr ∧ ps.Pairwise apartC) (fun _ i _ => ch.length - (intOf i).toNat)
  case atStart => exact ⟨0, [], Nat.zero_le _, rfl, rfl, rfl, CO.nil _ _, (fun x hx => (by cases hx)), HG.out, List.Pairwise.nil⟩
  case round =>
    obtain ⟨k, ps, hk, rfl, hrd, hpl, hco, hno, hgb, hpw⟩ := hrel
    obtain ⟨A0, c0, rfl, hpc⟩ := hco.form
    have HPL := Lib.hid hpl
    have HRD := Lib.hid hrd
    have HCO := Lib.hid hco
    have HNO := Lib.hid hno
    have HPW := Lib.hid hpw
    have HB := Lib.hid hgb
    clear hrd hco hno hgb hpl hpc hpw
    by_cases hlt : k < ch.length
    · obtain ⟨g, off, rfl, _, c0⟩ := (HX.out.step HB.out.1).at hlt
      have hlt' : (k : Int) < (ch.length : Int) := by omega
      have hrl := readL_drop hlt
      have hsl := HL.out _ (mem_getD hlt)
      obtain ⟨s, hs⟩ : ∃ s, s = ch.getD k [] := ⟨_, rfl⟩
      rw [← hs] at c0 hrl hsl
      have HDC := Lib.hid (@decode_any wr s hsl HB.out.2)
      clear hs hsl
      cases hd : decO s with
      | none =>
        rw [hd] at hrl
        have hne := decE_none2 hd
        have HE := Lib.hid (show readL ch = ps.map (·.1) by rw [HRD.out, hrl]; simp)
        have HD := Lib.hid hd
        obtain ⟨z, hz⟩ : ∃ z, z = decE s := ⟨_, rfl⟩
        rw [← hz] at hne
        have HZ := Lib.hid hz
        have hne' : ¬ (z : Int) = 0 := by omega
        have hne2 : ((z : Int) != 0) = true := by rw [bne_iff_ne]; exact hne'
        clear hrl hd hz hne
        go_wp2_with (go_at_call 21; refine HDC.out.mono ?_; rintro e w1 ⟨hb1, hm⟩; rw [HD.out] at hm; subst hm; rw [← HZ.out]; have HB1 := Lib.hid hb1; clear hb1; unfold certV)
        go_ret
        exact ⟨_, ps, rfl, by rw [HT.out, HE.out], HCO.out.below (HB1.out.trans ((below_alloc _ _).mono HB1.out.size)), HNO.out.below (HB1.out.trans ((below_alloc _ _).mono HB1.out.size)), (HB.out.step (HB1.out.trans ((below_alloc _ _).mono HB1.out.size))).1, HPW.out⟩
      | some c =>
        rw [hd] at hrl
        have HD := Lib.hid hd
        have HE := Lib.hid (show ∀ x : Cn, x.1 = c → readL ch = (ps ++ [x]).map (·.1) ++ readL (ch.drop (k + 1)) by
          intro x hx
          rw [HRD.out, hrl, List.map_append, List.append_assoc]; simp [hx])
        clear hrl hd
        go_wp2_with (first
          | (go_at_call 21; refine HDC.out.mono ?_; rintro e w1 ⟨hb1, hm⟩; rw [HD.out] at hm; obtain ⟨A1, cp1, rfl, htw⟩ := hm; obtain ⟨g2, cap2, w2, hrun, r1, r2, r3⟩ := rd_step HCO.out HNO.out HB.out hb1 htw (by have := HPL.out; omega) HG.out.2; have HRUN := Lib.hid hrun; have R1 := Lib.hid r1; have R2 := Lib.hid r2; have R3 := Lib.hid r3; have R4 := Lib.hid (pw_step (x := (c, (A1, cp1))) HNO.out HPW.out htw); clear hrun r1 r2 r3 htw hb1; unfold certV)
          | (at_builtin; refine stepApp rfl _ _ 29 rfl rfl rfl HRUN.out ?_))
        go_roundw
        case rel => exact ⟨k + 1, ps ++ [(c, (A1, cp1))], by omega, by go_num, HE.out _ rfl, by rw [List.length_append, HPL.out]; rfl, R1.out, R2.out, R3.out, R4.out⟩
        case measure => simp [intOf]; omega
    · obtain rfl : k = ch.length := by omega
      have HE := Lib.hid (show readL ch = ps.map (·.1) by rw [HRD.out, List.drop_length]; simp [readL])
      go_wp2_with fail
      go_ret
      exact ⟨_, ps, rfl, by rw [HT.out, HE.out], HCO.out, HNO.out, HB.out.1, HPW.out⟩
end Go.Proofs.YtnaoandleelbkaaGreatDoor

namespace Go.Proofs.YtnaoandleelbkaaGreatDoor
set_option linter.unusedSimpArgs false
set_option linter.unusedVariables false
open Go Go.RowKit
set_option maxRecDepth 100000

theorem chainT_mem {chain : List (List UInt8)} {c : Ct} (h : c ∈ chainT chain) : ∃ s ∈ chain, decO s = some c := by
  obtain ⟨s, h1, h2⟩ := readL_mem h
  exact ⟨s, List.mem_of_mem_take h1, h2⟩
theorem dec_short {s : List UInt8} {c : Ct} (h : decO s = some c) : shortC c := by
  have h1 := (decO_some h).1
  unfold decO at h
  rw [if_neg (by omega)] at h
  cases hr : readC s with
  | none => rw [hr] at h; simp at h
  | some d =>
    rw [hr] at h
    simp only at h
    split at h
    · simp only [Option.some.injEq] at h
      subst h
      exact read_short hr h1
    · simp at h
theorem chainT_short (chain : List (List UInt8)) : shortR (chainT chain) := ⟨by have := chainT_len chain; omega, fun c hc => by
  obtain ⟨s, _, h⟩ := chainT_mem hc
  exact dec_short h⟩
set_option maxHeartbeats 8000000 in
theorem judge_any {w : World} (chain : List (List UInt8)) (A : Option Addr) (cp : Nat) (host : List UInt8) (now : Int) (an : List (List UInt8)) (B : Option Addr) (bc : Nat) (hx : SX w (.slice A chain.length cp) chain) (hl : ∀ s ∈ chain, s.length ≤ 9223372036854775807) (hcp : chain.length ≤ cp) (hlen : chain.length ≤ 9223372036854775807)
    (hh : host.length ≤ 1000000) (ha : SX w (.slice B an.length bc) an) (hal : an.length ≤ 1000000000) (hw : GA w) :
    Calls Tryz.prog 33 #[.slice A chain.length cp, sv host, .int .i64 now, .slice B an.length bc] w fun e w' => e = .returned (.int .u8 (judgeN chain host now an : Nat)) ∧ Below w.heap.size w w' := by
  have HRD := Lib.hid (tread_any chain A cp hx hl hcp hlen hw.gl)
  have HSH := Lib.hid (chainT_short chain)
  have HA := Lib.hid ha
  have HW := Lib.hid hw
  have hj : judgeN chain host now an = if chainT chain = [] then 3 else if dateB (ctAt (chainT chain) 0) now = false then 1 else if hostB (ctAt (chainT chain) 0) host = false then 2 else if anchB (chainT chain) now an = false then 3 else 0 := rfl
  have HJ := Lib.hid hj
  obtain ⟨z, hz⟩ : ∃ z, z = judgeN chain host now an := ⟨_, rfl⟩
  rw [← hz] at HJ ⊢
  obtain ⟨l, hle⟩ : ∃ l, l = chainT chain := ⟨_, rfl⟩
  unfold TReadPost at HRD
  rw [← hle] at HRD HSH HJ
  clear hx hl hcp hlen ha hw hj hz hle
  obtain ⟨m, hm⟩ : ∃ m, m = chain.length := ⟨_, rfl⟩
  rw [← hm] at HRD ⊢
  clear hm
  by_cases h0 : l = []
  · subst h0
    have HZ := Lib.hid (show z = 3 by rw [HJ.out, if_pos rfl])
    go_enter Tryz.func33, Tryz.ntmps33
    go_wp2_with (go_at_call 35; refine HRD.out.mono ?_; rintro e w1 ⟨v, ps, rfl, hps, hco, hno, hb⟩; obtain ⟨A0, c0, rfl, hpc⟩ := hco.form; have hp0 : ps.length = 0 := (by have := congrArg List.length hps; simpa using this); clear hco hno hps; rw [hp0])
    go_ret
    rw [HZ.out]
    exact ⟨rfl, hb⟩
  · have hp : 0 < l.length := List.length_pos_iff.2 h0
    rw [if_neg h0] at HJ
    have hpn : ¬ (l.length : Int) = 0 := by omega
    have HDT := Lib.hid (fun W (a : Option Addr) (c : Nat) => @dates_any W (ctAt l 0) a (ctAt l 0).names.length c now)
    have HHO := Lib.hid (fun W (a : Option Addr) (c : Nat) hx (h : Below w.heap.size w W) => @host_any W (ctAt l 0) a c host hx (HSH.out.at hp) hh (HW.out.below h).ml)
    have HAN := Lib.hid (fun W A1 cp1 nv hr hc (h : Below w.heap.size w W) => @anch_any W l A1 cp1 nv now an B bc hr HSH.out hc (HA.out.step h) hal (HW.out.below h))
    obtain ⟨b1, hb1⟩ : ∃ b, b = dateB (ctAt l 0) now := ⟨_, rfl⟩
    obtain ⟨b2, hb2⟩ : ∃ b, b = hostB (ctAt l 0) host := ⟨_, rfl⟩
    obtain ⟨b3, hb3⟩ : ∃ b, b = anchB l now an := ⟨_, rfl⟩
    unfold certV at HDT HHO
    rw [← hb1] at HDT HJ
    rw [← hb2] at HHO HJ
    rw [← hb3] at HAN HJ
    clear hb1 hb2 hb3 h0
    cases b1
    all_goals cases b2
    all_goals cases b3
    all_goals
      go_enter Tryz.func33, Tryz.ntmps33
      go_wp2_with (first
        | (go_at_call 35; refine HRD.out.mono ?_; rintro e w1 ⟨v, ps, rfl, hps, hco, hno, hb⟩; obtain ⟨A0, c0, rfl, hpc, hcr⟩ := hco.cr hno; have hpl : ps.length = l.length := (by rw [← hps, List.length_map]); rw [hpl] at hpc ⊢; rw [hps] at hcr; have HCR := Lib.hid hcr; have HPC := Lib.hid hpc; have HB := Lib.hid hb; obtain ⟨g, off, rfl, hgl, ⟨p0, p1, p2, p3, p4, p5⟩, hsx⟩ := hcr.at hp; obtain ⟨a1, c1, e1⟩ := hsx.form; rw [e1] at p2 hsx; have HSX := Lib.hid hsx; rw [show off + 0 * 6 = off by omega] at p0 p1 p2 p3 p4 p5; clear hcr hpc hpl hps hco hno hb hsx e1)
        | (go_at_call 39; refine (HDT.out _ a1 c1).mono ?_; rintro e w2 ⟨rfl, hb2⟩; have HB2 := Lib.hid (HB.out.trans (hb2.mono HB.out.size)); have HSX2 := Lib.hid (HSX.out.step hb2); have HCR2 := Lib.hid (HCR.out.step hb2); obtain ⟨q0, q1, q2, q3, q4, q5⟩ := (show CC w1 g off (ctAt l 0) (.slice a1 (ctAt l 0).names.length c1) from ⟨p0, p1, p2, p3, p4, p5⟩).below hb2 hgl; clear hb2)
        | (go_at_call 38; refine (HHO.out _ a1 c1 HSX2.out HB2.out).mono ?_; rintro e w3 ⟨rfl, hb3⟩; have HB3 := Lib.hid (HB2.out.trans (hb3.mono HB2.out.size)); have HCR3 := Lib.hid (HCR2.out.step hb3); clear hb3)
        | (go_at_call 37; refine (HAN.out _ _ _ _ HCR3.out HPC.out HB3.out).mono ?_; rintro e w4 ⟨rfl, hb4⟩; have HB4 := Lib.hid (HB3.out.trans (hb4.mono HB3.out.size)); clear hb4))
      go_ret
      rw [HJ.out]
      exact ⟨rfl, by first | exact HB4.out | exact HB3.out | exact HB2.out⟩
end Go.Proofs.YtnaoandleelbkaaGreatDoor
