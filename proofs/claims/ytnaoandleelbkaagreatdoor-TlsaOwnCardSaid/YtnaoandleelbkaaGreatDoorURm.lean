/-
  Rows of records: what they hold, an append of one; the library's search over them; the contracts of Usables and Any.
  The contracts of Usables and Any.
-/
import Derived.Test.YtnaoandleelbkaaGreatDoorUMm
namespace Go.Proofs.YtnaoandleelbkaaGreatDoor
set_option linter.unusedSimpArgs false
set_option linter.unusedVariables false
open Go Go.RowKit
set_option maxRecDepth 100000

def rc0 : Rc := ⟨0, 0, 0, []⟩
def rcAt (l : List Rc) (k : Nat) : Rc := l.getD k rc0
def cellsL (r : Rc) : List Value := [.int .u8 (r.us : Int), .int .u8 (r.se : Int), .int .u8 (r.ma : Int), sv r.da]
theorem rcAt_mem {l : List Rc} {k : Nat} (h : k < l.length) : rcAt l k ∈ l := by
  unfold rcAt
  rw [List.getD_eq_getElem?_getD, List.getElem?_eq_getElem h]
  exact List.getElem_mem h
theorem rcAt_get {l : List Rc} {k : Nat} (h : k < l.length) : l[k] = rcAt l k := by
  unfold rcAt
  rw [List.getD_eq_getElem?_getD, List.getElem?_eq_getElem h]; rfl
theorem rcAt_take {l : List Rc} {k n : Nat} (h : k < n) : rcAt (l.take n) k = rcAt l k := by
  unfold rcAt
  rw [List.getD_eq_getElem?_getD, List.getD_eq_getElem?_getD, List.getElem?_take_of_lt h]
/-- A row of records. -/
def RR (w : World) (A : Option Addr) (l : List Rc) : Prop :=
  0 < l.length → ∃ g off, A = some ⟨g, off, none⟩ ∧ g < w.heap.size ∧ ∀ j, j < l.length → w.rangeAt g (off + j * 4) (cellsL (rcAt l j))
theorem RR.nil (w : World) (A : Option Addr) : RR w A [] := fun h => absurd h (by decide)
theorem RR.step {w w' : World} {A : Option Addr} {l : List Rc} (h : RR w A l) (hb : Below w.heap.size w w') : RR w' A l := fun hp => by
  obtain ⟨g, off, e, hl, hc⟩ := h hp
  exact ⟨g, off, e, Nat.lt_of_lt_of_le hl hb.size, fun j hj i u hu => (hb.cell (p := ⟨g, off + j * 4 + i, none⟩) hl).trans (hc j hj i u hu)⟩
theorem RR.take {w : World} {A : Option Addr} {l : List Rc} (h : RR w A l) (n : Nat) : RR w A (l.take n) := fun hp => by
  rw [List.length_take] at hp
  obtain ⟨g, off, e, hl, hc⟩ := h (by omega)
  refine ⟨g, off, e, hl, fun j hj => ?_⟩
  rw [List.length_take] at hj
  rw [rcAt_take (by omega)]
  exact hc j (by omega)
theorem RR.at {w : World} {A : Option Addr} {l : List Rc} (h : RR w A l) {k : Nat} (hk : k < l.length) {r : Rc} (hr : rcAt l k = r) :
    ∃ g off, A = some ⟨g, off, none⟩ ∧ g < w.heap.size ∧ w.cell? ⟨g, off + k * 4, none⟩ = some (.int .u8 (r.us : Int)) ∧ w.cell? ⟨g, off + k * 4 + 1, none⟩ = some (.int .u8 (r.se : Int)) ∧ w.cell? ⟨g, off + k * 4 + 2, none⟩ = some (.int .u8 (r.ma : Int)) ∧ w.cell? ⟨g, off + k * 4 + 3, none⟩ = some (sv r.da) := by
  obtain ⟨g, off, e, hl, hc⟩ := h (by omega)
  have := hc k hk
  rw [hr] at this
  exact ⟨g, off, e, hl, this 0 _ rfl, this 1 _ rfl, this 2 _ rfl, this 3 _ rfl⟩
/-- The cells of a row of records. -/
def flatU : List Rc → List Value
  | [] => []
  | x :: xs => .int .u8 (x.us : Int) :: .int .u8 (x.se : Int) :: .int .u8 (x.ma : Int) :: sv x.da :: flatU xs
theorem flatU_len : ∀ xs : List Rc, (flatU xs).length = xs.length * 4
  | [] => rfl
  | x :: xs => by simp only [flatU, List.length_cons, flatU_len xs]; omega
theorem flatU_app : ∀ (xs : List Rc) (x : Rc), flatU xs ++ cellsL x = flatU (xs ++ [x])
  | [], x => rfl
  | a :: xs, x => by simp only [flatU, List.cons_append, flatU_app xs x]
theorem flatU_app2 : ∀ (xs ys : List Rc), flatU xs ++ flatU ys = flatU (xs ++ ys)
  | [], ys => rfl
  | a :: xs, ys => by simp only [flatU, List.cons_append, flatU_app2 xs ys]
theorem flatU_at : ∀ (xs : List Rc) (j i : Nat), j < xs.length → i < 4 → (flatU xs)[j * 4 + i]? = (cellsL (rcAt xs j))[i]?
  | x :: xs, 0, i, _, hi => by
    rw [Nat.zero_mul, Nat.zero_add]
    match i, hi with
    | 0, _ => rfl
    | 1, _ => rfl
    | 2, _ => rfl
    | 3, _ => rfl
  | x :: xs, j + 1, i, h, hi => by
    have := flatU_at xs j i (by simpa using h) hi
    rw [show (j + 1) * 4 + i = j * 4 + i + 3 + 1 by omega]
    exact this
theorem cellsL_len (r : Rc) : (cellsL r).length = 4 := rfl
/-- A row of the call's own that holds these. -/
def RO (base : Nat) (W : World) (v : Value) (l : List Rc) : Prop := W.ownsRow base 65 4 v l.length (flatU l)
theorem RO.nil (base : Nat) (W : World) : RO base W (.slice none 0 0) [] := World.ownsRow_nil _ _ _ _
theorem RO.form {base : Nat} {W : World} {v : Value} {l : List Rc} (h : RO base W v l) : ∃ A c, v = .slice A l.length c ∧ l.length ≤ c := by
  rcases h.2 with ⟨rfl, h0⟩ | ⟨g, cap, cur, rfl, _, hgg, h1, h2, h3, h4⟩
  · exact ⟨none, 0, by rw [h0], by omega⟩
  · exact ⟨_, _, rfl, by omega⟩
theorem RO.lt {base g : Nat} {W : World} {v : Value} {l : List Rc} (h : RO base W v l) (hg : v.ownBlock = some g) : base ≤ g ∧ g < W.heap.size := World.ownsRow.lt h g hg
theorem RO.old {base : Nat} {w w' : World} {row : Option Nat} {v : Value} {l : List Rc} (h : RO base w v l) (hk : w.grownBy w' row) (hs : ∀ g, v.ownBlock = some g → some g ≠ row) : RO base w' v l := by
  refine World.ownsRow.kept h hk ?_
  rcases h' : v.ownBlock with _ | g
  · exact .inl rfl
  · exact .inr (hs g h')
theorem RO.below {base : Nat} {w w' : World} {v : Value} {l : List Rc} (h : RO base w v l) (hb : Below w.heap.size w w') : RO base w' v l :=
  h.old (row := none) ⟨hb.os, hb.tape, hb.output, hb.size, fun k hk _ => hb.block k hk⟩ (fun g _ => by simp)
theorem RO.rr {base : Nat} {W : World} {A : Option Addr} {n c : Nat} {l : List Rc} (h : RO base W (.slice A n c) l) : RR W A l := fun hp => by
  rcases h.2 with ⟨e, h0⟩ | ⟨g, cap, cur, e, _, hb, _, _, _, ht⟩
  · omega
  · simp only [Value.slice.injEq] at e
    refine ⟨g, 0, e.1, (Array.getElem?_eq_some_iff.1 hb).1, fun j hj i u hu => ?_⟩
    have hi : i < 4 := by
      have := (List.getElem?_eq_some_iff.1 hu).1
      rw [cellsL_len] at this; exact this
    show W.cell? ⟨g, 0 + j * 4 + i, none⟩ = some u
    rw [Nat.zero_add, cell_of_row W g (j * 4 + i) cur _ _ hb, ← hu, ← flatU_at l j i hj hi, ← ht, List.getElem?_take_of_lt (by omega)]
    simp
theorem info_rc : (Tryz.prog.info? 65).map (fun i => (i.zero, i.size, i.bytes)) = some (some (.agg #[.int .u8 0, .int .u8 0, .int .u8 0, .string ⟨#[]⟩]), 4, 24) := by kernel_rfl
/-- An append of one record. -/
theorem ro_append {base : Nat} {W : World} {v : Value} {l : List Rc} (h : RO base W v l) (hbase : base ≤ W.heap.size) (hlen : l.length ≤ 1000000) (x : Rc) :
    ∃ g cap w2, (Builtin.append_ #[71, 71] 71 #[v, .slice (some ⟨W.heap.size, 0, none⟩) 1 1]).run Tryz.prog (W.alloc (cellsR x)) = .ok (.slice (some ⟨g, 0, none⟩) (l.length + 1) cap) w2 ∧
      RO base w2 (.slice (some ⟨g, 0, none⟩) (l.length + 1) cap) (l ++ [x]) ∧ (W.alloc (cellsR x)).grownBy w2 v.ownBlock := by
  obtain ⟨i, hi, hz0, hz1, hz2⟩ := info_parts info_rc
  have hown : (W.alloc (cellsR x)).ownsRow base 65 4 v l.length (flatU l) := h.below (below_alloc _ _)
  obtain ⟨v', w2, hrun, hown2, hgrow, hnil, hor⟩ := run_append_own_at (P := Tryz.prog) (W.alloc (cellsR x)) base 71 71 65 i _ 4 24 Tryz.underlying71 hi hz0 hz1 hz2 rfl (by decide) v l.length (flatU l) hown
    ⟨W.heap.size, 0, none⟩ 1 1 (cellsL x) rfl (World.news_of_block (heap_alloc_new W _)) (by simp [Value.oneCell', cellsL]) (by unfold maxLen; omega) (by omega) (by simp; omega)
  have hown3 : RO base w2 v' (l ++ [x]) := by
    unfold RO
    rw [List.length_append, ← flatU_app]
    exact hown2
  rcases hown2.2 with ⟨_, h0⟩ | ⟨g, cap, cur, rfl, hbg, hgb, _⟩
  · omega
  · exact ⟨g, cap, w2, hrun, hown3, hgrow⟩
theorem any_takeU {p : Rc → Bool} {l : List Rc} {k : Nat} (hk : k < l.length) : (l.take (k + 1)).any p = ((l.take k).any p || p (rcAt l k)) := by
  rw [List.take_succ_eq_append_getElem hk, List.any_append, rcAt_get hk]; simp
set_option maxHeartbeats 4000000 in
theorem indexR_any {N : Nat} {caps : Array Value} (he : ∀ args w, (callFunc N args).run Tryz.prog w = .ok (.enter N args) w) {p : Rc → Bool} {w : World} (Inv : World → Prop)
    (hstep : ∀ (r : Rc) W, Inv W → Below w.heap.size w W → Calls Tryz.prog N (#[.agg #[.int .u8 (r.us : Int), .int .u8 (r.se : Int), .int .u8 (r.ma : Int), sv r.da]] ++ caps) W fun e w' => e = .returned (.bool (p r)) ∧ Inv w' ∧ Below w.heap.size w w')
    (l : List Rc) (A : Option Addr) (cp : Nat) (hr : RR w A l) (hn : l.length ≤ 1000000) (h0 : Inv w) :
    Calls Tryz.prog 160 #[.slice A l.length cp, .func (.func N) #[] caps] w fun e w' => e = .returned (.int .i64 (idxI p l)) ∧ Inv w' ∧ Below w.heap.size w w' := by
  have HS := Lib.hid hstep
  have HR := Lib.hid hr
  have H0 := Lib.hid h0
  clear hstep hr h0
  go_enter Tryz.func160, Tryz.ntmps160
  go_wp2_with fail
  go_loopw [8] (fun i wr => ∃ k : Nat, k ≤ l.length ∧ i = .int .i64 k ∧ (l.take k).any p = false ∧ Inv wr ∧ Below w.heap.size w wr) (fun i _ => l.length - (intOf i).toNat)
  case atStart => exact ⟨0, Nat.zero_le _, rfl, rfl, H0.out, Below.refl _ _⟩
  case round =>
    obtain ⟨k, hk, rfl, hall, hi, hb⟩ := hrel
    have HA := Lib.hid hall
    have HI := Lib.hid hi
    have HB := Lib.hid hb
    clear hall hi hb
    by_cases hlt : k < l.length
    · obtain ⟨x, hxe⟩ : ∃ x, x = rcAt l k := ⟨_, rfl⟩
      obtain ⟨g, off, rfl, _, p0, p1, p2, p3⟩ := (HR.out.step HB.out).at hlt hxe.symm
      have hlt' : (k : Int) < (l.length : Int) := by omega
      have hal := any_takeU (p := p) hlt
      rw [HA.out, Bool.false_or] at hal
      have hat : p (rcAt l k) = true → idxI p l = (k : Int) := fun h => idx_at hlt HA.out (by rw [rcAt_get hlt]; exact h)
      rw [← hxe] at hal hat
      have HST := Lib.hid (HS.out x wr HI.out HB.out)
      clear hxe
      cases hp : p x with
      | false =>
        rw [hp] at hal HST
        have HAL := Lib.hid hal
        clear hal hp hat
        go_wp2_with (go_at_fn N; refine HST.out.mono ?_; rintro e w1 ⟨rfl, hi1, hb1⟩; have HI1 := Lib.hid hi1; have HB1 := Lib.hid hb1; clear hi1 hb1)
        go_roundw
        case rel => exact ⟨k + 1, by omega, by go_num, HAL.out, HI1.out, HB1.out⟩
        case measure => simp [intOf]; omega
      | true =>
        rw [hp] at HST
        have HAT := Lib.hid (hat hp)
        clear hal hp hat
        go_wp2_with (go_at_fn N; refine HST.out.mono ?_; rintro e w1 ⟨rfl, hi1, hb1⟩; have HI1 := Lib.hid hi1; have HB1 := Lib.hid hb1; clear hi1 hb1)
        go_ret
        rw [HAT.out]
        exact ⟨rfl, HI1.out, HB1.out⟩
    · obtain rfl : k = l.length := by omega
      rw [List.take_length] at HA
      have HF := Lib.hid (show idxI p l = -1 by unfold idxI; rw [HA.out]; rfl)
      go_wp2_with fail
      go_ret
      rw [HF.out]
      exact ⟨rfl, HI.out, HB.out⟩
theorem containsR_any {N : Nat} {caps : Array Value} (he : ∀ args w, (callFunc N args).run Tryz.prog w = .ok (.enter N args) w) {p : Rc → Bool} {w : World} (Inv : World → Prop)
    (hstep : ∀ (r : Rc) W, Inv W → Below w.heap.size w W → Calls Tryz.prog N (#[.agg #[.int .u8 (r.us : Int), .int .u8 (r.se : Int), .int .u8 (r.ma : Int), sv r.da]] ++ caps) W fun e w' => e = .returned (.bool (p r)) ∧ Inv w' ∧ Below w.heap.size w w')
    (l : List Rc) (A : Option Addr) (cp : Nat) (hr : RR w A l) (hn : l.length ≤ 1000000) (h0 : Inv w) :
    Calls Tryz.prog 104 #[.slice A l.length cp, .func (.func N) #[] caps] w fun e w' => e = .returned (.bool (l.any p)) ∧ Below w.heap.size w w' := by
  have HIX := Lib.hid (indexR_any he Inv hstep l A cp hr hn h0)
  have HG := Lib.hid (idxI_ge p l)
  obtain ⟨z, hz⟩ : ∃ z, z = idxI p l := ⟨_, rfl⟩
  obtain ⟨b, hb⟩ : ∃ b, b = l.any p := ⟨_, rfl⟩
  rw [← hz, ← hb] at HG
  rw [← hz] at HIX
  rw [← hb]
  clear hstep hr hz hb h0 he
  go_enter Tryz.func104, Tryz.ntmps104
  go_wp2_with (go_at_call 160; refine HIX.out.mono ?_; rintro e w1 ⟨rfl, _, hb1⟩)
  go_ret
  rw [← HG.out]
  exact ⟨rfl, hb1⟩
end Go.Proofs.YtnaoandleelbkaaGreatDoor

namespace Go.Proofs.YtnaoandleelbkaaGreatDoor
set_option linter.unusedSimpArgs false
set_option linter.unusedVariables false
open Go Go.RowKit
set_option maxRecDepth 100000

theorem RB.same3 {W : World} {k : Nat} {r : Rc} (h : RB W k r) : RB (W.setCell ⟨k, 3, none⟩ (sv r.da)) k r := h.put3 r.da
theorem RO.set {base : Nat} {W : World} {n j : Nat} {v u : Value} {l : List Rc} (h : RO base W v l) (hn : ∀ g, v.ownBlock = some g → g ≠ n) : RO base (W.setCell ⟨n, j, none⟩ u) v l :=
  h.old (row := some n) ⟨rfl, rfl, rfl, by simp, fun k _ hk => heap_setCell_other W ⟨n, j, none⟩ k u (fun e => hk (by simp [e]))⟩ (fun g e e2 => hn g e (by simpa using e2))
/-- A round's step: the record is copied, and laid behind. -/
theorem usab_step {w wr w2 : World} {v : Value} {rs : List Rc} {r : Rc} (hro : RO w.heap.size wr v rs) (hg : Below w.heap.size w wr) (hb : Below wr.heap.size wr w2) (hrb : RB w2 wr.heap.size r) (hl : rs.length ≤ 4) :
    ∃ g cap w3, (Builtin.append_ #[71, 71] 71 #[v, .slice (some ⟨w2.heap.size, 0, none⟩) 1 1]).run Tryz.prog ((w2.setCell ⟨wr.heap.size, 3, none⟩ (sv r.da)).alloc (cellsR r)) = .ok (.slice (some ⟨g, 0, none⟩) (rs.length + 1) cap) w3 ∧
      RO w.heap.size w3 (.slice (some ⟨g, 0, none⟩) (rs.length + 1) cap) (rs ++ [r]) ∧ Below w.heap.size w w3 := by
  obtain ⟨W, hW⟩ : ∃ W, W = w2.setCell ⟨wr.heap.size, 3, none⟩ (sv r.da) := ⟨_, rfl⟩
  have hbW : Below wr.heap.size wr W := by rw [hW]; exact hb.setCell (p := ⟨wr.heap.size, 3, none⟩) (Nat.le_refl _) _
  have hgW : Below w.heap.size w W := hg.trans (hbW.mono hg.size)
  have hro2 := hro.below hb
  have hroW : RO w.heap.size W v rs := by rw [hW]; exact hro2.set fun g e => by have := (hro.lt e).2; omega
  obtain ⟨g, cap, w3, h1, h2, h3⟩ := ro_append hroW hgW.size (by omega) r
  have h3' : W.grownBy w3 v.ownBlock := ⟨h3.os, h3.tape, h3.output, Nat.le_trans (by simp) h3.size, fun k hk hne => (h3.block k (by simp; omega) hne).trans (Below.heap_alloc _ _ _ hk)⟩
  have hsz : W.heap.size = w2.heap.size := by rw [hW]; simp
  rw [hsz] at h1
  rw [← hW]
  exact ⟨g, cap, w3, h1, h2, Below.grown hgW h3' hgW.size fun j hj => (hroW.lt hj).1⟩
theorem filter_takeU {l : List Rc} {k : Nat} (hk : k < l.length) : (l.take (k + 1)).filter usableB = (l.take k).filter usableB ++ (if usableB (rcAt l k) then [rcAt l k] else []) := by
  rw [List.take_succ_eq_append_getElem hk, List.filter_append, rcAt_get hk]
  cases h : usableB (rcAt l k) <;> simp [h]
/-- What Usables tells. -/
def UPost (w : World) (l : List Rc) (e : Ending) (w' : World) : Prop := ∃ v, e = .returned v ∧ RO w.heap.size w' v l ∧ Below w.heap.size w w'
set_option maxHeartbeats 4000000 in
theorem usables_any {w : World} (l : List Rc) (A : Option Addr) (cp : Nat) (hr : RR w A l) (hl : ∀ r ∈ l, r.da.length ≤ 281474976710656) (hcp : l.length ≤ cp) (hlen : l.length ≤ 9223372036854775807) :
    Calls Tryz.prog 51 #[.slice A l.length cp] w (UPost w (usablesL l)) := by
  obtain ⟨ch, hch⟩ : ∃ ch, ch = l.take 4 := ⟨_, rfl⟩
  obtain ⟨N, hN⟩ : ∃ N, N = ch.length := ⟨_, rfl⟩
  have hN4 : N = min l.length 4 := by rw [hN, hch, List.length_take]; omega
  have HU := Lib.hid (show usablesL l = ch.filter usableB by rw [hch]; rfl)
  have hrt := hr.take 4
  have hlt := fun r (h : r ∈ l.take 4) => hl r (List.mem_of_mem_take h)
  rw [← hch] at hrt hlt
  have HR := Lib.hid hrt
  have HL := Lib.hid hlt
  have HN := Lib.hid hN
  have hmin : min (l.length : Int) 4 = (N : Int) := by omega
  have hncp : N ≤ cp := by omega
  have hncp' : (N : Int) ≤ (cp : Int) := by omega
  have hn4 : N ≤ 4 := by omega
  have HUS := Lib.hid (fun (W : World) (r : Rc) => @usable_any W r)
  obtain ⟨m, hm⟩ : ∃ m, m = l.length := ⟨_, rfl⟩
  rw [← hm] at hmin ⊢
  clear hr hl hrt hlt hch hcp hm hN4 hlen hN
  go_enter Tryz.func51, Tryz.ntmps51
  go_wp2_with fail
  go_loopw [3, 12] (fun v i wr => ∃ (k : Nat) (rs : List Rc), k ≤ N ∧ i = .int .i64 (k : Int) ∧ rs = (ch.take k).filter usableB ∧ RO w.heap.size wr v rs ∧ Below w.heap.size w wr) (fun _ i _ => N - (intOf i).toNat)
  case atStart => exact ⟨0, [], Nat.zero_le _, rfl, rfl, RO.nil _ _, Below.refl _ _⟩
  case round =>
    obtain ⟨k, rs, hk, rfl, hrs, hro, hgb⟩ := hrel
    obtain ⟨A0, c0, rfl, hpc⟩ := hro.form
    have hrl : rs.length ≤ 4 := by
      rw [hrs]
      have := List.length_filter_le usableB (ch.take k)
      rw [List.length_take] at this
      omega
    have HRS := Lib.hid hrs
    have HRO := Lib.hid hro
    have HB := Lib.hid hgb
    clear hrs hro hgb hpc
    by_cases hltk : k < N
    · have hkc : k < ch.length := by rw [← HN.out]; exact hltk
      obtain ⟨x, hxe⟩ : ∃ x, x = rcAt ch k := ⟨_, rfl⟩
      obtain ⟨g, off, rfl, hg, p0, p1, p2, p3⟩ := (HR.out.step HB.out).at hkc hxe.symm
      have hlt' : (k : Int) < (N : Int) := by omega
      have hft := filter_takeU hkc
      have hxl := HL.out _ (rcAt_mem hkc)
      rw [← hxe] at hft hxl
      rw [← HRS.out] at hft
      have HCL := Lib.hid (fun W : World => @clone_anyE W x.da hxl)
      have HUX := Lib.hid (fun W : World => HUS.out W x)
      have HRB := Lib.hid (RB.new wr x)
      have HB0 := Lib.hid (below_alloc wr (cellsR x))
      clear hxl hxe
      cases hu : usableB x with
      | false =>
        rw [hu] at hft HUX
        have HF := Lib.hid (show (ch.take (k + 1)).filter usableB = rs by rw [hft]; simp)
        clear hft hu
        go_wp2_with (go_at_call 46; refine (HUX.out _).mono ?_; rintro e w1 ⟨rfl, hb1⟩; have HB1 := Lib.hid (HB0.out.trans (hb1.mono HB0.out.size)); clear hb1)
        go_roundw
        case rel => exact ⟨k + 1, rs, by omega, by go_num, HF.out.symm, HRO.out.below HB1.out, HB.out.trans (HB1.out.mono HB.out.size)⟩
        case measure => simp [intOf]; omega
      | true =>
        rw [hu] at hft HUX
        have HF := Lib.hid (show (ch.take (k + 1)).filter usableB = rs ++ [x] by rw [hft]; simp)
        clear hft hu
        go_wp2_with (first
          | (go_at_call 46; refine (HUX.out _).mono ?_; rintro e w1 ⟨rfl, hb1⟩; have HB1 := Lib.hid (HB0.out.trans (hb1.mono HB0.out.size)); have r1 := HRB.out.step hb1; have HR1 := Lib.hid r1; have c3 := r1.c3; clear r1 hb1)
          | (go_at_call 69; refine (HCL.out _).mono ?_; rintro e w2 ⟨rfl, hb2⟩; have r2 := HR1.out.step hb2; obtain ⟨g2, cap2, w3, hrun, q1, q2⟩ := usab_step HRO.out HB.out (HB1.out.trans (hb2.mono HB1.out.size)) r2 hrl; have HRUN := Lib.hid hrun; have Q1 := Lib.hid q1; have Q2 := Lib.hid q2; have d0 := r2.c0; have d1 := r2.c1; have d2 := r2.c2; have d3 := r2.c3; have f3 := r2.free 3; clear r2 hrun q1 q2 hb2)
          | (at_builtin; refine stepApp rfl _ _ 71 rfl rfl rfl HRUN.out ?_))
        go_roundw
        case rel => exact ⟨k + 1, rs ++ [x], by omega, by go_num, HF.out.symm, Q1.out, Q2.out⟩
        case measure => simp [intOf]; omega
    · obtain rfl : k = N := by omega
      have HE := Lib.hid (show rs = ch.filter usableB by rw [HRS.out, HN.out, List.take_length])
      go_wp2_with fail
      go_ret
      exact ⟨_, rfl, by rw [HU.out, ← HE.out]; exact HRO.out, HB.out⟩
set_option maxHeartbeats 4000000 in
theorem any_any {w : World} (l : List Rc) (A : Option Addr) (cp : Nat) (chain : List (List UInt8)) (B : Option Addr) (bc : Nat) (host : List UInt8) (now : Int) (hr : RR w A l) (hl : ∀ r ∈ l, r.da.length ≤ 281474976710656) (hcp : l.length ≤ cp) (hlen : l.length ≤ 9223372036854775807)
    (hx : SX w (.slice B chain.length bc) chain) (hcl : ∀ s ∈ chain, s.length ≤ 1000000) (hbc : chain.length ≤ bc) (hbl : chain.length ≤ 9223372036854775807) (hh : host.length ≤ 1000000) (hw : GA w) :
    Calls Tryz.prog 50 #[.slice A l.length cp, .slice B chain.length bc, sv host, .int .i64 now] w fun e w' => e = .returned (.bool (anyR l chain host now)) ∧ Below w.heap.size w w' := by
  have HUS := Lib.hid (usables_any l A cp hr hl hcp hlen)
  have HMA := Lib.hid (fun W (hb : Below w.heap.size w W) => @matcher_any W chain B bc host now (hx.step hb) (fun s hs => by have := hcl s hs; omega) hbc hbl hh (hw.below hb))
  have hul := usables_le l
  have HCF := Lib.hid (fun (W W0 : World) (k7 k8 : Nat) (C : Option Addr) (c : Nat) (A1 : Option Addr) (c1 : Nat) (hb : Below w.heap.size w W) (hm : MT W0 W k7 k8 B C bc c (chain.take 1) (vouchL chain host now)) (hrr : RR W A1 (usablesL l)) =>
    containsR_any (N := 158) (caps := #[.pointer (some ⟨k8, 0, none⟩), .pointer (some ⟨k7, 0, none⟩)]) (enters_of Tryz.func158 (by kernel_rfl) rfl) (p := fun r => matchR r chain host now) (w := W) (fun W' => Below W.heap.size W W')
      (fun r W' hi hb' => (mat1_any r (hm.step hi) (by rw [List.length_take]; omega) (by have := (vouch_short (chain := chain) (host := host) (now := now)).1; omega) (fun x hx => hcl x (List.mem_of_mem_take hx)) (fun x hx => hcl x (vouch_short.2 x hx)) ((hw.below hb).below hi)).mono fun e w' ⟨q1, q2⟩ => ⟨q1, hi.trans (q2.mono hi.size), hb'.trans (q2.mono hb'.size)⟩)
      (usablesL l) A1 c1 hrr (by omega) (Below.refl _ _))
  have hF : anyR l chain host now = (usablesL l).any (fun r => matchR r chain host now) := rfl
  rw [← hF] at HCF
  obtain ⟨q, hq⟩ : ∃ q, q = anyR l chain host now := ⟨_, rfl⟩
  rw [← hq] at HCF ⊢
  clear hr hl hcp hlen hx hcl hbc hbl hw hF hq
  go_enter Tryz.func50, Tryz.ntmps50
  go_wp2_with (first
    | (go_at_call 51; refine HUS.out.mono ?_; rintro e w1 ⟨v1, rfl, hro, hb1⟩; obtain ⟨A1, c1, rfl, _⟩ := hro.form; have HB1 := Lib.hid hb1; have HRO := Lib.hid hro; clear hb1 hro)
    | (go_at_call 103; refine (HMA.out _ HB1.out).mono ?_; rintro e w2 ⟨k7, k8, C, c, rfl, hm⟩; have HM := Lib.hid hm; have HB2 := Lib.hid (HB1.out.trans (hm.bw.mono HB1.out.size)); clear hm)
    | (go_at_call 104; refine (HCF.out _ _ k7 k8 C c A1 c1 HB2.out HM.out (HRO.out.rr.step HM.out.bw)).mono ?_; rintro e w3 ⟨rfl, hb3⟩))
  go_ret
  exact ⟨rfl, HB2.out.trans (hb3.mono HB2.out.size)⟩
end Go.Proofs.YtnaoandleelbkaaGreatDoor
