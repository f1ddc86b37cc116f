/-
  The contracts of the laws' own: long, one, sent.
  Chains of certificates that were sent, plainly; what the examples come to.
  The contract of the examples.
  Certificates, texts that came in, opened.
  The contracts of the laws' calls, with whatever lies by kept.
  A row put behind a row of one's own; what the laws read of chains.
-/
import Derived.Test.YtnaoandleelbkaaGreatDoorJRm
import Derived.Test.YtnaoandleelbkaaGreatDoorGWm
import Derived.Test.YtnaoandleelbkaaGreatDoorGDm
import Derived.Deep.Slices
import Derived.Deep.Fields
import Derived.ChangeSame
import Derived.ChangeArms
import Derived.Carry
import Derived.ProofKit
namespace Go.Proofs.YtnaoandleelbkaaGreatDoor
set_option linter.unusedSimpArgs false
set_option linter.unusedVariables false
open Go Go.RowKit
set_option maxRecDepth 100000

def bulk5 (xs : List (List UInt8)) : Nat := (xs.map fun x => 5 + min 6000 x.length).sum
theorem bulk5_take {xs : List (List UInt8)} {k : Nat} (h : k < xs.length) : bulk5 (xs.take (k + 1)) = bulk5 (xs.take k) + (5 + min 6000 (xs.getD k []).length) := by
  unfold bulk5
  rw [take_text h]
  simp
theorem bulk5_mem {xs : List (List UInt8)} {x : List UInt8} (h : x ∈ xs) : 5 + min 6000 x.length ≤ bulk5 xs := by
  induction xs with
  | nil => cases h
  | cons y xs ih =>
    have e : bulk5 (y :: xs) = 5 + min 6000 y.length + bulk5 xs := by simp [bulk5]
    rw [e]
    rcases List.mem_cons.1 h with rfl | h
    · omega
    · have := ih h; omega
theorem bulk5_len (xs : List (List UInt8)) : 5 * xs.length ≤ bulk5 xs := by
  induction xs with
  | nil => simp
  | cons y xs ih =>
    have e : bulk5 (y :: xs) = 5 + min 6000 y.length + bulk5 xs := by simp [bulk5]
    rw [e, List.length_cons]; omega
/-- Texts that are not too long for the statements. -/
def few5 (xs : List (List UInt8)) : Prop := xs.length ≤ 1200 ∧ ∀ x ∈ xs, x.length ≤ 6000
theorem few5_of {xs : List (List UInt8)} (h : bulk5 xs < 6000) : few5 xs := ⟨by have := bulk5_len xs; omega, fun x hx => by have := bulk5_mem hx; omega⟩
set_option maxHeartbeats 4000000 in
theorem jlong_any {w : World} (xs : List (List UInt8)) (A : Option Addr) (c : Nat) (hx : SX w (.slice A xs.length c) xs) (hl : xs.length ≤ 9223372036854775807) (hn : ∀ n ∈ xs, n.length ≤ 9223372036854775807) :
    Calls Tryz.prog 40 #[.slice A xs.length c] w fun e w' => ((e = .returned (.bool false) ∧ few5 xs) ∨ e = .returned (.bool true)) ∧ w' = w := by
  have HX := Lib.hid hx
  have HN := Lib.hid hn
  clear hx hn
  go_enter Tryz.func40, Tryz.ntmps40
  go_wp2_with fail
  go_loop [3, 4] (fun n i => ∃ k : Nat, k ≤ xs.length ∧ i = .int .i64 k ∧ n = .int .i64 ((bulk5 (xs.take k) : Nat) : Int) ∧ bulk5 (xs.take k) < 40000) (fun _ i => xs.length - (intOf i).toNat)
  case atStart => exact ⟨0, Nat.zero_le _, rfl, by simp [bulk5], by simp [bulk5]⟩
  case round =>
    obtain ⟨k, hk, rfl, rfl, hb⟩ := hrel
    obtain ⟨T, hT⟩ : ∃ T, T = bulk5 (xs.take k) := ⟨_, rfl⟩
    rw [← hT] at hb ⊢
    have HT := Lib.hid hT
    clear hT
    by_cases hlt : k < xs.length
    · have hlt' : (k : Int) < (xs.length : Int) := by omega
      by_cases h9 : T < 6000
      · have h9' : (T : Int) < 6000 := by omega
        obtain ⟨g, off, rfl, _, a0⟩ := HX.out.at hlt
        have hxl := HN.out _ (mem_getD hlt)
        have HK := Lib.hid (bulk5_take hlt)
        obtain ⟨x, hxe⟩ : ∃ x, x = xs.getD k [] := ⟨_, rfl⟩
        rw [← hxe] at a0 hxl HK
        have hz2 := str_size x
        have n1 : (0 : Int) ≤ min 6000 (x.length : Int) := by omega
        have n2 : min 6000 (x.length : Int) ≤ 6000 := by omega
        have HST := Lib.hid (show bulk5 (xs.take (k + 1)) = T + 5 + min 6000 x.length by rw [HK.out, HT.out]; omega)
        clear hxe
        go_wp2_with fail
        go_round
        case rel => exact ⟨k + 1, by omega, by go_num, by rw [HST.out]; go_num, by rw [HST.out]; omega⟩
        case measure => simp [intOf]; omega
      · have h9' : ¬ (T : Int) < 6000 := by omega
        have h9d : decide ((6000 : Int) ≤ (T : Int)) = true := by simpa using h9'
        have h9e : (6000 : Int) ≤ (T : Int) := by omega
        go_wp2_with fail
        go_ret
        exact ⟨.inr rfl, rfl⟩
    · obtain rfl : k = xs.length := by omega
      rw [List.take_length] at HT
      by_cases h9 : T < 6000
      · have HF := Lib.hid (few5_of (show bulk5 xs < 6000 by rw [← HT.out]; exact h9))
        have h9' : ¬ (6000 : Int) ≤ (T : Int) := by omega
        have h9d : decide ((6000 : Int) ≤ (T : Int)) = false := by simpa using h9'
        go_wp2_with fail
        go_ret
        exact ⟨.inl ⟨rfl, HF.out⟩, rfl⟩
      · have h9' : (6000 : Int) ≤ (T : Int) := by omega
        have h9d : decide ((6000 : Int) ≤ (T : Int)) = true := by simpa using h9'
        go_wp2_with fail
        go_ret
        exact ⟨.inr rfl, rfl⟩

/-- What one makes. -/
def oneC (key by' : List UInt8) (ca : Bool) (names : List (List UInt8)) : Ct := ⟨key, digestL by', names, 10, 20, ca⟩
set_option maxHeartbeats 4000000 in
theorem one_any {w : World} (key by' : List UInt8) (ca : Bool) (names : List (List UInt8)) (A : Option Addr) (n c : Nat) (hb : by'.length ≤ 9223372036854775807) (hw : GA w) :
    Calls Tryz.prog 32 #[sv key, sv by', .bool ca, .slice A n c] w fun e w' => e = .returned (certV (oneC key by' ca names) (.slice A n c)) ∧ Below w.heap.size w w' := by
  have hb0 := below_alloc w zeroC
  have hc0 : CB (w.alloc zeroC) w.heap.size ct0 (.slice none 0 0) := CB.new w ct0 (.slice none 0 0)
  obtain ⟨W, hW⟩ : ∃ W, W = w.alloc zeroC := ⟨_, rfl⟩
  rw [← hW] at hb0 hc0
  have HD := Lib.hid (@digest_any W by' hb (hw.below hb0).lw)
  have HC := Lib.hid hc0
  have HB := Lib.hid hb0
  have HW := Lib.hid hW
  obtain ⟨t, ht⟩ : ∃ t, t = digestL by' := ⟨_, rfl⟩
  have HO := Lib.hid (show oneC key by' ca names = ⟨key, t, names, 10, 20, ca⟩ by rw [ht]; rfl)
  rw [← ht] at HD
  clear hb0 hc0 hW hw ht
  go_enter Tryz.func32, Tryz.ntmps32
  go_wp2_with fail
  rw [← HW.out]
  go_wp2_with (go_at_call 16; refine HD.out.mono ?_; rintro e w1 ⟨rfl, hb1⟩; have HC1 := Lib.hid (HC.out.step hb1); have HB1 := Lib.hid (HB.out.trans (hb1.mono HB.out.size)); have f0 := HC1.out.free 0; have f1 := HC1.out.free 1; have f2 := HC1.out.free 2; have f3 := HC1.out.free 3; have f4 := HC1.out.free 4; have f5 := HC1.out.free 5; obtain ⟨c0, c1, c2, c3, c4, c5⟩ : w1.cell? ⟨w.heap.size, 0, none⟩ = some (sv []) ∧ w1.cell? ⟨w.heap.size, 1, none⟩ = some (sv []) ∧ w1.cell? ⟨w.heap.size, 2, none⟩ = some (.slice none 0 0) ∧ w1.cell? ⟨w.heap.size, 3, none⟩ = some (.int .i64 0) ∧ w1.cell? ⟨w.heap.size, 4, none⟩ = some (.int .i64 0) ∧ w1.cell? ⟨w.heap.size, 5, none⟩ = some (.bool false) := ⟨HC1.out.c0, HC1.out.c1, HC1.out.c2, HC1.out.c3, HC1.out.c4, HC1.out.c5⟩; clear hb1)
  rw [HO.out]
  exact bodyPost_ret (v := certV ⟨key, t, names, 10, 20, ca⟩ (.slice A n c)) (results_cell_row (p := 8) (fr := (0, 0)) Tryz.results32 _ _ w.heap.size 27 _ _ rfl (HC1.out.put6 ⟨key, t, names, 10, 20, ca⟩ (.slice A n c)) Tryz.underlying27 rfl (by kernel_rfl)) rfl ⟨rfl, below_put6 HB1.out (Nat.le_refl _)⟩

theorem enc_take {l : List Ct} {k : Nat} (h : k < l.length) : (l.take (k + 1)).map encL = (l.take k).map encL ++ [encL (ctAt l k)] := by
  rw [List.take_succ_eq_append_getElem h, List.map_append]
  unfold ctAt
  rw [List.getD_eq_getElem?_getD, List.getElem?_eq_getElem h]; rfl
set_option maxHeartbeats 4000000 in
theorem sent_any {w : World} (l : List Ct) (A : Option Addr) (cp : Nat) (nv : Nat → Value) (hr : CR w A l nv) (hs : ∀ k, k < l.length → shortC (ctAt l k)) (hl : l.length ≤ 1000) (hw : GL w) :
    Calls Tryz.prog 34 #[.slice A l.length cp] w fun e w' => ∃ A' c', e = .returned (.slice A' l.length c') ∧ TW w.heap.size w' (.slice A' l.length c') (l.map encL) ∧ Below w.heap.size w w' := by
  have HR := Lib.hid hr
  have HS := Lib.hid hs
  have HG := Lib.hid hw
  clear hr hs hw
  go_enter Tryz.func34, Tryz.ntmps34
  go_wp2_with fail
  go_loopw [3, 4] (fun v i wr => ∃ k : Nat, k ≤ l.length ∧ i = .int .i64 (k : Int) ∧ TW w.heap.size wr v ((l.take k).map encL) ∧ Below w.heap.size w wr) (fun _ i _ => l.length - (intOf i).toNat)
  case atStart => exact ⟨0, Nat.zero_le _, rfl, TW.nil _ _, Below.refl _ _⟩
  case round =>
    obtain ⟨k, hk, rfl, htw, hb⟩ := hrel
    obtain ⟨A0, c0, rfl⟩ := htw.form
    have hkl : ((l.take k).map encL).length = k := by rw [List.length_map, List.length_take]; omega
    have HTW := Lib.hid htw
    have HB := Lib.hid hb
    by_cases hlt : k < l.length
    · obtain ⟨g, off, rfl, _, hcc, hsx⟩ := (HR.out.step hb).at hlt
      obtain ⟨a1, c1, e1⟩ := hsx.form
      rw [e1] at hcc hsx
      obtain ⟨p0, p1, p2, p3, p4, p5⟩ := hcc
      have hlt' : (k : Int) < (l.length : Int) := by omega
      have HEN := Lib.hid (@encode_any wr (ctAt l k) a1 c1 hsx (HS.out k hlt) (HG.out.below hb))
      have HET := Lib.hid (enc_take hlt)
      obtain ⟨s, hse⟩ : ∃ s, s = encL (ctAt l k) := ⟨_, rfl⟩
      rw [← hse] at HEN HET
      obtain ⟨z, hz⟩ : ∃ z, z = encE (ctAt l k) := ⟨_, rfl⟩
      rw [← hz] at HEN
      unfold certV at HEN
      rw [hkl] at HTW ⊢
      have HKL := Lib.hid hkl
      clear htw hb hkl e1 hsx hse hz
      go_wp2_with (first
        | (go_at_call 18; refine HEN.out.mono ?_; rintro e w1 ⟨rfl, hb1⟩; obtain ⟨g2, cap2, w2, hrun, htw2, hbb⟩ := tw_app (HTW.out.below hb1) (HB.out.trans (hb1.mono HB.out.size)) (by rw [HKL.out]; omega) s; rw [HKL.out] at hrun; rw [HKL.out] at htw2; have HRUN := Lib.hid hrun; have HT2 := Lib.hid htw2; have HBB := Lib.hid hbb; clear hrun htw2 hbb hb1)
        | (at_builtin; refine stepApp rfl _ _ 25 rfl rfl rfl HRUN.out ?_))
      go_roundw
      case rel => exact ⟨k + 1, by omega, by go_num, by rw [HET.out]; exact HT2.out, HBB.out⟩
      case measure => simp [intOf]; omega
    · obtain rfl : k = l.length := by omega
      rw [hkl] at HTW ⊢
      rw [List.take_length] at HTW
      clear htw hb hkl
      go_wp2_with fail
      go_ret
      exact ⟨_, _, rfl, HTW.out, HB.out⟩
end Go.Proofs.YtnaoandleelbkaaGreatDoor

namespace Go.Proofs.YtnaoandleelbkaaGreatDoor
set_option linter.unusedSimpArgs false
set_option linter.unusedVariables false
open Go Go.RowKit
set_option maxRecDepth 100000

theorem enc_zero_dec {c : Ct} (h : encE c = 0) : decO (encL c) = some c := (dec_enc h).1
theorem enc_no_dec {c : Ct} (h : encE c ≠ 0) : decO (encL c) = none := by
  rw [show encL c = [] by unfold encL; rw [if_neg h]]
  decide
theorem readL_map : ∀ (l : List Ct), readL (l.map encL) = l.takeWhile fun c => encE c == 0
  | [] => rfl
  | c :: l => by
    simp only [List.map_cons, readL, List.takeWhile_cons]
    by_cases h : encE c = 0
    · rw [enc_zero_dec h, readL_map l]; simp [h]
    · rw [enc_no_dec h]; simp [h]
theorem chainT_map {l : List Ct} (h : l.all (fun c => encE c == 0) = true) : chainT (l.map encL) = l.take 4 := by
  unfold chainT
  rw [← List.map_take, readL_map]
  have : ∀ m : List Ct, (∀ c ∈ m, (encE c == 0) = true) → (m.takeWhile fun c => encE c == 0) = m := by
    intro m
    induction m with
    | nil => intro _; rfl
    | cons a m ih =>
      intro h
      rw [List.takeWhile_cons, if_pos (h a (by simp)), ih fun c hc => h c (by simp [hc])]
  exact this _ fun c hc => List.all_eq_true.1 h c (List.mem_of_mem_take hc)

def tx (s : String) : List UInt8 := s.toUTF8.toList
def rootT : List UInt8 := [114, 111, 111, 116]
def kT : List UInt8 := [107]
def abT : List UInt8 := [97, 46, 98]
def starT : List UInt8 := [42, 46, 101, 120, 97, 109, 112, 108, 101, 46, 99, 111, 109]
def comT : List UInt8 := [42, 46, 99, 111, 109]
def starC : Ct := oneC kT rootT false [starT]
def comC : Ct := oneC kT rootT false [comT]
def abC : Ct := oneC kT rootT false [abT]
theorem ab_enc : encE abC = 0 := by decide +kernel
theorem host1 : hostB starC [109, 120, 46, 101, 120, 97, 109, 112, 108, 101, 46, 99, 111, 109] = true := by decide +kernel
theorem host2 : hostB starC [101, 120, 97, 109, 112, 108, 101, 46, 99, 111, 109] = false := by decide +kernel
theorem host3 : hostB starC [97, 46, 98, 46, 101, 120, 97, 109, 112, 108, 101, 46, 99, 111, 109] = false := by decide +kernel
theorem host4 : hostB comC [97, 46, 99, 111, 109] = false := by decide +kernel
theorem ab_chain : chainT [encL abC] = [abC] := chainT_map (l := [abC]) (by simp [ab_enc])
theorem jd (now : Int) (host : List UInt8) (an : List (List UInt8)) : judgeN [encL abC] host now an = if dateB abC now = false then 1 else if hostB abC host = false then 2 else if anchB [abC] now an = false then 3 else 0 := by
  unfold judgeN
  rw [ab_chain]; rfl
theorem anch_one {c : Ct} {now : Int} {an : List (List UInt8)} (h : dateB c now = true) : anchB [c] now an = an.contains c.sig := by
  unfold anchB goodN
  rw [if_neg (by simp), show ctAt [c] 0 = c from rfl, h]
  simp [moreN]
theorem date15 : dateB abC 15 = true := by decide +kernel
theorem judge1 : judgeN [encL abC] abT 15 [digestL rootT] = 0 := by
  rw [jd, date15, show hostB abC abT = true by decide +kernel, anch_one date15]
  simp [abC, oneC]
theorem judge2 : judgeN [encL abC] abT 21 [digestL rootT] = 1 := by
  rw [jd, show dateB abC 21 = false by decide +kernel]; rfl
theorem judge3 : judgeN [encL abC] [99, 46, 98] 15 [digestL rootT] = 2 := by
  rw [jd, date15, show hostB abC [99, 46, 98] = false by decide +kernel]; rfl
theorem judge4 : judgeN [encL abC] abT 15 [] = 3 := by
  rw [jd, date15, show hostB abC abT = true by decide +kernel, anch_one date15]; rfl
theorem judge5 : judgeN [] abT 15 [digestL rootT] = 3 := rfl
end Go.Proofs.YtnaoandleelbkaaGreatDoor

namespace Go.Proofs.YtnaoandleelbkaaGreatDoor
set_option linter.unusedSimpArgs false
set_option linter.unusedVariables false
open Go Go.RowKit
set_option maxRecDepth 100000

theorem below1 {W w' : World} {a : Obj} (h : Below (W.alloc a).heap.size (W.alloc a) w') : Below W.heap.size W w' := (below_alloc _ _).trans (h.mono (by simp))
theorem below2 {W w' : World} {a b : Obj} (h : Below ((W.alloc a).alloc b).heap.size ((W.alloc a).alloc b) w') : Below W.heap.size W w' := below1 (below1 h)
theorem sx_one (W : World) (k : Nat) (x : List UInt8) (hk : k = W.heap.size) : SX (W.alloc (.cells #[sv x] 9)) (.slice (some ⟨k, 0, none⟩) 1 1) [x] := by
  subst hk
  refine ⟨_, _, rfl, fun _ => ⟨_, 0, rfl, by simp, fun j hj => ?_⟩⟩
  obtain rfl : j = 0 := by simp at hj; exact hj
  rw [cellAt (heap_alloc_new W _)]; rfl
theorem cr_one (W : World) (k : Nat) (c : Ct) (nv : Value) (hk : k = W.heap.size) (hx : SX W nv c.names) : CR (W.alloc (cellsC c nv)) (some ⟨k, 0, none⟩) [c] (fun _ => nv) := fun _ => by
  subst hk
  refine ⟨_, 0, rfl, by simp, fun j hj => ?_⟩
  obtain rfl : j = 0 := by simp at hj; exact hj
  have h := CB.new W c nv
  exact ⟨⟨h.c0, h.c1, h.c2, h.c3, h.c4, h.c5⟩, hx.step (below_alloc _ _)⟩
theorem TW.cap {base : Nat} {W : World} {v : Value} {xs : List (List UInt8)} (h : TW base W v xs) : ∃ A c, v = .slice A xs.length c ∧ xs.length ≤ c := by
  rcases h.2 with ⟨rfl, h0⟩ | ⟨g, cap, cur, rfl, _, _, hc, _⟩
  · exact ⟨none, 0, by rw [h0], by omega⟩
  · exact ⟨_, _, rfl, hc⟩

/-- What lies by, once all is made. -/
def AwP (w : World) (k1 k2 k5 : Nat) (n1 n2 A4 : Option Addr) (c4 : Nat) (c1 c2 : Ct) (ch rt : List UInt8) (W : World) : Prop :=
  Ga w W ∧ CB W k1 c1 (.slice n1 1 1) ∧ SX W (.slice n1 1 1) c1.names ∧ CB W k2 c2 (.slice n2 1 1) ∧ SX W (.slice n2 1 1) c2.names ∧ SX W (.slice A4 1 c4) [ch] ∧ SX W (.slice (some ⟨k5, 0, none⟩) 1 1) [rt]
section
variable {w : World} {k1 k2 k5 : Nat} {n1 n2 A4 : Option Addr} {c4 : Nat} {c1 c2 : Ct} {ch rt : List UInt8} {W : World}
theorem AwP.step {W' : World} (h : AwP w k1 k2 k5 n1 n2 A4 c4 c1 c2 ch rt W) (hb : Below W.heap.size W W') : AwP w k1 k2 k5 n1 n2 A4 c4 c1 c2 ch rt W' := ⟨h.1.step hb, h.2.1.step hb, h.2.2.1.step hb, h.2.2.2.1.step hb, h.2.2.2.2.1.step hb, h.2.2.2.2.2.1.step hb, h.2.2.2.2.2.2.step hb⟩
theorem AwP.cells (h : AwP w k1 k2 k5 n1 n2 A4 c4 c1 c2 ch rt W) : (W.cell? ⟨k1, 0, none⟩ = some (sv c1.key) ∧ W.cell? ⟨k1, 1, none⟩ = some (sv c1.sig) ∧ W.cell? ⟨k1, 2, none⟩ = some (.slice n1 1 1) ∧ W.cell? ⟨k1, 3, none⟩ = some (.int .i64 c1.fr) ∧ W.cell? ⟨k1, 4, none⟩ = some (.int .i64 c1.un) ∧ W.cell? ⟨k1, 5, none⟩ = some (.bool c1.ca)) ∧ W.cell? ⟨k2, 0, none⟩ = some (sv c2.key) ∧ W.cell? ⟨k2, 1, none⟩ = some (sv c2.sig) ∧ W.cell? ⟨k2, 2, none⟩ = some (.slice n2 1 1) ∧ W.cell? ⟨k2, 3, none⟩ = some (.int .i64 c2.fr) ∧ W.cell? ⟨k2, 4, none⟩ = some (.int .i64 c2.un) ∧ W.cell? ⟨k2, 5, none⟩ = some (.bool c2.ca) :=
  ⟨⟨h.2.1.c0, h.2.1.c1, h.2.1.c2, h.2.1.c3, h.2.1.c4, h.2.1.c5⟩, h.2.2.2.1.c0, h.2.2.2.1.c1, h.2.2.2.1.c2, h.2.2.2.1.c3, h.2.2.2.1.c4, h.2.2.2.1.c5⟩

theorem aw_host1 (h : AwP w k1 k2 k5 n1 n2 A4 c4 c1 c2 ch rt W) (hs : shortC c1) (hn : c1.names.length = 1) (hh : hostB c1 [109, 120, 46, 101, 120, 97, 109, 112, 108, 101, 46, 99, 111, 109] = true) :
    Calls Tryz.prog 38 #[.agg #[sv c1.key, sv c1.sig, .slice n1 1 1, .int .i64 c1.fr, .int .i64 c1.un, .bool c1.ca], .string { data := #[109, 120, 46, 101, 120, 97, 109, 112, 108, 101, 46, 99, 111, 109] }] W fun e w' => e = .returned (.bool true) ∧ AwP w k1 k2 k5 n1 n2 A4 c4 c1 c2 ch rt w' := by
  have := @host_any W c1 n1 1 [109, 120, 46, 101, 120, 97, 109, 112, 108, 101, 46, 99, 111, 109] (by rw [hn]; exact h.2.2.1) hs (by decide) h.1.2.ml
  rw [hn] at this
  exact this.mono fun e w' ⟨h1, h2⟩ => ⟨by rw [h1, hh], h.step h2⟩
theorem aw_host2 (h : AwP w k1 k2 k5 n1 n2 A4 c4 c1 c2 ch rt W) (hs : shortC c1) (hn : c1.names.length = 1) (hh : hostB c1 [101, 120, 97, 109, 112, 108, 101, 46, 99, 111, 109] = false) :
    Calls Tryz.prog 38 #[.agg #[sv c1.key, sv c1.sig, .slice n1 1 1, .int .i64 c1.fr, .int .i64 c1.un, .bool c1.ca], .string { data := #[101, 120, 97, 109, 112, 108, 101, 46, 99, 111, 109] }] W fun e w' => e = .returned (.bool false) ∧ AwP w k1 k2 k5 n1 n2 A4 c4 c1 c2 ch rt w' := by
  have := @host_any W c1 n1 1 [101, 120, 97, 109, 112, 108, 101, 46, 99, 111, 109] (by rw [hn]; exact h.2.2.1) hs (by decide) h.1.2.ml
  rw [hn] at this
  exact this.mono fun e w' ⟨h1, h2⟩ => ⟨by rw [h1, hh], h.step h2⟩
theorem aw_host3 (h : AwP w k1 k2 k5 n1 n2 A4 c4 c1 c2 ch rt W) (hs : shortC c1) (hn : c1.names.length = 1) (hh : hostB c1 [97, 46, 98, 46, 101, 120, 97, 109, 112, 108, 101, 46, 99, 111, 109] = false) :
    Calls Tryz.prog 38 #[.agg #[sv c1.key, sv c1.sig, .slice n1 1 1, .int .i64 c1.fr, .int .i64 c1.un, .bool c1.ca], .string { data := #[97, 46, 98, 46, 101, 120, 97, 109, 112, 108, 101, 46, 99, 111, 109] }] W fun e w' => e = .returned (.bool false) ∧ AwP w k1 k2 k5 n1 n2 A4 c4 c1 c2 ch rt w' := by
  have := @host_any W c1 n1 1 [97, 46, 98, 46, 101, 120, 97, 109, 112, 108, 101, 46, 99, 111, 109] (by rw [hn]; exact h.2.2.1) hs (by decide) h.1.2.ml
  rw [hn] at this
  exact this.mono fun e w' ⟨h1, h2⟩ => ⟨by rw [h1, hh], h.step h2⟩
theorem aw_host4 (h : AwP w k1 k2 k5 n1 n2 A4 c4 c1 c2 ch rt W) (hs : shortC c2) (hn : c2.names.length = 1) (hh : hostB c2 [97, 46, 99, 111, 109] = false) :
    Calls Tryz.prog 38 #[.agg #[sv c2.key, sv c2.sig, .slice n2 1 1, .int .i64 c2.fr, .int .i64 c2.un, .bool c2.ca], .string { data := #[97, 46, 99, 111, 109] }] W fun e w' => e = .returned (.bool false) ∧ AwP w k1 k2 k5 n1 n2 A4 c4 c1 c2 ch rt w' := by
  have := @host_any W c2 n2 1 [97, 46, 99, 111, 109] (by rw [hn]; exact h.2.2.2.2.1) hs (by decide) h.1.2.ml
  rw [hn] at this
  exact this.mono fun e w' ⟨h1, h2⟩ => ⟨by rw [h1, hh], h.step h2⟩
theorem aw_judge1 (h : AwP w k1 k2 k5 n1 n2 A4 c4 c1 c2 ch rt W) (hc : 1 ≤ c4) (hl : ch.length ≤ 9223372036854775807) (hj : judgeN [ch] [97, 46, 98] 15 [rt] = 0) :
    Calls Tryz.prog 33 #[.slice A4 1 c4, .string { data := #[97, 46, 98] }, .int .i64 15, .slice (some ⟨k5, 0, none⟩) 1 1] W fun e w' => e = .returned (.int .u8 0) ∧ AwP w k1 k2 k5 n1 n2 A4 c4 c1 c2 ch rt w' :=
  (@judge_any W [ch] A4 c4 [97, 46, 98] 15 [rt] (some ⟨k5, 0, none⟩) 1 h.2.2.2.2.2.1 (by simpa using hl) hc (by simp) (by decide) h.2.2.2.2.2.2 (by simp) h.1.2).mono fun e w' ⟨h1, h2⟩ => ⟨by rw [h1, hj]; rfl, h.step h2⟩
theorem aw_judge2 (h : AwP w k1 k2 k5 n1 n2 A4 c4 c1 c2 ch rt W) (hc : 1 ≤ c4) (hl : ch.length ≤ 9223372036854775807) (hj : judgeN [ch] [97, 46, 98] 21 [rt] = 1) :
    Calls Tryz.prog 33 #[.slice A4 1 c4, .string { data := #[97, 46, 98] }, .int .i64 21, .slice (some ⟨k5, 0, none⟩) 1 1] W fun e w' => e = .returned (.int .u8 1) ∧ AwP w k1 k2 k5 n1 n2 A4 c4 c1 c2 ch rt w' :=
  (@judge_any W [ch] A4 c4 [97, 46, 98] 21 [rt] (some ⟨k5, 0, none⟩) 1 h.2.2.2.2.2.1 (by simpa using hl) hc (by simp) (by decide) h.2.2.2.2.2.2 (by simp) h.1.2).mono fun e w' ⟨h1, h2⟩ => ⟨by rw [h1, hj]; rfl, h.step h2⟩
theorem aw_judge3 (h : AwP w k1 k2 k5 n1 n2 A4 c4 c1 c2 ch rt W) (hc : 1 ≤ c4) (hl : ch.length ≤ 9223372036854775807) (hj : judgeN [ch] [99, 46, 98] 15 [rt] = 2) :
    Calls Tryz.prog 33 #[.slice A4 1 c4, .string { data := #[99, 46, 98] }, .int .i64 15, .slice (some ⟨k5, 0, none⟩) 1 1] W fun e w' => e = .returned (.int .u8 2) ∧ AwP w k1 k2 k5 n1 n2 A4 c4 c1 c2 ch rt w' :=
  (@judge_any W [ch] A4 c4 [99, 46, 98] 15 [rt] (some ⟨k5, 0, none⟩) 1 h.2.2.2.2.2.1 (by simpa using hl) hc (by simp) (by decide) h.2.2.2.2.2.2 (by simp) h.1.2).mono fun e w' ⟨h1, h2⟩ => ⟨by rw [h1, hj]; rfl, h.step h2⟩
theorem aw_judge4 (h : AwP w k1 k2 k5 n1 n2 A4 c4 c1 c2 ch rt W) (hc : 1 ≤ c4) (hl : ch.length ≤ 9223372036854775807) (hj : judgeN [ch] [97, 46, 98] 15 [] = 3) :
    Calls Tryz.prog 33 #[.slice A4 1 c4, .string { data := #[97, 46, 98] }, .int .i64 15, .slice none 0 0] W fun e w' => e = .returned (.int .u8 3) ∧ AwP w k1 k2 k5 n1 n2 A4 c4 c1 c2 ch rt w' :=
  (@judge_any W [ch] A4 c4 [97, 46, 98] 15 [] none 0 h.2.2.2.2.2.1 (by simpa using hl) hc (by simp) (by decide) (SX.nil _ _ _) (by simp) h.1.2).mono fun e w' ⟨h1, h2⟩ => ⟨by rw [h1, hj]; rfl, h.step h2⟩
theorem aw_judge5 (h : AwP w k1 k2 k5 n1 n2 A4 c4 c1 c2 ch rt W) (hj : judgeN [] [97, 46, 98] 15 [rt] = 3) :
    Calls Tryz.prog 33 #[.slice none 0 0, .string { data := #[97, 46, 98] }, .int .i64 15, .slice (some ⟨k5, 0, none⟩) 1 1] W fun e w' => e = .returned (.int .u8 3) ∧ AwP w k1 k2 k5 n1 n2 A4 c4 c1 c2 ch rt w' :=
  (@judge_any W [] none 0 [97, 46, 98] 15 [rt] (some ⟨k5, 0, none⟩) 1 (SX.nil _ _ _) (by simp) (Nat.le_refl _) (by simp) (by decide) h.2.2.2.2.2.2 (by simp) h.1.2).mono fun e w' ⟨h1, h2⟩ => ⟨by rw [h1, hj]; rfl, h.step h2⟩
end
theorem one_lit {w : World} (c : Ct) (names : List (List UInt8)) (hc : c = oneC kT rootT false names) (A : Option Addr) (hw : GA w) :
    Calls Tryz.prog 32 #[.string { data := #[107] }, .string { data := #[114, 111, 111, 116] }, .bool false, .slice A 1 1] w fun e w' => e = .returned (.agg #[sv c.key, sv c.sig, .slice A 1 1, .int .i64 c.fr, .int .i64 c.un, .bool c.ca]) ∧ Below w.heap.size w w' := by
  subst hc; exact one_any kT rootT false names A 1 1 (by decide) hw
theorem digest_lit {w : World} (rt : List UInt8) (hr : rt = digestL rootT) (hw : GA w) : Calls Tryz.prog 16 #[.string { data := #[114, 111, 111, 116] }] w fun e w' => e = .returned (sv rt) ∧ Below w.heap.size w w' := by
  subst hr; exact digest_any rootT (by decide) hw.lw
theorem short_star : shortC starC := ⟨by decide, by decide +kernel, by decide, by decide⟩
theorem short_com : shortC comC := ⟨by decide, by decide +kernel, by decide, by decide⟩
theorem short_ab : shortC abC := ⟨by decide, by decide +kernel, by decide, by decide⟩
theorem ab_len : (encL abC).length ≤ 512 := encL_le abC
set_option maxHeartbeats 8000000 in
theorem jawake_any {w : World} (hw : GA w) : Calls Tryz.prog 31 #[] w fun e w' => e = .returned (.bool true) ∧ Below w.heap.size w w' := by
  have HG0 := Lib.hid (Ga.start hw)
  obtain ⟨c1, hc1⟩ : ∃ c, c = starC := ⟨_, rfl⟩
  obtain ⟨c2, hc2⟩ : ∃ c, c = comC := ⟨_, rfl⟩
  obtain ⟨c3, hc3⟩ : ∃ c, c = abC := ⟨_, rfl⟩
  obtain ⟨ch, hch⟩ : ∃ ch, ch = encL abC := ⟨_, rfl⟩
  obtain ⟨rt, hrt⟩ : ∃ rt, rt = digestL rootT := ⟨_, rfl⟩
  have HO1 := Lib.hid (fun W A (h : GA W) => @one_lit W c1 [starT] hc1 A h)
  have HO2 := Lib.hid (fun W A (h : GA W) => @one_lit W c2 [comT] hc2 A h)
  have HO3 := Lib.hid (fun W A (h : GA W) => @one_lit W c3 [abT] hc3 A h)
  have HDG := Lib.hid (fun W (h : GA W) => @digest_lit W rt hrt h)
  have HN1 := Lib.hid (show c1.names = [starT] by rw [hc1]; rfl)
  have HN2 := Lib.hid (show c2.names = [comT] by rw [hc2]; rfl)
  have HN3 := Lib.hid (show c3.names = [abT] by rw [hc3]; rfl)
  have HSE := Lib.hid (fun W A nv (h : GA W) (hr : CR W A [c3] nv) => show Calls Tryz.prog 34 #[.slice A 1 1] W (fun e w' => ∃ A' c', e = .returned (.slice A' 1 c') ∧ TW W.heap.size w' (.slice A' 1 c') [ch] ∧ Below W.heap.size W w') by
    have := @sent_any W [c3] A 1 nv hr (fun k hk => by obtain rfl : k = 0 := by simp at hk; exact hk
                                                       rw [hc3]; exact short_ab) (by simp) h.gl
    rw [show [c3].map encL = [ch] by rw [hc3, hch]; rfl] at this
    exact this)
  have HH1 := Lib.hid (fun (k1 k2 k5 : Nat) (n1 n2 A4 : Option Addr) (c4 : Nat) (W : World) (h : AwP w k1 k2 k5 n1 n2 A4 c4 c1 c2 ch rt W) => aw_host1 h (by rw [hc1]; exact short_star) (by rw [hc1]; rfl) (by rw [hc1]; exact host1))
  have HH2 := Lib.hid (fun (k1 k2 k5 : Nat) (n1 n2 A4 : Option Addr) (c4 : Nat) (W : World) (h : AwP w k1 k2 k5 n1 n2 A4 c4 c1 c2 ch rt W) => aw_host2 h (by rw [hc1]; exact short_star) (by rw [hc1]; rfl) (by rw [hc1]; exact host2))
  have HH3 := Lib.hid (fun (k1 k2 k5 : Nat) (n1 n2 A4 : Option Addr) (c4 : Nat) (W : World) (h : AwP w k1 k2 k5 n1 n2 A4 c4 c1 c2 ch rt W) => aw_host3 h (by rw [hc1]; exact short_star) (by rw [hc1]; rfl) (by rw [hc1]; exact host3))
  have HH4 := Lib.hid (fun (k1 k2 k5 : Nat) (n1 n2 A4 : Option Addr) (c4 : Nat) (W : World) (h : AwP w k1 k2 k5 n1 n2 A4 c4 c1 c2 ch rt W) => aw_host4 h (by rw [hc2]; exact short_com) (by rw [hc2]; rfl) (by rw [hc2]; exact host4))
  have HJ1 := Lib.hid (fun (k1 k2 k5 : Nat) (n1 n2 A4 : Option Addr) (c4 : Nat) (hc : 1 ≤ c4) (W : World) (h : AwP w k1 k2 k5 n1 n2 A4 c4 c1 c2 ch rt W) => aw_judge1 h hc (by rw [hch]; have := ab_len; omega) (by rw [hch, hrt]; exact judge1))
  have HJ2 := Lib.hid (fun (k1 k2 k5 : Nat) (n1 n2 A4 : Option Addr) (c4 : Nat) (hc : 1 ≤ c4) (W : World) (h : AwP w k1 k2 k5 n1 n2 A4 c4 c1 c2 ch rt W) => aw_judge2 h hc (by rw [hch]; have := ab_len; omega) (by rw [hch, hrt]; exact judge2))
  have HJ3 := Lib.hid (fun (k1 k2 k5 : Nat) (n1 n2 A4 : Option Addr) (c4 : Nat) (hc : 1 ≤ c4) (W : World) (h : AwP w k1 k2 k5 n1 n2 A4 c4 c1 c2 ch rt W) => aw_judge3 h hc (by rw [hch]; have := ab_len; omega) (by rw [hch, hrt]; exact judge3))
  have HJ4 := Lib.hid (fun (k1 k2 k5 : Nat) (n1 n2 A4 : Option Addr) (c4 : Nat) (hc : 1 ≤ c4) (W : World) (h : AwP w k1 k2 k5 n1 n2 A4 c4 c1 c2 ch rt W) => aw_judge4 h hc (by rw [hch]; have := ab_len; omega) (by rw [hch]; exact judge4))
  have HJ5 := Lib.hid (fun (k1 k2 k5 : Nat) (n1 n2 A4 : Option Addr) (c4 : Nat) (W : World) (h : AwP w k1 k2 k5 n1 n2 A4 c4 c1 c2 ch rt W) => aw_judge5 h (by rw [hrt]; exact judge5))
  clear hw hc1 hc2 hc3 hch hrt
  go_enter Tryz.func31, Tryz.ntmps31
  go_wp2_with (first
    | (go_at_call 33; with_reducible refine (HJ5.out _ _ _ _ _ _ _ _ HP13.out).mono ?_; rintro e w14 ⟨rfl, hp⟩; have HP14 := Lib.hid hp; obtain ⟨⟨p0, p1, p2, p3, p4, p5⟩, q0, q1, q2, q3, q4, q5⟩ := hp.cells; clear hp)
    | (go_at_call 33; with_reducible refine (HJ4.out _ _ _ _ _ _ _ HCP.out _ HP12.out).mono ?_; rintro e w13 ⟨rfl, hp⟩; have HP13 := Lib.hid hp; obtain ⟨⟨p0, p1, p2, p3, p4, p5⟩, q0, q1, q2, q3, q4, q5⟩ := hp.cells; clear hp)
    | (go_at_call 33; with_reducible refine (HJ3.out _ _ _ _ _ _ _ HCP.out _ HP11.out).mono ?_; rintro e w12 ⟨rfl, hp⟩; have HP12 := Lib.hid hp; obtain ⟨⟨p0, p1, p2, p3, p4, p5⟩, q0, q1, q2, q3, q4, q5⟩ := hp.cells; clear hp)
    | (go_at_call 33; with_reducible refine (HJ2.out _ _ _ _ _ _ _ HCP.out _ HP10.out).mono ?_; rintro e w11 ⟨rfl, hp⟩; have HP11 := Lib.hid hp; obtain ⟨⟨p0, p1, p2, p3, p4, p5⟩, q0, q1, q2, q3, q4, q5⟩ := hp.cells; clear hp)
    | (go_at_call 33; with_reducible refine (HJ1.out _ _ _ _ _ _ _ HCP.out _ HP9.out).mono ?_; rintro e w10 ⟨rfl, hp⟩; have HP10 := Lib.hid hp; obtain ⟨⟨p0, p1, p2, p3, p4, p5⟩, q0, q1, q2, q3, q4, q5⟩ := hp.cells; clear hp)
    | (go_at_call 38; with_reducible refine (HH4.out _ _ _ _ _ _ _ _ HP8.out).mono ?_; rintro e w9 ⟨rfl, hp⟩; have HP9 := Lib.hid hp; obtain ⟨⟨p0, p1, p2, p3, p4, p5⟩, q0, q1, q2, q3, q4, q5⟩ := hp.cells; clear hp)
    | (go_at_call 38; with_reducible refine (HH3.out _ _ _ _ _ _ _ _ HP7.out).mono ?_; rintro e w8 ⟨rfl, hp⟩; have HP8 := Lib.hid hp; obtain ⟨⟨p0, p1, p2, p3, p4, p5⟩, q0, q1, q2, q3, q4, q5⟩ := hp.cells; clear hp)
    | (go_at_call 38; with_reducible refine (HH2.out _ _ _ _ _ _ _ _ HP6.out).mono ?_; rintro e w7 ⟨rfl, hp⟩; have HP7 := Lib.hid hp; obtain ⟨⟨p0, p1, p2, p3, p4, p5⟩, q0, q1, q2, q3, q4, q5⟩ := hp.cells; clear hp)
    | (go_at_call 38; with_reducible refine (HH1.out _ _ _ _ _ _ _ _ HP5.out).mono ?_; rintro e w6 ⟨rfl, hp⟩; have HP6 := Lib.hid hp; obtain ⟨⟨p0, p1, p2, p3, p4, p5⟩, q0, q1, q2, q3, q4, q5⟩ := hp.cells; clear hp)
    | (go_at_call 16; refine (HDG.out _ HG4.out.2).mono ?_; rintro e w5 ⟨rfl, hb⟩; have hp : AwP w w1.heap.size w2.heap.size w5.heap.size (some ⟨w.heap.size, 0, none⟩) (some ⟨w1.heap.size + 1, 0, none⟩) A4 c4 c1 c2 ch rt (w5.alloc (.cells #[sv rt] 9)) := (by refine ⟨(HG4.out.step hb).alloc _, (HB14.out.step hb).step (below_alloc _ _), (by rw [HN1.out]; exact (HS14.out.step hb).step (below_alloc _ _)), (HB24.out.step hb).step (below_alloc _ _), (by rw [HN2.out]; exact (HS24.out.step hb).step (below_alloc _ _)), (HCH4.out.step hb).step (below_alloc _ _), sx_one w5 _ rt rfl⟩); have HP5 := Lib.hid hp; obtain ⟨⟨p0, p1, p2, p3, p4, p5⟩, q0, q1, q2, q3, q4, q5⟩ := hp.cells; clear hp hb)
    | (go_at_call 34; refine (HSE.out _ _ _ (HG3.out.alloc _).2 (cr_one w3 _ c3 (.slice (some ⟨w2.heap.size + 1, 0, none⟩) 1 1) rfl (by rw [HN3.out]; exact HS3.out))).mono ?_; rintro e w4 ⟨A4, c4, rfl, htw, hb⟩; have HCP := Lib.hid (show 1 ≤ c4 by obtain ⟨A', c', e1, h1⟩ := htw.cap; cases e1; exact h1); have HCH4 := Lib.hid htw.sx; have HG4 := Lib.hid (HG3.out.step (below1 hb)); have HB14 := Lib.hid (HB13.out.step (below1 hb)); have HS14 := Lib.hid (HS13.out.step (below1 hb)); have HB24 := Lib.hid (HB23.out.step (below1 hb)); have HS24 := Lib.hid (HS23.out.step (below1 hb)); clear htw hb)
    | (go_at_call 32; refine (HO3.out _ _ ((HG2.out.alloc _).alloc _).2).mono ?_; rintro e w3 ⟨rfl, hb⟩; have HG3 := Lib.hid (HG2.out.step (below2 hb)); have HB13 := Lib.hid (HB12.out.step (below2 hb)); have HS13 := Lib.hid (HS12.out.step (below2 hb)); have HS23 := Lib.hid (HS22.out.step (below2 hb)); have HB23 := Lib.hid ((CB.new w2 c2 (.slice (some ⟨w1.heap.size + 1, 0, none⟩) 1 1)).step (below1 hb)); have HS3 := Lib.hid ((sx_one (w2.alloc (cellsC c2 (.slice (some ⟨w1.heap.size + 1, 0, none⟩) 1 1))) _ abT (World.size_alloc _ _).symm).step hb); clear hb)
    | (go_at_call 32; refine (HO2.out _ _ ((HG1.out.alloc _).alloc _).2).mono ?_; rintro e w2 ⟨rfl, hb⟩; have HG2 := Lib.hid (HG1.out.step (below2 hb)); have HS12 := Lib.hid (HS1.out.step (below2 hb)); have HB12 := Lib.hid ((CB.new w1 c1 (.slice (some ⟨w.heap.size, 0, none⟩) 1 1)).step (below1 hb)); have HS22 := Lib.hid ((sx_one (w1.alloc (cellsC c1 (.slice (some ⟨w.heap.size, 0, none⟩) 1 1))) _ comT (World.size_alloc _ _).symm).step hb); clear hb)
    | (go_at_call 32; refine (HO1.out _ _ (HG0.out.alloc _).2).mono ?_; rintro e w1 ⟨rfl, hb⟩; have HG1 := Lib.hid (HG0.out.step (below1 hb)); have HS1 := Lib.hid ((sx_one w _ starT rfl).step hb); clear hb))
  go_ret
  exact ⟨rfl, HP14.out.1.1⟩
end Go.Proofs.YtnaoandleelbkaaGreatDoor

namespace Go.Proofs.YtnaoandleelbkaaGreatDoor
set_option linter.unusedSimpArgs false
set_option linter.unusedVariables false
open Go Go.RowKit Go.WideShapes Go.ChangeShapes Go.ChangeAt
set_option maxRecDepth 100000

/-- A certificate that came in: nothing is too long. -/
def inC (c : Ct) : Prop := c.key.length ≤ 9223372036854775807 ∧ c.sig.length ≤ 9223372036854775807 ∧ c.names.length ≤ 9223372036854775807 ∧ ∀ n ∈ c.names, n.length ≤ 9223372036854775807
theorem cells_cert : Tryz.prog.cellsOf 27 = 6 := by kernel_rfl
theorem cells_text : Tryz.prog.cellsOf 9 = 1 := by kernel_rfl
theorem cells_flag : Tryz.prog.cellsOf 4 = 1 := by kernel_rfl
theorem cells_num : Tryz.prog.cellsOf 3 = 1 := by kernel_rfl
theorem cells_texts : Tryz.prog.cellsOf 25 = 1 := by kernel_rfl

section
variable {H : Type} {enc : TypeId × Value → H} {W : World}
theorem text_opened {n : Nat} {v : Value} {y : DataW H × List MemPlace} (h : DataW.trod enc Tryz.prog W 0 (fun _ => true) true n 9 [v] = some y) : ∃ s : List UInt8, v = sv s ∧ s.length ≤ 9223372036854775807 := by
  obtain ⟨s, e, _, hl⟩ := DataW.trod_string Tryz.underlying9 h
  obtain ⟨l, rfl, hl'⟩ := to_str s
  simp only [List.cons.injEq, and_true] at e
  refine ⟨l, e, ?_⟩
  unfold maxLen at hl
  omega
theorem flag_opened {n : Nat} {v : Value} {y : DataW H × List MemPlace} (h : DataW.trod enc Tryz.prog W 0 (fun _ => true) true n 4 [v] = some y) : ∃ b : Bool, v = .bool b := by
  obtain ⟨b, e, _⟩ := DataW.trod_bool Tryz.underlying4 h
  simp only [List.cons.injEq, and_true] at e
  exact ⟨b, e⟩
theorem num_opened {n : Nat} {v : Value} {y : DataW H × List MemPlace} (h : DataW.trod enc Tryz.prog W 0 (fun _ => true) true n 3 [v] = some y) : ∃ a : Int, v = .int .i64 a ∧ -9223372036854775808 ≤ a ∧ a ≤ 9223372036854775807 := by
  obtain ⟨a, e, _, hw⟩ := DataW.trod_int Tryz.underlying3 h
  simp only [List.cons.injEq, and_true] at e
  refine ⟨a, e, ?_⟩
  simp only [Lit.wf, IntKind.min, IntKind.max, IntKind.signed, IntKind.bits, Bool.and_eq_true, decide_eq_true_eq, if_true] at hw
  omega
theorem texts_opened {n : Nat} {v : Value} {y : DataW H × List MemPlace} (h : DataW.trod enc Tryz.prog W 0 (fun _ => true) true n 25 [v] = some y) :
    ∃ (A : Option Addr) (c : Nat) (rs : List (List UInt8)), v = .slice A rs.length c ∧ SX W (.slice A rs.length c) rs ∧ rs.length ≤ 9223372036854775807 ∧ (∀ r ∈ rs, r.length ≤ 9223372036854775807) ∧ rs.length ≤ c := by
  rcases Go.Deep.open_slice Tryz.underlying25 h with ⟨hcs, _⟩ | ⟨a, len, cap, m, n', D, Pl, hcs, _, hl, hm, hmm, _, hi⟩
  · simp only [List.cons.injEq, and_true] at hcs
    exact ⟨none, 0, [], hcs, SX.nil _ _ _, Nat.zero_le _, (fun r hr => by cases hr), Nat.zero_le _⟩
  · simp only [List.cons.injEq, and_true] at hcs
    subst hcs
    have hmc : m = cap := by simpa using hmm
    have hr : ∀ i, ∃ r : List UInt8, i < len → W.cell? (a.add i) = some (sv r) ∧ r.length ≤ 9223372036854775807 := by
      intro i
      by_cases hlt : i < len
      · obtain ⟨cs', hc, ht⟩ := hi i (by omega)
        rw [cells_text] at hc
        obtain ⟨_, hcl, hat⟩ := World.cells?_some hc
        match cs', hcl with
        | [c0], _ =>
          obtain ⟨r, e0, hlr⟩ := text_opened ht
          have h0 := hat 0 (by omega)
          rw [Go.Deep.add_add] at h0
          subst e0
          exact ⟨r, fun _ => ⟨by simpa using h0, hlr⟩⟩
      · exact ⟨[], fun h => absurd h hlt⟩
    obtain ⟨R, hR⟩ := Classical.axiomOfChoice hr
    have hle : ((List.range len).map R).length = len := by simp
    refine ⟨some a, cap, (List.range len).map R, by rw [hle], ?_, by rw [hle]; unfold maxLen at hm; omega, ?_, by rw [hle]; exact hl⟩
    · refine ⟨some a, cap, rfl, fun hp => ?_⟩
      rw [hle] at hp
      obtain ⟨b, off, spot⟩ := a
      have hspot : spot = none := by simpa [Addr.add] using World.cell?_spot (hR 0 hp).1
      subst hspot
      refine ⟨b, off, rfl, block_lt_of_cell (a := ⟨b, off, none⟩) (by simpa [Addr.add] using (hR 0 hp).1), fun j hj => ?_⟩
      rw [hle] at hj
      have e : ((List.range len).map R).getD j [] = R j := by
        rw [List.getD_eq_getElem?_getD, List.getElem?_map, List.getElem?_range hj]; rfl
      obtain ⟨h0, _⟩ := hR j hj
      rw [add_plain] at h0
      rw [e]
      exact h0
    · intro r hr
      obtain ⟨i, hi2, rfl⟩ := List.mem_map.1 hr
      exact (hR i (List.mem_range.1 hi2)).2
theorem cert_cells {n : Nat} {cs : List Value} {y : DataW H × List MemPlace} (hl6 : cs.length = 6) (hf : DataW.trod enc Tryz.prog W 0 (fun _ => true) true n 27 cs = some y) :
    ∃ (c : Ct) (A : Option Addr) (cp : Nat), cs = [sv c.key, sv c.sig, .slice A c.names.length cp, .int .i64 c.fr, .int .i64 c.un, .bool c.ca] ∧ SX W (.slice A c.names.length cp) c.names ∧ inC c := by
  match cs, hl6 with
  | [c0, c1, c2, c3, c4, c5], _ =>
    obtain ⟨xs, n, _, _, _, hxl, hg⟩ := DataW.trod_struct Tryz.underlying27 hf
    match xs, hxl with
    | [y0, y1, y2, y3, y4, y5], _ =>
      have g0 : DataW.trod enc Tryz.prog W 0 (fun _ => true) true n 9 ((([c0, c1, c2, c3, c4, c5] : List Value).drop 0).take (Tryz.prog.cellsOf 9)) = [y0, y1, y2, y3, y4, y5][0]? := hg 0 _ rfl
      have g1 : DataW.trod enc Tryz.prog W 0 (fun _ => true) true n 9 ((([c0, c1, c2, c3, c4, c5] : List Value).drop 1).take (Tryz.prog.cellsOf 9)) = [y0, y1, y2, y3, y4, y5][1]? := hg 1 _ rfl
      have g2 : DataW.trod enc Tryz.prog W 0 (fun _ => true) true n 25 ((([c0, c1, c2, c3, c4, c5] : List Value).drop 2).take (Tryz.prog.cellsOf 25)) = [y0, y1, y2, y3, y4, y5][2]? := hg 2 _ rfl
      have g3 : DataW.trod enc Tryz.prog W 0 (fun _ => true) true n 3 ((([c0, c1, c2, c3, c4, c5] : List Value).drop 3).take (Tryz.prog.cellsOf 3)) = [y0, y1, y2, y3, y4, y5][3]? := hg 3 _ rfl
      have g4 : DataW.trod enc Tryz.prog W 0 (fun _ => true) true n 3 ((([c0, c1, c2, c3, c4, c5] : List Value).drop 4).take (Tryz.prog.cellsOf 3)) = [y0, y1, y2, y3, y4, y5][4]? := hg 4 _ rfl
      have g5 : DataW.trod enc Tryz.prog W 0 (fun _ => true) true n 4 ((([c0, c1, c2, c3, c4, c5] : List Value).drop 5).take (Tryz.prog.cellsOf 4)) = [y0, y1, y2, y3, y4, y5][5]? := hg 5 _ rfl
      rw [cells_text] at g0 g1
      rw [cells_texts] at g2
      rw [cells_num] at g3 g4
      rw [cells_flag] at g5
      obtain ⟨key, rfl, hk⟩ := text_opened (y := y0) (by simpa [Value.cells] using g0)
      obtain ⟨sig, rfl, hs⟩ := text_opened (y := y1) (by simpa [Value.cells] using g1)
      obtain ⟨A, cp, ns, rfl, hx, hl, hn, _⟩ := texts_opened (y := y2) (by simpa [Value.cells] using g2)
      obtain ⟨fr, rfl, _⟩ := num_opened (y := y3) (by simpa [Value.cells] using g3)
      obtain ⟨un, rfl, _⟩ := num_opened (y := y4) (by simpa [Value.cells] using g4)
      obtain ⟨ca, rfl⟩ := flag_opened (y := y5) (by simpa [Value.cells] using g5)
      exact ⟨⟨key, sig, ns, fr, un, ca⟩, A, cp, rfl, hx, hk, hs, hl, hn⟩
theorem cert_opened {b0 : Nat} {v : Value} {d : DataW H} {p : List MemPlace} (hv : Value.okWide Tryz.prog W .any b0 27 v) (h : DataW.Trod enc Tryz.prog W 0 (fun _ => true) true 27 v d p) :
    ∃ (c : Ct) (A : Option Addr) (cp : Nat), v = certV c (.slice A c.names.length cp) ∧ SX W (.slice A c.names.length cp) c.names ∧ inC c := by
  obtain ⟨cs, rfl, hsz⟩ := okWide_struct Tryz.underlying27 hv
  rw [cells_cert] at hsz
  obtain ⟨fuel, hf⟩ := h
  obtain ⟨l⟩ := cs
  obtain ⟨c, A, cp, e, h1, h2⟩ := cert_cells (cs := l) (show l.length = 6 by simpa using hsz) hf
  have e' : l = _ := e
  subst e'
  exact ⟨c, A, cp, rfl, h1, h2⟩
/-- Texts that came in. -/
structure TI (W : World) (A : Option Addr) (xs : List (List UInt8)) (c : Nat) : Prop where
  sx : SX W (.slice A xs.length c) xs
  len : xs.length ≤ 9223372036854775807
  each : ∀ x ∈ xs, x.length ≤ 9223372036854775807
  cap : xs.length ≤ c
theorem texts_arg {b0 : Nat} {v : Value} {d : DataW H} {p : List MemPlace} (hv : Value.okWide Tryz.prog W .any b0 25 v) (h : DataW.Trod enc Tryz.prog W 0 (fun _ => true) true 25 v d p) :
    ∃ (xs : List (List UInt8)) (A : Option Addr) (c : Nat), v = .slice A xs.length c ∧ TI W A xs c := by
  obtain ⟨A, n, c, rfl⟩ := okWide_slice Tryz.underlying25 hv
  obtain ⟨fuel, hf⟩ := h
  obtain ⟨A', c', rs, e, h1, h2, h3, h4⟩ := texts_opened (by simpa [Value.cells] using hf)
  simp only [Value.slice.injEq] at e
  obtain ⟨rfl, rfl, rfl⟩ := e
  exact ⟨rs, A, c, rfl, h1, h2, h3, h4⟩
/-- Certificates that came in. -/
structure CI (W : World) (A : Option Addr) (l : List Ct) (cp : Nat) (nv : Nat → Value) : Prop where
  cr : CR W A l nv
  len : l.length ≤ 9223372036854775807
  each : ∀ k, k < l.length → inC (ctAt l k)
  cap : l.length ≤ cp
theorem certs_arg {b0 : Nat} {v : Value} {d : DataW H} {p : List MemPlace} (hv : Value.okWide Tryz.prog W .any b0 29 v) (h : DataW.Trod enc Tryz.prog W 0 (fun _ => true) true 29 v d p) :
    ∃ (l : List Ct) (A : Option Addr) (cp : Nat) (nv : Nat → Value), v = .slice A l.length cp ∧ CI W A l cp nv := by
  obtain ⟨A, n, c, rfl⟩ := okWide_slice Tryz.underlying29 hv
  obtain ⟨fuel, hf⟩ := h
  rcases Go.Deep.open_slice Tryz.underlying29 (show DataW.trod enc Tryz.prog W 0 (fun _ => true) true fuel 29 [.slice A n c] = some (d, p) by simpa [Value.cells] using hf) with ⟨hcs, _⟩ | ⟨a, len, cap, m, n', D, Pl, hcs, _, hl, hm, hmm, _, hi⟩
  · simp only [List.cons.injEq, and_true, Value.slice.injEq] at hcs
    obtain ⟨rfl, rfl, rfl⟩ := hcs
    exact ⟨[], none, 0, fun _ => .slice none 0 0, rfl, CR.nil _ _ _, Nat.zero_le _, (fun k hk => by cases hk), Nat.zero_le _⟩
  · simp only [List.cons.injEq, and_true, Value.slice.injEq] at hcs
    obtain ⟨rfl, rfl, rfl⟩ := hcs
    have hmc : m = c := by simpa using hmm
    have hr : ∀ i, ∃ r : Ct × (Option Addr × Nat), i < n → (∀ k, k < 6 → W.cell? (a.add (i * 6 + k)) = ([sv r.1.key, sv r.1.sig, .slice r.2.1 r.1.names.length r.2.2, .int .i64 r.1.fr, .int .i64 r.1.un, .bool r.1.ca] : List Value)[k]?) ∧ SX W (.slice r.2.1 r.1.names.length r.2.2) r.1.names ∧ inC r.1 := by
      intro i
      by_cases hlt : i < n
      · obtain ⟨cs', hc, ht⟩ := hi i (by omega)
        rw [cells_cert] at hc
        obtain ⟨_, hcl, hat⟩ := World.cells?_some hc
        obtain ⟨ct, A1, c1, rfl, h1, h2⟩ := cert_cells hcl ht
        refine ⟨(ct, (A1, c1)), fun _ => ⟨fun k hk => ?_, h1, h2⟩⟩
        have h0 := hat k hk
        rw [Go.Deep.add_add] at h0
        exact h0
      · exact ⟨(ct0, (none, 0)), fun h => absurd h hlt⟩
    obtain ⟨R, hR⟩ := Classical.axiomOfChoice hr
    have hle : ((List.range n).map fun i => (R i).1).length = n := by simp
    refine ⟨(List.range n).map fun i => (R i).1, some a, c, fun i => .slice (R i).2.1 (R i).1.names.length (R i).2.2, by rw [hle], ?_, by rw [hle]; unfold maxLen at hm; omega, ?_, by rw [hle]; exact hl⟩
    · intro hp
      rw [hle] at hp
      obtain ⟨b, off, spot⟩ := a
      have hspot : spot = none := by simpa [Addr.add] using World.cell?_spot ((hR 0 hp).1 0 (by omega))
      subst hspot
      have hb := block_lt_of_cell (a := ⟨b, off, none⟩) (by simpa [Addr.add] using (hR 0 hp).1 0 (by omega))
      refine ⟨b, off, rfl, hb, fun j hj => ?_⟩
      rw [hle] at hj
      have e : ctAt ((List.range n).map fun i => (R i).1) j = (R j).1 := by
        unfold ctAt
        rw [List.getD_eq_getElem?_getD, List.getElem?_map, List.getElem?_range hj]; rfl
      rw [e]
      obtain ⟨h1, h2, _⟩ := hR j hj
      have g := fun k hk => by have := h1 k hk; rw [add_plain] at this; exact this
      refine ⟨⟨?_, ?_, ?_, ?_, ?_, ?_⟩, h2⟩
      · have := g 0 (by omega); simpa [Nat.add_assoc] using this
      · have := g 1 (by omega); simpa [Nat.add_assoc] using this
      · have := g 2 (by omega); simpa [Nat.add_assoc] using this
      · have := g 3 (by omega); simpa [Nat.add_assoc] using this
      · have := g 4 (by omega); simpa [Nat.add_assoc] using this
      · have := g 5 (by omega); simpa [Nat.add_assoc] using this
    · intro k hk
      rw [hle] at hk
      have e : ctAt ((List.range n).map fun i => (R i).1) k = (R k).1 := by
        unfold ctAt
        rw [List.getD_eq_getElem?_getD, List.getElem?_map, List.getElem?_range hk]; rfl
      rw [e]
      exact (hR k hk).2.2
end
end Go.Proofs.YtnaoandleelbkaaGreatDoor

namespace Go.Proofs.YtnaoandleelbkaaGreatDoor
set_option linter.unusedSimpArgs false
set_option linter.unusedVariables false
open Go Go.RowKit
set_option maxRecDepth 100000

/-- What stays behind new memory, where the laid variables are as they are. -/
structure Ca (P : World → Prop) : Prop where
  step : ∀ {W W' : World}, P W → Below W.heap.size W W' → P W'
  ga : ∀ {W : World}, P W → GA W
theorem Ca.mk0 {w : World} : Ca (Ga w) := ⟨fun h hb => h.step hb, fun h => h.2⟩
theorem Ca.and {P : World → Prop} (h : Ca P) {Q : World → Prop} (hQ : ∀ {W W' : World}, Q W → Below W.heap.size W W' → Q W') : Ca (fun W => P W ∧ Q W) := ⟨fun h1 hb => ⟨h.step h1.1 hb, hQ h1.2 hb⟩, fun h1 => h.ga h1.1⟩
theorem Ca.alloc {P : World → Prop} (h : Ca P) {W : World} (h1 : P W) (o : Obj) : P (W.alloc o) := h.step h1 (below_alloc _ _)

theorem few5.short {xs : List (List UInt8)} (h : few5 xs) : xs.length ≤ 1200 ∧ (∀ x ∈ xs, x.length ≤ 1000000) := ⟨h.1, fun x hx => Nat.le_trans (h.2 x hx) (by decide)⟩
section
variable {P : World → Prop} {W : World} (hP : Ca P) (h : P W)
include hP h
theorem jawake_p : Calls Tryz.prog 31 #[] W fun e w' => e = .returned (.bool true) ∧ P w' := (jawake_any (hP.ga h)).mono fun e w' ⟨h1, h2⟩ => ⟨h1, hP.step h h2⟩
omit hP in
theorem jlong_p {A : Option Addr} {xs : List (List UInt8)} {c : Nat} (hx : SX W (.slice A xs.length c) xs) (hl : xs.length ≤ 9223372036854775807) (hn : ∀ n ∈ xs, n.length ≤ 9223372036854775807) :
    Calls Tryz.prog 40 #[.slice A xs.length c] W fun e w' => ((e = .returned (.bool false) ∧ few5 xs) ∨ e = .returned (.bool true)) ∧ P w' := (jlong_any xs A c hx hl hn).mono fun e w' ⟨h1, h2⟩ => ⟨h1, h2 ▸ h⟩
theorem judge_p {chain : List (List UInt8)} {A : Option Addr} {cp : Nat} {host : List UInt8} (now : Int) {an : List (List UInt8)} {B : Option Addr} {bc : Nat} (hx : SX W (.slice A chain.length cp) chain) (hl : few5 chain) (hcp : chain.length ≤ cp) (hh : host.length ≤ 3000)
    (ha : SX W (.slice B an.length bc) an) (hal : an.length ≤ 1000000) :
    Calls Tryz.prog 33 #[.slice A chain.length cp, sv host, .int .i64 now, .slice B an.length bc] W fun e w' => e = .returned (.int .u8 (judgeN chain host now an : Nat)) ∧ P w' :=
  (judge_any chain A cp host now an B bc hx (fun s hs => by have := hl.2 s hs; omega) hcp (by have := hl.1; omega) (by omega) ha (by omega) (hP.ga h)).mono fun e w' ⟨h1, h2⟩ => ⟨h1, hP.step h h2⟩
end
end Go.Proofs.YtnaoandleelbkaaGreatDoor

namespace Go.Proofs.YtnaoandleelbkaaGreatDoor
set_option linter.unusedSimpArgs false
set_option linter.unusedVariables false
open Go Go.RowKit
set_option maxRecDepth 100000

theorem few5.len {xs : List (List UInt8)} (h : few5 xs) : xs.length ≤ 1200 := h.1
theorem owns_emptyG {W : World} {base g : Nat} (hg : W.heap[g]? = some (.cells #[] 9 (0, 0))) (hb : base ≤ g) : TW base W (.slice (some ⟨g, 0, none⟩) 0 0) [] :=
  ⟨by simp, .inr ⟨g, 0, #[], rfl, hb, hg, Nat.le_refl _, by decide, rfl, by simp⟩⟩
/-- An append of a row, none too. -/
theorem tw_row {base : Nat} {W : World} {v : Value} {xs ys : List (List UInt8)} {A : Option Addr} {c : Nat} (h : TW base W v xs) (hx : SX W (.slice A ys.length c) ys) (hb : base ≤ W.heap.size) (hl : ys.length ≤ 1000000) (hl2 : xs.length ≤ 1000000) :
    ∃ A' cap w2, (Builtin.append_ #[25, 25] 25 #[v, .slice A ys.length c]).run Tryz.prog W = .ok (.slice A' (xs.length + ys.length) cap) w2 ∧
      TW base w2 (.slice A' (xs.length + ys.length) cap) (xs ++ ys) ∧ W.grownBy w2 v.ownBlock := by
  obtain ⟨i, hi, hz0, hz1, hz2⟩ := info_parts info_text
  rcases Nat.eq_zero_or_pos ys.length with h0 | hp
  · obtain rfl : ys = [] := List.length_eq_zero_iff.1 h0
    obtain ⟨A', c', rfl, hcap⟩ := h.cap
    have hcap2 : ¬ c' < xs.length := by omega
    refine ⟨A', c', W, ?_, by rw [List.append_nil]; exact h, ⟨rfl, rfl, rfl, Nat.le_refl _, fun _ _ _ => rfl⟩⟩
    cases A <;> cases A' <;> simp [Builtin.append_, run_underlying Tryz.underlying25, sizeOf, typeInfo, hi, Builtin.lenOf, Builtin.firstCells, storeCells, loadCells, loadCellsFrom, hcap2]
  · obtain ⟨A', c', e, h2⟩ := hx
    simp only [Value.slice.injEq] at e
    obtain ⟨rfl, _, rfl⟩ := e
    obtain ⟨g, off, rfl, hg, hc⟩ := h2 hp
    obtain ⟨g', cap', W', h1, h2, h3, _, _⟩ := run_append_lies (P := Tryz.prog) W 25 25 base 9 i _ 1 16 Tryz.underlying25 hi hz0 hz1 hz2 rfl (by decide) v xs.length (xs.map sv) h ⟨g, off, none⟩ ys.length c (ys.map sv) (by simp) (fun j u hu => by
        have hj : j < ys.length := by
          rcases Nat.lt_or_ge j ys.length with h | h
          · exact h
          · rw [List.getElem?_eq_none (by simpa using h)] at hu; cases hu
        have hadd : (⟨g, off, none⟩ : Addr).add j = ⟨g, off + j, none⟩ := by unfold Addr.add; split <;> simp_all
        rw [hadd, hc j hj, ← hu, List.getElem?_map, List.getElem?_eq_getElem hj, List.getD_eq_getElem?_getD, List.getElem?_eq_getElem hj]; try rfl)
      texts_one hp (by unfold maxLen; omega) (by omega) (by omega) _ rfl
    refine ⟨some ⟨g', 0, none⟩, cap', W', h1, ?_, h3⟩
    unfold TW
    rw [List.length_append, List.map_append]
    exact h2
theorem CR.cells {W : World} {g off n c1 : Nat} {a1 : Option Addr} {l : List Ct} {nv : Nat → Value} (h : CR W (some ⟨g, off, none⟩) l nv) (hp : 0 < l.length) (e : nv 0 = .slice a1 n c1) :
    (W.cell? ⟨g, off, none⟩ = some (sv (ctAt l 0).key) ∧ W.cell? ⟨g, off + 1, none⟩ = some (sv (ctAt l 0).sig) ∧ W.cell? ⟨g, off + 2, none⟩ = some (.slice a1 n c1) ∧ W.cell? ⟨g, off + 3, none⟩ = some (.int .i64 (ctAt l 0).fr) ∧ W.cell? ⟨g, off + 4, none⟩ = some (.int .i64 (ctAt l 0).un) ∧ W.cell? ⟨g, off + 5, none⟩ = some (.bool (ctAt l 0).ca)) ∧ SX W (.slice a1 n c1) (ctAt l 0).names := by
  obtain ⟨g', off', e', _, hc⟩ := h hp
  simp only [Option.some.injEq, Addr.mk.injEq] at e'
  obtain ⟨rfl, rfl, _⟩ := e'
  obtain ⟨hcc, hsx⟩ := hc 0 hp
  rw [e] at hcc hsx
  rw [show off + 0 * 6 = off by omega] at hcc
  exact ⟨⟨hcc.c0, hcc.c1, hcc.c2, hcc.c3, hcc.c4, hcc.c5⟩, hsx⟩
section
variable {P : World → Prop} {W : World} (hP : Ca P) (h : P W)
include hP h
theorem read_p {chain : List (List UInt8)} {A : Option Addr} {cp : Nat} (hx : SX W (.slice A chain.length cp) chain) (hl : few5 chain) (hcp : chain.length ≤ cp) :
    Calls Tryz.prog 35 #[.slice A chain.length cp] W fun e w' => ∃ A0 c0 nv, e = .returned (.slice A0 (chainT chain).length c0) ∧ (chainT chain).length ≤ c0 ∧ P w' ∧ CR w' A0 (chainT chain) nv :=
  (tread_any chain A cp hx (fun s hs => by have := hl.2 s hs; omega) hcp (by have := hl.1; omega) (hP.ga h).gl).mono fun e w' ⟨v, ps, h1, h2, h3, h4, h5⟩ => by
    obtain ⟨A0, c0, rfl, hc, hcr⟩ := h3.cr h4
    have hl : ps.length = (chainT chain).length := by rw [← h2, List.length_map]
    rw [h2] at hcr
    exact ⟨A0, c0, _, by rw [h1, hl], by rw [← hl]; exact hc, hP.step h h5, hcr⟩
theorem dates_p (c : Ct) (a : Option Addr) (n cc : Nat) (now : Int) :
    Calls Tryz.prog 39 #[.agg #[sv c.key, sv c.sig, .slice a n cc, .int .i64 c.fr, .int .i64 c.un, .bool c.ca], .int .i64 now] W fun e w' => e = .returned (.bool (dateB c now)) ∧ P w' :=
  (dates_any c a n cc now).mono fun e w' ⟨h1, h2⟩ => ⟨h1, hP.step h h2⟩
theorem host_p (c : Ct) (a : Option Addr) (cc : Nat) (host : List UInt8) (hx : SX W (.slice a c.names.length cc) c.names) (hs : shortC c) (hh : host.length ≤ 3000) :
    Calls Tryz.prog 38 #[.agg #[sv c.key, sv c.sig, .slice a c.names.length cc, .int .i64 c.fr, .int .i64 c.un, .bool c.ca], sv host] W fun e w' => e = .returned (.bool (hostB c host)) ∧ P w' :=
  (host_any c a cc host hx hs (by omega) (hP.ga h).ml).mono fun e w' ⟨h1, h2⟩ => ⟨h1, hP.step h h2⟩
theorem anch_p {l : List Ct} {A : Option Addr} {cp : Nat} {nv : Nat → Value} (now : Int) {an : List (List UInt8)} {B : Option Addr} {bc : Nat} (hr : CR W A l nv) (hs : shortR l) (hcp : l.length ≤ cp) (ha : SX W (.slice B an.length bc) an) (hal : an.length ≤ 1000000) :
    Calls Tryz.prog 37 #[.slice A l.length cp, .int .i64 now, .slice B an.length bc] W fun e w' => e = .returned (.bool (anchB l now an)) ∧ P w' :=
  (anch_any l A cp nv now an B bc hr hs hcp ha (by omega) (hP.ga h)).mono fun e w' ⟨h1, h2⟩ => ⟨h1, hP.step h h2⟩
end
section
variable {P : World → Prop} {W : World} (hP : Ca P) (h : P W)
include hP h
theorem judge_more {chain : List (List UInt8)} {A : Option Addr} {cp : Nat} {host : List UInt8} (now : Int) {an more : List (List UInt8)} {B : Option Addr} {bc : Nat} (hx : SX W (.slice A chain.length cp) chain) (hl : few5 chain) (hcp : chain.length ≤ cp) (hh : host.length ≤ 3000)
    (ha : SX W (.slice B (more.length + an.length) bc) (more ++ an)) (h1 : more.length ≤ 1200) (h2 : an.length ≤ 1200) (hj : judgeN chain host now (more ++ an) = 0) :
    Calls Tryz.prog 33 #[.slice A chain.length cp, sv host, .int .i64 now, .slice B (more.length + an.length) bc] W fun e w' => e = .returned (.int .u8 0) ∧ P w' := by
  have := judge_p hP h (an := more ++ an) (B := B) (bc := bc) now hx hl hcp hh (by rw [List.length_append]; exact ha) (by rw [List.length_append]; omega)
  rw [hj, List.length_append] at this
  exact this
theorem judge_behind {chain behind : List (List UInt8)} {A : Option Addr} {cp : Nat} {host : List UInt8} (now : Int) {an : List (List UInt8)} {B : Option Addr} {bc : Nat} (hx : SX W (.slice A (chain.length + behind.length) cp) (chain ++ behind)) (hl : few5 chain) (hl2 : few5 behind) (hcp : chain.length + behind.length ≤ cp) (hh : host.length ≤ 3000)
    (ha : SX W (.slice B an.length bc) an) (h2 : an.length ≤ 1200) (hj : judgeN (chain ++ behind) host now an = 0) :
    Calls Tryz.prog 33 #[.slice A (chain.length + behind.length) cp, sv host, .int .i64 now, .slice B an.length bc] W fun e w' => e = .returned (.int .u8 0) ∧ P w' := by
  have := judge_any (chain ++ behind) A cp host now an B bc (by rw [List.length_append]; exact hx) (fun s hs => by
    rcases List.mem_append.1 hs with h | h
    · have := hl.2 s h; omega
    · have := hl2.2 s h; omega) (by rw [List.length_append]; exact hcp) (by rw [List.length_append]; have := hl.1; have := hl2.1; omega) (by omega) ha (by omega) (hP.ga h)
  rw [hj, List.length_append] at this
  exact this.mono fun e w' ⟨h1, h2⟩ => ⟨h1, hP.step h h2⟩
theorem anch_more {l : List Ct} {A : Option Addr} {cp : Nat} {nv : Nat → Value} (now : Int) {an more : List (List UInt8)} {B : Option Addr} {bc : Nat} (hr : CR W A l nv) (hs : shortR l) (hcp : l.length ≤ cp) (ha : SX W (.slice B (more.length + an.length) bc) (more ++ an)) (h1 : more.length ≤ 1200) (h2 : an.length ≤ 1200) (hj : anchB l now (more ++ an) = true) :
    Calls Tryz.prog 37 #[.slice A l.length cp, .int .i64 now, .slice B (more.length + an.length) bc] W fun e w' => e = .returned (.bool true) ∧ P w' := by
  have := anch_p hP h (an := more ++ an) (B := B) (bc := bc) now hr hs hcp (by rw [List.length_append]; exact ha) (by rw [List.length_append]; omega)
  rw [hj, List.length_append] at this
  exact this
end
/-- Two rows, put one behind the other into a new one. -/
theorem app_two {P : World → Prop} (hP : Ca P) {W : World} (h : P W) {xs ys : List (List UInt8)} {A B : Option Addr} {c d : Nat} (hx : SX W (.slice A xs.length c) xs) (hy : SX W (.slice B ys.length d) ys) (hxl : xs.length ≤ 1200) (hyl : ys.length ≤ 1200) :
    ∃ A1 c1 w1 A2 c2 w2,
      (Builtin.append_ #[25, 25] 25 #[.slice (some ⟨W.heap.size, 0, none⟩) 0 0, .slice A xs.length c]).run Tryz.prog (W.alloc (.cells #[] 9)) = .ok (.slice A1 xs.length c1) w1 ∧
      (Builtin.append_ #[25, 25] 25 #[.slice A1 xs.length c1, .slice B ys.length d]).run Tryz.prog w1 = .ok (.slice A2 (xs.length + ys.length) c2) w2 ∧
      P w2 ∧ SX w2 (.slice A2 (xs.length + ys.length) c2) (xs ++ ys) ∧ xs.length + ys.length ≤ c2 := by
  have hown := owns_emptyG (base := W.heap.size) (heap_alloc_new W (.cells #[] 9)) (Nat.le_refl _)
  have hb0 := below_alloc W (.cells #[] 9)
  obtain ⟨A1, c1, w1, h1, t1, g1⟩ := tw_row hown (hx.step hb0) (by simp) (by omega) (by simp)
  simp only [List.length_nil, Nat.zero_add, List.nil_append] at h1 t1
  have hb1 : Below W.heap.size W w1 := Below.grown hb0 g1 hb0.size fun j hj => by
    simp only [Value.ownBlock, Option.some.injEq] at hj
    omega
  obtain ⟨A2, c2, w2, h2, t2, g2⟩ := tw_row t1 (hy.step hb1) hb1.size (by omega) (by omega)
  have hb2 : Below W.heap.size W w2 := Below.grown hb1 g2 hb1.size fun j hj => (t1.lt hj).1
  refine ⟨A1, c1, w1, A2, c2, w2, h1, h2, hP.step h hb2, ?_, ?_⟩
  · have := t2.sx; rw [← List.length_append]; rw [← List.length_append] at this; exact this
  · obtain ⟨A', c', e, hc⟩ := t2.cap
    simp only [Value.slice.injEq] at e
    obtain ⟨_, _, rfl⟩ := e
    rw [List.length_append] at hc; exact hc
end Go.Proofs.YtnaoandleelbkaaGreatDoor
