/-
  The contract of the laws' own function 'mails': mails that may be, and mails that may not: it returns true.
-/
import Derived.Test.YtpgnmdpoifbngaaDoorALaw
namespace Go.Proofs.YtpgnmdpoifbngaaDoor
open Go Go.RowKit
set_option maxRecDepth 100000

theorem bl_mail {w0 w : World} {f en tx : List UInt8} {q : Bool} {rs : List RC} {v : Value} {r m z : Int} (e : mailL f (tosL rs) en tx r m = z) (hv : RcIs w v rs) (hl : rs.length ≤ 100000) (hx : ∀ r ∈ rs, r.1.length ≤ 1000000) (hf : f.length ≤ 1000000) (hen : en.length ≤ 1000000) (htx : tx.length ≤ 1000000) (h : BL w0 w) :
    Calls Tryd.prog 27 #[mailV f v q en tx, .int .i64 r, .int .i64 m] w fun e w' => e = .returned (.int .i64 z) ∧ BL w0 w' := by
  have := bl (mail_any f en tx q rs v r m w hv hl hx hf hen htx h.ml) h
  rwa [e] at this

/-- 'mail', with a row of texts that lies there still. -/
theorem rb_mail1 {w W : World} {g : Nat} {L : List (List UInt8)} (s : List UInt8) (hb : RB w g L W) :
    Calls Tryd.prog 37 #[sv s] W fun e w' => ∃ A c, e = .returned (mailV frL (.slice A 1 c) false [] s) ∧ RcIs w' (.slice A 1 c) [(toL, false)] ∧ RB w g L w' :=
  (mail1_any s W).mono fun _ _ ⟨A, c, h1, h2, h3⟩ => ⟨A, c, h1, h2, hb.1.step h3, (h3.block g (lt_of_blk hb.2)).trans hb.2⟩
theorem rb_mail {w W : World} {g : Nat} {L : List (List UInt8)} {A : Option Addr} {c : Nat} {s : List UInt8} {r m z : Int} (e : mailL frL [toL] [] s r m = z) (hv : RcIs W (.slice A 1 c) [(toL, false)]) (hs : s.length ≤ 1000000) (hb : RB w g L W) :
    Calls Tryd.prog 27 #[mailV frL (.slice A 1 c) false [] s, .int .i64 r, .int .i64 m] W fun e w' => e = .returned (.int .i64 z) ∧ RB w g L w' := by
  have := rb (mail_any frL [] s false [(toL, false)] (.slice A 1 c) r m W hv (by decide) (by decide) (by decide) (by decide) hs hb.1.ml) hb
  rwa [show tosL [(toL, false)] = [toL] from rfl, e] at this

def goodL : List (List UInt8) := [[], [13, 10], [97, 9, 98, 32, 126, 13, 10, 13, 10], (copiesL [120] 510 ++ [13, 10]), ((copiesL [120] 510 ++ [13, 10]) ++ (copiesL [120] 510 ++ [13, 10]))]
def wrongL : List (List UInt8) := [[97], [97, 13], [97, 10], [10], [97, 13, 98, 13, 10], [97, 10, 98, 13, 10], [13, 13, 10], [97, 0, 13, 10], [97, 127, 13, 10], [195, 169, 13, 10], ([120] ++ (copiesL [120] 510 ++ [13, 10])), [13, 10, 120]]
theorem good_all : ∀ x ∈ goodL, mailL frL [toL] [] x 1 1024 = 0 ∧ x.length ≤ 2000 := by decide +kernel
theorem wrong_all : ∀ x ∈ wrongL, mailL frL [toL] [] x 1 1024 = 4 ∧ x.length ≤ 2000 := by decide +kernel
/-- The box of a mail that 'mail' made lies there still, and its recipient. -/
def XB (w0 : World) (h : Nat) (cs : Array Value) (A : Option Addr) (c : Nat) (W : World) : Prop := BL w0 W ∧ W.heap[h]? = some (.cells cs 40 (0, 0)) ∧ RcIs W (.slice A 1 c) [(toL, false)]
theorem XB.step {w0 W W' : World} {h : Nat} {cs : Array Value} {A : Option Addr} {c : Nat} (hx : XB w0 h cs A c W) (hb : Below W.heap.size W W') : XB w0 h cs A c W' := ⟨hx.1.step hb, (hb.block h (lt_of_blk hx.2.1)).trans hx.2.1, hx.2.2.step hb⟩
theorem xb {w0 W : World} {h : Nat} {cs : Array Value} {A : Option Addr} {c : Nat} {f : Nat} {args : Array Value} {v : Value} (hc : Calls Tryd.prog f args W fun e w' => e = .returned v ∧ Below W.heap.size W w') (hb : XB w0 h cs A c W) :
    Calls Tryd.prog f args W fun e w' => e = .returned v ∧ XB w0 h cs A c w' := hc.mono fun _ _ ⟨he, h⟩ => ⟨he, hb.step h⟩
theorem XB.cells {w0 W : World} {h : Nat} {A : Option Addr} {c : Nat} {f en tx : List UInt8} {q : Bool} {rv : Value} (hx : XB w0 h (mailCells f rv q en tx) A c W) :
    W.cell? ⟨h, 0, none⟩ = some (sv f) ∧ W.cell? ⟨h, 1, none⟩ = some rv ∧ W.cell? ⟨h, 2, none⟩ = some (.bool q) ∧ W.cell? ⟨h, 3, none⟩ = some (sv en) ∧ W.cell? ⟨h, 4, none⟩ = some (sv tx) := by
  refine ⟨?_, ?_, ?_, ?_, ?_⟩ <;> (rw [cellAt hx.2.1]; rfl)
theorem xb_mail {w0 W : World} {h : Nat} {cs : Array Value} {A : Option Addr} {c : Nat} {f en tx : List UInt8} {q : Bool} {rs : List RC} {v : Value} {r m z : Int} (e : mailL f (tosL rs) en tx r m = z) (hv : RcIs W v rs) (hl : rs.length ≤ 100000) (hx : ∀ r ∈ rs, r.1.length ≤ 1000000) (hf : f.length ≤ 1000000) (hen : en.length ≤ 1000000) (htx : tx.length ≤ 1000000) (hb : XB w0 h cs A c W) :
    Calls Tryd.prog 27 #[mailV f v q en tx, .int .i64 r, .int .i64 m] W fun e w' => e = .returned (.int .i64 z) ∧ XB w0 h cs A c w' := by
  have := xb (mail_any f en tx q rs v r m W hv hl hx hf hen htx hb.1.ml) hb
  rwa [e] at this
theorem xb_mail1 {w0 W : World} {h : Nat} {cs : Array Value} {A : Option Addr} {c : Nat} (s : List UInt8) (hb : XB w0 h cs A c W) :
    Calls Tryd.prog 37 #[sv s] W fun e w' => ∃ A2 c2, e = .returned (mailV frL (.slice A2 1 c2) false [] s) ∧ RcIs w' (.slice A2 1 c2) [(toL, false)] ∧ XB w0 h cs A c w' :=
  (mail1_any s W).mono fun _ _ ⟨A2, c2, h1, h2, h3⟩ => ⟨A2, c2, h1, h2, hb.step h3⟩
theorem rc_none (w : World) : RcIs w (.slice none 0 0) [] := ⟨none, 0, rfl, fun h => absurd h (by simp)⟩
theorem ml1 : mailL frL [toL] [] [] 0 10 = 40 := by decide +kernel
theorem ml2 : mailL frL [toL] [] [] (-1) 10 = 40 := by decide +kernel
theorem ml3 : mailL frL [toL] [] [] 1 (-1) = 40 := by decide +kernel
theorem ml4 : mailL frL [toL] [] [] 1 0 = 0 := by decide +kernel
theorem ml5 : mailL frL [toL] [] [13, 10] 1 1 = 40 := by decide +kernel
theorem ml6 : mailL frL [toL] [] [97, 98] 1 1 = 40 := by decide +kernel
theorem ml7 : mailL [] [] [] [] 1 1 = 4 := by decide +kernel
/-- A mail of a row: where from, the recipients' value, the Envid, the recipients. -/
abbrev BM := List UInt8 × Value × List UInt8 × List RC
def badCells : List BM → List Value
  | [] => []
  | m :: t => sv m.1 :: m.2.1 :: .bool false :: sv m.2.2.1 :: sv [] :: badCells t
theorem badCells_at : ∀ (M : List BM) (k : Nat) (hk : k < M.length), (badCells M)[k * 5]? = some (sv M[k].1) ∧ (badCells M)[k * 5 + 1]? = some M[k].2.1 ∧ (badCells M)[k * 5 + 2]? = some (.bool false) ∧ (badCells M)[k * 5 + 3]? = some (sv M[k].2.2.1) ∧ (badCells M)[k * 5 + 4]? = some (sv [])
  | [], k, h => absurd h (by simp)
  | m :: t, 0, _ => ⟨rfl, rfl, rfl, rfl, rfl⟩
  | m :: t, k + 1, h => by
    have := badCells_at t k (by simpa using h)
    have e1 : (k + 1) * 5 = k * 5 + 5 := by omega
    rw [e1]
    simpa [badCells] using this
/-- A row of mails lies there still, and their recipients. -/
def BR (W : World) (gb : Nat) (M : List BM) : Prop := W.heap[gb]? = some (.cells (badCells M).toArray 40 (0, 0)) ∧ ∀ m ∈ M, RcIs W m.2.1 m.2.2.2
theorem BR.step {W W' : World} {gb : Nat} {M : List BM} (h : BR W gb M) (hb : Below W.heap.size W W') : BR W' gb M := ⟨(hb.block gb (lt_of_blk h.1)).trans h.1, fun m hm => (h.2 m hm).step hb⟩
theorem BR.cells {W : World} {gb : Nat} {M : List BM} (h : BR W gb M) {k : Nat} (hk : k < M.length) : W.cell? ⟨gb, k * 5, none⟩ = some (sv M[k].1) ∧ W.cell? ⟨gb, k * 5 + 1, none⟩ = some M[k].2.1 ∧ W.cell? ⟨gb, k * 5 + 2, none⟩ = some (.bool false) ∧ W.cell? ⟨gb, k * 5 + 3, none⟩ = some (sv M[k].2.2.1) ∧ W.cell? ⟨gb, k * 5 + 4, none⟩ = some (sv []) := by
  have := badCells_at M k hk
  rw [cellAt h.1, cellAt h.1, cellAt h.1, cellAt h.1, cellAt h.1]
  simpa using this
def to2L : List UInt8 := [116, 64, 66, 46, 101, 120, 97, 109, 112, 108, 101]
def brL : List UInt8 := [60, 116, 64, 98, 46, 101, 120, 97, 109, 112, 108, 101, 62]
def badR : List (List RC) := [[(toL, false)], [(toL, false)], [(toL, false)], [(toL, false), (to2L, true)], [(toL, false), ([], false)], [(brL, false)]]
theorem bm_all : mailL [102] (tosL [(toL, false)]) [] [] 4 1024 = 4 ∧ mailL frL (tosL [(toL, false)]) [97, 32, 98] [] 4 1024 = 4 ∧ mailL frL (tosL [(toL, false)]) (copiesL [97] 33) [] 4 1024 = 4 ∧ mailL frL (tosL [(toL, false), (to2L, true)]) [] [] 4 1024 = 4 ∧ mailL frL (tosL [(toL, false), ([], false)]) [] [] 4 1024 = 4 ∧ mailL frL (tosL [(brL, false)]) [] [] 4 1024 = 4 := by decide +kernel
/-- What is known of a mail of the row. -/
def BadM (m : BM) : Prop := mailL m.1 (tosL m.2.2.2) m.2.2.1 [] 4 1024 = 4 ∧ m.1.length ≤ 100 ∧ m.2.2.1.length ≤ 100 ∧ m.2.2.2.length ≤ 10 ∧ ∀ r ∈ m.2.2.2, r.1.length ≤ 100

theorem badM_mk {f en : List UInt8} {rs : List RC} {rv : Value} (h1 : mailL f (tosL rs) en [] 4 1024 = 4) (h2 : f.length ≤ 100) (h3 : en.length ≤ 100) (h4 : rs.length ≤ 10) (h5 : ∀ r ∈ rs, r.1.length ≤ 100) : BadM (f, rv, en, rs) := ⟨h1, h2, h3, h4, h5⟩

theorem box_set {W : World} {h j : Nat} {cs : Array Value} {T : TypeId} (hx : W.heap[h]? = some (.cells cs T (0, 0))) (x : Value) : (W.setCell ⟨h, j, none⟩ x).heap[h]? = some (.cells (cs.setIfInBounds j x) T (0, 0)) := by
  simp [World.setCell, Array.getElem?_modify, hx]
def rc4L : List RC := [([116, 64, 99, 46, 101, 120, 97, 109, 112, 108, 101], false), ([84, 64, 99, 46, 101, 120, 97, 109, 112, 108, 101], false), ([120, 64, 66, 46, 101, 120, 97, 109, 112, 108, 101], true), ([120], false)]
def domsL : List (List UInt8) := [[98, 46, 101, 120, 97, 109, 112, 108, 101], [99, 46, 101, 120, 97, 109, 112, 108, 101]]
theorem dash_text (z : List UInt8) : str z ++ { data := #[45] } = str (z ++ [45]) := by
  apply ByteArray.ext
  simp [str, ByteArray.data_append]

/-- The box of a mail of four recipients lies there still, and these. -/
def XC (w0 : World) (h : Nat) (rv : Value) (td : List UInt8) (W : World) : Prop := BL w0 W ∧ W.heap[h]? = some (.cells (mailCells [] rv true td []) 40 (0, 0)) ∧ RcIs W rv rc4L
theorem XC.step {w0 W W' : World} {h : Nat} {rv : Value} {td : List UInt8} (hx : XC w0 h rv td W) (hb : Below W.heap.size W W') : XC w0 h rv td W' := ⟨hx.1.step hb, (hb.block h (lt_of_blk hx.2.1)).trans hx.2.1, hx.2.2.step hb⟩
theorem XC.cells {w0 W : World} {h : Nat} {rv : Value} {td : List UInt8} (hx : XC w0 h rv td W) :
    W.cell? ⟨h, 0, none⟩ = some (sv []) ∧ W.cell? ⟨h, 1, none⟩ = some rv ∧ W.cell? ⟨h, 2, none⟩ = some (.bool true) ∧ W.cell? ⟨h, 3, none⟩ = some (sv td) ∧ W.cell? ⟨h, 4, none⟩ = some (sv []) := by
  refine ⟨?_, ?_, ?_, ?_, ?_⟩ <;> (rw [cellAt hx.2.1]; rfl)
theorem dom4 : domL (tosL rc4L) = [[99, 46, 101, 120, 97, 109, 112, 108, 101], [99, 46, 101, 120, 97, 109, 112, 108, 101], [98, 46, 101, 120, 97, 109, 112, 108, 101]] := by decide +kernel
theorem uniq4 : uniqS (domL (tosL rc4L)) = domsL := by
  refine rises_eq (uniq_rises _) (by unfold domsL; decide) fun x => ?_
  rw [uniq_mem, dom4]
  unfold domsL
  simp only [List.mem_cons, List.not_mem_nil, or_false]
  constructor
  · rintro (h | h | h)
    · exact .inr h
    · exact .inr h
    · exact .inl h
  · rintro (h | h)
    · exact .inr (.inr h)
    · exact .inl h
theorem uniq0 : uniqS (domL (tosL [])) = [] := by
  refine List.eq_nil_iff_forall_not_mem.2 fun x hx => ?_
  rw [uniq_mem] at hx
  exact absurd hx (by simp [domL])
theorem m31 : mailL [] (tosL rc4L) (copiesL [97] 31 ++ [45]) [] 4 10 = 4 := by decide +kernel

theorem line_text : str (copiesL [120] 510) ++ { data := #[13, 10] } = str (copiesL [120] 510 ++ [13, 10]) := by
  apply ByteArray.ext
  simp [str, ByteArray.data_append]
theorem x_text (z : List UInt8) : { data := #[120] } ++ str z = str ([120] ++ z) := by
  apply ByteArray.ext
  simp [str, ByteArray.data_append]

set_option maxHeartbeats 16000000 in
theorem mails_bl {w0 : World} (w : World) (hM0 : ML w0) (B0 : BL w0 w) : Calls Tryd.prog 16 #[] w fun e w' => e = .returned (.bool true) ∧ BL w0 w' := by
  have HM0 := Lib.hid hM0
  clear hM0
  obtain ⟨z, hz⟩ : ∃ z, z = (copiesL [120] 510 ++ [13, 10]) := ⟨_, rfl⟩
  have x1 : str (copiesL [120] 510) ++ { data := #[13, 10] } = str z := by rw [hz]; exact line_text
  obtain ⟨y, hy⟩ : ∃ y, y = z ++ z := ⟨_, rfl⟩
  have x2 : str z ++ str z = str y := by rw [hy]; exact str_append z z
  obtain ⟨u, hu⟩ : ∃ u, u = [120] ++ z := ⟨_, rfl⟩
  have X3 := Lib.hid (show { data := #[120] } ++ str z = str u by rw [hu]; exact x_text z)
  have Y1 := Lib.hid (show ∀ x ∈ [[], [13, 10], [97, 9, 98, 32, 126, 13, 10, 13, 10], z, y], mailL frL [toL] [] x 1 1024 = 0 ∧ x.length ≤ 2000 by rw [hy, hz]; exact good_all)
  have Y2 := Lib.hid (show ∀ x ∈ [[97], [97, 13], [97, 10], [10], [97, 13, 98, 13, 10], [97, 10, 98, 13, 10], [13, 13, 10], [97, 0, 13, 10], [97, 127, 13, 10], [195, 169, 13, 10], u, [13, 10, 120]], mailL frL [toL] [] x 1 1024 = 4 ∧ x.length ≤ 2000 by rw [hu, hz]; exact wrong_all)
  have hcl : (copiesL [120] 510).length ≤ 600 := by rw [copiesL_len]; decide
  have hzl : z.length ≤ 700 := by rw [hz, List.length_append, copiesL_len]; decide
  clear hz hy hu
  go_enter Tryd.func16, Tryd.ntmps16
  go_wp2_with fail
  refine (copies_any [120] 510 _ (by simp) (by omega)).mono ?_
  rintro e w1 ⟨rfl, rfl⟩
  go_wp2_with fail
  rw [show w.alloc (.cells #[.string { data := #[] }, .string { data := #[13, 10] }, .string { data := #[97, 9, 98, 32, 126, 13, 10, 13, 10] }, .string (str z), .string (str y)] 9) = w.alloc (.cells ([[], [13, 10], [97, 9, 98, 32, 126, 13, 10, 13, 10], z, y].map sv).toArray 9) from rfl]
  obtain ⟨L, hL⟩ : ∃ L, L = [[], [13, 10], [97, 9, 98, 32, 126, 13, 10, 13, 10], z, y] := ⟨_, rfl⟩
  have HLN := Lib.hid (show L.length = 5 by rw [hL]; rfl)
  rw [← hL] at Y1 ⊢
  obtain ⟨wa, hwa⟩ : ∃ wa, wa = w.alloc (.cells (L.map sv).toArray 9) := ⟨_, rfl⟩
  rw [← hwa]
  obtain ⟨g, hg⟩ : ∃ g, g = w.heap.size := ⟨_, rfl⟩
  rw [← hg]
  have HAA := Lib.hid (show RB w0 g L wa from ⟨by rw [hwa]; exact B0.alloc _, by rw [hwa, hg]; exact heap_alloc_new _ _⟩)
  clear hwa hg hL B0 x1 x2
  go_loopw [17] (fun i wr => ∃ k : Nat, k ≤ 5 ∧ i = .int .i64 k ∧ RB w0 g L wr) (fun i _ => 5 - (intOf i).toNat)
  case atStart => exact ⟨0, by omega, rfl, HAA.out⟩
  case round =>
    obtain ⟨k, hk, rfl, hr⟩ := hrel
    by_cases hlt : k < 5
    · obtain ⟨x, hx⟩ : ∃ x, L.getD k [] = x := ⟨_, rfl⟩
      have hkl : k < L.length := by rw [HLN.out]; exact hlt
      have hq := Y1.out _ (getD_mem hkl)
      rw [hx] at hq
      have hxl : x.length ≤ 1000000 := by omega
      have HM := Lib.hid hq.1
      have c0 := hr.cell hkl hx
      clear hq hx hkl
      go_wp2_with fail
      refine (rb_mail1 x hr).mono ?_
      rintro e w4 ⟨A, c, rfl, hrc, hr4⟩
      have HRC := Lib.hid hrc
      clear c0 hr hrc
      go_wp2_with fail
      refine (rb_mail HM.out HRC.out hxl hr4).mono ?_
      rintro e w5 ⟨rfl, hr5⟩
      have HR := Lib.hid hr5
      clear hr4 hr5
      go_wp2_with fail
      go_roundw
      case rel => exact ⟨k + 1, by omega, by go_num, HR.out⟩
      case measure => simp [intOf]; omega
    · obtain rfl : k = 5 := by omega
      rw [show ((5 : Nat) : Int) = 5 from rfl]
      have x3 := X3.out
      have B2 := hr.1
      clear Y1 HLN HAA hr
      go_wp2_with fail
      rw [show wr.alloc (.cells #[.string { data := #[97] }, .string { data := #[97, 13] }, .string { data := #[97, 10] }, .string { data := #[10] }, .string { data := #[97, 13, 98, 13, 10] }, .string { data := #[97, 10, 98, 13, 10] }, .string { data := #[13, 13, 10] }, .string { data := #[97, 0, 13, 10] }, .string { data := #[97, 127, 13, 10] }, .string { data := #[195, 169, 13, 10] }, .string (str u), .string { data := #[13, 10, 120] }] 9) = wr.alloc (.cells ([[97], [97, 13], [97, 10], [10], [97, 13, 98, 13, 10], [97, 10, 98, 13, 10], [13, 13, 10], [97, 0, 13, 10], [97, 127, 13, 10], [195, 169, 13, 10], u, [13, 10, 120]].map sv).toArray 9) from rfl]
      obtain ⟨L2, hL⟩ : ∃ L, L = [[97], [97, 13], [97, 10], [10], [97, 13, 98, 13, 10], [97, 10, 98, 13, 10], [13, 13, 10], [97, 0, 13, 10], [97, 127, 13, 10], [195, 169, 13, 10], u, [13, 10, 120]] := ⟨_, rfl⟩
      have HLN := Lib.hid (show L2.length = 12 by rw [hL]; rfl)
      rw [← hL] at Y2 ⊢
      obtain ⟨wa, hwa⟩ : ∃ wa, wa = wr.alloc (.cells (L2.map sv).toArray 9) := ⟨_, rfl⟩
      rw [← hwa]
      obtain ⟨g2, hg⟩ : ∃ g, g = wr.heap.size := ⟨_, rfl⟩
      rw [← hg]
      have HAA := Lib.hid (show RB w0 g2 L2 wa from ⟨by rw [hwa]; exact B2.alloc _, by rw [hwa, hg]; exact heap_alloc_new _ _⟩)
      clear hwa hg hL B2 x3
      obtain ⟨wo, rfl⟩ : ∃ wo : World, wo = wr := ⟨_, rfl⟩
      go_loopw [30] (fun i wr => ∃ k : Nat, k ≤ 12 ∧ i = .int .i64 k ∧ RB w0 g2 L2 wr) (fun i _ => 12 - (intOf i).toNat)
      case atStart => exact ⟨0, by omega, rfl, HAA.out⟩
      case round =>
        obtain ⟨k, hk, rfl, hr⟩ := hrel
        by_cases hlt : k < 12
        · obtain ⟨x, hx⟩ : ∃ x, L2.getD k [] = x := ⟨_, rfl⟩
          have hkl : k < L2.length := by rw [HLN.out]; exact hlt
          have hq := Y2.out _ (getD_mem hkl)
          rw [hx] at hq
          have hxl : x.length ≤ 1000000 := by omega
          have HM := Lib.hid hq.1
          have c0 := hr.cell hkl hx
          clear hq hx hkl
          go_wp2_with fail
          refine (rb_mail1 x hr).mono ?_
          rintro e w4 ⟨A, c, rfl, hrc, hr4⟩
          have HRC := Lib.hid hrc
          clear c0 hr hrc
          go_wp2_with fail
          refine (rb_mail HM.out HRC.out hxl hr4).mono ?_
          rintro e w5 ⟨rfl, hr5⟩
          have HR := Lib.hid hr5
          clear hr4 hr5
          go_wp2_with fail
          go_roundw
          case rel => exact ⟨k + 1, by omega, by go_num, HR.out⟩
          case measure => simp [intOf]; omega
        · obtain rfl : k = 12 := by omega
          rw [show ((12 : Nat) : Int) = 12 from rfl]
          have B3 := hr.1
          clear Y2 HLN HAA hr X3
          go_wp2_with fail
          refine (mail1_any [] _).mono ?_
          rintro e w4 ⟨A, c, rfl, hrc, hb4⟩
          have B4 := B3.step hb4
          clear hb4 B3
          go_wp2_with fail
          have HX := Lib.hid (show XB w0 w4.heap.size (mailCells frL (.slice A 1 c) false [] []) A c (w4.alloc (.cells (mailCells frL (.slice A 1 c) false [] []) 40)) from ⟨B4.alloc _, heap_alloc_new _ _, hrc.step ((Below.refl _ _).alloc (Nat.le_refl _) _)⟩)
          obtain ⟨h, hh⟩ : ∃ h, h = w4.heap.size := ⟨_, rfl⟩
          have HH := Lib.hid (show w0.heap.size ≤ h by rw [hh]; exact B4.below.size)
          rw [← hh] at HX ⊢
          clear B4 hrc hh
          refine (xb_mail (q := false) (rs := [(toL, false)]) ml1 HX.out.2.2 (by decide) (by decide) (by decide) (by decide) (by decide) HX.out).mono ?_
          rintro e v1 ⟨rfl, hx⟩
          obtain ⟨c0, c1, c2, c3, c4⟩ := hx.cells
          have HX1 := Lib.hid hx
          clear hx
          go_wp2_with fail
          clear c0 c1 c2 c3 c4
          refine (xb_mail (q := false) (rs := [(toL, false)]) ml2 HX1.out.2.2 (by decide) (by decide) (by decide) (by decide) (by decide) HX1.out).mono ?_
          rintro e v2 ⟨rfl, hx⟩
          obtain ⟨c0, c1, c2, c3, c4⟩ := hx.cells
          have HX2 := Lib.hid hx
          clear hx
          go_wp2_with fail
          clear c0 c1 c2 c3 c4
          refine (xb_mail (q := false) (rs := [(toL, false)]) ml3 HX2.out.2.2 (by decide) (by decide) (by decide) (by decide) (by decide) HX2.out).mono ?_
          rintro e v3 ⟨rfl, hx⟩
          obtain ⟨c0, c1, c2, c3, c4⟩ := hx.cells
          have HX3 := Lib.hid hx
          clear hx
          go_wp2_with fail
          clear c0 c1 c2 c3 c4
          refine (xb_mail (q := false) (rs := [(toL, false)]) ml4 HX3.out.2.2 (by decide) (by decide) (by decide) (by decide) (by decide) HX3.out).mono ?_
          rintro e v4 ⟨rfl, hx⟩
          obtain ⟨c0, c1, c2, c3, c4⟩ := hx.cells
          have HX4 := Lib.hid hx
          clear hx
          go_wp2_with fail
          clear c0 c1 c2 c3 c4
          refine (xb_mail1 [13, 10] HX4.out).mono ?_
          rintro e v5 ⟨A2, d2, rfl, hr2, hx⟩
          obtain ⟨c0, c1, c2, c3, c4⟩ := hx.cells
          have HX5 := Lib.hid hx
          clear hx
          have HR2 := Lib.hid hr2; clear hr2
          go_wp2_with fail
          clear c0 c1 c2 c3 c4
          refine (xb_mail (q := false) (rs := [(toL, false)]) ml5 HR2.out (by decide) (by decide) (by decide) (by decide) (by decide) HX5.out).mono ?_
          rintro e v6 ⟨rfl, hx⟩
          obtain ⟨c0, c1, c2, c3, c4⟩ := hx.cells
          have HX6 := Lib.hid hx
          clear hx
          clear HR2
          go_wp2_with fail
          clear c0 c1 c2 c3 c4
          refine (xb_mail1 [97, 98] HX6.out).mono ?_
          rintro e v7 ⟨A2, d2, rfl, hr2, hx⟩
          obtain ⟨c0, c1, c2, c3, c4⟩ := hx.cells
          have HX7 := Lib.hid hx
          clear hx
          have HR2 := Lib.hid hr2; clear hr2
          go_wp2_with fail
          clear c0 c1 c2 c3 c4
          refine (xb_mail (q := false) (rs := [(toL, false)]) ml6 HR2.out (by decide) (by decide) (by decide) (by decide) (by decide) HX7.out).mono ?_
          rintro e v8 ⟨rfl, hx⟩
          obtain ⟨c0, c1, c2, c3, c4⟩ := hx.cells
          have HX8 := Lib.hid hx
          clear hx
          clear HR2
          go_wp2_with fail
          clear c0 c1 c2 c3 c4
          refine (xb_mail (q := false) (rs := []) ml7 (rc_none _) (by decide) (by decide) (by decide) (by decide) (by decide) HX8.out).mono ?_
          rintro e v9 ⟨rfl, hx⟩
          obtain ⟨c0, c1, c2, c3, c4⟩ := hx.cells
          have HX9 := Lib.hid hx
          clear hx
          go_wp2_with fail
          clear c0 c1 c2 c3 c4
          refine (copies_any [97] 33 _ (by simp) (by omega)).mono ?_
          rintro e w5 ⟨rfl, rfl⟩
          obtain ⟨t33, ht33⟩ : ∃ t, t = copiesL [97] 33 := ⟨_, rfl⟩
          rw [← ht33]
          have HT := Lib.hid ht33
          clear ht33
          go_wp2_with fail
          obtain ⟨gb, hgb⟩ : ∃ g, g = v9.heap.size := ⟨_, rfl⟩
          rw [← hgb]
          obtain ⟨M, hM⟩ : ∃ M : List BM, M = [([102], .slice A 1 c, [], [(toL, false)]), (frL, .slice A 1 c, [97, 32, 98], [(toL, false)]), (frL, .slice A 1 c, t33, [(toL, false)]), (frL, .slice (some ⟨gb + 1, 0, none⟩) 2 2, [], [(toL, false), (to2L, true)]), (frL, .slice (some ⟨gb + 1 + 1, 0, none⟩) 2 2, [], [(toL, false), ([], false)]), (frL, .slice (some ⟨gb + 1 + 1 + 1, 0, none⟩) 1 1, [], [(brL, false)])] := ⟨_, rfl⟩
          rw [show (((v9.alloc (.cells #[.string { data := #[102] }, .slice A 1 c, .bool false, sv [], sv [], sv frL, .slice A 1 c, .bool false, .string { data := #[97, 32, 98] }, sv [], sv frL, .slice A 1 c, .bool false, .string (str t33), sv [], sv frL, .slice (some ⟨gb + 1, 0, none⟩) 2 2, .bool false, sv [], sv [], sv frL, .slice (some ⟨gb + 1 + 1, 0, none⟩) 2 2, .bool false, sv [], sv [], sv frL, .slice (some ⟨gb + 1 + 1 + 1, 0, none⟩) 1 1, .bool false, sv [], sv []] 40)).alloc (.cells #[.string { data := #[116, 64, 98, 46, 101, 120, 97, 109, 112, 108, 101] }, .bool false, .string { data := #[116, 64, 66, 46, 101, 120, 97, 109, 112, 108, 101] }, .bool true] 45)).alloc (.cells #[.string { data := #[116, 64, 98, 46, 101, 120, 97, 109, 112, 108, 101] }, .bool false, .string { data := #[] }, .bool false] 45)).alloc (.cells #[.string { data := #[60, 116, 64, 98, 46, 101, 120, 97, 109, 112, 108, 101, 62] }, .bool false] 45) = (((v9.alloc (.cells (badCells M).toArray 40)).alloc (.cells (rcCells [(toL, false), (to2L, true)]).toArray 45)).alloc (.cells (rcCells [(toL, false), ([], false)]).toArray 45)).alloc (.cells (rcCells [(brL, false)]).toArray 45) by rw [hM]; rfl]
          obtain ⟨v10, hv10⟩ : ∃ v10, v10 = (((v9.alloc (.cells (badCells M).toArray 40)).alloc (.cells (rcCells [(toL, false), (to2L, true)]).toArray 45)).alloc (.cells (rcCells [(toL, false), ([], false)]).toArray 45)).alloc (.cells (rcCells [(brL, false)]).toArray 45) := ⟨_, rfl⟩
          rw [← hv10]
          have hb1 : Below v9.heap.size v9 v10 := by rw [hv10]; exact ((((Below.refl _ v9).alloc (Nat.le_refl _) _).alloc (by simp) _).alloc (by simp; omega) _).alloc (by simp; omega) _
          have a0 := heap_alloc_new v9 (.cells (badCells M).toArray 40)
          have a1 := heap_alloc_new (v9.alloc (.cells (badCells M).toArray 40)) (.cells (rcCells [(toL, false), (to2L, true)]).toArray 45)
          have a2 := heap_alloc_new ((v9.alloc (.cells (badCells M).toArray 40)).alloc (.cells (rcCells [(toL, false), (to2L, true)]).toArray 45)) (.cells (rcCells [(toL, false), ([], false)]).toArray 45)
          have a3 := heap_alloc_new (((v9.alloc (.cells (badCells M).toArray 40)).alloc (.cells (rcCells [(toL, false), (to2L, true)]).toArray 45)).alloc (.cells (rcCells [(toL, false), ([], false)]).toArray 45)) (.cells (rcCells [(brL, false)]).toArray 45)
          rw [World.size_alloc, ← hgb] at a1
          rw [World.size_alloc, World.size_alloc, ← hgb] at a2
          rw [World.size_alloc, World.size_alloc, World.size_alloc, ← hgb] at a3
          rw [← hgb] at a0
          have k0 : v10.heap[gb]? = some (.cells (badCells M).toArray 40 (0, 0)) := by
            rw [hv10]
            exact (Lib.alloc_old _ _ _ (lt_of_blk ((Lib.alloc_old _ _ _ (lt_of_blk ((Lib.alloc_old _ _ _ (lt_of_blk a0)).trans a0))).trans ((Lib.alloc_old _ _ _ (lt_of_blk a0)).trans a0)))).trans ((Lib.alloc_old _ _ _ (lt_of_blk ((Lib.alloc_old _ _ _ (lt_of_blk a0)).trans a0))).trans ((Lib.alloc_old _ _ _ (lt_of_blk a0)).trans a0))
          have k1 : v10.heap[gb + 1]? = some (.cells (rcCells [(toL, false), (to2L, true)]).toArray 45 (0, 0)) := by
            rw [hv10]
            exact (Lib.alloc_old _ _ _ (lt_of_blk ((Lib.alloc_old _ _ _ (lt_of_blk a1)).trans a1))).trans ((Lib.alloc_old _ _ _ (lt_of_blk a1)).trans a1)
          have k2 : v10.heap[gb + 1 + 1]? = some (.cells (rcCells [(toL, false), ([], false)]).toArray 45 (0, 0)) := by
            rw [hv10]
            exact (Lib.alloc_old _ _ _ (lt_of_blk a2)).trans a2
          have k3 : v10.heap[gb + 1 + 1 + 1]? = some (.cells (rcCells [(brL, false)]).toArray 45 (0, 0)) := by
            rw [hv10]; exact a3
          have HX10 := Lib.hid (HX9.out.step hb1)
          have HBR := Lib.hid (show BR v10 gb M from ⟨k0, by
            have q1 := rc_row (c := 2) k1
            have q2 := rc_row (c := 2) k2
            have q3 := rc_row (c := 1) k3
            have q0 := HX10.out.2.2
            rw [hM]
            intro m hm
            simp only [List.mem_cons, List.not_mem_nil, or_false] at hm
            rcases hm with rfl | rfl | rfl | rfl | rfl | rfl
            · exact q0
            · exact q0
            · exact q0
            · exact q1
            · exact q2
            · exact q3⟩)
          have HBM := Lib.hid (show ∀ m ∈ M, BadM m by
            obtain ⟨b1, b2, b3, b4, b5, b6⟩ := bm_all
            rw [← HT.out] at b3
            have h33 : t33.length ≤ 100 := by rw [HT.out, copiesL_len]; decide
            rw [hM]
            intro m hm
            simp only [List.mem_cons, List.not_mem_nil, or_false] at hm
            rcases hm with rfl | rfl | rfl | rfl | rfl | rfl
            · exact badM_mk b1 (by decide) (by decide) (by decide) (by decide)
            · exact badM_mk b2 (by decide) (by decide) (by decide) (by decide)
            · exact badM_mk b3 (by decide) h33 (by decide) (by decide)
            · exact badM_mk b4 (by decide) (by decide) (by decide) (by decide)
            · exact badM_mk b5 (by decide) (by decide) (by decide) (by decide)
            · exact badM_mk b6 (by decide) (by decide) (by decide) (by decide))
          have HML := Lib.hid (show M.length = 6 by rw [hM]; rfl)
          clear a0 a1 a2 a3 k0 k1 k2 k3 hb1 hv10 hM HX HX1 HX2 HX3 HX4 HX5 HX6 HX7 HX8 HX9 hgb
          obtain ⟨wp, rfl⟩ : ∃ wp : World, wp = wr := ⟨_, rfl⟩
          go_loopw [8] (fun i wr => ∃ k : Nat, k ≤ 6 ∧ i = .int .i64 k ∧ XB w0 h (mailCells frL (.slice A 1 c) false [] []) A c wr ∧ BR wr gb M) (fun i _ => 6 - (intOf i).toNat)
          case atStart => exact ⟨0, by omega, rfl, HX10.out, HBR.out⟩
          case round =>
            obtain ⟨k, hk, rfl, hx, hbr⟩ := hrel
            by_cases hlt : k < 6
            · have hkl : k < M.length := by rw [HML.out]; exact hlt
              obtain ⟨c0, c1, c2, c3, c4⟩ := hbr.cells hkl
              have hm := HBM.out _ (List.getElem_mem hkl)
              have hrc := hbr.2 _ (List.getElem_mem hkl)
              obtain ⟨m, hmm⟩ : ∃ m, m = M[k] := ⟨_, rfl⟩
              rw [← hmm] at c0 c1 c3 hm hrc
              obtain ⟨f, rv, en, rs⟩ := m
              have c0' : wr.cell? ⟨gb, k * 5, none⟩ = some (sv f) := c0
              have c1' : wr.cell? ⟨gb, k * 5 + 1, none⟩ = some rv := c1
              have c3' : wr.cell? ⟨gb, k * 5 + 3, none⟩ = some (sv en) := c3
              have HMM := Lib.hid hm
              have HRC := Lib.hid hrc
              have HXR := Lib.hid hx
              have HBB := Lib.hid hbr
              obtain ⟨A3, d3, hrv, _⟩ := hrc
              have hrv' : rv = .slice A3 rs.length d3 := hrv
              subst hrv'
              clear hm hmm hx hbr hkl c0 c1 c3 hrv
              go_wp2_with fail
              refine (mail_any f en [] false rs (.slice A3 rs.length d3) 4 1024 wr HRC.out (by have := HMM.out.2.2.2.1; simp at this; omega) (fun r hr => by have := HMM.out.2.2.2.2 r hr; omega) (by have := HMM.out.2.1; simp at this; omega) (by have := HMM.out.2.2.1; simp at this; omega) (by decide) HXR.out.1.ml).mono ?_
              rintro e w5 ⟨rfl, hb⟩
              rw [show mailL f (tosL rs) en [] 4 1024 = 4 from HMM.out.1]
              have HX2 := Lib.hid (HXR.out.step hb)
              have HB2 := Lib.hid (HBB.out.step hb)
              clear hb c0' c1' c2 c3' c4
              go_wp2_with fail
              go_roundw
              case rel => exact ⟨k + 1, by omega, by go_num, HX2.out, HB2.out⟩
              case measure => simp [intOf]; omega
            · obtain rfl : k = 6 := by omega
              rw [show ((6 : Nat) : Int) = 6 from rfl]
              obtain ⟨c0, c1, c2, c3, c4⟩ := hx.cells
              have hfr := fun j => freeAt hx.2.1 j
              have f0 := hfr 0
              have f2 := hfr 2
              have f3 := hfr 3
              have HBX := Lib.hid (show BL w0 wr ∧ wr.heap[h]? = some (.cells (mailCells frL (.slice A 1 c) false [] []) 40 (0, 0)) from ⟨hx.1, hx.2.1⟩)
              clear hx hbr hfr HX10 HBR HBM HML HT
              go_wp2_with fail
              refine (copies_any [97] 31 _ (by simp) (by omega)).mono ?_
              rintro e w5 ⟨rfl, rfl⟩
              obtain ⟨t31, ht31⟩ : ∃ t, t = copiesL [97] 31 := ⟨_, rfl⟩
              have h31 : t31.length ≤ 100 := by rw [ht31, copiesL_len]; decide
              rw [← ht31]
              obtain ⟨td, htd⟩ : ∃ t, t = t31 ++ [45] := ⟨_, rfl⟩
              have hdt := dash_text t31
              rw [← htd] at hdt
              have HT := Lib.hid (show td = copiesL [97] 31 ++ [45] by rw [htd, ht31])
              clear ht31 htd
              go_upto_region 30 with (fail)
              obtain ⟨wq, hwq⟩ : ∃ wq, wq = ((wr.setCell ⟨h, 0, none⟩ (.string { data := #[] })).setCell ⟨h, 3, none⟩ (.string (str td))).setCell ⟨h, 2, none⟩ (.bool true) := ⟨_, rfl⟩
              rw [← hwq]
              have hq : wq.heap[h]? = some (.cells (mailCells [] (.slice A 1 c) true td []) 40 (0, 0)) := by
                rw [hwq]
                exact box_set (box_set (box_set HBX.out.2 _) _) _
              have hbq : BL w0 wq := by
                rw [hwq]
                exact ((HBX.out.1.set HM0.out HH.out _).set HM0.out HH.out _).set HM0.out HH.out _
              clear hwq c0 c1 c2 c3 c4 f0 f2 f3
              have ha : (wq.alloc (.cells #[.string { data := #[116, 64, 99, 46, 101, 120, 97, 109, 112, 108, 101] }, .bool false, .string { data := #[84, 64, 99, 46, 101, 120, 97, 109, 112, 108, 101] }, .bool false, .string { data := #[120, 64, 66, 46, 101, 120, 97, 109, 112, 108, 101] }, .bool true, .string { data := #[120] }, .bool false] 45)).heap[h]? = some (.cells (mailCells [] (.slice A 1 c) true td []) 40 (0, 0)) := (Lib.alloc_old _ _ _ (lt_of_blk hq)).trans hq
              have c1 := cellAt ha 1
              have f1 := freeAt ha 1
              have HA := Lib.hid ha
              have HBQ := Lib.hid hbq
              have HN := Lib.hid (heap_alloc_new wq (.cells (rcCells rc4L).toArray 45))
              have HNH := Lib.hid (show h < wq.heap.size from lt_of_blk hq)
              clear ha hq hbq
              go_upto_region 31 with (fail)
              obtain ⟨ws, hws⟩ : ∃ ws, ws = (wq.alloc (.cells #[.string { data := #[116, 64, 99, 46, 101, 120, 97, 109, 112, 108, 101] }, .bool false, .string { data := #[84, 64, 99, 46, 101, 120, 97, 109, 112, 108, 101] }, .bool false, .string { data := #[120, 64, 66, 46, 101, 120, 97, 109, 112, 108, 101] }, .bool true, .string { data := #[120] }, .bool false] 45)).setCell ⟨h, 1, none⟩ (.slice (some ⟨wq.heap.size, 0, none⟩) 4 4) := ⟨_, rfl⟩
              rw [← hws]
              obtain ⟨rv, hrv⟩ : ∃ rv, rv = Value.slice (some ⟨wq.heap.size, 0, none⟩) 4 4 := ⟨_, rfl⟩
              have HXC := Lib.hid (show XC w0 h rv td ws by
                rw [hrv, hws]
                refine ⟨(HBQ.out.alloc _).set HM0.out HH.out _, box_set HA.out _, ?_⟩
                refine rc_row (rs := rc4L) ?_
                rw [heap_set_ne _ (by have := HNH.out; omega)]
                exact HN.out)
              clear c1 f1 hws HA HN hrv
              obtain ⟨c0, c1, c2, c3, c4⟩ := HXC.out.cells
              have htd : td.length ≤ 1000 := by rw [HT.out]; simp [copiesL_len]
              go_wp2_with fail
              clear c0 c1 c2 c3 c4
              refine (domains_any [] td [] true rc4L rv ws HXC.out.2.2 (by decide) (by decide) HXC.out.1.ml).mono ?_
              rintro e x1 ⟨uv, rfl, hg⟩
              rw [uniq4] at hg
              have HXC1 := Lib.hid (HXC.out.step hg.below)
              have HROW := Lib.hid hg.row
              obtain ⟨A5, c5, hf5⟩ := hg.form
              have hf5' : uv = .slice A5 2 c5 := hf5
              subst hf5'
              clear hg hf5
              go_wp2_with fail
              have HR2 := Lib.hid (lit_row x1 domsL 2)
              have HB2 := Lib.hid ((Below.refl x1.heap.size x1).alloc (Nat.le_refl _) (.cells (domsL.map sv).toArray 9))
              refine (lsame_any domsL domsL _ _ (x1.alloc (.cells (domsL.map sv).toArray 9)) (HROW.out.step HB2.out) HR2.out (by decide) (by decide)).mono ?_
              rintro e x2 ⟨rfl, hb⟩
              rw [beq_self_eq_true]
              have HXC2 := Lib.hid ((HXC1.out.step HB2.out).step hb)
              clear hb
              obtain ⟨c0, c1, c2, c3, c4⟩ := HXC2.out.cells
              go_wp2_with fail
              clear c0 c1 c2 c3 c4
              refine (mail_any [] td [] true rc4L rv 4 10 x2 HXC2.out.2.2 (by decide) (by decide) (by decide) (by omega) (by decide) HXC2.out.1.ml).mono ?_
              rintro e x3 ⟨rfl, hb⟩
              rw [show mailL [] (tosL rc4L) td [] 4 10 = 4 by rw [HT.out]; exact m31]
              have HXC3 := Lib.hid (HXC2.out.step hb)
              clear hb
              go_wp2_with fail
              refine (domains_any [] [] [] false [] (.slice none 0 0) x3 (rc_none _) (by decide) (by decide) HXC3.out.1.ml).mono ?_
              rintro e x4 ⟨uv, rfl, hg⟩
              rw [uniq0] at hg
              have HXC4 := Lib.hid (HXC3.out.step hg.below)
              obtain ⟨A6, c6, hf6⟩ := hg.form
              have hf6' : uv = .slice A6 0 c6 := hf6
              subst hf6'
              clear hg hf6
              go_wp2_with fail
              go_ret
              exact ⟨rfl, HXC4.out.1⟩
end Go.Proofs.YtpgnmdpoifbngaaDoor
