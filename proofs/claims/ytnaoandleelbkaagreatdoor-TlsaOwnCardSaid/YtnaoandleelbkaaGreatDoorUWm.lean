/-
  The law's bytes of a certificate.
  The examples, plainly.
  The contract of the examples.
-/
import Derived.Test.YtnaoandleelbkaaGreatDoorULong
import Derived.Test.YtnaoandleelbkaaGreatDoorUShow
import Derived.Test.YtnaoandleelbkaaGreatDoorJWm
namespace Go.Proofs.YtnaoandleelbkaaGreatDoor
set_option linter.unusedSimpArgs false
set_option linter.unusedVariables false
open Go Go.RowKit
set_option maxRecDepth 100000

/-- What bytes makes. -/
def mkC (key sg name : List UInt8) (un : Int) (ca : Bool) : Ct := ⟨key, digestL sg, if name = [] then [] else [name], 0, un, ca⟩
theorem digest_le (s : List UInt8) : (digestL s).length ≤ 32 := by
  unfold digestL
  split
  · rw [sumP_len]; exact Nat.le_refl _
  · simp
theorem mk_short {key sg name : List UInt8} {un : Int} {ca : Bool} (hk : key.length ≤ 1000) (hn : name.length ≤ 1000) : shortC (mkC key sg name un ca) := by
  refine ⟨by show key.length ≤ _; omega, by have := digest_le sg; show (digestL sg).length ≤ _; omega, ?_, ?_⟩
  · show (if name = [] then [] else [name]).length ≤ 1000000
    split <;> simp
  · intro n h
    have h' : n ∈ (if name = [] then [] else [name]) := h
    split at h'
    · cases h'
    · simp only [List.mem_singleton] at h'
      subst h'; omega
set_option maxHeartbeats 4000000 in
theorem bytes_any {w : World} (key sg name : List UInt8) (un : Int) (ca : Bool) (hk : key.length ≤ 1000) (hs : sg.length ≤ 1000) (hn : name.length ≤ 1000) (hw : GA w) :
    Calls Tryz.prog 44 #[sv key, sv sg, sv name, .int .i64 un, .bool ca] w fun e w' => e = .returned (sv (encL (mkC key sg name un ca))) ∧ Below w.heap.size w w' := by
  have HD := Lib.hid (@digest_any w sg (by omega) hw.lw)
  have HSH := Lib.hid (mk_short (sg := sg) (un := un) (ca := ca) hk hn)
  have HG := Lib.hid (Ga.start hw)
  obtain ⟨c, hc⟩ : ∃ c, c = mkC key sg name un ca := ⟨_, rfl⟩
  have hc0 : c = ⟨key, digestL sg, if name = [] then [] else [name], 0, un, ca⟩ := hc
  have HEN := Lib.hid (fun (W : World) (A : Option Addr) (cp : Nat) (hx : SX W (.slice A c.names.length cp) c.names) (h : GL W) => @encode_any W c A cp hx (by rw [hc]; exact HSH.out) h)
  unfold certV at HEN
  rw [← hc]
  obtain ⟨t, ht⟩ : ∃ t, t = digestL sg := ⟨_, rfl⟩
  rw [← ht] at HD hc0
  obtain ⟨x, hx⟩ : ∃ x, x = encL c := ⟨_, rfl⟩
  obtain ⟨z, hz⟩ : ∃ z, z = encE c := ⟨_, rfl⟩
  rw [← hx, ← hz] at HEN
  rw [← hx]
  clear hx hz hc ht hw
  by_cases h0 : name = []
  · subst h0
    rw [if_pos rfl] at hc0
    subst hc0
    simp only [List.length_nil] at HEN
    go_enter Tryz.func44, Tryz.ntmps44
    go_wp2_with (first
      | (go_at_call 16; refine HD.out.mono ?_; rintro e w1 ⟨rfl, hb1⟩; have HB1 := Lib.hid (HG.out.step hb1); clear hb1)
      | (go_at_call 18; refine (HEN.out _ none 0 (SX.nil _ _ _) (HB1.out.alloc _).2.gl).mono ?_; rintro e w2 ⟨rfl, hb2⟩; have HB2 := Lib.hid ((HB1.out.alloc _).step hb2); clear hb2))
    go_ret
    exact ⟨rfl, HB2.out.1⟩
  · rw [if_neg h0] at hc0
    have hne : name.isEmpty = false := by simpa using h0
    subst hc0
    simp only [List.length_cons, List.length_nil] at HEN
    clear h0
    go_enter Tryz.func44, Tryz.ntmps44
    go_wp2_with (first
      | (go_at_call 16; refine HD.out.mono ?_; rintro e w1 ⟨rfl, hb1⟩; have HB1 := Lib.hid (HG.out.step hb1); clear hb1)
      | (go_at_call 18; refine (HEN.out _ (some ⟨w1.heap.size + 1, 0, none⟩) 1 (sx_one _ _ name (by simp)) ((HB1.out.alloc _).alloc _).2.gl).mono ?_; rintro e w2 ⟨rfl, hb2⟩; have HB2 := Lib.hid (((HB1.out.alloc _).alloc _).step hb2); clear hb2))
    go_ret
    exact ⟨rfl, HB2.out.1⟩
end Go.Proofs.YtnaoandleelbkaaGreatDoor

namespace Go.Proofs.YtnaoandleelbkaaGreatDoor
set_option linter.unusedSimpArgs false
set_option linter.unusedVariables false
open Go Go.RowKit
set_option maxRecDepth 100000

def caT : List UInt8 := [99, 97]
def mxT : List UInt8 := [109, 120, 46, 98, 46, 101, 120, 97, 109, 112, 108, 101]
def mcT : List UInt8 := [109, 120, 46, 99, 46, 101, 120, 97, 109, 112, 108, 101]
def elT : List UInt8 := [101, 108, 115, 101, 46, 101, 120, 97, 109, 112, 108, 101]
def xC : Ct := mkC kT caT mxT 100 false
def yC : Ct := mkC caT rootT [] 90 true
theorem x_enc : encE xC = 0 := by decide +kernel
theorem y_enc : encE yC = 0 := by decide +kernel
theorem x_dec : decO (encL xC) = some xC := enc_zero_dec x_enc
theorem y_dec : decO (encL yC) = some yC := enc_zero_dec y_enc
theorem xy_chain : chainT [encL xC, encL yC] = [xC, yC] := chainT_map (l := [xC, yC]) (by simp [x_enc, y_enc])
theorem dig_len : (digestL kT).length = 32 := by
  unfold digestL
  rw [if_pos (by decide), sumP_len]
def ownR : Rc := ⟨3, 1, 1, digestL kT⟩
def othR : Rc := ⟨2, 0, 0, encL yC⟩
theorem own_usable : usableB ownR = true := by
  unfold usableB ownR
  simp only [beq_self_eq_true, if_true, dig_len]
  decide
theorem own_of : ofB ownR (encL xC) = true := by
  rw [of_iff]
  refine ⟨own_usable, ?_⟩
  show digestL kT = dataR 3 1 1 (encL xC)
  unfold dataR
  rw [x_dec]
  show digestL kT = makeD 1 1 (encL xC) xC
  unfold digestL
  rw [if_pos (by decide)]
  rfl
theorem oth_of : ofB othR (encL yC) = true := by
  rw [of_iff]
  have h1 := (decO_some y_dec).1
  have h2 := dec_len0 y_dec
  refine ⟨?_, ?_⟩
  · unfold usableB othR
    have : encL yC ≠ [] := fun e => by rw [e] at h2; simp at h2
    rw [if_neg (by decide)]
    simp only [show numB 2 0 0 = true by decide, Bool.true_and, Bool.and_eq_true, decide_eq_true_eq, h1, and_true]
    simpa using this
  · show encL yC = dataR 2 0 0 (encL yC)
    unfold dataR
    rw [y_dec]
    rfl
theorem wk1 : matchR ownR [encL xC] elT 500 = true := by
  rw [(match_own (r := ownR) rfl [encL xC] elT elT 500 500).2]
  show (true && ofB ownR (encL xC)) = true
  rw [own_of]; rfl
theorem xy_link : linkB xC yC = true := by
  unfold linkB
  show (true && digestL caT == digestL caT) = true
  simp
theorem good90 : goodN [xC, yC] 90 = 2 := by
  unfold goodN
  rw [if_neg (by simp), show ctAt [xC, yC] 0 = xC from rfl, if_pos (by decide)]
  simp only [moreN, xy_link, Bool.and_true]
  rw [if_pos (by decide)]
theorem good91 : goodN [xC, yC] 91 = 1 := by
  unfold goodN
  rw [if_neg (by simp), show ctAt [xC, yC] 0 = xC from rfl, if_pos (by decide)]
  simp only [moreN, xy_link, Bool.and_true]
  rw [if_neg (by decide)]
theorem xhost : hostB xC mxT = true := by decide +kernel
theorem xhostc : hostB xC mcT = false := by decide +kernel
theorem wk2 : matchR othR [encL xC, encL yC] mxT 90 = true := by
  unfold matchR vouchL
  rw [if_neg (by decide), xy_chain, good90, if_neg (by rw [show ctAt [xC, yC] 0 = xC from rfl, xhost]; simp)]
  show ([encL yC]).any (ofB othR) = true
  simp [oth_of]
theorem wk3 : matchR othR [encL xC, encL yC] mxT 91 = false := by
  unfold matchR vouchL
  rw [if_neg (by decide), xy_chain, good91, if_neg (by rw [show ctAt [xC, yC] 0 = xC from rfl, xhost]; simp)]
  rfl
theorem wk4 : matchR othR [encL xC, encL yC] mcT 5 = false := by
  unfold matchR vouchL
  rw [if_neg (by decide), xy_chain, if_pos (.inr (by rw [show ctAt [xC, yC] 0 = xC from rfl, xhostc]))]
  rfl
def badL : List Rc := [⟨1, 1, 1, digestL kT⟩, ⟨3, 2, 1, digestL kT⟩, ⟨3, 1, 2, digestL kT⟩, ⟨3, 1, 1, (digestL kT).drop 1⟩]
theorem bad_not (k : Nat) (hk : k < 4) : usableB (rcAt badL k) = false := by
  match k, hk with
  | 0, _ => unfold usableB; rfl
  | 1, _ => unfold usableB; rfl
  | 2, _ => unfold usableB; rfl
  | 3, _ =>
    show usableB ⟨3, 1, 1, (digestL kT).drop 1⟩ = false
    unfold usableB
    simp only [beq_self_eq_true, if_true, List.length_drop, dig_len]
    decide
def shR : Rc := ⟨3, 1, 1, [171, 171]⟩
theorem dec1 : Lib.decDigits 1 = [49] := by rw [Lib.decDigits, dif_pos (by decide)]; rfl
theorem dec3 : Lib.decDigits 3 = [51] := by rw [Lib.decDigits, dif_pos (by decide)]; rfl
theorem wk5 : showR shR = [51, 32, 49, 32, 49, 32, 97, 98, 97, 98] := by
  unfold showR shR
  simp only [dec1, dec3]
  rw [show textD [171, 171] = [97, 98, 97, 98] by decide +kernel]
  rfl
end Go.Proofs.YtnaoandleelbkaaGreatDoor

namespace Go.Proofs.YtnaoandleelbkaaGreatDoor
set_option linter.unusedSimpArgs false
set_option linter.unusedVariables false
open Go Go.RowKit
set_option maxRecDepth 100000

theorem Gu.ga {w W : World} (h : Gu w W) : GA W := h.2.ga
abbrev aggR (r : Rc) : Value := .agg #[.int .u8 (r.us : Int), .int .u8 (r.se : Int), .int .u8 (r.ma : Int), sv r.da]
theorem mt1 {W : World} (r : Rc) (x host : List UInt8) (now : Int) (k : Nat) (hk : k = W.heap.size) (hx : x.length ≤ 1000000) (hh : host.length ≤ 1000000) (hw : GA W) :
    Calls Tryz.prog 49 #[aggR r, .slice (some ⟨k, 0, none⟩) 1 1, sv host, .int .i64 now] (W.alloc (.cells #[sv x] 9)) fun e w' => e = .returned (.bool (matchR r [x] host now)) ∧ Below W.heap.size W w' := by
  have hb := below_alloc W (.cells #[sv x] 9)
  exact (matches_any r [x] (some ⟨k, 0, none⟩) 1 host now (sx_one W k x hk) (fun s hs => by rw [List.mem_singleton.1 hs]; exact hx) (by simp) (by simp) hh (hw.below hb)).mono fun e w' ⟨h1, h2⟩ => ⟨h1, hb.trans (h2.mono hb.size)⟩
theorem sx_two (W : World) (k : Nat) (x y : List UInt8) (hk : k = W.heap.size) : SX (W.alloc (.cells #[sv x, sv y] 9)) (.slice (some ⟨k, 0, none⟩) 2 2) [x, y] := by
  subst hk
  refine ⟨_, _, rfl, fun _ => ⟨_, 0, rfl, by simp, fun j hj => ?_⟩⟩
  rw [cellAt (heap_alloc_new W _), Nat.zero_add]
  match j, hj with
  | 0, _ => rfl
  | 1, _ => rfl
theorem mt2 {W : World} (r : Rc) (x y host : List UInt8) (now : Int) (k : Nat) (hk : k = W.heap.size) (hx : x.length ≤ 1000000) (hy : y.length ≤ 1000000) (hh : host.length ≤ 1000000) (hw : GA W) :
    Calls Tryz.prog 49 #[aggR r, .slice (some ⟨k, 0, none⟩) 2 2, sv host, .int .i64 now] (W.alloc (.cells #[sv x, sv y] 9)) fun e w' => e = .returned (.bool (matchR r [x, y] host now)) ∧ Below W.heap.size W w' := by
  have hb := below_alloc W (.cells #[sv x, sv y] 9)
  exact (matches_any r [x, y] (some ⟨k, 0, none⟩) 2 host now (sx_two W k x y hk) (fun s hs => by
    rcases List.mem_cons.1 hs with rfl | hs
    · exact hx
    · rw [List.mem_singleton.1 hs]; exact hy) (by simp) (by simp) hh (hw.below hb)).mono fun e w' ⟨h1, h2⟩ => ⟨h1, hb.trans (h2.mono hb.size)⟩
/-- What lies by in the examples: the two records. -/
structure WK (w W : World) (k3 k4 : Nat) (d y : List UInt8) : Prop where
  gu : Gu w W
  b3 : RB W k3 ⟨3, 1, 1, d⟩
  b4 : RB W k4 ⟨2, 0, 0, y⟩
theorem WK.ga {w W : World} {k3 k4 : Nat} {d y : List UInt8} (h : WK w W k3 k4 d y) : GA W := h.gu.2.ga
theorem WK.step {w W W' : World} {k3 k4 : Nat} {d y : List UInt8} (h : WK w W k3 k4 d y) (hb : Below W.heap.size W W') : WK w W' k3 k4 d y := ⟨h.gu.step hb, h.b3.step hb, h.b4.step hb⟩
theorem WK.drew {w W : World} {k3 k4 : Nat} {d y : List UInt8} (h : WK w W k3 k4 d y) : WK w W.drew k3 k4 d y := h.step (Below.refl _ _).drew
theorem wk_start {w W : World} (hg : Gu w W) (d y : List UInt8) : WK w ((W.alloc (cellsR ⟨3, 1, 1, d⟩)).alloc (cellsR ⟨2, 0, 0, y⟩)) W.heap.size (W.heap.size + 1) d y :=
  ⟨(hg.step (below_alloc _ _)).step (below_alloc _ _), (RB.new W _).step (below_alloc _ _), by have := RB.new (W.alloc (cellsR ⟨3, 1, 1, d⟩)) ⟨2, 0, 0, y⟩; rwa [World.size_alloc] at this⟩
/-- The row of those that are not usable. -/
theorem bad_row {w W : World} {k3 k4 : Nat} {d y : List UInt8} (h : WK w W k3 k4 d y) (d1 : List UInt8) : WK w (W.alloc (.cells #[.int .u8 1, .int .u8 1, .int .u8 1, sv d, .int .u8 3, .int .u8 2, .int .u8 1, sv d, .int .u8 3, .int .u8 1, .int .u8 2, sv d, .int .u8 3, .int .u8 1, .int .u8 1, sv d1] 65)).drew k3 k4 d y ∧
    RR (W.alloc (.cells #[.int .u8 1, .int .u8 1, .int .u8 1, sv d, .int .u8 3, .int .u8 2, .int .u8 1, sv d, .int .u8 3, .int .u8 1, .int .u8 2, sv d, .int .u8 3, .int .u8 1, .int .u8 1, sv d1] 65)).drew (some ⟨W.heap.size, 0, none⟩) [⟨1, 1, 1, d⟩, ⟨3, 2, 1, d⟩, ⟨3, 1, 2, d⟩, ⟨3, 1, 1, d1⟩] := by
  have ho : RO W.heap.size (W.alloc (.cells #[.int .u8 1, .int .u8 1, .int .u8 1, sv d, .int .u8 3, .int .u8 2, .int .u8 1, sv d, .int .u8 3, .int .u8 1, .int .u8 2, sv d, .int .u8 3, .int .u8 1, .int .u8 1, sv d1] 65)) (.slice (some ⟨W.heap.size, 0, none⟩) 4 4) [⟨1, 1, 1, d⟩, ⟨3, 2, 1, d⟩, ⟨3, 1, 2, d⟩, ⟨3, 1, 1, d1⟩] :=
    World.ownsRow_lit W _ 4 (Nat.le_refl _) (by decide) rfl
  exact ⟨(h.step (below_alloc _ _)).drew, ho.rr.step (Below.refl _ _).drew⟩
theorem WK.bw {w W : World} {k3 k4 : Nat} {d y : List UInt8} (h : WK w W k3 k4 d y) : Below w.heap.size w W := h.gu.1
set_option maxHeartbeats 16000000 in
theorem works16_any {w : World} (hw : GU w) : Calls Tryz.prog 45 #[] w fun e w' => e = .returned (.bool true) ∧ Below w.heap.size w w' := by
  have HBX := Lib.hid (fun (W : World) (h : GA W) => show Calls Tryz.prog 44 #[.string { data := #[107] }, .string { data := #[99, 97] }, .string { data := #[109, 120, 46, 98, 46, 101, 120, 97, 109, 112, 108, 101] }, .int .i64 100, .bool false] W fun e w' => e = .returned (sv (encL xC)) ∧ Below W.heap.size W w' from bytes_any kT caT mxT 100 false (by decide) (by decide) (by decide) h)
  have HBY := Lib.hid (fun (W : World) (h : GA W) => show Calls Tryz.prog 44 #[.string { data := #[99, 97] }, .string { data := #[114, 111, 111, 116] }, .string { data := #[] }, .int .i64 90, .bool true] W fun e w' => e = .returned (sv (encL yC)) ∧ Below W.heap.size W w' from bytes_any caT rootT [] 90 true (by decide) (by decide) (by decide) h)
  have HDG := Lib.hid (fun (W : World) (h : LWc W) => show Calls Tryz.prog 16 #[.string { data := #[107] }] W fun e w' => e = .returned (sv (digestL kT)) ∧ Below W.heap.size W w' from @digest_any W kT (by decide) h)
  have hxl : (encL xC).length ≤ 1000000 := by have := (decO_some x_dec).1; omega
  have hyl : (encL yC).length ≤ 1000000 := by have := (decO_some y_dec).1; omega
  have HM1 := Lib.hid (fun (W : World) (k : Nat) (hk : k = W.heap.size) (h : GA W) => show Calls Tryz.prog 49 #[.agg #[.int .u8 3, .int .u8 1, .int .u8 1, sv (digestL kT)], .slice (some ⟨k, 0, none⟩) 1 1, .string { data := #[101, 108, 115, 101, 46, 101, 120, 97, 109, 112, 108, 101] }, .int .i64 500] (W.alloc (.cells #[sv (encL xC)] 9)) fun e w' => e = .returned (.bool true) ∧ Below W.heap.size W w' by
    have := mt1 ownR (encL xC) elT 500 k hk hxl (by decide) h
    rw [wk1] at this; exact this)
  have HM2 := Lib.hid (fun (W : World) (k : Nat) (hk : k = W.heap.size) (h : GA W) => show Calls Tryz.prog 49 #[.agg #[.int .u8 2, .int .u8 0, .int .u8 0, sv (encL yC)], .slice (some ⟨k, 0, none⟩) 2 2, .string { data := #[109, 120, 46, 98, 46, 101, 120, 97, 109, 112, 108, 101] }, .int .i64 90] (W.alloc (.cells #[sv (encL xC), sv (encL yC)] 9)) fun e w' => e = .returned (.bool true) ∧ Below W.heap.size W w' by
    have := mt2 othR (encL xC) (encL yC) mxT 90 k hk hxl hyl (by decide) h
    rw [wk2] at this; exact this)
  have HM3 := Lib.hid (fun (W : World) (k : Nat) (hk : k = W.heap.size) (h : GA W) => show Calls Tryz.prog 49 #[.agg #[.int .u8 2, .int .u8 0, .int .u8 0, sv (encL yC)], .slice (some ⟨k, 0, none⟩) 2 2, .string { data := #[109, 120, 46, 98, 46, 101, 120, 97, 109, 112, 108, 101] }, .int .i64 91] (W.alloc (.cells #[sv (encL xC), sv (encL yC)] 9)) fun e w' => e = .returned (.bool false) ∧ Below W.heap.size W w' by
    have := mt2 othR (encL xC) (encL yC) mxT 91 k hk hxl hyl (by decide) h
    rw [wk3] at this; exact this)
  have HM4 := Lib.hid (fun (W : World) (k : Nat) (hk : k = W.heap.size) (h : GA W) => show Calls Tryz.prog 49 #[.agg #[.int .u8 2, .int .u8 0, .int .u8 0, sv (encL yC)], .slice (some ⟨k, 0, none⟩) 2 2, .string { data := #[109, 120, 46, 99, 46, 101, 120, 97, 109, 112, 108, 101] }, .int .i64 5] (W.alloc (.cells #[sv (encL xC), sv (encL yC)] 9)) fun e w' => e = .returned (.bool false) ∧ Below W.heap.size W w' by
    have := mt2 othR (encL xC) (encL yC) mcT 5 k hk hxl hyl (by decide) h
    rw [wk4] at this; exact this)
  have HUB := Lib.hid (fun (W : World) (k : Nat) (hk : k < 4) => by
    have := @usable_any W (rcAt badL k)
    rw [bad_not k hk] at this; exact this)
  have HOB := Lib.hid (fun (W : World) (k : Nat) (hk : k < 4) (h : GA W) => by
    have := @of_any W (rcAt badL k) (encL xC) (by omega) h
    rw [of_not (bad_not k hk)] at this; exact this)
  have HMB := Lib.hid (fun (W : World) (q : Nat) (hq : q < 4) (k : Nat) (hk : k = W.heap.size) (h : GA W) => show Calls Tryz.prog 49 #[aggR (rcAt badL q), .slice (some ⟨k, 0, none⟩) 1 1, .string { data := #[109, 120, 46, 98, 46, 101, 120, 97, 109, 112, 108, 101] }, .int .i64 5] (W.alloc (.cells #[sv (encL xC)] 9)) fun e w' => e = .returned (.bool false) ∧ Below W.heap.size W w' by
    have := mt1 (rcAt badL q) (encL xC) mxT 5 k hk hxl (by decide) h
    rw [match_none (bad_not q hq)] at this; exact this)
  have HSH := Lib.hid (fun (W : World) (h : GU W) => show Calls Tryz.prog 53 #[.agg #[.int .u8 3, .int .u8 1, .int .u8 1, .string { data := #[171, 171] }]] W fun e w' => e = .returned (.string { data := #[51, 32, 49, 32, 49, 32, 97, 98, 97, 98] }) ∧ Below W.heap.size W w' by
    have := show_u shR ⟨by decide, by decide, by decide⟩ (by decide) h
    rw [wk5] at this; exact this)
  have hdl := dig_len
  have HBAD := Lib.hid (show badL = [⟨1, 1, 1, digestL kT⟩, ⟨3, 2, 1, digestL kT⟩, ⟨3, 1, 2, digestL kT⟩, ⟨3, 1, 1, (digestL kT).drop 1⟩] from rfl)
  have HG := Lib.hid (Gu.start hw)
  obtain ⟨d, hd⟩ : ∃ d, d = digestL kT := ⟨_, rfl⟩
  obtain ⟨x, hx⟩ : ∃ x, x = encL xC := ⟨_, rfl⟩
  obtain ⟨y, hy⟩ : ∃ y, y = encL yC := ⟨_, rfl⟩
  have hex : (str d).extract 1 32 = str (d.drop 1) := by
    rw [str_extract, List.take_of_length_le (by rw [hd, hdl]; exact Nat.le_refl _)]
  rw [← hd] at HDG HM1 hdl HBAD
  obtain ⟨d1, hd1⟩ : ∃ d1, d1 = d.drop 1 := ⟨_, rfl⟩
  rw [← hd1] at HBAD hex
  rw [← hx] at HBX HM1 HM2 HM3 HM4 HOB HMB
  rw [← hy] at HBY HM2 HM3 HM4
  clear hw hxl hyl hd hx hy hd1
  go_enter Tryz.func45, Tryz.ntmps45
  go_wp2_with (first
    | (go_at_call 44; (with_reducible refine (HBX.out _ HG.out.ga).mono ?_); rintro e w1 ⟨rfl, hb1⟩; have HG1 := Lib.hid (HG.out.step hb1); clear hb1)
    | (go_at_call 44; (with_reducible refine (HBY.out _ HG1.out.ga).mono ?_); rintro e w2 ⟨rfl, hb2⟩; have HG2 := Lib.hid (HG1.out.step hb2); clear hb2)
    | (go_at_call 16; refine (HDG.out _ HG2.out.2.ga.lw).mono ?_; rintro e w3 ⟨rfl, hb3⟩; have HG3 := Lib.hid (HG2.out.step hb3); clear hb3; have HK0 := Lib.hid (wk_start HG3.out d y))
    | (go_at_call 49; (with_reducible refine (HM2.out _ _ rfl HK1.out.ga).mono ?_); rintro e w5 ⟨rfl, hb5⟩; have HK2 := Lib.hid (HK1.out.step hb5); have e0 := HK2.out.b4.c0; have e1 := HK2.out.b4.c1; have e2 := HK2.out.b4.c2; have e3 := HK2.out.b4.c3; clear hb5)
    | (go_at_call 49; (with_reducible refine (HM3.out _ _ rfl HK2.out.ga).mono ?_); rintro e w6 ⟨rfl, hb6⟩; have HK3 := Lib.hid (HK2.out.step hb6); have q0 := HK3.out.b4.c0; have q1 := HK3.out.b4.c1; have q2 := HK3.out.b4.c2; have q3 := HK3.out.b4.c3; clear hb6)
    | (go_at_call 49; (with_reducible refine (HM4.out _ _ rfl HK3.out.ga).mono ?_); rintro e w7 ⟨rfl, hb7⟩; have HK4 := Lib.hid (HK3.out.step hb7); clear hb7)
    | (go_at_call 49; refine (HM1.out _ _ (by simp) HK0.out.ga).mono ?_; rintro e w4 ⟨rfl, hb4⟩; have HK1 := Lib.hid (HK0.out.step hb4); have a0 := HK1.out.b4.c0; have a1 := HK1.out.b4.c1; have a2 := HK1.out.b4.c2; have a3 := HK1.out.b4.c3; clear hb4))
  refine wp_region_held_drew (S := fun W => WK w W w3.heap.size (w3.heap.size + 1) d y) (by kernel_rfl) HK4.out.drew (fun hHeld => ?_)
  refine wpAnyH_take (i := 0) (v := ?vv0_1) rfl (by kernel_rfl) (by kernel_rfl) (by kernel_rfl) (fun _ _ _ h => h) (Or.inl ⟨by rfl, ?hy0_1⟩) (by assumption) ?rest0_1
  case hy0_1 => (intro w' hSw; (try dsimp only at hSw); go_simp; try with_reducible rfl)
  try simp only [List.getElem_toArray, List.getElem_cons_zero, List.getElem_cons_succ, Act.put, List.setIfInBounds_toArray, List.set_cons_zero, List.set_cons_succ]
  refine wpAnyH_take (i := 1) (v := sv d) rfl (by kernel_rfl) (by kernel_rfl) (by kernel_rfl) (fun _ _ _ h => h) (Or.inl ⟨by rfl, fun w' hSw => exec_load1 w' rfl rfl hSw.b3.c3 Tryz.underlying9 rfl⟩) (by assumption) ?_
  try simp only [List.getElem_toArray, List.getElem_cons_zero, List.getElem_cons_succ, Act.put, List.setIfInBounds_toArray, List.set_cons_zero, List.set_cons_succ]
  refine wpAnyH_take (i := 3) (v := ?vv3_1) rfl (by kernel_rfl) (by kernel_rfl) (by kernel_rfl) (fun _ _ _ h => h) (Or.inl ⟨by rfl, ?hy3_1⟩) (by assumption) ?rest3_1
  case hy3_1 => (intro w' hSw; (try dsimp only at hSw); go_simp; try with_reducible rfl)
  try simp only [List.getElem_toArray, List.getElem_cons_zero, List.getElem_cons_succ, Act.put, List.setIfInBounds_toArray, List.set_cons_zero, List.set_cons_succ]
  refine wpAnyH_take (i := 4) (v := sv d) rfl (by kernel_rfl) (by kernel_rfl) (by kernel_rfl) (fun _ _ _ h => h) (Or.inl ⟨by rfl, fun w' hSw => exec_load1 w' rfl rfl hSw.b3.c3 Tryz.underlying9 rfl⟩) (by assumption) ?_
  try simp only [List.getElem_toArray, List.getElem_cons_zero, List.getElem_cons_succ, Act.put, List.setIfInBounds_toArray, List.set_cons_zero, List.set_cons_succ]
  refine wpAnyH_take (i := 6) (v := ?vv6_1) rfl (by kernel_rfl) (by kernel_rfl) (by kernel_rfl) (fun _ _ _ h => h) (Or.inl ⟨by rfl, ?hy6_1⟩) (by assumption) ?rest6_1
  case hy6_1 => (intro w' hSw; (try dsimp only at hSw); go_simp; try with_reducible rfl)
  try simp only [List.getElem_toArray, List.getElem_cons_zero, List.getElem_cons_succ, Act.put, List.setIfInBounds_toArray, List.set_cons_zero, List.set_cons_succ]
  refine wpAnyH_take (i := 7) (v := sv d) rfl (by kernel_rfl) (by kernel_rfl) (by kernel_rfl) (fun _ _ _ h => h) (Or.inl ⟨by rfl, fun w' hSw => exec_load1 w' rfl rfl hSw.b3.c3 Tryz.underlying9 rfl⟩) (by assumption) ?_
  try simp only [List.getElem_toArray, List.getElem_cons_zero, List.getElem_cons_succ, Act.put, List.setIfInBounds_toArray, List.set_cons_zero, List.set_cons_succ]
  refine wpAnyH_take (i := 9) (v := ?vv9_1) rfl (by kernel_rfl) (by kernel_rfl) (by kernel_rfl) (fun _ _ _ h => h) (Or.inl ⟨by rfl, ?hy9_1⟩) (by assumption) ?rest9_1
  case hy9_1 => (intro w' hSw; (try dsimp only at hSw); go_simp; try with_reducible rfl)
  try simp only [List.getElem_toArray, List.getElem_cons_zero, List.getElem_cons_succ, Act.put, List.setIfInBounds_toArray, List.set_cons_zero, List.set_cons_succ]
  refine wpAnyH_take (i := 10) (v := sv d) rfl (by kernel_rfl) (by kernel_rfl) (by kernel_rfl) (fun _ _ _ h => h) (Or.inl ⟨by rfl, fun w' hSw => exec_load1 w' rfl rfl hSw.b3.c3 Tryz.underlying9 rfl⟩) (by assumption) ?_
  try simp only [List.getElem_toArray, List.getElem_cons_zero, List.getElem_cons_succ, Act.put, List.setIfInBounds_toArray, List.set_cons_zero, List.set_cons_succ]
  refine wpAnyH_take (i := 2) (v := ?vv2_1) rfl (by kernel_rfl) (by kernel_rfl) (by kernel_rfl) (fun _ _ _ h => h) (Or.inl ⟨by rfl, ?hy2_1⟩) (by assumption) ?rest2_1
  case hy2_1 => (intro w' hSw; (try dsimp only at hSw); go_simp; try with_reducible rfl)
  try simp only [List.getElem_toArray, List.getElem_cons_zero, List.getElem_cons_succ, Act.put, List.setIfInBounds_toArray, List.set_cons_zero, List.set_cons_succ]
  refine wpAnyH_take (i := 5) (v := ?vv5_1) rfl (by kernel_rfl) (by kernel_rfl) (by kernel_rfl) (fun _ _ _ h => h) (Or.inl ⟨by rfl, ?hy5_1⟩) (by assumption) ?rest5_1
  case hy5_1 => (intro w' hSw; (try dsimp only at hSw); go_simp; try with_reducible rfl)
  try simp only [List.getElem_toArray, List.getElem_cons_zero, List.getElem_cons_succ, Act.put, List.setIfInBounds_toArray, List.set_cons_zero, List.set_cons_succ]
  refine wpAnyH_take (i := 8) (v := ?vv8_1) rfl (by kernel_rfl) (by kernel_rfl) (by kernel_rfl) (fun _ _ _ h => h) (Or.inl ⟨by rfl, ?hy8_1⟩) (by assumption) ?rest8_1
  case hy8_1 => (intro w' hSw; (try dsimp only at hSw); go_simp; try with_reducible rfl)
  try simp only [List.getElem_toArray, List.getElem_cons_zero, List.getElem_cons_succ, Act.put, List.setIfInBounds_toArray, List.set_cons_zero, List.set_cons_succ]
  refine wpAnyH_take (i := 11) (v := ?vv11_1) rfl (by kernel_rfl) (by kernel_rfl) (by kernel_rfl) (fun _ _ _ h => h) (Or.inl ⟨by rfl, ?hy11_1⟩) (by assumption) ?rest11_1
  case hy11_1 => (intro w' hSw; (try dsimp only at hSw); go_simp; try with_reducible rfl)
  try simp only [List.getElem_toArray, List.getElem_cons_zero, List.getElem_cons_succ, Act.put, List.setIfInBounds_toArray, List.set_cons_zero, List.set_cons_succ]
  refine wpAnyH_take (i := 12) (v := ?vv12_1) rfl (by kernel_rfl) (by kernel_rfl) (by kernel_rfl) (fun _ _ _ h => h) (Or.inl ⟨by rfl, ?hy12_1⟩) (by assumption) ?rest12_1
  case hy12_1 => (intro w' hSw; (try dsimp only at hSw); go_simp; try with_reducible rfl)
  try simp only [List.getElem_toArray, List.getElem_cons_zero, List.getElem_cons_succ, Act.put, List.setIfInBounds_toArray, List.set_cons_zero, List.set_cons_succ]
  refine wpAnyH_take (i := 15) (v := ?vv15_1) rfl (by kernel_rfl) (by kernel_rfl) (by kernel_rfl) (fun _ _ _ h => h) (Or.inl ⟨by rfl, ?hy15_1⟩) (by assumption) ?rest15_1
  case hy15_1 => (intro w' hSw; (try dsimp only at hSw); go_simp; try with_reducible rfl)
  try simp only [List.getElem_toArray, List.getElem_cons_zero, List.getElem_cons_succ, Act.put, List.setIfInBounds_toArray, List.set_cons_zero, List.set_cons_succ]
  refine wpAnyH_ready (rs := [13]) (by kernel_rfl) (by simp) ?_
  refine AllReadyH.cons rfl (fun K hK => ?_) AllReadyH.nil
  go_simp
  have hp9 := bad_row HK4.out d1
  have HRW := Lib.hid hp9.2
  refine hK.out _ _ hp9.1 (fun hHeld => ?_)
  clear hK K
  try simp only [List.getElem_toArray, List.getElem_cons_zero, List.getElem_cons_succ, Act.put, List.setIfInBounds_toArray, List.set_cons_zero, List.set_cons_succ]
  refine wpAnyH_take (i := 14) (v := ?vv14_1) rfl (by kernel_rfl) (by kernel_rfl) (by kernel_rfl) (fun _ _ _ h => h) (Or.inl ⟨by rfl, ?hy14_1⟩) (by assumption) ?rest14_1
  case hy14_1 => (intro w' hSw; (try dsimp only at hSw); go_simp; try with_reducible rfl)
  try simp only [List.getElem_toArray, List.getElem_cons_zero, List.getElem_cons_succ, Act.put, List.setIfInBounds_toArray, List.set_cons_zero, List.set_cons_succ]
  refine wpAnyH_done (by kernel_rfl) ?_ _
  have HKB := Lib.hid hHeld
  clear hHeld
  go_wp2_with fail
  go_loopw [55] (fun i wr => ∃ k : Nat, k ≤ 4 ∧ i = .int .i64 (k : Int) ∧ WK w wr w3.heap.size (w3.heap.size + 1) d y ∧ RR wr (some ⟨w7.heap.size, 0, none⟩) badL) (fun i _ => 4 - (intOf i).toNat)
  case atStart => exact ⟨0, by omega, rfl, HKB.out, by rw [HBAD.out]; exact HRW.out⟩
  case round =>
    clear HKB HRW
    obtain ⟨k, hk, rfl, hwk, hrr⟩ := hrel
    have HWK := Lib.hid hwk
    have HRR := Lib.hid hrr
    clear hwk hrr
    by_cases hlt : k < 4
    · have hlt' : (k : Int) < 4 := by omega
      obtain ⟨r, hr⟩ : ∃ r, r = rcAt badL k := ⟨_, rfl⟩
      obtain ⟨g, off, e, hg, p0, p1, p2, p3⟩ := HRR.out.at (show k < badL.length from hlt) hr.symm
      cases e
      rw [Nat.zero_add] at p0 p1 p2 p3
      have HU := Lib.hid (fun W => HUB.out W k hlt)
      have HO := Lib.hid (fun W h => HOB.out W k hlt h)
      have HM := Lib.hid (fun W q hq h => HMB.out W k hlt q hq h)
      rw [← hr] at HU HO HM
      have HRB := Lib.hid (RB.new wr r)
      have HB0 := Lib.hid (HWK.out.step (below_alloc wr (cellsR r)))
      clear hr
      go_wp2_with (first
        | (go_at_call 46; refine (HU.out _).mono ?_; rintro e w8 ⟨rfl, hb8⟩; have HW8 := Lib.hid (HB0.out.step hb8); have HR8 := Lib.hid (HRB.out.step hb8); have HQ8 := Lib.hid ((HRR.out.step (below_alloc _ _)).step hb8); have a0 := HR8.out.c0; have a1 := HR8.out.c1; have a2 := HR8.out.c2; have a3 := HR8.out.c3; clear hb8)
        | (go_at_call 58; refine (HO.out _ HW8.out.ga).mono ?_; rintro e w9 ⟨rfl, hb9⟩; have HW9 := Lib.hid (HW8.out.step hb9); have HR9 := Lib.hid (HR8.out.step hb9); have HQ9 := Lib.hid (HQ8.out.step hb9); have b0 := HR9.out.c0; have b1 := HR9.out.c1; have b2 := HR9.out.c2; have b3 := HR9.out.c3; clear hb9)
        | (go_at_call 49; refine (HM.out _ _ rfl HW9.out.ga).mono ?_; rintro e wa ⟨rfl, hba⟩; have HWa := Lib.hid (HW9.out.step hba); have HQa := Lib.hid (HQ9.out.step hba); clear hba))
      go_roundw
      case rel => exact ⟨k + 1, by omega, by go_num, HWa.out, HQa.out⟩
      case measure => simp [intOf]; omega
    · obtain rfl : k = 4 := by omega
      rw [show ((4 : Nat) : Int) = 4 from rfl]
      go_wp2_with (go_at_call 53; refine (HSH.out _ HWK.out.gu.2).mono ?_; rintro e w8 ⟨rfl, hb8⟩; have HW8 := Lib.hid (HWK.out.step hb8); clear hb8)
      go_ret
      exact ⟨rfl, HW8.out.bw⟩
end Go.Proofs.YtnaoandleelbkaaGreatDoor
