/-
  For ReplyNames: the lists of its examples, what is told of them; a reader that is handed one line many times.
-/
import Derived.Test.YtbpdbfllkehciaaDoorYNil
namespace Go.Proofs.YtbpdbfllkehciaaDoor
open Go Go.RowKit Go.Shelf
set_option maxRecDepth 100000

def bad15 : List (List UInt8) := [[], [50], [50, 53], [49, 57, 57], [54, 48, 48, 32, 120], [50, 57, 57], [50, 97, 48, 32, 120], [50, 48, 97, 32, 120], [50, 53, 48, 9, 120], [50, 53, 48, 32, 1], [50, 53, 48, 45, 127], [50, 53, 48, 32, 128], [50, 53, 48, 32, 97, 13], [32, 50, 53, 48, 32, 120], [45, 50, 53, 48]]
def good6 : List (List UInt8 × Nat × Bool × List UInt8) := [([50, 48, 48], 200, false, []), ([53, 53, 57, 32], 559, false, []), ([51, 53, 52, 45], 354, true, []), ([50, 53, 48, 32, 32, 97], 250, false, [32, 97]), ([52, 50, 49, 32, 126, 9, 33], 421, false, [126, 9, 33]), ([50, 53, 48, 45, 45], 250, true, [45])]
def stat14 : List (List UInt8 × List UInt8) := [([50, 53, 48, 32, 50, 46, 48, 46, 48], [50, 46, 48, 46, 48]), ([50, 53, 48, 32, 50, 46, 49, 48, 46, 57, 57, 57, 32, 120], [50, 46, 49, 48, 46, 57, 57, 57]), ([50, 53, 48, 32, 50, 46, 48, 49, 46, 48, 32, 120], []), ([50, 53, 48, 32, 50, 46, 48, 46, 49, 48, 48, 48, 32, 120], []), ([50, 53, 48, 32, 50, 46, 48], []), ([50, 53, 48, 32, 50, 46, 48, 46], []), ([50, 53, 48, 32, 50, 46, 46, 48], []), ([50, 53, 48, 32, 50, 46, 48, 46, 48, 120], []), ([50, 53, 48, 32, 50, 46, 48, 46, 48, 9, 120], []), ([51, 53, 52, 32, 51, 46, 48, 46, 48, 32, 120], []), ([53, 53, 48, 32, 53, 46, 55, 46, 51, 48, 32, 120], [53, 46, 55, 46, 51, 48]), ([50, 53, 48, 32, 32, 50, 46, 48, 46, 48], []), ([50, 53, 48, 32, 50, 50, 46, 48, 46, 48, 32, 120], []), ([52, 53, 48], [])]
def cls8 : List (Int × Int) := [(199, 0), (200, 2), (299, 2), (599, 5), (600, 0), (-250, 0), (0, 0), (354, 3)]
theorem bad15_no : ∀ k, k < 15 → okForm (bad15.getD k []) = false := by decide +kernel
theorem bad15_len : ∀ k, k < 15 → (bad15.getD k []).length ≤ 1000000 := by decide +kernel
theorem good6_len : ∀ k, k < 6 → (good6.getD k ([], 0, false, [])).1.length ≤ 1000000 := by decide +kernel
theorem good6_is : ∀ k, k < 6 → parseV (good6.getD k ([], 0, false, [])).1 = .tuple #[.int .i64 ((good6.getD k ([], 0, false, [])).2.1 : Int), .bool (good6.getD k ([], 0, false, [])).2.2.1, sv (good6.getD k ([], 0, false, [])).2.2.2, .int .i64 0] := by
  intro k hk
  rcases (show k = 0 ∨ k = 1 ∨ k = 2 ∨ k = 3 ∨ k = 4 ∨ k = 5 by omega) with rfl | rfl | rfl | rfl | rfl | rfl
  all_goals kernel_rfl
theorem stat14_is : ∀ k, k < 14 → statL (stat14.getD k ([], [])).1 = (stat14.getD k ([], [])).2 := by decide +kernel
theorem stat14_len : ∀ k, k < 14 → (stat14.getD k ([], [])).1.length ≤ 1000000 := by decide +kernel
theorem cls8_is : ∀ k, k < 8 → classZ (cls8.getD k (0, 0)).1 = (cls8.getD k (0, 0)).2 := by decide +kernel
theorem cls8_in : ∀ k, k < 8 → -9223372036854775808 ≤ (cls8.getD k (0, 0)).1 ∧ (cls8.getD k (0, 0)).1 ≤ 9223372036854775807 := by decide +kernel

/-- k lines have come, all but the last of a reply. -/
def lineS (c0 : Nat) (k : Nat) : RS := ⟨List.replicate k [120], if k = 0 then c0 else 250, 0, [], [], false⟩
theorem bad_x (c0 k : Nat) (s : List UInt8) (hf : okForm s = true) (hc : codeR s = 250) : badL (lineS c0 k) s = false := by
  unfold badL lineS
  rw [hf, hc]
  cases k with
  | zero => rfl
  | succ k => simp
theorem more_step (c0 k : Nat) (hk : k < 32) : doneR (lineS c0 k) [50, 53, 48, 45, 120] = false ∧ errR (lineS c0 k) [50, 53, 48, 45, 120] = 0 ∧ stepR (lineS c0 k) [50, 53, 48, 45, 120] = lineS c0 (k + 1) := by
  have hb := bad_x c0 k [50, 53, 48, 45, 120] (by decide +kernel) (by decide +kernel)
  have h32 : ¬ ((lineS c0 k).ls.length = 32) := by unfold lineS; simp; omega
  have hm : moreR [50, 53, 48, 45, 120] = true := by decide +kernel
  have hd : (lineS c0 k).d = false := rfl
  unfold doneR errR stepR
  rw [hb, if_neg h32, if_neg h32, hm, hd]
  refine ⟨by simp, rfl, ?_⟩
  show RS.mk (List.replicate k [120] ++ [textR [50, 53, 48, 45, 120]]) _ _ _ _ _ = RS.mk _ _ _ _ _ _
  rw [show textR [50, 53, 48, 45, 120] = [120] by decide +kernel, ← List.replicate_succ', show codeR [50, 53, 48, 45, 120] = 250 by decide +kernel, if_neg (Nat.succ_ne_zero k)]
  rfl
def wholeS : RS := ⟨[], 250, 250, [], List.replicate 32 [120], false⟩
theorem last_step31 : doneR (lineS 0 31) [50, 53, 48, 32, 120] = true ∧ errR (lineS 0 31) [50, 53, 48, 32, 120] = 0 ∧ stepR (lineS 0 31) [50, 53, 48, 32, 120] = wholeS := ⟨by kernel_rfl, by kernel_rfl, by kernel_rfl⟩
theorem last_step32 : doneR (lineS 250 32) [50, 53, 48, 32, 120] = false ∧ errR (lineS 250 32) [50, 53, 48, 32, 120] = 40 ∧ (stepR (lineS 250 32) [50, 53, 48, 32, 120]).d = true ∧ (stepR (lineS 250 32) [50, 53, 48, 32, 120]).lc = 0 ∧ (stepR (lineS 250 32) [50, 53, 48, 32, 120]).lst = [] ∧ (stepR (lineS 250 32) [50, 53, 48, 32, 120]).lls = [] := ⟨by kernel_rfl, by kernel_rfl, by kernel_rfl, by kernel_rfl, by kernel_rfl, by kernel_rfl⟩
theorem show32 : showN 250 (List.replicate 32 [120]) = 32 := by decide +kernel
theorem show33 : showN 250 (List.replicate 32 [120] ++ [[120]]) = 0 := by decide +kernel
theorem show0 : showN 250 [] = 0 := by decide +kernel
theorem show260 : showN 260 [[120]] = 0 := by decide +kernel
theorem showLF : showN 250 [[97], [10]] = 0 := by decide +kernel
theorem rep_len (k : Nat) : ((List.replicate 32 ([120] : List UInt8)).getD k []).length ≤ 100000 := by
  rw [List.getD_eq_getElem?_getD, List.getElem?_replicate]
  split <;> simp
theorem step_dead' {st : RS} (h : st.d = true) (s : List UInt8) : stepR st s = st := by unfold stepR; rw [if_pos h]
theorem done_dead' {st : RS} (h : st.d = true) (s : List UInt8) : doneR st s = false := by unfold doneR; rw [h]; rfl
theorem err_dead' {st : RS} (h : st.d = true) (s : List UInt8) : errR st s = 7 := by unfold errR; rw [if_pos h]
/-- Blocks that were made one behind the other. -/
theorem alloc_at {w W : World} {os : Array Obj} (h : W.heap = w.heap ++ os) (k : Nat) (hk : k < os.size) : W.heap[w.heap.size + k]? = os[k]? := by
  rw [h, Array.getElem?_append_right (by omega)]
  congr 1
  omega
/-- A reader, and a variable that holds a reply. -/
structure NP (w W : World) (b : Nat) (F : List Nat) (st : RS) (kx lc : Nat) (lst : List UInt8) (u : Value) (G : List Nat) (xs : List (List UInt8)) : Prop where
  bl : BL w W
  r : Rd w.heap.size W b F st
  box : Bk W kx lc lst u
  row : Rw w.heap.size W G u xs
  kf : kx ∉ F
  kg : kx ∉ G
  gf : ∀ k ∈ G, k ∉ F
  gu : ∀ k ∈ G, w.heap.size ≤ k ∧ 3 ≤ k
  kb : w.heap.size ≤ kx ∧ 3 ≤ kx
section
variable {w W W' W2 : World} {b kx lc : Nat} {F F' G : List Nat} {st st' : RS} {lst : List UInt8} {u : Value} {xs : List (List UInt8)}
theorem NP.turnR (h : NP w W b F st kx lc lst u G xs) (hr : Rd w.heap.size W' b F' st') (hb : BL w W') (hk : Kp F W W') (hn : Nw W F F') : NP w W' b F' st' kx lc lst u G xs :=
  ⟨hb, hr, h.box.kp hk h.kf, h.row.kp hk h.gf, hn.not h.box.lt h.kf, h.kg, hn.all h.row.lt h.gf, h.gu, h.kb⟩
theorem NP.below (h : NP w W b F st kx lc lst u G xs) (hb : Below W.heap.size W W') : NP w W' b F st kx lc lst u G xs :=
  ⟨h.bl.step hb, h.r.below hb, h.box.below hb, h.row.below hb, h.kf, h.kg, h.gf, h.gu, h.kb⟩
/-- The variable's row gets one text more. -/
theorem NP.append (h : NP w W b F st kx lc lst u G xs) (t : List UInt8) (C : Array Value) {g cap : Nat}
    (hown : W2.ownsRow w.heap.size 9 1 (.slice (some ⟨g, 0, none⟩) (xs.length + 1) cap) (xs.length + 1) ((xs ++ [t]).map sv)) (hgr : (W.alloc (.cells C 9)).grownBy W2 u.ownBlock) (hor : u.ownBlock = some g ∨ g = W.heap.size + 1) (hlt : g < W2.heap.size) :
    Bk W2 kx lc lst u ∧ NP w (W2.setCell ⟨kx, 2, none⟩ (.slice (some ⟨g, 0, none⟩) (xs.length + 1) cap)) b F st kx lc lst (.slice (some ⟨g, 0, none⟩) (xs.length + 1) cap) [g] (xs ++ [t]) := by
  have hk : Kp G W W2 := ((Kp.refl G W).alloc _).grown hgr (fun k e _ => h.row.2.1 k e)
  have hb2 : Bk W2 kx lc lst u := h.box.kp hk h.kg
  have hk2 : Kp [kx] W2 (W2.setCell ⟨kx, 2, none⟩ (.slice (some ⟨g, 0, none⟩) (xs.length + 1) cap)) := (Kp.refl [kx] W2).setCell (by simp) _
  have hgk : g ≠ kx := by
    rintro rfl
    rcases hor with e | e
    · exact h.kg (h.row.2.1 _ e)
    · have := h.box.lt; omega
  have hs := hk2.size
  have hgu : w.heap.size ≤ g ∧ 3 ≤ g := by
    rcases hor with e | e
    · exact h.gu g (h.row.2.1 g e)
    · have := h.bl.size; have := h.bl.lw.pos; omega
  have r2 := h.r.kp hk (fun k e e' => h.gf k e' e)
  refine ⟨hb2, (h.bl.kp hk h.gu).kp hk2 (fun k e => by simp at e; subst e; exact h.kb), r2.kp hk2 (fun k e e' => by simp at e'; subst e'; exact h.kf e), blk_set hb2 2 _, ⟨by simpa using ownsRow_kp hown hk2 (fun g' e hg => by simp [Value.ownBlock] at e; simp at hg; omega), fun g' e => by simp [Value.ownBlock] at e; simp [e], fun k e => by simp at e; subst e; omega⟩, h.kf, by simpa using fun e => hgk e.symm, fun k e => ?_, fun k e => by simp at e; subst e; exact hgu, h.kb⟩
  simp at e
  subst e
  rcases hor with e | e
  · exact h.gf _ (h.row.2.1 _ e)
  · intro e'; have := h.r.lt _ e'; omega
end
end Go.Proofs.YtbpdbfllkehciaaDoor
