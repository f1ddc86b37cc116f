/-
  Words of DerNames' walk: rows of literals; what each round is told.
-/
import Derived.Test.YtablllincjoabaaETold
namespace Go.Proofs.Ytablllincjoabaa
set_option linter.unusedSimpArgs false
set_option linter.unusedVariables false
open Go Go.RowKit
set_option maxRecDepth 100000

/-- Block b holds these values. -/
def LB (W : World) (b : Nat) (T : TypeId) (vs : List Value) : Prop := W.heap[b]? = some (.cells vs.toArray T (0, 0))
theorem LB.lt {W : World} {b : Nat} {T : TypeId} {vs : List Value} (h : LB W b T vs) : b < W.heap.size := lt_of_blk h
theorem LB.new (W : World) (T : TypeId) (vs : List Value) : LB (W.alloc (.cells vs.toArray T)) W.heap.size T vs := heap_alloc_new W _
theorem LB.below {W W' : World} {b n : Nat} {T : TypeId} {vs : List Value} (h : LB W b T vs) (hb : Below n W W') (hn : b < n) : LB W' b T vs := (hb.block b hn).trans h
theorem LB.cell {W : World} {b : Nat} {T : TypeId} {vs : List Value} (h : LB W b T vs) {k : Nat} (hk : k < vs.length) : W.cell? ⟨b, k, none⟩ = some (vs.getD k undef) := by
  rw [cellAt h]; simp [List.getD_eq_getElem?_getD, hk]

def nLens : List Nat := [0, 1, 127, 128, 255, 256, 65535]
def nForm : List (List UInt8) := [[4, 129, 0], [4, 130, 0, 255], [4, 130, 0], [4, 131, 1, 0, 0], [4, 255], [63, 0], [191], [255, 0]]
def nShort : List (List UInt8) := [[4, 129], [4, 130], [4, 130, 1], [4, 130, 1, 0], [4, 129, 128], [48, 1]]
def nInts : List Int := [-9223372036854775808, 9223372036854775807, -128, -32768, 32767, 32768, 36028797018963968, -36028797018963968]
theorem nLens_ok : ∀ k, k < 7 → nLens.getD k 0 ≤ 65535 := by decide
theorem nForm_ok : ∀ k, k < 8 → wrongE (nForm.getD k []) = 4 ∧ (nForm.getD k []).length ≤ 5 := by decide
theorem nShort_ok : ∀ k, k < 6 → wrongE (nShort.getD k []) = 8 ∧ (nShort.getD k []).length ≤ 5 := by decide
theorem nInts_ok : ∀ k, k < 8 → -9223372036854775808 ≤ nInts.getD k 0 ∧ nInts.getD k 0 < 9223372036854775808 := by decide
def iv0 (n : Nat) : Value := .int .i64 (n : Int)
def iz0 (n : Int) : Value := .int .i64 n
theorem map_at {α : Type} (f : α → Value) (l : List α) (d : α) {k : Nat} (hk : k < l.length) : (l.map f).getD k undef = f (l.getD k d) := by
  rw [List.getD_eq_getElem?_getD, List.getElem?_map, List.getElem?_eq_getElem hk, List.getD_eq_getElem?_getD, List.getElem?_eq_getElem hk]; rfl
theorem wrong_cut {t : UInt8} {v : List UInt8} (ht : tagB t = true) (hv : v.length ≤ 65535) {m : Nat} (hm : (putT t v).length = m + 1) : wrongE ((putT t v).take m) = 8 := by
  unfold wrongE; rw [cutP_short t v ht hv m (by omega)]; rfl
/-- So many things without a value. -/
def nFull (k : Nat) : List UInt8 := putsL (List.replicate k ((5, []) : Tv))
theorem nFull_next (k : Nat) : nFull (k + 1) = nFull k ++ [5, 0] := by
  unfold nFull
  rw [List.replicate_succ', putsL_app]; rfl
theorem nFull_len (k : Nat) : (nFull k).length = 2 * k := by
  induction k with
  | zero => rfl
  | succ k ih => rw [nFull_next, List.length_append, ih]; simp; omega
theorem nFull_good (k : Nat) : ∀ x ∈ List.replicate k ((5, []) : Tv), goodT x := by
  intro x hx
  rw [List.eq_of_mem_replicate hx]
  exact ⟨by decide, by simp⟩
theorem nFull_all : allR (nFull 64) = .ok (List.replicate 64 ((5, []) : Tv)) := by
  unfold nFull; rw [allR_puts _ (nFull_good 64), if_pos (by simp)]
theorem nFull_more : allR (nFull 64 ++ [5, 0]) = .er 40 := by
  rw [← nFull_next]; unfold nFull; rw [allR_puts _ (nFull_good _), if_neg (by simp)]
theorem nFull_cut : allR (nFull 64 ++ [5]) = .er 8 := by
  have e : seqL (nFull 64 ++ [5]) = (List.replicate 64 ((5, []) : Tv)).map (fun x => (x, 0)) ++ [((0, []), 8)] := by
    unfold nFull; rw [seqL_puts _ (nFull_good 64)]; rfl
  exact allR_er (q := (List.replicate 64 ((5, []) : Tv)).map (fun x => (x, 0))) (by rw [e]; exact List.prefix_refl _) (okS_map _) (by simp) (by decide)
theorem nNone : allR [] = .ok [] := rfl
theorem nBad_ok (T Z : List UInt8) (hT : T = [1] ++ List.replicate 8 0) (hZ : Z = List.replicate 9 0) : ∀ k, k < 5 → readB ([[255, 255], [255, 128], [0, 0], T, Z].getD k []) = false ∧ ([[255, 255], [255, 128], [0, 0], T, Z].getD k []).length ≤ 9 := by
  subst hT hZ; decide
end Go.Proofs.Ytablllincjoabaa
