/-
  Names with great letters, or small ones; a field more.
-/
import Derived.Test.YtkffdhdhjfbhjaaDoorHOther
import Derived.Test.YtkffdhdhjfbhjaaDoorHRRest2
namespace Go.Proofs.YtkffdhdhjfbhjaaDoor
set_option linter.unusedSimpArgs false
set_option linter.unusedVariables false
open Go Go.RowKit Go.Shelf
set_option maxRecDepth 100000

def smF (f : FP) : FP := (f.1.map smallB, f.2)
def getF (fs : List FP) (n : List UInt8) : List (List UInt8) := (fs.filter fun f => likeB f.1 n).map (·.2)
def plainF (xs : List (List UInt8)) : Bool := match xs with
  | [v] => likeB v [78, 111]
  | _ => false
theorem getL_F {s : List UInt8} {fs : List FP} (h : fieldsL s = fs) (n : List UInt8) : getL s n = getF fs n := by subst h; rfl
theorem plainL_F {s : List UInt8} {fs : List FP} (h : fieldsL s = fs) : plainL s = plainF (getF fs reqL) := by subst h; rfl
theorem hopsL_F {s : List UInt8} {fs : List FP} (h : fieldsL s = fs) : hopsL s = (getF fs recL).length := by subst h; rfl
theorem getF_is (n : List UInt8) : ∀ fs : List FP, getF fs n = ((fs.map smF).filter fun f => f.1 == n.map smallB).map (·.2)
  | [] => rfl
  | f :: fs => by
    have ih := getF_is n fs
    unfold getF at ih ⊢
    rw [List.map_cons, List.filter_cons, List.filter_cons]
    have e : likeB f.1 n = ((smF f).1 == n.map smallB) := rfl
    rw [e]
    split
    · rw [List.map_cons, List.map_cons, ih]; rfl
    · exact ih
theorem getF_sm {fs gs : List FP} (h : gs.map smF = fs.map smF) (n : List UInt8) : getF gs n = getF fs n := by rw [getF_is, getF_is, h]
theorem getF_name (fs : List FP) {n m : List UInt8} (h : n.map smallB = m.map smallB) : getF fs n = getF fs m := by rw [getF_is, getF_is, h]
theorem getF_app (fs gs : List FP) (n : List UInt8) : getF (fs ++ gs) n = getF fs n ++ getF gs n := by unfold getF; simp
theorem getF_one {f : FP} {n : List UInt8} {b : Bool} (h : likeB f.1 n = b) : getF [f] n = if b then [f.2] else [] := by
  unfold getF
  rw [List.filter_cons, h]
  cases b <;> rfl
theorem plainF_two {xs : List (List UInt8)} (v : List UInt8) (h : plainF xs = true) : plainF (xs ++ [v]) = false := by
  match xs, h with
  | [x], _ => rfl
theorem like_req_rec {n : List UInt8} (h : likeB n reqL = true) : likeB n recL = false := by
  unfold likeB at h ⊢
  rw [beq_iff_eq] at h
  rw [h]
  decide +kernel
theorem okN_sm (c : UInt8) : okN (smallB c) = okN c := by
  have : ∀ n : _root_.Fin 256, okN (smallB (UInt8.ofNat n.val)) = okN (UInt8.ofNat n.val) := by decide +kernel
  have := this ⟨c.toNat, UInt8.toNat_lt _⟩
  simpa using this
theorem nameB_map (n : List UInt8) : nameB (n.map smallB) = nameB n := by
  unfold nameB
  rw [List.all_map]
  congr 1
  · congr 1
    funext c
    exact okN_sm c
  · cases n <;> rfl
theorem nameB_sm {n m : List UInt8} (h : n.map smallB = m.map smallB) : nameB n = nameB m := by rw [← nameB_map n, h, nameB_map]
theorem goodB_sm {n m : List UInt8} (v : List UInt8) (h : n.map smallB = m.map smallB) : goodB (n, v) = goodB (m, v) := by unfold goodB; rw [nameB_sm h]
theorem len_sm {n m : List UInt8} (h : n.map smallB = m.map smallB) : n.length = m.length := by
  have := congrArg List.length h
  simpa using this
theorem getF_len (fs : List FP) (n : List UInt8) : (getF fs n).length ≤ fs.length := by
  unfold getF
  rw [List.length_map]
  exact List.length_filter_le _ _
end Go.Proofs.YtkffdhdhjfbhjaaDoor
