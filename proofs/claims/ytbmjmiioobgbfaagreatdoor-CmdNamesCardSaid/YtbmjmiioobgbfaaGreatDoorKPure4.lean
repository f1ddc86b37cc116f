/-
  What Mail and Rcpt make: how long, what Get finds in it.
-/
import Derived.Test.YtbmjmiioobgbfaaGreatDoorKWalk2
namespace Go.Proofs.YtbmjmiioobgbfaaGreatDoor
open Go Go.RowKit Go.Shelf
set_option maxRecDepth 100000
set_option linter.unusedSimpArgs false
set_option linter.unusedVariables false

theorem undot_ge (b : List UInt8) : b.length ≤ (undot b).length + 1 := by
  unfold undot
  split <;> simp <;> omega
theorem end_len {a : List UInt8} (h : endL a = true) : a.length ≤ 319 := by
  rcases end_cases h with rfl | h
  · simp
  · obtain ⟨l, b, d, rfl, h1, h2, _⟩ := amay_form h
    have hl : l.length ≤ 64 := by unfold localL at h1; rw [Bool.and_eq_true, decide_eq_true_eq] at h1; exact h1.1
    have hb : b.length ≤ 254 := by
      unfold foldL at h2
      split at h2
      · rename_i hm
        unfold mayL at hm
        rw [Bool.and_eq_true, Bool.and_eq_true, decide_eq_true_eq, List.length_map] at hm
        have := undot_ge b
        omega
      · cases h2
    simp; omega
theorem opt_text (b : Bool) (p : PM) (n : Nat) (h : b = true → (pText p).length ≤ n) : (psText (optP b p)).length ≤ n := by
  cases b
  · simp [optP, psText]
  · have := h rfl
    simpa [optP, psText] using this
theorem psText_append (a b : List PM) : psText (a ++ b) = psText a ++ psText b := by simp [psText]

theorem mail_short (c : Cp) (f : List UInt8) (size : Int) (req : Bool) (env : List UInt8) (h0 : -9223372036854775808 ≤ size) (h1 : size ≤ 9223372036854775807) (hm : mayK (mailC c f size req env) = true) (he : envC env = true) : (shownK (mailC c f size req env)).length ≤ 510 := by
  have hk := may_kinds hm
  have hend : endL f = true := by
    rcases hk with ⟨h, _⟩ | ⟨_, _, h, _⟩ | ⟨h, _⟩
    · cases h
    · exact h
    · cases h
  have hf := end_len hend
  have hp := pathL_len f
  have henv : env.length ≤ 32 := by unfold envC at he; rw [Bool.and_eq_true, decide_eq_true_eq] at he; exact he.1
  have hi := itoa_len size h0 h1
  have e : shownK (mailC c f size req env) = hdL 3 ++ (pathL f ++ (psText (optP c.sz (wSZ, Lib.itoa size)) ++ (psText (optP (c.rq && req) (wRT, [])) ++ psText (optP (c.ds && !env.isEmpty) (wEN, env))))) := by
    rw [shown_form]
    unfold mailC mailPs
    rw [psText_append, psText_append]
    rfl
  have a1 := opt_text c.sz (wSZ, Lib.itoa size) 30 (fun _ => by unfold pText; split <;> simp [wSZ] <;> omega)
  have a2 := opt_text (c.rq && req) (wRT, []) 11 (fun _ => by decide)
  have a3 := opt_text (c.ds && !env.isEmpty) (wEN, env) 39 (fun _ => by unfold pText; split <;> simp [wEN] <;> omega)
  rw [e]
  have a0 : (hdL 3).length = 10 := rfl
  simp only [List.length_append]
  omega
theorem rcpt_short (c : Cp) (f : List UInt8) (never : Bool) (hm : mayK (rcptC c f never) = true) : (shownK (rcptC c f never)).length ≤ 510 := by
  have hk := may_kinds hm
  have hend : endL f = true := by
    rcases hk with ⟨h, _⟩ | ⟨_, _, h, _⟩ | ⟨h, _⟩
    · cases h
    · exact h
    · cases h
  have hf := end_len hend
  have hp := pathL_len f
  have e : shownK (rcptC c f never) = hdL 4 ++ (pathL f ++ psText (optP (c.ds && never) (wNO, wNV))) := by
    rw [shown_form]; rfl
  have a1 := opt_text (c.ds && never) (wNO, wNV) 13 (fun _ => by decide)
  have a0 : (hdL 4).length = 8 := rfl
  rw [e]
  simp only [List.length_append]
  omega

/-! ### Get -/
theorem get_mail (a b d : Bool) (x y z : List UInt8) :
    let l := optP a (wSZ, x) ++ (optP b (wRT, y) ++ optP d (wEN, z))
    getP l wSZ = (if a then x else [], a) ∧ getP l wRT = (if b then y else [], b) ∧ getP l wEN = (if d then z else [], d) ∧ l.length = a.toNat + b.toNat + d.toNat := by
  have h1 : wSZ ≠ wRT := by decide
  have h2 : wSZ ≠ wEN := by decide
  have h3 : wRT ≠ wEN := by decide
  cases a <;> cases b <;> cases d <;> simp [optP, getP, findP, findF, h1, h2, h3, h1.symm, h2.symm, h3.symm]
theorem get_rcpt (a : Bool) (x : List UInt8) : getP (optP a (wNO, x)) wNO = (if a then x else [], a) := by
  cases a <;> simp [optP, getP, findP, findF]

/-- What Mail makes, as the law asks of it. -/
theorem mail_cases (c : Cp) (f : List UInt8) (size : Int) (req : Bool) (env : List UInt8) (h0 : -9223372036854775808 ≤ size) (h1 : size ≤ 9223372036854775807) :
    mailK c f size req env = (cm0, 4) ∨ (mailK c f size req env = (mailC c f size req env, 0) ∧ mayK (mailC c f size req env) = true ∧ showK (mailC c f size req env) = (shownK (mailC c f size req env), 0)) := by
  by_cases hs : size < 0
  · exact .inl (by unfold mailK; rw [if_pos hs])
  · by_cases h : (envC env && mayK (mailC c f size req env)) = true
    · have h' := h
      rw [Bool.and_eq_true] at h'
      exact .inr ⟨by unfold mailK; rw [if_neg hs, if_pos h], h'.2, by unfold showK; rw [if_pos h'.2, if_pos (mail_short c f size req env h0 h1 h'.2 h'.1)]⟩
    · exact .inl (by unfold mailK; rw [if_neg hs, if_neg h])
theorem rcpt_cases (c : Cp) (f : List UInt8) (never : Bool) :
    rcptK c f never = (cm0, 4) ∨ (rcptK c f never = (rcptC c f never, 0) ∧ mayK (rcptC c f never) = true ∧ showK (rcptC c f never) = (shownK (rcptC c f never), 0)) := by
  by_cases h : mayK (rcptC c f never) = true
  · exact .inr ⟨by unfold rcptK; rw [if_pos h], h, by unfold showK; rw [if_pos h, if_pos (rcpt_short c f never h)]⟩
  · exact .inl (by unfold rcptK; rw [if_neg h])
end Go.Proofs.YtbmjmiioobgbfaaGreatDoor
