/-
  Plain functions over lists of bytes: what a line says of a peer, what lines say together, the texts that say it.
-/
import Derived.Test.YtanfonpbnamjmaaDoorDShow
namespace Go.Proofs.YtanfonpbnamjmaaDoor
open Go Go.RowKit
set_option maxRecDepth 100000

/-- What a peer can. -/
structure Cp where
  st : Bool
  pi : Bool
  rq : Bool
  ds : Bool
  eb : Bool
  sz : Bool
  mo : Int
deriving DecidableEq
def cp0 : Cp := ⟨false, false, false, false, false, false, 0⟩
def unionC (a b : Cp) : Cp := ⟨a.st || b.st, a.pi || b.pi, a.rq || b.rq, a.ds || b.ds, a.eb || b.eb, a.sz || b.sz, if a.mo = 0 then b.mo else a.mo⟩

def upB (c : UInt8) : UInt8 := if 97 ≤ c.toNat ∧ c.toNat ≤ 122 then UInt8.ofNat (c.toNat - 32) else c
def greatL (l : List UInt8) : List UInt8 := l.map upB
def wST : List UInt8 := [83, 84, 65, 82, 84, 84, 76, 83]
def wPI : List UInt8 := [80, 73, 80, 69, 76, 73, 78, 73, 78, 71]
def wRQ : List UInt8 := [82, 69, 81, 85, 73, 82, 69, 84, 76, 83]
def wDS : List UInt8 := [68, 83, 78]
def wEB : List UInt8 := [56, 66, 73, 84, 77, 73, 77, 69]
def wSZ : List UInt8 := [83, 73, 90, 69]
def wSB : List UInt8 := [83, 73, 90, 69, 32]
def topN : Int := 1099511627776

/-- A SIZE and its number: does a text begin by that? -/
def sizedB (t : List UInt8) : Bool := wSB.isPrefixOf t && isNumB (t.drop 5)
def partsR (t : List UInt8) : List UInt8 × Int := if sizedB t then (wSZ, (numR (t.drop 5) topN).1) else (t, 0)
def setC (c : Cp) (w : List UInt8) (n : Int) : Cp :=
  if w = wST then { c with st := true }
  else if w = wPI then { c with pi := true }
  else if w = wRQ then { c with rq := true }
  else if w = wDS then { c with ds := true }
  else if w = wEB then { c with eb := true }
  else if w = wSZ then { c with sz := true, mo := if c.mo = 0 then n else c.mo }
  else c
def lineC (c : Cp) (s : List UInt8) : Cp := setC c (partsR (greatL s)).1 (partsR (greatL s)).2
/-- What lines say. -/
def sayC (ls : List (List UInt8)) : Cp := ls.foldl lineC cp0
/-- What a reply says. -/
def ofC (code : Int) (ls : List (List UInt8)) : Cp := if code = 250 then sayC (ls.drop 1) else cp0

theorem setC_union (a b : Cp) (w : List UInt8) (n : Int) : setC (unionC a b) w n = unionC a (setC b w n) := by
  unfold setC unionC
  by_cases h1 : w = wST
  · simp [h1]
  · by_cases h2 : w = wPI
    · simp [h2, show ¬ wPI = wST by decide]
    · by_cases h3 : w = wRQ
      · simp [h3, show ¬ wRQ = wST by decide, show ¬ wRQ = wPI by decide]
      · by_cases h4 : w = wDS
        · simp [h4, show ¬ wDS = wST by decide, show ¬ wDS = wPI by decide, show ¬ wDS = wRQ by decide]
        · by_cases h5 : w = wEB
          · simp [h5, show ¬ wEB = wST by decide, show ¬ wEB = wPI by decide, show ¬ wEB = wRQ by decide, show ¬ wEB = wDS by decide]
          · by_cases h6 : w = wSZ
            · simp only [h6, if_false, if_true, show ¬ wSZ = wST by decide, show ¬ wSZ = wPI by decide, show ¬ wSZ = wRQ by decide, show ¬ wSZ = wDS by decide, show ¬ wSZ = wEB by decide, Bool.or_true]
              by_cases hz : a.mo = 0 <;> simp [hz]
            · simp [h1, h2, h3, h4, h5, h6]
theorem lineC_union (a b : Cp) (s : List UInt8) : lineC (unionC a b) s = unionC a (lineC b s) := setC_union a b _ _
theorem union_zero (a : Cp) : unionC a cp0 = a := by cases a; simp [unionC, cp0]; intro h; exact h.symm
theorem zero_union (a : Cp) : unionC cp0 a = a := by cases a; simp [unionC, cp0]
theorem union_self (a : Cp) : unionC a a = a := by cases a; simp [unionC]
theorem foldl_union (a : Cp) (ls : List (List UInt8)) : ∀ b, ls.foldl lineC (unionC a b) = unionC a (ls.foldl lineC b) := by
  induction ls with
  | nil => intro b; rfl
  | cons s ls ih => intro b; rw [List.foldl_cons, List.foldl_cons, lineC_union, ih]
theorem foldl_of (a : Cp) (ls : List (List UInt8)) : ls.foldl lineC a = unionC a (sayC ls) := by
  have := foldl_union a ls cp0
  rwa [union_zero] at this
theorem say_append (l m : List (List UInt8)) : sayC (l ++ m) = unionC (sayC l) (sayC m) := by
  unfold sayC
  rw [List.foldl_append, foldl_of]
  rfl
theorem say_one (s : List UInt8) : sayC [s] = lineC cp0 s := rfl
/-- A text that says nothing, wherever it stands. -/
theorem say_within (ls : List (List UInt8)) (s : List UInt8) (k : Nat) (h : sayC [s] = cp0) : sayC (ls.take k ++ [s] ++ ls.drop k) = sayC ls := by
  rw [say_append, say_append, h, union_zero, ← say_append, List.take_append_drop]

/-! ### Letters -/
def swapB (c : UInt8) : UInt8 := if 97 ≤ c.toNat ∧ c.toNat ≤ 122 then UInt8.ofNat (c.toNat - 32) else if 65 ≤ c.toNat ∧ c.toNat ≤ 90 then UInt8.ofNat (c.toNat + 32) else c
theorem upB_swap (c : UInt8) : upB (swapB c) = upB c := by
  have h := c.toNat_lt
  unfold swapB
  split
  · rename_i h1
    have e : (UInt8.ofNat (c.toNat - 32)).toNat = c.toNat - 32 := UInt8.toNat_ofNat_of_lt' (by show c.toNat - 32 < 256; omega)
    unfold upB
    rw [if_pos h1, e, if_neg (by omega)]
  · rename_i h1
    split
    · rename_i h2
      have e : (UInt8.ofNat (c.toNat + 32)).toNat = c.toNat + 32 := UInt8.toNat_ofNat_of_lt' (by show c.toNat + 32 < 256; omega)
      unfold upB
      rw [if_neg h1, e, if_pos (by omega), show c.toNat + 32 - 32 = c.toNat by omega]
      simp
    · rfl
/-- Which letters are turned: bit i % 64 of w. -/
def turnL (p : Nat → Bool) (s : List UInt8) : List UInt8 := s.mapIdx fun i c => if p i then swapB c else c
theorem great_turn (p : Nat → Bool) (s : List UInt8) : greatL (turnL p s) = greatL s := by
  unfold greatL turnL
  apply List.ext_getElem
  · simp
  · intro i h1 h2
    simp only [List.getElem_map, List.getElem_mapIdx]
    split
    · exact upB_swap _
    · rfl
theorem line_turn (p : Nat → Bool) (c : Cp) (s : List UInt8) : lineC c (turnL p s) = lineC c s := by unfold lineC; rw [great_turn]
theorem say_turn (p : Nat → Bool) (ls : List (List UInt8)) : sayC (ls.map (turnL p)) = sayC ls := by
  unfold sayC
  rw [List.foldl_map]
  congr 1
  funext c s
  exact line_turn p c s

/-! ### Texts -/
def mayN (n : Int) : Bool := decide (1 ≤ n) && decide (n ≤ topN)
def sizeT (n : Int) : List UInt8 := if mayN n then wSB ++ Lib.itoa n else wSZ
def opt (b : Bool) (t : List UInt8) : List (List UInt8) := if b then [t] else []
def sixT (c : Cp) : List (List UInt8) := opt c.pi wPI ++ (opt c.sz (sizeT c.mo) ++ (opt c.st wST ++ (opt c.rq wRQ ++ (opt c.ds wDS ++ opt c.eb wEB))))
def textsR (host : List UInt8) (c : Cp) : List (List UInt8) := host :: sixT c
theorem up_dig {c : UInt8} (h : isDig c = true) : upB c = c := by
  unfold isDig at h
  simp only [Bool.and_eq_true, decide_eq_true_eq] at h
  unfold upB
  rw [if_neg (by omega)]
theorem great_digs : ∀ {l : List UInt8}, l.all isDig = true → greatL l = l
  | [], _ => rfl
  | c :: l, h => by
    rw [List.all_cons, Bool.and_eq_true] at h
    have := great_digs h.2
    unfold greatL at this ⊢
    rw [List.map_cons, this, up_dig h.1]
theorem itoa_pos {n : Int} (h : 1 ≤ n) : Lib.itoa n = Lib.decDigits n.toNat := by
  unfold Lib.itoa
  rw [if_neg (by omega)]
theorem say_size (n : Int) : sayC [sizeT n] = { cp0 with sz := true, mo := if mayN n then n else 0 } := by
  cases h : mayN n with
  | false =>
    have : sizeT n = wSZ := by unfold sizeT; rw [h]; rfl
    rw [this]
    rfl
  | true =>
    have e : sizeT n = wSB ++ Lib.itoa n := by unfold sizeT; rw [h]; rfl
    unfold mayN at h
    rw [Bool.and_eq_true, decide_eq_true_eq, decide_eq_true_eq] at h
    have hd := dec_all n.toNat
    have hg : greatL (wSB ++ Lib.itoa n) = wSB ++ Lib.decDigits n.toNat := by
      rw [itoa_pos h.1]
      show List.map upB (wSB ++ Lib.decDigits n.toNat) = _
      rw [List.map_append]
      have := great_digs hd.1
      unfold greatL at this
      rw [this]
      rfl
    have hs : sizedB (wSB ++ Lib.decDigits n.toNat) = true := by
      unfold sizedB
      rw [show (wSB ++ Lib.decDigits n.toNat).drop 5 = Lib.decDigits n.toNat from rfl, dec_isNum, Bool.and_true]
      rfl
    have hn : (numR ((wSB ++ Lib.decDigits n.toNat).drop 5) topN).1 = n := by
      rw [show (wSB ++ Lib.decDigits n.toNat).drop 5 = Lib.decDigits n.toNat from rfl]
      unfold numR
      rw [if_pos (dec_isNum _), hd.2, if_neg (by omega)]
      show ((n.toNat : Nat) : Int) = n
      omega
    rw [e, say_one]
    unfold lineC partsR
    rw [hg, if_pos hs]
    show setC cp0 wSZ _ = _
    rw [hn]
    rfl
theorem say_opt (b : Bool) (t : List UInt8) (r : Cp) (h : sayC [t] = r) : sayC (opt b t) = if b then r else cp0 := by
  cases b
  · rfl
  · exact h
/-- What is said by the texts of what a peer can. -/
def backC (c : Cp) : Cp := { c with mo := if c.sz && mayN c.mo then c.mo else 0 }
theorem say_six (c : Cp) : sayC (sixT c) = backC c := by
  unfold sixT
  rw [say_append, say_append, say_append, say_append, say_append]
  rw [say_opt c.pi wPI { cp0 with pi := true } rfl, say_opt c.st wST { cp0 with st := true } rfl, say_opt c.rq wRQ { cp0 with rq := true } rfl, say_opt c.ds wDS { cp0 with ds := true } rfl, say_opt c.eb wEB { cp0 with eb := true } rfl, say_opt c.sz _ _ (say_size c.mo)]
  obtain ⟨st, pi, rq, ds, eb, sz, mo⟩ := c
  unfold backC
  simp only
  generalize mayN mo = q
  cases st <;> cases pi <;> cases rq <;> cases ds <;> cases eb <;> cases sz <;> cases q <;> simp [unionC, cp0] <;> exact fun h => h.symm
end Go.Proofs.YtanfonpbnamjmaaDoor
