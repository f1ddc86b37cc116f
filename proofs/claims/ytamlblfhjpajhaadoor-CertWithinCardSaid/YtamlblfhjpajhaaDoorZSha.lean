/-
  Plain functions on words of 32 bits: the digest, block by block; its words of turns.
  No program is imported here; no condition.
-/
namespace Go.Proofs.YtamlblfhjpajhaaDoor

abbrev W32 := BitVec 32

def rotP (x : W32) (n : Nat) : W32 := (x >>> n) ||| (x <<< (32 - n))
def sm0 (x : W32) : W32 := rotP x 7 ^^^ rotP x 18 ^^^ (x >>> 3)
def sm1 (x : W32) : W32 := rotP x 17 ^^^ rotP x 19 ^^^ (x >>> 10)
def big0 (x : W32) : W32 := rotP x 2 ^^^ rotP x 13 ^^^ rotP x 22
def big1 (x : W32) : W32 := rotP x 6 ^^^ rotP x 11 ^^^ rotP x 25
def choice (e f g : W32) : W32 := (e &&& f) ^^^ (~~~e &&& g)
def major (a b c : W32) : W32 := (a &&& b) ^^^ (a &&& c) ^^^ (b &&& c)

theorem choice_or (e f g : W32) : (e &&& f) ||| (~~~e &&& g) = choice e f g := by
  unfold choice
  apply BitVec.eq_of_getLsbD_eq
  intro i hi
  simp only [BitVec.getLsbD_or, BitVec.getLsbD_and, BitVec.getLsbD_xor, BitVec.getLsbD_not, hi, decide_true, Bool.true_and]
  cases e.getLsbD i <;> cases f.getLsbD i <;> cases g.getLsbD i <;> rfl

theorem major_or (a b c : W32) : (a &&& b) ||| (a &&& c) ||| (b &&& c) = major a b c := by
  unfold major
  apply BitVec.eq_of_getLsbD_eq
  intro i hi
  simp only [BitVec.getLsbD_or, BitVec.getLsbD_and, BitVec.getLsbD_xor]
  cases a.getLsbD i <;> cases b.getLsbD i <;> cases c.getLsbD i <;> rfl

/-- The eight words. -/
structure St where
  a : W32
  b : W32
  c : W32
  d : W32
  e : W32
  f : W32
  g : W32
  h : W32

/-- One turn; its word is K's and W's sum. -/
def turnP (s : St) (w : W32) : St :=
  let t := s.h + big1 s.e + choice s.e s.f s.g + w
  let u := big0 s.a + major s.a s.b s.c
  ⟨t + u, s.a, s.b, s.c, s.d + t, s.e, s.f, s.g⟩

def addP (s t : St) : St := ⟨s.a + t.a, s.b + t.b, s.c + t.c, s.d + t.d, s.e + t.e, s.f + t.f, s.g + t.g, s.h + t.h⟩

def byteW (x : UInt8) : W32 := BitVec.ofNat 32 x.toNat
def wordP (a b c d : UInt8) : W32 := byteW a <<< 24 ||| byteW b <<< 16 ||| byteW c <<< 8 ||| byteW d

/-- Four bytes a word. -/
def wordsP : List UInt8 → List W32
  | a :: b :: c :: d :: s => wordP a b c d :: wordsP s
  | _ => []

/-- The word that comes of those that are there. -/
def nextW (l : List W32) : W32 := sm1 (l.getD (l.length - 2) 0) + l.getD (l.length - 7) 0 + sm0 (l.getD (l.length - 15) 0) + l.getD (l.length - 16) 0
def schedP (m : List W32) : Nat → List W32
  | 0 => m
  | n + 1 => schedP m n ++ [nextW (schedP m n)]

theorem schedP_length (m : List W32) (n : Nat) : (schedP m n).length = m.length + n := by
  induction n with
  | zero => rfl
  | succ n ih => rw [schedP, List.length_append, ih]; rfl

/-- The turns of the words l, from the place i on. -/
def turnsP (K : List W32) (s : St) (l : List W32) : St := (List.zipWith (· + ·) K l).foldl turnP s

def blockP (K : List W32) (s : St) (b : List UInt8) : St := addP s (turnsP K s (schedP (wordsP b) 48))

/-- Block by block of 64 bytes. -/
def blocksP (K : List W32) (s : St) (b : List UInt8) : Nat → St
  | 0 => s
  | n + 1 => blocksP K (blockP K s (b.take 64)) (b.drop 64) n

end Go.Proofs.YtamlblfhjpajhaaDoor
