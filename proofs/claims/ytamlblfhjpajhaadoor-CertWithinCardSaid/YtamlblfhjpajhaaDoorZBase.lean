/-
  What the digest's contracts share: the laid words, as words of a world; strings.Repeat.
-/
import Derived.Laws.Strings
import Derived.Lib.LaidTab
import Derived.WalkLawsBesides
import Derived.Laws.BitsLemmas
import Derived.Deep.QuietTactic
import Derived.BigQuiet
import Derived.BigRegion
import Derived.StillTailTactics
import Derived.Test.YtamlblfhjpajhaaDoorZBuild
namespace Go.Proofs.YtamlblfhjpajhaaDoor
open Go Go.RowKit
set_option maxRecDepth 100000
set_option linter.unusedSimpArgs false
set_option linter.unusedVariables false

theorem str_appendC (a b : List UInt8) : str a ++ str b = str (a ++ b) := by
  apply ByteArray.ext
  simp [str, ByteArray.data_append]
theorem below_drewNC {n : Nat} {w w' : World} (h : Below n w w') (k : Nat) : Below n w (w'.drewN k) := ⟨h.os, h.tape, h.output, h.size, h.block⟩
def firstZ : List Int := [1779033703, 3144134277, 1013904242, 2773480762, 1359893119, 2600822924, 528734635, 1541459225]
def roundZ : List Int := [0x428a2f98, 0x71374491, 0xb5c0fbcf, 0xe9b5dba5, 0x3956c25b, 0x59f111f1, 0x923f82a4, 0xab1c5ed5,
  0xd807aa98, 0x12835b01, 0x243185be, 0x550c7dc3, 0x72be5d74, 0x80deb1fe, 0x9bdc06a7, 0xc19bf174,
  0xe49b69c1, 0xefbe4786, 0x0fc19dc6, 0x240ca1cc, 0x2de92c6f, 0x4a7484aa, 0x5cb0a9dc, 0x76f988da,
  0x983e5152, 0xa831c66d, 0xb00327c8, 0xbf597fc7, 0xc6e00bf3, 0xd5a79147, 0x06ca6351, 0x14292967,
  0x27b70a85, 0x2e1b2138, 0x4d2c6dfc, 0x53380d13, 0x650a7354, 0x766a0abb, 0x81c2c92e, 0x92722c85,
  0xa2bfe8a1, 0xa81a664b, 0xc24b8b70, 0xc76c51a3, 0xd192e819, 0xd6990624, 0xf40e3585, 0x106aa070,
  0x19a4c116, 0x1e376c08, 0x2748774c, 0x34b0bcb5, 0x391c0cb3, 0x4ed8aa4a, 0x5b9cca4f, 0x682e6ff3,
  0x748f82ee, 0x78a5636f, 0x84c87814, 0x8cc70208, 0x90befffa, 0xa4506ceb, 0xbef9a3f7, 0xc67178f2]

/-- The laid variables are as their texts lay them. -/
structure LWc (w : World) : Prop where
  first : Lib.TabIs Tryd.prog w "mailroom/code.firstWords" .u32 firstZ
  round : Lib.TabIs Tryd.prog w "mailroom/code.roundWords" .u32 roundZ

theorem gFirst : Tryd.prog.globalNamed "mailroom/code.firstWords" = some 1 := by kernel_rfl
theorem gRound : Tryd.prog.globalNamed "mailroom/code.roundWords" = some 2 := by kernel_rfl

theorem tab_lt {w : World} {n : String} {k : IntKind} {zs : List Int} {g : Nat} (h : Lib.TabIs Tryd.prog w n k zs) (hg : Tryd.prog.globalNamed n = some g) : g < w.heap.size := by
  unfold Lib.TabIs World.var? at h
  rw [hg] at h
  rcases Nat.lt_or_ge g w.heap.size with h' | h'
  · exact h'
  · simp [Array.getElem?_eq_none h'] at h

theorem tab_below {w w' : World} {n : String} {k : IntKind} {zs : List Int} {g : Nat} (h : Lib.TabIs Tryd.prog w n k zs) (hg : Tryd.prog.globalNamed n = some g) (hb : Below w.heap.size w w') : Lib.TabIs Tryd.prog w' n k zs := by
  have hl := tab_lt h hg
  unfold Lib.TabIs World.var? at h ⊢
  rw [hg] at h ⊢
  simp only [Option.bind_some] at h ⊢
  rw [hb.block g hl]
  exact h

theorem LWc.below {w w' : World} (h : LWc w) (hb : Below w.heap.size w w') : LWc w' := ⟨tab_below h.first gFirst hb, tab_below h.round gRound hb⟩
theorem LWc.pos0 {w : World} (h : LWc w) : 1 < w.heap.size := tab_lt h.first gFirst
theorem LWc.pos {w : World} (h : LWc w) : 2 < w.heap.size := tab_lt h.round gRound

theorem below_more {w w' : World} {os : Array Obj} (hh : w'.heap = w.heap ++ os) (h1 : w'.os = w.os) (h2 : w'.tape = w.tape) (h3 : w'.output = w.output) : Below w.heap.size w w' := by
  refine ⟨h1, h2, h3, by rw [hh]; simp, fun k hk => ?_⟩
  rw [hh, Array.getElem?_append_left hk]

theorem repeat_any (c : UInt8) (n : Nat) (w : World) (hn : n ≤ 100000) :
    Calls Tryd.prog 51 #[.string { data := #[c] }, .int .i64 n] w fun e w' => e = .returned (sv (List.replicate n c)) ∧ Below w.heap.size w w' := by
  refine (Tryd.strings_Repeat (str [c]) n w (by omega) (by simp [ByteArray.size]; omega)).mono ?_
  rintro e w' ⟨rfl, hb⟩
  refine ⟨?_, hb⟩
  have e : Lib.repeatL (str [c]).data.toList n = List.replicate n c := by
    show Lib.repeatL [c] n = _
    induction n with
    | zero => rfl
    | succ n ih => rw [Lib.repeatL, ih (by omega), List.replicate_succ]; rfl
  rw [e]

end Go.Proofs.YtamlblfhjpajhaaDoor
