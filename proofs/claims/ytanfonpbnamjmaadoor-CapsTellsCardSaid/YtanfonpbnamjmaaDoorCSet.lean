/-
  The map of what each keyword sets, and what the closures in it do.
-/
import Derived.Carry
import Derived.Test.YtanfonpbnamjmaaDoorCPure
namespace Go.Proofs.YtanfonpbnamjmaaDoor
open Go Go.RowKit
set_option maxRecDepth 100000

/-- A closure that keeps what block k points at. -/
def fnV (f k : Nat) : Value := .func (.func f) #[] #[.pointer (some ⟨k, 0, none⟩)]
/-- The map's entries. -/
def ents (k : Nat) : List MapEntry := [⟨sv wST, fnV 89 k, 0⟩, ⟨sv wPI, fnV 90 k, 1⟩, ⟨sv wRQ, fnV 91 k, 2⟩, ⟨sv wDS, fnV 92 k, 3⟩, ⟨sv wEB, fnV 93 k, 4⟩, ⟨sv wSZ, fnV 94 k, 5⟩]
def mapO (k n : Nat) : Obj := .map ((ents k).take n).toArray n

theorem run_insert_new {w : World} {es : Array MapEntry} {c : Nat} {key : ByteArray} {v : Value} (h : Instr.findNow .string (.string key) es.toList 0 = some none) :
    (Instr.mapUpdate 95 (.map (some w.heap.size)) (.string key) v).run Tryd.prog (w.alloc (.map es c)) = .ok () (w.alloc (.map (es.push ⟨.string key, v, c⟩) (c + 1))) := by
  have hb : (w.alloc (.map es c)).heap[w.heap.size]? = some (.map es c) := heap_alloc_new w _
  have hc : (Instr.checkKey false 10000 9 (.string key)).run Tryd.prog (w.alloc (.map es c)) = .ok () (w.alloc (.map es c)) := MapKept.run_checkKey (k := .string key) Tryd.underlying9 (by simp [MapKept.IsKey]) false 9999
  simp [Instr.mapUpdate, run_underlying Tryd.underlying95, MapKept.run_getObj_map hb, hc, MapKept.run_findKey Tryd.underlying9 h, MapKept.run_setObj_map _ hb, Result.andThen]
  have e : (w.heap.push (Obj.map es c)).setIfInBounds w.heap.size (Obj.map (es.push ⟨.string key, v, c⟩) (c + 1)) = w.heap.push (Obj.map (es.push ⟨.string key, v, c⟩) (c + 1)) := by
    apply Array.ext'
    rw [Array.toList_setIfInBounds, Array.toList_push, Array.toList_push, ← Array.length_toList, List.set_append_right _ _ (Nat.le_refl _)]
    simp
  show (⟨(w.heap.push (Obj.map es c)).setIfInBounds w.heap.size (Obj.map (es.push ⟨.string key, v, c⟩) (c + 1)), w.tape, w.drawn, w.os, w.output⟩ : World) = _
  rw [e]
  rfl

theorem run_ins {w : World} {k n : Nat} {i : Nat} {key : ByteArray} {v : Value} (hw : i = w.heap.size) (h : Instr.findNow .string (.string key) ((ents k).take n) 0 = some none) (he : (ents k)[n]? = some ⟨.string key, v, n⟩) :
    (Instr.mapUpdate 95 (.map (some i)) (.string key) v).run Tryd.prog (w.alloc (mapO k n)) = .ok () (w.alloc (mapO k (n + 1))) := by
  subst hw
  have := run_insert_new (w := w) (es := ((ents k).take n).toArray) (c := n) (key := key) (v := v) h
  unfold mapO
  rw [this]
  congr 2
  obtain ⟨hl, he⟩ := List.getElem?_eq_some_iff.1 he
  rw [List.take_succ_eq_append_getElem hl, he]
  simp

/-- Which closure a word has. -/
def funF (t : List UInt8) : Option Nat := if t = wST then some 89 else if t = wPI then some 90 else if t = wRQ then some 91 else if t = wDS then some 92 else if t = wEB then some 93 else if t = wSZ then some 94 else none
def funV (k : Nat) (t : List UInt8) : Value := match funF t with | some f => fnV f k | none => .nilFunc
def isWord (t : List UInt8) : Bool := (funF t).isSome

theorem str_beq (a b : List UInt8) : ((str a : ByteArray) == str b) = (a == b) := by
  rw [Bool.eq_iff_iff, MapKept.bytes_beq, beq_iff_eq]
  constructor
  · intro h
    have := congrArg (fun x : ByteArray => x.data.toList) h
    simpa using this
  · rintro rfl; rfl

theorem find_word (k : Nat) (t : List UInt8) : ∃ r, Instr.findNow .string (sv t) (ents k) 0 = some r ∧ ((isWord t = true ∧ ∃ i, r = some (i, funV k t)) ∨ (isWord t = false ∧ funV k t = .nilFunc ∧ r = none)) := by
  have e : ∀ x : List UInt8, Instr.sameNow .string (sv t) (sv x) = some (t == x) := fun x => by
    show some ((str t : ByteArray) == str x) = _
    rw [str_beq]
  unfold ents funV isWord funF
  simp only [Instr.findNow, e]
  by_cases h1 : t = wST
  · subst h1; exact ⟨some (0, _), by simp, .inl ⟨rfl, 0, rfl⟩⟩
  · rw [show (t == wST) = false by simpa using h1, if_neg h1]
    by_cases h2 : t = wPI
    · subst h2; exact ⟨some (1, _), by simp, .inl ⟨rfl, 1, rfl⟩⟩
    · rw [show (t == wPI) = false by simpa using h2, if_neg h2]
      by_cases h3 : t = wRQ
      · subst h3; exact ⟨some (2, _), by simp, .inl ⟨rfl, 2, rfl⟩⟩
      · rw [show (t == wRQ) = false by simpa using h3, if_neg h3]
        by_cases h4 : t = wDS
        · subst h4; exact ⟨some (3, _), by simp, .inl ⟨rfl, 3, rfl⟩⟩
        · rw [show (t == wDS) = false by simpa using h4, if_neg h4]
          by_cases h5 : t = wEB
          · subst h5; exact ⟨some (4, _), by simp, .inl ⟨rfl, 4, rfl⟩⟩
          · rw [show (t == wEB) = false by simpa using h5, if_neg h5]
            by_cases h6 : t = wSZ
            · subst h6; exact ⟨some (5, _), by simp, .inl ⟨rfl, 5, rfl⟩⟩
            · rw [show (t == wSZ) = false by simpa using h6, if_neg h6]
              exact ⟨none, by simp, .inr ⟨rfl, rfl, rfl⟩⟩

theorem run_look {w : World} {m k : Nat} (h : w.heap[m]? = some (mapO k 6)) (t : List UInt8) :
    (Instr.lookup 95 (.map (some m)) (sv t) true).run Tryd.prog w = .ok (.tuple #[funV k t, .bool (isWord t)]) w := by
  have hb : w.heap[m]? = some (.map (ents k).toArray 6) := h
  have hc : ∀ b, (Instr.checkKey b 10000 9 (sv t)).run Tryd.prog w = .ok () w := fun b => MapKept.run_checkKey (k := sv t) Tryd.underlying9 (by simp [MapKept.IsKey]) b 9999
  have hz : (zeroValue 100).run Tryd.prog w = .ok .nilFunc w := by rw [Tryd.zeroValue100]
  obtain ⟨r, hf, ⟨hw, i, rfl⟩ | ⟨hw, hv, rfl⟩⟩ := find_word k t
  · simp [Instr.lookup, run_underlying Tryd.underlying95, MapKept.run_getObj_map hb, hc, MapKept.run_findKey Tryd.underlying9 hf, Result.andThen, hw]
  · simp [Instr.lookup, run_underlying Tryd.underlying95, MapKept.run_getObj_map hb, hc, MapKept.run_findKey Tryd.underlying9 hf, Result.andThen, hw, hv, hz]

theorem setters_any (b : Nat) (w : World) : Calls Tryd.prog 59 #[.pointer (some ⟨b, 0, none⟩)] w fun e w' => e = .returned (.map (some (w.heap.size + 1))) ∧ w' = (w.alloc (.cells #[.pointer (some ⟨b, 0, none⟩)] 97)).alloc (mapO w.heap.size 6) := by
  obtain ⟨k, hk⟩ : ∃ k, k = w.heap.size := ⟨_, rfl⟩
  obtain ⟨w1, hw1⟩ : ∃ w1, w1 = w.alloc (.cells #[.pointer (some ⟨b, 0, none⟩)] 97) := ⟨_, rfl⟩
  have hs : w1.heap.size = k + 1 := by rw [hw1, hk]; simp
  have hmm : (Instr.makeMap 95 none).run Tryd.prog w1 = .ok (.map (some (k + 1))) (w1.alloc (mapO k 0)) := by rw [← hs]; rfl
  have i0 := run_ins (w := w1) (k := k) (n := 0) (i := k + 1) (key := { data := #[83, 84, 65, 82, 84, 84, 76, 83] }) hs.symm rfl rfl
  have i1 := run_ins (w := w1) (k := k) (n := 1) (i := k + 1) (key := { data := #[80, 73, 80, 69, 76, 73, 78, 73, 78, 71] }) hs.symm rfl rfl
  have i2 := run_ins (w := w1) (k := k) (n := 2) (i := k + 1) (key := { data := #[82, 69, 81, 85, 73, 82, 69, 84, 76, 83] }) hs.symm rfl rfl
  have i3 := run_ins (w := w1) (k := k) (n := 3) (i := k + 1) (key := { data := #[68, 83, 78] }) hs.symm rfl rfl
  have i4 := run_ins (w := w1) (k := k) (n := 4) (i := k + 1) (key := { data := #[56, 66, 73, 84, 77, 73, 77, 69] }) hs.symm rfl rfl
  have i5 := run_ins (w := w1) (k := k) (n := 5) (i := k + 1) (key := { data := #[83, 73, 90, 69] }) hs.symm rfl rfl
  unfold fnV at i0 i1 i2 i3 i4 i5
  simp only [Nat.zero_add, Nat.reduceAdd] at i0 i1 i2 i3 i4 i5
  rw [hw1, hk] at hmm i0 i1 i2 i3 i4 i5
  clear hs hw1 hk
  go_enter Tryd.func59, Tryd.ntmps59
  go_wp2_with fail
  go_ret
  exact ⟨rfl, rfl⟩
end Go.Proofs.YtanfonpbnamjmaaDoor
