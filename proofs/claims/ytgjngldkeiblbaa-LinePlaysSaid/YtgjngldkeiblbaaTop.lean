/-
  What the laws' proofs share: the wrap from a walk that writes new memory alone to a row's post; the library's variable out of the world's shape; Feed's contract with its number under one name; reading an argument's texts.
-/
import Derived.Test.YtgjngldkeiblbaaRows
import Derived.Test.YtgjngldkeiblbaaAwake
import Derived.ProofKit
import Derived.OpenShut
import Derived.ShutString
import Derived.HandedShaped
import Derived.ChangeSame
namespace Go.Proofs.Ytgjngldkeiblbaa
open Go Go.RowKit Go.Shelf Go.WideShapes Go.ChangeShapes

section
variable {H : Type} {enc : TypeId × Value → H} {P : Program}
theorem post_of_below {f : Func} {s : ChangeSpec} {apart fresh handsOn again : Bool} {W W' : World} {args : Array Value} {v : Value} {ds gs : List (DataW H)} {before pa pv : List MemPlace}
    (hW : DataW.Whole enc P f.params.toList s.vars apart W args.toList ds gs before)
    (hres : ∀ (b : Nat) (sp : Nat → Bool) (hd : Bool), DataW.TrodAll enc P W' b sp hd f.resultTypes.toList (v.resultList f.resultTypes.size) (s.fn H (ds ++ gs)).results [])
    (hargs : ∀ sp : Nat → Bool, (∀ p ∈ before, sp p.block = true) → DataW.TrodAll enc P W' 0 sp true f.params.toList args.toList (s.fn H (ds ++ gs)).args pa)
    (hvars : ∀ sp : Nat → Bool, (∀ p ∈ before, sp p.block = true) → DataW.TrodVars enc P W' sp s.vars (s.fn H (ds ++ gs)).vars pv)
    (hps : before = pa ++ pv) (hb : Below W.heap.size W W')
    (hok : ∀ (j : Nat) (t : TypeId) (r : Value), f.resultTypes[j]? = some t → (v.resultList f.resultTypes.size)[j]? = some r → Value.okWide P W' .any 0 t r) :
    s.post enc P f apart fresh handsOn again W args v W' := by
  have hlt : ∀ p ∈ before, p.block < W.heap.size := fun p hp => hW.lt p hp
  have hold : ∀ p ∈ before, (fun b => decide (b < W.heap.size)) p.block = true := fun p hp => by simpa using hlt p hp
  refine ⟨ds, gs, before, [], pa, pv, hW, hres _ _ _, hargs _ hold, hvars _ hold, World.keptBut_mono (fun p hp => ⟨hp, ?_⟩) (hb.frame (· ∈ before)), fun _ => ?_⟩
  · rw [hps, List.mem_append] at hp
    exact Or.inr hp
  · obtain ⟨_, _, _, _, _, hz, hn⟩ := hW
    refine ⟨hok, _, _, ([] ++ pa) ++ pv, ⟨[] ++ pa, pv, trodAll_append (hargs _ (fun _ _ => rfl)) (hres _ _ _), hvars _ (fun _ _ => rfl), rfl, ?_, ?_⟩, ?_⟩
    · intro b off hp
      have hin : MemPlace.cell b off ∈ before := by rw [hps]; simpa using hp
      rw [hb.frozen (hlt _ hin)]
      exact hz b off hin
    · intro ha
      have := hn ha
      rw [hps] at this
      simpa using this
    · intro p hp _
      rw [hps]
      simpa using hp
end

theorem Try.own : ownKnob Try.prog.godebug = none := by kernel_rfl

theorem ml_of_shape {W : World} (h : W.ShapedOpen Try.prog) : ML W := Try.laysM145.s1_3 W h

theorem ML.pos {W : World} (h : ML W) : 0 < W.heap.size := by
  obtain ⟨m, hm⟩ := h
  exact block_lt_of_cell hm

theorem to_str (s : ByteArray) : ∃ l : List UInt8, s = str l ∧ l.length = s.size := ⟨s.data.toList, by cases s; rfl, Array.length_toList⟩

theorem bounds_i64 {a : Int} (h : (Lit.int .i64 a).wf = true) : -9223372036854775808 ≤ a ∧ a ≤ 9223372036854775807 := by
  simp only [Lit.wf, IntKind.min, IntKind.max, IntKind.signed, IntKind.bits, Bool.and_eq_true, decide_eq_true_eq, if_true] at h
  omega

theorem run_count (m : Nat) : ∀ (s l : List UInt8), (run m l s).1.length ≤ s.length := by
  intro s
  induction s with
  | nil => intro l; simp [run_nil]
  | cons b s ih =>
    intro l
    by_cases h : b = 10 ∧ l.getLast? = some 13
    · rw [run_end _ h]; have := ih []; simp; omega
    · by_cases hm : m ≤ l.length + 1
      · rw [run_dies _ h hm]; simp
      · rw [run_on _ h (by omega)]; have := ih (l ++ [b]); simp; omega

/-- The number that Feed answers. -/
def eno (d : Bool) : Int := if d then 40 else 0

theorem feed_go {w : World} {b m : Nat} {l s l' : List UInt8} {d : Bool} {o : List (List UInt8)} (h : Fr w b m l false) (hl : Live m l) (hm : 2 ≤ m) (hm' : m ≤ 512) (hs : s.length ≤ 50000) (h0b : 0 < b) (hML : ML w) (hr : run m l s = (o, l', d)) :
    Calls Try.prog 11 #[.pointer (some ⟨b, 0, none⟩), .string (str s)] w fun e w' => ∃ A cap, e = .returned (.tuple #[.slice A o.length cap, .int .i64 (eno d)]) ∧ w.grownBy w' (some b) ∧ Fr w' b m l' d ∧ Ows w' w.heap.size (.slice A o.length cap) o :=
  feed_run h hl hm hm' hs h0b hML hr

end Go.Proofs.Ytgjngldkeiblbaa
