/-
  What the laws' proofs share: the wrap from a walk that writes new memory alone to a row's post; the library's variable out of the world's shape; a world that meets the rows' condition.
-/
import Derived.Test.YtbmjmiioobgbfaaGreatDoorRows
import Derived.Test.YtbmjmiioobgbfaaGreatDoorKWalk2
import Derived.ProofKit
import Derived.OpenShut
import Derived.ShutString
import Derived.HandedShaped
import Derived.Laws.IdiomArrays
import Derived.ChangeSame
import Derived.LaidMore
import Derived.LaidSub
import Derived.Lay
import Derived.SliceStrings
import Derived.Stop.Joined
namespace Go.Proofs.YtbmjmiioobgbfaaGreatDoor
open Go Go.RowKit Go.Shelf Go.WideShapes Go.ChangeShapes Go.ChangeAt
set_option maxRecDepth 100000

section
variable {H : Type} {enc : TypeId × Value → H} {P : Program}
theorem post_of_below {f : Func} {s : ChangeSpec} {apart fresh handsOn again : Bool} {W W' : World} {args : Array Value} {v : Value} {ds gs : List (DataW H)} {before pa pv : List MemPlace}
    (hW : DataW.Whole enc P f.params.toList s.vars apart W args.toList ds gs before)
    (hres : ∀ (b : Nat) (sp : Nat → Bool) (hd : Bool), DataW.TrodAll enc P W' b sp hd f.resultTypes.toList (v.resultList f.resultTypes.size) (s.fn H (ds ++ gs)).results [])
    (hargs : ∀ sp : Nat → Bool, (∀ p ∈ before, sp p.block = true) → DataW.TrodAll enc P W' 0 sp true f.params.toList args.toList (s.fn H (ds ++ gs)).args pa)
    (hvars : ∀ sp : Nat → Bool, (∀ p ∈ before, sp p.block = true) → DataW.TrodVars enc P W' sp s.vars (s.fn H (ds ++ gs)).vars pv)
    (hps : before = pa ++ pv) (hb : Below W.heap.size W W')
    (hok : ∀ (j : Nat) (t : TypeId) (r : Value), f.resultTypes[j]? = some t → (v.resultList f.resultTypes.size)[j]? = some r → Value.okWide P W' .any 0 t r) :
    s.post enc P f apart fresh handsOn again W args v W' := by
  have hlt : ∀ p ∈ before, p.block < W.heap.size := fun p hp => hW.lt p hp
  have hold : ∀ p ∈ before, (fun b => decide (b < W.heap.size)) p.block = true := fun p hp => by simpa using hlt p hp
  refine ⟨ds, gs, before, [], pa, pv, hW, hres _ _ _, hargs _ hold, hvars _ hold, World.keptBut_mono (fun p hp => ⟨hp, ?_⟩) (hb.frame (· ∈ before)), fun _ => ?_⟩
  · rw [hps, List.mem_append] at hp
    exact Or.inr hp
  · obtain ⟨_, _, _, _, _, hz, hn⟩ := hW
    refine ⟨hok, _, _, ([] ++ pa) ++ pv, ⟨[] ++ pa, pv, trodAll_append (hargs _ (fun _ _ => rfl)) (hres _ _ _), hvars _ (fun _ _ => rfl), rfl, ?_, ?_⟩, ?_⟩
    · intro b off hp
      have hin : MemPlace.cell b off ∈ before := by rw [hps]; simpa using hp
      rw [hb.frozen (hlt _ hin)]
      exact hz b off hin
    · intro ha
      have := hn ha
      rw [hps] at this
      simpa using this
    · intro p hp _
      rw [hps]
      simpa using hp

/-- A row under a condition on the world, and the world's shape at hand: the law behind each proof's end. -/
theorem returns_shaped {a : Assume} {C : Checked} {os : Os} {f : FuncId} {fn : Func} {s : ChangeSpec} {conds : List PathCond} {apart fresh handsOn again : Bool} {X : World → Array Value → Prop}
    (hX : ∀ (w w' : World) (args : Array Value), w.heap = w'.heap → X w args → X w' args)
    (own : ownKnob C.prog.godebug = none) (started : os.Started) (noInit : C.prog.inits.idxOf? f = none) (hfn : C.prog.funcs[f]? = some fn)
    (witness : ∃ (w : World) (tape : Tape) (i : Input), w.os = os ∧ (w.forCall tape i).Shaped C.prog ∧ i.vars = [] ∧ Input.okWide C.prog (w.forCall tape i) .any w.heap.size f i ∧
      ((s.pre enc C.prog fn conds apart (w.forCall tape i).memory i.args ∧ X (w.forCall tape i).memory i.args) ∧ sizedMet enc C.prog fn (OpenSpec.ofChange s) apart (w.forCall tape i).memory i.args) ∧ a.holds C.prog (lone (Frame.enter C.prog f i.args .normal) [] (w.forCall tape i)))
    (contract : ∀ (W : World) (base : Nat) (args : Array Value) (ds gs : List (DataW H)) (before : List MemPlace),
      (∀ (j : Nat) t v, fn.params[j]? = some t → args[j]? = some v → Value.okWide C.prog W .any base t v) →
      DataW.Whole enc C.prog fn.params.toList s.vars apart W args.toList ds gs before →
      (DataW.weightsEach C.prog (fn.params.toList ++ s.plain.varTypes C.prog) (ds ++ gs)).all (· ≤ reachBytes) = true → X W args → W.ShapedOpen C.prog →
      Calls C.prog f args W fun e W' => ∃ v, e = .returned v ∧ s.post enc C.prog fn apart fresh handsOn again W args v W') :
    ReturnsInHanded a C os f .any (fun w args => (s.pre enc C.prog fn conds apart w args ∧ X w args) ∧ sizedMet enc C.prog fn (OpenSpec.ofChange s) apart w args) (s.post enc C.prog fn apart fresh handsOn again) := by
  refine returnsInHanded_of_calls own started noInit witness ?_
  intro w tape i _ hsh _ hok hpre _
  obtain ⟨_, _, _, fn', hfn', _, _, _, _, hval⟩ := hok
  obtain rfl : fn' = fn := Option.some.inj (hfn'.symm.trans hfn)
  obtain ⟨⟨⟨ds, gs, before, hw, _⟩, hx⟩, hz⟩ := hpre
  have hw' := DataW.Whole.of_heap (w' := w.forCall tape i) (by rfl) hw
  refine (contract (w.forCall tape i) w.heap.size i.args ds gs before hval hw' (hz.weights hw) (hX _ _ _ (by rfl) hx) hsh).mono fun e W' ⟨v, he, hp⟩ => ?_
  subst he
  exact ChangeSpec.post_blind hp
end

theorem Tryz.own : ownKnob Tryz.prog.godebug = none := by kernel_rfl

/-- What the rows' condition lists. -/
abbrev laidL : List (String × DataW Unit) := [("math/bits.deBruijn32tab", Rows.laid_math_bits_deBruijn32tab), ("math/bits.deBruijn64tab", Rows.laid_math_bits_deBruijn64tab), ("internal/strconv.uint64pow10", Rows.laid_internal_strconv_uint64pow10), ("unicode/utf8.acceptRanges", Rows.laid_unicode_utf8_acceptRanges), ("mailroom/cmd.heads", Rows.laid_mailroom_cmd_heads), ("unicode/utf8.first", Rows.laid_unicode_utf8_first)]

theorem ml_of_shape {W : World} (h : W.ShapedOpen Tryz.prog) : ML W := Tryz.laysM145.s1_3 W h
theorem trod_array7 {H : Type} {enc : TypeId × Value → H} {P : Program} {w : World} {base : Nat} {spare : Nat → Bool} {held : Bool} {t e : TypeId} {fuel : Nat} {c0 c1 c2 c3 c4 c5 c6 : Value} {x : DataW H × List MemPlace} (ht : P.underlying t = some (.array 7 e)) (hce : P.cellsOf e = 1)
    (h : DataW.trod enc P w base spare held fuel t [c0, c1, c2, c3, c4, c5, c6] = some x) :
    ∃ y0 y1 y2 y3 y4 y5 y6 n, x.1 = .agg [y0.1, y1.1, y2.1, y3.1, y4.1, y5.1, y6.1] ∧ DataW.trod enc P w base spare held n e [c0] = some y0 ∧ DataW.trod enc P w base spare held n e [c1] = some y1 ∧ DataW.trod enc P w base spare held n e [c2] = some y2 ∧ DataW.trod enc P w base spare held n e [c3] = some y3 ∧ DataW.trod enc P w base spare held n e [c4] = some y4 ∧ DataW.trod enc P w base spare held n e [c5] = some y5 ∧ DataW.trod enc P w base spare held n e [c6] = some y6 := by
  cases fuel with
  | zero => simp [DataW.trod] at h
  | succ n =>
    unfold DataW.trod at h
    rw [ht] at h
    have r7 : List.range 7 = [0, 1, 2, 3, 4, 5, 6] := rfl
    simp [r7, hce] at h
    obtain ⟨_, h⟩ := h
    cases h0 : DataW.trod enc P w base spare held n e [c0] with
    | none => simp [h0] at h
    | some y0 =>
    cases h1 : DataW.trod enc P w base spare held n e [c1] with
    | none => simp [h0, h1] at h
    | some y1 =>
    cases h2 : DataW.trod enc P w base spare held n e [c2] with
    | none => simp [h0, h1, h2] at h
    | some y2 =>
    cases h3 : DataW.trod enc P w base spare held n e [c3] with
    | none => simp [h0, h1, h2, h3] at h
    | some y3 =>
    cases h4 : DataW.trod enc P w base spare held n e [c4] with
    | none => simp [h0, h1, h2, h3, h4] at h
    | some y4 =>
    cases h5 : DataW.trod enc P w base spare held n e [c5] with
    | none => simp [h0, h1, h2, h3, h4, h5] at h
    | some y5 =>
    cases h6 : DataW.trod enc P w base spare held n e [c6] with
    | none => simp [h0, h1, h2, h3, h4, h5, h6] at h
    | some y6 =>
    simp [h0, h1, h2, h3, h4, h5, h6] at h
    rw [← h]
    exact ⟨y0, y1, y2, y3, y4, y5, y6, n, rfl, h0, h1, h2, h3, h4, h5, h6⟩
theorem sv_of {s : ByteArray} {l : List UInt8} (h : s.data.toList = l) : Value.string s = sv l := by
  subst h
  cases s
  rfl
theorem lw_of_laid {W : World} (h : laidMetH Tryz.prog laidL W) (hsh : W.ShapedOpen Tryz.prog) : LW W := by
  have pick : ∀ n : String, laidMetH Tryz.prog (laidL.filter fun x => x.1 == n) W := fun n => h.filter _
  have h1 := pick "internal/strconv.uint64pow10"
  have h2 := pick "mailroom/cmd.heads"
  rw [show (laidL.filter fun x => x.1 == "internal/strconv.uint64pow10") = [("internal/strconv.uint64pow10", Lib.tabData .u64 Lib.pow10Tab)] from by kernel_rfl, MakeChecks.laidMetH_plain _ _ _ (by kernel_rfl)] at h1
  rw [show (laidL.filter fun x => x.1 == "mailroom/cmd.heads") = [("mailroom/cmd.heads", Rows.laid_mailroom_cmd_heads)] from by kernel_rfl, MakeChecks.laidMetH_plain _ _ _ (by kernel_rfl)] at h2
  refine ⟨ml_of_shape hsh, Lib.tabIs_of_head gPow (t := 187) (e := 132) (n := 20) (by kernel_rfl) Tryz.underlying187 Tryz.underlying132 (by kernel_rfl) (by kernel_rfl) h1, ?_⟩
  obtain ⟨ps, ⟨g', t', cs, fuel, p, q, hg', ht', hvar, hd, _, _⟩, _⟩ := h2
  obtain rfl := Option.some.inj ((show (Tryz.prog.globals[0]?).map (·.type) = some 122 by kernel_rfl).symm.trans ((Option.some.inj (gHeads.symm.trans hg')) ▸ ht'))
  obtain ⟨xs, m, _, _, hlen, _, _⟩ := DataW.trod_array Tryz.underlying122 hd
  rw [show Tryz.prog.cellsOf 122 = 7 by kernel_rfl] at hlen
  obtain ⟨l⟩ := cs
  match l, hlen, hd, hvar with
  | [x0, x1, x2, x3, x4, x5, x6], _, hd, hvar =>
    obtain ⟨y0, y1, y2, y3, y4, y5, y6, n, hx, d0, d1, d2, d3, d4, d5, d6⟩ := trod_array7 Tryz.underlying122 (show Tryz.prog.cellsOf 9 = 1 by kernel_rfl) hd
    obtain ⟨s0, e0, f0, _⟩ := DataW.trod_string Tryz.underlying9 d0
    obtain ⟨s1, e1, f1, _⟩ := DataW.trod_string Tryz.underlying9 d1
    obtain ⟨s2, e2, f2, _⟩ := DataW.trod_string Tryz.underlying9 d2
    obtain ⟨s3, e3, f3, _⟩ := DataW.trod_string Tryz.underlying9 d3
    obtain ⟨s4, e4, f4, _⟩ := DataW.trod_string Tryz.underlying9 d4
    obtain ⟨s5, e5, f5, _⟩ := DataW.trod_string Tryz.underlying9 d5
    obtain ⟨s6, e6, f6, _⟩ := DataW.trod_string Tryz.underlying9 d6
    subst f0; subst f1; subst f2; subst f3; subst f4; subst f5; subst f6
    simp only [List.cons.injEq, and_true] at e0 e1 e2 e3 e4 e5 e6
    subst e0; subst e1; subst e2; subst e3; subst e4; subst e5; subst e6
    simp only [Rows.laid_mailroom_cmd_heads, DataW.agg.injEq, List.cons.injEq, DataW.lit.injEq, Lit.string.injEq, and_true] at hx
    obtain ⟨q0, q1, q2, q3, q4, q5, q6⟩ := hx
    rw [hvar, sv_of q0.symm, sv_of q1.symm, sv_of q2.symm, sv_of q3.symm, sv_of q4.symm, sv_of q5.symm, sv_of q6.symm]
    rfl

theorem shaped_all (os : Os) : (World.laidAll Tryz.prog os laidL).Shaped Tryz.prog := World.shaped_of_ZipB (by kernel_rfl) (by kernel_rfl)

theorem laid_met (os : Os) (args : Array Value) : laidMetH Tryz.prog laidL ((World.laidAll Tryz.prog os laidL).forCall (fun _ _ => 0) ⟨#[], args, []⟩).memory := by
  rw [MakeChecks.laidMetH_plain _ _ _ (by kernel_rfl)]
  exact laidMet_laidAll _ (by kernel_rfl) (by kernel_rfl)

theorem bounds_i64 {a : Int} (h : (Lit.int .i64 a).wf = true) : -9223372036854775808 ≤ a ∧ a ≤ 9223372036854775807 := by
  simp only [Lit.wf, IntKind.min, IntKind.max, IntKind.signed, IntKind.bits, Bool.and_eq_true, decide_eq_true_eq, if_true] at h
  omega

/-- A slice of bools that came in. -/
def BoolsIn (w : World) (A : Option Addr) (n : Nat) (B : Nat → Bool) : Prop := 0 < n → ∃ b off, A = some ⟨b, off, none⟩ ∧ b < w.heap.size ∧ ∀ k, k < n → w.cell? ⟨b, off + k, none⟩ = some (.bool (B k))
theorem boolsIn_of_open {W : World} {a : Addr} {n : Nat} {B : Nat → Bool} (hc : ∀ i, i < n → W.cell? (a.add i) = some (.bool (B i))) : BoolsIn W (some a) n B := fun h0 => by
  obtain ⟨b, off, spot⟩ := a
  have hspot : spot = none := by simpa [Addr.add] using World.cell?_spot (hc 0 h0)
  subst hspot
  refine ⟨b, off, rfl, block_lt_of_cell (hc 0 h0), fun k hk => by rw [← Go.WideShapes.add_plain]; exact hc k hk⟩
theorem BoolsIn.step {w w' : World} {A : Option Addr} {n : Nat} {B : Nat → Bool} (h : BoolsIn w A n B) (hb : Below w.heap.size w w') : BoolsIn w' A n B := fun h0 => by
  obtain ⟨b, off, e, hl, hc⟩ := h h0
  exact ⟨b, off, e, Nat.lt_of_lt_of_le hl hb.size, fun k hk => (hb.cell (p := ⟨b, off + k, none⟩) hl).trans (hc k hk)⟩
theorem Tryz.laidOutB : laidOutB Tryz.prog = true := by kernel_rfl
theorem Tryz.cellsBool : Tryz.prog.cellsOf 4 = 1 := by kernel_rfl
end Go.Proofs.YtbmjmiioobgbfaaGreatDoor
