/-
  What the laws' proofs share: the wrap from a walk that writes new memory alone to a row's post; the laid variables out of the rows' condition; a world that meets it.
-/
import Derived.Test.YtnaoandleelbkaaGreatDoorRows
import Derived.Test.YtnaoandleelbkaaGreatDoorUOpen
import Derived.ProofKit
import Derived.OpenShut
import Derived.ShutString
import Derived.HandedShaped
import Derived.Laws.IdiomArrays
import Derived.ChangeSame
import Derived.LaidMore
import Derived.LaidSub
import Derived.Lay
import Derived.SliceStrings
import Derived.Stop.Joined
namespace Go.Proofs.YtnaoandleelbkaaGreatDoor
open Go Go.RowKit Go.Shelf Go.WideShapes Go.ChangeShapes Go.ChangeAt
set_option maxRecDepth 100000

section
variable {H : Type} {enc : TypeId × Value → H} {P : Program}
theorem post_of_below {f : Func} {s : ChangeSpec} {apart fresh handsOn again : Bool} {W W' : World} {args : Array Value} {v : Value} {ds gs : List (DataW H)} {before pa pv : List MemPlace}
    (hW : DataW.Whole enc P f.params.toList s.vars apart W args.toList ds gs before)
    (hres : ∀ (b : Nat) (sp : Nat → Bool) (hd : Bool), DataW.TrodAll enc P W' b sp hd f.resultTypes.toList (v.resultList f.resultTypes.size) (s.fn H (ds ++ gs)).results [])
    (hargs : ∀ sp : Nat → Bool, (∀ p ∈ before, sp p.block = true) → DataW.TrodAll enc P W' 0 sp true f.params.toList args.toList (s.fn H (ds ++ gs)).args pa)
    (hvars : ∀ sp : Nat → Bool, (∀ p ∈ before, sp p.block = true) → DataW.TrodVars enc P W' sp s.vars (s.fn H (ds ++ gs)).vars pv)
    (hps : before = pa ++ pv) (hb : Below W.heap.size W W')
    (hok : ∀ (j : Nat) (t : TypeId) (r : Value), f.resultTypes[j]? = some t → (v.resultList f.resultTypes.size)[j]? = some r → Value.okWide P W' .any 0 t r) :
    s.post enc P f apart fresh handsOn again W args v W' := by
  have hlt : ∀ p ∈ before, p.block < W.heap.size := fun p hp => hW.lt p hp
  have hold : ∀ p ∈ before, (fun b => decide (b < W.heap.size)) p.block = true := fun p hp => by simpa using hlt p hp
  refine ⟨ds, gs, before, [], pa, pv, hW, hres _ _ _, hargs _ hold, hvars _ hold, World.keptBut_mono (fun p hp => ⟨hp, ?_⟩) (hb.frame (· ∈ before)), fun _ => ?_⟩
  · rw [hps, List.mem_append] at hp
    exact Or.inr hp
  · obtain ⟨_, _, _, _, _, hz, hn⟩ := hW
    refine ⟨hok, _, _, ([] ++ pa) ++ pv, ⟨[] ++ pa, pv, trodAll_append (hargs _ (fun _ _ => rfl)) (hres _ _ _), hvars _ (fun _ _ => rfl), rfl, ?_, ?_⟩, ?_⟩
    · intro b off hp
      have hin : MemPlace.cell b off ∈ before := by rw [hps]; simpa using hp
      rw [hb.frozen (hlt _ hin)]
      exact hz b off hin
    · intro ha
      have := hn ha
      rw [hps] at this
      simpa using this
    · intro p hp _
      rw [hps]
      simpa using hp

/-- A row under a condition on the world, and the world's shape at hand: the law behind each proof's end. -/
theorem returns_shaped {a : Assume} {C : Checked} {os : Os} {f : FuncId} {fn : Func} {s : ChangeSpec} {conds : List PathCond} {apart fresh handsOn again : Bool} {X : World → Array Value → Prop}
    (hX : ∀ (w w' : World) (args : Array Value), w.heap = w'.heap → X w args → X w' args)
    (own : ownKnob C.prog.godebug = none) (started : os.Started) (noInit : C.prog.inits.idxOf? f = none) (hfn : C.prog.funcs[f]? = some fn)
    (witness : ∃ (w : World) (tape : Tape) (i : Input), w.os = os ∧ (w.forCall tape i).Shaped C.prog ∧ i.vars = [] ∧ Input.okWide C.prog (w.forCall tape i) .any w.heap.size f i ∧
      ((s.pre enc C.prog fn conds apart (w.forCall tape i).memory i.args ∧ X (w.forCall tape i).memory i.args) ∧ sizedMet enc C.prog fn (OpenSpec.ofChange s) apart (w.forCall tape i).memory i.args) ∧ a.holds C.prog (lone (Frame.enter C.prog f i.args .normal) [] (w.forCall tape i)))
    (contract : ∀ (W : World) (base : Nat) (args : Array Value) (ds gs : List (DataW H)) (before : List MemPlace),
      (∀ (j : Nat) t v, fn.params[j]? = some t → args[j]? = some v → Value.okWide C.prog W .any base t v) →
      DataW.Whole enc C.prog fn.params.toList s.vars apart W args.toList ds gs before →
      (DataW.weightsEach C.prog (fn.params.toList ++ s.plain.varTypes C.prog) (ds ++ gs)).all (· ≤ reachBytes) = true → X W args → W.ShapedOpen C.prog →
      Calls C.prog f args W fun e W' => ∃ v, e = .returned v ∧ s.post enc C.prog fn apart fresh handsOn again W args v W') :
    ReturnsInHanded a C os f .any (fun w args => (s.pre enc C.prog fn conds apart w args ∧ X w args) ∧ sizedMet enc C.prog fn (OpenSpec.ofChange s) apart w args) (s.post enc C.prog fn apart fresh handsOn again) := by
  refine returnsInHanded_of_calls own started noInit witness ?_
  intro w tape i _ hsh _ hok hpre _
  obtain ⟨_, _, _, fn', hfn', _, _, _, _, hval⟩ := hok
  obtain rfl : fn' = fn := Option.some.inj (hfn'.symm.trans hfn)
  obtain ⟨⟨⟨ds, gs, before, hw, _⟩, hx⟩, hz⟩ := hpre
  have hw' := DataW.Whole.of_heap (w' := w.forCall tape i) (by rfl) hw
  refine (contract (w.forCall tape i) w.heap.size i.args ds gs before hval hw' (hz.weights hw) (hX _ _ _ (by rfl) hx) hsh).mono fun e W' ⟨v, he, hp⟩ => ?_
  subst he
  exact ChangeSpec.post_blind hp
end

theorem Tryz.own : ownKnob Tryz.prog.godebug = none := by kernel_rfl

/-- What the rows' condition lists. -/
abbrev laidLU : List (String × DataW Unit) := [("math/bits.deBruijn32tab", Rows.laid_math_bits_deBruijn32tab), ("math/bits.deBruijn64tab", Rows.laid_math_bits_deBruijn64tab), ("internal/strconv.uint64pow10", Rows.laid_internal_strconv_uint64pow10), ("unicode/utf8.acceptRanges", Rows.laid_unicode_utf8_acceptRanges), ("mailroom/code.firstWords", Rows.laid_mailroom_code_firstWords), ("mailroom/code.roundWords", Rows.laid_mailroom_code_roundWords), ("mailroom/cert.tags", Rows.laid_mailroom_cert_tags), ("unicode/utf8.first", Rows.laid_unicode_utf8_first)]

theorem shaped_allU (os : Os) : (World.laidAll Tryz.prog os laidLU).Shaped Tryz.prog := World.shaped_of_ZipB (by kernel_rfl) (by kernel_rfl)

theorem laid_metU (os : Os) (args : Array Value) : laidMetH Tryz.prog laidLU ((World.laidAll Tryz.prog os laidLU).forCall (fun _ _ => 0) ⟨#[], args, []⟩).memory := by
  rw [MakeChecks.laidMetH_plain _ _ _ (by kernel_rfl)]
  exact laidMet_laidAll _ (by kernel_rfl) (by kernel_rfl)
theorem gl_of_laidU {W : World} (h : laidMetH Tryz.prog laidLU W) (hsh : W.ShapedOpen Tryz.prog) : GL W := by
  have h1 := h.filter (fun x => x.1 == "mailroom/cert.tags")
  rw [show (laidLU.filter fun x => x.1 == "mailroom/cert.tags") = [("mailroom/cert.tags", Lib.tabData .u8 tagsZ)] from by kernel_rfl, MakeChecks.laidMetH_plain _ _ _ (by kernel_rfl)] at h1
  exact ⟨Tryz.laysM145.s1_3 W hsh, Lib.tabIs_of_head gTags (t := 146) (e := 5) (n := 6) (by kernel_rfl) Tryz.underlying146 Tryz.underlying5 (by kernel_rfl) (by kernel_rfl) h1⟩
theorem lw_of_laidU {W : World} (h : laidMetH Tryz.prog laidLU W) : LWc W := by
  have h2 := h.filter (fun x => x.1 == "mailroom/code.firstWords")
  have h3 := h.filter (fun x => x.1 == "mailroom/code.roundWords")
  rw [show (laidLU.filter fun x => x.1 == "mailroom/code.firstWords") = [("mailroom/code.firstWords", Lib.tabData .u32 firstZ)] from by kernel_rfl, MakeChecks.laidMetH_plain _ _ _ (by kernel_rfl)] at h2
  rw [show (laidLU.filter fun x => x.1 == "mailroom/code.roundWords") = [("mailroom/code.roundWords", Lib.tabData .u32 roundZ)] from by kernel_rfl, MakeChecks.laidMetH_plain _ _ _ (by kernel_rfl)] at h3
  exact ⟨Lib.tabIs_of_head gFirst (t := 117) (e := 116) (n := 8) (by kernel_rfl) Tryz.underlying117 Tryz.underlying116 (by kernel_rfl) (by kernel_rfl) h2,
    Lib.tabIs_of_head gRound (t := 192) (e := 116) (n := 64) (by kernel_rfl) Tryz.underlying192 Tryz.underlying116 (by kernel_rfl) (by kernel_rfl) h3⟩
theorem gu_of_laidU {W : World} (h : laidMetH Tryz.prog laidLU W) (hsh : W.ShapedOpen Tryz.prog) : GU W := by
  have h4 := h.filter (fun x => x.1 == "internal/strconv.uint64pow10")
  rw [show (laidLU.filter fun x => x.1 == "internal/strconv.uint64pow10") = [("internal/strconv.uint64pow10", Lib.tabData .u64 Lib.pow10Tab)] from by kernel_rfl, MakeChecks.laidMetH_plain _ _ _ (by kernel_rfl)] at h4
  exact ⟨⟨gl_of_laidU h hsh, lw_of_laidU h⟩, ⟨Lib.tabIs_of_head Nx.gPow (t := 243) (e := 127) (n := 20) (by kernel_rfl) Tryz.underlying243 Tryz.underlying127 (by kernel_rfl) (by kernel_rfl) h4⟩⟩
theorem bounds_i64 {a : Int} (h : (Lit.int .i64 a).wf = true) : -9223372036854775808 ≤ a ∧ a ≤ 9223372036854775807 := by
  simp only [Lit.wf, IntKind.min, IntKind.max, IntKind.signed, IntKind.bits, Bool.and_eq_true, decide_eq_true_eq, if_true] at h
  omega

theorem Tryz.laidOutB : laidOutB Tryz.prog = true := by kernel_rfl
theorem Tryz.cellsString : Tryz.prog.cellsOf 9 = 1 := by kernel_rfl
theorem Tryz.bytesString : Tryz.prog.bytesOf 9 = 16 := by kernel_rfl
end Go.Proofs.YtnaoandleelbkaaGreatDoor
