/-
  A thing, and a row of things, that came in, opened; numbers; and how long they may be.
-/
import Derived.Deep.Slices
import Derived.Deep.Fields
import Derived.ChangeSame
import Derived.ChangeArms
import Derived.Carry
import Derived.ProofKit
import Derived.SizedLaws
import Derived.Test.YtablllincjoabaaERow
namespace Go.Proofs.Ytablllincjoabaa
open Go Go.RowKit Go.WideShapes Go.ChangeShapes Go.ChangeAt
set_option maxRecDepth 100000
set_option linter.unusedSimpArgs false
set_option linter.unusedVariables false

theorem Try.laidOutB : laidOutB Try.prog = true := by kernel_rfl
theorem cells_item : Try.prog.cellsOf 29 = 2 := by kernel_rfl
theorem cells_byte : Try.prog.cellsOf 5 = 1 := by kernel_rfl
theorem bounds_of_wf {a : Int} (h : (Lit.int .i64 a).wf = true) : -9223372036854775808 ≤ a ∧ a ≤ 9223372036854775807 := by
  simp only [Lit.wf, IntKind.min, IntKind.max, IntKind.signed, IntKind.bits, Bool.and_eq_true, decide_eq_true_eq, if_true] at h
  omega
theorem byte_of_wf {a : Int} (h : (Lit.int .u8 a).wf = true) : ∃ b : UInt8, a = (b.toNat : Int) := by
  simp only [Lit.wf, IntKind.min, IntKind.max, IntKind.signed, IntKind.bits, Bool.and_eq_true, decide_eq_true_eq, Bool.false_eq_true, if_false] at h
  refine ⟨UInt8.ofNat a.toNat, ?_⟩
  have : (UInt8.ofNat a.toNat).toNat = a.toNat := by simp; omega
  rw [this]; omega
theorem cells_text : Try.prog.cellsOf 9 = 1 := by kernel_rfl

section
variable {H : Type} {enc : TypeId × Value → H} {W : World}
theorem to_str' (s : ByteArray) : ∃ l : List UInt8, s = str l ∧ s.data.toList = l := ⟨s.data.toList, by cases s; rfl, rfl⟩
theorem text_opened {sp : Nat → Bool} {n : Nat} {v : Value} {y : DataW H × List MemPlace} (h : DataW.trod enc Try.prog W 0 sp true n 9 [v] = some y) : ∃ s : List UInt8, v = sv s ∧ y.1 = .lit (.string s) := by
  obtain ⟨s, e, hy, hl⟩ := DataW.trod_string Try.underlying9 h
  obtain ⟨l, rfl, hl'⟩ := to_str' s
  simp only [List.cons.injEq, and_true] at e
  refine ⟨l, e, ?_⟩
  rw [hy]
theorem byte_opened {sp : Nat → Bool} {n : Nat} {v : Value} {y : DataW H × List MemPlace} (h : DataW.trod enc Try.prog W 0 sp true n 5 [v] = some y) : ∃ a : UInt8, v = .int .u8 (a.toNat : Int) ∧ y.1 = .lit (.int .u8 (a.toNat : Int)) := by
  obtain ⟨a, e, hy, hw⟩ := DataW.trod_int Try.underlying5 h
  simp only [List.cons.injEq, and_true] at e
  obtain ⟨b, rfl⟩ := byte_of_wf hw
  exact ⟨b, e, by rw [hy]⟩
theorem two_opened {sp : Nat → Bool} {n : Nat} {c0 c1 : Value} {y : DataW H × List MemPlace} (h : DataW.trod enc Try.prog W 0 sp true n 29 [c0, c1] = some y) :
    ∃ r : Tv, c0 = bvi r.1 ∧ c1 = sv r.2 ∧ y.1 = .agg [.lit (.int .u8 (r.1.toNat : Int)), .lit (.string r.2)] := by
  obtain ⟨xs, k, _, hy, _, hxl, hg⟩ := DataW.trod_struct Try.underlying29 h
  match xs, hxl with
  | [y0, y1], _ =>
    have g0 : DataW.trod enc Try.prog W 0 sp true k 5 ((([c0, c1] : List Value).drop 0).take (Try.prog.cellsOf 5)) = [y0, y1][0]? := hg 0 _ rfl
    have g1 : DataW.trod enc Try.prog W 0 sp true k 9 ((([c0, c1] : List Value).drop 1).take (Try.prog.cellsOf 9)) = [y0, y1][1]? := hg 1 _ rfl
    rw [cells_byte] at g0
    rw [cells_text] at g1
    obtain ⟨s, rfl, hs⟩ := byte_opened (y := y0) (by simpa using g0)
    obtain ⟨b, rfl, hb⟩ := text_opened (y := y1) (by simpa using g1)
    exact ⟨(s, b), rfl, rfl, by rw [hy, ← hs, ← hb]; rfl⟩
theorem item_opened {b0 : Nat} {v : Value} {d : DataW H} {p : List MemPlace} (hv : Value.okWide Try.prog W .any b0 29 v) (h : DataW.Trod enc Try.prog W 0 (fun _ => true) true 29 v d p) :
    ∃ c : Tv, v = itv c.1 c.2 ∧ d = .agg [.lit (.int .u8 (c.1.toNat : Int)), .lit (.string c.2)] := by
  obtain ⟨cs, rfl, hsz⟩ := okWide_struct Try.underlying29 hv
  rw [cells_item] at hsz
  obtain ⟨l⟩ := cs
  match l, hsz with
  | [c0, c1], _ =>
    obtain ⟨fuel, hf⟩ := h
    obtain ⟨r, rfl, rfl, hd⟩ := two_opened (by simpa [Value.cells] using hf)
    exact ⟨r, rfl, hd⟩

theorem item_sized {ts : List TypeId} {ds : List (DataW H)} {c : Tv} {j : Nat} (h : (DataW.weightsEach Try.prog ts ds).all (· ≤ reachBytes) = true) (ht : ts[j]? = some 29) (hd : ds[j]? = some (.agg [.lit (.int .u8 (c.1.toNat : Int)), .lit (.string c.2)])) :
    c.2.length ≤ 140737488351232 := by
  have key : ∀ n ∈ DataW.weights Try.prog 29 (.agg [.lit (.int .u8 (c.1.toNat : Int)), .lit (.string c.2)] : DataW H), n ≤ 140737488351232 := fun n hn => by
    have := List.all_eq_true.1 h _ (DataW.weights_mem_each ht hd n hn)
    have : n ≤ reachBytes := by simpa using this
    unfold reachBytes at this
    omega
  have e : DataW.weights Try.prog 29 (.agg [.lit (.int .u8 (c.1.toNat : Int)), .lit (.string c.2)] : DataW H) = [c.2.length] := by
    simp [DataW.weights, Try.underlying29, DataW.weightsEach]
  rw [e] at key
  exact key _ (by simp)

theorem weights_all {P : Program} {e : TypeId} : ∀ {l : List (DataW H)} {d : DataW H}, d ∈ l → ∀ n ∈ d.weights P e, n ∈ DataW.weightsAll P e l
  | x :: l, d, hd, n, hn => by
    simp only [DataW.weightsAll, List.mem_append]
    rcases List.mem_cons.1 hd with rfl | h
    · exact .inl hn
    · exact .inr (weights_all h n hn)

/-- What is known of a row of fields that came in. -/
def ItemsD (d : DataW H) (ps : List Tv) : Prop := (d = .nil ∧ ps = []) ∨ ∃ els spare, d = .slice els spare ∧ ps.length ≤ els.length ∧ ∀ r ∈ ps, (.agg [.lit (.int .u8 (r.1.toNat : Int)), .lit (.string r.2)] : DataW H) ∈ els

theorem items_opened {b0 : Nat} {v : Value} {d : DataW H} {p : List MemPlace} (hv : Value.okWide Try.prog W .any b0 34 v) (h : DataW.Trod enc Try.prog W 0 (fun _ => true) true 34 v d p) :
    ∃ (A : Option Addr) (c : Nat) (ps : List Tv), v = .slice A ps.length c ∧ TR W (.slice A ps.length c) ps ∧ ItemsD d ps := by
  obtain ⟨A0, n0, c0, rfl⟩ := okWide_slice Try.underlying34 hv
  obtain ⟨fuel, hf⟩ := h
  rcases Go.Deep.open_slice Try.underlying34 hf with ⟨hcs, hx⟩ | ⟨a, len, cap, m, n', D, Pl, hcs, hbb, hl, hm, hmm, hx, hi⟩
  · simp [Value.cells] at hcs
    obtain ⟨rfl, rfl, rfl⟩ := hcs
    simp only [Prod.mk.injEq] at hx
    exact ⟨none, 0, [], rfl, ⟨none, 0, rfl, fun h => absurd h (by decide)⟩, .inl ⟨hx.1, rfl⟩⟩
  · simp [Value.cells] at hcs
    obtain ⟨rfl, rfl, rfl⟩ := hcs
    have hmc : m = c0 := by simpa using hmm
    have hr : ∀ i, ∃ r : Tv, i < n0 → W.cell? (a.add (i * 2)) = some (bvi r.1) ∧ W.cell? (a.add (i * 2 + 1)) = some (sv r.2) ∧ D i = .agg [.lit (.int .u8 (r.1.toNat : Int)), .lit (.string r.2)] := by
      intro i
      by_cases hlt : i < n0
      · obtain ⟨cs', hc, ht⟩ := hi i (by omega)
        rw [cells_item] at hc
        obtain ⟨_, hcl, hat⟩ := World.cells?_some hc
        match cs', hcl with
        | [c0, c1], _ =>
          obtain ⟨r, e0, e1, hd⟩ := two_opened ht
          have h0 := hat 0 (by omega)
          have h1 := hat 1 (by omega)
          rw [Go.Deep.add_add] at h0 h1
          subst e0 e1
          exact ⟨r, fun _ => ⟨h0, h1, hd⟩⟩
      · exact ⟨pm0, fun h => absurd h hlt⟩
    obtain ⟨R, hR⟩ := Classical.axiomOfChoice hr
    have hle : ((List.range n0).map R).length = n0 := by simp
    simp only [Prod.mk.injEq] at hx
    refine ⟨some a, c0, (List.range n0).map R, by rw [hle], ?_, .inr ⟨_, _, hx.1, by simp, ?_⟩⟩
    · refine ⟨some a, c0, rfl, fun hp => ?_⟩
      rw [hle] at hp
      obtain ⟨b, off, spot⟩ := a
      have hspot : spot = none := by simpa [Addr.add] using World.cell?_spot (hR 0 hp).1
      subst hspot
      refine ⟨b, off, rfl, block_lt_of_cell (a := ⟨b, off, none⟩) (by simpa [Addr.add] using (hR 0 hp).1), fun j hj => ?_⟩
      rw [hle] at hj
      have e : ((List.range n0).map R).getD j pm0 = R j := by
        rw [List.getD_eq_getElem?_getD, List.getElem?_map, List.getElem?_range hj]; rfl
      obtain ⟨h0, h1, _⟩ := hR j hj
      rw [add_plain] at h0 h1
      rw [e]
      exact ⟨h0, by rw [Nat.add_assoc]; exact h1⟩
    · intro r hr
      obtain ⟨i, hi2, rfl⟩ := List.mem_map.1 hr
      rw [← (hR i (List.mem_range.1 hi2)).2.2]
      exact List.mem_map.2 ⟨i, hi2, rfl⟩

theorem items_sized {ts : List TypeId} {ds : List (DataW H)} {d : DataW H} {ps : List Tv} {j : Nat} (h : (DataW.weightsEach Try.prog ts ds).all (· ≤ reachBytes) = true) (ht : ts[j]? = some 34) (hd : ds[j]? = some d) (hf : ItemsD d ps) :
    ps.length ≤ 140737488351232 ∧ ∀ r ∈ ps, r.2.length ≤ 140737488351232 := by
  have key : ∀ n ∈ DataW.weights Try.prog 34 d, n ≤ 140737488351232 := fun n hn => by
    have := List.all_eq_true.1 h _ (DataW.weights_mem_each ht hd n hn)
    have : n ≤ reachBytes := by simpa using this
    unfold reachBytes at this
    omega
  rcases hf with ⟨_, rfl⟩ | ⟨els, spare, rfl, hl, hm⟩
  · exact ⟨by simp, fun r hr => by cases hr⟩
  · have e : DataW.weights Try.prog 34 (.slice els spare) = (els.length + spare.length) * Try.prog.bytesOf 29 :: (DataW.weightsAll Try.prog 29 els ++ DataW.weightsAll Try.prog 29 spare) := by
      simp [DataW.weights, Try.underlying34]
    rw [e] at key
    constructor
    · have h1 := key _ (List.mem_cons_self ..)
      rw [show Try.prog.bytesOf 29 = 24 by kernel_rfl] at h1
      omega
    · intro r hr
      have h2 : ∀ n ∈ DataW.weights Try.prog 29 (.agg [.lit (.int .u8 (r.1.toNat : Int)), .lit (.string r.2)] : DataW H), n ≤ 140737488351232 := fun n hn =>
        key n (List.mem_cons_of_mem _ (List.mem_append_left _ (weights_all (hm r hr) n hn)))
      have e2 : DataW.weights Try.prog 29 (.agg [.lit (.int .u8 (r.1.toNat : Int)), .lit (.string r.2)] : DataW H) = [r.2.length] := by
        simp [DataW.weights, Try.underlying29, DataW.weightsEach]
      rw [e2] at h2
      exact h2 _ (by simp)
end
end Go.Proofs.Ytablllincjoabaa
