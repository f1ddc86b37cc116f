/-
  PROVED: LineParts returns true for every input: the same bytes, handed in at once, or in whatever parts, make the same lines, the same rest, and kill at the same byte, if at all (P1.3), and its arguments read as they did.
  Conditions: none beyond the statement's own (each argument takes at most 2^47 - 4096 bytes).
-/
import Derived.Test.YtgjngldkeiblbaaTop
namespace Go.Proofs.Ytgjngldkeiblbaa
open Go Go.RowKit Go.Shelf Go.WideShapes Go.ChangeShapes Go.ChangeAt
open Go.ChangeMaps (open_string shut_string)

/-- The slice of numbers that came in. -/
def IR (W : World) (A : Option Addr) (n : Nat) (zs : List Int) : Prop :=
  zs.length = n ∧ (0 < n → ∃ b o, A = some ⟨b, o, none⟩ ∧ ∀ k, ∀ h : k < zs.length, W.cell? ⟨b, o + k, none⟩ = some (.int .i64 zs[k]))

theorem IR.at_ {W W' : World} {b o n : Nat} {zs : List Int} (h : IR W (some ⟨b, o, none⟩) n zs) (hb : Below W.heap.size W W') {k : Nat} (hk : k < zs.length) : W'.cell? ⟨b, o + k, none⟩ = some (.int .i64 zs[k]) := by
  obtain ⟨b', o', e, hc⟩ := h.2 (by have := h.1; omega)
  obtain ⟨rfl, rfl⟩ : b = b' ∧ o = o' := by simpa using e
  exact (grownBy_of_below hb none).cell (hc k hk) (by simp)

theorem part_to (z : Int) (fr len : Nat) (h : fr ≤ len) (hl : len ≤ 4000) : ∃ to : Nat, fr ≤ to ∧ to ≤ len ∧ wrap64 (↑fr + wrap64 ((IntKind.u64.wrap z).tmod (↑len - ↑fr + 1))) = (to : Int) := by
  have h0 : 0 ≤ IntKind.u64.wrap z := by simp only [IntKind.wrap, IntKind.signed, IntKind.bits]; exact Int.emod_nonneg _ (by decide)
  obtain ⟨q, hq⟩ := Int.eq_ofNat_of_zero_le h0
  have e1 : (↑len - ↑fr + 1 : Int) = ((len - fr + 1 : Nat) : Int) := by omega
  have hlt : q % (len - fr + 1) < len - fr + 1 := Nat.mod_lt _ (by omega)
  have e2 : (IntKind.u64.wrap z).tmod (↑len - ↑fr + 1) = ((q % (len - fr + 1) : Nat) : Int) := by
    rw [hq, e1]
    rfl
  rw [e2]
  generalize q % (len - fr + 1) = t at hlt
  refine ⟨fr + t, by omega, by omega, ?_⟩
  unfold wrap64
  omega

theorem run_part (W : World) (s : List UInt8) (fr to : Nat) (x : Int) (h1 : fr ≤ to) (h2 : to ≤ s.length) (hx : x = (to : Int)) :
    (Instr.slice 9 (.string (str s)) (some (.int .i64 (fr : Int))) (some (.int .i64 x)) none).run Try.prog W = .ok (.string (str ((s.take to).drop fr))) W := by
  subst hx
  go_simp
  rw [str_extract]

/-- 'append(got, l...)'. -/
theorem run_append_of_nil (w : World) (base : Nat) (v : Value) (n : Nat) (xs : List Value) (hown : w.ownsRow base 9 1 v n xs) (c : Nat) : (Builtin.append_ #[23, 23] 23 #[v, .slice none 0 c]).run Try.prog w = .ok v w := by
  obtain ⟨i, hi, _, _, _⟩ := info_parts Try.info9
  rcases hown.2 with ⟨rfl, rfl⟩ | ⟨g, cap, cur, rfl, _, _, hnc, _⟩
  · simp [Builtin.append_, run_underlying Try.underlying23, sizeOf, typeInfo, hi, Builtin.lenOf, Builtin.firstCells]
  · simp [Builtin.append_, run_underlying Try.underlying23, sizeOf, typeInfo, hi, Builtin.lenOf, Builtin.firstCells, hnc, storeCells]

theorem append_many (W : World) (base : Nat) (v : Value) (outs xs : List (List UInt8)) (A : Option Addr) (c : Nat) (hown : Ows W base v outs) (hsr : SR W (.slice A xs.length c) xs) (hbase : base ≤ W.heap.size) (hlen : outs.length + xs.length ≤ 200000) :
    ∃ A' c' w2, (Builtin.append_ #[23, 23] 23 #[v, .slice A xs.length c]).run Try.prog W = .ok (.slice A' (outs.length + xs.length) c') w2 ∧ Ows w2 base (.slice A' (outs.length + xs.length) c') (outs ++ xs) ∧ W.grownBy w2 v.ownBlock := by
  have fin : ∀ (v' : Value) (w2 : World), w2.ownsRow base 9 1 v' (outs.length + xs.length) (outs.map sv ++ xs.map sv) → Ows w2 base v' (outs ++ xs) := fun v' w2 h => by
    unfold Ows; simpa using h
  have shape : ∀ (v' : Value) (w2 : World), Ows w2 base v' (outs ++ xs) → ∃ A' c', v' = .slice A' (outs.length + xs.length) c' := fun v' w2 h => by
    obtain ⟨A', c', e⟩ := h.form
    exact ⟨A', c', by rw [e]; simp⟩
  obtain ⟨A1, c1, e, h⟩ := hsr
  obtain ⟨rfl, rfl⟩ : A = A1 ∧ c = c1 := by simpa using e
  cases A with
  | none =>
    have hx : xs = [] := by
      rcases h with h | ⟨_, _, h, _⟩
      · exact h
      · cases h
    subst hx
    have ho : Ows W base v (outs ++ []) := by simpa using hown
    obtain ⟨A', c', rfl⟩ := shape v W ho
    exact ⟨A', c', W, run_append_of_nil W base _ _ _ hown c, ho, World.grownBy.refl W _⟩
  | some ad =>
    obtain ⟨i0, hi, hz0, hz1, hz2⟩ := info_parts Try.info9
    have hcells : ∀ j u, (xs.map sv)[j]? = some u → W.cell? (ad.add j) = some u := by
      intro j u hu
      rcases h with rfl | ⟨b, o, e, hc⟩
      · simp at hu
      · obtain rfl : ad = ⟨b, o, none⟩ := by simpa using e
        have hj : j < xs.length := by have := (List.getElem?_eq_some_iff.1 hu).1; simpa using this
        have e1 : (⟨b, o, none⟩ : Addr).add j = ⟨b, o + j, none⟩ := by unfold Addr.add; split <;> simp_all
        rw [e1, hc j hj]
        simp [hj] at hu
        rw [hu]
    obtain ⟨v', w2, hrun, hown2, hgrow, _⟩ := run_append_own (P := Try.prog) W base 23 23 9 i0 (.string ⟨#[]⟩) 1 16 Try.underlying23 hi hz0 hz1 hz2 rfl (by decide) v outs.length (outs.map sv) hown
      ad xs.length c (xs.map sv) (by simp) hcells (by intro u hu; simp at hu; obtain ⟨x, _, rfl⟩ := hu; rfl) (by unfold maxLen; omega) (by omega) hbase
    have ho := fin v' w2 hown2
    obtain ⟨A', c', rfl⟩ := shape v' w2 ho
    exact ⟨A', c', w2, hrun, ho, hgrow⟩

theorem wpList_append_run {P : Program} {ops : Array Oper} {rest : List Oper} {o : Oper} {a : Act} {w w' : World} {Q : Exit → Act → World → Prop} {v v' xv : Value}
    (hg : o.guard = none) (s x : Operand) (t : TypeId) (hop : o.op = Op.call { callee := Callee.builtin Builtin.append, args := #[s, x], argTypes := #[t, t] }) (hs : a.eval s = v) (hx : a.eval x = xv)
    (hrun : (Builtin.append_ #[t, t] o.type #[v, xv]).run P w = .ok v' w') (hK : wpList P ops Q rest (a.put o.dst v') w') : wpList P ops Q (o :: rest) a w :=
  wpList_plain hg fun K hK' => by
    unfold Oper.wp execOp
    simp only [hop, resolve, invoke, builtin, Sem.run_bind, Sem.run_pure, Result.andThen_ok, List.map_toArray, List.map_cons, List.map_nil, hs, hx, hrun]
    exact hK' _ _ hK

/-- Between two parts: what has been told of them is what is told of the text up to fr. -/
def PartsI (wl : World) (bg m n : Nat) (s : List UInt8) (k fr : Nat) (got : Value) (o : List (List UInt8)) (l : List UInt8) (d : Bool) (W : World) : Prop :=
  wl.grownBy W (some bg) ∧ Fr W bg m l d ∧ Ows W wl.heap.size got o ∧ run m [] (s.take fr) = (o, l, d) ∧ (d = false → Live m l) ∧ (d = false → k = n + 1 → fr = s.length)

theorem grown_trans {a b c : World} {r : Option Nat} (h : a.grownBy b r) (h' : b.grownBy c r) : a.grownBy c r :=
  ⟨h'.os.trans h.os, h'.tape.trans h.tape, h'.output.trans h.output, Nat.le_trans h.size h'.size, fun k hk hne => (h'.block k (Nat.lt_of_lt_of_le hk h.size) hne).trans (h.block k hk hne)⟩

theorem parts_step {wl W W2 W3 : World} {bg m n k fr to : Nat} {s l l' : List UInt8} {got got' : Value} {o o' : List (List UInt8)} {d' : Bool} (h : PartsI wl bg m n s k fr got o l false W) (hm : 0 < m) (hbg : bg < wl.heap.size) (hft : fr ≤ to)
    (hrun : run m l ((s.take to).drop fr) = (o', l', d')) (hg2 : W.grownBy W2 (some bg)) (hf2 : Fr W2 bg m l' d') (ho3 : Ows W3 wl.heap.size got' (o ++ o')) (hg3 : W2.grownBy W3 got.ownBlock) (hlast : k = n → to = s.length) :
    PartsI wl bg m n s (k + 1) to got' (o ++ o') l' d' W3 := by
  obtain ⟨h1, h2, h3, h4, h5, h6⟩ := h
  have own : ∀ j, got.ownBlock = some j → wl.heap.size ≤ j ∧ ∃ cs, W2.heap[j]? = some (.cells cs 9 (0, 0)) := by
    intro j e
    have h32 := h3.fed h2 hg2
    rcases h32.2 with ⟨rfl, _⟩ | ⟨g', cap, cur, rfl, hb', hgb, _⟩
    · simp [Value.ownBlock] at e
    · obtain rfl : g' = j := by simpa [Value.ownBlock] using e
      exact ⟨hb', _, hgb⟩
  refine ⟨⟨hg3.os.trans (hg2.os.trans h1.os), hg3.tape.trans (hg2.tape.trans h1.tape), hg3.output.trans (hg2.output.trans h1.output), Nat.le_trans h1.size (Nat.le_trans hg2.size hg3.size), fun j hj hne => ?_⟩, ?_, ho3, ?_, ?_, fun _ hk => hlast (by omega)⟩
  · have hj1 := Nat.lt_of_lt_of_le hj h1.size
    rw [hg3.block j (Nat.lt_of_lt_of_le hj1 hg2.size) (fun e => by have := (own j e.symm).1; omega), hg2.block j hj1 hne, h1.block j hj hne]
  · refine hf2.kept hg3 fun r e => ?_
    obtain ⟨hr, cs, hc⟩ := own r e
    exact ⟨by omega, cs, 9, hc, by decide⟩
  · have e : s.take to = s.take fr ++ (s.take to).drop fr := by
      have e1 : s.take fr = (s.take to).take fr := by rw [List.take_take, Nat.min_eq_left hft]
      rw [e1, List.take_append_drop]
    rw [e, run_append, h4]
    simp [hrun]
  · intro hd
    have := Live.step hm ((s.take to).drop fr) l (h5 rfl) (by rw [hrun]; exact hd)
    rwa [hrun] at this

set_option maxRecDepth 100000 in
set_option maxHeartbeats 8000000 in
theorem parts_good (m : Nat) (s : List UInt8) (A : Option Addr) (n c : Nat) (zs : List Int) (w : World) (hs : s.length ≤ 4000) (hn : n ≤ 200) (hm2 : 2 ≤ m) (hm5 : m ≤ 512) (hML : ML w) (hA : IR w A n zs) :
    Calls Try.prog 6 #[.int .i64 m, .string (str s), .slice A n c] w fun e w' => e = .returned (.bool true) ∧ Below w.heap.size w w' := by
  obtain ⟨o1, l1, d1, hr1⟩ : ∃ o l d, run m [] s = (o, l, d) := ⟨_, _, _, rfl⟩
  have HR1 := Lib.hid hr1
  have HM := Lib.hid hML
  clear hr1 hML
  go_enter Try.func6, Try.ntmps6
  go_wp2_with fail
  refine (awake_any w HM.out HM.out.pos).mono ?_
  rintro e w2 ⟨rfl, hb⟩
  have HB1 := Lib.hid ((Below.refl w.heap.size w).trans (hb.mono (Below.refl w.heap.size w).size))
  have HM2 := Lib.hid (HM.out.below hb)
  clear hb
  go_wp2_with fail
  refine (new_yes m w2 hm2 hm5).mono ?_
  rintro e w3 ⟨rfl, hw⟩
  have hb : Below w2.heap.size w2 w3 := by rw [hw]; exact below_alloc _ _
  have hf : Fr w3 w2.heap.size m [] false := by rw [hw]; exact new_fr m w2
  have HP3 := Lib.hid (show 0 < w2.heap.size from HM2.out.pos)
  have HL4 := Lib.hid (show w.heap.size ≤ w2.heap.size from HB1.out.size)
  have HB5 := Lib.hid (HB1.out.trans (hb.mono HB1.out.size))
  have HM6 := Lib.hid (HM2.out.below hb)
  have HF7 := Lib.hid hf
  clear hw hb hf
  go_wp2_with fail
  refine (new_yes m w3 hm2 hm5).mono ?_
  rintro e w4 ⟨rfl, hw⟩
  have hb : Below w3.heap.size w3 w4 := by rw [hw]; exact below_alloc _ _
  have hf : Fr w4 w3.heap.size m [] false := by rw [hw]; exact new_fr m w3
  have HP8 := Lib.hid (show 0 < w3.heap.size from HM6.out.pos)
  have HL9 := Lib.hid (show w.heap.size ≤ w3.heap.size from HB5.out.size)
  have HNE10 := Lib.hid (show w2.heap.size ≠ w3.heap.size from fun e => by obtain ⟨cs, hc⟩ := HF7.out.block; have := lt_of_block hc; omega)
  have HNE10S := Lib.hid HNE10.out.symm
  have HB11 := Lib.hid (HB5.out.trans (hb.mono HB5.out.size))
  have HM12 := Lib.hid (HM6.out.below hb)
  have HF13 := Lib.hid (HF7.out.below hb)
  have HF14 := Lib.hid hf
  clear hw hb hf
  go_wp2_with fail
  refine (feed_go HF13.out (live_nil (by omega)) hm2 hm5 (by omega) HP3.out HM12.out HR1.out).mono ?_
  rintro e w5 ⟨A15, c15, rfl, hgr, hf, ho⟩
  have HB16 := Lib.hid (HB11.out.grown hgr HB11.out.size (fun k e => by cases e; exact HL4.out))
  have HM17 := Lib.hid (HM12.out.fed HP3.out hgr)
  have HF18 := Lib.hid (HF14.out.other HF13.out HNE10.out hgr)
  have HF19 := Lib.hid hf
  have HO20 := Lib.hid ho
  clear hgr hf ho
  go_wp2_with fail
  have hg5 : Ows w5 w5.heap.size (.slice none 0 0) [] := World.ownsRow_nil _ _ _ _
  have HS0 := Lib.hid (show PartsI w5 w3.heap.size m n s 0 0 (.slice none 0 0) [] [] false w5 from ⟨World.grownBy.refl _ _, HF18.out, hg5, by simp [run_nil], fun _ => live_nil (by omega), fun _ h => by omega⟩)
  have HIR := Lib.hid hA
  clear hg5 hA
  go_loopw [13, 14, 15, 16] (fun got from_ bad i wr => ∃ (k fr : Nat) (o : List (List UInt8)) (l : List UInt8) (d : Bool), k ≤ n + 1 ∧ fr ≤ s.length ∧ i = .int .i64 k ∧ from_ = .int .i64 fr ∧ bad = .int .i64 (eno d) ∧ PartsI w5 w3.heap.size m n s k fr got o l d wr) (fun _ _ _ i _ => n + 1 - (intOf i).toNat)
  case atStart => exact ⟨0, 0, [], [], false, by omega, by omega, rfl, rfl, rfl, HS0.out⟩
  case round =>
    obtain ⟨k, fr, o, l, d, hk, hfr, rfl, rfl, rfl, hP⟩ := hrel
    have HP := Lib.hid hP
    have hMr : ML wr := HM17.out.fed HP8.out hP.1
    have hBr : Below w.heap.size w wr := HB16.out.grown hP.1 HB16.out.size (fun k e => by cases e; exact HL9.out)
    have HMr := Lib.hid hMr
    have HBr := Lib.hid hBr
    clear hP hMr hBr
    have HLT := Lib.hid (show w3.heap.size < w5.heap.size by obtain ⟨cs, hc⟩ := HF18.out.block; exact lt_of_block hc)
    by_cases hgo : k ≤ n ∧ d = false
    · obtain ⟨hkn, rfl⟩ := hgo
      rw [show eno false = 0 from rfl]
      by_cases hlt : k < n
      · obtain ⟨b, ob, rfl, _⟩ := HIR.out.2 (by omega)
        have hkz : k < zs.length := by have := HIR.out.1; omega
        have hc0 : wr.cell? ⟨b, ob + k, none⟩ = some (.int .i64 zs[k]) := HIR.out.at_ HBr.out hkz
        obtain ⟨to, ht1, ht2, ht⟩ := part_to zs[k] fr s.length hfr hs
        obtain ⟨o2, l2, d2, hrp⟩ : ∃ o2 l2 d2, run m l ((s.take to).drop fr) = (o2, l2, d2) := ⟨_, _, _, rfl⟩
        have hsl := run_part wr s fr to _ ht1 ht2 ht
        have HT := Lib.hid ht
        have HRP := Lib.hid hrp
        clear ht hrp
        go_wp2_with fail
        refine (feed_go HP.out.2.1 (HP.out.2.2.2.2.1 rfl) hm2 hm5 (by simp; omega) HP8.out HMr.out HRP.out).mono ?_
        rintro e W2 ⟨A2, c2, rfl, hg2, hf2, ho2⟩
        obtain ⟨A3, c3, W3, hrun, ho3, hg3⟩ := append_many W2 w5.heap.size u13 o o2 A2 c2 (HP.out.2.2.1.fed HP.out.2.1 hg2) (SR.of_own ho2) (Nat.le_trans HP.out.1.size hg2.size) (by have h1 := run_count m (s.take fr) []; rw [HP.out.2.2.2.1] at h1; have h2 := run_count m ((s.take to).drop fr) l; rw [HRP.out] at h2; simp at h1 h2; omega)
        have HNX := Lib.hid (parts_step HP.out (by omega) HLT.out ht1 HRP.out hg2 hf2 ho3 hg3 (fun h => by omega))
        clear hg2 hf2 ho2 ho3 hg3
        have HRUN := Lib.hid hrun
        clear hrun
        go_wp2_with (at_builtin; refine wpList_append_run rfl (.tmp 98) (.tmp 99) 23 rfl rfl rfl HRUN.out ?_)
        go_roundw
        case rel => exact ⟨k + 1, to, o ++ o2, l2, d2, by omega, ht2, by go_num, by first | rfl | rw [HT.out], rfl, HNX.out⟩
        case measure => simp [intOf]; omega
      · have hkn' : k = n := by omega
        have HKN := Lib.hid hkn'
        have hnlt : n ≤ k := by omega
        obtain ⟨o2, l2, d2, hrp⟩ : ∃ o2 l2 d2, run m l ((s.take s.length).drop fr) = (o2, l2, d2) := ⟨_, _, _, rfl⟩
        have ht1 : fr ≤ s.length := hfr
        have ht2 : s.length ≤ s.length := Nat.le_refl _
        have HRP := Lib.hid hrp
        clear hkn' hrp
        go_wp2_with fail
        rw [str_extract]
        refine (feed_go HP.out.2.1 (HP.out.2.2.2.2.1 rfl) hm2 hm5 (by simp; omega) HP8.out HMr.out HRP.out).mono ?_
        rintro e W2 ⟨A2, c2, rfl, hg2, hf2, ho2⟩
        obtain ⟨A3, c3, W3, hrun, ho3, hg3⟩ := append_many W2 w5.heap.size u13 o o2 A2 c2 (HP.out.2.2.1.fed HP.out.2.1 hg2) (SR.of_own ho2) (Nat.le_trans HP.out.1.size hg2.size) (by have h1 := run_count m (s.take fr) []; rw [HP.out.2.2.2.1] at h1; have h2 := run_count m ((s.take s.length).drop fr) l; rw [HRP.out] at h2; simp at h1 h2; omega)
        have HNX := Lib.hid (parts_step HP.out (by omega) HLT.out ht1 HRP.out hg2 hf2 ho3 hg3 (fun h => rfl))
        clear hg2 hf2 ho2 ho3 hg3
        have HRUN := Lib.hid hrun
        clear hrun
        go_wp2_with (at_builtin; refine wpList_append_run rfl (.tmp 98) (.tmp 99) 23 rfl rfl rfl HRUN.out ?_)
        go_roundw
        case rel => exact ⟨k + 1, s.length, o ++ o2, l2, d2, by omega, ht2, by go_num, by first | rfl | rw [HT.out], rfl, HNX.out⟩
        case measure => simp [intOf]; omega
    · have hfin : run m [] s = (o, l, d) := by
        have h4 := HP.out.2.2.2.1
        cases d with
        | true =>
          have e : s = s.take fr ++ s.drop fr := (List.take_append_drop fr s).symm
          have hl : l = [] := by have := run_dead_left (m := m) (s.take fr) [] (by rw [h4]); rw [h4] at this; exact this
          rw [e, run_append, h4]
          simp
        | false =>
          have := HP.out.2.2.2.2.2 rfl (by simp at hgo; omega)
          rwa [this, List.take_of_length_le (Nat.le_refl _)] at h4
      obtain ⟨rfl, rfl, rfl⟩ : o1 = o ∧ l1 = l ∧ d1 = d := by have := HR1.out.symm.trans hfin; simpa using this
      obtain ⟨Ag, cg, rfl⟩ := HP.out.2.2.1.form
      have HSG := Lib.hid (SR.of_own HP.out.2.2.1)
      have HSW := Lib.hid (SR.of_own (HO20.out.fed HF18.out HP.out.1))
      have HFF := Lib.hid (HF19.out.other HF18.out HNE10S.out HP.out.1)
      have HOL := Lib.hid (show o1.length ≤ 1000000 by have := run_count m s []; rw [HR1.out] at this; simp at this; omega)
      clear hfin
      have hex : (d1 = true ∧ k ≤ n) ∨ (d1 = true ∧ k = n + 1) ∨ (d1 = false ∧ k = n + 1) := by
        cases d1
        · exact .inr (.inr ⟨rfl, by simp at hgo; omega⟩)
        · rcases Nat.lt_or_ge n k with h | h
          · exact .inr (.inl ⟨rfl, by omega⟩)
          · exact .inl ⟨rfl, h⟩
      clear hgo
      rcases hex with ⟨rfl, hkn⟩ | ⟨rfl, rfl⟩ | ⟨rfl, rfl⟩
      · rw [show eno true = 40 from rfl]
        go_wp2_with fail
        refine (same_true HSG.out HSW.out HOL.out).mono ?_
        rintro e W8 ⟨rfl, hb8⟩
        have HB8 := Lib.hid (HBr.out.trans (hb8.mono HBr.out.size))
        have HF8 := Lib.hid (HFF.out.below hb8)
        have HG8 := Lib.hid (HP.out.2.1.below hb8)
        clear hb8
        go_wp2_with fail
        refine (left_any W8 HF8.out).mono ?_
        rintro e w' ⟨rfl, rfl⟩
        go_wp2_with fail
        refine (left_any W8 HG8.out).mono ?_
        rintro e w' ⟨rfl, rfl⟩
        go_wp2_with fail
        refine (dead_any W8 HF8.out).mono ?_
        rintro e w' ⟨rfl, rfl⟩
        go_wp2_with fail
        refine (dead_any W8 HG8.out).mono ?_
        rintro e w' ⟨rfl, rfl⟩
        go_wp2
        go_ret
        exact ⟨rfl, HB8.out⟩
      · rw [show eno true = 40 from rfl]
        go_wp2_with fail
        refine (same_true HSG.out HSW.out HOL.out).mono ?_
        rintro e W8 ⟨rfl, hb8⟩
        have HB8 := Lib.hid (HBr.out.trans (hb8.mono HBr.out.size))
        have HF8 := Lib.hid (HFF.out.below hb8)
        have HG8 := Lib.hid (HP.out.2.1.below hb8)
        clear hb8
        go_wp2_with fail
        refine (left_any W8 HF8.out).mono ?_
        rintro e w' ⟨rfl, rfl⟩
        go_wp2_with fail
        refine (left_any W8 HG8.out).mono ?_
        rintro e w' ⟨rfl, rfl⟩
        go_wp2_with fail
        refine (dead_any W8 HF8.out).mono ?_
        rintro e w' ⟨rfl, rfl⟩
        go_wp2_with fail
        refine (dead_any W8 HG8.out).mono ?_
        rintro e w' ⟨rfl, rfl⟩
        go_wp2
        go_ret
        exact ⟨rfl, HB8.out⟩
      · rw [show eno false = 0 from rfl]
        go_wp2_with fail
        refine (same_true HSG.out HSW.out HOL.out).mono ?_
        rintro e W8 ⟨rfl, hb8⟩
        have HB8 := Lib.hid (HBr.out.trans (hb8.mono HBr.out.size))
        have HF8 := Lib.hid (HFF.out.below hb8)
        have HG8 := Lib.hid (HP.out.2.1.below hb8)
        clear hb8
        go_wp2_with fail
        refine (left_any W8 HF8.out).mono ?_
        rintro e w' ⟨rfl, rfl⟩
        go_wp2_with fail
        refine (left_any W8 HG8.out).mono ?_
        rintro e w' ⟨rfl, rfl⟩
        go_wp2_with fail
        refine (dead_any W8 HF8.out).mono ?_
        rintro e w' ⟨rfl, rfl⟩
        go_wp2_with fail
        refine (dead_any W8 HG8.out).mono ?_
        rintro e w' ⟨rfl, rfl⟩
        go_wp2
        go_ret
        exact ⟨rfl, HB8.out⟩

set_option maxHeartbeats 1000000 in
theorem parts_long (m : Int) (s : List UInt8) (A : Option Addr) (n c : Nat) (w : World) (hl : 4000 < s.length ∨ 200 < n) (hs : s.length ≤ 140737488351232) (hn : n ≤ 140737488351232) (hML : ML w) :
    Calls Try.prog 6 #[.int .i64 m, .string (str s), .slice A n c] w fun e w' => e = .returned (.bool true) ∧ Below w.heap.size w w' := by
  have HM := Lib.hid hML
  clear hML
  by_cases h4 : 4000 < s.length
  · have h4' : (4000 : Int) < (s.length : Int) := by omega
    clear hl
    go_enter Try.func6, Try.ntmps6
    go_wp2_with fail
    refine (awake_any w HM.out HM.out.pos).mono ?_
    rintro e w1 ⟨rfl, hb⟩
    go_wp2
    go_ret
    exact ⟨rfl, hb⟩
  · have h4' : (s.length : Int) ≤ 4000 := by omega
    have hn' : (200 : Int) < (n : Int) := by omega
    clear hl
    go_enter Try.func6, Try.ntmps6
    go_wp2_with fail
    refine (awake_any w HM.out HM.out.pos).mono ?_
    rintro e w1 ⟨rfl, hb⟩
    go_wp2
    go_ret
    exact ⟨rfl, hb⟩

theorem parts_bad (m : Int) (s : List UInt8) (A : Option Addr) (n c : Nat) (w : World) (hs : s.length ≤ 4000) (hn : n ≤ 200) (hm : m < 2 ∨ 512 < m) (hML : ML w) :
    Calls Try.prog 6 #[.int .i64 m, .string (str s), .slice A n c] w fun e w' => e = .returned (.bool true) ∧ Below w.heap.size w w' := by
  have new : ∀ w, Calls Try.prog 16 #[.int .i64 m] w fun e w' => e = .returned (.tuple #[.pointer none, .int .i64 1]) ∧ w = w' := fun w => by
    rcases hm with h | h
    · exact new_low m w h
    · exact new_high m w h
  have NEW := Lib.hid new
  have HM := Lib.hid hML
  clear new hML hm
  go_enter Try.func6, Try.ntmps6
  go_wp2_with fail
  refine (awake_any w HM.out HM.out.pos).mono ?_
  rintro e w1 ⟨rfl, hb⟩
  have HB := Lib.hid hb
  clear hb
  go_wp2_with fail
  refine (NEW.out w1).mono ?_
  rintro e w1' ⟨rfl, rfl⟩
  go_wp2_with fail
  refine (NEW.out w1).mono ?_
  rintro e w1' ⟨rfl, rfl⟩
  go_wp2
  go_ret
  exact ⟨rfl, HB.out⟩

theorem parts_walk (a : Int) (s : ByteArray) (A : Option Addr) (n c : Nat) (zs : List Int) (w : World) (hw : (Lit.int .i64 a).wf = true) (hs : s.size ≤ 140737488351232) (hn : n ≤ 140737488351232) (hML : ML w) (hA : IR w A n zs) :
    Calls Try.prog 6 #[.int .i64 a, .string s, .slice A n c] w fun e w' => e = .returned (.bool true) ∧ Below w.heap.size w w' := by
  obtain ⟨s, rfl, hs'⟩ := to_str s
  by_cases hl : 4000 < s.length ∨ 200 < n
  · exact parts_long a s A n c w hl (by omega) hn hML
  · by_cases hm : a < 2 ∨ 512 < a
    · exact parts_bad a s A n c w (by omega) (by omega) hm hML
    · obtain ⟨m, rfl⟩ := Int.eq_ofNat_of_zero_le (show 0 ≤ a by omega)
      exact parts_good m s A n c zs w (by omega) (by omega) (by omega) (by omega) hML hA

theorem Try.laidOut : laidOutB Try.prog = true := by kernel_rfl
theorem Try.cells3 : Try.prog.cellsOf 3 = 1 := by kernel_rfl
theorem Try.bytes3 : Try.prog.bytesOf 3 = 8 := by kernel_rfl

theorem ir_of_open {W : World} {a : Addr} {n : Nat} {zs : List Int} (hl : n ≤ zs.length) (hc : ∀ i, i < zs.length → W.cell? (a.add i) = some (.int .i64 (zs.getD i 0))) : IR W (some a) n (zs.take n) := by
  refine ⟨by rw [List.length_take]; omega, fun h => ?_⟩
  obtain ⟨b, off, rfl, hc'⟩ := ints_at hc (by omega)
  refine ⟨b, off, rfl, fun k hk => ?_⟩
  rw [List.length_take] at hk
  rw [hc' k (by omega)]
  simp [List.getD, List.getElem?_eq_getElem (show k < zs.length by omega)]

set_option maxRecDepth 100000 in
theorem parts_lifted (os : Os) (started : os.Started) (H : Type) (enc : TypeId × Value → H) :
    ReturnsInHanded {} Try.checked os 6 .any (Rows.linePartsSpec.pre6 enc Try.prog Try.f6 Rows.linePartsRow.domain false) (Rows.linePartsSpec.post enc Try.prog Try.f6 false true false false) := by
  refine returnsInHanded_of_change_shaped (C := Try.checked) Try.own started (by kernel_rfl) Try.func6
    (ChangeSpec.witness6 (enc := enc) (C := Try.checked) false ⟨#[], #[.int .i64 0, .string ByteArray.empty, .slice none 0 0], []⟩ 8 (by kernel_rfl) (by kernel_rfl) (by kernel_rfl) (by kernel_rfl)) ?_
  intro W base args ds gs before hval0 hW hcnd hsz0 hsh _
  have hval : ∀ (j : Nat) t v, Try.f6.params[j]? = some t → args[j]? = some v → Value.okWide Try.prog W .any base t v := hval0
  have hsz : (DataW.weightsEach Try.prog (Try.f6.params.toList ++ Rows.linePartsSpec.plain.varTypes Try.prog) (ds ++ gs)).all (· ≤ reachBytes) = true := hsz0
  have hW' := hW
  obtain ⟨p, q, hA0, hV, rfl, hfz, hnd⟩ := hW
  have hA : DataW.TrodAll enc Try.prog W 0 (fun _ => true) true Try.f6.params.toList args.toList ds p := hA0
  rw [Try.params6] at hA hval hsz
  obtain ⟨v0, vs0, d0, ds0, p0, q0, hargs, rfl, rfl, h0, r0⟩ := trodAll_cons hA
  obtain ⟨v1, vs1, d1, ds1, p1, q1, rfl, rfl, rfl, h1, r1⟩ := trodAll_cons r0
  obtain ⟨v2, vs2, d2, ds2, p2, q2, rfl, rfl, rfl, h2, r2⟩ := trodAll_cons r1
  obtain ⟨rfl, rfl, rfl⟩ := trodAll_nil r2
  obtain rfl : args = #[v0, v1, v2] := by cases args; simp_all
  obtain ⟨rfl, rfl⟩ := trodVars_none hV
  obtain ⟨a0, rfl, rfl, rfl, w0⟩ := open_int Try.underlying3 (hval 0 3 v0 rfl rfl) h0
  obtain ⟨a1, rfl, rfl, rfl, w1⟩ := open_string Try.underlying9 (hval 1 9 v1 rfl rfl) h1
  obtain ⟨aA, len, cap, rfl⟩ := okWide_slice Try.underlying30 (hval 2 30 v2 rfl rfl)
  have z1 := sized_string hsz (j := 1) (t := 9) rfl rfl
  have h2k := h2
  obtain ⟨fuel, hf⟩ := h2
  have hlt : ∀ x ∈ p2, x.block < W.heap.size := fun x hx => hW'.lt x (by simp [hx])
  have hIR : ∃ zs, IR W aA len zs ∧ len ≤ 140737488351232 := by
    rcases open_ints Try.underlying30 Try.underlying3 Try.cells3 hf with ⟨hcs, hx⟩ | ⟨a, len', cap', zs, hcs, _, hl, hm, hz, hx, hcell, hwz⟩
    · simp [Value.cells] at hcs
      obtain ⟨rfl, rfl, rfl⟩ := hcs
      exact ⟨[], ⟨rfl, fun h => absurd h (by omega)⟩, by omega⟩
    · simp [Value.cells] at hcs
      obtain ⟨rfl, rfl, rfl⟩ := hcs
      simp only [Prod.mk.injEq] at hx
      obtain ⟨rfl, rfl⟩ := hx
      simp only [if_true] at hz
      refine ⟨zs.take len, ir_of_open (by omega) hcell, ?_⟩
      have := sized_slice hsz (j := 2) (t := 30) (e := 3) rfl rfl Try.underlying30
      rw [Try.bytes3] at this
      simp only [lits, List.length_map, List.length_take, List.length_drop, reachBytes] at this
      omega
  obtain ⟨zs, hIR, hlen⟩ := hIR
  clear hA0 hval0 hsz0
  refine (parts_walk a0 a1 aA len cap zs W w0 (by rw [Array.length_toList] at z1; exact z1) hlen (ml_of_shape hsh) hIR).mono fun e W' ⟨he, hg⟩ => ?_
  subst he
  refine ⟨_, rfl, _, _, _, [], [] ++ ([] ++ (p2 ++ [])), [], hW', ?_, ?_, rfl, hg.frame _, fun h => by cases h⟩
  · exact trodAll_cons_mk (shut_bool Try.underlying4 _) trodAll_mk0
  · exact trodAll_cons_mk (shut_int Try.underlying3 w0) (trodAll_cons_mk (shut_string Try.underlying9 w1) (trodAll_cons_mk (Below.trod Try.laidOut (by kernel_rfl) (of_decide_eq_true (by kernel_rfl)) h2k hg hlt) trodAll_mk0))

theorem parts_over : Rows.linePartsRow.holds Try.pinned (OpenSpec.ofChange Rows.linePartsSpec) :=
  OpenClaim.holds_of_wide 6 Try.f6 rfl rfl rfl rfl rfl rfl rfl ⟨rfl, rfl, rfl, rfl, rfl⟩ rfl rfl rfl rfl rfl (by kernel_rfl) Try.func6 (by kernel_rfl)
    (of_decide_eq_true (by kernel_rfl)) (by unfold Func.isWrapper; first | (rw [if_pos (by decide +kernel)]; kernel_rfl) | (rw [if_neg (by decide +kernel)]; exact ⟨rfl, rfl⟩))
    (fun os started H enc _ => parts_lifted os started H enc)

theorem lineParts_holds : Rows.LinePartsSaid := parts_over
end Go.Proofs.Ytgjngldkeiblbaa
