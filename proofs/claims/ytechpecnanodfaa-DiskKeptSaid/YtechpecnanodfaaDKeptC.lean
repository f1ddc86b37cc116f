/-
  DiskKept's walk.
-/
import Derived.Test.YtechpecnanodfaaDKept1
namespace Go.Proofs.Ytechpecnanodfaa
open Go Go.RowKit Go.Maps
set_option maxRecDepth 100000
set_option linter.unusedSimpArgs false
set_option linter.unusedVariables false

theorem info9 : (Try.prog.info? 9).map (fun i => (i.zero, i.size, i.bytes)) = some (some (.string ⟨#[]⟩), 1, 16) := by kernel_rfl
theorem txs_one (xs : List (List UInt8)) : ∀ v ∈ txs xs, v.oneCell' = true := by
  intro v hv
  simp only [txs, List.mem_map] at hv
  obtain ⟨s, _, rfl⟩ := hv
  rfl
/-- 'append(xs, s)': the world is that in which the literal lies at its end. -/
theorem app_text {W : World} {B n : Nat} {v : Value} {xs : List (List UInt8)} (hown : W.ownsRow B 9 1 v n (txs xs)) (s : List UInt8) (hB : B ≤ W.heap.size) (hn : n ≤ 1000) :
    ∃ g cap w', (Builtin.append_ #[51, 51] 51 #[v, .slice (some ⟨W.heap.size, 0, none⟩) 1 1]).run Try.prog (W.alloc (.cells #[sv s] 9)) = .ok (.slice (some ⟨g, 0, none⟩) (n + 1) cap) w' ∧
      w'.ownsRow B 9 1 (.slice (some ⟨g, 0, none⟩) (n + 1) cap) (n + 1) (txs (xs ++ [s])) ∧ ∃ T, Kp T W w' ∧ ∀ b ∈ T, B ≤ b := by
  obtain ⟨i, hi, hz0, hz1, hz2⟩ := info_parts info9
  obtain ⟨g, cap, w', hr, h2, h3, h4, h5⟩ := run_append_lies (P := Try.prog) (W.alloc (.cells #[sv s] 9)) 51 51 B 9 i _ 1 16 Try.underlying51 hi hz0 hz1 hz2 rfl (by decide) _ n (txs xs) (hown.alloc _) ⟨W.heap.size, 0, none⟩ 1 1 [sv s] (by rfl) (World.news_of_block (cs := #[sv s]) (heap_alloc_new W _)) (by simp [Value.oneCell']) (by decide) (by unfold maxLen; omega) (by omega) (by simp; omega) _ rfl
  refine ⟨g, cap, w', hr, by simpa [txs] using h2, (match v.ownBlock with | some b => [b] | none => []), ?_, ?_⟩
  · refine ((Kp.refl _ W).alloc _).grown h3 (fun k e hk => ?_)
    rw [e]; simp
  · intro b hb
    rcases hown.2 with ⟨e, _⟩ | ⟨g', cap', cur, e, hgb, _⟩
    · rw [e] at hb; simp [Value.ownBlock] at hb
    · rw [e] at hb; simp [Value.ownBlock] at hb; omega
theorem fresh_text (w : World) {g cap n c : Nat} {xs : List (List UInt8)} (hx : XR w 9 g cap (txs xs)) (hn : n = xs.length) (hp : 0 < n) (hn2 : n ≤ 1000) :
    ∃ g' cap' w', (Builtin.append_ #[51, 51] 51 #[.slice (some ⟨w.heap.size, 0, none⟩) 0 0, .slice (some ⟨g, 0, none⟩) n c]).run Try.prog (w.alloc (.cells #[] 9)) = .ok (.slice (some ⟨g', 0, none⟩) n cap') w' ∧ XR w' 9 g' cap' (txs xs) ∧ Below w.heap.size w w' ∧ w.heap.size ≤ g' :=
  run_fresh (z := .string ⟨#[]⟩) (by_ := 16) Try.underlying51 info9 rfl (by omega) w (by rw [txs_length]; exact hn) hp (by omega) ⟨_, rfl, fun j u hu => by
    have hj : j < (txs xs).length := (List.getElem?_eq_some_iff.1 hu).1
    have hx' := hx.of_block (w' := w.alloc (.cells #[] 9)) (Lib.alloc_old w _ g hx.lt)
    rw [Addr.add_mid, Nat.zero_add, (hx'.cell hj).1, ← hu, List.getD_eq_getElem?_getD, List.getElem?_eq_getElem hj]; rfl⟩ (txs_one xs)

theorem eff_lit {w : World} (s : SD) (hk : s.keep = []) (ha : (-9223372036854775808 : Int) ≤ s.a ∧ s.a ≤ 9223372036854775807) (ho : (-9223372036854775808 : Int) ≤ s.odd ∧ s.odd ≤ 9223372036854775807) :
    s.keep.length ≤ 3000 ∧ ∀ W, Below w.heap.size w W → s.Ok W ∧ ∀ x, s.kA = some x → s.keep ≠ [] → x.block < w.heap.size :=
  ⟨by rw [hk]; simp, fun W _ => ⟨⟨ha, ho, (fun j hj => by rw [hk] at hj; cases hj), (by rw [hk]; decide)⟩, fun x _ hn => absurd hk hn⟩⟩
/-- What is done at each round: its numbers are so of whatever lies behind. -/
theorem eff_facts {w : World} {A B : Option Addr} {d : Nat} {l : List SD} {K : List Int} (hl : StAt w A l) (hs : Short l) (hK : IR w B K) {kn : Nat} (hkn : K.length = kn) (hk1 : kn ≤ 1000) {ln m : Nat} (hln : l.length = ln) (hm : m < ln + 3) :
    ((effS l K B d).getD m sd0).keep.length ≤ 3000 ∧ ∀ W, Below w.heap.size w W → ((effS l K B d).getD m sd0).Ok W ∧ ∀ x, ((effS l K B d).getD m sd0).kA = some x → ((effS l K B d).getD m sd0).keep ≠ [] → x.block < w.heap.size := by
  rcases Nat.lt_or_ge m l.length with h0 | h0
  · rw [(eff_low h0).1]
    obtain ⟨b, o, _, _, _, hok⟩ := hl m h0
    have hmem : l.getD m sd0 ∈ l := by rw [List.getD_eq_getElem?_getD, List.getElem?_eq_getElem h0]; exact List.getElem_mem h0
    exact ⟨hs.2 _ hmem, fun W hW => ⟨hok.kp (Kp.of_below hW []) (by simp), hok.lo⟩⟩
  · obtain ⟨i, rfl⟩ : ∃ i, m = l.length + i := ⟨m - l.length, by omega⟩
    have hi : i < 3 := by omega
    rw [(eff_high i).1]
    match i, hi with
    | 0, _ => exact eff_lit e1D rfl (by decide) (by decide)
    | 1, _ => exact eff_lit e2D rfl (by decide) (by decide)
    | 2, _ =>
      refine ⟨by show K.length ≤ 3000; omega, fun W hW => ⟨⟨(show (-9223372036854775808 : Int) ≤ 0 ∧ (0 : Int) ≤ 9223372036854775807 by decide), (show (-9223372036854775808 : Int) ≤ 0 ∧ (0 : Int) ≤ 9223372036854775807 by decide), hK.kp (Kp.of_below hW []) (by simp), by show K.length ≤ _; omega⟩, fun x hx hn => ?_⟩⟩
      obtain ⟨b, o, hA, hb, _⟩ := hK 0 (by cases hq : K with | nil => exact absurd hq hn | cons _ _ => simp)
      have hx' : B = some x := hx
      rw [hx'] at hA; cases hA; exact hb
theorem rows_facts {l : List SD} {K : List Int} {kA : Option Addr} {kc ln k : Nat} (hln : l.length = ln) (hk : k < ln + 3) :
    (k ≠ ln + 1 → k ≠ ln + 2 → (effS l K kA kc).getD k sd0 = (rowS l).getD k sd0) ∧ (k = ln + 1 → (effS l K kA kc).getD k sd0 = e2D) ∧ (k = ln + 2 → (effS l K kA kc).getD k sd0 = e3D K kA kc ∧ (rowS l).getD k sd0 = ⟨3, 0, 0, 0, [], none, 0⟩) := by
  subst hln
  rcases Nat.lt_or_ge k l.length with h0 | h0
  · exact ⟨fun _ _ => (eff_low h0).1.trans (eff_low (K := K) (kA := kA) (kc := kc) h0).2.symm, fun e => by omega, fun e => by omega⟩
  · obtain ⟨i, rfl⟩ : ∃ i, k = l.length + i := ⟨k - l.length, by omega⟩
    have hi : i < 3 := by omega
    rw [(eff_high i).1, (eff_high (K := K) (kA := kA) (kc := kc) i).2]
    match i, hi with
    | 0, _ => exact ⟨fun _ _ => rfl, fun e => by omega, fun e => by omega⟩
    | 1, _ => exact ⟨fun h => absurd rfl h, fun _ => rfl, fun e => by omega⟩
    | 2, _ => exact ⟨fun _ h => absurd rfl h, fun e => by omega, fun _ => ⟨rfl, rfl⟩⟩
theorem isD_now {S : DS} (h : S.Ok) (ho : S.off = false) {j : Nat} (hj : j < S.was.length) : isD S (j : Int) (S.now.getD j []) = true := by
  have hh : S.has (j : Int) = true := DS.has_iff.2 ⟨by omega, by omega⟩
  have h1 : S.rdE (j : Int) = 0 := by unfold DS.rdE; rw [ho, hh]; rfl
  unfold isD DS.rdV
  rw [if_pos h1, h1]
  simp
theorem read_was {S : DS} (h : S.Ok) (ho : S.off = false) (hc : S.now = S.was) {j : Nat} (hj : j < S.was.length) : S.rdV (j : Int) = S.was.getD j [] ∧ S.rdE (j : Int) = 0 := by
  have hh : S.has (j : Int) = true := DS.has_iff.2 ⟨by omega, by omega⟩
  have h1 : S.rdE (j : Int) = 0 := by unfold DS.rdE; rw [ho, hh]; rfl
  refine ⟨?_, h1⟩
  unfold DS.rdV
  rw [if_pos h1, hc]; rfl
theorem take_set (a b : List (List UInt8)) (hl : a.length = b.length) {j : Nat} (hj : j < a.length) : (a.take j ++ b.drop j).set j (a.getD j []) = a.take (j + 1) ++ b.drop (j + 1) := by
  have ht : (a.take j).length = j := by rw [List.length_take]; omega
  rw [List.set_append_right _ _ (by omega), ht, Nat.sub_self, List.drop_eq_getElem_cons (show j < b.length by omega), List.set_cons_zero, List.take_add_one, List.getElem?_eq_getElem hj, List.getD_eq_getElem?_getD, List.getElem?_eq_getElem hj, List.append_assoc]
  rfl
theorem sync_rows {S : DS} (h : S.Ok) (ho : S.off = false) : S.sync.was = S.now ∧ S.sync.now = S.now := by
  rw [DS.sync_eq h ho]; exact ⟨rfl, rfl⟩
set_option maxHeartbeats 16000000 in
theorem diskKept_walk {w : World} {a : Int} (ha : -9223372036854775808 ≤ a ∧ a ≤ 9223372036854775807) {A B : Option Addr} {c d : Nat} {l : List SD} {K : List Int} (hl : StAt w A l) (hll : l.length ≤ 9223372036854775807) (hK : IR w B K) (hKl : K.length ≤ 9223372036854775807) :
    Calls Try.prog 5 #[.int .i64 a, .slice A l.length c, .slice B K.length d] w fun e w' => e = .returned (.bool true) ∧ Below w.heap.size w w' := by
  have H0 := Lib.hid (Obs.start w)
  have HL := Lib.hid hl
  have HIK := Lib.hid hK
  have HLG1 := Lib.hid (fun W (h : Below w.heap.size w W) => long_any (c := c) (hl.below h) hll)
  generalize hln : l.length = ln at hll HLG1 ⊢
  generalize hkn : K.length = kn at hKl ⊢
  have HLN := Lib.hid hln
  have HKN := Lib.hid hkn
  clear hl hK hln hkn
  go_enter Try.func5, Try.ntmps5
  go_wp2_with fail
  refine works_any.mono ?_
  rintro e w1 ⟨rfl, hb1⟩
  have HB1 := Lib.hid hb1
  clear hb1
  go_wp2_with fail
  refine (HLG1.out _ HB1.out).mono ?_
  rintro e w2 ⟨b1, rfl, hs1, hb2⟩
  have HB2 := Lib.hid (HB1.out.trans (hb2.mono HB1.out.size))
  clear hb2
  have W3 : Hid (∀ W, Below w.heap.size w W → Calls Try.prog 10 #[] W fun e w' => e = .returned (.bool true) ∧ Below w.heap.size w w') := fun W hW => works_any.mono fun e w' h => ⟨h.1, hW.trans (h.2.mono hW.size)⟩
  cases b1 with
  | true =>
    clear hs1
    go_wp2_with fail
    refine (W3.out _ HB2.out).mono ?_
    rintro e w3 ⟨rfl, hb3⟩
    go_wp2_with fail
    go_ret
    exact ⟨rfl, hb3⟩
  | false =>
    have HS1 := Lib.hid (hs1 rfl)
    clear hs1
    by_cases hk1 : 1000 < kn
    · have hk1i : (1000 : Int) < (kn : Int) := by omega
      go_wp2_with fail
      refine (W3.out _ HB2.out).mono ?_
      rintro e w3 ⟨rfl, hb3⟩
      go_wp2_with fail
      go_ret
      exact ⟨rfl, hb3⟩
    have hk1i : decide ((1000 : Int) < (kn : Int)) = false := decide_eq_false (by omega)
    by_cases ha40 : 40 < a
    · go_wp2_with fail
      refine (W3.out _ HB2.out).mono ?_
      rintro e w3 ⟨rfl, hb3⟩
      go_wp2_with fail
      go_ret
      exact ⟨rfl, hb3⟩
    by_cases ha1 : a < 1
    · go_wp2_with fail
      refine (new_none (.inl ha1)).mono ?_
      rintro e w3 ⟨rfl, hb3⟩
      go_wp2_with fail
      go_ret
      exact ⟨rfl, HB2.out.trans (hb3.mono HB2.out.size)⟩
    obtain ⟨n, rfl⟩ : ∃ n : Nat, a = (n : Int) := ⟨a.toNat, by omega⟩
    have hn1 : 1 ≤ n := by omega
    have hn40 : n ≤ 40 := by omega
    have hl300 : ln ≤ 300 := by rw [← HLN.out]; exact HS1.out.1
    clear ha ha40 ha1 HLG1 hll hKl
    have hni40 : decide ((40 : Int) < (n : Int)) = false := decide_eq_false (by omega)
    have hk1000 : kn ≤ 1000 := by omega
    clear hk1
    go_wp2_with fail
    refine (new_o (n := n) (H0.out.step HB2.out) hn1 (by omega)).mono ?_
    rintro e w5 ⟨p, bl, bd, rfl, h5⟩
    have H5 := Lib.hid (show Obs w w5 [pdOb p bl bd (DS.new n)] from h5)
    clear h5
    go_wp2_with fail
    have F0 := Lib.hid (show ∀ W os', Obs w W os' → Calls Try.prog 12 #[.int .u8 0] W fun e w' => e = .returned (sv (fullL 0)) ∧ Below W.heap.size W w' from fun W os' h => full_any 0)
    go_loopw [9, 11] (fun v kx W => ∃ k : Nat, kx = .int .i64 (k : Int) ∧ k ≤ n ∧ Obs w W [pdOb p bl bd (DS.new n)] ∧ W.ownsRow w5.heap.size 9 1 v k (txs (List.replicate k (fullL 0))) ∧ w5.heap.size ≤ W.heap.size) (fun _ kx _ => n - (RowKit.intOf kx).toNat)
    case atStart => exact ⟨0, rfl, by omega, H5.out, World.ownsRow_nil _ _ _ _, Nat.le_refl _⟩
    case round =>
      obtain ⟨k, rfl, hkn, hOb, hrow, hsz⟩ := hrel
      have H6 := Lib.hid hOb
      have HR := Lib.hid hrow
      by_cases hk : k < n
      · have hki : (k : Int) < (n : Int) := by omega
        have hwr : IntKind.i64.wrap ((k : Int) + 1) = (k : Int) + 1 := IntWalk.i64_in _ (by omega)
        clear hOb hrow
        go_wp2_with (first
          | (go_at_call 12; refine (F0.out _ _ H6.out).mono ?_; rintro e w6 ⟨rfl, hb6⟩; have H7 := Lib.hid (H6.out.step hb6); have HSZ := Lib.hid (Nat.le_trans hsz hb6.size); have HR7 := Lib.hid (ownsRow_kp HR.out (Kp.of_below hb6 []) (by simp)); clear hb6)
          | (at_builtin; obtain ⟨g, cap, w7, hr7, hown7, T7, hk7, hT7⟩ := app_text HR7.out (fullL 0) HSZ.out (by omega); refine wpList_builtin2_run _ rfl .append Builtin.append_ _ _ _ _ rfl (fun _ _ _ => rfl) _ _ rfl rfl hr7 ?_))
        go_roundw
        case rel => exact ⟨k + 1, by go_num, by omega, H7.out.out hk7 (fun b hb => ⟨Nat.le_trans H5.out.size (hT7 b hb), fun j o hj hbo => by
            match j with
            | 0 => cases hj; have := ((H5.out.this 0 _ rfl).2.1 b hbo).2; have := hT7 b hb; omega
            | j + 1 => simp at hj⟩), by rw [List.replicate_succ']; exact hown7, Nat.le_trans HSZ.out hk7.size⟩
        case measure => simp [RowKit.intOf]; omega
      · have hki : ¬ (k : Int) < (n : Int) := by omega
        obtain rfl : k = n := by omega
        obtain ⟨g1, c1, rfl⟩ : ∃ g c, u9 = .slice (some ⟨g, 0, none⟩) k c := by
          rcases hrow.2 with ⟨_, h0⟩ | ⟨g, cap, cur, e, _⟩
          · omega
          · exact ⟨g, cap, e⟩
        obtain ⟨hx1, _, hg1⟩ := XR.of_owns hrow
        have HX1 := Lib.hid (show XR wr 9 g1 c1 (txs (DS.new k).was) from hx1)
        have H8 := Lib.hid (show Obs w wr [pdOb p bl bd (DS.new k), xOb 9 g1 c1 (txs (DS.new k).was)] from hOb.join (xOb 9 g1 c1 (txs (DS.new k).was)) hx1 (xOb_stays _ _ _ _) (fun b hb => by
          simp [xOb] at hb
          subst hb
          refine ⟨Nat.le_trans H5.out.size hg1, hx1.lt, fun j o hj hbo => ?_⟩
          match j with
          | 0 => cases hj; have := ((H5.out.this 0 _ rfl).2.1 b hbo).2; omega
          | j + 1 => simp at hj))
        clear hOb hrow hx1 HR H6
        go_wp2_with (first
          | (at_builtin; obtain ⟨g2, c2, w8, hr8, hx8, hb8, hg8⟩ := fresh_text (n := k) (c := c1) wr HX1.out (by simp [DS.new]) (by omega) (by omega); refine wpList_builtin2_run _ rfl .append Builtin.append_ _ _ _ _ rfl (fun _ _ _ => rfl) _ _ rfl rfl hr8 ?_; have H9 := Lib.hid (show Obs w w8 [pdOb p bl bd (DS.new k), xOb 9 g1 c1 (txs (DS.new k).was), xOb 9 g2 c2 (txs (DS.new k).now)] from H8.out.addX hx8 hb8 hg8); clear hr8 hx8 hb8 hg8 HX1)
          | (at_builtin; obtain ⟨A1, c3, w9, hr9, hown9, hb9⟩ := run_steps1 (c := c) w8 (HL.out.below (H9.out.alloc (.cells #[] 48)).bel) (by rw [HLN.out]; exact hl300); rw [HLN.out] at hr9 hown9; refine wpList_builtin2_run _ rfl .append Builtin.append_ _ _ _ _ rfl (fun _ _ _ => rfl) _ _ rfl rfl hr9 ?_; have H10 := Lib.hid (H9.out.step hb9); have HOW := Lib.hid hown9; have HS9 := Lib.hid hb9.size; clear hr9 hown9 hb9)
          | (at_builtin; obtain ⟨g4, c4, w10, hr10, hx10, ⟨T10, hk10, hT10⟩, hg10⟩ := run_steps2 (m := [e1D, ⟨1, 0, 0, 0, [], none, 0⟩, ⟨3, 0, 0, 0, [], none, 0⟩]) HOW.out HLN.out.symm HS9.out hl300 rfl; refine wpList_builtin2_run _ rfl .append Builtin.append_ _ _ _ _ rfl (fun _ _ _ => rfl) _ _ rfl rfl hr10 ?_; clear hr10))
        have H11 := Lib.hid (show Obs w w10 [pdOb p bl bd (DS.new k), xOb 9 g1 c1 (txs (DS.new k).was), xOb 9 g2 c2 (txs (DS.new k).now), xOb 48 g4 (c4 * 5) (flatS (rowS l))] from
          (H10.out.out hk10 (fun b hb => ⟨Nat.le_trans H9.out.size (hT10 b hb), fun j o hj hbo => by have := ((H9.out.this j o hj).2.1 b hbo).2; have := hT10 b hb; omega⟩)).join (xOb 48 g4 (c4 * 5) (flatS (rowS l))) hx10 (xOb_stays _ _ _ _) (fun b hb => by
            simp [xOb] at hb
            subst hb
            exact ⟨Nat.le_trans H9.out.size hg10, hx10.lt, fun j o hj hbo => by have := ((H9.out.this j o hj).2.1 _ hbo).2; omega⟩))
        clear hk10 hT10 hg10 hx10 H9 H10 HOW HS9 H8 H5 hki hkn hk hsz hg1
        obtain ⟨cp, hcp⟩ : ∃ cp, cp = c4 * 5 := ⟨_, rfl⟩
        rw [← hcp] at H11
        clear hcp
        obtain ⟨L, hL⟩ : ∃ L, L = ln + 3 := ⟨_, rfl⟩
        rw [← hL]
        have HLL := Lib.hid hL
        have hL303 : L ≤ 303 := by omega
        clear hL
        go_loopw [9, 10, 12] (fun v9 v10 kx W => ∃ (m : Nat) (S : DS) (g1 c1 g2 c2 : Nat), kx = .int .i64 (m : Int) ∧ v9 = .slice (some ⟨g1, 0, none⟩) k c1 ∧ v10 = .slice (some ⟨g2, 0, none⟩) k c2 ∧ m ≤ L ∧ Obs w W [pdOb p bl bd S, xOb 9 g1 c1 (txs S.was), xOb 9 g2 c2 (txs S.now), xOb 48 g4 cp (flatS (rowS l))] ∧ S.was.length = k ∧ S.ops ≤ m ∧ KE ln m S) (fun _ _ kx _ => L - (RowKit.intOf kx).toNat)
        case atStart => exact ⟨0, DS.new k, g1, c1, g2, c2, rfl, rfl, rfl, by omega, H11.out, by simp [DS.new], Nat.le_refl _, ⟨fun e => by omega, fun e => by omega, fun e => by omega⟩⟩
        case round =>
          clear H11
          obtain ⟨m, S, g1, c1, g2, c2, rfl, rfl, rfl, hmL, hOb, hlen, hops, hke⟩ := hrel
          have H12 := Lib.hid hOb
          have HLE := Lib.hid hlen
          have HKE := Lib.hid hke
          have HOK := Lib.hid (hOb.get (i := 0) rfl : PD wr p bl bd S).ok
          by_cases hm : m < L
          · have hmi : (m : Int) < (L : Int) := by omega
            have hm0 : (0 : Int) ≤ (m : Int) := by omega
            have hmw : IntKind.i64.wrap ((m : Int) + 1) = (m : Int) + 1 := IntWalk.i64_in _ (by omega)
            have hl2 : IntKind.i64.wrap ((L : Int) - 2) = (L : Int) - 2 := IntWalk.i64_in _ (by omega)
            have hl1 : IntKind.i64.wrap ((L : Int) - 1) = (L : Int) - 1 := IntWalk.i64_in _ (by omega)
            have hcs := (hOb.get (i := 3) rfl : XR wr 48 g4 cp (flatS (rowS l))).steps (k := m) (by have := HLL.out; have := HLN.out; simp [rowS]; omega)
            have HEFF := Lib.hid (eff_facts HL.out HS1.out HIK.out HKN.out hk1000 (B := B) (d := d) HLN.out (show m < ln + 3 by have := HLL.out; omega))
            have HKS := Lib.hid (KE.step (K := K) (kA := B) (kc := d) (k := m) (l := l) (by rw [HLN.out]; exact hke) HOK.out (by rw [HLN.out]; have := HLL.out; omega))
            have HSL := Lib.hid (step_len S ((effS l K B d).getD m sd0))
            have H13 := Lib.hid (hOb.alloc (.cells (stC ((rowS l).getD m sd0)) 48))
            have HBX := Lib.hid (heap_alloc_new wr (.cells (stC ((rowS l).getD m sd0)) 48))
            have HR12 := Lib.hid (rows_facts (l := l) (K := K) (kA := B) (kc := d) (k := m) HLN.out (show m < ln + 3 by have := HLL.out; omega))
            have HSO := Lib.hid (step_ok HOK.out (s := (effS l K B d).getD m sd0) (HEFF.out.2 wr hOb.bel).1.a)
            generalize (effS l K B d).getD m sd0 = E at HEFF HKS HSL HR12 HSO
            generalize (rowS l).getD m sd0 = R at hcs H13 HBX HR12
            obtain ⟨d0, d1, d2, d3, d4⟩ := hcs
            have hda : ∀ x : Nat, x = m * 5 → wr.cell? ⟨g4, x, none⟩ = some (.int .u8 (R.wh.toNat : Int)) := fun x hx => by rw [hx]; exact d0
            clear hOb hlen hke
            go_upto_region 17 with fail
            have CON := Lib.hid (on_any (H13.out.get (i := 0) rfl))
            have HGF := Lib.hid (show ∀ j o, ([pdOb p bl bd S, xOb 9 g1 c1 (txs S.was), xOb 9 g2 c2 (txs S.now), xOb 48 g4 cp (flatS (rowS l))])[j]? = some o → wr.heap.size ∉ o.fp from fun j o hj hbo => Nat.lt_irrefl _ ((H12.out.this j o hj).2.1 _ hbo).2)
            have HGS := Lib.hid H12.out.size
            change Code.wp _ _ _ _ (wr.alloc (.cells (stC R) 48))
            generalize wr.alloc (.cells (stC R) 48) = w13 at H13 HBX CON ⊢
            obtain ⟨gx, hgx⟩ : ∃ g, g = wr.heap.size := ⟨_, rfl⟩
            rw [← hgx] at HBX HGF HGS ⊢
            clear hgx d0 d1 d2 d3 d4 hda H12
            rcases (show m = ln + 1 ∨ m = ln + 2 ∨ (m ≠ ln + 1 ∧ m ≠ ln + 2) by omega) with hA | hA | ⟨hA, hB⟩
            · as_aux_lemma =>
                have HE := Lib.hid (HR12.out.2.1 hA)
                have hA1 : ((m : Int) == (L : Int) - 2) = true := by have := HLL.out; simp; omega
                have hA2 : ((m : Int) == (L : Int) - 1) = false := by have := HLL.out; rw [beq_eq_false_iff_ne]; omega
                clear hA HR12
                go_upto_region 20 with (go_at_call 15; refine CON.out.mono ?_; rintro e y1 ⟨rfl, hb1⟩; have H14 := Lib.hid (H13.out.step hb1); have HB14 := Lib.hid ((hb1.block _ (lt_of_blk HBX.out)).trans HBX.out); clear hb1; have f0 := freeAt HB14.out 0; have f1 := freeAt HB14.out 1; have f2 := freeAt HB14.out 2; have f3 := freeAt HB14.out 3; have f4 := freeAt HB14.out 4; have k0 : y1.cell? ⟨gx, 0, none⟩ = some (.int .u8 (R.wh.toNat : Int)) := cellAt HB14.out 0; have k1 : y1.cell? ⟨gx, 1, none⟩ = some (.int .i64 R.a) := cellAt HB14.out 1; have k2 : y1.cell? ⟨gx, 2, none⟩ = some (.int .u8 (R.y.toNat : Int)) := cellAt HB14.out 2; have k3 : y1.cell? ⟨gx, 3, none⟩ = some (.int .i64 R.odd) := cellAt HB14.out 3; have k4 : y1.cell? ⟨gx, 4, none⟩ = some (.slice R.kA R.keep.length R.kc) := cellAt HB14.out 4)
                have h5 := blk_set (blk_set (blk_set (blk_set (blk_set HB14.out 0 (.int .u8 0)) 1 (.int .i64 0)) 2 (.int .u8 99)) 3 (.int .i64 0)) 4 (.slice none 0 0)
                have hk5 : Kp [gx] y1 (((((y1.setCell ⟨gx, 0, none⟩ (.int .u8 0)).setCell ⟨gx, 1, none⟩ (.int .i64 0)).setCell ⟨gx, 2, none⟩ (.int .u8 99)).setCell ⟨gx, 3, none⟩ (.int .i64 0)).setCell ⟨gx, 4, none⟩ (.slice none 0 0)) := (((((Kp.refl _ _).setCell (by simp) _).setCell (by simp) _).setCell (by simp) _).setCell (by simp) _).setCell (by simp) _
                have HY := Lib.hid (H14.out.out hk5 (fun b hb => ⟨by simp at hb; rw [hb]; exact HGS.out, fun j o hj => by simp at hb; rw [hb]; exact HGF.out j o hj⟩))
                have HBx := Lib.hid (show (((((y1.setCell ⟨gx, 0, none⟩ (.int .u8 0)).setCell ⟨gx, 1, none⟩ (.int .i64 0)).setCell ⟨gx, 2, none⟩ (.int .u8 99)).setCell ⟨gx, 3, none⟩ (.int .i64 0)).setCell ⟨gx, 4, none⟩ (.slice none 0 0)).heap[gx]? = some (.cells (stC E) 48 (0, 0)) by rw [HE.out]; first | exact h5 | simpa [stC, e2D] using h5)
                have HW := Lib.hid (show E.wh = 0 by rw [HE.out]; rfl)
                clear h5 hk5 f0 f1 f2 f3 f4 k0 k1 k2 k3 k4 H13 H14 HB14 HBX CON hA1
                generalize (((((y1.setCell ⟨gx, 0, none⟩ (.int .u8 0)).setCell ⟨gx, 1, none⟩ (.int .i64 0)).setCell ⟨gx, 2, none⟩ (.int .u8 99)).setCell ⟨gx, 3, none⟩ (.int .i64 0)).setCell ⟨gx, 4, none⟩ (.slice none 0 0)) = y at HY HBx ⊢
                go_upto_region 22 with fail
                clear hA2
                have c0 : y.cell? ⟨gx, 0, none⟩ = some (.int .u8 0) := by
                  rw [cellAt HBx.out 0]; show some (Value.int .u8 (E.wh.toNat : Int)) = _; rw [HW.out]; rfl
                have HNG := Lib.hid (show gx ∉ [p, bl, bd] from HGF.out 0 _ rfl)
                have HNG2 := Lib.hid (show gx ∉ [g2] from HGF.out 2 _ rfl)
                have HODD := Lib.hid (HEFF.out.2 w (Below.refl _ _)).1.odd
                have CB := Lib.hid (fun W : World => bytes_any (w := W) E.wh E.a E.y (odd := E.odd) (.slice E.kA E.keep.length E.kc) rfl HODD.out)
                have HST := Lib.hid (show S.step E = S.wr E.a (stB E.odd E.y) by unfold DS.step; rw [if_pos HW.out])
                have HSN := Lib.hid (show S.now.length = k by rw [HOK.out.hn]; exact HLE.out)
                rcases wr_cases S E.a (stB E.odd E.y) with ⟨hE, _, hhas, _, hwr⟩ | ⟨hne, hwr⟩
                · obtain ⟨ha0, ha1⟩ := DS.has_iff.1 hhas
                  obtain ⟨i, hai⟩ : ∃ i : Nat, E.a = (i : Int) := ⟨E.a.toNat, by omega⟩
                  have hik : i < k := by have := HLE.out; omega
                  have hiki : (i : Int) < (k : Int) := by omega
                  have hi0 : (0 : Int) ≤ (i : Int) := by omega
                  have HAi := Lib.hid (show (stC E)[1]? = some (Value.int .i64 (i : Int)) by show some (Value.int .i64 E.a) = _; rw [hai])
                  obtain ⟨T, hT⟩ : ∃ T, T = S.step E := ⟨_, rfl⟩
                  rw [← hT] at HKS HSL HSO
                  have HTK := Lib.hid (show KE ln (m + 1) T by rw [← HLN.out]; exact HKS.out)
                  have HTL := Lib.hid (show T.was.length = k from HSL.out.1.trans HLE.out)
                  have HTO := Lib.hid (show T.ops ≤ S.ops + 1 from HSL.out.2)
                  have HTOK := HSO
                  have HTN := Lib.hid (show T.now.length = k by rw [HSO.out.hn]; exact HTL.out)
                  have HTT := Lib.hid hT
                  clear hT HKS HSL HSO
                  have hT1 : T = (S.put i (stB E.odd E.y)).did := by rw [HTT.out, HST.out, hwr, hai]; rfl
                  have HT1 := Lib.hid (show T.was = S.was ∧ T.now = S.now.set i (stB E.odd E.y) by rw [hT1]; exact ⟨rfl, rfl⟩)
                  have HT2 := Lib.hid (show S.wr E.a (stB E.odd E.y) = T by rw [hT1, hwr, hai]; rfl)
                  have HEE := Lib.hid hE
                  clear hT1 hwr hai ha0 ha1 hhas hE
                  go_wp2_with fail
                  have hE := HEE.out
                  refine wp_region_held_drew (S := fun W => W.heap[gx]? = some (.cells (stC E) 48 (0, 0))) (by kernel_rfl) HBx.out (fun hHeld => ?_)
                  refine wpAnyH_take (i := 0) (v := ?vv0_1) rfl (by kernel_rfl) (by kernel_rfl) (by kernel_rfl) (fun _ _ _ h => h) (Or.inl ⟨by rfl, ?hy0_1⟩) (by assumption) ?rest0_1
                  case hy0_1 => (intro w' hSw; (try dsimp only at hSw); go_simp; try with_reducible rfl)
                  try simp only [List.getElem_toArray, List.getElem_cons_zero, List.getElem_cons_succ, Act.put, List.setIfInBounds_toArray, List.set_cons_zero, List.set_cons_succ]
                  refine wpAnyH_take (i := 1) (v := ?vv1_1) rfl (by kernel_rfl) (by kernel_rfl) (by kernel_rfl) (fun _ _ _ h => h) (Or.inl ⟨by rfl, ?hy1_1⟩) (by assumption) ?rest1_1
                  case hy1_1 => (intro w' hSw; (try dsimp only at hSw); go_simp; try with_reducible rfl)
                  try simp only [List.getElem_toArray, List.getElem_cons_zero, List.getElem_cons_succ, Act.put, List.setIfInBounds_toArray, List.set_cons_zero, List.set_cons_succ]
                  refine wpAnyH_take (i := 2) (v := .int .i64 E.a) rfl (by kernel_rfl) (by kernel_rfl) (by kernel_rfl) (fun _ _ _ h => h) (Or.inl ⟨by rfl, fun w' hSw => exec_load1 w' rfl rfl (cellAt hSw 1) Try.underlying3 rfl⟩) (by assumption) ?_
                  try simp only [List.getElem_toArray, List.getElem_cons_zero, List.getElem_cons_succ, Act.put, List.setIfInBounds_toArray, List.set_cons_zero, List.set_cons_succ]
                  refine wpAnyH_take (i := 3) (v := .agg (stC E)) rfl (by kernel_rfl) (by kernel_rfl) (by kernel_rfl) (fun _ _ _ h => h) (Or.inl ⟨by rfl, fun w' hSw => exec_load_row w' rfl rfl hSw Try.underlying48 rfl stC_size⟩) (by assumption) ?_
                  try simp only [List.getElem_toArray, List.getElem_cons_zero, List.getElem_cons_succ, Act.put, List.setIfInBounds_toArray, List.set_cons_zero, List.set_cons_succ]
                  refine wpAnyH_ready (rs := [4]) (by kernel_rfl) (by simp) ?_
                  refine AllReadyH.cons rfl (fun K hK => ?_) AllReadyH.nil
                  go_simp
                  refine (CB.out _).mono ?_
                  rintro e wa ⟨rfl, hb1⟩
                  (try go_wp2_with fail)
                  refine hK.out _ _ ((hb1.block gx (lt_of_blk hHeld)).trans hHeld) (fun hHeld => ?_)
                  clear hK K
                  try simp only [List.getElem_toArray, List.getElem_cons_zero, List.getElem_cons_succ, Act.put, List.setIfInBounds_toArray, List.set_cons_zero, List.set_cons_succ]
                  have K1 := Lib.hid (HY.out.drew.step hb1)
                  refine wpAnyH_ready (rs := [5]) (by kernel_rfl) (by simp) ?_
                  refine AllReadyH.cons rfl (fun K hK => ?_) AllReadyH.nil
                  go_simp
                  refine (write_any (K1.out.get (i := 0) rfl) (by omega) E.a (stB E.odd E.y) (by have := stB_le E.odd E.y; omega)).mono ?_
                  rintro e wb ⟨he, hPb, hkb⟩
                  rw [hE] at he; subst he
                  (try go_wp2_with fail)
                  refine hK.out _ _ ((hkb.block gx (lt_of_blk hHeld) HNG.out).trans hHeld) (fun hHeld => ?_)
                  clear hK K
                  try simp only [List.getElem_toArray, List.getElem_cons_zero, List.getElem_cons_succ, Act.put, List.setIfInBounds_toArray, List.set_cons_zero, List.set_cons_succ]
                  have HZ := Lib.hid (K1.out.turnD 0 rfl hPb hkb)
                  have HBz := Lib.hid hHeld
                  refine wpAnyH_take (i := 6) (v := ?vv6_1) rfl (by kernel_rfl) (by kernel_rfl) (by kernel_rfl) (fun _ _ _ h => h) (Or.inl ⟨by rfl, ?hy6_1⟩) (by assumption) ?rest6_1
                  case hy6_1 => (intro w' hSw; (try dsimp only at hSw); go_simp; try with_reducible rfl)
                  try simp only [List.getElem_toArray, List.getElem_cons_zero, List.getElem_cons_succ, Act.put, List.setIfInBounds_toArray, List.set_cons_zero, List.set_cons_succ]
                  refine wpAnyH_done (by kernel_rfl) ?_ _
                  clear hHeld
                  clear hE
                  go_wp2_with fail
                  refine wp_region_held_drew (S := fun W => W.heap[gx]? = some (.cells (stC E) 48 (0, 0))) (by kernel_rfl) HBz.out (fun hHeld => ?_)
                  refine wpAnyH_take (i := 0) (v := ?vv0_3) rfl (by kernel_rfl) (by kernel_rfl) (by kernel_rfl) (fun _ _ _ h => h) (Or.inl ⟨by rfl, ?hy0_3⟩) (by assumption) ?rest0_3
                  case hy0_3 => (intro w' hSw; (try dsimp only at hSw); go_simp; try with_reducible rfl)
                  try simp only [List.getElem_toArray, List.getElem_cons_zero, List.getElem_cons_succ, Act.put, List.setIfInBounds_toArray, List.set_cons_zero, List.set_cons_succ]
                  refine wpAnyH_take (i := 1) (v := ?vv1_3) rfl (by kernel_rfl) (by kernel_rfl) (by kernel_rfl) (fun _ _ _ h => h) (Or.inl ⟨by rfl, ?hy1_3⟩) (by assumption) ?rest1_3
                  case hy1_3 => (intro w' hSw; (try dsimp only at hSw); go_simp; try with_reducible rfl)
                  try simp only [List.getElem_toArray, List.getElem_cons_zero, List.getElem_cons_succ, Act.put, List.setIfInBounds_toArray, List.set_cons_zero, List.set_cons_succ]
                  refine wpAnyH_take (i := 2) (v := .int .i64 (i : Int)) rfl (by kernel_rfl) (by kernel_rfl) (by kernel_rfl) (fun _ _ _ h => h) (Or.inl ⟨by rfl, fun w' hSw => exec_load1 w' rfl rfl ((cellAt hSw 1).trans HAi.out) Try.underlying3 rfl⟩) (by assumption) ?_
                  try simp only [List.getElem_toArray, List.getElem_cons_zero, List.getElem_cons_succ, Act.put, List.setIfInBounds_toArray, List.set_cons_zero, List.set_cons_succ]
                  refine wpAnyH_take (i := 3) (v := .agg (stC E)) rfl (by kernel_rfl) (by kernel_rfl) (by kernel_rfl) (fun _ _ _ h => h) (Or.inl ⟨by rfl, fun w' hSw => exec_load_row w' rfl rfl hSw Try.underlying48 rfl stC_size⟩) (by assumption) ?_
                  try simp only [List.getElem_toArray, List.getElem_cons_zero, List.getElem_cons_succ, Act.put, List.setIfInBounds_toArray, List.set_cons_zero, List.set_cons_succ]
                  refine wpAnyH_ready (rs := [4]) (by kernel_rfl) (by simp) ?_
                  refine AllReadyH.cons rfl (fun K hK => ?_) AllReadyH.nil
                  go_simp
                  refine (CB.out _).mono ?_
                  rintro e wc ⟨rfl, hb2⟩
                  (try go_wp2_with fail)
                  refine hK.out _ _ ((hb2.block gx (lt_of_blk hHeld)).trans hHeld) (fun hHeld => ?_)
                  clear hK K
                  try simp only [List.getElem_toArray, List.getElem_cons_zero, List.getElem_cons_succ, Act.put, List.setIfInBounds_toArray, List.set_cons_zero, List.set_cons_succ]
                  have K3 := Lib.hid (HZ.out.drew.step hb2)
                  obtain ⟨hxc, hxf⟩ := (K3.out.get (i := 2) rfl : XR wc 9 g2 c2 (txs S.now)).cell (j := i) (by rw [txs_length, HSN.out]; exact hik)
                  refine wpAnyH_take (i := 5) (v := ?vv5_3) rfl (by kernel_rfl) (by kernel_rfl) (by kernel_rfl) (fun _ _ _ h => h) (Or.inl ⟨by rfl, ?hy5_3⟩) (by assumption) ?rest5_3
                  case hy5_3 => (intro w' hSw; (try dsimp only at hSw); go_simp; try with_reducible rfl)
                  try simp only [List.getElem_toArray, List.getElem_cons_zero, List.getElem_cons_succ, Act.put, List.setIfInBounds_toArray, List.set_cons_zero, List.set_cons_succ]
                  refine wpAnyH_ready (rs := [6]) (by kernel_rfl) (by simp) ?_
                  refine AllReadyH.cons rfl (fun K hK => ?_) AllReadyH.nil
                  go_simp
                  refine hK.out _ _ (((((Kp.refl [g2] wc).setCell (by simp) _).block gx (lt_of_blk hHeld) HNG2.out)).trans hHeld) (fun hHeld => ?_)
                  clear hK K
                  try simp only [List.getElem_toArray, List.getElem_cons_zero, List.getElem_cons_succ, Act.put, List.setIfInBounds_toArray, List.set_cons_zero, List.set_cons_succ]
                  refine wpAnyH_done (by kernel_rfl) ?_ _
                  clear hHeld
                  have HQ := Lib.hid (show Obs w (wc.setCell ⟨g2, i, none⟩ (sv (stB E.odd E.y))) [pdOb p bl bd T, xOb 9 g1 c1 (txs T.was), xOb 9 g2 c2 (txs T.now), xOb 48 g4 cp (flatS (rowS l))] from by
                    have h := K3.out.setX 2 rfl (j := i) (by rw [txs_length, HSN.out]; exact hik) (sv (stB E.odd E.y))
                    rw [txs_set, ← HT1.out.2, HT2.out, ← HT1.out.1] at h
                    exact h)
                  clear hxc hxf HZ K1 K3 HBz hPb hkb hb1 hb2 hiki hi0
                  go_wp2_with fail
                  go_loopw [17] (fun jx W => ∃ j : Nat, jx = .int .i64 (j : Int) ∧ j ≤ k ∧ Obs w W [pdOb p bl bd T, xOb 9 g1 c1 (txs T.was), xOb 9 g2 c2 (txs T.now), xOb 48 g4 cp (flatS (rowS l))]) (fun jx _ => k - (RowKit.intOf jx).toNat)
                  case atStart => exact ⟨0, rfl, by omega, HQ.out⟩
                  case round =>
                    clear HQ
                    obtain ⟨j, rfl, hjk, hO⟩ := hrel
                    have HO := Lib.hid hO
                    by_cases hj : j < k
                    · have hji : (j : Int) < (k : Int) := by omega
                      have hj0 : (0 : Int) ≤ (j : Int) := by omega
                      have hjw : IntKind.i64.wrap ((j : Int) + 1) = (j : Int) + 1 := IntWalk.i64_in _ (by omega)
                      have CO2 := Lib.hid (on_o hO 0 rfl)
                      have CI2 := Lib.hid (fun W (h : Obs w W [pdOb p bl bd T, xOb 9 g1 c1 (txs T.was), xOb 9 g2 c2 (txs T.now), xOb 48 g4 cp (flatS (rowS l))]) => is_o h 0 rfl (j : Int) (T.now.getD j []))
                      cases ho : T.off with
                      | true =>
                        rw [ho] at CO2
                        clear hO CI2 ho
                        go_wp2_with (go_at_call 15; refine CO2.out.mono ?_; rintro e z1 ⟨rfl, h1⟩; have HO2 := Lib.hid h1; clear h1)
                        go_roundw
                        case rel => exact ⟨m + 1, T, g1, c1, g2, c2, by go_num, rfl, rfl, by omega, HO2.out, HTL.out, by have := HTO.out; omega, HTK.out⟩
                        case measure => simp [RowKit.intOf]; omega
                      | false =>
                        rw [ho] at CO2
                        have HIS := Lib.hid (isD_now HTOK.out ho (show j < T.was.length by rw [HTL.out]; exact hj))
                        clear hO ho
                        go_wp2_with (first
                          | (go_at_call 15; refine CO2.out.mono ?_; rintro e z1 ⟨rfl, h1⟩; have HO2 := Lib.hid h1; clear h1; have hcn := ((HO2.out.get (i := 2) rfl : XR z1 9 g2 c2 (txs T.now)).cell (j := j) (by rw [txs_length, HTN.out]; exact hj)).1; rw [txs_getD (by rw [HTN.out]; exact hj)] at hcn)
                          | (go_at_call 21; refine (CI2.out _ HO2.out).mono ?_; rintro e z2 ⟨he, h1⟩; rw [HIS.out] at he; subst he; have HO3 := Lib.hid h1; clear h1 hcn))
                        go_roundw
                        case rel => exact ⟨j + 1, by go_num, by omega, HO3.out⟩
                        case measure => simp [RowKit.intOf]; omega
                    · have hji : ¬ (j : Int) < (k : Int) := by omega
                      clear hO
                      go_wp2_with fail
                      go_roundw
                      case rel => exact ⟨m + 1, T, g1, c1, g2, c2, by go_num, rfl, rfl, by omega, HO.out, HTL.out, by have := HTO.out; omega, HTK.out⟩
                      case measure => simp [RowKit.intOf]; omega
                · obtain ⟨x, hxx⟩ : ∃ x, S.wrE E.a (stB E.odd E.y) = x := ⟨_, rfl⟩
                  have hx0 : (x == 0) = false := by rw [beq_eq_false_iff_ne, ← hxx]; exact hne
                  obtain ⟨T, hT⟩ : ∃ T, T = S.step E := ⟨_, rfl⟩
                  rw [← hT] at HKS HSL HSO
                  have HTK := Lib.hid (show KE ln (m + 1) T by rw [← HLN.out]; exact HKS.out)
                  have HTL := Lib.hid (show T.was.length = k from HSL.out.1.trans HLE.out)
                  have HTO := Lib.hid (show T.ops ≤ S.ops + 1 from HSL.out.2)
                  have HTOK := HSO
                  have HTN := Lib.hid (show T.now.length = k by rw [HSO.out.hn]; exact HTL.out)
                  have HTT := Lib.hid hT
                  clear hT HKS HSL HSO
                  have HT1 := Lib.hid (show T = S by rw [HTT.out, HST.out, hwr])
                  have HT2 := Lib.hid (show S.wr E.a (stB E.odd E.y) = S from hwr)
                  have HXX := Lib.hid hxx
                  clear hwr hne hxx
                  go_wp2_with fail
                  have hxx := HXX.out
                  refine wp_region_held_drew (S := fun W => W.heap[gx]? = some (.cells (stC E) 48 (0, 0))) (by kernel_rfl) HBx.out (fun hHeld => ?_)
                  refine wpAnyH_take (i := 0) (v := ?vv0_2) rfl (by kernel_rfl) (by kernel_rfl) (by kernel_rfl) (fun _ _ _ h => h) (Or.inl ⟨by rfl, ?hy0_2⟩) (by assumption) ?rest0_2
                  case hy0_2 => (intro w' hSw; (try dsimp only at hSw); go_simp; try with_reducible rfl)
                  try simp only [List.getElem_toArray, List.getElem_cons_zero, List.getElem_cons_succ, Act.put, List.setIfInBounds_toArray, List.set_cons_zero, List.set_cons_succ]
                  refine wpAnyH_take (i := 1) (v := ?vv1_2) rfl (by kernel_rfl) (by kernel_rfl) (by kernel_rfl) (fun _ _ _ h => h) (Or.inl ⟨by rfl, ?hy1_2⟩) (by assumption) ?rest1_2
                  case hy1_2 => (intro w' hSw; (try dsimp only at hSw); go_simp; try with_reducible rfl)
                  try simp only [List.getElem_toArray, List.getElem_cons_zero, List.getElem_cons_succ, Act.put, List.setIfInBounds_toArray, List.set_cons_zero, List.set_cons_succ]
                  refine wpAnyH_take (i := 2) (v := .int .i64 E.a) rfl (by kernel_rfl) (by kernel_rfl) (by kernel_rfl) (fun _ _ _ h => h) (Or.inl ⟨by rfl, fun w' hSw => exec_load1 w' rfl rfl (cellAt hSw 1) Try.underlying3 rfl⟩) (by assumption) ?_
                  try simp only [List.getElem_toArray, List.getElem_cons_zero, List.getElem_cons_succ, Act.put, List.setIfInBounds_toArray, List.set_cons_zero, List.set_cons_succ]
                  refine wpAnyH_take (i := 3) (v := .agg (stC E)) rfl (by kernel_rfl) (by kernel_rfl) (by kernel_rfl) (fun _ _ _ h => h) (Or.inl ⟨by rfl, fun w' hSw => exec_load_row w' rfl rfl hSw Try.underlying48 rfl stC_size⟩) (by assumption) ?_
                  try simp only [List.getElem_toArray, List.getElem_cons_zero, List.getElem_cons_succ, Act.put, List.setIfInBounds_toArray, List.set_cons_zero, List.set_cons_succ]
                  refine wpAnyH_ready (rs := [4]) (by kernel_rfl) (by simp) ?_
                  refine AllReadyH.cons rfl (fun K hK => ?_) AllReadyH.nil
                  go_simp
                  refine (CB.out _).mono ?_
                  rintro e wa ⟨rfl, hb1⟩
                  (try go_wp2_with fail)
                  refine hK.out _ _ ((hb1.block gx (lt_of_blk hHeld)).trans hHeld) (fun hHeld => ?_)
                  clear hK K
                  try simp only [List.getElem_toArray, List.getElem_cons_zero, List.getElem_cons_succ, Act.put, List.setIfInBounds_toArray, List.set_cons_zero, List.set_cons_succ]
                  have K1 := Lib.hid (HY.out.drew.step hb1)
                  refine wpAnyH_ready (rs := [5]) (by kernel_rfl) (by simp) ?_
                  refine AllReadyH.cons rfl (fun K hK => ?_) AllReadyH.nil
                  go_simp
                  refine (write_any (K1.out.get (i := 0) rfl) (by omega) E.a (stB E.odd E.y) (by have := stB_le E.odd E.y; omega)).mono ?_
                  rintro e wb ⟨he, hPb, hkb⟩
                  rw [hxx] at he; subst he
                  (try go_wp2_with fail)
                  refine hK.out _ _ ((hkb.block gx (lt_of_blk hHeld) HNG.out).trans hHeld) (fun hHeld => ?_)
                  clear hK K
                  try simp only [List.getElem_toArray, List.getElem_cons_zero, List.getElem_cons_succ, Act.put, List.setIfInBounds_toArray, List.set_cons_zero, List.set_cons_succ]
                  have HZ := Lib.hid (K1.out.turnD 0 rfl hPb hkb)
                  have HBz := Lib.hid hHeld
                  refine wpAnyH_take (i := 6) (v := ?vv6_2) rfl (by kernel_rfl) (by kernel_rfl) (by kernel_rfl) (fun _ _ _ h => h) (Or.inl ⟨by rfl, ?hy6_2⟩) (by assumption) ?rest6_2
                  case hy6_2 => (intro w' hSw; (try dsimp only at hSw); go_simp; try with_reducible rfl)
                  try simp only [List.getElem_toArray, List.getElem_cons_zero, List.getElem_cons_succ, Act.put, List.setIfInBounds_toArray, List.set_cons_zero, List.set_cons_succ]
                  refine wpAnyH_done (by kernel_rfl) ?_ _
                  clear hHeld
                  clear hxx
                  have HQ := Lib.hid (show Obs w wb [pdOb p bl bd T, xOb 9 g1 c1 (txs T.was), xOb 9 g2 c2 (txs T.now), xOb 48 g4 cp (flatS (rowS l))] from by
                    have h := HZ.out
                    rw [HT2.out] at h
                    rw [HT1.out]; exact h)
                  clear HZ K1 HBz hPb hkb hb1
                  go_wp2_with fail
                  go_loopw [17] (fun jx W => ∃ j : Nat, jx = .int .i64 (j : Int) ∧ j ≤ k ∧ Obs w W [pdOb p bl bd T, xOb 9 g1 c1 (txs T.was), xOb 9 g2 c2 (txs T.now), xOb 48 g4 cp (flatS (rowS l))]) (fun jx _ => k - (RowKit.intOf jx).toNat)
                  case atStart => exact ⟨0, rfl, by omega, HQ.out⟩
                  case round =>
                    clear HQ
                    obtain ⟨j, rfl, hjk, hO⟩ := hrel
                    have HO := Lib.hid hO
                    by_cases hj : j < k
                    · have hji : (j : Int) < (k : Int) := by omega
                      have hj0 : (0 : Int) ≤ (j : Int) := by omega
                      have hjw : IntKind.i64.wrap ((j : Int) + 1) = (j : Int) + 1 := IntWalk.i64_in _ (by omega)
                      have CO2 := Lib.hid (on_o hO 0 rfl)
                      have CI2 := Lib.hid (fun W (h : Obs w W [pdOb p bl bd T, xOb 9 g1 c1 (txs T.was), xOb 9 g2 c2 (txs T.now), xOb 48 g4 cp (flatS (rowS l))]) => is_o h 0 rfl (j : Int) (T.now.getD j []))
                      cases ho : T.off with
                      | true =>
                        rw [ho] at CO2
                        clear hO CI2 ho
                        go_wp2_with (go_at_call 15; refine CO2.out.mono ?_; rintro e z1 ⟨rfl, h1⟩; have HO2 := Lib.hid h1; clear h1)
                        go_roundw
                        case rel => exact ⟨m + 1, T, g1, c1, g2, c2, by go_num, rfl, rfl, by omega, HO2.out, HTL.out, by have := HTO.out; omega, HTK.out⟩
                        case measure => simp [RowKit.intOf]; omega
                      | false =>
                        rw [ho] at CO2
                        have HIS := Lib.hid (isD_now HTOK.out ho (show j < T.was.length by rw [HTL.out]; exact hj))
                        clear hO ho
                        go_wp2_with (first
                          | (go_at_call 15; refine CO2.out.mono ?_; rintro e z1 ⟨rfl, h1⟩; have HO2 := Lib.hid h1; clear h1; have hcn := ((HO2.out.get (i := 2) rfl : XR z1 9 g2 c2 (txs T.now)).cell (j := j) (by rw [txs_length, HTN.out]; exact hj)).1; rw [txs_getD (by rw [HTN.out]; exact hj)] at hcn)
                          | (go_at_call 21; refine (CI2.out _ HO2.out).mono ?_; rintro e z2 ⟨he, h1⟩; rw [HIS.out] at he; subst he; have HO3 := Lib.hid h1; clear h1 hcn))
                        go_roundw
                        case rel => exact ⟨j + 1, by go_num, by omega, HO3.out⟩
                        case measure => simp [RowKit.intOf]; omega
                    · have hji : ¬ (j : Int) < (k : Int) := by omega
                      clear hO
                      go_wp2_with fail
                      go_roundw
                      case rel => exact ⟨m + 1, T, g1, c1, g2, c2, by go_num, rfl, rfl, by omega, HO.out, HTL.out, by have := HTO.out; omega, HTK.out⟩
                      case measure => simp [RowKit.intOf]; omega
            · as_aux_lemma =>
                have HE := Lib.hid (HR12.out.2.2 hA).1
                have HRR := Lib.hid (HR12.out.2.2 hA).2
                have hA1 : ((m : Int) == (L : Int) - 2) = false := by have := HLL.out; rw [beq_eq_false_iff_ne]; omega
                have hA2 : ((m : Int) == (L : Int) - 1) = true := by have := HLL.out; simp; omega
                clear hA HR12
                have HW := Lib.hid (show E.wh = 3 by rw [HE.out]; rfl)
                cases hof : S.off with
                | true =>
                  rw [hof] at CON
                  have HOF := Lib.hid hof
                  clear hof
                  as_aux_lemma =>
                    go_upto_region 22 with (go_at_call 15; refine CON.out.mono ?_; rintro e y1 ⟨rfl, hb1⟩; have H14 := Lib.hid (H13.out.step hb1); have HB14 := Lib.hid ((hb1.block _ (lt_of_blk HBX.out)).trans HBX.out); clear hb1; have f4 := freeAt HB14.out 4; have k4 : y1.cell? ⟨gx, 4, none⟩ = some (.slice R.kA R.keep.length R.kc) := cellAt HB14.out 4)
                    have h5 := blk_set HB14.out 4 (.slice B kn d)
                    have hk5 : Kp [gx] y1 (y1.setCell ⟨gx, 4, none⟩ (.slice B kn d)) := (Kp.refl _ _).setCell (by simp) _
                    have HY := Lib.hid (H14.out.out hk5 (fun b hb => ⟨by simp at hb; rw [hb]; exact HGS.out, fun j o hj => by simp at hb; rw [hb]; exact HGF.out j o hj⟩))
                    have HBx := Lib.hid (show (y1.setCell ⟨gx, 4, none⟩ (.slice B kn d)).heap[gx]? = some (.cells (stC E) 48 (0, 0)) by
                      have h6 : stC (e3D K B d) = (stC R).setIfInBounds 4 (.slice B kn d) := by rw [HRR.out, ← HKN.out]; rfl
                      rw [HE.out, h6]; exact h5)
                    clear h5 hk5 f4 k4 H13 H14 HB14 HBX CON hA1 hA2
                    generalize (y1.setCell ⟨gx, 4, none⟩ (.slice B kn d)) = y at HY HBx ⊢
                    have c0 : y.cell? ⟨gx, 0, none⟩ = some (.int .u8 3) := by
                      rw [cellAt HBx.out 0]; show some (Value.int .u8 (E.wh.toNat : Int)) = _; rw [HW.out]; rfl
                    have HNG := Lib.hid (show gx ∉ [p, bl, bd] from HGF.out 0 _ rfl)
                    have HNG2 := Lib.hid (show gx ∉ [g2] from HGF.out 2 _ rfl)
                    have HIR := Lib.hid (fun W (h : Below w.heap.size w W) => (HEFF.out.2 W h).1.ir)
                    have HKA := Lib.hid (show ∀ x, E.kA = some x → E.keep ≠ [] → x.block ∉ [p, bl, bd] from fun x hx hn hmem => by
                      have h1 := (HEFF.out.2 w (Below.refl _ _)).2 x hx hn
                      have h2 := ((HY.out.this 0 _ rfl).2.1 _ hmem).1
                      omega)
                    have HKL := Lib.hid (show E.keep.length ≤ 100000 by have := HEFF.out.1; omega)
                    have HST := Lib.hid (show S.step E = S.boot E.keep by unfold DS.step; rw [if_neg (by rw [HW.out]; decide), if_neg (by rw [HW.out]; decide), if_neg (by rw [HW.out]; decide), if_pos HW.out])
                    have HSN := Lib.hid (show S.now.length = k by rw [HOK.out.hn]; exact HLE.out)
                    obtain ⟨T, hT⟩ : ∃ T, T = S.step E := ⟨_, rfl⟩
                    rw [← hT] at HKS HSL HSO
                    have HTK := Lib.hid (show KE ln (m + 1) T by rw [← HLN.out]; exact HKS.out)
                    have HTL := Lib.hid (show T.was.length = k from HSL.out.1.trans HLE.out)
                    have HTO := Lib.hid (show T.ops ≤ S.ops + 1 from HSL.out.2)
                    have HTOK := HSO
                    have HTN := Lib.hid (show T.now.length = k by rw [HSO.out.hn]; exact HTL.out)
                    have HTT := Lib.hid hT
                    clear hT HKS HSL HSO
                    have CDI := Lib.hid (dirty_o HY.out 0 rfl)
                    have HBE := Lib.hid (show S.bootE = 0 by unfold DS.bootE; rw [HOF.out]; rfl)
                    have HT2 := Lib.hid (show S.boot E.keep = T by rw [← HST.out, ← HTT.out])
                    have HTF := Lib.hid (show T.off = false by rw [← HT2.out]; exact boot_off HOF.out _)
                    have HTC := Lib.hid (show T.now = T.was by rw [← HT2.out]; exact (boot_clean HOK.out HOF.out _).1)
                    have HKO := Lib.hid (show KeptOK T S.was S.now (dL S.wet) by rw [← HT2.out]; exact kept_ok HOK.out HOF.out _)
                    have HDL := Lib.hid (show (dL S.wet).length ≤ 1024 by rw [dL_length]; exact dirtyL_le HOK.out)
                    have CON3 := Lib.hid (fun W (h : Obs w W [pdOb p bl bd T, xOb 9 g1 c1 (txs S.was), xOb 9 g2 c2 (txs S.now), xOb 48 g4 cp (flatS (rowS l))]) => on_any (h.get (i := 0) rfl))
                    rw [HTF.out] at CON3
                    have CKF := Lib.hid (fun W A c (h : Obs w W [pdOb p bl bd T, xOb 9 g1 c1 (txs S.was), xOb 9 g2 c2 (txs S.now), xOb 48 g4 cp (flatS (rowS l))]) (hD : IR W A (dL S.wet)) => keptF_any (c := c) h 0 rfl 1 2 rfl rfl hD HDL.out HKO.out)
                    rw [HLE.out, HSN.out] at CKF
                    go_wp2_with (first
                      | (go_at_call 17; refine CDI.out.mono ?_; rintro e y2 ⟨A9, c9, rfl, hI9, hA9, hb⟩; have Y2 := Lib.hid (HY.out.step hb); have c4x : y2.cell? ⟨gx, 4, none⟩ = some (.slice E.kA E.keep.length E.kc) := cellAt ((hb.block gx (lt_of_blk HBx.out)).trans HBx.out) 4; have HI9 := Lib.hid hI9; have HA9 := Lib.hid (show ∀ a, A9 = some a → dL S.wet ≠ [] → a.block ∉ [p, bl, bd] from fun a ha hn hmem => by (have h1 := hA9 a ha; have h2 := ((HY.out.this 0 _ rfl).2.1 _ hmem).2; omega)); clear hb hI9 hA9)
                      | (go_at_call 14; refine (boot_any (Y2.out.get (i := 0) rfl) (HIR.out _ Y2.out.bel) HKA.out HKL.out).mono ?_; rintro e y3 ⟨he, hP3, hk3⟩; rw [HBE.out] at he; subst he; have HZ := Lib.hid (show Obs w y3 [pdOb p bl bd T, xOb 9 g1 c1 (txs S.was), xOb 9 g2 c2 (txs S.now), xOb 48 g4 cp (flatS (rowS l))] by (have h := Y2.out.turnD 0 rfl hP3 hk3; rw [HT2.out] at h; exact h)); have HI10 := Lib.hid (HI9.out.kp hk3 HA9.out); clear hP3 hk3 c4x)
                      | (go_at_call 15; refine (CON3.out _ HZ.out).mono ?_; rintro e y4 ⟨rfl, h1⟩; have HZ4 := Lib.hid (HZ.out.step h1); have HI11 := Lib.hid (HI10.out.below h1); clear h1)
                      | (go_at_call 29; refine (CKF.out _ _ _ HZ4.out HI11.out).mono ?_; rintro e y5 ⟨rfl, h1⟩; have HZ5 := Lib.hid (HZ4.out.step h1); clear h1))
                    go_loopw [16] (fun jx W => ∃ j : Nat, jx = .int .i64 (j : Int) ∧ j ≤ k ∧ Obs w W [pdOb p bl bd T, xOb 9 g1 c1 (txs (T.was.take j ++ S.was.drop j)), xOb 9 g2 c2 (txs S.now), xOb 48 g4 cp (flatS (rowS l))]) (fun jx _ => k - (RowKit.intOf jx).toNat)
                    case atStart => exact ⟨0, rfl, by omega, by simpa using HZ5.out⟩
                    case round =>
                      obtain ⟨j, rfl, hjk, hO⟩ := hrel
                      have HO := Lib.hid hO
                      by_cases hj : j < k
                      · have hji : (j : Int) < (k : Int) := by omega
                        have hj0 : (0 : Int) ≤ (j : Int) := by omega
                        have hjw : IntKind.i64.wrap ((j : Int) + 1) = (j : Int) + 1 := IntWalk.i64_in _ (by omega)
                        have CRD := Lib.hid (read_o hO 0 rfl (j : Int))
                        have HRV := Lib.hid (read_was HTOK.out HTF.out HTC.out (show j < T.was.length by rw [HTL.out]; exact hj))
                        have HSW := Lib.hid (take_set T.was S.was (by rw [HTL.out, HLE.out]) (show j < T.was.length by rw [HTL.out]; exact hj))
                        have HJL := Lib.hid (show j < (txs (T.was.take j ++ S.was.drop j)).length by rw [txs_length, List.length_append, List.length_take, List.length_drop, HTL.out, HLE.out]; omega)
                        clear hO
                        go_wp2_with (go_at_call 9; refine CRD.out.mono ?_; rintro e z1 ⟨he, h1⟩; rw [HRV.out.1, HRV.out.2] at he; subst he; have HO2 := Lib.hid h1; clear h1; obtain ⟨hcx, hcf⟩ := (HO2.out.get (i := 1) rfl : XR z1 9 g1 c1 (txs (T.was.take j ++ S.was.drop j))).cell (j := j) HJL.out)
                        go_roundw
                        case rel => exact ⟨j + 1, by go_num, by omega, by
                          have h := HO2.out.setX 1 rfl (j := j) HJL.out (sv (T.was.getD j []))
                          rw [txs_set, HSW.out] at h
                          exact h⟩
                        case measure => simp [RowKit.intOf]; omega
                      · have hji : ¬ (j : Int) < (k : Int) := by omega
                        obtain rfl : k = j := by omega
                        have HO6 := Lib.hid (show Obs w wr [pdOb p bl bd T, xOb 9 g1 c1 (txs T.was), xOb 9 g2 c2 (txs S.now), xOb 48 g4 cp (flatS (rowS l))] from by
                          have h := hO
                          rw [List.take_of_length_le (by rw [HTL.out]; exact Nat.le_refl _), List.drop_of_length_le (by rw [HLE.out]; exact Nat.le_refl _), List.append_nil] at h
                          exact h)
                        clear hO HO
                        go_wp2_with (at_builtin; obtain ⟨g3, c3', yc, hrc, hxc, hbc, hgc⟩ := fresh_text (n := k) (c := c1) _ (HO6.out.get (i := 1) rfl : XR _ 9 g1 c1 (txs T.was)) HTL.out.symm (by omega) (by omega); refine wpList_builtin2_run _ rfl .append Builtin.append_ _ _ _ _ rfl (fun _ _ _ => rfl) _ _ rfl rfl hrc ?_; have HQ0 := Lib.hid (HO6.out.swapX 2 rfl hxc hbc hgc); clear hrc hxc hbc hgc)
                        have HQ := Lib.hid (show Obs w yc [pdOb p bl bd T, xOb 9 g1 c1 (txs T.was), xOb 9 g3 c3' (txs T.now), xOb 48 g4 cp (flatS (rowS l))] from by
                          have h := HQ0.out
                          rw [HTC.out]; exact h)
                        go_wp2_with fail
                        go_loopw [17] (fun jx W => ∃ j : Nat, jx = .int .i64 (j : Int) ∧ j ≤ k ∧ Obs w W [pdOb p bl bd T, xOb 9 g1 c1 (txs T.was), xOb 9 g3 c3' (txs T.now), xOb 48 g4 cp (flatS (rowS l))]) (fun jx _ => k - (RowKit.intOf jx).toNat)
                        case atStart => exact ⟨0, rfl, by omega, HQ.out⟩
                        case round =>
                          clear HQ
                          obtain ⟨j, rfl, hjk, hO⟩ := hrel
                          have HO := Lib.hid hO
                          by_cases hj : j < k
                          · have hji : (j : Int) < (k : Int) := by omega
                            have hj0 : (0 : Int) ≤ (j : Int) := by omega
                            have hjw : IntKind.i64.wrap ((j : Int) + 1) = (j : Int) + 1 := IntWalk.i64_in _ (by omega)
                            have CO2 := Lib.hid (on_o hO 0 rfl)
                            have CI2 := Lib.hid (fun W (h : Obs w W [pdOb p bl bd T, xOb 9 g1 c1 (txs T.was), xOb 9 g3 c3' (txs T.now), xOb 48 g4 cp (flatS (rowS l))]) => is_o h 0 rfl (j : Int) (T.now.getD j []))
                            cases ho : T.off with
                            | true =>
                              rw [ho] at CO2
                              clear hO CI2 ho
                              go_wp2_with (go_at_call 15; refine CO2.out.mono ?_; rintro e z1 ⟨rfl, h1⟩; have HO2 := Lib.hid h1; clear h1)
                              go_roundw
                              case rel => exact ⟨m + 1, T, g1, c1, g3, c3', by go_num, rfl, rfl, by omega, HO2.out, HTL.out, by have := HTO.out; omega, HTK.out⟩
                              case measure => simp [RowKit.intOf]; omega
                            | false =>
                              rw [ho] at CO2
                              have HIS := Lib.hid (isD_now HTOK.out ho (show j < T.was.length by rw [HTL.out]; exact hj))
                              clear hO ho
                              go_wp2_with (first
                                | (go_at_call 15; refine CO2.out.mono ?_; rintro e z1 ⟨rfl, h1⟩; have HO2 := Lib.hid h1; clear h1; have hcn := ((HO2.out.get (i := 2) rfl : XR z1 9 g3 c3' (txs T.now)).cell (j := j) (by rw [txs_length, HTN.out]; exact hj)).1; rw [txs_getD (by rw [HTN.out]; exact hj)] at hcn)
                                | (go_at_call 21; refine (CI2.out _ HO2.out).mono ?_; rintro e z2 ⟨he, h1⟩; rw [HIS.out] at he; subst he; have HO3 := Lib.hid h1; clear h1 hcn))
                              go_roundw
                              case rel => exact ⟨j + 1, by go_num, by omega, HO3.out⟩
                              case measure => simp [RowKit.intOf]; omega
                          · have hji : ¬ (j : Int) < (k : Int) := by omega
                            clear hO
                            go_wp2_with fail
                            go_roundw
                            case rel => exact ⟨m + 1, T, g1, c1, g3, c3', by go_num, rfl, rfl, by omega, HO.out, HTL.out, by have := HTO.out; omega, HTK.out⟩
                            case measure => simp [RowKit.intOf]; omega
                | false =>
                  rw [hof] at CON
                  have HOF := Lib.hid hof
                  clear hof
                  as_aux_lemma =>
                    go_upto_region 22 with (go_at_call 15; refine CON.out.mono ?_; rintro e y1 ⟨rfl, hb1⟩; have H14 := Lib.hid (H13.out.step hb1); have HB14 := Lib.hid ((hb1.block _ (lt_of_blk HBX.out)).trans HBX.out); clear hb1; have f4 := freeAt HB14.out 4; have k4 : y1.cell? ⟨gx, 4, none⟩ = some (.slice R.kA R.keep.length R.kc) := cellAt HB14.out 4)
                    have h5 := blk_set HB14.out 4 (.slice B kn d)
                    have hk5 : Kp [gx] y1 (y1.setCell ⟨gx, 4, none⟩ (.slice B kn d)) := (Kp.refl _ _).setCell (by simp) _
                    have HY := Lib.hid (H14.out.out hk5 (fun b hb => ⟨by simp at hb; rw [hb]; exact HGS.out, fun j o hj => by simp at hb; rw [hb]; exact HGF.out j o hj⟩))
                    have HBx := Lib.hid (show (y1.setCell ⟨gx, 4, none⟩ (.slice B kn d)).heap[gx]? = some (.cells (stC E) 48 (0, 0)) by
                      have h6 : stC (e3D K B d) = (stC R).setIfInBounds 4 (.slice B kn d) := by rw [HRR.out, ← HKN.out]; rfl
                      rw [HE.out, h6]; exact h5)
                    clear h5 hk5 f4 k4 H13 H14 HB14 HBX CON hA1 hA2
                    generalize (y1.setCell ⟨gx, 4, none⟩ (.slice B kn d)) = y at HY HBx ⊢
                    have c0 : y.cell? ⟨gx, 0, none⟩ = some (.int .u8 3) := by
                      rw [cellAt HBx.out 0]; show some (Value.int .u8 (E.wh.toNat : Int)) = _; rw [HW.out]; rfl
                    have HNG := Lib.hid (show gx ∉ [p, bl, bd] from HGF.out 0 _ rfl)
                    have HNG2 := Lib.hid (show gx ∉ [g2] from HGF.out 2 _ rfl)
                    have HIR := Lib.hid (fun W (h : Below w.heap.size w W) => (HEFF.out.2 W h).1.ir)
                    have HKA := Lib.hid (show ∀ x, E.kA = some x → E.keep ≠ [] → x.block ∉ [p, bl, bd] from fun x hx hn hmem => by
                      have h1 := (HEFF.out.2 w (Below.refl _ _)).2 x hx hn
                      have h2 := ((HY.out.this 0 _ rfl).2.1 _ hmem).1
                      omega)
                    have HKL := Lib.hid (show E.keep.length ≤ 100000 by have := HEFF.out.1; omega)
                    have HST := Lib.hid (show S.step E = S.boot E.keep by unfold DS.step; rw [if_neg (by rw [HW.out]; decide), if_neg (by rw [HW.out]; decide), if_neg (by rw [HW.out]; decide), if_pos HW.out])
                    have HSN := Lib.hid (show S.now.length = k by rw [HOK.out.hn]; exact HLE.out)
                    obtain ⟨T, hT⟩ : ∃ T, T = S.step E := ⟨_, rfl⟩
                    rw [← hT] at HKS HSL HSO
                    have HTK := Lib.hid (show KE ln (m + 1) T by rw [← HLN.out]; exact HKS.out)
                    have HTL := Lib.hid (show T.was.length = k from HSL.out.1.trans HLE.out)
                    have HTO := Lib.hid (show T.ops ≤ S.ops + 1 from HSL.out.2)
                    have HTOK := HSO
                    have HTN := Lib.hid (show T.now.length = k by rw [HSO.out.hn]; exact HTL.out)
                    have HTT := Lib.hid hT
                    clear hT HKS HSL HSO
                    have CDI := Lib.hid (dirty_o HY.out 0 rfl)
                    have HBE := Lib.hid (show S.bootE = 7 by unfold DS.bootE; rw [HOF.out]; rfl)
                    have HT1 := Lib.hid (show T = S by rw [HTT.out, HST.out]; unfold DS.boot; rw [HOF.out]; rfl)
                    have HT2 := Lib.hid (show S.boot E.keep = S by rw [← HST.out, ← HTT.out]; exact HT1.out)
                    go_wp2_with (first
                      | (go_at_call 17; refine CDI.out.mono ?_; rintro e y2 ⟨A9, c9, rfl, _, _, hb⟩; have Y2 := Lib.hid (HY.out.step hb); have c4x : y2.cell? ⟨gx, 4, none⟩ = some (.slice E.kA E.keep.length E.kc) := cellAt ((hb.block gx (lt_of_blk HBx.out)).trans HBx.out) 4; clear hb)
                      | (go_at_call 14; refine (boot_o Y2.out 0 rfl (HIR.out _ Y2.out.bel) HKA.out HKL.out).mono ?_; rintro e y3 ⟨he, h1⟩; rw [HBE.out] at he; subst he; have HZ := Lib.hid h1; clear h1 c4x))
                    go_roundw
                    case rel => exact ⟨m + 1, T, g1, c1, g2, c2, by go_num, rfl, rfl, by omega, by
                      have h := HZ.out
                      rw [HT2.out] at h
                      rw [HT1.out]; exact h, HTL.out, by have := HTO.out; omega, HTK.out⟩
                    case measure => simp [RowKit.intOf]; omega
            · obtain rfl : E = R := HR12.out.1 hA hB
              have hA1 : ((m : Int) == (L : Int) - 2) = false := by have := HLL.out; rw [beq_eq_false_iff_ne]; omega
              have hA2 : ((m : Int) == (L : Int) - 1) = false := by have := HLL.out; rw [beq_eq_false_iff_ne]; omega
              clear hA hB HR12
              by_cases h0 : E.wh = 0
              · as_aux_lemma =>
                  have HW := Lib.hid h0
                  clear h0
                  go_upto_region 22 with (go_at_call 15; refine CON.out.mono ?_; rintro e y ⟨rfl, hb1⟩; have H14 := Lib.hid (H13.out.step hb1); have HB14 := Lib.hid ((hb1.block _ (lt_of_blk HBX.out)).trans HBX.out); clear hb1)
                  have HY := H14
                  have HBx := HB14
                  clear H13 H14 HB14 HBX CON hA1 hA2
                  have c0 : y.cell? ⟨gx, 0, none⟩ = some (.int .u8 0) := by
                    rw [cellAt HBx.out 0]; show some (Value.int .u8 (E.wh.toNat : Int)) = _; rw [HW.out]; rfl
                  have HNG := Lib.hid (show gx ∉ [p, bl, bd] from HGF.out 0 _ rfl)
                  have HNG2 := Lib.hid (show gx ∉ [g2] from HGF.out 2 _ rfl)
                  have HODD := Lib.hid (HEFF.out.2 w (Below.refl _ _)).1.odd
                  have CB := Lib.hid (fun W : World => bytes_any (w := W) E.wh E.a E.y (odd := E.odd) (.slice E.kA E.keep.length E.kc) rfl HODD.out)
                  have HST := Lib.hid (show S.step E = S.wr E.a (stB E.odd E.y) by unfold DS.step; rw [if_pos HW.out])
                  have HSN := Lib.hid (show S.now.length = k by rw [HOK.out.hn]; exact HLE.out)
                  rcases wr_cases S E.a (stB E.odd E.y) with ⟨hE, _, hhas, _, hwr⟩ | ⟨hne, hwr⟩
                  · obtain ⟨ha0, ha1⟩ := DS.has_iff.1 hhas
                    obtain ⟨i, hai⟩ : ∃ i : Nat, E.a = (i : Int) := ⟨E.a.toNat, by omega⟩
                    have hik : i < k := by have := HLE.out; omega
                    have hiki : (i : Int) < (k : Int) := by omega
                    have hi0 : (0 : Int) ≤ (i : Int) := by omega
                    have HAi := Lib.hid (show (stC E)[1]? = some (Value.int .i64 (i : Int)) by show some (Value.int .i64 E.a) = _; rw [hai])
                    obtain ⟨T, hT⟩ : ∃ T, T = S.step E := ⟨_, rfl⟩
                    rw [← hT] at HKS HSL HSO
                    have HTK := Lib.hid (show KE ln (m + 1) T by rw [← HLN.out]; exact HKS.out)
                    have HTL := Lib.hid (show T.was.length = k from HSL.out.1.trans HLE.out)
                    have HTO := Lib.hid (show T.ops ≤ S.ops + 1 from HSL.out.2)
                    have HTOK := HSO
                    have HTN := Lib.hid (show T.now.length = k by rw [HSO.out.hn]; exact HTL.out)
                    have HTT := Lib.hid hT
                    clear hT HKS HSL HSO
                    have hT1 : T = (S.put i (stB E.odd E.y)).did := by rw [HTT.out, HST.out, hwr, hai]; rfl
                    have HT1 := Lib.hid (show T.was = S.was ∧ T.now = S.now.set i (stB E.odd E.y) by rw [hT1]; exact ⟨rfl, rfl⟩)
                    have HT2 := Lib.hid (show S.wr E.a (stB E.odd E.y) = T by rw [hT1, hwr, hai]; rfl)
                    have HEE := Lib.hid hE
                    clear hT1 hwr hai ha0 ha1 hhas hE
                    go_wp2_with fail
                    have hE := HEE.out
                    refine wp_region_held_drew (S := fun W => W.heap[gx]? = some (.cells (stC E) 48 (0, 0))) (by kernel_rfl) HBx.out (fun hHeld => ?_)
                    refine wpAnyH_take (i := 0) (v := ?vv0_4) rfl (by kernel_rfl) (by kernel_rfl) (by kernel_rfl) (fun _ _ _ h => h) (Or.inl ⟨by rfl, ?hy0_4⟩) (by assumption) ?rest0_4
                    case hy0_4 => (intro w' hSw; (try dsimp only at hSw); go_simp; try with_reducible rfl)
                    try simp only [List.getElem_toArray, List.getElem_cons_zero, List.getElem_cons_succ, Act.put, List.setIfInBounds_toArray, List.set_cons_zero, List.set_cons_succ]
                    refine wpAnyH_take (i := 1) (v := ?vv1_4) rfl (by kernel_rfl) (by kernel_rfl) (by kernel_rfl) (fun _ _ _ h => h) (Or.inl ⟨by rfl, ?hy1_4⟩) (by assumption) ?rest1_4
                    case hy1_4 => (intro w' hSw; (try dsimp only at hSw); go_simp; try with_reducible rfl)
                    try simp only [List.getElem_toArray, List.getElem_cons_zero, List.getElem_cons_succ, Act.put, List.setIfInBounds_toArray, List.set_cons_zero, List.set_cons_succ]
                    refine wpAnyH_take (i := 2) (v := .int .i64 E.a) rfl (by kernel_rfl) (by kernel_rfl) (by kernel_rfl) (fun _ _ _ h => h) (Or.inl ⟨by rfl, fun w' hSw => exec_load1 w' rfl rfl (cellAt hSw 1) Try.underlying3 rfl⟩) (by assumption) ?_
                    try simp only [List.getElem_toArray, List.getElem_cons_zero, List.getElem_cons_succ, Act.put, List.setIfInBounds_toArray, List.set_cons_zero, List.set_cons_succ]
                    refine wpAnyH_take (i := 3) (v := .agg (stC E)) rfl (by kernel_rfl) (by kernel_rfl) (by kernel_rfl) (fun _ _ _ h => h) (Or.inl ⟨by rfl, fun w' hSw => exec_load_row w' rfl rfl hSw Try.underlying48 rfl stC_size⟩) (by assumption) ?_
                    try simp only [List.getElem_toArray, List.getElem_cons_zero, List.getElem_cons_succ, Act.put, List.setIfInBounds_toArray, List.set_cons_zero, List.set_cons_succ]
                    refine wpAnyH_ready (rs := [4]) (by kernel_rfl) (by simp) ?_
                    refine AllReadyH.cons rfl (fun K hK => ?_) AllReadyH.nil
                    go_simp
                    refine (CB.out _).mono ?_
                    rintro e wa ⟨rfl, hb1⟩
                    (try go_wp2_with fail)
                    refine hK.out _ _ ((hb1.block gx (lt_of_blk hHeld)).trans hHeld) (fun hHeld => ?_)
                    clear hK K
                    try simp only [List.getElem_toArray, List.getElem_cons_zero, List.getElem_cons_succ, Act.put, List.setIfInBounds_toArray, List.set_cons_zero, List.set_cons_succ]
                    have K1 := Lib.hid (HY.out.drew.step hb1)
                    refine wpAnyH_ready (rs := [5]) (by kernel_rfl) (by simp) ?_
                    refine AllReadyH.cons rfl (fun K hK => ?_) AllReadyH.nil
                    go_simp
                    refine (write_any (K1.out.get (i := 0) rfl) (by omega) E.a (stB E.odd E.y) (by have := stB_le E.odd E.y; omega)).mono ?_
                    rintro e wb ⟨he, hPb, hkb⟩
                    rw [hE] at he; subst he
                    (try go_wp2_with fail)
                    refine hK.out _ _ ((hkb.block gx (lt_of_blk hHeld) HNG.out).trans hHeld) (fun hHeld => ?_)
                    clear hK K
                    try simp only [List.getElem_toArray, List.getElem_cons_zero, List.getElem_cons_succ, Act.put, List.setIfInBounds_toArray, List.set_cons_zero, List.set_cons_succ]
                    have HZ := Lib.hid (K1.out.turnD 0 rfl hPb hkb)
                    have HBz := Lib.hid hHeld
                    refine wpAnyH_take (i := 6) (v := ?vv6_4) rfl (by kernel_rfl) (by kernel_rfl) (by kernel_rfl) (fun _ _ _ h => h) (Or.inl ⟨by rfl, ?hy6_4⟩) (by assumption) ?rest6_4
                    case hy6_4 => (intro w' hSw; (try dsimp only at hSw); go_simp; try with_reducible rfl)
                    try simp only [List.getElem_toArray, List.getElem_cons_zero, List.getElem_cons_succ, Act.put, List.setIfInBounds_toArray, List.set_cons_zero, List.set_cons_succ]
                    refine wpAnyH_done (by kernel_rfl) ?_ _
                    clear hHeld
                    clear hE
                    go_wp2_with fail
                    refine wp_region_held_drew (S := fun W => W.heap[gx]? = some (.cells (stC E) 48 (0, 0))) (by kernel_rfl) HBz.out (fun hHeld => ?_)
                    refine wpAnyH_take (i := 0) (v := ?vv0_6) rfl (by kernel_rfl) (by kernel_rfl) (by kernel_rfl) (fun _ _ _ h => h) (Or.inl ⟨by rfl, ?hy0_6⟩) (by assumption) ?rest0_6
                    case hy0_6 => (intro w' hSw; (try dsimp only at hSw); go_simp; try with_reducible rfl)
                    try simp only [List.getElem_toArray, List.getElem_cons_zero, List.getElem_cons_succ, Act.put, List.setIfInBounds_toArray, List.set_cons_zero, List.set_cons_succ]
                    refine wpAnyH_take (i := 1) (v := ?vv1_6) rfl (by kernel_rfl) (by kernel_rfl) (by kernel_rfl) (fun _ _ _ h => h) (Or.inl ⟨by rfl, ?hy1_6⟩) (by assumption) ?rest1_6
                    case hy1_6 => (intro w' hSw; (try dsimp only at hSw); go_simp; try with_reducible rfl)
                    try simp only [List.getElem_toArray, List.getElem_cons_zero, List.getElem_cons_succ, Act.put, List.setIfInBounds_toArray, List.set_cons_zero, List.set_cons_succ]
                    refine wpAnyH_take (i := 2) (v := .int .i64 (i : Int)) rfl (by kernel_rfl) (by kernel_rfl) (by kernel_rfl) (fun _ _ _ h => h) (Or.inl ⟨by rfl, fun w' hSw => exec_load1 w' rfl rfl ((cellAt hSw 1).trans HAi.out) Try.underlying3 rfl⟩) (by assumption) ?_
                    try simp only [List.getElem_toArray, List.getElem_cons_zero, List.getElem_cons_succ, Act.put, List.setIfInBounds_toArray, List.set_cons_zero, List.set_cons_succ]
                    refine wpAnyH_take (i := 3) (v := .agg (stC E)) rfl (by kernel_rfl) (by kernel_rfl) (by kernel_rfl) (fun _ _ _ h => h) (Or.inl ⟨by rfl, fun w' hSw => exec_load_row w' rfl rfl hSw Try.underlying48 rfl stC_size⟩) (by assumption) ?_
                    try simp only [List.getElem_toArray, List.getElem_cons_zero, List.getElem_cons_succ, Act.put, List.setIfInBounds_toArray, List.set_cons_zero, List.set_cons_succ]
                    refine wpAnyH_ready (rs := [4]) (by kernel_rfl) (by simp) ?_
                    refine AllReadyH.cons rfl (fun K hK => ?_) AllReadyH.nil
                    go_simp
                    refine (CB.out _).mono ?_
                    rintro e wc ⟨rfl, hb2⟩
                    (try go_wp2_with fail)
                    refine hK.out _ _ ((hb2.block gx (lt_of_blk hHeld)).trans hHeld) (fun hHeld => ?_)
                    clear hK K
                    try simp only [List.getElem_toArray, List.getElem_cons_zero, List.getElem_cons_succ, Act.put, List.setIfInBounds_toArray, List.set_cons_zero, List.set_cons_succ]
                    have K3 := Lib.hid (HZ.out.drew.step hb2)
                    obtain ⟨hxc, hxf⟩ := (K3.out.get (i := 2) rfl : XR wc 9 g2 c2 (txs S.now)).cell (j := i) (by rw [txs_length, HSN.out]; exact hik)
                    refine wpAnyH_take (i := 5) (v := ?vv5_6) rfl (by kernel_rfl) (by kernel_rfl) (by kernel_rfl) (fun _ _ _ h => h) (Or.inl ⟨by rfl, ?hy5_6⟩) (by assumption) ?rest5_6
                    case hy5_6 => (intro w' hSw; (try dsimp only at hSw); go_simp; try with_reducible rfl)
                    try simp only [List.getElem_toArray, List.getElem_cons_zero, List.getElem_cons_succ, Act.put, List.setIfInBounds_toArray, List.set_cons_zero, List.set_cons_succ]
                    refine wpAnyH_ready (rs := [6]) (by kernel_rfl) (by simp) ?_
                    refine AllReadyH.cons rfl (fun K hK => ?_) AllReadyH.nil
                    go_simp
                    refine hK.out _ _ (((((Kp.refl [g2] wc).setCell (by simp) _).block gx (lt_of_blk hHeld) HNG2.out)).trans hHeld) (fun hHeld => ?_)
                    clear hK K
                    try simp only [List.getElem_toArray, List.getElem_cons_zero, List.getElem_cons_succ, Act.put, List.setIfInBounds_toArray, List.set_cons_zero, List.set_cons_succ]
                    refine wpAnyH_done (by kernel_rfl) ?_ _
                    clear hHeld
                    have HQ := Lib.hid (show Obs w (wc.setCell ⟨g2, i, none⟩ (sv (stB E.odd E.y))) [pdOb p bl bd T, xOb 9 g1 c1 (txs T.was), xOb 9 g2 c2 (txs T.now), xOb 48 g4 cp (flatS (rowS l))] from by
                      have h := K3.out.setX 2 rfl (j := i) (by rw [txs_length, HSN.out]; exact hik) (sv (stB E.odd E.y))
                      rw [txs_set, ← HT1.out.2, HT2.out, ← HT1.out.1] at h
                      exact h)
                    clear hxc hxf HZ K1 K3 HBz hPb hkb hb1 hb2 hiki hi0
                    go_wp2_with fail
                    go_loopw [17] (fun jx W => ∃ j : Nat, jx = .int .i64 (j : Int) ∧ j ≤ k ∧ Obs w W [pdOb p bl bd T, xOb 9 g1 c1 (txs T.was), xOb 9 g2 c2 (txs T.now), xOb 48 g4 cp (flatS (rowS l))]) (fun jx _ => k - (RowKit.intOf jx).toNat)
                    case atStart => exact ⟨0, rfl, by omega, HQ.out⟩
                    case round =>
                      clear HQ
                      obtain ⟨j, rfl, hjk, hO⟩ := hrel
                      have HO := Lib.hid hO
                      by_cases hj : j < k
                      · have hji : (j : Int) < (k : Int) := by omega
                        have hj0 : (0 : Int) ≤ (j : Int) := by omega
                        have hjw : IntKind.i64.wrap ((j : Int) + 1) = (j : Int) + 1 := IntWalk.i64_in _ (by omega)
                        have CO2 := Lib.hid (on_o hO 0 rfl)
                        have CI2 := Lib.hid (fun W (h : Obs w W [pdOb p bl bd T, xOb 9 g1 c1 (txs T.was), xOb 9 g2 c2 (txs T.now), xOb 48 g4 cp (flatS (rowS l))]) => is_o h 0 rfl (j : Int) (T.now.getD j []))
                        cases ho : T.off with
                        | true =>
                          rw [ho] at CO2
                          clear hO CI2 ho
                          go_wp2_with (go_at_call 15; refine CO2.out.mono ?_; rintro e z1 ⟨rfl, h1⟩; have HO2 := Lib.hid h1; clear h1)
                          go_roundw
                          case rel => exact ⟨m + 1, T, g1, c1, g2, c2, by go_num, rfl, rfl, by omega, HO2.out, HTL.out, by have := HTO.out; omega, HTK.out⟩
                          case measure => simp [RowKit.intOf]; omega
                        | false =>
                          rw [ho] at CO2
                          have HIS := Lib.hid (isD_now HTOK.out ho (show j < T.was.length by rw [HTL.out]; exact hj))
                          clear hO ho
                          go_wp2_with (first
                            | (go_at_call 15; refine CO2.out.mono ?_; rintro e z1 ⟨rfl, h1⟩; have HO2 := Lib.hid h1; clear h1; have hcn := ((HO2.out.get (i := 2) rfl : XR z1 9 g2 c2 (txs T.now)).cell (j := j) (by rw [txs_length, HTN.out]; exact hj)).1; rw [txs_getD (by rw [HTN.out]; exact hj)] at hcn)
                            | (go_at_call 21; refine (CI2.out _ HO2.out).mono ?_; rintro e z2 ⟨he, h1⟩; rw [HIS.out] at he; subst he; have HO3 := Lib.hid h1; clear h1 hcn))
                          go_roundw
                          case rel => exact ⟨j + 1, by go_num, by omega, HO3.out⟩
                          case measure => simp [RowKit.intOf]; omega
                      · have hji : ¬ (j : Int) < (k : Int) := by omega
                        clear hO
                        go_wp2_with fail
                        go_roundw
                        case rel => exact ⟨m + 1, T, g1, c1, g2, c2, by go_num, rfl, rfl, by omega, HO.out, HTL.out, by have := HTO.out; omega, HTK.out⟩
                        case measure => simp [RowKit.intOf]; omega
                  · obtain ⟨x, hxx⟩ : ∃ x, S.wrE E.a (stB E.odd E.y) = x := ⟨_, rfl⟩
                    have hx0 : (x == 0) = false := by rw [beq_eq_false_iff_ne, ← hxx]; exact hne
                    obtain ⟨T, hT⟩ : ∃ T, T = S.step E := ⟨_, rfl⟩
                    rw [← hT] at HKS HSL HSO
                    have HTK := Lib.hid (show KE ln (m + 1) T by rw [← HLN.out]; exact HKS.out)
                    have HTL := Lib.hid (show T.was.length = k from HSL.out.1.trans HLE.out)
                    have HTO := Lib.hid (show T.ops ≤ S.ops + 1 from HSL.out.2)
                    have HTOK := HSO
                    have HTN := Lib.hid (show T.now.length = k by rw [HSO.out.hn]; exact HTL.out)
                    have HTT := Lib.hid hT
                    clear hT HKS HSL HSO
                    have HT1 := Lib.hid (show T = S by rw [HTT.out, HST.out, hwr])
                    have HT2 := Lib.hid (show S.wr E.a (stB E.odd E.y) = S from hwr)
                    have HXX := Lib.hid hxx
                    clear hwr hne hxx
                    go_wp2_with fail
                    have hxx := HXX.out
                    refine wp_region_held_drew (S := fun W => W.heap[gx]? = some (.cells (stC E) 48 (0, 0))) (by kernel_rfl) HBx.out (fun hHeld => ?_)
                    refine wpAnyH_take (i := 0) (v := ?vv0_5) rfl (by kernel_rfl) (by kernel_rfl) (by kernel_rfl) (fun _ _ _ h => h) (Or.inl ⟨by rfl, ?hy0_5⟩) (by assumption) ?rest0_5
                    case hy0_5 => (intro w' hSw; (try dsimp only at hSw); go_simp; try with_reducible rfl)
                    try simp only [List.getElem_toArray, List.getElem_cons_zero, List.getElem_cons_succ, Act.put, List.setIfInBounds_toArray, List.set_cons_zero, List.set_cons_succ]
                    refine wpAnyH_take (i := 1) (v := ?vv1_5) rfl (by kernel_rfl) (by kernel_rfl) (by kernel_rfl) (fun _ _ _ h => h) (Or.inl ⟨by rfl, ?hy1_5⟩) (by assumption) ?rest1_5
                    case hy1_5 => (intro w' hSw; (try dsimp only at hSw); go_simp; try with_reducible rfl)
                    try simp only [List.getElem_toArray, List.getElem_cons_zero, List.getElem_cons_succ, Act.put, List.setIfInBounds_toArray, List.set_cons_zero, List.set_cons_succ]
                    refine wpAnyH_take (i := 2) (v := .int .i64 E.a) rfl (by kernel_rfl) (by kernel_rfl) (by kernel_rfl) (fun _ _ _ h => h) (Or.inl ⟨by rfl, fun w' hSw => exec_load1 w' rfl rfl (cellAt hSw 1) Try.underlying3 rfl⟩) (by assumption) ?_
                    try simp only [List.getElem_toArray, List.getElem_cons_zero, List.getElem_cons_succ, Act.put, List.setIfInBounds_toArray, List.set_cons_zero, List.set_cons_succ]
                    refine wpAnyH_take (i := 3) (v := .agg (stC E)) rfl (by kernel_rfl) (by kernel_rfl) (by kernel_rfl) (fun _ _ _ h => h) (Or.inl ⟨by rfl, fun w' hSw => exec_load_row w' rfl rfl hSw Try.underlying48 rfl stC_size⟩) (by assumption) ?_
                    try simp only [List.getElem_toArray, List.getElem_cons_zero, List.getElem_cons_succ, Act.put, List.setIfInBounds_toArray, List.set_cons_zero, List.set_cons_succ]
                    refine wpAnyH_ready (rs := [4]) (by kernel_rfl) (by simp) ?_
                    refine AllReadyH.cons rfl (fun K hK => ?_) AllReadyH.nil
                    go_simp
                    refine (CB.out _).mono ?_
                    rintro e wa ⟨rfl, hb1⟩
                    (try go_wp2_with fail)
                    refine hK.out _ _ ((hb1.block gx (lt_of_blk hHeld)).trans hHeld) (fun hHeld => ?_)
                    clear hK K
                    try simp only [List.getElem_toArray, List.getElem_cons_zero, List.getElem_cons_succ, Act.put, List.setIfInBounds_toArray, List.set_cons_zero, List.set_cons_succ]
                    have K1 := Lib.hid (HY.out.drew.step hb1)
                    refine wpAnyH_ready (rs := [5]) (by kernel_rfl) (by simp) ?_
                    refine AllReadyH.cons rfl (fun K hK => ?_) AllReadyH.nil
                    go_simp
                    refine (write_any (K1.out.get (i := 0) rfl) (by omega) E.a (stB E.odd E.y) (by have := stB_le E.odd E.y; omega)).mono ?_
                    rintro e wb ⟨he, hPb, hkb⟩
                    rw [hxx] at he; subst he
                    (try go_wp2_with fail)
                    refine hK.out _ _ ((hkb.block gx (lt_of_blk hHeld) HNG.out).trans hHeld) (fun hHeld => ?_)
                    clear hK K
                    try simp only [List.getElem_toArray, List.getElem_cons_zero, List.getElem_cons_succ, Act.put, List.setIfInBounds_toArray, List.set_cons_zero, List.set_cons_succ]
                    have HZ := Lib.hid (K1.out.turnD 0 rfl hPb hkb)
                    have HBz := Lib.hid hHeld
                    refine wpAnyH_take (i := 6) (v := ?vv6_5) rfl (by kernel_rfl) (by kernel_rfl) (by kernel_rfl) (fun _ _ _ h => h) (Or.inl ⟨by rfl, ?hy6_5⟩) (by assumption) ?rest6_5
                    case hy6_5 => (intro w' hSw; (try dsimp only at hSw); go_simp; try with_reducible rfl)
                    try simp only [List.getElem_toArray, List.getElem_cons_zero, List.getElem_cons_succ, Act.put, List.setIfInBounds_toArray, List.set_cons_zero, List.set_cons_succ]
                    refine wpAnyH_done (by kernel_rfl) ?_ _
                    clear hHeld
                    clear hxx
                    have HQ := Lib.hid (show Obs w wb [pdOb p bl bd T, xOb 9 g1 c1 (txs T.was), xOb 9 g2 c2 (txs T.now), xOb 48 g4 cp (flatS (rowS l))] from by
                      have h := HZ.out
                      rw [HT2.out] at h
                      rw [HT1.out]; exact h)
                    clear HZ K1 HBz hPb hkb hb1
                    go_wp2_with fail
                    go_loopw [17] (fun jx W => ∃ j : Nat, jx = .int .i64 (j : Int) ∧ j ≤ k ∧ Obs w W [pdOb p bl bd T, xOb 9 g1 c1 (txs T.was), xOb 9 g2 c2 (txs T.now), xOb 48 g4 cp (flatS (rowS l))]) (fun jx _ => k - (RowKit.intOf jx).toNat)
                    case atStart => exact ⟨0, rfl, by omega, HQ.out⟩
                    case round =>
                      clear HQ
                      obtain ⟨j, rfl, hjk, hO⟩ := hrel
                      have HO := Lib.hid hO
                      by_cases hj : j < k
                      · have hji : (j : Int) < (k : Int) := by omega
                        have hj0 : (0 : Int) ≤ (j : Int) := by omega
                        have hjw : IntKind.i64.wrap ((j : Int) + 1) = (j : Int) + 1 := IntWalk.i64_in _ (by omega)
                        have CO2 := Lib.hid (on_o hO 0 rfl)
                        have CI2 := Lib.hid (fun W (h : Obs w W [pdOb p bl bd T, xOb 9 g1 c1 (txs T.was), xOb 9 g2 c2 (txs T.now), xOb 48 g4 cp (flatS (rowS l))]) => is_o h 0 rfl (j : Int) (T.now.getD j []))
                        cases ho : T.off with
                        | true =>
                          rw [ho] at CO2
                          clear hO CI2 ho
                          go_wp2_with (go_at_call 15; refine CO2.out.mono ?_; rintro e z1 ⟨rfl, h1⟩; have HO2 := Lib.hid h1; clear h1)
                          go_roundw
                          case rel => exact ⟨m + 1, T, g1, c1, g2, c2, by go_num, rfl, rfl, by omega, HO2.out, HTL.out, by have := HTO.out; omega, HTK.out⟩
                          case measure => simp [RowKit.intOf]; omega
                        | false =>
                          rw [ho] at CO2
                          have HIS := Lib.hid (isD_now HTOK.out ho (show j < T.was.length by rw [HTL.out]; exact hj))
                          clear hO ho
                          go_wp2_with (first
                            | (go_at_call 15; refine CO2.out.mono ?_; rintro e z1 ⟨rfl, h1⟩; have HO2 := Lib.hid h1; clear h1; have hcn := ((HO2.out.get (i := 2) rfl : XR z1 9 g2 c2 (txs T.now)).cell (j := j) (by rw [txs_length, HTN.out]; exact hj)).1; rw [txs_getD (by rw [HTN.out]; exact hj)] at hcn)
                            | (go_at_call 21; refine (CI2.out _ HO2.out).mono ?_; rintro e z2 ⟨he, h1⟩; rw [HIS.out] at he; subst he; have HO3 := Lib.hid h1; clear h1 hcn))
                          go_roundw
                          case rel => exact ⟨j + 1, by go_num, by omega, HO3.out⟩
                          case measure => simp [RowKit.intOf]; omega
                      · have hji : ¬ (j : Int) < (k : Int) := by omega
                        clear hO
                        go_wp2_with fail
                        go_roundw
                        case rel => exact ⟨m + 1, T, g1, c1, g2, c2, by go_num, rfl, rfl, by omega, HO.out, HTL.out, by have := HTO.out; omega, HTK.out⟩
                        case measure => simp [RowKit.intOf]; omega
              by_cases h1 : E.wh = 1
              · as_aux_lemma =>
                  have HW := Lib.hid h1
                  clear h0 h1
                  go_upto_region 22 with (go_at_call 15; refine CON.out.mono ?_; rintro e y ⟨rfl, hb1⟩; have H14 := Lib.hid (H13.out.step hb1); have HB14 := Lib.hid ((hb1.block _ (lt_of_blk HBX.out)).trans HBX.out); clear hb1)
                  have HY := H14
                  have HBx := HB14
                  clear H13 H14 HB14 HBX CON hA1 hA2
                  have c0 : y.cell? ⟨gx, 0, none⟩ = some (.int .u8 1) := by
                    rw [cellAt HBx.out 0]; show some (Value.int .u8 (E.wh.toNat : Int)) = _; rw [HW.out]; rfl
                  have HNG := Lib.hid (show gx ∉ [p, bl, bd] from HGF.out 0 _ rfl)
                  have HNG2 := Lib.hid (show gx ∉ [g2] from HGF.out 2 _ rfl)
                  have HST := Lib.hid (show S.step E = S.sync by unfold DS.step; rw [if_neg (by rw [HW.out]; decide), if_pos HW.out])
                  have HSN := Lib.hid (show S.now.length = k by rw [HOK.out.hn]; exact HLE.out)
                  obtain ⟨T, hT⟩ : ∃ T, T = S.step E := ⟨_, rfl⟩
                  rw [← hT] at HKS HSL HSO
                  have HTK := Lib.hid (show KE ln (m + 1) T by rw [← HLN.out]; exact HKS.out)
                  have HTL := Lib.hid (show T.was.length = k from HSL.out.1.trans HLE.out)
                  have HTO := Lib.hid (show T.ops ≤ S.ops + 1 from HSL.out.2)
                  have HTOK := HSO
                  have HTN := Lib.hid (show T.now.length = k by rw [HSO.out.hn]; exact HTL.out)
                  have HTT := Lib.hid hT
                  clear hT HKS HSL HSO
                  have CSY := Lib.hid (sync_o HY.out 0 rfl (by omega))
                  cases ho : S.off with
                  | true =>
                    have hoe : S.offE = 42 := by unfold DS.offE; rw [ho]; rfl
                    have HT1 := Lib.hid (show T = S by rw [HTT.out, HST.out]; unfold DS.sync; rw [if_pos ho])
                    have HT2 := Lib.hid (show S.sync = S by unfold DS.sync; rw [if_pos ho])
                    rw [hoe] at CSY
                    clear ho hoe
                    go_wp2_with (go_at_call 13; refine CSY.out.mono ?_; rintro e yb ⟨rfl, h1⟩; have HZ := Lib.hid h1; clear h1)
                    have HQ := Lib.hid (show Obs w yb [pdOb p bl bd T, xOb 9 g1 c1 (txs T.was), xOb 9 g2 c2 (txs T.now), xOb 48 g4 cp (flatS (rowS l))] from by
                      have h := HZ.out
                      rw [HT2.out] at h
                      rw [HT1.out]; exact h)
                    go_wp2_with fail
                    go_loopw [17] (fun jx W => ∃ j : Nat, jx = .int .i64 (j : Int) ∧ j ≤ k ∧ Obs w W [pdOb p bl bd T, xOb 9 g1 c1 (txs T.was), xOb 9 g2 c2 (txs T.now), xOb 48 g4 cp (flatS (rowS l))]) (fun jx _ => k - (RowKit.intOf jx).toNat)
                    case atStart => exact ⟨0, rfl, by omega, HQ.out⟩
                    case round =>
                      clear HQ
                      obtain ⟨j, rfl, hjk, hO⟩ := hrel
                      have HO := Lib.hid hO
                      by_cases hj : j < k
                      · have hji : (j : Int) < (k : Int) := by omega
                        have hj0 : (0 : Int) ≤ (j : Int) := by omega
                        have hjw : IntKind.i64.wrap ((j : Int) + 1) = (j : Int) + 1 := IntWalk.i64_in _ (by omega)
                        have CO2 := Lib.hid (on_o hO 0 rfl)
                        have CI2 := Lib.hid (fun W (h : Obs w W [pdOb p bl bd T, xOb 9 g1 c1 (txs T.was), xOb 9 g2 c2 (txs T.now), xOb 48 g4 cp (flatS (rowS l))]) => is_o h 0 rfl (j : Int) (T.now.getD j []))
                        cases ho : T.off with
                        | true =>
                          rw [ho] at CO2
                          clear hO CI2 ho
                          go_wp2_with (go_at_call 15; refine CO2.out.mono ?_; rintro e z1 ⟨rfl, h1⟩; have HO2 := Lib.hid h1; clear h1)
                          go_roundw
                          case rel => exact ⟨m + 1, T, g1, c1, g2, c2, by go_num, rfl, rfl, by omega, HO2.out, HTL.out, by have := HTO.out; omega, HTK.out⟩
                          case measure => simp [RowKit.intOf]; omega
                        | false =>
                          rw [ho] at CO2
                          have HIS := Lib.hid (isD_now HTOK.out ho (show j < T.was.length by rw [HTL.out]; exact hj))
                          clear hO ho
                          go_wp2_with (first
                            | (go_at_call 15; refine CO2.out.mono ?_; rintro e z1 ⟨rfl, h1⟩; have HO2 := Lib.hid h1; clear h1; have hcn := ((HO2.out.get (i := 2) rfl : XR z1 9 g2 c2 (txs T.now)).cell (j := j) (by rw [txs_length, HTN.out]; exact hj)).1; rw [txs_getD (by rw [HTN.out]; exact hj)] at hcn)
                            | (go_at_call 21; refine (CI2.out _ HO2.out).mono ?_; rintro e z2 ⟨he, h1⟩; rw [HIS.out] at he; subst he; have HO3 := Lib.hid h1; clear h1 hcn))
                          go_roundw
                          case rel => exact ⟨j + 1, by go_num, by omega, HO3.out⟩
                          case measure => simp [RowKit.intOf]; omega
                      · have hji : ¬ (j : Int) < (k : Int) := by omega
                        clear hO
                        go_wp2_with fail
                        go_roundw
                        case rel => exact ⟨m + 1, T, g1, c1, g2, c2, by go_num, rfl, rfl, by omega, HO.out, HTL.out, by have := HTO.out; omega, HTK.out⟩
                        case measure => simp [RowKit.intOf]; omega
                  | false =>
                    have hoe : S.offE = 0 := by unfold DS.offE; rw [ho]; rfl
                    have HT2 := Lib.hid (show S.sync = T by rw [HTT.out, HST.out])
                    have HT1 := Lib.hid (show T.was = S.now ∧ T.now = S.now by rw [HTT.out, HST.out]; exact sync_rows HOK.out ho)
                    rw [hoe] at CSY
                    clear ho hoe
                    go_wp2_with (first
                      | (go_at_call 13; refine CSY.out.mono ?_; rintro e yb ⟨rfl, h1⟩; have HZ := Lib.hid h1; clear h1)
                      | (at_builtin; obtain ⟨g3, c3', yc, hrc, hxc, hbc, hgc⟩ := fresh_text (n := k) (c := c2) yb (HZ.out.get (i := 2) rfl : XR yb 9 g2 c2 (txs S.now)) HSN.out.symm (by omega) (by omega); refine wpList_builtin2_run _ rfl .append Builtin.append_ _ _ _ _ rfl (fun _ _ _ => rfl) _ _ rfl rfl hrc ?_; have HQ0 := Lib.hid (HZ.out.swapX 1 rfl hxc hbc hgc); clear hrc hxc hbc hgc))
                    have HQ := Lib.hid (show Obs w yc [pdOb p bl bd T, xOb 9 g3 c3' (txs T.was), xOb 9 g2 c2 (txs T.now), xOb 48 g4 cp (flatS (rowS l))] from by
                      have h := HQ0.out
                      rw [HT2.out] at h
                      rw [HT1.out.1, HT1.out.2]; exact h)
                    go_wp2_with fail
                    go_loopw [17] (fun jx W => ∃ j : Nat, jx = .int .i64 (j : Int) ∧ j ≤ k ∧ Obs w W [pdOb p bl bd T, xOb 9 g3 c3' (txs T.was), xOb 9 g2 c2 (txs T.now), xOb 48 g4 cp (flatS (rowS l))]) (fun jx _ => k - (RowKit.intOf jx).toNat)
                    case atStart => exact ⟨0, rfl, by omega, HQ.out⟩
                    case round =>
                      clear HQ
                      obtain ⟨j, rfl, hjk, hO⟩ := hrel
                      have HO := Lib.hid hO
                      by_cases hj : j < k
                      · have hji : (j : Int) < (k : Int) := by omega
                        have hj0 : (0 : Int) ≤ (j : Int) := by omega
                        have hjw : IntKind.i64.wrap ((j : Int) + 1) = (j : Int) + 1 := IntWalk.i64_in _ (by omega)
                        have CO2 := Lib.hid (on_o hO 0 rfl)
                        have CI2 := Lib.hid (fun W (h : Obs w W [pdOb p bl bd T, xOb 9 g3 c3' (txs T.was), xOb 9 g2 c2 (txs T.now), xOb 48 g4 cp (flatS (rowS l))]) => is_o h 0 rfl (j : Int) (T.now.getD j []))
                        cases ho : T.off with
                        | true =>
                          rw [ho] at CO2
                          clear hO CI2 ho
                          go_wp2_with (go_at_call 15; refine CO2.out.mono ?_; rintro e z1 ⟨rfl, h1⟩; have HO2 := Lib.hid h1; clear h1)
                          go_roundw
                          case rel => exact ⟨m + 1, T, g3, c3', g2, c2, by go_num, rfl, rfl, by omega, HO2.out, HTL.out, by have := HTO.out; omega, HTK.out⟩
                          case measure => simp [RowKit.intOf]; omega
                        | false =>
                          rw [ho] at CO2
                          have HIS := Lib.hid (isD_now HTOK.out ho (show j < T.was.length by rw [HTL.out]; exact hj))
                          clear hO ho
                          go_wp2_with (first
                            | (go_at_call 15; refine CO2.out.mono ?_; rintro e z1 ⟨rfl, h1⟩; have HO2 := Lib.hid h1; clear h1; have hcn := ((HO2.out.get (i := 2) rfl : XR z1 9 g2 c2 (txs T.now)).cell (j := j) (by rw [txs_length, HTN.out]; exact hj)).1; rw [txs_getD (by rw [HTN.out]; exact hj)] at hcn)
                            | (go_at_call 21; refine (CI2.out _ HO2.out).mono ?_; rintro e z2 ⟨he, h1⟩; rw [HIS.out] at he; subst he; have HO3 := Lib.hid h1; clear h1 hcn))
                          go_roundw
                          case rel => exact ⟨j + 1, by go_num, by omega, HO3.out⟩
                          case measure => simp [RowKit.intOf]; omega
                      · have hji : ¬ (j : Int) < (k : Int) := by omega
                        clear hO
                        go_wp2_with fail
                        go_roundw
                        case rel => exact ⟨m + 1, T, g3, c3', g2, c2, by go_num, rfl, rfl, by omega, HO.out, HTL.out, by have := HTO.out; omega, HTK.out⟩
                        case measure => simp [RowKit.intOf]; omega
              by_cases h2 : E.wh = 2
              · as_aux_lemma =>
                  have HW := Lib.hid h2
                  clear h0 h1 h2
                  go_upto_region 22 with (go_at_call 15; refine CON.out.mono ?_; rintro e y ⟨rfl, hb1⟩; have H14 := Lib.hid (H13.out.step hb1); have HB14 := Lib.hid ((hb1.block _ (lt_of_blk HBX.out)).trans HBX.out); clear hb1)
                  have HY := H14
                  have HBx := HB14
                  clear H13 H14 HB14 HBX CON hA1 hA2
                  have c0 : y.cell? ⟨gx, 0, none⟩ = some (.int .u8 2) := by
                    rw [cellAt HBx.out 0]; show some (Value.int .u8 (E.wh.toNat : Int)) = _; rw [HW.out]; rfl
                  have HNG := Lib.hid (show gx ∉ [p, bl, bd] from HGF.out 0 _ rfl)
                  have HNG2 := Lib.hid (show gx ∉ [g2] from HGF.out 2 _ rfl)
                  have HST := Lib.hid (show S.step E = S.fail E.a by unfold DS.step; rw [if_neg (by rw [HW.out]; decide), if_neg (by rw [HW.out]; decide), if_pos HW.out])
                  obtain ⟨T, hT⟩ : ∃ T, T = S.step E := ⟨_, rfl⟩
                  rw [← hT] at HKS HSL HSO
                  have HTK := Lib.hid (show KE ln (m + 1) T by rw [← HLN.out]; exact HKS.out)
                  have HTL := Lib.hid (show T.was.length = k from HSL.out.1.trans HLE.out)
                  have HTO := Lib.hid (show T.ops ≤ S.ops + 1 from HSL.out.2)
                  have HTOK := HSO
                  have HTN := Lib.hid (show T.now.length = k by rw [HSO.out.hn]; exact HTL.out)
                  have HTT := Lib.hid hT
                  clear hT HKS HSL HSO
                  have CSY := Lib.hid (fail_o HY.out 0 rfl (HEFF.out.2 w (Below.refl _ _)).1.a)
                  have HT1 := Lib.hid (show S.fail E.a = T by rw [HTT.out, HST.out])
                  have HT2 := Lib.hid (show T.was = S.was ∧ T.now = S.now by rw [HTT.out, HST.out]; exact ⟨rfl, rfl⟩)
                  have c1x : y.cell? ⟨gx, 1, none⟩ = some (.int .i64 E.a) := cellAt HBx.out 1
                  go_wp2_with (go_at_call 8; refine CSY.out.mono ?_; rintro e yb ⟨rfl, h1⟩; have HZ := Lib.hid h1; clear h1)
                  clear c1x
                  have HQ := Lib.hid (show Obs w yb [pdOb p bl bd T, xOb 9 g1 c1 (txs T.was), xOb 9 g2 c2 (txs T.now), xOb 48 g4 cp (flatS (rowS l))] from by
                    have h := HZ.out
                    rw [HT1.out] at h
                    rw [HT2.out.1, HT2.out.2]; exact h)
                  go_wp2_with fail
                  go_loopw [17] (fun jx W => ∃ j : Nat, jx = .int .i64 (j : Int) ∧ j ≤ k ∧ Obs w W [pdOb p bl bd T, xOb 9 g1 c1 (txs T.was), xOb 9 g2 c2 (txs T.now), xOb 48 g4 cp (flatS (rowS l))]) (fun jx _ => k - (RowKit.intOf jx).toNat)
                  case atStart => exact ⟨0, rfl, by omega, HQ.out⟩
                  case round =>
                    clear HQ
                    obtain ⟨j, rfl, hjk, hO⟩ := hrel
                    have HO := Lib.hid hO
                    by_cases hj : j < k
                    · have hji : (j : Int) < (k : Int) := by omega
                      have hj0 : (0 : Int) ≤ (j : Int) := by omega
                      have hjw : IntKind.i64.wrap ((j : Int) + 1) = (j : Int) + 1 := IntWalk.i64_in _ (by omega)
                      have CO2 := Lib.hid (on_o hO 0 rfl)
                      have CI2 := Lib.hid (fun W (h : Obs w W [pdOb p bl bd T, xOb 9 g1 c1 (txs T.was), xOb 9 g2 c2 (txs T.now), xOb 48 g4 cp (flatS (rowS l))]) => is_o h 0 rfl (j : Int) (T.now.getD j []))
                      cases ho : T.off with
                      | true =>
                        rw [ho] at CO2
                        clear hO CI2 ho
                        go_wp2_with (go_at_call 15; refine CO2.out.mono ?_; rintro e z1 ⟨rfl, h1⟩; have HO2 := Lib.hid h1; clear h1)
                        go_roundw
                        case rel => exact ⟨m + 1, T, g1, c1, g2, c2, by go_num, rfl, rfl, by omega, HO2.out, HTL.out, by have := HTO.out; omega, HTK.out⟩
                        case measure => simp [RowKit.intOf]; omega
                      | false =>
                        rw [ho] at CO2
                        have HIS := Lib.hid (isD_now HTOK.out ho (show j < T.was.length by rw [HTL.out]; exact hj))
                        clear hO ho
                        go_wp2_with (first
                          | (go_at_call 15; refine CO2.out.mono ?_; rintro e z1 ⟨rfl, h1⟩; have HO2 := Lib.hid h1; clear h1; have hcn := ((HO2.out.get (i := 2) rfl : XR z1 9 g2 c2 (txs T.now)).cell (j := j) (by rw [txs_length, HTN.out]; exact hj)).1; rw [txs_getD (by rw [HTN.out]; exact hj)] at hcn)
                          | (go_at_call 21; refine (CI2.out _ HO2.out).mono ?_; rintro e z2 ⟨he, h1⟩; rw [HIS.out] at he; subst he; have HO3 := Lib.hid h1; clear h1 hcn))
                        go_roundw
                        case rel => exact ⟨j + 1, by go_num, by omega, HO3.out⟩
                        case measure => simp [RowKit.intOf]; omega
                    · have hji : ¬ (j : Int) < (k : Int) := by omega
                      clear hO
                      go_wp2_with fail
                      go_roundw
                      case rel => exact ⟨m + 1, T, g1, c1, g2, c2, by go_num, rfl, rfl, by omega, HO.out, HTL.out, by have := HTO.out; omega, HTK.out⟩
                      case measure => simp [RowKit.intOf]; omega
              by_cases h3 : E.wh = 3
              · as_aux_lemma =>
                  have HW := Lib.hid h3
                  clear h0 h1 h2 h3
                  cases hof : S.off with
                  | true =>
                    rw [hof] at CON
                    have HOF := Lib.hid hof
                    clear hof
                    as_aux_lemma =>
                      go_upto_region 22 with (go_at_call 15; refine CON.out.mono ?_; rintro e y ⟨rfl, hb1⟩; have H14 := Lib.hid (H13.out.step hb1); have HB14 := Lib.hid ((hb1.block _ (lt_of_blk HBX.out)).trans HBX.out); clear hb1)
                      have HY := H14
                      have HBx := HB14
                      clear H13 H14 HB14 HBX CON hA1 hA2
                      have c0 : y.cell? ⟨gx, 0, none⟩ = some (.int .u8 3) := by
                        rw [cellAt HBx.out 0]; show some (Value.int .u8 (E.wh.toNat : Int)) = _; rw [HW.out]; rfl
                      have HNG := Lib.hid (show gx ∉ [p, bl, bd] from HGF.out 0 _ rfl)
                      have HNG2 := Lib.hid (show gx ∉ [g2] from HGF.out 2 _ rfl)
                      have HIR := Lib.hid (fun W (h : Below w.heap.size w W) => (HEFF.out.2 W h).1.ir)
                      have HKA := Lib.hid (show ∀ x, E.kA = some x → E.keep ≠ [] → x.block ∉ [p, bl, bd] from fun x hx hn hmem => by
                        have h1 := (HEFF.out.2 w (Below.refl _ _)).2 x hx hn
                        have h2 := ((HY.out.this 0 _ rfl).2.1 _ hmem).1
                        omega)
                      have HKL := Lib.hid (show E.keep.length ≤ 100000 by have := HEFF.out.1; omega)
                      have HST := Lib.hid (show S.step E = S.boot E.keep by unfold DS.step; rw [if_neg (by rw [HW.out]; decide), if_neg (by rw [HW.out]; decide), if_neg (by rw [HW.out]; decide), if_pos HW.out])
                      have HSN := Lib.hid (show S.now.length = k by rw [HOK.out.hn]; exact HLE.out)
                      obtain ⟨T, hT⟩ : ∃ T, T = S.step E := ⟨_, rfl⟩
                      rw [← hT] at HKS HSL HSO
                      have HTK := Lib.hid (show KE ln (m + 1) T by rw [← HLN.out]; exact HKS.out)
                      have HTL := Lib.hid (show T.was.length = k from HSL.out.1.trans HLE.out)
                      have HTO := Lib.hid (show T.ops ≤ S.ops + 1 from HSL.out.2)
                      have HTOK := HSO
                      have HTN := Lib.hid (show T.now.length = k by rw [HSO.out.hn]; exact HTL.out)
                      have HTT := Lib.hid hT
                      clear hT HKS HSL HSO
                      have CDI := Lib.hid (dirty_o HY.out 0 rfl)
                      have HBE := Lib.hid (show S.bootE = 0 by unfold DS.bootE; rw [HOF.out]; rfl)
                      have HT2 := Lib.hid (show S.boot E.keep = T by rw [← HST.out, ← HTT.out])
                      have HTF := Lib.hid (show T.off = false by rw [← HT2.out]; exact boot_off HOF.out _)
                      have HTC := Lib.hid (show T.now = T.was by rw [← HT2.out]; exact (boot_clean HOK.out HOF.out _).1)
                      have HKO := Lib.hid (show KeptOK T S.was S.now (dL S.wet) by rw [← HT2.out]; exact kept_ok HOK.out HOF.out _)
                      have HDL := Lib.hid (show (dL S.wet).length ≤ 1024 by rw [dL_length]; exact dirtyL_le HOK.out)
                      have CON3 := Lib.hid (fun W (h : Obs w W [pdOb p bl bd T, xOb 9 g1 c1 (txs S.was), xOb 9 g2 c2 (txs S.now), xOb 48 g4 cp (flatS (rowS l))]) => on_any (h.get (i := 0) rfl))
                      rw [HTF.out] at CON3
                      have CKF := Lib.hid (fun W A c (h : Obs w W [pdOb p bl bd T, xOb 9 g1 c1 (txs S.was), xOb 9 g2 c2 (txs S.now), xOb 48 g4 cp (flatS (rowS l))]) (hD : IR W A (dL S.wet)) => keptF_any (c := c) h 0 rfl 1 2 rfl rfl hD HDL.out HKO.out)
                      rw [HLE.out, HSN.out] at CKF
                      go_wp2_with (first
                        | (go_at_call 17; refine CDI.out.mono ?_; rintro e y2 ⟨A9, c9, rfl, hI9, hA9, hb⟩; have Y2 := Lib.hid (HY.out.step hb); have c4x : y2.cell? ⟨gx, 4, none⟩ = some (.slice E.kA E.keep.length E.kc) := cellAt ((hb.block gx (lt_of_blk HBx.out)).trans HBx.out) 4; have HI9 := Lib.hid hI9; have HA9 := Lib.hid (show ∀ a, A9 = some a → dL S.wet ≠ [] → a.block ∉ [p, bl, bd] from fun a ha hn hmem => by (have h1 := hA9 a ha; have h2 := ((HY.out.this 0 _ rfl).2.1 _ hmem).2; omega)); clear hb hI9 hA9)
                        | (go_at_call 14; refine (boot_any (Y2.out.get (i := 0) rfl) (HIR.out _ Y2.out.bel) HKA.out HKL.out).mono ?_; rintro e y3 ⟨he, hP3, hk3⟩; rw [HBE.out] at he; subst he; have HZ := Lib.hid (show Obs w y3 [pdOb p bl bd T, xOb 9 g1 c1 (txs S.was), xOb 9 g2 c2 (txs S.now), xOb 48 g4 cp (flatS (rowS l))] by (have h := Y2.out.turnD 0 rfl hP3 hk3; rw [HT2.out] at h; exact h)); have HI10 := Lib.hid (HI9.out.kp hk3 HA9.out); clear hP3 hk3 c4x)
                        | (go_at_call 15; refine (CON3.out _ HZ.out).mono ?_; rintro e y4 ⟨rfl, h1⟩; have HZ4 := Lib.hid (HZ.out.step h1); have HI11 := Lib.hid (HI10.out.below h1); clear h1)
                        | (go_at_call 29; refine (CKF.out _ _ _ HZ4.out HI11.out).mono ?_; rintro e y5 ⟨rfl, h1⟩; have HZ5 := Lib.hid (HZ4.out.step h1); clear h1))
                      go_loopw [16] (fun jx W => ∃ j : Nat, jx = .int .i64 (j : Int) ∧ j ≤ k ∧ Obs w W [pdOb p bl bd T, xOb 9 g1 c1 (txs (T.was.take j ++ S.was.drop j)), xOb 9 g2 c2 (txs S.now), xOb 48 g4 cp (flatS (rowS l))]) (fun jx _ => k - (RowKit.intOf jx).toNat)
                      case atStart => exact ⟨0, rfl, by omega, by simpa using HZ5.out⟩
                      case round =>
                        obtain ⟨j, rfl, hjk, hO⟩ := hrel
                        have HO := Lib.hid hO
                        by_cases hj : j < k
                        · have hji : (j : Int) < (k : Int) := by omega
                          have hj0 : (0 : Int) ≤ (j : Int) := by omega
                          have hjw : IntKind.i64.wrap ((j : Int) + 1) = (j : Int) + 1 := IntWalk.i64_in _ (by omega)
                          have CRD := Lib.hid (read_o hO 0 rfl (j : Int))
                          have HRV := Lib.hid (read_was HTOK.out HTF.out HTC.out (show j < T.was.length by rw [HTL.out]; exact hj))
                          have HSW := Lib.hid (take_set T.was S.was (by rw [HTL.out, HLE.out]) (show j < T.was.length by rw [HTL.out]; exact hj))
                          have HJL := Lib.hid (show j < (txs (T.was.take j ++ S.was.drop j)).length by rw [txs_length, List.length_append, List.length_take, List.length_drop, HTL.out, HLE.out]; omega)
                          clear hO
                          go_wp2_with (go_at_call 9; refine CRD.out.mono ?_; rintro e z1 ⟨he, h1⟩; rw [HRV.out.1, HRV.out.2] at he; subst he; have HO2 := Lib.hid h1; clear h1; obtain ⟨hcx, hcf⟩ := (HO2.out.get (i := 1) rfl : XR z1 9 g1 c1 (txs (T.was.take j ++ S.was.drop j))).cell (j := j) HJL.out)
                          go_roundw
                          case rel => exact ⟨j + 1, by go_num, by omega, by
                            have h := HO2.out.setX 1 rfl (j := j) HJL.out (sv (T.was.getD j []))
                            rw [txs_set, HSW.out] at h
                            exact h⟩
                          case measure => simp [RowKit.intOf]; omega
                        · have hji : ¬ (j : Int) < (k : Int) := by omega
                          obtain rfl : k = j := by omega
                          have HO6 := Lib.hid (show Obs w wr [pdOb p bl bd T, xOb 9 g1 c1 (txs T.was), xOb 9 g2 c2 (txs S.now), xOb 48 g4 cp (flatS (rowS l))] from by
                            have h := hO
                            rw [List.take_of_length_le (by rw [HTL.out]; exact Nat.le_refl _), List.drop_of_length_le (by rw [HLE.out]; exact Nat.le_refl _), List.append_nil] at h
                            exact h)
                          clear hO HO
                          go_wp2_with (at_builtin; obtain ⟨g3, c3', yc, hrc, hxc, hbc, hgc⟩ := fresh_text (n := k) (c := c1) _ (HO6.out.get (i := 1) rfl : XR _ 9 g1 c1 (txs T.was)) HTL.out.symm (by omega) (by omega); refine wpList_builtin2_run _ rfl .append Builtin.append_ _ _ _ _ rfl (fun _ _ _ => rfl) _ _ rfl rfl hrc ?_; have HQ0 := Lib.hid (HO6.out.swapX 2 rfl hxc hbc hgc); clear hrc hxc hbc hgc)
                          have HQ := Lib.hid (show Obs w yc [pdOb p bl bd T, xOb 9 g1 c1 (txs T.was), xOb 9 g3 c3' (txs T.now), xOb 48 g4 cp (flatS (rowS l))] from by
                            have h := HQ0.out
                            rw [HTC.out]; exact h)
                          go_wp2_with fail
                          go_loopw [17] (fun jx W => ∃ j : Nat, jx = .int .i64 (j : Int) ∧ j ≤ k ∧ Obs w W [pdOb p bl bd T, xOb 9 g1 c1 (txs T.was), xOb 9 g3 c3' (txs T.now), xOb 48 g4 cp (flatS (rowS l))]) (fun jx _ => k - (RowKit.intOf jx).toNat)
                          case atStart => exact ⟨0, rfl, by omega, HQ.out⟩
                          case round =>
                            clear HQ
                            obtain ⟨j, rfl, hjk, hO⟩ := hrel
                            have HO := Lib.hid hO
                            by_cases hj : j < k
                            · have hji : (j : Int) < (k : Int) := by omega
                              have hj0 : (0 : Int) ≤ (j : Int) := by omega
                              have hjw : IntKind.i64.wrap ((j : Int) + 1) = (j : Int) + 1 := IntWalk.i64_in _ (by omega)
                              have CO2 := Lib.hid (on_o hO 0 rfl)
                              have CI2 := Lib.hid (fun W (h : Obs w W [pdOb p bl bd T, xOb 9 g1 c1 (txs T.was), xOb 9 g3 c3' (txs T.now), xOb 48 g4 cp (flatS (rowS l))]) => is_o h 0 rfl (j : Int) (T.now.getD j []))
                              cases ho : T.off with
                              | true =>
                                rw [ho] at CO2
                                clear hO CI2 ho
                                go_wp2_with (go_at_call 15; refine CO2.out.mono ?_; rintro e z1 ⟨rfl, h1⟩; have HO2 := Lib.hid h1; clear h1)
                                go_roundw
                                case rel => exact ⟨m + 1, T, g1, c1, g3, c3', by go_num, rfl, rfl, by omega, HO2.out, HTL.out, by have := HTO.out; omega, HTK.out⟩
                                case measure => simp [RowKit.intOf]; omega
                              | false =>
                                rw [ho] at CO2
                                have HIS := Lib.hid (isD_now HTOK.out ho (show j < T.was.length by rw [HTL.out]; exact hj))
                                clear hO ho
                                go_wp2_with (first
                                  | (go_at_call 15; refine CO2.out.mono ?_; rintro e z1 ⟨rfl, h1⟩; have HO2 := Lib.hid h1; clear h1; have hcn := ((HO2.out.get (i := 2) rfl : XR z1 9 g3 c3' (txs T.now)).cell (j := j) (by rw [txs_length, HTN.out]; exact hj)).1; rw [txs_getD (by rw [HTN.out]; exact hj)] at hcn)
                                  | (go_at_call 21; refine (CI2.out _ HO2.out).mono ?_; rintro e z2 ⟨he, h1⟩; rw [HIS.out] at he; subst he; have HO3 := Lib.hid h1; clear h1 hcn))
                                go_roundw
                                case rel => exact ⟨j + 1, by go_num, by omega, HO3.out⟩
                                case measure => simp [RowKit.intOf]; omega
                            · have hji : ¬ (j : Int) < (k : Int) := by omega
                              clear hO
                              go_wp2_with fail
                              go_roundw
                              case rel => exact ⟨m + 1, T, g1, c1, g3, c3', by go_num, rfl, rfl, by omega, HO.out, HTL.out, by have := HTO.out; omega, HTK.out⟩
                              case measure => simp [RowKit.intOf]; omega
                  | false =>
                    rw [hof] at CON
                    have HOF := Lib.hid hof
                    clear hof
                    as_aux_lemma =>
                      go_upto_region 22 with (go_at_call 15; refine CON.out.mono ?_; rintro e y ⟨rfl, hb1⟩; have H14 := Lib.hid (H13.out.step hb1); have HB14 := Lib.hid ((hb1.block _ (lt_of_blk HBX.out)).trans HBX.out); clear hb1)
                      have HY := H14
                      have HBx := HB14
                      clear H13 H14 HB14 HBX CON hA1 hA2
                      have c0 : y.cell? ⟨gx, 0, none⟩ = some (.int .u8 3) := by
                        rw [cellAt HBx.out 0]; show some (Value.int .u8 (E.wh.toNat : Int)) = _; rw [HW.out]; rfl
                      have HNG := Lib.hid (show gx ∉ [p, bl, bd] from HGF.out 0 _ rfl)
                      have HNG2 := Lib.hid (show gx ∉ [g2] from HGF.out 2 _ rfl)
                      have HIR := Lib.hid (fun W (h : Below w.heap.size w W) => (HEFF.out.2 W h).1.ir)
                      have HKA := Lib.hid (show ∀ x, E.kA = some x → E.keep ≠ [] → x.block ∉ [p, bl, bd] from fun x hx hn hmem => by
                        have h1 := (HEFF.out.2 w (Below.refl _ _)).2 x hx hn
                        have h2 := ((HY.out.this 0 _ rfl).2.1 _ hmem).1
                        omega)
                      have HKL := Lib.hid (show E.keep.length ≤ 100000 by have := HEFF.out.1; omega)
                      have HST := Lib.hid (show S.step E = S.boot E.keep by unfold DS.step; rw [if_neg (by rw [HW.out]; decide), if_neg (by rw [HW.out]; decide), if_neg (by rw [HW.out]; decide), if_pos HW.out])
                      have HSN := Lib.hid (show S.now.length = k by rw [HOK.out.hn]; exact HLE.out)
                      obtain ⟨T, hT⟩ : ∃ T, T = S.step E := ⟨_, rfl⟩
                      rw [← hT] at HKS HSL HSO
                      have HTK := Lib.hid (show KE ln (m + 1) T by rw [← HLN.out]; exact HKS.out)
                      have HTL := Lib.hid (show T.was.length = k from HSL.out.1.trans HLE.out)
                      have HTO := Lib.hid (show T.ops ≤ S.ops + 1 from HSL.out.2)
                      have HTOK := HSO
                      have HTN := Lib.hid (show T.now.length = k by rw [HSO.out.hn]; exact HTL.out)
                      have HTT := Lib.hid hT
                      clear hT HKS HSL HSO
                      have CDI := Lib.hid (dirty_o HY.out 0 rfl)
                      have HBE := Lib.hid (show S.bootE = 7 by unfold DS.bootE; rw [HOF.out]; rfl)
                      have HT1 := Lib.hid (show T = S by rw [HTT.out, HST.out]; unfold DS.boot; rw [HOF.out]; rfl)
                      have HT2 := Lib.hid (show S.boot E.keep = S by rw [← HST.out, ← HTT.out]; exact HT1.out)
                      go_wp2_with (first
                        | (go_at_call 17; refine CDI.out.mono ?_; rintro e y2 ⟨A9, c9, rfl, _, _, hb⟩; have Y2 := Lib.hid (HY.out.step hb); have c4x : y2.cell? ⟨gx, 4, none⟩ = some (.slice E.kA E.keep.length E.kc) := cellAt ((hb.block gx (lt_of_blk HBx.out)).trans HBx.out) 4; clear hb)
                        | (go_at_call 14; refine (boot_o Y2.out 0 rfl (HIR.out _ Y2.out.bel) HKA.out HKL.out).mono ?_; rintro e y3 ⟨he, h1⟩; rw [HBE.out] at he; subst he; have HZ := Lib.hid h1; clear h1 c4x))
                      go_roundw
                      case rel => exact ⟨m + 1, T, g1, c1, g2, c2, by go_num, rfl, rfl, by omega, by
                        have h := HZ.out
                        rw [HT2.out] at h
                        rw [HT1.out]; exact h, HTL.out, by have := HTO.out; omega, HTK.out⟩
                      case measure => simp [RowKit.intOf]; omega
              as_aux_lemma =>
                go_upto_region 22 with (go_at_call 15; refine CON.out.mono ?_; rintro e y ⟨rfl, hb1⟩; have H14 := Lib.hid (H13.out.step hb1); have HB14 := Lib.hid ((hb1.block _ (lt_of_blk HBX.out)).trans HBX.out); clear hb1)
                have HY := H14
                have HBx := HB14
                clear H13 H14 HB14 HBX CON hA1 hA2
                have HST := Lib.hid (show S.step E = S by unfold DS.step; rw [if_neg h0, if_neg h1, if_neg h2, if_neg h3])
                have e0 : ((E.wh.toNat : Int) == 0) = false := u8_ne (y := 0) h0
                have e1 : ((E.wh.toNat : Int) == 1) = false := u8_ne (y := 1) h1
                have e2 : ((E.wh.toNat : Int) == 2) = false := u8_ne (y := 2) h2
                have e3 : ((E.wh.toNat : Int) == 3) = false := u8_ne (y := 3) h3
                have c0 : y.cell? ⟨gx, 0, none⟩ = some (.int .u8 (E.wh.toNat : Int)) := cellAt HBx.out 0
                obtain ⟨T, hT⟩ : ∃ T, T = S.step E := ⟨_, rfl⟩
                rw [← hT] at HKS HSL HSO
                have HTK := Lib.hid (show KE ln (m + 1) T by rw [← HLN.out]; exact HKS.out)
                have HTL := Lib.hid (show T.was.length = k from HSL.out.1.trans HLE.out)
                have HTO := Lib.hid (show T.ops ≤ S.ops + 1 from HSL.out.2)
                have HTOK := HSO
                have HTN := Lib.hid (show T.now.length = k by rw [HSO.out.hn]; exact HTL.out)
                have HTT := Lib.hid hT
                clear hT HKS HSL HSO
                have HT1 := Lib.hid (show T = S by rw [HTT.out, HST.out])
                clear h0 h1 h2 h3
                generalize (E.wh.toNat : Int) = x at c0 e0 e1 e2 e3
                go_wp2_with fail
                have HQ := Lib.hid (show Obs w y [pdOb p bl bd T, xOb 9 g1 c1 (txs T.was), xOb 9 g2 c2 (txs T.now), xOb 48 g4 cp (flatS (rowS l))] from by
                  rw [HT1.out]; exact HY.out)
                go_wp2_with fail
                go_loopw [17] (fun jx W => ∃ j : Nat, jx = .int .i64 (j : Int) ∧ j ≤ k ∧ Obs w W [pdOb p bl bd T, xOb 9 g1 c1 (txs T.was), xOb 9 g2 c2 (txs T.now), xOb 48 g4 cp (flatS (rowS l))]) (fun jx _ => k - (RowKit.intOf jx).toNat)
                case atStart => exact ⟨0, rfl, by omega, HQ.out⟩
                case round =>
                  clear HQ
                  obtain ⟨j, rfl, hjk, hO⟩ := hrel
                  have HO := Lib.hid hO
                  by_cases hj : j < k
                  · have hji : (j : Int) < (k : Int) := by omega
                    have hj0 : (0 : Int) ≤ (j : Int) := by omega
                    have hjw : IntKind.i64.wrap ((j : Int) + 1) = (j : Int) + 1 := IntWalk.i64_in _ (by omega)
                    have CO2 := Lib.hid (on_o hO 0 rfl)
                    have CI2 := Lib.hid (fun W (h : Obs w W [pdOb p bl bd T, xOb 9 g1 c1 (txs T.was), xOb 9 g2 c2 (txs T.now), xOb 48 g4 cp (flatS (rowS l))]) => is_o h 0 rfl (j : Int) (T.now.getD j []))
                    cases ho : T.off with
                    | true =>
                      rw [ho] at CO2
                      clear hO CI2 ho
                      go_wp2_with (go_at_call 15; refine CO2.out.mono ?_; rintro e z1 ⟨rfl, h1⟩; have HO2 := Lib.hid h1; clear h1)
                      go_roundw
                      case rel => exact ⟨m + 1, T, g1, c1, g2, c2, by go_num, rfl, rfl, by omega, HO2.out, HTL.out, by have := HTO.out; omega, HTK.out⟩
                      case measure => simp [RowKit.intOf]; omega
                    | false =>
                      rw [ho] at CO2
                      have HIS := Lib.hid (isD_now HTOK.out ho (show j < T.was.length by rw [HTL.out]; exact hj))
                      clear hO ho
                      go_wp2_with (first
                        | (go_at_call 15; refine CO2.out.mono ?_; rintro e z1 ⟨rfl, h1⟩; have HO2 := Lib.hid h1; clear h1; have hcn := ((HO2.out.get (i := 2) rfl : XR z1 9 g2 c2 (txs T.now)).cell (j := j) (by rw [txs_length, HTN.out]; exact hj)).1; rw [txs_getD (by rw [HTN.out]; exact hj)] at hcn)
                        | (go_at_call 21; refine (CI2.out _ HO2.out).mono ?_; rintro e z2 ⟨he, h1⟩; rw [HIS.out] at he; subst he; have HO3 := Lib.hid h1; clear h1 hcn))
                      go_roundw
                      case rel => exact ⟨j + 1, by go_num, by omega, HO3.out⟩
                      case measure => simp [RowKit.intOf]; omega
                  · have hji : ¬ (j : Int) < (k : Int) := by omega
                    clear hO
                    go_wp2_with fail
                    go_roundw
                    case rel => exact ⟨m + 1, T, g1, c1, g2, c2, by go_num, rfl, rfl, by omega, HO.out, HTL.out, by have := HTO.out; omega, HTK.out⟩
                    case measure => simp [RowKit.intOf]; omega
          · have hmi : ¬ (m : Int) < (L : Int) := by omega
            obtain rfl : m = L := by omega
            obtain ⟨hfo, hfd⟩ := hke.c HLL.out
            have CON := Lib.hid (on_o H12.out 0 rfl)
            rw [hfo] at CON
            have CDI := Lib.hid (fun W (h : Obs w W [pdOb p bl bd S, xOb 9 g1 c1 (txs S.was), xOb 9 g2 c2 (txs S.now), xOb 48 g4 cp (flatS (rowS l))]) => dirty_o h 0 rfl)
            have hdl : dL S.wet = [] := by unfold dL; rw [hfd]; rfl
            rw [hdl] at CDI
            clear hOb hlen hke hfo hfd hdl
            go_wp2_with (first
              | (go_at_call 15; refine CON.out.mono ?_; rintro e y1 ⟨rfl, h1⟩; have Y1 := Lib.hid h1; clear h1)
              | (go_at_call 17; refine (CDI.out _ Y1.out).mono ?_; rintro e y2 ⟨A9, c9, rfl, _, _, hb⟩; have Y2 := Lib.hid (Y1.out.step hb); clear hb))
            go_ret
            exact ⟨rfl, Y2.out.bel⟩
end Go.Proofs.Ytechpecnanodfaa
