/-
  DerRow, walked.
-/
import Derived.Test.YtablllincjoabaaETold
namespace Go.Proofs.Ytablllincjoabaa
set_option linter.unusedSimpArgs false
set_option linter.unusedVariables false
open Go Go.RowKit
set_option maxRecDepth 100000

theorem endsL_snoc (n : Nat) (l : List Tv) (x : Tv) : endsL n (l ++ [x]) = endsL n l ++ [n + (putsL (l ++ [x])).length] := by
  induction l generalizing n with
  | nil => simp [endsL, putsL]
  | cons y l ih =>
    show (n + (putT y.1 y.2).length) :: endsL (n + (putT y.1 y.2).length) (l ++ [x]) = _
    rw [ih]
    show _ = (n + (putT y.1 y.2).length) :: endsL (n + (putT y.1 y.2).length) l ++ [n + (putT y.1 y.2 ++ putsL (l ++ [x])).length]
    rw [List.length_append, Nat.add_assoc]; rfl
theorem endsL_len (n : Nat) (l : List Tv) : (endsL n l).length = l.length := by
  induction l generalizing n with
  | nil => rfl
  | cons y l ih => simp [endsL, ih]
theorem putsL_le (l : List Tv) (h : ∀ x ∈ l, x.2.length ≤ 2000) : (putsL l).length ≤ l.length * 2004 := by
  induction l with
  | nil => simp [putsL]
  | cons x l ih =>
    have h1 := h x (by simp)
    have h2 := ih (fun y hy => h y (by simp [hy]))
    have h3 := putT_length x.1 x.2
    have h4 := lenL_length x.2.length
    show (putT x.1 x.2 ++ putsL l).length ≤ (l.length + 1) * 2004
    rw [List.length_append]; omega
def iv (n : Nat) : Value := .int .i64 (n : Int)
theorem iv_one : ∀ {ys : List Nat}, ∀ u ∈ ys.map iv, u.oneCell' = true := by
  intro ys u hu
  obtain ⟨b, _, rfl⟩ := List.mem_map.1 hu
  rfl
theorem infoI : (Try.prog.info? 3).map (fun i => (i.zero, i.size, i.bytes)) = some (some (.int .i64 0), 1, 8) := by kernel_rfl
/-- Good so far. -/
def upTo (ps : List Tv) (k : Nat) : Prop := ∀ x ∈ ps.take k, goodT x ∧ x.2.length ≤ 2000
theorem upTo_next {ps : List Tv} {k : Nat} (h : upTo ps k) (hk : k < ps.length) {x : Tv} (hx : x = ps.getD k pm0) (h1 : goodT x) (h2 : x.2.length ≤ 2000) : upTo ps (k + 1) := by
  intro y hy
  rw [take_one hk] at hy
  rcases List.mem_append.1 hy with hy | hy
  · exact h y hy
  · rw [List.mem_singleton.1 hy, ← hx]; exact ⟨h1, h2⟩

/-- Whether a place is one where a thing ends, of the first k ends. -/
def whB (N : Nat) (es : List Nat) (k : Nat) : Bool := (N == 0) || (es.take k).contains N
theorem whB_next {N : Nat} {es : List Nat} {k : Nat} (hk : k < es.length) : whB N es (k + 1) = (whB N es k || (es.getD k 0 == N)) := by
  unfold whB
  rw [List.take_succ_eq_append_getElem hk, List.getD_eq_getElem?_getD, List.getElem?_eq_getElem hk, Bool.or_assoc]
  congr 1
  rw [Bool.eq_iff_iff]
  simp only [Bool.or_eq_true, beq_iff_eq, List.contains_iff_mem, List.mem_append, List.mem_singleton]
  constructor
  · rintro (h | h)
    · exact .inl h
    · exact .inr h.symm
  · rintro (h | h)
    · exact .inl h
    · exact .inr h.symm
theorem whB_all {N : Nat} {es : List Nat} {k : Nat} (hk : k = es.length) : (whB N es k = true) ↔ (N = 0 ∨ N ∈ es) := by
  subst hk
  unfold whB
  rw [List.take_length]; simp
theorem at_is (a : Int) (L : Nat) (hL : L ≤ 160320) : ∃ N : Nat, N ≤ L ∧ wrap64 ((IntKind.u64.wrap a).tmod ((L : Int) + 1)) = (N : Int) := by
  have h1 : IntKind.u64.wrap a = a % 18446744073709551616 := by simp [IntKind.wrap, IntKind.bits, IntKind.signed]
  rw [h1, Int.tmod_eq_emod_of_nonneg (by omega)]
  have h2 := Int.emod_nonneg (a % 18446744073709551616) (show ((L : Int) + 1) ≠ 0 by omega)
  have h3 := Int.emod_lt_of_pos (a % 18446744073709551616) (show (0 : Int) < (L : Int) + 1 by omega)
  refine ⟨(a % 18446744073709551616 % ((L : Int) + 1)).toNat, by omega, ?_⟩
  rw [wrap64_in (by omega)]; omega

set_option maxHeartbeats 16000000 in
theorem derRow_walk {A : Option Addr} {c : Nat} {a : Int} {w : World} (ps : List Tv) (hR : TR w (.slice A ps.length c) ps) (hI : ps.length ≤ 140737488351232 ∧ ∀ r ∈ ps, r.2.length ≤ 140737488351232) (ha : -9223372036854775808 ≤ a ∧ a ≤ 9223372036854775807) :
    Calls Try.prog 8 #[.slice A ps.length c, .int .i64 a] w fun e w' => e = .returned (.bool true) ∧ Below w.heap.size w w' := by
  have HAW := Lib.hid (fun W (h : Bh w W) => show Calls Try.prog 9 #[] W (fun e w' => e = .returned (.bool true) ∧ Bh w w') from (awake_any W).mono fun e w' ⟨h1, h2⟩ => ⟨h1, h.step h2⟩)
  have hB0 : Bh w w := Below.refl _ _
  have HR := Lib.hid hR
  have hl0 := hI.1
  have HI := Lib.hid hI.2
  have HA := Lib.hid ha
  clear hR hI ha
  by_cases hl : 80 < ps.length
  · go_enter Try.func8, Try.ntmps8
    go_wp2_with (go_at_call 9; with_reducible refine (HAW.out _ (by assumption)).mono ?_; rintro e w1 ⟨rfl, hb⟩)
    go_ret
    exact ⟨rfl, by assumption⟩
  · have hl1 : decide (80 < (ps.length : Int)) = false := by rw [decide_eq_false_iff_not]; omega
    go_enter Try.func8, Try.ntmps8
    go_wp2_with (go_at_call 9; with_reducible refine (HAW.out _ (by assumption)).mono ?_; rintro e w1 ⟨rfl, hb1⟩)
    have HB1 := Lib.hid hb1
    clear hb1 hB0 HAW
    go_loopw [5, 6, 7] (fun s v i wr => ∃ k : Nat, k ≤ ps.length ∧ i = .int .i64 k ∧ s = sv (putsL (ps.take k)) ∧ GV 3 w v ((endsL 0 (ps.take k)).map iv) wr ∧ upTo ps k) (fun _ _ i _ => ps.length - (intOf i).toNat)
    case atStart => exact ⟨0, Nat.zero_le _, rfl, rfl, ⟨HB1.out, World.ownsRow_nil _ _ _ _⟩, fun x hx => by simp at hx⟩
    case round =>
      clear HB1
      obtain ⟨k, hk, rfl, rfl, hgv, hup⟩ := hrel
      by_cases hlt : k < ps.length
      · obtain ⟨g, off, rfl, hgl, c0, c1⟩ := (HR.out.step hgv.below).at hlt
        obtain ⟨x, hx⟩ : ∃ x, x = ps.getD k pm0 := ⟨_, rfl⟩
        rw [← hx] at c0 c1
        have hxm : x.2.length ≤ 140737488351232 := HI.out x (by rw [hx, List.getD_eq_getElem?_getD, List.getElem?_eq_getElem hlt]; simp)
        have PU := Lib.hid (show Calls Try.prog 10 #[.agg #[.int .u8 (x.1.toNat : Int), sv x.2]] wr (fun e w' => e = .returned (.tuple #[sv (putL x.1 x.2), .int .i64 (putE x.1 x.2 : Nat)]) ∧ Below wr.heap.size wr w') from @put_any wr x.1 x.2 (by omega))
        have hpl := putsL_le (ps.take k) (fun y hy => (hup y hy).2)
        have htl : (ps.take k).length = k := by rw [List.length_take]; omega
        rw [htl] at hpl
        have HGV := Lib.hid hgv
        have HX := Lib.hid hx
        have HUP := Lib.hid hup
        have hlt' : (k : Int) < (ps.length : Int) := by omega
        rcases putB_cases x.1 x.2 with ⟨e1, e2, e3, e4⟩ | ⟨e1, e2⟩
        · rw [e1, e2] at PU
          by_cases h2 : 2000 < x.2.length
          · clear hgv hup hx hpl htl e1 e2
            go_wp2_with (go_at_call 10; refine PU.out.mono ?_; rintro e w2 ⟨rfl, hb2⟩; have d1 := (hb2.cell (p := ⟨g, off + k * 2 + 1, none⟩) hgl).trans c1)
            go_ret
            exact ⟨rfl, HGV.out.below.trans (hb2.mono HGV.out.below.size)⟩
          · have hsn : putsL (ps.take (k + 1)) = putsL (ps.take k) ++ putT x.1 x.2 := by rw [take_one hlt, putsL_app, ← hx]; simp [putsL]
            have hen : endsL 0 (ps.take (k + 1)) = endsL 0 (ps.take k) ++ [(putsL (ps.take (k + 1))).length] := by
              rw [take_one hlt, endsL_snoc, Nat.zero_add]
            have HU2 := Lib.hid (upTo_next hup hlt hx ⟨e3, e4⟩ (by omega))
            have hpt := putT_length x.1 x.2
            have hln := lenL_length x.2.length
            obtain ⟨T, hT⟩ : ∃ T, T = putT x.1 x.2 := ⟨_, rfl⟩
            obtain ⟨S, hS⟩ : ∃ T, T = putsL (ps.take k) := ⟨_, rfl⟩
            have htl2 : T.length ≤ 2004 := by rw [hT]; omega
            have hgl2 : ((endsL 0 (ps.take k)).map iv).length ≤ 1000 := by rw [List.length_map, endsL_len, htl]; omega
            rw [← hT, ← hS] at hsn
            rw [hsn] at hen
            rw [← hS] at hpl ⊢
            have hcat : str S ++ str T = str (S ++ T) := str_append S T
            have hSl : S.length ≤ 200000 := by omega
            have hzS := str_size S
            have hzT := str_size T
            have hzC := str_size (S ++ T)
            rw [← hT] at PU
            have HSN := Lib.hid hsn
            have HEN := Lib.hid hen
            have HC := Lib.hid hcat
            clear hgv hup hx hpl htl e1 e2 e3 e4 hsn hen hpt hln hT hS
            go_wp2_with (first
              | (go_at_call 10; refine PU.out.mono ?_; rintro e w2 ⟨rfl, hb2⟩; have d1 := (hb2.cell (p := ⟨g, off + k * 2 + 1, none⟩) hgl).trans c1; have hg2 := HGV.out.behind hb2; have HG2 := Lib.hid hg2; clear hg2)
              | (at_builtin; refine gv_append Try.underlying23 infoI rfl HG2.out (by decide) (by omega) [.int .i64 ((S.length : Int) + (T.length : Int))] _ rfl (by simp) (by simp [Value.oneCell']) _ _ rfl rfl rfl 1 rfl ?_; intro g2 cap2 w3 hg3; have HG3 := Lib.hid hg3; clear hg3))
            go_roundw
            case rel =>
              refine ⟨k + 1, by omega, by go_num, by rw [HSN.out], ?_, HU2.out⟩
              rw [HEN.out, List.map_append, List.length_append]
              have := HG3.out
              simpa [iv] using this
            case measure => simp [intOf]; omega
        · have e1' : ((putE x.1 x.2 : Nat) : Int) ≠ 0 := by omega
          obtain ⟨E, hE⟩ : ∃ E : Int, E = ((putE x.1 x.2 : Nat) : Int) := ⟨_, rfl⟩
          rw [← hE] at PU e1'
          have e0 : (E != 0) = true := by rw [bne_iff_ne]; exact e1'
          rw [e2] at PU
          clear hgv hup hx hpl htl hE e1 e2 e1'
          go_wp2_with (go_at_call 10; with_reducible refine PU.out.mono ?_; rintro e w2 ⟨rfl, hb2⟩)
          go_ret
          exact ⟨rfl, HGV.out.below.trans (hb2.mono HGV.out.below.size)⟩
      · obtain rfl : k = ps.length := by omega
        rw [List.take_length] at hgv ⊢
        have hgood : ∀ x ∈ ps, goodT x ∧ x.2.length ≤ 2000 := by
          unfold upTo at hup; rwa [List.take_length] at hup
        have hpl := putsL_le ps (fun y hy => (hgood y hy).2)
        have hall := allR_puts ps (fun y hy => (hgood y hy).1)
        have HGV := Lib.hid hgv
        have HGD := Lib.hid hgood
        obtain ⟨S, hS⟩ : ∃ T, T = putsL ps := ⟨_, rfl⟩
        rw [← hS] at hpl hall ⊢
        have hSl : S.length ≤ 160320 := by omega
        have AL := fun W => @all_any S W (by omega)
        rw [hall] at AL
        have HSE := Lib.hid hS
        obtain ⟨N, hNl, hN⟩ := at_is a S.length hSl
        obtain ⟨A6, c6, rfl⟩ := hgv.form
        rw [List.length_map, endsL_len] at HGV ⊢
        clear hgv hgood hup hpl hall hS
        by_cases h64 : ps.length ≤ 64
        · rw [if_pos h64] at AL
          have AL' := Lib.hid (fun W (h : Bh w W) => show Calls Try.prog 14 #[sv S] W (fun e w' => ∃ A2 c2, e = .returned (.tuple #[.slice A2 ps.length c2, .int .i64 0]) ∧ TR w' (.slice A2 ps.length c2) ps ∧ Bh w w' ∧ Below W.heap.size W w') from (AL W).mono fun e w' ⟨v, q1, q2, q3⟩ => by
            obtain ⟨A2, c2, rfl⟩ := q2.form
            exact ⟨A2, c2, q1, q2.pr, h.step q3, q3⟩)
          have TL := Lib.hid (fun W A2 c2 (h : Bh w W) (ht : TR W (.slice A2 ps.length c2) ps) => show Calls Try.prog 24 #[.slice A2 ps.length c2] W (fun e w' => ∃ A3 c3, e = .returned (.slice A3 ps.length c3) ∧ TR w' (.slice A3 ps.length c3) ps ∧ Bh w w' ∧ Below W.heap.size W w') from (told_any (w := W) ps A2 c2 ht (by omega)).mono fun e w' ⟨v, q1, q2, q3⟩ => by
            obtain ⟨A3, c3, rfl⟩ := q2.form
            exact ⟨A3, c3, q1, q2.pr, h.step q3, q3⟩)
          have SM := Lib.hid (fun W A2 c2 A3 c3 (h : Bh w W) (ht : TR W (.slice A2 ps.length c2) ps) (hu : TR W (.slice A3 ps.length c3) ps) => show Calls Try.prog 23 #[.slice A2 ps.length c2, .slice A3 ps.length c3] W (fun e w' => e = .returned (.bool true) ∧ Bh w w' ∧ Below W.heap.size W w') from (same_any (w := W) ps A2 A3 c2 c3 ht hu (by omega)).mono fun e w' ⟨q1, q3⟩ => ⟨q1, h.step q3, q3⟩)
          have h64' : decide (64 < (ps.length : Int)) = false := by rw [decide_eq_false_iff_not]; omega
          clear AL
          go_wp2_with (first
            | (go_at_call 14; refine (AL'.out _ HGV.out.below).mono ?_; rintro e w2 ⟨A2, c2, rfl, ht2, hb2, hs2⟩; have HT2 := Lib.hid ht2; have HB2 := Lib.hid hb2; have HS2 := Lib.hid hs2; clear ht2 hb2 hs2)
            | (go_at_call 23; refine (SM.out _ _ _ _ _ HB4.out (HT3.out.step HS4.out) HT4.out).mono ?_; rintro e w5 ⟨rfl, hb5, hs5⟩; have HB5 := Lib.hid hb5; have HS5 := Lib.hid hs5; clear hb5 hs5)
            | (go_at_call 24; refine (TL.out _ _ _ HB3.out (HR.out.step HB3.out)).mono ?_; rintro e w4 ⟨A4, c4, rfl, ht4, hb4, hs4⟩; have HT4 := Lib.hid ht4; have HB4 := Lib.hid hb4; have HS4 := Lib.hid hs4; clear ht4 hb4 hs4)
            | (go_at_call 24; refine (TL.out _ _ _ HB2.out HT2.out).mono ?_; rintro e w3 ⟨A3, c3, rfl, ht3, hb3, hs3⟩; have HT3 := Lib.hid ht3; have HB3 := Lib.hid hb3; have HS3 := Lib.hid hs3; clear ht3 hb3 hs3))
          rw [hN]
          have hG5 := (((HGV.out.behind HS2.out).behind HS3.out).behind HS4.out).behind HS5.out
          have HG5 := Lib.hid hG5
          clear hG5 hN
          go_loop [12, 13] (fun q i => ∃ k : Nat, k ≤ ps.length ∧ i = .int .i64 k ∧ q = .bool (whB N (endsL 0 ps) k)) (fun _ i => ps.length - (intOf i).toNat)
          case atStart => exact ⟨0, Nat.zero_le _, rfl, by rw [show whB N (endsL 0 ps) 0 = (N == 0) by simp [whB]]; congr 1; first | rfl | (rw [Bool.eq_iff_iff]; simp)⟩
          case round =>
            obtain ⟨k, hk, rfl, rfl⟩ := hrel
            by_cases hlt2 : k < ps.length
            · obtain ⟨g6, rfl, _, _, hc6⟩ := HG5.out.cell k (by rw [List.length_map, endsL_len]; exact hlt2)
              have hc7 : w5.cell? ⟨g6, k, none⟩ = some (.int .i64 (((endsL 0 ps).getD k 0 : Nat) : Int)) := by
                rw [hc6, List.getElem?_map, List.getElem?_eq_getElem (by rw [endsL_len]; exact hlt2), List.getD_eq_getElem?_getD, List.getElem?_eq_getElem (by rw [endsL_len]; exact hlt2)]; rfl
              have hnx := whB_next (N := N) (es := endsL 0 ps) (k := k) (by rw [endsL_len]; exact hlt2)
              obtain ⟨E, hE⟩ : ∃ E, E = (endsL 0 ps).getD k 0 := ⟨_, rfl⟩
              obtain ⟨q, hq⟩ : ∃ q, q = whB N (endsL 0 ps) k := ⟨_, rfl⟩
              rw [← hE] at hc7 hnx
              rw [← hq] at hnx ⊢
              have hlt' : (k : Int) < (ps.length : Int) := by omega
              have HNX := Lib.hid hnx
              clear hnx hE hq hc6
              cases q with
              | true =>
                go_wp2_with fail
                go_round
                case rel => exact ⟨k + 1, by omega, by go_num, by rw [HNX.out]; rfl⟩
                case measure => simp [intOf]; omega
              | false =>
                go_wp2_with fail
                go_round
                case rel => exact ⟨k + 1, by omega, by go_num, by rw [HNX.out]; congr 1; first | rfl | (rw [Bool.eq_iff_iff]; simp; try omega)⟩
                case measure => simp [intOf]; omega
            · obtain rfl : k = ps.length := by omega
              have hcut := seqL_cut ps (fun y hy => (HGD.out y hy).1) N (by rw [← HSE.out]; exact hNl) 0
              rw [Nat.zero_add, ← HSE.out, ← whB_all (N := N) (es := endsL 0 ps) (k := ps.length) (endsL_len 0 ps).symm] at hcut
              have hex : (str S).extract 0 N = str (S.take N) := by rw [str_extract]; simp
              have hzS := str_size S
              have A2 := fun W => @all_any (S.take N) W (by rw [List.length_take]; omega)
              obtain ⟨X, hX⟩ : ∃ X, X = S.take N := ⟨_, rfl⟩
              rw [← hX] at hcut A2 hex
              cases hq : whB N (endsL 0 ps) ps.length with
              | true =>
                rw [hq] at hcut
                have hok := allR_done (hcut.1 rfl) (Nat.le_trans hcut.2.2 h64)
                rw [hok] at A2
                have A3 := Lib.hid (fun W => show Calls Try.prog 14 #[sv X] W (fun e w' => ∃ v, e = .returned (.tuple #[v, .int .i64 0]) ∧ Below W.heap.size W w') from (A2 W).mono fun e w' ⟨v, q1, q2, q3⟩ => ⟨v, q1, q3⟩)
                clear A2 hcut hok hX
                go_wp2_with (go_at_call 14; refine (A3.out _).mono ?_; rintro e w6 ⟨v6, rfl, hb6⟩)
                go_ret
                exact ⟨rfl, HB5.out.step hb6⟩
              | false =>
                rw [hq] at hcut
                obtain ⟨q0, hq0, hq1, hq2⟩ := hcut.2.1 (by simp)
                have her := allR_er (s := X) (q := q0) (x := (0, [])) (e := 8) (by rw [hq0]; exact List.prefix_refl _) hq1 (Nat.le_trans hq2 h64) (by decide)
                rw [her] at A2
                have A3 := Lib.hid (fun W => show Calls Try.prog 14 #[sv X] W (fun e w' => e = .returned (.tuple #[.slice none 0 0, .int .i64 8]) ∧ Below W.heap.size W w') from A2 W)
                clear A2 hcut her hX hq0 hq1 hq2
                go_wp2_with (go_at_call 14; refine (A3.out _).mono ?_; rintro e w6 ⟨rfl, hb6⟩)
                go_ret
                exact ⟨rfl, HB5.out.step hb6⟩
        · rw [if_neg h64] at AL
          have AL' := Lib.hid (fun W => show Calls Try.prog 14 #[sv S] W (fun e w' => e = .returned (.tuple #[.slice none 0 0, .int .i64 40]) ∧ Below W.heap.size W w') from AL W)
          have h64' : decide (64 < (ps.length : Int)) = true := by rw [decide_eq_true_eq]; omega
          clear AL
          go_wp2_with (go_at_call 14; refine (AL'.out _).mono ?_; rintro e w2 ⟨rfl, hb2⟩)
          go_ret
          exact ⟨rfl, HGV.out.below.trans (hb2.mono HGV.out.below.size)⟩
end Go.Proofs.Ytablllincjoabaa
