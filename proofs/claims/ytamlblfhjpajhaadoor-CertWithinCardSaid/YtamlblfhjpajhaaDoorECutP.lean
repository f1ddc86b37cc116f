/-
  The contracts of cut, Get.
-/
import Derived.Laws.Rows
import Derived.Test.YtamlblfhjpajhaaDoorECutL
import Derived.Test.YtamlblfhjpajhaaDoorEPut
namespace Go.Proofs.YtamlblfhjpajhaaDoor
set_option linter.unusedSimpArgs false
set_option linter.unusedVariables false
open Go Go.RowKit
set_option maxRecDepth 100000

theorem results_row_tmp2 {P : Program} {fn : Func} {p u v : Tmp} {ty : TypeId} (h : fn.results = #[.cell p ty, .tmp u, .tmp v]) (tmps : Array Value) (w : World) (g : Nat) (t : TypeId) (cs : Array Value) (fr : Nat × Nat) (d : TypeDesc)
    (hp : tmps.getD p undef = .pointer (some ⟨g, 0, none⟩)) (hg : w.heap[g]? = some (.cells cs t fr))
    (hu : P.underlying ty = some d) (hd : (match d with | .struct _ | .array _ _ => true | _ => false) = true) (hi : (P.info? ty).map (·.size) = some cs.size) :
    (results fn tmps).run P w = .ok (.tuple #[.agg cs, tmps.getD u undef, tmps.getD v undef]) w := by
  have hp' : tmps[p]?.getD undef = .pointer (some ⟨g, 0, none⟩) := by simpa using hp
  simp [results, h, hp', asAddr, run_loadVar_row w g t ty cs fr d hg hu hd hi]
/-- What cut tells. -/
def cutV : Rd (Tv × List UInt8) → Value
  | .ok (x, r) => .tuple #[itv x.1 x.2, sv r, .int .i64 0]
  | .er e => .tuple #[itv 0 [], sv [], .int .i64 (e : Int)]

theorem IB.free {w : World} {k : Nat} {t : UInt8} {v : List UInt8} (h : IB w k t v) (j : Nat) : w.frozen? ⟨k, j, none⟩ = false := freeAt h j
theorem IB.put {w : World} {k : Nat} {t : UInt8} {v : List UInt8} (h : IB w k t v) (u : UInt8) (x : List UInt8) : IB ((w.setCell ⟨k, 0, none⟩ (.int .u8 (u.toNat : Int))).setCell ⟨k, 1, none⟩ (sv x)) k u x := by
  unfold IB at h ⊢
  simp [World.setCell, Array.getElem?_modify, h]
theorem below_put2 {n k : Nat} {w0 w : World} (h : Below n w0 w) (hk : n ≤ k) (x y : Value) : Below n w0 ((w.setCell ⟨k, 0, none⟩ x).setCell ⟨k, 1, none⟩ y) := (h.setCell (p := ⟨k, 0, none⟩) hk _).setCell (p := ⟨k, 1, none⟩) hk _
/-- At cut's end: its item lies at k. -/
theorem cut_end {w W : World} {k : Nat} {t : UInt8} {v : List UInt8} (hI : IB W k t v) (hB : Below w.heap.size w W) (tmps : Array Value) (r : List UInt8) (e : Int)
    (h2 : tmps.getD 2 undef = .pointer (some ⟨k, 0, none⟩)) (h3 : tmps.getD 3 undef = sv r) (h4 : tmps.getD 4 undef = .int .i64 e) {x : Rd (Tv × List UInt8)} (hx : cutV x = .tuple #[itv t v, sv r, .int .i64 e]) :
    bodyPost Tryd.prog Tryd.f58 (fun e w' => e = .returned (cutV x) ∧ Below w.heap.size w w') Exit.ret { tmps := tmps, defers := [] } W := by
  refine bodyPost_ret (v := .tuple #[itv t v, sv r, .int .i64 e]) ?_ rfl ⟨by rw [hx], hB⟩
  rw [results_row_tmp2 (p := 2) (u := 3) (v := 4) (fr := (0, 0)) Tryd.results58 tmps W k 58 _ _ h2 hI Tryd.underlying58 rfl (by kernel_rfl), h3, h4]
  rfl

set_option maxHeartbeats 4000000 in
theorem cut_any {w : World} (s : List UInt8) (hs : s.length ≤ 9223372036854775807) :
    Calls Tryd.prog 58 #[sv s] w fun e w' => e = .returned (cutV (cutP s)) ∧ Below w.heap.size w w' := by
  have hB := below_alloc w (.cells #[.int .u8 0, sv []] 58)
  have hI := IB.new w 0 []
  cases s with
  | nil =>
    have HB := Lib.hid hB
    have HI := Lib.hid hI
    clear hB hI hs
    go_enter Tryd.func58, Tryd.ntmps58
    go_wp2_with fail
    exact cut_end (t := 0) (v := []) HI.out HB.out _ [] 8 rfl rfl rfl rfl
  | cons t r =>
    have HC := Lib.hid (cutP_cons t r)
    have hrl : r.length ≤ 9223372036854775806 := by simpa using hs
    have HT := Lib.hid (fun W => @isTag_any W t)
    have HL := Lib.hid (fun W => @cutLength_any W r (by omega))
    obtain ⟨s, hse⟩ : ∃ s, s = t :: r := ⟨_, rfl⟩
    have h0 : 0 < s.length := by rw [hse]; simp
    have hsz := str_size s
    have hx : (str s)[0]'(by rw [str_size]; exact h0) = t := by subst hse; rfl
    have hem : s.isEmpty = false := by rw [hse]; rfl
    have hex : (str s).extract 1 s.length = str r := by rw [str_extract, hse]; simp
    rw [← hse] at HC hs ⊢
    obtain ⟨W1, hW⟩ : ∃ W1, W1 = w.alloc (.cells #[.int .u8 0, sv []] 58) := ⟨_, rfl⟩
    obtain ⟨k, hk⟩ : ∃ k, k = w.heap.size := ⟨_, rfl⟩
    have hI' : IB W1 k 0 [] := by rw [hW, hk]; exact hI
    rw [← hW] at hB
    have HB := Lib.hid hB
    have HI := Lib.hid hI'
    have HW := Lib.hid hW
    have HK := Lib.hid hk
    have c0 : W1.cell? ⟨k, 0, none⟩ = some (.int .u8 0) := hI'.c0
    have c1 := hI'.c1
    have f0 := hI'.free 0
    have f1 := hI'.free 1
    clear hI hI' hB hW hk hse
    cases ht : tagB t with
    | false =>
      rw [ht, if_pos rfl] at HC
      rw [ht] at HT
      clear ht
      go_enter Tryd.func58, Tryd.ntmps58
      go_wp2_with (go_at_call 48; rw [← HW.out, ← HK.out]; refine (HT.out _).mono ?_; rintro e w1 ⟨rfl, rfl⟩)
      rw [HC.out]
      exact cut_end (t := 0) (v := []) (HI.out.put 0 []) (below_put2 HB.out (by rw [HK.out]; exact Nat.le_refl _) _ _) _ [] 4 rfl rfl rfl rfl
    | true =>
      rw [ht, if_neg (by simp)] at HC
      rw [ht] at HT
      clear ht
      cases hc : cutLen r with
      | er x =>
        rw [hc] at HC HL
        have HE := Lib.hid (cutLen_er hc)
        have hx0 : ¬ ((x : Int) = 0) := by rcases HE.out with e | e <;> omega
        have HL' := Lib.hid (fun W => show Calls Tryd.prog 78 #[sv r] W (fun e w' => e = .returned (.tuple #[.int .i64 0, sv [], .int .i64 (x : Int)]) ∧ Below W.heap.size W w') from HL.out W)
        have hx1 : ¬ x = 0 := by omega
        clear hc HL
        go_enter Tryd.func58, Tryd.ntmps58
        go_wp2_with (first
          | (go_at_call 48; rw [← HW.out, ← HK.out]; refine (HT.out _).mono ?_; rintro e w1 ⟨rfl, rfl⟩)
          | (go_at_call 78; refine (HL'.out _).mono ?_; rintro e w2 ⟨rfl, hb2⟩; have hI2 := HI.out.below hb2 HI.out.lt; have HI2 := Lib.hid hI2; have d0 : w2.cell? ⟨k, 0, none⟩ = some (.int .u8 0) := hI2.c0; have d1 := hI2.c1; have g0 := hI2.free 0; have g1 := hI2.free 1; clear hI2))
        rw [HC.out]
        exact cut_end (t := 0) (v := []) (HI2.out.put 0 []) (below_put2 (HB.out.trans (hb2.mono HB.out.size)) (by rw [HK.out]; exact Nat.le_refl _) _ _) _ [] (x : Int) rfl rfl rfl rfl
      | ok p =>
        obtain ⟨n, q⟩ := p
        rw [hc] at HC HL
        have HQ := Lib.hid (cutLen_ok hc)
        have HL' := Lib.hid (fun W => show Calls Tryd.prog 78 #[sv r] W (fun e w' => e = .returned (.tuple #[.int .i64 (n : Int), sv q, .int .i64 0]) ∧ Below W.heap.size W w') from HL.out W)
        have hq : q.length ≤ r.length := by rw [HQ.out.2]; simp
        have hn : n ≤ 65535 := HQ.out.1
        clear hc HL
        by_cases hl : q.length < n
        · have HC' := Lib.hid (show cutP s = .er 8 by rw [HC.out]; show (if q.length < n then _ else _) = _; rw [if_pos hl])
          clear HC
          go_enter Tryd.func58, Tryd.ntmps58
          go_wp2_with (first
            | (go_at_call 48; rw [← HW.out, ← HK.out]; refine (HT.out _).mono ?_; rintro e w1 ⟨rfl, rfl⟩)
            | (go_at_call 78; refine (HL'.out _).mono ?_; rintro e w2 ⟨rfl, hb2⟩; have hI2 := HI.out.below hb2 HI.out.lt; have HI2 := Lib.hid hI2; have d0 : w2.cell? ⟨k, 0, none⟩ = some (.int .u8 0) := hI2.c0; have d1 := hI2.c1; have g0 := hI2.free 0; have g1 := hI2.free 1; clear hI2))
          rw [HC'.out]
          exact cut_end (t := 0) (v := []) (HI2.out.put 0 []) (below_put2 (HB.out.trans (hb2.mono HB.out.size)) (by rw [HK.out]; exact Nat.le_refl _) _ _) _ [] 8 rfl rfl rfl rfl
        · have HC' := Lib.hid (show cutP s = .ok ((t, q.take n), q.drop n) by rw [HC.out]; show (if q.length < n then _ else _) = _; rw [if_neg hl])
          have HCL := Lib.hid (fun W => @clone_anyE W (q.take n) (by simp; omega))
          have he1 : (str q).extract 0 n = str (q.take n) := by rw [str_extract]; simp
          have he2 : (str q).extract n q.length = str (q.drop n) := by rw [str_extract]; simp
          have hqz := str_size q
          have hl2 : n ≤ q.length := by omega
          clear HC
          go_enter Tryd.func58, Tryd.ntmps58
          go_wp2_with (first
            | (go_at_call 48; rw [← HW.out, ← HK.out]; refine (HT.out _).mono ?_; rintro e w1 ⟨rfl, rfl⟩)
            | (go_at_call 78; refine (HL'.out _).mono ?_; rintro e w2 ⟨rfl, hb2⟩; have hI2 := HI.out.below hb2 HI.out.lt; have HI2 := Lib.hid hI2))
          go_region_with (go_at_call 59; refine (HCL.out _).mono ?_; rintro e w3 ⟨rfl, hb3'⟩; have hb3 : Below w2.heap.size w2 w3 := (Below.refl _ _).drew.trans (hb3'.mono (Nat.le_refl _)); clear hb3'; have hI3 := HI2.out.below hb3 HI2.out.lt; have HI3 := Lib.hid hI3; have d0 : w3.cell? ⟨k, 0, none⟩ = some (.int .u8 0) := hI3.c0; have d1 := hI3.c1; have g0 := hI3.free 0; have g1 := hI3.free 1; clear hI3)
          all_goals
            go_wp2_with fail
            rw [HC'.out]
            exact cut_end (t := t) (v := q.take n) (HI3.out.put t (q.take n)) (below_put2 (HB.out.trans ((hb2.trans (hb3.mono hb2.size)).mono HB.out.size)) (by rw [HK.out]; exact Nat.le_refl _) _ _) _ (q.drop n) 0 rfl rfl rfl rfl
end Go.Proofs.YtamlblfhjpajhaaDoor
