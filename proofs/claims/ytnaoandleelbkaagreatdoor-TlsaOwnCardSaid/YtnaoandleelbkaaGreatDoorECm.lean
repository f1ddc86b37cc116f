/-
  The contracts of cutNumber, cutLength.
  The contracts of cutLength.
  The contracts of cut, Get.
  The contracts of Get; of the laws' wrong.
-/
import Derived.OwnWalk
import Derived.Test.YtnaoandleelbkaaGreatDoorEBm
import Derived.Laws.Rows
import Derived.Test.YtnaoandleelbkaaGreatDoorEPut
namespace Go.Proofs.YtnaoandleelbkaaGreatDoor
set_option linter.unusedSimpArgs false
set_option linter.unusedVariables false
open Go Go.RowKit
set_option maxRecDepth 100000

theorem numI_numF (n : Nat) (l : List UInt8) : numI (n : Int) l = (numF n l : Nat) := by
  induction l generalizing n with
  | nil => rfl
  | cons b l ih =>
    have := ih (n * 256 + b.toNat)
    rw [numF, ← this]
    show numI ((n : Int) * 256 + b.toNat) l = _
    congr 1
/-- What cutLength tells. -/
def clV : Rd (Nat × List UInt8) → Value
  | .ok (n, r) => .tuple #[.int .i64 (n : Int), sv r, .int .i64 0]
  | .er e => .tuple #[.int .i64 0, sv [], .int .i64 (e : Int)]

set_option maxHeartbeats 4000000 in
theorem cutNumber_any {w : World} (s : List UInt8) (many : Nat) (least : UInt8) (hm : many ≤ 2) (hs : s.length ≤ 9223372036854775807) :
    Calls Tryz.prog 238 #[sv s, .int .i64 many, .int .u8 (least.toNat : Int)] w fun e w' => e = .returned (clV (cutNum s many least.toNat)) ∧ Below w.heap.size w w' := by
  have hsz := str_size s
  have HE0 : s.length = 0 → s.isEmpty = true := fun h => by rw [List.length_eq_zero_iff.1 h]; rfl
  by_cases h0 : 0 < s.length
  · obtain ⟨b, hb⟩ : ∃ b, b = s.getD 0 0 := ⟨_, rfl⟩
    have hx : (str s)[0]'(by rw [hsz]; exact h0) = b := by rw [str_getD s 0 h0, hb]
    have hem : s.isEmpty = false := by cases s with
      | nil => cases h0
      | cons _ _ => rfl
    by_cases h1 : b.toNat < least.toNat
    · have HC := Lib.hid (show cutNum s many least.toNat = .er 4 by unfold cutNum; rw [if_pos ⟨h0, by rw [← hb]; exact h1⟩])
      clear HE0 hb hs hm
      go_enter Tryz.func238, Tryz.ntmps238
      go_wp2_with fail
      go_ret3
      rw [HC.out]
      exact ⟨rfl, Below.refl _ _⟩
    · have h1' : decide ((b.toNat : Int) < (least.toNat : Int)) = false := by rw [decide_eq_false_iff_not]; omega
      by_cases h2 : s.length < many
      · have HC := Lib.hid (show cutNum s many least.toNat = .er 8 by unfold cutNum; rw [if_neg (fun h => h1 (by rw [hb]; exact h.2)), if_pos h2])
        clear HE0 hb hs hm
        go_enter Tryz.func238, Tryz.ntmps238
        go_wp2_with fail
        go_ret3
        rw [HC.out]
        exact ⟨rfl, Below.refl _ _⟩
      · have HC := Lib.hid (show cutNum s many least.toNat = .ok (numF 0 (s.take many), s.drop many) by unfold cutNum; rw [if_neg (fun h => h1 (by rw [hb]; exact h.2)), if_neg h2])
        have h3 : many ≤ s.length := by omega
        have HNU := Lib.hid (fun W => @number_any W 0 0 (s.take many) (by unfold fits; decide) (by rw [List.length_take]; omega))
        rw [show numI 0 (s.take many) = ((numF 0 (s.take many) : Nat) : Int) from numI_numF 0 _] at HNU
        have he1 : (str s).extract 0 many = str (s.take many) := by rw [str_extract]; simp
        have he2 : (str s).extract many s.length = str (s.drop many) := by rw [str_extract]; simp
        clear HE0 hb hs hm
        go_enter Tryz.func238, Tryz.ntmps238
        go_wp2_with fail
        go_region_with (go_at_call 174; refine (HNU.out _).mono ?_; rintro e w1 ⟨rfl, rfl⟩)
        all_goals
          go_wp2_with fail
          go_ret3
          rw [HC.out]
          exact ⟨rfl, (Below.refl _ _).drew⟩
  · obtain rfl : s = [] := List.length_eq_zero_iff.1 (by omega)
    by_cases h2 : many = 0
    · subst h2
      have HC := Lib.hid (show cutNum [] 0 least.toNat = .ok (0, []) by unfold cutNum; rw [if_neg (by simp), if_neg (by simp)]; rfl)
      have HNU := Lib.hid (fun W => @number_any W 0 0 [] (by unfold fits; decide) (by simp))
      clear HE0 hs hm h0
      go_enter Tryz.func238, Tryz.ntmps238
      go_wp2_with fail
      go_region_with (go_at_call 174; refine (HNU.out _).mono ?_; rintro e w1 ⟨rfl, rfl⟩)
      all_goals
        go_wp2_with fail
        go_ret3
        rw [HC.out]
        exact ⟨rfl, (Below.refl _ _).drew⟩
    · have HC := Lib.hid (show cutNum [] many least.toNat = .er 8 by unfold cutNum; rw [if_neg (by simp), if_pos (by simp; omega)])
      have h3 : 0 < many := by omega
      clear HE0 hs hm h0 h2
      go_enter Tryz.func238, Tryz.ntmps238
      go_wp2_with fail
      go_ret3
      rw [HC.out]
      exact ⟨rfl, Below.refl _ _⟩

end Go.Proofs.YtnaoandleelbkaaGreatDoor

namespace Go.Proofs.YtnaoandleelbkaaGreatDoor
set_option linter.unusedSimpArgs false
set_option linter.unusedVariables false
open Go Go.RowKit
set_option maxRecDepth 100000

set_option maxHeartbeats 4000000 in
theorem cutLength_any {w : World} (s : List UInt8) (hs : s.length ≤ 9223372036854775807) :
    Calls Tryz.prog 227 #[sv s] w fun e w' => e = .returned (clV (cutLen s)) ∧ Below w.heap.size w w' := by
  have hsz := str_size s
  cases s with
  | nil =>
    go_enter Tryz.func227, Tryz.ntmps227
    go_wp2_with fail
    go_ret3
    exact ⟨rfl, Below.refl _ _⟩
  | cons b r =>
    have HC := Lib.hid (cutLen_cons b r)
    have hr : r.length ≤ 9223372036854775806 := by simpa using hs
    have H1 := Lib.hid (fun W => show Calls Tryz.prog 238 #[sv r, .int .i64 1, .int .u8 128] W (fun e w' => e = .returned (clV (cutNum r 1 128)) ∧ Below W.heap.size W w') from @cutNumber_any W r 1 128 (by omega) (by omega))
    have H2 := Lib.hid (fun W => show Calls Tryz.prog 238 #[sv r, .int .i64 2, .int .u8 1] W (fun e w' => e = .returned (clV (cutNum r 2 1)) ∧ Below W.heap.size W w') from @cutNumber_any W r 2 1 (by omega) (by omega))
    obtain ⟨s, hse⟩ : ∃ s, s = b :: r := ⟨_, rfl⟩
    have h0 : 0 < s.length := by rw [hse]; simp
    have hx : (str s)[0]'(by rw [str_size]; exact h0) = b := by subst hse; rfl
    have hem : s.isEmpty = false := by rw [hse]; rfl
    have hex : (str s).extract 1 s.length = str r := by rw [str_extract, hse]; simp
    rw [← hse]
    rw [← hse] at HC hsz
    clear hs hse hr
    by_cases h1 : b.toNat ≤ 127
    · rw [if_pos h1] at HC
      have hw : IntKind.i64.wrap (b.toNat : Int) = (b.toNat : Int) := by rw [IntKind.wrap_i64]; have := b.toNat_lt; omega
      clear H1 H2
      go_enter Tryz.func227, Tryz.ntmps227
      go_wp2_with fail
      go_ret3
      rw [HC.out]
      exact ⟨rfl, Below.refl _ _⟩
    · rw [if_neg h1] at HC
      by_cases h2 : b = 129
      · rw [if_pos h2] at HC
        have h2' : (b.toNat : Int) = 129 := by rw [h2]; rfl
        rw [← HC.out] at H1
        clear h2 H2
        cases hc : cutLen s with
        | ok p =>
          obtain ⟨n, q⟩ := p
          rw [hc] at H1
          clear hc HC
          have H1' := Lib.hid (fun W => show Calls Tryz.prog 238 #[sv r, .int .i64 1, .int .u8 128] W (fun e w' => e = .returned (.tuple #[.int .i64 (n : Int), sv q, .int .i64 0]) ∧ Below W.heap.size W w') from H1.out W)
          clear H1
          go_enter Tryz.func227, Tryz.ntmps227
          go_wp2_with (go_at_call 238; refine (H1'.out _).mono ?_; rintro e w1 ⟨rfl, hb1⟩)
          go_ret3
          exact ⟨rfl, hb1⟩
        | er x =>
          rw [hc] at H1
          clear hc HC
          have H1' := Lib.hid (fun W => show Calls Tryz.prog 238 #[sv r, .int .i64 1, .int .u8 128] W (fun e w' => e = .returned (.tuple #[.int .i64 0, sv [], .int .i64 (x : Int)]) ∧ Below W.heap.size W w') from H1.out W)
          clear H1
          go_enter Tryz.func227, Tryz.ntmps227
          go_wp2_with (go_at_call 238; refine (H1'.out _).mono ?_; rintro e w1 ⟨rfl, hb1⟩)
          go_ret3
          exact ⟨rfl, hb1⟩
      · rw [if_neg h2] at HC
        have h2' : ((b.toNat : Int) == 129) = false := by
          rw [beq_eq_false_iff_ne]; intro e; exact h2 (UInt8.toNat_inj.1 (show b.toNat = 129 by omega))
        by_cases h3 : b = 130
        · rw [if_pos h3] at HC
          have h3' : (b.toNat : Int) = 130 := by rw [h3]; rfl
          rw [← HC.out] at H2
          clear h2 h3 H1
          cases hc : cutLen s with
          | ok p =>
            obtain ⟨n, q⟩ := p
            rw [hc] at H2
            clear hc HC
            have H1' := Lib.hid (fun W => show Calls Tryz.prog 238 #[sv r, .int .i64 2, .int .u8 1] W (fun e w' => e = .returned (.tuple #[.int .i64 (n : Int), sv q, .int .i64 0]) ∧ Below W.heap.size W w') from H2.out W)
            clear H2
            go_enter Tryz.func227, Tryz.ntmps227
            go_wp2_with (go_at_call 238; refine (H1'.out _).mono ?_; rintro e w1 ⟨rfl, hb1⟩)
            go_ret3
            exact ⟨rfl, hb1⟩
          | er x =>
            rw [hc] at H2
            clear hc HC
            have H1' := Lib.hid (fun W => show Calls Tryz.prog 238 #[sv r, .int .i64 2, .int .u8 1] W (fun e w' => e = .returned (.tuple #[.int .i64 0, sv [], .int .i64 (x : Int)]) ∧ Below W.heap.size W w') from H2.out W)
            clear H2
            go_enter Tryz.func227, Tryz.ntmps227
            go_wp2_with (go_at_call 238; refine (H1'.out _).mono ?_; rintro e w1 ⟨rfl, hb1⟩)
            go_ret3
            exact ⟨rfl, hb1⟩
        · rw [if_neg h3] at HC
          have h3' : ((b.toNat : Int) == 130) = false := by
            rw [beq_eq_false_iff_ne]; intro e; exact h3 (UInt8.toNat_inj.1 (show b.toNat = 130 by omega))
          clear h2 h3 H1 H2
          go_enter Tryz.func227, Tryz.ntmps227
          go_wp2_with fail
          go_ret3
          rw [HC.out]
          exact ⟨rfl, Below.refl _ _⟩
end Go.Proofs.YtnaoandleelbkaaGreatDoor

namespace Go.Proofs.YtnaoandleelbkaaGreatDoor
set_option linter.unusedSimpArgs false
set_option linter.unusedVariables false
open Go Go.RowKit
set_option maxRecDepth 100000

theorem results_row_tmp2 {P : Program} {fn : Func} {p u v : Tmp} {ty : TypeId} (h : fn.results = #[.cell p ty, .tmp u, .tmp v]) (tmps : Array Value) (w : World) (g : Nat) (t : TypeId) (cs : Array Value) (fr : Nat × Nat) (d : TypeDesc)
    (hp : tmps.getD p undef = .pointer (some ⟨g, 0, none⟩)) (hg : w.heap[g]? = some (.cells cs t fr))
    (hu : P.underlying ty = some d) (hd : (match d with | .struct _ | .array _ _ => true | _ => false) = true) (hi : (P.info? ty).map (·.size) = some cs.size) :
    (results fn tmps).run P w = .ok (.tuple #[.agg cs, tmps.getD u undef, tmps.getD v undef]) w := by
  have hp' : tmps[p]?.getD undef = .pointer (some ⟨g, 0, none⟩) := by simpa using hp
  simp [results, h, hp', asAddr, run_loadVar_row w g t ty cs fr d hg hu hd hi]
/-- What cut tells. -/
def cutV : Rd (Tv × List UInt8) → Value
  | .ok (x, r) => .tuple #[itv x.1 x.2, sv r, .int .i64 0]
  | .er e => .tuple #[itv 0 [], sv [], .int .i64 (e : Int)]

theorem IB.free {w : World} {k : Nat} {t : UInt8} {v : List UInt8} (h : IB w k t v) (j : Nat) : w.frozen? ⟨k, j, none⟩ = false := freeAt h j
theorem IB.put {w : World} {k : Nat} {t : UInt8} {v : List UInt8} (h : IB w k t v) (u : UInt8) (x : List UInt8) : IB ((w.setCell ⟨k, 0, none⟩ (.int .u8 (u.toNat : Int))).setCell ⟨k, 1, none⟩ (sv x)) k u x := by
  unfold IB at h ⊢
  simp [World.setCell, Array.getElem?_modify, h]
theorem below_put2 {n k : Nat} {w0 w : World} (h : Below n w0 w) (hk : n ≤ k) (x y : Value) : Below n w0 ((w.setCell ⟨k, 0, none⟩ x).setCell ⟨k, 1, none⟩ y) := (h.setCell (p := ⟨k, 0, none⟩) hk _).setCell (p := ⟨k, 1, none⟩) hk _
/-- At cut's end: its item lies at k. -/
theorem cut_end {w W : World} {k : Nat} {t : UInt8} {v : List UInt8} (hI : IB W k t v) (hB : Below w.heap.size w W) (tmps : Array Value) (r : List UInt8) (e : Int)
    (h2 : tmps.getD 2 undef = .pointer (some ⟨k, 0, none⟩)) (h3 : tmps.getD 3 undef = sv r) (h4 : tmps.getD 4 undef = .int .i64 e) {x : Rd (Tv × List UInt8)} (hx : cutV x = .tuple #[itv t v, sv r, .int .i64 e]) :
    bodyPost Tryz.prog Tryz.f201 (fun e w' => e = .returned (cutV x) ∧ Below w.heap.size w w') Exit.ret { tmps := tmps, defers := [] } W := by
  refine bodyPost_ret (v := .tuple #[itv t v, sv r, .int .i64 e]) ?_ rfl ⟨by rw [hx], hB⟩
  rw [results_row_tmp2 (p := 2) (u := 3) (v := 4) (fr := (0, 0)) Tryz.results201 tmps W k 143 _ _ h2 hI Tryz.underlying143 rfl (by kernel_rfl), h3, h4]
  rfl

set_option maxHeartbeats 4000000 in
theorem cut_any {w : World} (s : List UInt8) (hs : s.length ≤ 9223372036854775807) :
    Calls Tryz.prog 201 #[sv s] w fun e w' => e = .returned (cutV (cutP s)) ∧ Below w.heap.size w w' := by
  have hB := below_alloc w (.cells #[.int .u8 0, sv []] 143)
  have hI := IB.new w 0 []
  cases s with
  | nil =>
    have HB := Lib.hid hB
    have HI := Lib.hid hI
    clear hB hI hs
    go_enter Tryz.func201, Tryz.ntmps201
    go_wp2_with fail
    exact cut_end (t := 0) (v := []) HI.out HB.out _ [] 8 rfl rfl rfl rfl
  | cons t r =>
    have HC := Lib.hid (cutP_cons t r)
    have hrl : r.length ≤ 9223372036854775806 := by simpa using hs
    have HT := Lib.hid (fun W => @isTag_any W t)
    have HL := Lib.hid (fun W => @cutLength_any W r (by omega))
    obtain ⟨s, hse⟩ : ∃ s, s = t :: r := ⟨_, rfl⟩
    have h0 : 0 < s.length := by rw [hse]; simp
    have hsz := str_size s
    have hx : (str s)[0]'(by rw [str_size]; exact h0) = t := by subst hse; rfl
    have hem : s.isEmpty = false := by rw [hse]; rfl
    have hex : (str s).extract 1 s.length = str r := by rw [str_extract, hse]; simp
    rw [← hse] at HC hs ⊢
    obtain ⟨W1, hW⟩ : ∃ W1, W1 = w.alloc (.cells #[.int .u8 0, sv []] 143) := ⟨_, rfl⟩
    obtain ⟨k, hk⟩ : ∃ k, k = w.heap.size := ⟨_, rfl⟩
    have hI' : IB W1 k 0 [] := by rw [hW, hk]; exact hI
    rw [← hW] at hB
    have HB := Lib.hid hB
    have HI := Lib.hid hI'
    have HW := Lib.hid hW
    have HK := Lib.hid hk
    have c0 : W1.cell? ⟨k, 0, none⟩ = some (.int .u8 0) := hI'.c0
    have c1 := hI'.c1
    have f0 := hI'.free 0
    have f1 := hI'.free 1
    clear hI hI' hB hW hk hse
    cases ht : tagB t with
    | false =>
      rw [ht, if_pos rfl] at HC
      rw [ht] at HT
      clear ht
      go_enter Tryz.func201, Tryz.ntmps201
      go_wp2_with (go_at_call 168; rw [← HW.out, ← HK.out]; refine (HT.out _).mono ?_; rintro e w1 ⟨rfl, rfl⟩)
      rw [HC.out]
      exact cut_end (t := 0) (v := []) (HI.out.put 0 []) (below_put2 HB.out (by rw [HK.out]; exact Nat.le_refl _) _ _) _ [] 4 rfl rfl rfl rfl
    | true =>
      rw [ht, if_neg (by simp)] at HC
      rw [ht] at HT
      clear ht
      cases hc : cutLen r with
      | er x =>
        rw [hc] at HC HL
        have HE := Lib.hid (cutLen_er hc)
        have hx0 : ¬ ((x : Int) = 0) := by rcases HE.out with e | e <;> omega
        have HL' := Lib.hid (fun W => show Calls Tryz.prog 227 #[sv r] W (fun e w' => e = .returned (.tuple #[.int .i64 0, sv [], .int .i64 (x : Int)]) ∧ Below W.heap.size W w') from HL.out W)
        have hx1 : ¬ x = 0 := by omega
        clear hc HL
        go_enter Tryz.func201, Tryz.ntmps201
        go_wp2_with (first
          | (go_at_call 168; rw [← HW.out, ← HK.out]; refine (HT.out _).mono ?_; rintro e w1 ⟨rfl, rfl⟩)
          | (go_at_call 227; refine (HL'.out _).mono ?_; rintro e w2 ⟨rfl, hb2⟩; have hI2 := HI.out.below hb2 HI.out.lt; have HI2 := Lib.hid hI2; have d0 : w2.cell? ⟨k, 0, none⟩ = some (.int .u8 0) := hI2.c0; have d1 := hI2.c1; have g0 := hI2.free 0; have g1 := hI2.free 1; clear hI2))
        rw [HC.out]
        exact cut_end (t := 0) (v := []) (HI2.out.put 0 []) (below_put2 (HB.out.trans (hb2.mono HB.out.size)) (by rw [HK.out]; exact Nat.le_refl _) _ _) _ [] (x : Int) rfl rfl rfl rfl
      | ok p =>
        obtain ⟨n, q⟩ := p
        rw [hc] at HC HL
        have HQ := Lib.hid (cutLen_ok hc)
        have HL' := Lib.hid (fun W => show Calls Tryz.prog 227 #[sv r] W (fun e w' => e = .returned (.tuple #[.int .i64 (n : Int), sv q, .int .i64 0]) ∧ Below W.heap.size W w') from HL.out W)
        have hq : q.length ≤ r.length := by rw [HQ.out.2]; simp
        have hn : n ≤ 65535 := HQ.out.1
        clear hc HL
        by_cases hl : q.length < n
        · have HC' := Lib.hid (show cutP s = .er 8 by rw [HC.out]; show (if q.length < n then _ else _) = _; rw [if_pos hl])
          clear HC
          go_enter Tryz.func201, Tryz.ntmps201
          go_wp2_with (first
            | (go_at_call 168; rw [← HW.out, ← HK.out]; refine (HT.out _).mono ?_; rintro e w1 ⟨rfl, rfl⟩)
            | (go_at_call 227; refine (HL'.out _).mono ?_; rintro e w2 ⟨rfl, hb2⟩; have hI2 := HI.out.below hb2 HI.out.lt; have HI2 := Lib.hid hI2; have d0 : w2.cell? ⟨k, 0, none⟩ = some (.int .u8 0) := hI2.c0; have d1 := hI2.c1; have g0 := hI2.free 0; have g1 := hI2.free 1; clear hI2))
          rw [HC'.out]
          exact cut_end (t := 0) (v := []) (HI2.out.put 0 []) (below_put2 (HB.out.trans (hb2.mono HB.out.size)) (by rw [HK.out]; exact Nat.le_refl _) _ _) _ [] 8 rfl rfl rfl rfl
        · have HC' := Lib.hid (show cutP s = .ok ((t, q.take n), q.drop n) by rw [HC.out]; show (if q.length < n then _ else _) = _; rw [if_neg hl])
          have HCL := Lib.hid (fun W => @clone_anyE W (q.take n) (by simp; omega))
          have he1 : (str q).extract 0 n = str (q.take n) := by rw [str_extract]; simp
          have he2 : (str q).extract n q.length = str (q.drop n) := by rw [str_extract]; simp
          have hqz := str_size q
          have hl2 : n ≤ q.length := by omega
          clear HC
          go_enter Tryz.func201, Tryz.ntmps201
          go_wp2_with (first
            | (go_at_call 168; rw [← HW.out, ← HK.out]; refine (HT.out _).mono ?_; rintro e w1 ⟨rfl, rfl⟩)
            | (go_at_call 227; refine (HL'.out _).mono ?_; rintro e w2 ⟨rfl, hb2⟩; have hI2 := HI.out.below hb2 HI.out.lt; have HI2 := Lib.hid hI2))
          go_region_with (go_at_call 69; refine (HCL.out _).mono ?_; rintro e w3 ⟨rfl, hb3'⟩; have hb3 : Below w2.heap.size w2 w3 := (Below.refl _ _).drew.trans (hb3'.mono (Nat.le_refl _)); clear hb3'; have hI3 := HI2.out.below hb3 HI2.out.lt; have HI3 := Lib.hid hI3; have d0 : w3.cell? ⟨k, 0, none⟩ = some (.int .u8 0) := hI3.c0; have d1 := hI3.c1; have g0 := hI3.free 0; have g1 := hI3.free 1; clear hI3)
          all_goals
            go_wp2_with fail
            rw [HC'.out]
            exact cut_end (t := t) (v := q.take n) (HI3.out.put t (q.take n)) (below_put2 (HB.out.trans ((hb2.trans (hb3.mono hb2.size)).mono HB.out.size)) (by rw [HK.out]; exact Nat.le_refl _) _ _) _ (q.drop n) 0 rfl rfl rfl rfl
end Go.Proofs.YtnaoandleelbkaaGreatDoor

namespace Go.Proofs.YtnaoandleelbkaaGreatDoor
set_option linter.unusedSimpArgs false
set_option linter.unusedVariables false
open Go Go.RowKit
set_option maxRecDepth 100000

section
variable {P : Program} (w : World) {o : Oper} {a : Act}
theorem exec_load_row {t : TypeId} {x : Operand} (ho : o.op = .load t x) {b : Nat} (hd : a.eval x = .pointer (some ⟨b, 0, none⟩)) {cs : Array Value} {ty : TypeId} {fr : Nat × Nat} (hc : w.heap[b]? = some (.cells cs ty fr)) {d : TypeDesc} (hu : P.underlying t = some d) (hn : (match d with | .struct _ | .array _ _ => true | _ => false) = true)
    (hi : (P.info? t).map (·.size) = some cs.size) : (execOp a.eval o).run P w = .ok (.value (.agg cs)) w := by
  unfold execOp
  simp [ho, hd, Instr.loadAt, Instr.sureAddr, run_loadVar_row w b ty t cs fr d hc hu hn hi]
end
theorem cutP_len {s r v : List UInt8} {t : UInt8} (h : cutP s = .ok ((t, v), r)) : r.length ≤ s.length ∧ v.length ≤ 65535 ∧ r.length + 2 ≤ s.length := by
  obtain ⟨h1, h2, rfl⟩ := cutP_ok h
  have h3 := putT_length t v
  have h4 := lenL_length v.length
  simp; omega
/-- At Get's end. -/
theorem get_end {w W : World} {k : Nat} {t : UInt8} {v : List UInt8} (hI : IB W k t v) (hB : Below w.heap.size w W) (tmps : Array Value) (r : List UInt8) (e : Int)
    (h2 : tmps.getD 2 undef = .pointer (some ⟨k, 0, none⟩)) (h3 : tmps.getD 3 undef = sv r) (h4 : tmps.getD 4 undef = .int .i64 e) {x : Rd (Tv × List UInt8)} (hx : cutV x = .tuple #[itv t v, sv r, .int .i64 e]) :
    bodyPost Tryz.prog Tryz.f172 (fun e w' => e = .returned (cutV x) ∧ Below w.heap.size w w') Exit.ret { tmps := tmps, defers := [] } W := by
  refine bodyPost_ret (v := .tuple #[itv t v, sv r, .int .i64 e]) ?_ rfl ⟨by rw [hx], hB⟩
  rw [results_row_tmp2 (p := 2) (u := 3) (v := 4) (fr := (0, 0)) Tryz.results172 tmps W k 143 _ _ h2 hI Tryz.underlying143 rfl (by kernel_rfl), h3, h4]
  rfl

/-- Get, of what cut tells. -/
theorem get_of {w : World} {s : List UInt8} {t : UInt8} {v r : List UInt8} {e : Int} (hr : r.length ≤ 281474976710656) {y : Rd (Tv × List UInt8)} (hy : cutV y = .tuple #[itv t v, sv r, .int .i64 e])
    (hcut : ∀ W, Calls Tryz.prog 201 #[sv s] W fun z w' => z = .returned (.tuple #[itv t v, sv r, .int .i64 e]) ∧ Below W.heap.size W w') :
    Calls Tryz.prog 172 #[sv s] w fun z w' => z = .returned (cutV y) ∧ Below w.heap.size w w' := by
  have hB := below_alloc w (.cells #[.int .u8 0, sv []] 143)
  have hI := IB.new w 0 []
  obtain ⟨W1, hW⟩ : ∃ W1, W1 = w.alloc (.cells #[.int .u8 0, sv []] 143) := ⟨_, rfl⟩
  obtain ⟨k, hk⟩ : ∃ k, k = w.heap.size := ⟨_, rfl⟩
  have hI' : IB W1 k 0 [] := by rw [hW, hk]; exact hI
  rw [← hW] at hB
  have HB := Lib.hid hB
  have HI := Lib.hid hI'
  have HW := Lib.hid hW
  have HK := Lib.hid hk
  have HKN := Lib.hid (show w.heap.size ≤ k by rw [hk]; exact Nat.le_refl _)
  have HY := Lib.hid hy
  have HC := Lib.hid hcut
  have HCL := Lib.hid (fun W => @clone_anyE W r hr)
  unfold itv at HC
  clear hI hI' hB hW hk hy hcut hr
  go_enter Tryz.func172, Tryz.ntmps172
  go_wp2_with (go_at_call 201; rw [← HW.out, ← HK.out]; refine (HC.out _).mono ?_; rintro z w2 ⟨rfl, hb2⟩; have hI2 := HI.out.below hb2 HI.out.lt; have HI2 := Lib.hid hI2; have d0 : w2.cell? ⟨k, 0, none⟩ = some (.int .u8 0) := hI2.c0; have d1 := hI2.c1; have g0 := hI2.free 0; have g1 := hI2.free 1; clear hI2)
  have hI3 := HI2.out.put t v
  have hB3 := below_put2 (HB.out.trans (hb2.mono HB.out.size)) HKN.out (.int .u8 (t.toNat : Int)) (sv v)
  generalize (w2.setCell ⟨k, 0, none⟩ (.int .u8 (t.toNat : Int))).setCell ⟨k, 1, none⟩ (sv v) = W3 at hI3 hB3 ⊢
  have HI3 := Lib.hid hI3
  have HB3 := Lib.hid hB3
  clear hI3 hB3 d0 d1 g0 g1 hb2
  refine wp_region_held_drew (S := fun W => IB W k t v ∧ Below w.heap.size w W) (by kernel_rfl) ⟨HI3.out, HB3.out.drew⟩ (fun hHeld => ?_)
  refine wpAnyH_take (i := 0) (v := itv t v) rfl (by kernel_rfl) (by kernel_rfl) (by kernel_rfl) (fun _ _ _ h => h) (Or.inl ⟨by rfl, fun w' hSw => exec_load_row w' rfl rfl hSw.1 Tryz.underlying143 rfl (by kernel_rfl)⟩) (by assumption) ?_
  try simp only [List.getElem_toArray, List.getElem_cons_zero, List.getElem_cons_succ, Act.put, List.setIfInBounds_toArray, List.set_cons_zero, List.set_cons_succ]
  refine wpAnyH_take (i := 1) (v := ?vv1_1) rfl (by kernel_rfl) (by kernel_rfl) (by kernel_rfl) (fun _ _ _ h => h) (Or.inl ⟨by rfl, ?hy1_1⟩) (by assumption) ?rest1_1
  case hy1_1 => (intro w' hSw; (try dsimp only at hSw); go_simp; try with_reducible rfl)
  try simp only [List.getElem_toArray, List.getElem_cons_zero, List.getElem_cons_succ, Act.put, List.setIfInBounds_toArray, List.set_cons_zero, List.set_cons_succ]
  refine wpAnyH_take (i := 3) (v := ?vv3_1) rfl (by kernel_rfl) (by kernel_rfl) (by kernel_rfl) (fun _ _ _ h => h) (Or.inl ⟨by rfl, ?hy3_1⟩) (by assumption) ?rest3_1
  case hy3_1 => (intro w' hSw; (try dsimp only at hSw); go_simp; try with_reducible rfl)
  try simp only [List.getElem_toArray, List.getElem_cons_zero, List.getElem_cons_succ, Act.put, List.setIfInBounds_toArray, List.set_cons_zero, List.set_cons_succ]
  refine wpAnyH_ready (rs := [2]) (by kernel_rfl) (by simp) ?_
  refine AllReadyH.cons rfl (fun K hK => ?_) AllReadyH.nil
  go_simp
  go_at_call 69
  refine (HCL.out _).mono ?_
  rintro z w5 ⟨rfl, hb5'⟩
  have hb5 : Below W3.heap.size W3 w5 := (Below.refl _ _).drew.trans (hb5'.mono (Nat.le_refl _))
  clear hb5'
  have hI5 := HI3.out.below hb5 HI3.out.lt
  have HI5 := Lib.hid hI5
  have hB5 := HB3.out.trans (hb5.mono HB3.out.size)
  have d0 := hI5.c0
  have d1 := hI5.c1
  have g0 := hI5.free 0
  have g1 := hI5.free 1
  clear hI5
  refine hK.out _ _ ⟨HI5.out, hB5⟩ (fun hHeld => ?_)
  clear hK K
  try simp only [List.getElem_toArray, List.getElem_cons_zero, List.getElem_cons_succ, Act.put, List.setIfInBounds_toArray, List.set_cons_zero, List.set_cons_succ]
  refine wpAnyH_ready (rs := [4]) (by kernel_rfl) (by simp) ?_
  refine AllReadyH.cons rfl (fun K hK => ?_) AllReadyH.nil
  unfold itv
  go_simp
  refine hK.out _ _ ⟨HI5.out.put t v, below_put2 hB5 HKN.out _ _⟩ (fun hHeld => ?_)
  clear hK K
  try simp only [List.getElem_toArray, List.getElem_cons_zero, List.getElem_cons_succ, Act.put, List.setIfInBounds_toArray, List.set_cons_zero, List.set_cons_succ]
  refine wpAnyH_take (i := 5) (v := ?vv5_1) rfl (by kernel_rfl) (by kernel_rfl) (by kernel_rfl) (fun _ _ _ h => h) (Or.inl ⟨by rfl, ?hy5_1⟩) (by assumption) ?rest5_1
  case hy5_1 => (intro w' hSw; (try dsimp only at hSw); go_simp; try with_reducible rfl)
  try simp only [List.getElem_toArray, List.getElem_cons_zero, List.getElem_cons_succ, Act.put, List.setIfInBounds_toArray, List.set_cons_zero, List.set_cons_succ]
  refine wpAnyH_take (i := 6) (v := ?vv6_1) rfl (by kernel_rfl) (by kernel_rfl) (by kernel_rfl) (fun _ _ _ h => h) (Or.inl ⟨by rfl, ?hy6_1⟩) (by assumption) ?rest6_1
  case hy6_1 => (intro w' hSw; (try dsimp only at hSw); go_simp; try with_reducible rfl)
  try simp only [List.getElem_toArray, List.getElem_cons_zero, List.getElem_cons_succ, Act.put, List.setIfInBounds_toArray, List.set_cons_zero, List.set_cons_succ]
  refine wpAnyH_done (by kernel_rfl) ?_ _
  go_wp2_with fail
  exact get_end (t := t) (v := v) (HI5.out.put t v) (below_put2 hB5 HKN.out _ _) _ r e rfl rfl rfl HY.out
end Go.Proofs.YtnaoandleelbkaaGreatDoor
