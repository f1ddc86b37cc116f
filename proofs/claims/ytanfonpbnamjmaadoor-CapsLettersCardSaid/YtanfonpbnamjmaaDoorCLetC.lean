/-
  CapsLetters's walk: true for any lines, which letters, another number, another first line, a place.
-/
import Derived.Deep.RegionHeld3
import Derived.Test.YtanfonpbnamjmaaDoorCTurned
import Derived.Test.YtanfonpbnamjmaaDoorTextStep
namespace Go.Proofs.YtanfonpbnamjmaaDoor
open Go Go.RowKit Go.Shelf
set_option maxRecDepth 100000

theorem bulk_lenL (xs : List (List UInt8)) : 10 * xs.length ≤ bulk xs := by
  induction xs with
  | nil => simp
  | cons x xs ih => simp only [bulk, List.map_cons, List.sum_cons, List.length_cons] at ih ⊢; omega
theorem bulk_memL {xs : List (List UInt8)} {x : List UInt8} (h : x ∈ xs) : min 9000 x.length ≤ bulk xs := by
  induction xs with
  | nil => cases h
  | cons y xs ih =>
    simp only [bulk, List.map_cons, List.sum_cons] at ih ⊢
    rcases List.mem_cons.1 h with rfl | h
    · omega
    · have := ih h; omega
theorem short_isL {xs : List (List UInt8)} (h : longB xs = false) : (∀ x ∈ xs, x.length ≤ 1000000) ∧ xs.length ≤ 900 := by
  unfold longB at h
  have h1 := of_decide_eq_false h
  refine ⟨fun x hx => ?_, ?_⟩
  · have := bulk_memL hx; omega
  · have := bulk_lenL xs; omega
/-- The texts so far, of the same letters each. -/
structure LI (w : World) (xs : List (List UInt8)) (k : Nat) (ts : List (List UInt8)) (v : Value) (W : World) : Prop where
  bl : BL w W
  len : ts.length = k
  alike : ts.map greatL = (xs.take k).map greatL
  short : ∀ t ∈ ts, t.length ≤ 1000000
  own : W.ownsRow w.heap.size 9 1 v ts.length (ts.map sv)
theorem LI.start {w W : World} {xs : List (List UInt8)} (h : BL w W) : LI w xs 0 [] (.slice none 0 0) W := ⟨h, rfl, rfl, fun t h => by simp at h, World.ownsRow_nil _ _ _ _⟩
theorem LI.below {w W W' : World} {xs ts : List (List UInt8)} {k : Nat} {v : Value} (h : LI w xs k ts v W) (hb : Below W.heap.size W W') : LI w xs k ts v W' := ⟨h.bl.step hb, h.len, h.alike, h.short, owns_below h.own hb⟩
theorem LI.add {w W W' : World} {xs ts : List (List UInt8)} {k : Nat} {v : Value} {t : List UInt8} {C : Array Value} {g cap : Nat} (h : LI w xs k ts v W) (hw : LW w) (hk : k < xs.length) (ha : Alike (xs[k]) t) (hx : (xs[k]).length ≤ 1000000)
    (hown : W'.ownsRow w.heap.size 9 1 (.slice (some ⟨g, 0, none⟩) (ts.length + 1) cap) (ts.length + 1) ((ts ++ [t]).map sv)) (hgr : (W.alloc (.cells C 9)).grownBy W' v.ownBlock) : LI w xs (k + 1) (ts ++ [t]) (.slice (some ⟨g, 0, none⟩) (k + 1) cap) W' := by
  have hz := h.bl.size
  have hbl : Below w.heap.size w W' := Below.grown (h.bl.below.alloc hz _) hgr (by simp; omega) fun j hj => (h.own.lt j hj).1
  refine ⟨⟨hbl, hw.below hbl⟩, by rw [List.length_append, h.len]; rfl, ?_, fun y hy => ?_, ?_⟩
  · rw [List.map_append, h.alike, List.take_succ_eq_append_getElem hk, List.map_append, List.map_cons, List.map_nil, ha.2]
    rfl
  · rcases List.mem_append.1 hy with hy | hy
    · exact h.short y hy
    · simp only [List.mem_singleton] at hy
      rw [hy, ha.1]; exact hx
  · rw [List.length_append]
    have := hown
    rw [← h.len]
    exact this
theorem LI.form {w W : World} {xs ts : List (List UInt8)} {k : Nat} {v : Value} (h : LI w xs k ts v W) : ∃ A c, v = .slice A k c := by
  rcases h.own.2 with ⟨rfl, h0⟩ | ⟨g, cap, cur, rfl, _⟩
  · exact ⟨none, 0, by rw [← h.len, h0]⟩
  · exact ⟨_, _, by rw [h.len]⟩
theorem cbL {W : World} {k : Nat} {a0 a1 a2 a3 a4 a5 : Bool} {a6 : Int} (h : W.heap[k]? = some (.cells #[.bool a0, .bool a1, .bool a2, .bool a3, .bool a4, .bool a5, .int .i64 a6] 50 (0, 0))) :
    W.cell? ⟨k, 0, none⟩ = some (.bool a0) ∧ W.cell? ⟨k, 1, none⟩ = some (.bool a1) ∧ W.cell? ⟨k, 2, none⟩ = some (.bool a2) ∧ W.cell? ⟨k, 3, none⟩ = some (.bool a3) ∧ W.cell? ⟨k, 4, none⟩ = some (.bool a4) ∧ W.cell? ⟨k, 5, none⟩ = some (.bool a5) ∧ W.cell? ⟨k, 6, none⟩ = some (.int .i64 a6) :=
  ⟨by rw [cellAt h]; rfl, by rw [cellAt h]; rfl, by rw [cellAt h]; rfl, by rw [cellAt h]; rfl, by rw [cellAt h]; rfl, by rw [cellAt h]; rfl, by rw [cellAt h]; rfl⟩

theorem sev_ways (b0 b1 b2 b3 b4 b5 : Bool) (b6 : Int) : (b0 = false ∧ b1 = false ∧ b2 = false ∧ b3 = false ∧ b4 = false ∧ b5 = false ∧ b6 = 0) ∨ b0 = true ∨ (b0 = false ∧ b1 = true) ∨ (b0 = false ∧ b1 = false ∧ b2 = true) ∨ (b0 = false ∧ b1 = false ∧ b2 = false ∧ b3 = true) ∨ (b0 = false ∧ b1 = false ∧ b2 = false ∧ b3 = false ∧ b4 = true) ∨ (b0 = false ∧ b1 = false ∧ b2 = false ∧ b3 = false ∧ b4 = false ∧ b5 = true) ∨ (b0 = false ∧ b1 = false ∧ b2 = false ∧ b3 = false ∧ b4 = false ∧ b5 = false ∧ (b6 == 0) = false) := by
  by_cases h : b6 = 0
  · cases b0 <;> cases b1 <;> cases b2 <;> cases b3 <;> cases b4 <;> cases b5 <;> simp [h]
  · cases b0 <;> cases b1 <;> cases b2 <;> cases b3 <;> cases b4 <;> cases b5 <;> simp [h]
theorem at_place (a : Int) (n : Nat) (hn : n ≤ 1000) : ∃ p : Nat, wrap64 ((IntKind.u64.wrap a).tmod ((n : Int) + 1)) = (p : Int) ∧ p ≤ n := by
  obtain ⟨u, hu⟩ : ∃ u : Nat, IntKind.u64.wrap a = (u : Int) := ⟨(a % 18446744073709551616).toNat, by
    have h1 : IntKind.u64.wrap a = a % 18446744073709551616 := by unfold IntKind.wrap; simp [IntKind.bits, IntKind.signed]
    omega⟩
  have hm : u % (n + 1) < n + 1 := Nat.mod_lt _ (by omega)
  refine ⟨u % (n + 1), ?_, by omega⟩
  rw [hu, show ((u : Int).tmod ((n : Int) + 1)) = ((u % (n + 1) : Nat) : Int) from rfl]
  exact IntWalk.wrap64_in _ ⟨by omega, by omega⟩
set_option maxHeartbeats 16000000 in
theorem letters_long (xs : List (List UInt8)) (f : List UInt8) (v : Value) (q n at0 : Int) (w : World) (hw : LW w) (hx : SR w v xs) (hn : xs.length ≤ 140737488351232) (hl : ∀ x ∈ xs, x.length ≤ 9223372036854775807) (hb : longB xs = true ∨ (longB xs = false ∧ 5000 < f.length)) :
    Calls Tryd.prog 9 #[v, .int .u64 q, .int .i64 n, sv f, .int .i64 at0] w fun e w' => e = .returned (.bool true) ∧ Below w.heap.size w w' := by
  have HW := Lib.hid hw
  have HX := Lib.hid (fun W (h : Below w.heap.size w W) => long_any xs v W (hx.step h) hn hl)
  obtain ⟨A, c, rfl, -⟩ := hx
  clear hw hl
  rcases hb with hb | ⟨ha, hb⟩
  · rw [hb] at HX
    clear hb
    go_enter Tryd.func9, Tryd.ntmps9
    go_wp2_with fail
    refine (works_any _ HW.out).mono ?_
    rintro e w1 ⟨rfl, hb⟩
    have HB := Lib.hid ((BL.start HW.out).step hb)
    clear hb
    go_wp2_with fail
    refine (HX.out _ HB.out.below).mono ?_
    rintro e w2 ⟨rfl, rfl⟩
    go_wp2_with fail
    refine (works_any _ HB.out.lw).mono ?_
    rintro e w2 ⟨rfl, hb⟩
    have HB2 := Lib.hid (HB.out.step hb)
    clear hb
    go_wp2_with fail
    go_ret
    exact ⟨rfl, HB2.out.below⟩
  · rw [ha] at HX
    have hd : decide ((f.length : Int) > 5000) = true := decide_eq_true (by omega)
    clear hb ha
    go_enter Tryd.func9, Tryd.ntmps9
    go_wp2_with fail
    refine (works_any _ HW.out).mono ?_
    rintro e w1 ⟨rfl, hb⟩
    have HB := Lib.hid ((BL.start HW.out).step hb)
    clear hb
    go_wp2_with fail
    refine (HX.out _ HB.out.below).mono ?_
    rintro e w2 ⟨rfl, rfl⟩
    go_wp2_with fail
    refine (works_any _ HB.out.lw).mono ?_
    rintro e w2 ⟨rfl, hb⟩
    have HB2 := Lib.hid (HB.out.step hb)
    clear hb
    go_wp2_with fail
    go_ret
    exact ⟨rfl, HB2.out.below⟩

set_option maxHeartbeats 64000000 in
theorem letters_short (xs : List (List UInt8)) (f : List UInt8) (v : Value) (q n at0 : Int) (w : World) (hw : LW w) (hx : SR w v xs) (hn : xs.length ≤ 140737488351232) (hl : ∀ x ∈ xs, x.length ≤ 9223372036854775807) (hb : longB xs = false) (hf : ¬ 5000 < f.length)
    (hcap : ∀ A c, v = .slice A xs.length c → xs.length ≤ c) (q0 : 0 ≤ q) (q1 : q < 18446744073709551616) (m0 : -9223372036854775808 ≤ at0) (m1 : at0 ≤ 9223372036854775807) :
    Calls Tryd.prog 9 #[v, .int .u64 q, .int .i64 n, sv f, .int .i64 at0] w fun e w' => e = .returned (.bool true) ∧ Below w.heap.size w w' := by
  have HW := Lib.hid hw
  have HX := Lib.hid (fun W (h : Below w.heap.size w W) => long_any xs v W (hx.step h) hn hl)
  have sx := short_isL hb
  rw [hb] at HX
  have HSX := Lib.hid sx
  have HRX := Lib.hid hx
  obtain ⟨A, c, rfl, hxs⟩ := hx
  have hcc := hcap A c rfl
  have HXS := Lib.hid hxs
  have hxn := sx.2
  have hd : decide ((f.length : Int) > 5000) = false := decide_eq_false (by omega)
  have HT := Lib.hid (fun (s : List UInt8) W (hs : s.length ≤ 1000000) => turned_any s q W hs q0 q1)
  have HLF := Lib.hid (show f.length ≤ 1000000 by omega)
  clear hw hl hb sx hxs hf
  go_enter Tryd.func9, Tryd.ntmps9
  go_wp2_with fail
  refine (works_any _ HW.out).mono ?_
  rintro e w1 ⟨rfl, hb⟩
  have HB := Lib.hid ((BL.start HW.out).step hb)
  clear hb
  go_wp2_with fail
  refine (HX.out _ HB.out.below).mono ?_
  rintro e w2 ⟨rfl, rfl⟩
  go_wp2_with fail
  go_loopw [11, 12] (fun o i wr => ∃ (k : Nat) (ts : List (List UInt8)), k ≤ xs.length ∧ i = .int .i64 k ∧ LI w xs k ts o wr) (fun _ i _ => xs.length - (intOf i).toNat)
  case atStart => exact ⟨0, [], Nat.zero_le _, rfl, LI.start HB.out⟩
  case round =>
    obtain ⟨k, ts, hk, rfl, hli⟩ := hrel
    obtain ⟨Ao, co, rfl⟩ := hli.form
    have HLI := Lib.hid hli
    by_cases hlt : k < xs.length
    · obtain ⟨b, o, rfl, hbl, hcl⟩ : ∃ b o, A = some ⟨b, o, none⟩ ∧ b < w.heap.size ∧ ∀ k, ∀ h : k < xs.length, w.cell? ⟨b, o + k, none⟩ = some (sv xs[k]) := by
        rcases HXS.out with h | h
        · rw [h] at hlt; simp at hlt
        · exact h
      obtain ⟨x, hx⟩ : ∃ x, x = xs[k] := ⟨_, rfl⟩
      have hxl : x.length ≤ 1000000 := by rw [hx]; exact HSX.out.1 _ (List.getElem_mem hlt)
      have q1' : wr.cell? ⟨b, o + k, none⟩ = some (sv x) := by rw [hx]; exact (hli.bl.below.cell (p := ⟨b, o + k, none⟩) hbl).trans (hcl k hlt)
      have HTX := Lib.hid (HT.out x wr hxl)
      have HXE := Lib.hid hx
      have HXL := Lib.hid hxl
      clear hli hx hcl hbl hxl
      go_wp2_with fail
      refine (HTX.out).mono ?_
      rintro e w3 ⟨t, rfl, hal, hb⟩
      have HL3 := Lib.hid (HLI.out.below hb)
      have HAL := Lib.hid (show Alike (xs[k]) t by rw [← HXE.out]; exact hal)
      have hown := HL3.out.own
      have HZ := Lib.hid HL3.out.bl.size
      have hlen := HL3.out.len
      have HO := Lib.hid hown
      clear hb hal hown q1'
      go_wp2_with (at_builtin; refine row_append HO.out HZ.out (by omega) t _ rfl _ _ rfl rfl rfl _ rfl ?_; intro g cap w' hown hgr hor hlt'; have HN := Lib.hid (HL3.out.add HW.out hlt HAL.out (by rw [← HXE.out]; exact HXL.out) hown hgr); clear hown hgr hor hlt')
      exact ⟨⟨k + 1, ts ++ [t], by omega, by go_num, HN.out⟩, by simp [intOf]; omega⟩
    · obtain rfl : k = xs.length := by omega
      have HSO := Lib.hid (owns_any hli.own)
      have HBR := Lib.hid hli.bl
      have HTS := Lib.hid (show sayC ts = sayC xs from say_great (by have := hli.alike; rwa [List.take_of_length_le (Nat.le_refl _)] at this))
      have HTL := Lib.hid (show (∀ t ∈ ts, t.length ≤ 1000000) ∧ ts.length ≤ 2000 from ⟨hli.short, by have := hli.len; omega⟩)
      clear hli hlt hk HLI HT
      go_wp2_with fail
      refine (lof_any xs _ wr (HRX.out.step HBR.out.below) HSX.out.1 (by omega) HBR.out.lw).mono ?_
      rintro e w4 ⟨rfl, hb⟩
      have HB4 := Lib.hid (HBR.out.step hb)
      have HSO4 := Lib.hid (HSO.out.step hb)
      clear hb
      obtain ⟨ca, hca⟩ : ∃ z, z = sayC xs := ⟨_, rfl⟩
      rw [← hca]
      obtain ⟨a0, a1, a2, a3, a4, a5, a6⟩ := ca
      have HCA := Lib.hid hca
      clear hca
      unfold ofV cpL
      go_wp2_with fail
      obtain ⟨kz, hkz⟩ : ∃ k, k = w4.heap.size := ⟨_, rfl⟩
      obtain ⟨X, hX⟩ : ∃ X, X = w4.alloc (Obj.cells #[.bool a0, .bool a1, .bool a2, .bool a3, .bool a4, .bool a5, .int .i64 a6] 50) := ⟨_, rfl⟩
      rw [← hX, ← hkz]
      have hbz : X.heap[kz]? = some (.cells #[.bool a0, .bool a1, .bool a2, .bool a3, .bool a4, .bool a5, .int .i64 a6] 50 (0, 0)) := by rw [hX, hkz]; exact heap_alloc_new w4 _
      have HBX := Lib.hid (show BL w X by rw [hX]; exact HB4.out.alloc _)
      have HSOX := Lib.hid (show SR X (.slice Ao xs.length co) ts by rw [hX]; exact HSO4.out.step (below_alloc _ _))
      have HCE := Lib.hid (show ∀ W, SV X W → W.cell? ⟨kz, 0, none⟩ = some (.bool a0) ∧ W.cell? ⟨kz, 1, none⟩ = some (.bool a1) ∧ W.cell? ⟨kz, 2, none⟩ = some (.bool a2) ∧ W.cell? ⟨kz, 3, none⟩ = some (.bool a3) ∧ W.cell? ⟨kz, 4, none⟩ = some (.bool a4) ∧ W.cell? ⟨kz, 5, none⟩ = some (.bool a5) ∧ W.cell? ⟨kz, 6, none⟩ = some (.int .i64 a6) from fun W h => cbL (blk_below hbz h))
      have HBW := Lib.hid (show ∀ W, SV X W → BL w W from fun W h => HBX.out.step h)
      have HOT := Lib.hid (show ∀ W, SV X W → Calls Tryd.prog 28 #[.slice Ao xs.length co] W fun e w' => e = .returned (.agg #[.bool a0, .bool a1, .bool a2, .bool a3, .bool a4, .bool a5, .int .i64 a6]) ∧ SV X w' from fun W h => by
        have := lof_any ts _ W (HSOX.out.step h) HTL.out.1 HTL.out.2 (HBW.out W h).lw
        rw [HTS.out, ← HCA.out] at this
        exact this.mono fun _ _ ⟨h1, h2⟩ => ⟨h1, SV.step h h2⟩)
      have HSRC := Lib.hid (show ∀ W, SV X W → SrcOK W A xs from fun W h => (HRX.out.step (HBW.out W h).below).src)
      have HOF := Lib.hid (show ∀ (g cap : Nat) (W0 W : World), W0.ownsRow X.heap.size 9 1 (.slice (some ⟨g, 0, none⟩) (1 + xs.length) cap) (1 + xs.length) (([f] ++ xs).map sv) → SV W0 W → SV X W → Calls Tryd.prog 29 #[.agg #[.int .i64 250, .string { data := #[] }, .slice (some ⟨g, 0, none⟩) (1 + xs.length) cap]] W fun e w' => e = .returned (.agg #[.bool a0, .bool a1, .bool a2, .bool a3, .bool a4, .bool a5, .int .i64 a6]) ∧ SV X w' from fun g cap W0 W ho h0 h => by
        have := of_any 250 { data := #[] } _ _ W ((owns_sw ho).below h0) (fun x hx => (List.mem_append.1 hx).elim (fun hx => by simp only [List.mem_singleton] at hx; rw [hx]; exact HLF.out) (HSX.out.1 x)) (HBW.out W h).lw
        rw [show ofC 250 ([f] ++ xs) = sayC xs from rfl, ← HCA.out] at this
        exact this.mono fun _ _ ⟨h1, h2⟩ => ⟨h1, SV.step h h2⟩)
      have hs0 : SV X X := Below.refl _ _
      have hc0 := HCE.out _ hs0
      clear hX hkz hbz
      go_region_held3 (fun W => SV X W ∧ W.cell? ⟨kz, 0, none⟩ = some (.bool a0) ∧ W.cell? ⟨kz, 1, none⟩ = some (.bool a1) ∧ W.cell? ⟨kz, 2, none⟩ = some (.bool a2) ∧ W.cell? ⟨kz, 3, none⟩ = some (.bool a3) ∧ W.cell? ⟨kz, 4, none⟩ = some (.bool a4) ∧ W.cell? ⟨kz, 5, none⟩ = some (.bool a5) ∧ W.cell? ⟨kz, 6, none⟩ = some (.int .i64 a6))
        (first | exact ⟨by assumption, HCE.out _ (by assumption)⟩ | exact ⟨by (repeat first | assumption | apply SV.drew | apply SV.alloc), HCE.out _ (by (repeat first | assumption | apply SV.drew | apply SV.alloc))⟩)
        (first
          | (go_at_call 28; with_reducible refine (HOT.out _ (by (repeat first | assumption | apply SV.drew | apply SV.alloc))).mono ?_; rintro e1 w8 ⟨rfl, hR⟩)
          | (go_at_call 29; with_reducible refine (HOF.out _ _ _ _ hownA (by first | exact SV.refl _ | exact SV.drew (SV.refl _)) (by (repeat first | assumption | apply SV.drew | apply SV.alloc))).mono ?_; rintro e1 w8 ⟨rfl, hR⟩)
          | (refine put_stepG (by rfl) _ _ (by rfl) (by rfl) (B := X.heap.size) (n := 1) (cap := 1) (xs := [f]) (ys := xs) (by rfl) (by rfl) (lit_row rfl (by first | exact heap_at_alloc _ _ | (rw [heap_drew]; exact heap_at_alloc _ _)) (by (first | exact SV.size (by assumption) | (simp only [World.size_alloc, size_drew]; exact SV.size (by assumption)))) (by simp) (by rfl)) (by rfl) (HSRC.out _ (by (repeat first | assumption | apply SV.drew | apply SV.alloc))) (by exact SV.size (by (repeat first | assumption | apply SV.drew | apply SV.alloc))) (by omega) (1 + xs.length) (by rfl) ?_
             intro g1 cap1 wA hownA hgrowA
             have hGA : SV X wA := SV.grown (X := X) (by (repeat first | assumption | apply SV.drew | apply SV.alloc)) hgrowA (by exact SV.size (by assumption))))
      all_goals
        have HR8 := Lib.hid hR
        clear hR hs0 hc0 HOT HOF
        by_cases hn250 : n = 250
        · subst hn250
          go_wp2_with fail
          obtain ⟨p, hp1, hp2⟩ := at_place at0 xs.length (by omega)
          obtain ⟨A3, hr1, hr2, hr3⟩ := cuts_run A xs.length c p hp2 hcc
          rw [hp1]
          have HR3 := Lib.hid hr3
          have HWB := Lib.hid (show SV X (w8.alloc (.cells #[sv f] 9)) from HR8.out.alloc _)
          clear hp1 hr3
          refine (lof_any [f] _ _ (lit_sr (heap_at_alloc _ _) rfl _) (fun x hx => by simp only [List.mem_singleton] at hx; rw [hx]; exact HLF.out) (by simp) (HBW.out _ HWB.out).lw).mono ?_
          rintro e wB ⟨rfl, hb⟩
          have HWC := Lib.hid (HWB.out.step hb)
          clear hb
          obtain ⟨cf, hcf⟩ : ∃ z, z = sayC [f] := ⟨_, rfl⟩
          rw [← hcf]
          obtain ⟨b0, b1, b2, b3, b4, b5, b6⟩ := cf
          have HCF := Lib.hid hcf
          have hb7 := sev_ways b0 b1 b2 b3 b4 b5 b6
          clear hcf
          unfold ofV cpL
          rcases hb7 with ⟨rfl, rfl, rfl, rfl, rfl, rfl, rfl⟩ | rfl | ⟨rfl, rfl⟩ | ⟨rfl, rfl, rfl⟩ | ⟨rfl, rfl, rfl, rfl⟩ | ⟨rfl, rfl, rfl, rfl, rfl⟩ | ⟨rfl, rfl, rfl, rfl, rfl, rfl⟩ | ⟨rfl, rfl, rfl, rfl, rfl, rfl, h6⟩
          · have HPL := Lib.hid (show sayC (xs.take p ++ [f] ++ xs.drop p) = sayC xs from say_within xs f p HCF.out.symm)
            have HTL2 := Lib.hid (show (∀ t ∈ xs.take p ++ [f] ++ xs.drop p, t.length ≤ 1000000) ∧ (xs.take p ++ [f] ++ xs.drop p).length ≤ 2000 from ⟨fun t ht => by
              rcases List.mem_append.1 ht with ht | ht
              · rcases List.mem_append.1 ht with ht | ht
                · exact HSX.out.1 t (List.mem_of_mem_take ht)
                · simp only [List.mem_singleton] at ht; rw [ht]; exact HLF.out
              · exact HSX.out.1 t (List.mem_of_mem_drop ht), by simp; omega⟩)
            have HCU := Lib.hid (show ∀ W, SV X W → SrcOK W A (xs.take p) ∧ SrcOK W A3 (xs.drop p) from fun W h => cuts_src (HSRC.out W h) HR3.out)
            have HOL := Lib.hid (show ∀ (g cap : Nat) (W0 W : World), W0.ownsRow X.heap.size 9 1 (.slice (some ⟨g, 0, none⟩) (xs.length + 1) cap) (xs.length + 1) ((xs.take p ++ [f] ++ xs.drop p).map sv) → SV W0 W → SV X W → Calls Tryd.prog 28 #[.slice (some ⟨g, 0, none⟩) (xs.length + 1) cap] W fun e w' => e = .returned (.agg #[.bool a0, .bool a1, .bool a2, .bool a3, .bool a4, .bool a5, .int .i64 a6]) ∧ SV X w' from fun g cap W0 W ho h0 h => by
              have := lof_any _ _ W ((owns_any ho).step h0) HTL2.out.1 HTL2.out.2 (HBW.out W h).lw
              rw [HPL.out, ← HCA.out] at this
              exact this.mono fun _ _ ⟨h1, h2⟩ => ⟨h1, SV.step h h2⟩)
            have hs0 : SV X wB := HWC.out
            have hsz0 : X.heap.size ≤ wB.heap.size := SV.size hs0
            have hc0 := HCE.out _ hs0
            go_wp2_with fail
            go_region_held3 (fun W => SV X W ∧ W.cell? ⟨kz, 0, none⟩ = some (.bool a0) ∧ W.cell? ⟨kz, 1, none⟩ = some (.bool a1) ∧ W.cell? ⟨kz, 2, none⟩ = some (.bool a2) ∧ W.cell? ⟨kz, 3, none⟩ = some (.bool a3) ∧ W.cell? ⟨kz, 4, none⟩ = some (.bool a4) ∧ W.cell? ⟨kz, 5, none⟩ = some (.bool a5) ∧ W.cell? ⟨kz, 6, none⟩ = some (.int .i64 a6))
              (first | exact ⟨by assumption, HCE.out _ (by assumption)⟩ | exact ⟨(by (repeat first | assumption | apply SV.drew | apply SV.alloc)), HCE.out _ (by (repeat first | assumption | apply SV.drew | apply SV.alloc))⟩)
              (first
                | (go_at_call 28; with_reducible refine (HOL.out _ _ _ _ hownC (by first | exact SV.refl _ | exact SV.drew (SV.refl _)) (by (repeat first | assumption | apply SV.drew | apply SV.alloc))).mono ?_; rintro e1 w8 ⟨rfl, hRZ⟩)
                | (refine put_step (by rfl) _ _ (by rfl) (by rfl) (B := X.heap.size) (g := g3) (n := p + 1) (cap := cap3) (ys := xs.drop p) (by rfl) (by rfl) (by first | exact hownB | exact hownB.drew) (by simp) (HCU.out _ (by (repeat first | assumption | apply SV.drew | apply SV.alloc))).2 (SV.size (by (repeat first | assumption | apply SV.drew | apply SV.alloc))) (by omega) (xs.length + 1) (by omega) ?_
                   intro g4 cap4 wC hownC hgrowC
                   have hGC : SV X wC := SV.grown (X := X) (by (repeat first | assumption | apply SV.drew | apply SV.alloc)) hgrowC (by have h1 := (hownB.lt g3 rfl).1; omega))
                | (refine put_step (by rfl) _ _ (by rfl) (by rfl) (B := X.heap.size) (g := g1) (n := p) (cap := cap1) (ys := [f]) (by rfl) (by rfl) (by first | exact hownA2 | exact hownA2.drew | exact (hownA2.alloc _).drew | exact hownA2.alloc _ | exact (hownA2.drew.alloc _).drew) (by rfl) (src_one (by first | (simp only [heap_drew, heap_alloc_if, World.size_alloc, size_drew]; simp) | (rw [heap_drew]; exact grow_block hgrowA2 (by (simp only [heap_drew, heap_alloc_if, World.size_alloc, size_drew]; simp)) (by simp)) | exact grow_block hgrowA2 (by (simp only [heap_drew, heap_alloc_if, World.size_alloc, size_drew]; simp)) (by simp))) (SV.size (by (repeat first | assumption | apply SV.drew | apply SV.alloc))) (by omega) (p + 1) (by omega) ?_
                   intro g3 cap3 wD hownB hgrowB
                   have hGB : SV X wD := SV.grown (X := X) (by (repeat first | assumption | apply SV.drew | apply SV.alloc)) hgrowB (by have h1 := (hownA2.lt g1 rfl).1; omega))
                | (refine put_step (by rfl) _ _ (by rfl) (by rfl) (B := X.heap.size) (n := 0) (cap := 0) (xs := []) (ys := xs.take p) (by rfl) (by rfl) (owns_empty_t (by (simp only [heap_drew, heap_alloc_if, World.size_alloc, size_drew]; simp)) (by first | exact SV.size (by assumption) | omega | (simp only [World.size_alloc, size_drew]; omega))) (by rw [List.length_take]; omega) (HCU.out _ (by (repeat first | assumption | apply SV.drew | apply SV.alloc))).1 (SV.size (by (repeat first | assumption | apply SV.drew | apply SV.alloc))) (by omega) p (by omega) ?_
                   intro g1 cap1 wE hownA2 hgrowA2
                   have hGA2 : SV X wE := SV.grown (X := X) (by (repeat first | assumption | apply SV.drew | apply SV.alloc)) hgrowA2 (by first | exact SV.size (by assumption) | omega | (simp only [World.size_alloc, size_drew]; omega))))
            all_goals (try go_wp2_with fail)
            all_goals go_ret
            all_goals exact ⟨rfl, (HBW.out _ (by first | exact hRZ | assumption)).below⟩
          all_goals
            go_wp2_with fail
            go_ret
            exact ⟨rfl, (HBW.out _ HWC.out).below⟩
        · have h250 : (n != 250) = true := by simpa using hn250
          have HO8 := Lib.hid (lit_row (n := 1) (xs := [f]) (base := X.heap.size) rfl (heap_at_alloc w8 (.cells #[sv f] 9)) HR8.out.size (by simp) rfl)
          have HS8 := Lib.hid (HSRC.out _ (HR8.out.alloc (.cells #[sv f] 9)))
          have HOF := Lib.hid (show ∀ (g cap : Nat) (W : World), W.ownsRow X.heap.size 9 1 (.slice (some ⟨g, 0, none⟩) (1 + xs.length) cap) (1 + xs.length) (([f] ++ xs).map sv) → SV X W → Calls Tryd.prog 29 #[.agg #[.int .i64 n, .string { data := #[] }, .slice (some ⟨g, 0, none⟩) (1 + xs.length) cap]] W fun e w' => e = .returned (.agg #[.bool false, .bool false, .bool false, .bool false, .bool false, .bool false, .int .i64 0]) ∧ SV X w' from fun g cap W ho h => by
            have := of_any n { data := #[] } _ _ W (owns_sw ho) (fun x hx => (List.mem_append.1 hx).elim (fun hx => by simp only [List.mem_singleton] at hx; rw [hx]; exact HLF.out) (HSX.out.1 x)) (HBW.out W h).lw
            rw [show ofC n ([f] ++ xs) = cp0 by unfold ofC; rw [if_neg hn250]] at this
            exact this.mono fun _ _ ⟨h1, h2⟩ => ⟨h1, SV.step h h2⟩)
          go_wp2_with (at_builtin; refine row_appG HO8.out rfl HS8.out (HR8.out.alloc _).size (by omega) _ _ (by rfl) (by rfl) (by rfl) (by rfl) (by rfl) (1 + xs.length) rfl ?_; intro g1 cap1 wA hownA hgrowA; have HGA := Lib.hid ((HR8.out.alloc (.cells #[sv f] 9)).grown hgrowA HR8.out.size); have HOA := Lib.hid hownA; clear hownA hgrowA)
          refine (HOF.out _ _ _ HOA.out HGA.out).mono ?_
          rintro e w9 ⟨rfl, hR9⟩
          have HR9 := Lib.hid hR9
          clear hR9
          go_wp2_with fail
          obtain ⟨p, hp1, hp2⟩ := at_place at0 xs.length (by omega)
          obtain ⟨A3, hr1, hr2, hr3⟩ := cuts_run A xs.length c p hp2 hcc
          rw [hp1]
          have HR3 := Lib.hid hr3
          have HWB := Lib.hid (show SV X (w9.alloc (.cells #[sv f] 9)) from HR9.out.alloc _)
          clear hp1 hr3
          refine (lof_any [f] _ _ (lit_sr (heap_at_alloc _ _) rfl _) (fun x hx => by simp only [List.mem_singleton] at hx; rw [hx]; exact HLF.out) (by simp) (HBW.out _ HWB.out).lw).mono ?_
          rintro e wB ⟨rfl, hb⟩
          have HWC := Lib.hid (HWB.out.step hb)
          clear hb
          obtain ⟨cf, hcf⟩ : ∃ z, z = sayC [f] := ⟨_, rfl⟩
          rw [← hcf]
          obtain ⟨b0, b1, b2, b3, b4, b5, b6⟩ := cf
          have HCF := Lib.hid hcf
          have hb7 := sev_ways b0 b1 b2 b3 b4 b5 b6
          clear hcf
          unfold ofV cpL
          rcases hb7 with ⟨rfl, rfl, rfl, rfl, rfl, rfl, rfl⟩ | rfl | ⟨rfl, rfl⟩ | ⟨rfl, rfl, rfl⟩ | ⟨rfl, rfl, rfl, rfl⟩ | ⟨rfl, rfl, rfl, rfl, rfl⟩ | ⟨rfl, rfl, rfl, rfl, rfl, rfl⟩ | ⟨rfl, rfl, rfl, rfl, rfl, rfl, h6⟩
          · have HPL := Lib.hid (show sayC (xs.take p ++ [f] ++ xs.drop p) = sayC xs from say_within xs f p HCF.out.symm)
            have HTL2 := Lib.hid (show (∀ t ∈ xs.take p ++ [f] ++ xs.drop p, t.length ≤ 1000000) ∧ (xs.take p ++ [f] ++ xs.drop p).length ≤ 2000 from ⟨fun t ht => by
              rcases List.mem_append.1 ht with ht | ht
              · rcases List.mem_append.1 ht with ht | ht
                · exact HSX.out.1 t (List.mem_of_mem_take ht)
                · simp only [List.mem_singleton] at ht; rw [ht]; exact HLF.out
              · exact HSX.out.1 t (List.mem_of_mem_drop ht), by simp; omega⟩)
            have HCU := Lib.hid (show ∀ W, SV X W → SrcOK W A (xs.take p) ∧ SrcOK W A3 (xs.drop p) from fun W h => cuts_src (HSRC.out W h) HR3.out)
            have HOL := Lib.hid (show ∀ (g cap : Nat) (W0 W : World), W0.ownsRow X.heap.size 9 1 (.slice (some ⟨g, 0, none⟩) (xs.length + 1) cap) (xs.length + 1) ((xs.take p ++ [f] ++ xs.drop p).map sv) → SV W0 W → SV X W → Calls Tryd.prog 28 #[.slice (some ⟨g, 0, none⟩) (xs.length + 1) cap] W fun e w' => e = .returned (.agg #[.bool a0, .bool a1, .bool a2, .bool a3, .bool a4, .bool a5, .int .i64 a6]) ∧ SV X w' from fun g cap W0 W ho h0 h => by
              have := lof_any _ _ W ((owns_any ho).step h0) HTL2.out.1 HTL2.out.2 (HBW.out W h).lw
              rw [HPL.out, ← HCA.out] at this
              exact this.mono fun _ _ ⟨h1, h2⟩ => ⟨h1, SV.step h h2⟩)
            have hs0 : SV X wB := HWC.out
            have hsz0 : X.heap.size ≤ wB.heap.size := SV.size hs0
            have hc0 := HCE.out _ hs0
            go_wp2_with fail
            go_region_held3 (fun W => SV X W ∧ W.cell? ⟨kz, 0, none⟩ = some (.bool a0) ∧ W.cell? ⟨kz, 1, none⟩ = some (.bool a1) ∧ W.cell? ⟨kz, 2, none⟩ = some (.bool a2) ∧ W.cell? ⟨kz, 3, none⟩ = some (.bool a3) ∧ W.cell? ⟨kz, 4, none⟩ = some (.bool a4) ∧ W.cell? ⟨kz, 5, none⟩ = some (.bool a5) ∧ W.cell? ⟨kz, 6, none⟩ = some (.int .i64 a6))
              (first | exact ⟨by assumption, HCE.out _ (by assumption)⟩ | exact ⟨(by (repeat first | assumption | apply SV.drew | apply SV.alloc)), HCE.out _ (by (repeat first | assumption | apply SV.drew | apply SV.alloc))⟩)
              (first
                | (go_at_call 28; with_reducible refine (HOL.out _ _ _ _ hownC (by first | exact SV.refl _ | exact SV.drew (SV.refl _)) (by (repeat first | assumption | apply SV.drew | apply SV.alloc))).mono ?_; rintro e1 w8 ⟨rfl, hRZ⟩)
                | (refine put_step (by rfl) _ _ (by rfl) (by rfl) (B := X.heap.size) (g := g3) (n := p + 1) (cap := cap3) (ys := xs.drop p) (by rfl) (by rfl) (by first | exact hownB | exact hownB.drew) (by simp) (HCU.out _ (by (repeat first | assumption | apply SV.drew | apply SV.alloc))).2 (SV.size (by (repeat first | assumption | apply SV.drew | apply SV.alloc))) (by omega) (xs.length + 1) (by omega) ?_
                   intro g4 cap4 wC hownC hgrowC
                   have hGC : SV X wC := SV.grown (X := X) (by (repeat first | assumption | apply SV.drew | apply SV.alloc)) hgrowC (by have h1 := (hownB.lt g3 rfl).1; omega))
                | (refine put_step (by rfl) _ _ (by rfl) (by rfl) (B := X.heap.size) (g := g1) (n := p) (cap := cap1) (ys := [f]) (by rfl) (by rfl) (by first | exact hownA2 | exact hownA2.drew | exact (hownA2.alloc _).drew | exact hownA2.alloc _ | exact (hownA2.drew.alloc _).drew) (by rfl) (src_one (by first | (simp only [heap_drew, heap_alloc_if, World.size_alloc, size_drew]; simp) | (rw [heap_drew]; exact grow_block hgrowA2 (by (simp only [heap_drew, heap_alloc_if, World.size_alloc, size_drew]; simp)) (by simp)) | exact grow_block hgrowA2 (by (simp only [heap_drew, heap_alloc_if, World.size_alloc, size_drew]; simp)) (by simp))) (SV.size (by (repeat first | assumption | apply SV.drew | apply SV.alloc))) (by omega) (p + 1) (by omega) ?_
                   intro g3 cap3 wD hownB hgrowB
                   have hGB : SV X wD := SV.grown (X := X) (by (repeat first | assumption | apply SV.drew | apply SV.alloc)) hgrowB (by have h1 := (hownA2.lt g1 rfl).1; omega))
                | (refine put_step (by rfl) _ _ (by rfl) (by rfl) (B := X.heap.size) (n := 0) (cap := 0) (xs := []) (ys := xs.take p) (by rfl) (by rfl) (owns_empty_t (by (simp only [heap_drew, heap_alloc_if, World.size_alloc, size_drew]; simp)) (by first | exact SV.size (by assumption) | omega | (simp only [World.size_alloc, size_drew]; omega))) (by rw [List.length_take]; omega) (HCU.out _ (by (repeat first | assumption | apply SV.drew | apply SV.alloc))).1 (SV.size (by (repeat first | assumption | apply SV.drew | apply SV.alloc))) (by omega) p (by omega) ?_
                   intro g1 cap1 wE hownA2 hgrowA2
                   have hGA2 : SV X wE := SV.grown (X := X) (by (repeat first | assumption | apply SV.drew | apply SV.alloc)) hgrowA2 (by first | exact SV.size (by assumption) | omega | (simp only [World.size_alloc, size_drew]; omega))))
            all_goals (try go_wp2_with fail)
            all_goals go_ret
            all_goals exact ⟨rfl, (HBW.out _ (by first | exact hRZ | assumption)).below⟩
          all_goals
            go_wp2_with fail
            go_ret
            exact ⟨rfl, (HBW.out _ HWC.out).below⟩

theorem capsLetters_walk (A0 : Option Addr) (c0 : Nat) (x0 : List (List UInt8)) (a1 a2 : Int) (a3 : ByteArray) (a4 : Int) {w : World} (hS0 : SR w (.slice A0 x0.length c0) x0) (hn0 : x0.length ≤ 140737488351232) (hx0 : ∀ x ∈ x0, x.length ≤ 9223372036854775807) (hq0 : x0.length ≤ c0)
    (w1 : (Lit.int .u64 a1).wf = true) (w2 : (Lit.int .i64 a2).wf = true) (z3 : a3.data.size ≤ 140737488351232) (w4 : (Lit.int .i64 a4).wf = true) (hw : LW w) :
    Calls Tryd.prog 9 #[.slice A0 x0.length c0, .int .u64 a1, .int .i64 a2, .string a3, .int .i64 a4] w fun e w' => e = .returned (.bool true) ∧ Below w.heap.size w w' := by
  obtain ⟨l, rfl, _⟩ := to_str a3
  have b1 : 0 ≤ a1 ∧ a1 < 18446744073709551616 := by
    simp only [Lit.wf, IntKind.min, IntKind.max, IntKind.signed, IntKind.bits, Bool.and_eq_true, decide_eq_true_eq] at w1
    simp at w1
    omega
  have b4 : -9223372036854775808 ≤ a4 ∧ a4 ≤ 9223372036854775807 := by
    simp only [Lit.wf, IntKind.min, IntKind.max, IntKind.signed, IntKind.bits, Bool.and_eq_true, decide_eq_true_eq, if_true] at w4
    omega
  cases ha : longB x0 with
  | true => exact letters_long x0 l _ a1 a2 a4 w hw hS0 hn0 hx0 (.inl ha)
  | false =>
    by_cases hl : 5000 < l.length
    · exact letters_long x0 l _ a1 a2 a4 w hw hS0 hn0 hx0 (.inr ⟨ha, hl⟩)
    · exact letters_short x0 l _ a1 a2 a4 w hw hS0 hn0 hx0 ha hl (fun A c e => by simp only [Value.slice.injEq] at e; omega) b1.1 b1.2 b4.1 b4.2
end Go.Proofs.YtanfonpbnamjmaaDoor
