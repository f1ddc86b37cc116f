/-
  The contract of the reference's times.
-/
import Derived.StillTailTactics
import Derived.Test.YtdniojbplakeoaaDoorRtDig
namespace Go.Proofs.YtdniojbplakeoaaDoor
open Go Go.RowKit Go.Shelf
set_option maxRecDepth 100000

def u64v (d : Nat) : Value := .int .u64 (d : Int)
/-- A row of digits of one's own. -/
def UB (W : World) (g : Nat) (ds : List Nat) : Prop := W.heap[g]? = some (.cells (ds.map u64v).toArray 53 (0, 0))
theorem UB.cell {W : World} {g : Nat} {ds : List Nat} (h : UB W g ds) (i : Nat) (hi : i < ds.length) : W.cell? ⟨g, i, none⟩ = some (.int .u64 (ds[i] : Int)) := by
  rw [cellAt h]; simp [hi, u64v]
theorem UB.free {W : World} {g : Nat} {ds : List Nat} (h : UB W g ds) (i : Nat) : W.frozen? ⟨g, i, none⟩ = false := freeAt h i
theorem UB.set {W : World} {g : Nat} {ds : List Nat} (h : UB W g ds) (i x : Nat) : UB (W.setCell ⟨g, i, none⟩ (.int .u64 (x : Int))) g (ds.set i x) := by
  have := blk_set h i (.int .u64 (x : Int))
  unfold UB
  rw [this]
  congr 2
  simp [u64v, List.map_set]
theorem UB.drew {W : World} {g : Nat} {ds : List Nat} (h : UB W g ds) : UB W.drew g ds := h
theorem UB.ur {W : World} {g c : Nat} {ds : List Nat} (h : UB W g ds) : UR W (.slice (some ⟨g, 0, none⟩) ds.length c) ds :=
  ⟨_, c, rfl, .inr ⟨g, rfl, lt_of_blk h, fun k hk => h.cell k hk⟩⟩
theorem UR.at_ {W : World} {A : Option Addr} {n c : Nat} {ds : List Nat} (h : UR W (.slice A n c) ds) {i : Nat} (hi : i < ds.length) : ∃ b, A = some ⟨b, 0, none⟩ ∧ b < W.heap.size ∧ W.cell? ⟨b, i, none⟩ = some (.int .u64 (ds[i] : Int)) := by
  obtain ⟨A', c', e, h⟩ := h
  simp only [Value.slice.injEq] at e
  obtain ⟨rfl, _, rfl⟩ := e
  rcases h with rfl | ⟨b, rfl, hl, hc⟩
  · simp at hi
  · exact ⟨b, rfl, hl, hc i hi⟩

theorem run_made64 (n : Nat) (hn : n ≤ 1000000) (w : World) : (Instr.makeSlice 62 (.int .i64 (n : Int)) (.int .i64 (n : Int))).run Tryd.prog w = .ok (.slice (some ⟨w.heap.size, 0, none⟩) n n) (w.alloc (.cells (Array.replicate n (u64v 0)) 53)) := by
  obtain ⟨i, hi, hz0, hz1, hz2⟩ := info_parts (show (Tryd.prog.info? 53).map (fun i => (i.zero, i.size, i.bytes)) = some (some (.int .u64 0), 1, 8) by kernel_rfl)
  have := run_make w 62 53 i (.int .u64 0) Tryd.underlying62 hi hz0 .i64 .i64 (n : Int) (n : Int) (by omega) (by omega) (by rw [hz2]; omega) (by omega)
  rw [hz1] at this
  simp only [Int.toNat_natCast, Nat.mul_one] at this
  rw [this]
  congr 3
  apply Array.ext
  · simp [madeCells]
  · intro j h1 h2
    simp [madeCells, Value.cells, Nat.mod_one, u64v]

theorem wrapU (n : Int) (h0 : 0 ≤ n) (h1 : n < 18446744073709551616) : IntKind.u64.wrap n = n := by simp [IntKind.wrap, IntKind.bits, IntKind.signed]; omega

/-! ### The numbers -/
theorem add_at (ds : List Nat) (i x : Nat) (h : i < ds.length) : val (ds.set i (ds[i] + x)) = val ds + x * 65536 ^ i := by
  have := val_set ds i h (ds[i] + x)
  rw [Nat.add_mul] at this
  omega
theorem carry_at (ds : List Nat) (j : Nat) (h : j + 1 < ds.length) :
    val ((ds.set (j + 1) (ds[j + 1] + ds[j] / 65536)).set j (ds[j] % 65536)) = val ds := by
  have h1 := add_at ds (j + 1) (ds[j] / 65536) h
  have h2 := val_set (ds.set (j + 1) (ds[j + 1] + ds[j] / 65536)) j (by rw [List.length_set]; omega) (ds[j] % 65536)
  rw [List.getElem_set_ne (by omega), h1] at h2
  rw [Nat.pow_succ, Nat.mul_comm (65536 ^ j) 65536, ← Nat.mul_assoc] at h2
  have h3 : ds[j] * 65536 ^ j = (ds[j] / 65536 * 65536) * 65536 ^ j + (ds[j] % 65536) * 65536 ^ j := by
    rw [← Nat.add_mul, Nat.mul_comm (ds[j] / 65536) 65536, Nat.div_add_mod]
  omega
/-- Where a digit is above 65535, there is room behind it. -/
theorem room_at (ds : List Nat) (j m : Nat) (h : j < ds.length) (hv : val ds < 65536 ^ m) (hd : 65535 < ds[j]) : j + 1 < m + 1 := by
  have h1 := le_val ds j h
  have h2 : 65536 ^ (j + 1) ≤ ds[j] * 65536 ^ j := by
    rw [Nat.pow_succ, Nat.mul_comm]
    exact Nat.mul_le_mul_right _ hd
  have h3 : 65536 ^ (j + 1) < 65536 ^ m := by omega
  have := (Nat.pow_lt_pow_iff_right (by decide : 1 < 65536)).1 h3
  omega

/-- The row in the midst of a carry. -/
structure RTC (n T j : Nat) (ds : List Nat) : Prop where
  len : ds.length = n
  lt : j < n
  val : val ds = T
  dig : ∀ i, ∀ h : i < ds.length, i ≠ j → ds[i] ≤ 65535
  at_ : ∀ h : j < ds.length, ds[j] < 8589934592
theorem RTC.step {T j m : Nat} {ds : List Nat} (h : RTC (m + 1) T j ds) (hj : j < ds.length) (hj1 : j + 1 < ds.length) :
    RTC (m + 1) T (j + 1) ((ds.set (j + 1) (ds[j + 1] + ds[j] / 65536)).set j (ds[j] % 65536)) := by
  refine ⟨by simp [h.len], by have := h.len; omega, (carry_at ds j hj1).trans h.val, fun i hi hne => ?_, fun hh => ?_⟩
  · by_cases e : i = j
    · subst e; rw [List.getElem_set_self]; omega
    · rw [List.getElem_set_ne (by omega), List.getElem_set_ne (by omega)]
      exact h.dig i (by simpa using hi) e
  · rw [List.getElem_set_ne (by omega), List.getElem_set_self]
    have h1 := h.dig (j + 1) hj1 (by omega)
    have h2 := h.at_ hj
    omega

/-- What the loops hold. -/
structure TI2 (w : World) (g n T : Nat) (ds : List Nat) (W : World) : Prop where
  b : Below w.heap.size w W
  ub : UB W g ds
  len : ds.length = n
  val : val ds = T
  dig : ∀ i, ∀ h : i < ds.length, ds[i] ≤ 65535
def TimesPost (w : World) (n T : Nat) (e : Ending) (W : World) : Prop := ∃ g ds, e = .returned (.slice (some ⟨g, 0, none⟩) n n) ∧ w.heap.size ≤ g ∧ TI2 w g n T ds W

set_option maxHeartbeats 8000000 in
theorem times_any (a b : List Nat) (u v : Value) (w : World) (ha : UR w u a) (hb : UR w v b) (la : ∀ d ∈ a, d ≤ 65535) (lb : ∀ d ∈ b, d ≤ 65535) (na : a.length ≤ 1000) (nb : b.length ≤ 1000) :
    Calls Tryd.prog 60 #[u, v] w (TimesPost w (a.length + b.length + 1) (val a * val b)) := by
  obtain ⟨A, c, rfl, -⟩ := id ha
  obtain ⟨B, d, rfl, -⟩ := id hb
  have HA := Lib.hid ha; have HB := Lib.hid hb
  have HLA := Lib.hid la; have HLB := Lib.hid lb
  obtain ⟨n, hn⟩ : ∃ n, n = a.length + b.length + 1 := ⟨_, rfl⟩
  have HN := Lib.hid hn
  have en : ((a.length : Int) + (b.length : Int) + 1) = (n : Int) := by omega
  have hmk := run_made64 n (by omega) w
  rw [← en] at hmk
  obtain ⟨g, hg⟩ : ∃ g, g = w.heap.size := ⟨_, rfl⟩
  have HG := Lib.hid hg
  have HM := Lib.hid (show TI2 w g n (low a 0 * val b) (List.replicate n 0) (w.alloc (.cells (Array.replicate n (u64v 0)) 53)) from
    ⟨below_alloc _ _, by unfold UB; rw [hg, show ((List.replicate n 0).map u64v).toArray = Array.replicate n (u64v 0) by simp]; exact heap_alloc_new w _, by simp, by rw [val_zeros]; simp [low, val], fun i h => by simp⟩)
  have hn2 : n ≤ 2001 := by omega
  clear ha hb la lb hg en hn
  rw [← HN.out]
  go_enter Tryd.func60, Tryd.ntmps60
  go_wp2_with fail
  rw [← HG.out]
  generalize hW0 : w.alloc (Obj.cells (Array.replicate n (u64v 0)) 53) = W0 at HM ⊢
  clear hW0 hmk
  go_loopw [6, 7, 8] (fun i _ _ wr => ∃ (k : Nat) (ds : List Nat), k ≤ a.length ∧ i = .int .i64 k ∧ TI2 w g n (low a k * val b) ds wr) (fun i _ _ _ => a.length - (intOf i).toNat)
  case atStart => exact ⟨0, _, Nat.zero_le _, rfl, HM.out⟩
  case round =>
    obtain ⟨i, ds, hi, rfl, ht⟩ := hrel
    have HT := Lib.hid ht
    by_cases hlt : i < a.length
    · obtain ⟨x, hx⟩ : ∃ x, x = a[i] := ⟨_, rfl⟩
      have hx1 : x ≤ 65535 := by rw [hx]; exact HLA.out _ (List.getElem_mem hlt)
      have HX := Lib.hid (show low a (i + 1) = low a i + x * 65536 ^ i by rw [low_succ, hx]; simp [List.getD, List.getElem?_eq_getElem hlt])
      obtain ⟨ba, rfl, hba, -⟩ := HA.out.at_ hlt
      have HCA := Lib.hid (show ∀ W, Below w.heap.size w W → W.cell? ⟨ba, i, none⟩ = some (.int .u64 (x : Int)) from fun W h => by
        obtain ⟨b', e, _, h2⟩ := HA.out.at_ hlt
        simp only [Option.some.injEq, Addr.mk.injEq, and_true] at e
        subst e
        rw [hx]; exact (h.cell (p := ⟨ba, i, none⟩) hba).trans h2)
      have HX0 := Lib.hid (show val b = low b b.length from (low_all b _ (Nat.le_refl _)).symm)
      have HLOW := Lib.hid (show low a (i + 1) * val b < 65536 ^ (a.length + b.length) by
        have h1 := low_lt a HLA.out (i + 1)
        have h2 := val_lt b HLB.out
        have h3 : 65536 ^ (i + 1) ≤ 65536 ^ a.length := Nat.pow_le_pow_right (by decide) (by omega)
        rw [Nat.pow_add]
        exact Nat.lt_of_le_of_lt (Nat.mul_le_mul_left _ (Nat.le_of_lt h2)) ((Nat.mul_lt_mul_right (Nat.pow_pos (by decide))).2 (Nat.lt_of_lt_of_le h1 h3)))
      clear hx ht
      go_wp2_with fail
      go_loopw [7, 8] (fun k _ wr => ∃ (m : Nat) (es : List Nat), m ≤ b.length ∧ k = .int .i64 m ∧ TI2 w g n (low a i * val b + x * 65536 ^ i * low b m) es wr) (fun k _ _ => b.length - (intOf k).toNat)
      case atStart => exact ⟨0, ds, Nat.zero_le _, rfl, by have h := HT.out; rw [show low b 0 = 0 from rfl, Nat.mul_zero, Nat.add_zero]; exact h⟩
      case round =>
        obtain ⟨k, es, hk, rfl, ht⟩ := hrel
        have HT2 := Lib.hid ht
        by_cases hkl : k < b.length
        · obtain ⟨y, hy⟩ : ∃ y, y = b[k] := ⟨_, rfl⟩
          have hy1 : y ≤ 65535 := by rw [hy]; exact HLB.out _ (List.getElem_mem hkl)
          have HY := Lib.hid (show low b (k + 1) = low b k + y * 65536 ^ k by rw [low_succ, hy]; simp [List.getD, List.getElem?_eq_getElem hkl])
          obtain ⟨bb, rfl, hbb, hcb⟩ := HB.out.at_ hkl
          have q2 : wr.cell? ⟨bb, k, none⟩ = some (.int .u64 (y : Int)) := by rw [hy]; exact (ht.b.cell (p := ⟨bb, k, none⟩) hbb).trans hcb
          have q1 := HCA.out wr ht.b
          obtain ⟨s, hs⟩ : ∃ s, s = i + k := ⟨_, rfl⟩
          have hes : s < es.length := by rw [ht.len, HN.out]; omega
          obtain ⟨z, hz⟩ : ∃ z, z = es[s] := ⟨_, rfl⟩
          have hz1 : z ≤ 65535 := by rw [hz]; exact ht.dig _ hes
          have q3 := ht.ub.cell s hes
          rw [← hz] at q3
          have f3 := ht.ub.free s
          obtain ⟨p, hp⟩ : ∃ p, p = x * y := ⟨_, rfl⟩
          have hp1 : p ≤ 4294836225 := by rw [hp]; exact Nat.mul_le_mul hx1 hy1
          have epz : (x : Int) * (y : Int) = (p : Int) := by rw [hp]; simp
          have hin : s < n := by rw [HN.out]; omega
          obtain ⟨r, hr⟩ : ∃ r, r = z + p := ⟨_, rfl⟩
          have hw1 : IntKind.i64.wrap ((i : Int) + (k : Int)) = (s : Int) := by rw [IntWalk.i64_in _ (by omega)]; omega
          have hw2 : IntKind.u64.wrap ((x : Int) * (y : Int)) = (p : Int) := by rw [epz]; exact wrapU _ (by omega) (by omega)
          have hw3 : IntKind.u64.wrap ((z : Int) + (p : Int)) = (r : Int) := by rw [wrapU _ (by omega) (by omega)]; omega
          have HSI := Lib.hid hs
          obtain ⟨T, hT⟩ : ∃ T, T = low a i * val b + x * 65536 ^ i * low b (k + 1) := ⟨_, rfl⟩
          have HTC := Lib.hid (show RTC n T s (es.set s r) from by
            refine ⟨by simp [ht.len], hin, ?_, fun j h hne => ?_, fun h => ?_⟩
            · rw [hr, hz, add_at es s p hes, ht.val, hT, HY.out, hp, Nat.mul_add, hs, Nat.pow_add]
              have e : x * y * (65536 ^ i * 65536 ^ k) = x * 65536 ^ i * (y * 65536 ^ k) := by
                rw [Nat.mul_assoc, Nat.mul_assoc, Nat.mul_left_comm y]
              omega
            · rw [List.getElem_set_ne (fun e => hne e.symm)]; exact ht.dig j (by simpa using h)
            · rw [List.getElem_set_self]; omega)
          have HTT := Lib.hid (show T < 65536 ^ (a.length + b.length) from by
            have h1 : low b (k + 1) ≤ val b := by
              rw [← low_all b b.length (Nat.le_refl _)]
              unfold low
              have e : val (b.take b.length) = val (b.take (k + 1)) + 65536 ^ (b.take (k + 1)).length * val (b.drop (k + 1)) := by
                rw [← val_append, List.take_append_drop, List.take_of_length_le (Nat.le_refl _)]
              omega
            have h2 : x * 65536 ^ i * low b (k + 1) ≤ x * 65536 ^ i * val b := Nat.mul_le_mul_left _ h1
            have h3 := HLOW.out
            rw [HX.out, Nat.add_mul] at h3
            omega)
          have HBE := Lib.hid ht.b
          have HUB := Lib.hid (show UB (wr.setCell ⟨g, s, none⟩ (.int .u64 (r : Int))) g (es.set s r) from ht.ub.set s r)
          have HGW := Lib.hid (show w.heap.size ≤ g by rw [HG.out]; exact Nat.le_refl _)
          have HT1 := Lib.hid hT
          clear hy hz hp ht hcb hT hs hr epz
          go_wp2_with fail
          go_still_tail 21, (by kernel_rfl)
          clear hw1 hw2 hw3
          change wpList _ _ _ _ _ wr.drew
          clear q1 q2
          go_wp2_with fail
          go_loopw [8] (fun jv W => ∃ (j : Nat) (fs : List Nat), jv = .int .i64 j ∧ RTC n T j fs ∧ UB W g fs ∧ Below w.heap.size w W) (fun jv _ => n - (intOf jv).toNat)
          case atStart => exact ⟨s, _, by rw [HSI.out]; go_num, HTC.out, HUB.out.drew, (HBE.out.setCell (p := ⟨g, s, none⟩) HGW.out _).drew⟩
          case round =>
            obtain ⟨j, fs, rfl, htc, hub, hbe⟩ := hrel
            have hjl : j < fs.length := by rw [htc.len]; exact htc.lt
            obtain ⟨dg, hdg⟩ : ∃ dg, dg = fs[j] := ⟨_, rfl⟩
            have c1 := hub.cell j hjl
            rw [← hdg] at c1
            have hjn := htc.lt
            have HTC3 := Lib.hid htc; have HUB3 := Lib.hid hub; have HBE3 := Lib.hid hbe
            have HDG := Lib.hid hdg
            have hdb : dg < 8589934592 := by rw [hdg]; exact htc.at_ hjl
            by_cases hbig : 65535 < dg
            · have hj1n : j + 1 < n := by
                have := room_at fs j (a.length + b.length) hjl (by rw [htc.val]; exact HTT.out) (by rw [← hdg]; exact hbig)
                rw [HN.out]; omega
              have hj1 : j + 1 < fs.length := by rw [htc.len]; exact hj1n
              obtain ⟨en, hen⟩ : ∃ en, en = fs[j + 1] := ⟨_, rfl⟩
              have heb : en ≤ 65535 := by rw [hen]; exact htc.dig _ hj1 (by omega)
              obtain ⟨jn, hjnn⟩ : ∃ jn, jn = j + 1 := ⟨_, rfl⟩
              have hjn1 : jn < n := by omega
              have c2 : wr.cell? ⟨g, jn, none⟩ = some (.int .u64 (en : Int)) := by rw [hjnn, hen]; exact hub.cell (j + 1) hj1
              have f1 := hub.free j
              have f2 := hub.free jn
              obtain ⟨q, hq⟩ : ∃ q, q = dg / 65536 := ⟨_, rfl⟩
              obtain ⟨e2, he2⟩ : ∃ e2, e2 = en + q := ⟨_, rfl⟩
              obtain ⟨d2, hd2⟩ : ∃ d2, d2 = dg % 65536 := ⟨_, rfl⟩
              have hqb : q < 131072 := by omega
              have hw1 : IntKind.i64.wrap ((j : Int) + 1) = (jn : Int) := by rw [IntWalk.i64_in _ (by omega)]; omega
              have hw2 : (dg : Int) / 65536 = (q : Int) := by omega
              have hw3 : IntKind.u64.wrap ((en : Int) + (q : Int)) = (e2 : Int) := by rw [wrapU _ (by omega) (by omega)]; omega
              have hw4 : IntKind.u64.wrap (q : Int) = (q : Int) := wrapU _ (by omega) (by omega)
              have hw5 : Int.tdiv (dg : Int) 65536 = (q : Int) := by rw [Int.tdiv_eq_ediv_of_nonneg (by omega)]; omega
              have hub2 : UB (wr.setCell ⟨g, jn, none⟩ (.int .u64 (e2 : Int))) g (fs.set jn e2) := hub.set jn e2
              have hub3 : UB ((wr.setCell ⟨g, jn, none⟩ (.int .u64 (e2 : Int))).setCell ⟨g, j, none⟩ (.int .u64 (d2 : Int))) g ((fs.set jn e2).set j d2) := hub2.set j d2
              have HUB4 := Lib.hid hub3
              have HSTEP := Lib.hid (show RTC n T jn ((fs.set jn e2).set j d2) from by
                have hN := HN.out
                have h := htc
                rw [hN] at h ⊢
                subst hjnn
                rw [he2, hq, hd2, hen, hdg]
                exact RTC.step (m := a.length + b.length) h hjl hj1)
              have HD2 := Lib.hid hd2
              have HC1 := Lib.hid c1
              have HJN := Lib.hid hjnn
              have hjne : jn ≠ j := by omega
              clear hq he2 hd2 hen hdg htc hub hbe hub2 hub3 hjnn
              go_wp2_with fail
              go_still_tail 15, (by kernel_rfl)
              clear hw1 hw2 hw3 hw4 hw5
              change wpList _ _ _ _ _ wr.drew
              have hw2 : (dg : Int) % 65536 = (d2 : Int) := by rw [HD2.out]; omega
              have hjne2 : j ≠ jn := fun e => hjne e.symm
              go_wp2_with fail
              exact ⟨⟨jn, _, by rw [HJN.out]; go_num, HSTEP.out, HUB4.out.drew, ((HBE3.out.setCell (p := ⟨g, jn, none⟩) HGW.out _).setCell (p := ⟨g, j, none⟩) HGW.out _).drew⟩, by simp [intOf]; omega⟩
            · have hdig : ∀ i, ∀ h : i < fs.length, fs[i] ≤ 65535 := fun i h => by
                by_cases e : i = j
                · subst e; rw [← hdg]; omega
                · exact htc.dig i h e
              have HZ := Lib.hid (show TI2 w g n (low a i * val b + x * 65536 ^ i * low b (k + 1)) fs wr from ⟨hbe, hub, htc.len, htc.val.trans HT1.out, hdig⟩)
              clear hdg htc hub hbe hdig
              go_wp2_with fail
              go_roundw
              case rel => exact ⟨k + 1, fs, by omega, by go_num, HZ.out⟩
              case measure => simp [intOf]; omega
        · obtain rfl : k = b.length := by omega
          have HZ := Lib.hid (show TI2 w g n (low a (i + 1) * val b) es wr from by
            have h := HT2.out
            rwa [← HX0.out, ← Nat.add_mul, ← HX.out] at h)
          clear ht
          go_wp2_with fail
          go_roundw
          case rel => exact ⟨i + 1, es, by omega, by go_num, HZ.out⟩
          case measure => simp [intOf]; omega
    · obtain rfl : i = a.length := by omega
      have HZ := Lib.hid (show TI2 w g n (val a * val b) ds wr from by rw [← low_all a a.length (Nat.le_refl _)]; exact ht)
      have HGW := Lib.hid (show w.heap.size ≤ g by rw [HG.out]; exact Nat.le_refl _)
      clear ht
      go_wp2_with fail
      go_ret
      exact ⟨g, ds, rfl, HGW.out, HZ.out⟩
end Go.Proofs.YtdniojbplakeoaaDoor
