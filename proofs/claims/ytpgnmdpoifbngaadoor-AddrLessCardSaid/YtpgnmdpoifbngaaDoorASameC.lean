/-
  The contract of the laws' own function 'great'; the walk of AddrSame.
-/
import Derived.Test.YtpgnmdpoifbngaaDoorAWork
namespace Go.Proofs.YtpgnmdpoifbngaaDoor
open Go Go.RowKit
set_option maxRecDepth 100000

theorem likeL_of : ∀ {l s : List UInt8}, l.length = s.length → (∀ j, j < s.length → LikeC (l.getD j 0) (s.getD j 0)) → LikeL l s
  | [], [], _, _ => trivial
  | [], _ :: _, h, _ => by simp at h
  | _ :: _, [], h, _ => by simp at h
  | x :: l, y :: s, h, hc => by
    refine ⟨by have := hc 0 (by simp); simpa using this, likeL_of (by simpa using h) fun j hj => ?_⟩
    have := hc (j + 1) (by simpa using hj)
    simpa using this
theorem getD_set (l : List UInt8) (k j : Nat) (x : UInt8) (hk : k < l.length) : (l.set k x).getD j 0 = if j = k then x else l.getD j 0 := by
  rw [List.getD_eq_getElem?_getD, List.getD_eq_getElem?_getD]
  by_cases e : j = k
  · subst e; rw [List.getElem?_set_self hk, if_pos rfl]; rfl
  · rw [List.getElem?_set_ne (fun h => e h.symm), if_neg e]

/-- Some letters are great, from byte k on, where no @ stands. -/
def GreatAt (s l : List UInt8) (k : Nat) : Prop := l.length = s.length ∧ (∀ j, j < s.length → LikeC (l.getD j 0) (s.getD j 0)) ∧ (∀ j, j < k → l.getD j 0 = s.getD j 0) ∧ ∀ j, k ≤ j → j < s.length → s.getD j 0 ≠ 64
theorem GreatAt.keep {s l : List UInt8} {k : Nat} (h : GreatAt s l (k + 1)) (hc : s.getD k 0 ≠ 64) : GreatAt s l k :=
  ⟨h.1, h.2.1, fun j hj => h.2.2.1 j (by omega), fun j hj hl => by
    by_cases e : j = k
    · rw [e]; exact hc
    · exact h.2.2.2 j (by omega) hl⟩
theorem GreatAt.set {s l : List UInt8} {k c : Nat} (h : GreatAt s l (k + 1)) (hk : k < s.length) (hc : (s.getD k 0).toNat = c) (h1 : 97 ≤ c) (h2 : c ≤ 122) :
    GreatAt s (l.set k (UInt8.ofNat (c - 32))) k ∧ (UInt8.ofNat (c - 32)).toNat = c - 32 := by
  obtain ⟨a1, a2, a3, a4⟩ := h
  have e : (UInt8.ofNat (c - 32)).toNat = c - 32 := by rw [UInt8.toNat_ofNat']; exact Nat.mod_eq_of_lt (by have := UInt8.toNat_lt (s.getD k 0); omega)
  refine ⟨⟨by rw [List.length_set]; exact a1, fun j hj => ?_, fun j hj => ?_, fun j hj hl => ?_⟩, e⟩
  · rw [getD_set l k j _ (by omega)]
    by_cases ej : j = k
    · rw [if_pos ej, ej]
      refine .inr ⟨?_, ?_, ?_⟩
      · rw [UInt8.le_iff_toNat_le, hc]; exact h1
      · rw [UInt8.le_iff_toNat_le, hc]; exact h2
      · apply UInt8.toNat_inj.1
        rw [e, UInt8.toNat_sub_of_le _ _ (by rw [UInt8.le_iff_toNat_le, hc]; show 32 ≤ c; omega), hc]
        rfl
    · rw [if_neg ej]; exact a2 j hj
  · rw [getD_set l k j _ (by omega), if_neg (by omega)]
    exact a3 j (by omega)
  · by_cases ej : j = k
    · rw [ej]; rintro e64
      rw [e64] at hc
      have : (64 : UInt8).toNat = 64 := rfl
      omega
    · exact a4 j (by omega) hl

theorem getD_drop (l : List UInt8) (k j : Nat) : (l.drop k).getD j 0 = l.getD (k + j) 0 := by
  rw [List.getD_eq_getElem?_getD, List.getD_eq_getElem?_getD, List.getElem?_drop]
theorem no64 {s : List UInt8} {k : Nat} (h : ∀ j, k ≤ j → j < s.length → s.getD j 0 ≠ 64) : ∀ c ∈ s.drop k, c ≠ 64 := by
  intro c hc
  obtain ⟨j, hj, rfl⟩ := List.getElem_of_mem hc
  rw [List.length_drop] at hj
  have := h (k + j) (by omega) (by omega)
  rw [getD_str s _ (by omega)] at this
  rwa [List.getElem_drop]
theorem GreatAt.like {s l : List UInt8} {k : Nat} (h : GreatAt s l k) : LikeL (l.drop k) (s.drop k) := by
  refine likeL_of (by rw [List.length_drop, List.length_drop, h.1]) fun j hj => ?_
  rw [List.length_drop] at hj
  rw [getD_drop, getD_drop]
  exact h.2.1 _ (by omega)
/-- It came to the text's begin. -/
theorem GreatAt.all {s l : List UInt8} (h : GreatAt s l 0) : parseL l = parseL s := by
  have h1 := h.like
  have h2 := no64 h.2.2.2
  rw [List.drop_zero] at h2
  rw [List.drop_zero, List.drop_zero] at h1
  rw [parse_no_at h2, parse_no_at (h1.no_at h2)]
/-- It came to an @. -/
theorem GreatAt.at {s l : List UInt8} {k : Nat} (h : GreatAt s l (k + 1)) (hk : k < s.length) (hc : s.getD k 0 = 64) : parseL l = parseL s := by
  have h1 := h.like
  have h2 := no64 h.2.2.2
  have e1 : s = s.take k ++ 64 :: s.drop (k + 1) := by
    conv => lhs; rw [← List.take_append_drop k s, List.drop_eq_getElem_cons hk, ← getD_str s k hk, hc]
  have hlk : k < l.length := by rw [h.1]; exact hk
  have e2 : l = s.take k ++ 64 :: l.drop (k + 1) := by
    have et : l.take k = s.take k := by
      refine List.ext_getElem (by rw [List.length_take, List.length_take, h.1]) fun j ha hb => ?_
      rw [List.length_take] at ha hb
      have := h.2.2.1 j (by omega)
      rw [getD_str l j (by omega), getD_str s j (by omega)] at this
      rw [List.getElem_take, List.getElem_take, this]
    conv => lhs; rw [← List.take_append_drop k l, List.drop_eq_getElem_cons hlk, ← getD_str l k hlk, h.2.2.1 k (by omega), hc, et]
  have := parse_like (a := s.take k) h2 h1
  rwa [← e1, ← e2] at this

/-- What 'great' leaves. -/
def GreatPost (w : World) (s : List UInt8) (e : Ending) (w' : World) : Prop := ∃ g, e = .returned (sv g) ∧ g.length = s.length ∧ parseL g = parseL s ∧ Below w.heap.size w w'

set_option maxHeartbeats 4000000 in
theorem great_any (s : List UInt8) (z : Int) (_hz0 : 0 ≤ z) (_hz1 : z < 18446744073709551616) (w : World) (hs : s.length ≤ 1000000) :
    Calls Tryd.prog 25 #[.string (str s), .int .u64 z] w (GreatPost w s) := by
  obtain ⟨cp, W1, hrun, hbuf, hbel, hcap⟩ := run_bytes w s
  have HBU := Lib.hid hbuf
  have HL := Lib.hid hbel
  clear hbuf hbel
  go_enter Tryd.func25, Tryd.ntmps25
  go_wp2_with fail
  go_loopw [6] (fun i wr => ∃ (k : Nat) (l : List UInt8) (z : Int), k ≤ s.length ∧ z = (k : Int) - 1 ∧ i = .int .i64 z ∧ GreatAt s l k ∧ BufAt wr w.heap.size l ∧ Below w.heap.size w wr) (fun i _ => (intOf i + 1).toNat)
  case atStart => exact ⟨s.length, s, _, Nat.le_refl _, rfl, rfl, ⟨rfl, fun j _ => .inl rfl, fun j _ => rfl, fun j h1 h2 => absurd h2 (by omega)⟩, HBU.out, HL.out⟩
  case round =>
    obtain ⟨k, l, y, hk, hy, rfl, hga, hb, hl⟩ := hrel
    have hll := hga.1
    cases k with
    | zero =>
      obtain rfl : y = -1 := by rw [hy]; rfl
      have hback := run_text hb cp s.length hll.symm
      have HG := Lib.hid hga.all
      have HLL := Lib.hid hll
      have HL2 := Lib.hid hl
      clear hb hl hga hll hy
      go_wp2_with fail
      go_ret
      exact ⟨l, rfl, HLL.out, HG.out, HL2.out⟩
    | succ k =>
      obtain rfl : y = (k : Int) := by rw [hy]; omega
      have hlt : k < s.length := by omega
      obtain ⟨x, hx⟩ : ∃ x, (s.getD k 0).toNat = x := ⟨_, rfl⟩
      have hx256 : x < 256 := by rw [← hx]; exact UInt8.toNat_lt _
      have hc : wr.cell? ⟨w.heap.size, k, none⟩ = some (.int .u8 (x : Int)) := by rw [hb.cell (by omega), hga.2.2.1 k (by omega), hx]
      have hf : wr.frozen? ⟨w.heap.size, k, none⟩ = false := hb.free (by omega)
      have hback := run_text hb cp s.length hll.symm
      by_cases h64 : x = 64
      · have HG := Lib.hid (hga.at hlt (by apply UInt8.toNat_inj.1; rw [hx, h64]; rfl))
        have HLL := Lib.hid hll
        have HL2 := Lib.hid hl
        have e64 : ((x : Int) != 64) = false := by rw [h64]; rfl
        clear hb hl hga hll hx h64 hy
        go_wp2_with fail
        go_ret
        exact ⟨l, rfl, HLL.out, HG.out, HL2.out⟩
      · have e64 : ((x : Int) != 64) = true := by rw [bne_iff_ne]; omega
        have HN := Lib.hid (show s.getD k 0 ≠ 64 by rintro e; rw [e] at hx; exact h64 hx.symm)
        have HGA := Lib.hid hga
        have HB := Lib.hid hb
        have HL2 := Lib.hid hl
        have HLL := Lib.hid hll
        have HX := Lib.hid hx
        clear hga hb hl hll hx hback h64 hy
        by_cases hr : 97 ≤ x ∧ x ≤ 122
        · obtain ⟨r1, r2⟩ := hr
          obtain ⟨g1, g2⟩ := HGA.out.set hlt HX.out r1 r2
          have HS := Lib.hid (HB.out.set (k := k) (by have := HLL.out; omega) (UInt8.ofNat (x - 32)) (v := (x : Int) - 32) (by rw [g2]; omega))
          have HG1 := Lib.hid g1
          have HL3 := Lib.hid (HL2.out.setCell (p := ⟨w.heap.size, k, none⟩) (Nat.le_refl _) (.int .u8 ((x : Int) - 32)))
          clear g1 g2
          go_wp2_with fail
          · go_roundw
            case rel => exact ⟨k, _, _, by omega, rfl, rfl, HG1.out, HS.out, HL3.out⟩
            case measure => simp [intOf]
          · go_roundw
            case rel => exact ⟨k, l, _, by omega, rfl, rfl, HGA.out.keep HN.out, HB.out, HL2.out⟩
            case measure => simp [intOf]
        · rcases (show x < 97 ∨ 122 < x by omega) with r | r
          all_goals
            clear hr
            go_wp2_with fail
            go_roundw
            case rel => exact ⟨k, l, _, by omega, rfl, rfl, HGA.out.keep HN.out, HB.out, HL2.out⟩
            case measure => simp [intOf]

theorem bl_great {w0 w : World} {s : List UInt8} {z : Int} (hz0 : 0 ≤ z) (hz1 : z < 18446744073709551616) (hs : s.length ≤ 1000000) (h : BL w0 w) :
    Calls Tryd.prog 25 #[.string (str s), .int .u64 z] w fun e w' => ∃ g, e = .returned (sv g) ∧ g.length = s.length ∧ parseL g = parseL s ∧ BL w0 w' :=
  (great_any s z hz0 hz1 w hs).mono fun _ _ ⟨g, h1, h2, h3, h4⟩ => ⟨g, h1, h2, h3, h.step h4⟩

/-- A literal of texts is a row of them. -/
theorem lit_row (w : World) (xs : List (List UInt8)) (c : Nat) : RowIs (w.alloc (.cells (xs.map sv).toArray 9)) (.slice (some ⟨w.heap.size, 0, none⟩) xs.length c) xs := by
  have hh : (w.alloc (.cells (xs.map sv).toArray 9)).heap[w.heap.size]? = some (.cells (xs.map sv).toArray 9 (0, 0)) := heap_alloc_new _ _
  exact ⟨_, c, rfl, fun _ => ⟨w.heap.size, rfl, lt_of_blk hh, fun j hj => lit_cell hh hj, fun j _ => freeAt hh j⟩⟩

/-- 'long' at a literal of texts. -/
theorem bl_long {w0 w : World} (xs : List (List UInt8)) (C : Array Value) (hC : C = (xs.map sv).toArray) (n c : Nat) (hn : n = xs.length) {r : Bool} (e : longL xs = r) (hl : xs.length ≤ 1000000) (hs : ∀ x ∈ xs, x.length ≤ 140737488351232) (h : BL w0 w) :
    Calls Tryd.prog 17 #[.slice (some ⟨w.heap.size, 0, none⟩) n c] (w.alloc (.cells C 9)) fun e w' => e = .returned (.bool r) ∧ BL w0 w' := by
  subst hC hn
  have := long_any xs (.slice (some ⟨w.heap.size, 0, none⟩) xs.length c) _ (lit_row w xs c) hl (fun x hx => Nat.le_trans (hs x hx) (by omega))
  rw [e] at this
  exact this.mono fun _ _ ⟨h1, h2⟩ => ⟨h1, h2 ▸ h.alloc _⟩

theorem addrSame_long (s t u : List UInt8) (z : Int) (_hz0 : 0 ≤ z) (_hz1 : z < 18446744073709551616) (w : World) (hs : s.length ≤ 140737488351232) (ht : t.length ≤ 140737488351232) (hu : u.length ≤ 140737488351232) (h : longL [s, t, u] = true) (hM : ML w) :
    Calls Tryd.prog 6 #[.string (str s), .string (str t), .string (str u), .int .u64 z] w fun e w' => e = .returned (.bool true) ∧ Below w.heap.size w w' := by
  have B0 := BL.start hM
  have HA := Lib.hid (show ∀ x ∈ [s, t, u], x.length ≤ 140737488351232 by simp; exact ⟨hs, ht, hu⟩)
  have HL := Lib.hid h
  clear hM h
  go_enter Tryd.func6, Tryd.ntmps6
  go_wp2_with fail
  refine (works_bl _ B0).mono ?_
  rintro e w1 ⟨rfl, B1⟩
  go_wp2_with fail
  refine (bl_long [s, t, u] _ rfl _ _ rfl HL.out (by simp) HA.out B1).mono ?_
  rintro e w2 ⟨rfl, B2⟩
  go_wp2_with fail
  refine (works_bl _ B2).mono ?_
  rintro e w3 ⟨rfl, B3⟩
  have HB := Lib.hid B3.below
  go_wp2
  go_ret
  exact ⟨rfl, HB.out⟩

set_option maxHeartbeats 4000000 in
theorem addrSame_nn (s t u : List UInt8) (z : Int) (hz0 : 0 ≤ z) (hz1 : z < 18446744073709551616) (w : World) (hs : s.length ≤ 1000000) (ht : t.length ≤ 1000000) (hu : u.length ≤ 1000000) (h : longL [s, t, u] = false) (hp : parseL s = none) (hq : parseL t = none) (B0 : BL w w) :
    Calls Tryd.prog 6 #[.string (str s), .string (str t), .string (str u), .int .u64 z] w fun e w' => e = .returned (.bool true) ∧ Below w.heap.size w w' := by
  have HA := Lib.hid (show ∀ x ∈ [s, t, u], x.length ≤ 140737488351232 by simp; omega)
  have HL := Lib.hid h
  have HP := Lib.hid hp
  have HQ := Lib.hid hq
  have HM := Lib.hid (show amayL s = false by unfold amayL; rw [hp]; rfl)
  have HS := Lib.hid ((same_self s).trans HM.out)
  have HG := Lib.hid (fun (g : List UInt8) (hg : parseL g = parseL s) => show sameL s g = false by rw [← HS.out]; unfold sameL; rw [hg])
  have H1 := Lib.hid (show sameL s t = false by unfold sameL; rw [hp, hq]; rfl)
  have HC := Lib.hid ((same_comm t s).trans H1.out)
  clear h hp hq
  go_enter Tryd.func6, Tryd.ntmps6
  go_wp2_with fail
  refine (works_bl _ B0).mono ?_
  rintro e w1 ⟨rfl, B1⟩
  go_wp2_with fail
  refine (bl_long [s, t, u] _ rfl _ _ rfl HL.out (by simp) HA.out B1).mono ?_
  rintro e w2 ⟨rfl, B2⟩
  go_wp2_with fail
  refine (bl_same HS.out hs hs B2).mono ?_
  rintro e w3 ⟨rfl, B3⟩
  go_wp2_with fail
  refine (bl_amay HM.out hs B3).mono ?_
  rintro e w4 ⟨rfl, B4⟩
  go_wp2_with fail
  refine (bl_great hz0 hz1 hs B4).mono ?_
  rintro e w5 ⟨g, rfl, hgl, hg, B5⟩
  have HGL := Lib.hid hgl; have HGG := Lib.hid (HG.out g hg); clear hgl hg
  go_wp2_with fail
  refine (bl_same HGG.out hs (by rw [HGL.out]; exact hs) B5).mono ?_
  rintro e w6 ⟨rfl, B6⟩
  go_wp2_with fail
  refine (bl_amay HM.out hs B6).mono ?_
  rintro e w7 ⟨rfl, B7⟩
  go_wp2_with fail
  refine (bl_same H1.out hs ht B7).mono ?_
  rintro e w8 ⟨rfl, B8⟩
  go_wp2_with fail
  refine (bl_same HC.out ht hs B8).mono ?_
  rintro e w9 ⟨rfl, B9⟩
  go_wp2_with fail
  refine (bl_same H1.out hs ht B9).mono ?_
  rintro e w10 ⟨rfl, B10⟩
  go_wp2_with fail
  refine (bl_parse HP.out hs B10).mono ?_
  rintro e w11 ⟨rfl, B11⟩
  unfold parseV
  go_wp2_with fail
  refine (bl_parse HQ.out ht B11).mono ?_
  rintro e w12 ⟨rfl, B12⟩
  unfold parseV
  go_wp2_with fail
  refine (bl_same H1.out hs ht B12).mono ?_
  rintro e w13 ⟨rfl, B13⟩
  have HB := Lib.hid B13.below
  go_wp2_with fail
  go_ret
  exact ⟨rfl, HB.out⟩


set_option maxHeartbeats 4000000 in
theorem addrSame_ns (s t u : List UInt8) (z : Int) (hz0 : 0 ≤ z) (hz1 : z < 18446744073709551616) (w : World) {c d : List UInt8} (hs : s.length ≤ 1000000) (ht : t.length ≤ 1000000) (hu : u.length ≤ 1000000) (h : longL [s, t, u] = false) (hp : parseL s = none) (hq : parseL t = some (c, d)) (B0 : BL w w) :
    Calls Tryd.prog 6 #[.string (str s), .string (str t), .string (str u), .int .u64 z] w fun e w' => e = .returned (.bool true) ∧ Below w.heap.size w w' := by
  have HA := Lib.hid (show ∀ x ∈ [s, t, u], x.length ≤ 140737488351232 by simp; omega)
  have HL := Lib.hid h
  have HP := Lib.hid hp
  have HQ := Lib.hid hq
  have HM := Lib.hid (show amayL s = false by unfold amayL; rw [hp]; rfl)
  have HS := Lib.hid ((same_self s).trans HM.out)
  have HG := Lib.hid (fun (g : List UInt8) (hg : parseL g = parseL s) => show sameL s g = false by rw [← HS.out]; unfold sameL; rw [hg])
  have H1 := Lib.hid (show sameL s t = false by unfold sameL; rw [hp, hq]; rfl)
  have HC := Lib.hid ((same_comm t s).trans H1.out)
  clear h hp hq
  go_enter Tryd.func6, Tryd.ntmps6
  go_wp2_with fail
  refine (works_bl _ B0).mono ?_
  rintro e w1 ⟨rfl, B1⟩
  go_wp2_with fail
  refine (bl_long [s, t, u] _ rfl _ _ rfl HL.out (by simp) HA.out B1).mono ?_
  rintro e w2 ⟨rfl, B2⟩
  go_wp2_with fail
  refine (bl_same HS.out hs hs B2).mono ?_
  rintro e w3 ⟨rfl, B3⟩
  go_wp2_with fail
  refine (bl_amay HM.out hs B3).mono ?_
  rintro e w4 ⟨rfl, B4⟩
  go_wp2_with fail
  refine (bl_great hz0 hz1 hs B4).mono ?_
  rintro e w5 ⟨g, rfl, hgl, hg, B5⟩
  have HGL := Lib.hid hgl; have HGG := Lib.hid (HG.out g hg); clear hgl hg
  go_wp2_with fail
  refine (bl_same HGG.out hs (by rw [HGL.out]; exact hs) B5).mono ?_
  rintro e w6 ⟨rfl, B6⟩
  go_wp2_with fail
  refine (bl_amay HM.out hs B6).mono ?_
  rintro e w7 ⟨rfl, B7⟩
  go_wp2_with fail
  refine (bl_same H1.out hs ht B7).mono ?_
  rintro e w8 ⟨rfl, B8⟩
  go_wp2_with fail
  refine (bl_same HC.out ht hs B8).mono ?_
  rintro e w9 ⟨rfl, B9⟩
  go_wp2_with fail
  refine (bl_same H1.out hs ht B9).mono ?_
  rintro e w10 ⟨rfl, B10⟩
  go_wp2_with fail
  refine (bl_parse HP.out hs B10).mono ?_
  rintro e w11 ⟨rfl, B11⟩
  unfold parseV
  go_wp2_with fail
  refine (bl_parse HQ.out ht B11).mono ?_
  rintro e w12 ⟨rfl, B12⟩
  unfold parseV
  go_wp2_with fail
  refine (bl_same H1.out hs ht B12).mono ?_
  rintro e w13 ⟨rfl, B13⟩
  have HB := Lib.hid B13.below
  go_wp2_with fail
  go_ret
  exact ⟨rfl, HB.out⟩


set_option maxHeartbeats 4000000 in
theorem addrSame_sn (s t u : List UInt8) (z : Int) (hz0 : 0 ≤ z) (hz1 : z < 18446744073709551616) (w : World) {a b : List UInt8} (hs : s.length ≤ 1000000) (ht : t.length ≤ 1000000) (hu : u.length ≤ 1000000) (h : longL [s, t, u] = false) (hp : parseL s = some (a, b)) (hq : parseL t = none) (B0 : BL w w) :
    Calls Tryd.prog 6 #[.string (str s), .string (str t), .string (str u), .int .u64 z] w fun e w' => e = .returned (.bool true) ∧ Below w.heap.size w w' := by
  have HA := Lib.hid (show ∀ x ∈ [s, t, u], x.length ≤ 140737488351232 by simp; omega)
  have HL := Lib.hid h
  have HP := Lib.hid hp
  have HQ := Lib.hid hq
  have HM := Lib.hid (show amayL s = true by unfold amayL; rw [hp]; rfl)
  have HS := Lib.hid ((same_self s).trans HM.out)
  have HG := Lib.hid (fun (g : List UInt8) (hg : parseL g = parseL s) => show sameL s g = true by rw [← HS.out]; unfold sameL; rw [hg])
  have H1 := Lib.hid (show sameL s t = false by unfold sameL; rw [hp, hq]; rfl)
  have HC := Lib.hid ((same_comm t s).trans H1.out)
  clear h hp hq
  go_enter Tryd.func6, Tryd.ntmps6
  go_wp2_with fail
  refine (works_bl _ B0).mono ?_
  rintro e w1 ⟨rfl, B1⟩
  go_wp2_with fail
  refine (bl_long [s, t, u] _ rfl _ _ rfl HL.out (by simp) HA.out B1).mono ?_
  rintro e w2 ⟨rfl, B2⟩
  go_wp2_with fail
  refine (bl_same HS.out hs hs B2).mono ?_
  rintro e w3 ⟨rfl, B3⟩
  go_wp2_with fail
  refine (bl_amay HM.out hs B3).mono ?_
  rintro e w4 ⟨rfl, B4⟩
  go_wp2_with fail
  refine (bl_great hz0 hz1 hs B4).mono ?_
  rintro e w5 ⟨g, rfl, hgl, hg, B5⟩
  have HGL := Lib.hid hgl; have HGG := Lib.hid (HG.out g hg); clear hgl hg
  go_wp2_with fail
  refine (bl_same HGG.out hs (by rw [HGL.out]; exact hs) B5).mono ?_
  rintro e w6 ⟨rfl, B6⟩
  go_wp2_with fail
  refine (bl_amay HM.out hs B6).mono ?_
  rintro e w7 ⟨rfl, B7⟩
  go_wp2_with fail
  refine (bl_same H1.out hs ht B7).mono ?_
  rintro e w8 ⟨rfl, B8⟩
  go_wp2_with fail
  refine (bl_same HC.out ht hs B8).mono ?_
  rintro e w9 ⟨rfl, B9⟩
  go_wp2_with fail
  refine (bl_same H1.out hs ht B9).mono ?_
  rintro e w10 ⟨rfl, B10⟩
  go_wp2_with fail
  refine (bl_parse HP.out hs B10).mono ?_
  rintro e w11 ⟨rfl, B11⟩
  unfold parseV
  go_wp2_with fail
  refine (bl_parse HQ.out ht B11).mono ?_
  rintro e w12 ⟨rfl, B12⟩
  unfold parseV
  go_wp2_with fail
  refine (bl_same H1.out hs ht B12).mono ?_
  rintro e w13 ⟨rfl, B13⟩
  have HB := Lib.hid B13.below
  go_wp2_with fail
  go_ret
  exact ⟨rfl, HB.out⟩


set_option maxHeartbeats 4000000 in
theorem addrSame_ss_x (s t u : List UInt8) (z : Int) (hz0 : 0 ≤ z) (hz1 : z < 18446744073709551616) (w : World) {a b : List UInt8} {c d : List UInt8} (hs : s.length ≤ 1000000) (ht : t.length ≤ 1000000) (hu : u.length ≤ 1000000) (h : longL [s, t, u] = false) (hp : parseL s = some (a, b)) (hq : parseL t = some (c, d)) {x y : Bool} (ex : (a == c) = x) (ey : (b == d) = y) (hxy : (x && y) = false) (B0 : BL w w) :
    Calls Tryd.prog 6 #[.string (str s), .string (str t), .string (str u), .int .u64 z] w fun e w' => e = .returned (.bool true) ∧ Below w.heap.size w w' := by
  have HA := Lib.hid (show ∀ x ∈ [s, t, u], x.length ≤ 140737488351232 by simp; omega)
  have HL := Lib.hid h
  have HP := Lib.hid hp
  have HQ := Lib.hid hq
  have HM := Lib.hid (show amayL s = true by unfold amayL; rw [hp]; rfl)
  have HS := Lib.hid ((same_self s).trans HM.out)
  have HG := Lib.hid (fun (g : List UInt8) (hg : parseL g = parseL s) => show sameL s g = true by rw [← HS.out]; unfold sameL; rw [hg])
  have H1 := Lib.hid (show sameL s t = false by
    rw [← hxy, ← ex, ← ey]; unfold sameL; rw [hp, hq, Bool.eq_iff_iff]; simp)
  have HC := Lib.hid ((same_comm t s).trans H1.out)
  clear h hp hq
  cases x <;> cases y <;> first | (exact absurd hxy (by decide)) | clear hxy
  all_goals
    go_enter Tryd.func6, Tryd.ntmps6
    go_wp2_with fail
    refine (works_bl _ B0).mono ?_
    rintro e w1 ⟨rfl, B1⟩
    go_wp2_with fail
    refine (bl_long [s, t, u] _ rfl _ _ rfl HL.out (by simp) HA.out B1).mono ?_
    rintro e w2 ⟨rfl, B2⟩
    go_wp2_with fail
    refine (bl_same HS.out hs hs B2).mono ?_
    rintro e w3 ⟨rfl, B3⟩
    go_wp2_with fail
    refine (bl_amay HM.out hs B3).mono ?_
    rintro e w4 ⟨rfl, B4⟩
    go_wp2_with fail
    refine (bl_great hz0 hz1 hs B4).mono ?_
    rintro e w5 ⟨g, rfl, hgl, hg, B5⟩
    have HGL := Lib.hid hgl; have HGG := Lib.hid (HG.out g hg); clear hgl hg
    go_wp2_with fail
    refine (bl_same HGG.out hs (by rw [HGL.out]; exact hs) B5).mono ?_
    rintro e w6 ⟨rfl, B6⟩
    go_wp2_with fail
    refine (bl_amay HM.out hs B6).mono ?_
    rintro e w7 ⟨rfl, B7⟩
    go_wp2_with fail
    refine (bl_same H1.out hs ht B7).mono ?_
    rintro e w8 ⟨rfl, B8⟩
    go_wp2_with fail
    refine (bl_same HC.out ht hs B8).mono ?_
    rintro e w9 ⟨rfl, B9⟩
    go_wp2_with fail
    refine (bl_same H1.out hs ht B9).mono ?_
    rintro e w10 ⟨rfl, B10⟩
    go_wp2_with fail
    refine (bl_parse HP.out hs B10).mono ?_
    rintro e w11 ⟨rfl, B11⟩
    unfold parseV
    go_wp2_with fail
    refine (bl_parse HQ.out ht B11).mono ?_
    rintro e w12 ⟨rfl, B12⟩
    unfold parseV
    go_wp2_with fail
    refine (bl_same H1.out hs ht B12).mono ?_
    rintro e w13 ⟨rfl, B13⟩
    have HB := Lib.hid B13.below
    go_wp2_with fail
    go_ret
    exact ⟨rfl, HB.out⟩


set_option maxHeartbeats 4000000 in
theorem addrSame_ss_y (s t u : List UInt8) (z : Int) (hz0 : 0 ≤ z) (hz1 : z < 18446744073709551616) (w : World) {a b : List UInt8} {c d : List UInt8} (hs : s.length ≤ 1000000) (ht : t.length ≤ 1000000) (hu : u.length ≤ 1000000) (h : longL [s, t, u] = false) (hp : parseL s = some (a, b)) (hq : parseL t = some (c, d)) {x y : Bool} (ex : (a == c) = x) (ey : (b == d) = y) (hxy : (x && y) = true) (h2 : sameL t u = false) (B0 : BL w w) :
    Calls Tryd.prog 6 #[.string (str s), .string (str t), .string (str u), .int .u64 z] w fun e w' => e = .returned (.bool true) ∧ Below w.heap.size w w' := by
  have HA := Lib.hid (show ∀ x ∈ [s, t, u], x.length ≤ 140737488351232 by simp; omega)
  have HL := Lib.hid h
  have HP := Lib.hid hp
  have HQ := Lib.hid hq
  have HM := Lib.hid (show amayL s = true by unfold amayL; rw [hp]; rfl)
  have HS := Lib.hid ((same_self s).trans HM.out)
  have HG := Lib.hid (fun (g : List UInt8) (hg : parseL g = parseL s) => show sameL s g = true by rw [← HS.out]; unfold sameL; rw [hg])
  have H1 := Lib.hid (show sameL s t = true by
    rw [← hxy, ← ex, ← ey]; unfold sameL; rw [hp, hq, Bool.eq_iff_iff]; simp)
  have HC := Lib.hid ((same_comm t s).trans H1.out)
  have H2 := Lib.hid h2
  clear h hp hq h2
  cases x <;> cases y <;> first | (exact absurd hxy (by decide)) | clear hxy
  all_goals
    go_enter Tryd.func6, Tryd.ntmps6
    go_wp2_with fail
    refine (works_bl _ B0).mono ?_
    rintro e w1 ⟨rfl, B1⟩
    go_wp2_with fail
    refine (bl_long [s, t, u] _ rfl _ _ rfl HL.out (by simp) HA.out B1).mono ?_
    rintro e w2 ⟨rfl, B2⟩
    go_wp2_with fail
    refine (bl_same HS.out hs hs B2).mono ?_
    rintro e w3 ⟨rfl, B3⟩
    go_wp2_with fail
    refine (bl_amay HM.out hs B3).mono ?_
    rintro e w4 ⟨rfl, B4⟩
    go_wp2_with fail
    refine (bl_great hz0 hz1 hs B4).mono ?_
    rintro e w5 ⟨g, rfl, hgl, hg, B5⟩
    have HGL := Lib.hid hgl; have HGG := Lib.hid (HG.out g hg); clear hgl hg
    go_wp2_with fail
    refine (bl_same HGG.out hs (by rw [HGL.out]; exact hs) B5).mono ?_
    rintro e w6 ⟨rfl, B6⟩
    go_wp2_with fail
    refine (bl_amay HM.out hs B6).mono ?_
    rintro e w7 ⟨rfl, B7⟩
    go_wp2_with fail
    refine (bl_same H1.out hs ht B7).mono ?_
    rintro e w8 ⟨rfl, B8⟩
    go_wp2_with fail
    refine (bl_same HC.out ht hs B8).mono ?_
    rintro e w9 ⟨rfl, B9⟩
    go_wp2_with fail
    refine (bl_same H1.out hs ht B9).mono ?_
    rintro e w10 ⟨rfl, B10⟩
    go_wp2_with fail
    refine (bl_same H2.out ht hu B10).mono ?_
    rintro e w11 ⟨rfl, B11⟩
    go_wp2_with fail
    refine (bl_parse HP.out hs B11).mono ?_
    rintro e w12 ⟨rfl, B12⟩
    unfold parseV
    go_wp2_with fail
    refine (bl_parse HQ.out ht B12).mono ?_
    rintro e w13 ⟨rfl, B13⟩
    unfold parseV
    go_wp2_with fail
    refine (bl_same H1.out hs ht B13).mono ?_
    rintro e w14 ⟨rfl, B14⟩
    have HB := Lib.hid B14.below
    go_wp2_with fail
    go_ret
    exact ⟨rfl, HB.out⟩


set_option maxHeartbeats 4000000 in
theorem addrSame_ss_z (s t u : List UInt8) (z : Int) (hz0 : 0 ≤ z) (hz1 : z < 18446744073709551616) (w : World) {a b : List UInt8} {c d : List UInt8} (hs : s.length ≤ 1000000) (ht : t.length ≤ 1000000) (hu : u.length ≤ 1000000) (h : longL [s, t, u] = false) (hp : parseL s = some (a, b)) (hq : parseL t = some (c, d)) {x y : Bool} (ex : (a == c) = x) (ey : (b == d) = y) (hxy : (x && y) = true) (h2 : sameL t u = true) (B0 : BL w w) :
    Calls Tryd.prog 6 #[.string (str s), .string (str t), .string (str u), .int .u64 z] w fun e w' => e = .returned (.bool true) ∧ Below w.heap.size w w' := by
  have HA := Lib.hid (show ∀ x ∈ [s, t, u], x.length ≤ 140737488351232 by simp; omega)
  have HL := Lib.hid h
  have HP := Lib.hid hp
  have HQ := Lib.hid hq
  have HM := Lib.hid (show amayL s = true by unfold amayL; rw [hp]; rfl)
  have HS := Lib.hid ((same_self s).trans HM.out)
  have HG := Lib.hid (fun (g : List UInt8) (hg : parseL g = parseL s) => show sameL s g = true by rw [← HS.out]; unfold sameL; rw [hg])
  have H1 := Lib.hid (show sameL s t = true by
    rw [← hxy, ← ex, ← ey]; unfold sameL; rw [hp, hq, Bool.eq_iff_iff]; simp)
  have HC := Lib.hid ((same_comm t s).trans H1.out)
  have H2 := Lib.hid h2
  have H3 := Lib.hid (same_trans H1.out h2)
  clear h hp hq h2
  cases x <;> cases y <;> first | (exact absurd hxy (by decide)) | clear hxy
  all_goals
    go_enter Tryd.func6, Tryd.ntmps6
    go_wp2_with fail
    refine (works_bl _ B0).mono ?_
    rintro e w1 ⟨rfl, B1⟩
    go_wp2_with fail
    refine (bl_long [s, t, u] _ rfl _ _ rfl HL.out (by simp) HA.out B1).mono ?_
    rintro e w2 ⟨rfl, B2⟩
    go_wp2_with fail
    refine (bl_same HS.out hs hs B2).mono ?_
    rintro e w3 ⟨rfl, B3⟩
    go_wp2_with fail
    refine (bl_amay HM.out hs B3).mono ?_
    rintro e w4 ⟨rfl, B4⟩
    go_wp2_with fail
    refine (bl_great hz0 hz1 hs B4).mono ?_
    rintro e w5 ⟨g, rfl, hgl, hg, B5⟩
    have HGL := Lib.hid hgl; have HGG := Lib.hid (HG.out g hg); clear hgl hg
    go_wp2_with fail
    refine (bl_same HGG.out hs (by rw [HGL.out]; exact hs) B5).mono ?_
    rintro e w6 ⟨rfl, B6⟩
    go_wp2_with fail
    refine (bl_amay HM.out hs B6).mono ?_
    rintro e w7 ⟨rfl, B7⟩
    go_wp2_with fail
    refine (bl_same H1.out hs ht B7).mono ?_
    rintro e w8 ⟨rfl, B8⟩
    go_wp2_with fail
    refine (bl_same HC.out ht hs B8).mono ?_
    rintro e w9 ⟨rfl, B9⟩
    go_wp2_with fail
    refine (bl_same H1.out hs ht B9).mono ?_
    rintro e w10 ⟨rfl, B10⟩
    go_wp2_with fail
    refine (bl_same H2.out ht hu B10).mono ?_
    rintro e w11 ⟨rfl, B11⟩
    go_wp2_with fail
    refine (bl_same H3.out hs hu B11).mono ?_
    rintro e w12 ⟨rfl, B12⟩
    go_wp2_with fail
    refine (bl_parse HP.out hs B12).mono ?_
    rintro e w13 ⟨rfl, B13⟩
    unfold parseV
    go_wp2_with fail
    refine (bl_parse HQ.out ht B13).mono ?_
    rintro e w14 ⟨rfl, B14⟩
    unfold parseV
    go_wp2_with fail
    refine (bl_same H1.out hs ht B14).mono ?_
    rintro e w15 ⟨rfl, B15⟩
    have HB := Lib.hid B15.below
    go_wp2_with fail
    go_ret
    exact ⟨rfl, HB.out⟩


theorem addrSame_walk (s t u : ByteArray) (z : Int) (hs : s.data.size ≤ 140737488351232) (ht : t.data.size ≤ 140737488351232) (hu : u.data.size ≤ 140737488351232) (hz : (Lit.int .u64 z).wf = true) (w : World) (hM : ML w) :
    Calls Tryd.prog 6 #[.string s, .string t, .string u, .int .u64 z] w fun e w' => e = .returned (.bool true) ∧ Below w.heap.size w w' := by
  obtain ⟨s, rfl, _⟩ := to_str s
  obtain ⟨t, rfl, _⟩ := to_str t
  obtain ⟨u, rfl, _⟩ := to_str u
  have hs' : s.length ≤ 140737488351232 := by simpa using hs
  have ht' : t.length ≤ 140737488351232 := by simpa using ht
  have hu' : u.length ≤ 140737488351232 := by simpa using hu
  have hzz : 0 ≤ z ∧ z < 18446744073709551616 := by
    simp only [Lit.wf, IntKind.min, IntKind.max, IntKind.signed, IntKind.bits, Bool.and_eq_true] at hz
    simp at hz
    omega
  cases h : longL [s, t, u] with
  | true => exact addrSame_long s t u z hzz.1 hzz.2 w hs' ht' hu' h hM
  | false =>
    have hl := (long_not h).2
    have h1 := hl s (by simp)
    have h2 := hl t (by simp)
    have h3 := hl u (by simp)
    cases hp : parseL s with
    | none =>
      cases hq : parseL t with
      | none => exact addrSame_nn s t u z hzz.1 hzz.2 w (by omega) (by omega) (by omega) h hp hq (BL.start hM)
      | some q => obtain ⟨c, d⟩ := q; exact addrSame_ns s t u z hzz.1 hzz.2 w (by omega) (by omega) (by omega) h hp hq (BL.start hM)
    | some p =>
      obtain ⟨a, b⟩ := p
      cases hq : parseL t with
      | none => exact addrSame_sn s t u z hzz.1 hzz.2 w (by omega) (by omega) (by omega) h hp hq (BL.start hM)
      | some q =>
        obtain ⟨c, d⟩ := q
        cases hxy : ((a == c) && (b == d)) with
        | false => exact addrSame_ss_x s t u z hzz.1 hzz.2 w (by omega) (by omega) (by omega) h hp hq rfl rfl hxy (BL.start hM)
        | true =>
          cases h4 : sameL t u with
          | false => exact addrSame_ss_y s t u z hzz.1 hzz.2 w (by omega) (by omega) (by omega) h hp hq rfl rfl hxy h4 (BL.start hM)
          | true => exact addrSame_ss_z s t u z hzz.1 hzz.2 w (by omega) (by omega) (by omega) h hp hq rfl rfl hxy h4 (BL.start hM)
end Go.Proofs.YtpgnmdpoifbngaaDoor
