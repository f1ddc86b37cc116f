/-
  The contracts of package addr's isEnvid, isText.
-/
import Derived.Test.YtbmjmiioobgbfaaGreatDoorAMay
namespace Go.Proofs.YtbmjmiioobgbfaaGreatDoor
open Go Go.RowKit Go.Shelf
set_option maxRecDepth 100000

theorem envid1_any (b : UInt8) (w : World) : Calls Tryz.prog 82 #[.int .u8 (b.toNat : Int)] w fun e w' => e = .returned (.bool (okE () b)) ∧ w = w' := by
  obtain ⟨r, hr⟩ : ∃ r, r = okE () b := ⟨_, rfl⟩
  rw [← hr]
  unfold okE at hr
  obtain ⟨d, hd⟩ : ∃ d, d = (b == 45) := ⟨_, rfl⟩
  obtain ⟨a, ha⟩ : ∃ a, a = alnC b := ⟨_, rfl⟩
  rw [← hd, ← ha] at hr
  have hdn : ((b.toNat : Int) == 45) = d := by rw [hd]; exact eq_nat 45 (by omega)
  have HA := Lib.hid ha
  clear hd ha
  subst hr
  cases d <;> cases a
  all_goals
    go_enter Tryz.func82, Tryz.ntmps82
    go_wp2_with (go_at_call 83; refine (aln_any _ _).mono ?_; rintro e w' ⟨rfl, rfl⟩; rw [← HA.out])
    go_ret
    exact ⟨rfl, rfl⟩

theorem isEnvid_any (s : List UInt8) (w : World) (hs : s.length ≤ 140737488351232) : Calls Tryz.prog 45 #[sv s] w fun e w' => e = .returned (.bool (envidL s)) ∧ Below w.heap.size w w' := by
  by_cases h : s.length ≤ 32
  · have HE := Lib.hid (each_any (ok := okE) (nx := nxE) (N := 82) (caps := #[]) (enters_of Tryz.func82 (by kernel_rfl) rfl) (fun _ W => Below w.heap.size w W)
      (fun st b W hI => (envid1_any b W).mono fun _ _ ⟨e1, e2⟩ => ⟨e1, e2 ▸ hI⟩) s (by omega) () w (Below.refl _ _))
    have HR := Lib.hid (show envidL s = (runF okE nxE () s).1 by unfold envidL; rw [decide_eq_true h, runE]; rfl)
    obtain ⟨r, hr⟩ : ∃ r, r = (runF okE nxE () s).1 := ⟨_, rfl⟩
    rw [← hr] at HE HR
    clear hr
    go_enter Tryz.func45, Tryz.ntmps45
    go_wp2_with fail
    refine (HE.out).mono ?_
    rintro e w1 ⟨rfl, hb⟩
    have HB := Lib.hid hb
    clear hb
    go_wp2_with fail
    go_ret
    rw [HR.out]
    exact ⟨rfl, HB.out⟩
  · have HF := Lib.hid (show envidL s = false by unfold envidL; rw [decide_eq_false h]; rfl)
    have h' : 32 < s.length := by omega
    clear h
    go_enter Tryz.func45, Tryz.ntmps45
    go_wp2_with fail
    go_ret
    rw [HF.out]
    exact ⟨rfl, Below.refl _ _⟩

/-! ### a mail's text -/
/-- The two boxes that the closure keeps its state in, behind w0. -/
def BoxT (w0 : World) (k j : Nat) (st : Nat × Bool) (w : World) : Prop := k < j ∧ st.1 ≤ 600 ∧ Bx w k (.int .i64 (st.1 : Int)) 3 ∧ Bx w j (.bool st.2) 4 ∧ Below k w0 w

theorem two_set {w0 w : World} {k j : Nat} {st : Nat × Bool} (h : BoxT w0 k j st w) :
    (∀ n : Nat, n ≤ 600 → BoxT w0 k j (n, st.2) (w.setCell ⟨k, 0, none⟩ (.int .i64 (n : Int)))) ∧ (∀ b : Bool, BoxT w0 k j (st.1, b) (w.setCell ⟨j, 0, none⟩ (.bool b))) := by
  obtain ⟨h1, h5, h2, h3, h4⟩ := h
  refine ⟨fun n hn => ⟨h1, hn, h2.set _, h3.other _ (by omega), ?_⟩, fun b => ⟨h1, h5, h2.other _ (by omega), h3.set _, ?_⟩⟩
  · exact h4.trans ((Below.refl _ w).setCell (p := ⟨k, 0, none⟩) (Nat.le_refl _) _)
  · exact h4.trans ((Below.refl _ w).setCell (p := ⟨j, 0, none⟩) (Nat.le_of_lt h1) _)

set_option maxHeartbeats 2000000 in
theorem text1_any (w0 : World) (k j : Nat) (st : Nat × Bool) (b : UInt8) (w : World) (h : BoxT w0 k j st w) (hst : st.1 ≤ 512) :
    Calls Tryz.prog 84 #[.int .u8 (b.toNat : Int), .pointer (some ⟨k, 0, none⟩), .pointer (some ⟨j, 0, none⟩)] w fun e w' => e = .returned (.bool (okT st b)) ∧ BoxT w0 k j (nxT st b) w' := by
  obtain ⟨n, e⟩ := st
  have hkj := h.1
  have hn : n ≤ 512 := hst
  have c1 := h.2.2.1.cell
  have f1 := h.2.2.1.free
  have c2 := h.2.2.2.1.cell
  have f2 := h.2.2.2.1.free
  obtain ⟨s1, s2⟩ := two_set h
  have h1 := s1 (n + 1) (by omega)
  have cast1 : ((n + 1 : Nat) : Int) = (n : Int) + 1 := by omega
  rw [cast1] at h1
  have c11 := h1.2.2.1.cell
  have f11 := h1.2.2.1.free
  have c12 := h1.2.2.2.1.cell
  have f12 := h1.2.2.2.1.free
  rw [cast1] at c11
  obtain ⟨s3, s4⟩ := two_set h1
  have h00 := s3 0 (by omega)
  have c21 := h00.2.2.2.1.cell
  have f21 := h00.2.2.2.1.free
  have H1 := Lib.hid h1
  have H4 := Lib.hid (s4 true)
  have H5 := Lib.hid ((two_set h00).2 false)
  clear h h1 s1 s2 s3 s4 h00 cast1 hst
  obtain ⟨r, hr⟩ : ∃ r, r = okT (n, e) b := ⟨_, rfl⟩
  obtain ⟨x, hx⟩ : ∃ x, x = nxT (n, e) b := ⟨_, rfl⟩
  rw [← hr, ← hx]
  unfold okT at hr
  unfold nxT at hx
  simp only at hr hx
  by_cases hlong : 512 < n + 1
  · rw [if_pos hlong] at hr hx
    subst hr hx
    have hl : (512 : Int) < (n : Int) + 1 := by omega
    clear hlong
    go_enter Tryz.func84, Tryz.ntmps84
    go_wp2_with fail
    go_ret
    exact ⟨rfl, H1.out⟩
  rw [if_neg hlong] at hr hx
  have hl : (n : Int) + 1 ≤ 512 := by omega
  clear hlong
  cases e with
  | true =>
    simp only [if_true] at hr hx
    have hd : ((b.toNat : Int) == 10) = r := by rw [hr]; exact eq_nat 10 (by omega)
    subst hx
    clear hr
    go_enter Tryz.func84, Tryz.ntmps84
    go_wp2_with fail
    go_ret
    exact ⟨rfl, H5.out⟩
  | false =>
    simp only [Bool.false_eq_true, if_false] at hr hx
    obtain ⟨p, hp⟩ : ∃ p, (b == 13) = p := ⟨_, rfl⟩
    have hpn : ((b.toNat : Int) == 13) = p := by rw [← hp]; exact eq_nat 13 (by omega)
    rw [hp] at hr hx
    clear hp
    cases p with
    | true =>
      simp only [if_true] at hr hx
      subst hr hx
      go_enter Tryz.func84, Tryz.ntmps84
      go_wp2_with fail
      go_ret
      exact ⟨rfl, H4.out⟩
    | false =>
      simp only [Bool.false_eq_true, if_false] at hr hx
      obtain ⟨t, ht⟩ : ∃ t, (b == 9) = t := ⟨_, rfl⟩
      have htn : ((b.toNat : Int) == 9) = t := by rw [← ht]; exact eq_nat 9 (by omega)
      obtain ⟨g, hg⟩ : ∃ g, grC b = g := ⟨_, rfl⟩
      rw [ht, hg] at hr
      have HG := Lib.hid hg
      subst hr hx
      clear ht hg
      cases t
      all_goals
        go_enter Tryz.func84, Tryz.ntmps84
        go_wp2_with (go_at_call 85; refine (gr_any _ _).mono ?_; rintro e w' ⟨rfl, rfl⟩; rw [HG.out])
        go_ret
        exact ⟨rfl, H1.out⟩

/-- What is known behind a byte: the next state, if it fits; else what is kept. -/
def Stepped {σ : Type} (Inv : σ → World → Prop) (Fin : World → Prop) (ok : Bool) (st : σ) (w : World) : Prop := if ok then Inv st w else Fin w

set_option maxHeartbeats 1000000 in
/-- 'each', where the state is told only as long as the bytes fit. -/
theorem each_any2 {σ : Type} {ok : σ → UInt8 → Bool} {nx : σ → UInt8 → σ} {N : Nat} {caps : Array Value} (he : ∀ args w, (callFunc N args).run Tryz.prog w = .ok (.enter N args) w) (Inv : σ → World → Prop) (Fin : World → Prop)
    (hstep : ∀ st (b : UInt8) W, Inv st W → Calls Tryz.prog N (#[.int .u8 (b.toNat : Int)] ++ caps) W fun e w' => e = .returned (.bool (ok st b)) ∧ Stepped Inv Fin (ok st b) (nx st b) w')
    (s : List UInt8) (hs : s.length ≤ 140737488351232) (st0 : σ) (w : World) (h0 : Inv st0 w) :
    Calls Tryz.prog 81 #[sv s, .func (.func N) #[] caps] w fun e w' => e = .returned (.bool (runF ok nx st0 s).1) ∧ Stepped Inv Fin (runF ok nx st0 s).1 (runF ok nx st0 s).2 w' := by
  obtain ⟨R, hR⟩ : ∃ R, R = runF ok nx st0 s := ⟨_, rfl⟩
  rw [← hR]
  have HS := Lib.hid hstep
  have H0 := Lib.hid h0
  have HR := Lib.hid hR
  clear hstep h0 hR
  go_enter Tryz.func81, Tryz.ntmps81
  go_wp2_with fail
  go_loopw [5, 8] (fun _ i wr => ∃ k : Nat, ∃ st : σ, k ≤ s.length ∧ i = .int .i64 k ∧ runF ok nx st (s.drop k) = R ∧ Inv st wr) (fun _ i _ => s.length - (intOf i).toNat)
  case atStart => exact ⟨0, st0, Nat.zero_le _, rfl, HR.out.symm, H0.out⟩
  case round =>
    obtain ⟨k, st, hk, rfl, hrun, hinv⟩ := hrel
    have HRU := Lib.hid hrun
    clear hrun
    by_cases hlt : k < s.length
    · obtain ⟨b, hb⟩ : ∃ b, s.getD k 0 = b := ⟨_, rfl⟩
      have hcs : (((str s)[k]'(by simpa [ByteArray.size] using hlt)).toNat) = b.toNat := by rw [str_getD s k hlt, hb]
      have hst := HS.out st b wr hinv
      have hd : s.drop k = b :: s.drop (k + 1) := by rw [List.drop_eq_getElem_cons hlt, ← getD_str s k hlt, hb]
      have HD := Lib.hid hd
      clear hb hd hinv
      cases ho : ok st b with
      | true =>
        have HN := Lib.hid (show runF ok nx (nx st b) (s.drop (k + 1)) = R by rw [← HRU.out, HD.out, runF_true ho])
        rw [ho] at hst
        have HST := Lib.hid hst
        clear ho hst
        go_wp2_with (go_at_fn N; refine (HST.out).mono ?_; rintro e w1 ⟨rfl, hi⟩; have HI := Lib.hid hi; clear hi)
        go_roundw
        case rel => exact ⟨k + 1, nx st b, by omega, by go_num, HN.out, HI.out⟩
        case measure => simp [intOf]; omega
      | false =>
        have HN := Lib.hid (show R = (false, nx st b) by rw [← HRU.out, HD.out, runF_false ho])
        rw [ho] at hst
        have HST := Lib.hid hst
        clear ho hst
        go_wp2_with (go_at_fn N; refine (HST.out).mono ?_; rintro e w1 ⟨rfl, hi⟩; have HI := Lib.hid hi; clear hi)
        go_ret
        rw [HN.out]
        exact ⟨rfl, HI.out⟩
    · obtain rfl : k = s.length := by omega
      have HN := Lib.hid (show R = (true, st) by rw [← HRU.out, List.drop_length]; rfl)
      have HI := Lib.hid hinv
      clear hinv
      go_wp2
      go_ret
      rw [HN.out]
      exact ⟨rfl, HI.out⟩

theorem text_step (w0 : World) (k j : Nat) (st : Nat × Bool) (b : UInt8) (W : World) (h : BoxT w0 k j st W ∧ st.1 ≤ 512) :
    Calls Tryz.prog 84 #[.int .u8 (b.toNat : Int), .pointer (some ⟨k, 0, none⟩), .pointer (some ⟨j, 0, none⟩)] W fun e w' => e = .returned (.bool (okT st b)) ∧ Stepped (fun st W => BoxT w0 k j st W ∧ st.1 ≤ 512) (Below k w0) (okT st b) (nxT st b) w' :=
  (text1_any w0 k j st b W h.1 h.2).mono fun _ _ ⟨e1, e2⟩ => ⟨e1, by
    unfold Stepped
    cases ho : okT st b with
    | false => exact e2.2.2.2.2
    | true =>
      refine ⟨e2, ?_⟩
      unfold okT at ho
      unfold nxT
      by_cases hl : 512 < st.1 + 1
      · rw [if_pos hl] at ho; cases ho
      · rw [if_neg hl]
        split
        · show 0 ≤ 512; omega
        · split <;> (show st.1 + 1 ≤ 512; omega)⟩

set_option maxHeartbeats 1000000 in
theorem isText_any (s : List UInt8) (w : World) (hs : s.length ≤ 140737488351232) : Calls Tryz.prog 46 #[sv s] w fun e w' => e = .returned (.bool (mtextL s)) ∧ Below w.heap.size w w' := by
  have HR := Lib.hid (show mtextL s = ((runF okT nxT (0, false) s).1 && (runF okT nxT (0, false) s).2.1 == 0) from rfl)
  have HE := Lib.hid (fun (w1 : World) (k j : Nat) (h0 : BoxT w1 k j (0, false) w1) => each_any2 (ok := okT) (nx := nxT) (N := 84) (caps := #[.pointer (some ⟨k, 0, none⟩), .pointer (some ⟨j, 0, none⟩)]) (enters_of Tryz.func84 (by kernel_rfl) rfl)
    (fun st W => BoxT w1 k j st W ∧ st.1 ≤ 512) (Below k w1) (text_step w1 k j) s hs (0, false) w1 ⟨h0, Nat.zero_le _⟩)
  obtain ⟨R, hR⟩ : ∃ R, R = runF okT nxT (0, false) s := ⟨_, rfl⟩
  rw [← hR] at HE HR
  clear hR
  obtain ⟨r1, n, e⟩ := R
  have HB := Lib.hid (((Below.refl w.heap.size w).alloc (Nat.le_refl _) (.cells #[.int .i64 0] 3)).alloc (by simp) (.cells #[.bool false] 4))
  have HW := Lib.hid (show ∀ w1, w1 = (w.alloc (.cells #[.int .i64 0] 3)).alloc (.cells #[.bool false] 4) → BoxT w1 w.heap.size (w.heap.size + 1) (0, false) w1 from by
    rintro w1 rfl
    have hnb := Bx.new (w.alloc (.cells #[.int .i64 0] 3)) (.bool false) 4
    rw [World.size_alloc] at hnb
    exact ⟨Nat.lt_succ_self _, Nat.zero_le _, (Bx.new w (.int .i64 0) 3).alloc _, hnb, Below.refl _ _⟩)
  cases r1 with
  | false =>
    have HF := Lib.hid (show mtextL s = false by rw [HR.out]; rfl)
    go_enter Tryz.func46, Tryz.ntmps46
    go_wp2_with fail
    refine (HE.out _ _ _ (HW.out _ rfl)).mono ?_
    rintro e w2 ⟨rfl, hb⟩
    have HB2 := Lib.hid (show Below w.heap.size _ w2 from hb)
    clear hb
    go_wp2_with fail
    go_ret
    rw [HF.out]
    exact ⟨rfl, HB.out.trans HB2.out⟩
  | true =>
    have HF := Lib.hid (show mtextL s = (n == 0) by rw [HR.out]; rfl)
    go_enter Tryz.func46, Tryz.ntmps46
    go_wp2_with fail
    refine (HE.out _ _ _ (HW.out _ rfl)).mono ?_
    rintro e2 w2 ⟨rfl, hb⟩
    have hb' : BoxT _ w.heap.size (w.heap.size + 1) (n, e) w2 := hb.1
    have c0 := hb'.2.2.1.cell
    have HB2 := Lib.hid hb'.2.2.2.2
    clear hb hb'
    obtain ⟨z, hz⟩ : ∃ z, (n == 0) = z := ⟨_, rfl⟩
    have hzn : ((n : Int) == 0) = z := by rw [← hz, Bool.eq_iff_iff, beq_iff_eq, beq_iff_eq]; omega
    rw [hz] at HF
    clear hz
    go_wp2_with fail
    go_ret
    rw [HF.out]
    exact ⟨rfl, HB.out.trans HB2.out⟩
end Go.Proofs.YtbmjmiioobgbfaaGreatDoor
