/-
  CertBack, walked.
-/
import Derived.Test.YtamlblfhjpajhaaDoorGKit
namespace Go.Proofs.YtamlblfhjpajhaaDoor
set_option linter.unusedSimpArgs false
set_option linter.unusedVariables false
open Go Go.RowKit
set_option maxRecDepth 100000

theorem encode_q {P : World → Prop} {W : World} (hP : Cl P) {y : Ct} {k : Nat} {A : Option Addr} {cp : Nat} (h : P W ∧ BX W k y A cp) (hs : shortC y) :
    Calls Tryd.prog 8 #[.agg #[sv y.key, sv y.sig, .slice A y.names.length cp, .int .i64 y.fr, .int .i64 y.un, .bool y.ca]] W fun e w' => e = .returned (.tuple #[sv (encL y), .int .i64 (encE y : Nat)]) ∧ P w' ∧ BX w' k y A cp :=
  encode_p (Cl.box hP k y A cp) h h.2.sx hs
theorem may_q {P : World → Prop} {W : World} (hP : Cl P) {y : Ct} {k : Nat} {A : Option Addr} {cp : Nat} (h : P W ∧ BX W k y A cp) (hs : shortC y) :
    Calls Tryd.prog 9 #[.agg #[sv y.key, sv y.sig, .slice A y.names.length cp, .int .i64 y.fr, .int .i64 y.un, .bool y.ca]] W fun e w' => e = .returned (.bool (mayC y)) ∧ P w' ∧ BX w' k y A cp :=
  may_p (Cl.box hP k y A cp) h h.2.sx hs
set_option maxHeartbeats 40000000 in
theorem certBack_walk {w : World} (c : Ct) (A : Option Addr) (cp : Nat) (hx : SX w (.slice A c.names.length cp) c.names) (hi : inC c) (d : Ct) (B : Option Addr) (dp : Nat) (hy : SX w (.slice B d.names.length dp) d.names) (hj : inC d) (s : List UInt8) (hs : s.length ≤ 140737488351232) (hw : GL w) :
    Calls Tryd.prog 3 #[certV c (.slice A c.names.length cp), certV d (.slice B d.names.length dp), sv s] w fun e w' => e = .returned (.bool true) ∧ Below w.heap.size w w' := by
  have hP0 := Cl.box (Cl.box (@Cl.gb w) w.heap.size c A cp) (w.heap.size + 1) d B dp
  obtain ⟨P, hPe⟩ : ∃ P : World → Prop, P = fun W => (Gb w W ∧ BX W w.heap.size c A cp) ∧ BX W (w.heap.size + 1) d B dp := ⟨_, rfl⟩
  rw [← hPe] at hP0
  have HP := Lib.hid hP0
  obtain ⟨W1, hW⟩ : ∃ W1, W1 = (w.alloc (cellsC c (.slice A c.names.length cp))).alloc (cellsC d (.slice B d.names.length dp)) := ⟨_, rfl⟩
  have hp1 : P W1 := by
    rw [hPe, hW]
    have h1 := box_new (@Cl.gb w) (Gb.start hw) hx
    have h2 := box_new (Cl.box (@Cl.gb w) w.heap.size c A cp) h1 (hy.step (below_alloc w (cellsC c (.slice A c.names.length cp))))
    rw [World.size_alloc] at h2
    exact h2
  have HU := Lib.hid (show ∀ W, P W → (Gb w W ∧ BX W w.heap.size c A cp) ∧ BX W (w.heap.size + 1) d B dp by rw [hPe]; exact fun W h => h)
  have HP1 := Lib.hid hp1
  obtain ⟨k, hk⟩ : ∃ k, k = w.heap.size := ⟨_, rfl⟩
  have HBL := Lib.hid (fun W (h : P W) => (HU.out W h).1.1.1)
  have hC := fun W (h : P W) => (HU.out W h).1.2.cells
  have hD := fun W (h : P W) => (HU.out W h).2.cells
  have HX := Lib.hid (fun W (h : P W) => (HU.out W h).1.2.sx)
  have HY := Lib.hid (fun W (h : P W) => (HU.out W h).2.sx)
  have hL := fun W (h : P W) => And.intro (HU.out W h).1.2.1.lt (HU.out W h).2.1.lt
  rw [← hk] at hC hD hL
  have HKL := Lib.hid hL
  have HC := Lib.hid hC
  have HD := Lib.hid hD
  have HWK := Lib.hid (fun W (h : P W) => works_p HP.out h)
  have HLC := Lib.hid (fun W (h : P W) => large_p HP.out h (HX.out W h) hi)
  have HLD := Lib.hid (fun W (h : P W) => large_p HP.out h (HY.out W h) hj)
  have hEC := fun W (h : P W) (hs : smallCt c) => encode_p HP.out h (HX.out W h) hs.short.2.2.2.2
  have hED := fun W (h : P W) (hs : smallCt d) => encode_p HP.out h (HY.out W h) hs.short.2.2.2.2
  have hMC := fun W (h : P W) (hs : smallCt c) => may_p HP.out h (HX.out W h) hs.short.2.2.2.2
  have HSA := Lib.hid (fun W (h : P W) (A' : Option Addr) (cp' : Nat) (hx : SX W (.slice A' c.names.length cp') c.names) (hs : smallCt c) => show Calls Tryd.prog 11 #[.agg #[sv c.key, sv c.sig, .slice A' c.names.length cp', .int .i64 c.fr, .int .i64 c.un, .bool c.ca], .agg #[sv c.key, sv c.sig, .slice A c.names.length cp, .int .i64 c.fr, .int .i64 c.un, .bool c.ca]] W (fun e w' => e = .returned (.bool true) ∧ P w') by
    have := same_p HP.out h hx (HX.out W h) hs.short.2.2.2.2 hs.short.2.2.2.2
    rw [sameB_iff.2 rfl] at this
    exact this)
  have hSD := fun W (h : P W) (hs : smallCt c) (ht : smallCt d) => same_p HP.out h (HX.out W h) (HY.out W h) hs.short.2.2.2.2 ht.short.2.2.2.2
  have HW := Lib.hid hW
  have HK := Lib.hid hk
  have hzs := str_size s
  clear hW hk hx hy hi hj hw hp1 hP0 hPe hC hD hL
  have big : 3000 < s.length → Calls Tryd.prog 3 #[certV c (.slice A c.names.length cp), certV d (.slice B d.names.length dp), sv s] w (fun e w' => e = .returned (.bool true) ∧ Below w.heap.size w w') := by
    intro hl
    have hl' : (3000 : Int) < (s.length : Int) := by omega
    unfold certV
    obtain ⟨a0, a1, a2, a3, a4, a5⟩ := HC.out _ HP1.out
    obtain ⟨b0, b1, b2, b3, b4, b5⟩ := HD.out _ HP1.out
    go_enter Tryd.func3, Tryd.ntmps3
    go_wp2_with fail
    rw [← HW.out, ← HK.out]
    go_wp2_with (first
      | (go_at_call 6; with_reducible refine (HWK.out _ HP1.out).mono ?_; rintro e w1 ⟨rfl, p1⟩; have HP2 := Lib.hid p1; obtain ⟨a0, a1, a2, a3, a4, a5⟩ := HC.out _ p1; obtain ⟨b0, b1, b2, b3, b4, b5⟩ := HD.out _ p1; clear p1)
      | (go_at_call 7; with_reducible refine (HLC.out _ HP2.out).mono ?_; rintro e w2 ⟨hb, p2⟩; have HP3 := Lib.hid p2; obtain ⟨a0, a1, a2, a3, a4, a5⟩ := HC.out _ p2; obtain ⟨b0, b1, b2, b3, b4, b5⟩ := HD.out _ p2; clear p2; rcases hb with ⟨rfl, hsc⟩ | rfl)
      | (go_at_call 7; with_reducible refine (HLD.out _ HP3.out).mono ?_; rintro e w3 ⟨hb, p3⟩; have HP4 := Lib.hid p3; obtain ⟨a0, a1, a2, a3, a4, a5⟩ := HC.out _ p3; obtain ⟨b0, b1, b2, b3, b4, b5⟩ := HD.out _ p3; clear p3; rcases hb with ⟨rfl, hsd⟩ | rfl))
    · go_wp2_with (go_at_call 6; refine (HWK.out _ HP4.out).mono ?_; rintro e wz ⟨rfl, pz⟩)
      go_ret
      exact ⟨rfl, HBL.out _ pz⟩
    · go_wp2_with (go_at_call 6; refine (HWK.out _ HP4.out).mono ?_; rintro e wz ⟨rfl, pz⟩)
      go_ret
      exact ⟨rfl, HBL.out _ pz⟩
    · go_wp2_with (go_at_call 6; refine (HWK.out _ HP3.out).mono ?_; rintro e wz ⟨rfl, pz⟩)
      go_ret
      exact ⟨rfl, HBL.out _ pz⟩
  by_cases hl : 3000 < s.length
  · exact big hl
  have hl' : ¬ (3000 : Int) < (s.length : Int) := by omega
  have hs3 : s.length ≤ 3000 := by omega
  clear big hl
  cases hmc : mayC c with
  | false =>
    have h4 : encE c = 4 := encE_form.2 (.inl hmc)
    have hea := encE_not (c := c) (by omega)
    rw [h4, hea] at hEC
    rw [hmc] at hMC
    have HEC := Lib.hid hEC
    have HED := Lib.hid hED
    have HMC := Lib.hid hMC
    clear hEC hED hMC hSD h4 hea hmc
    cases hd : decO s with
    | none =>
      have HDS := Lib.hid (fun W (h : P W) => decode_no HP.out h (s := s) (by omega) hd)
      have hds := decE_none hd
      obtain ⟨D, hDe⟩ : ∃ D, D = decE s := ⟨_, rfl⟩
      rw [← hDe] at HDS hds
      have hd1 : ((D : Int) != 0) = true := by rw [bne_iff_ne]; omega
      have hd2 : ¬ (D : Int) = 0 := by omega
      clear hd hDe hds
      unfold certV
      obtain ⟨a0, a1, a2, a3, a4, a5⟩ := HC.out _ HP1.out
      obtain ⟨b0, b1, b2, b3, b4, b5⟩ := HD.out _ HP1.out
      go_enter Tryd.func3, Tryd.ntmps3
      go_wp2_with fail
      rw [← HW.out, ← HK.out]
      go_wp2_with (first
        | (go_at_call 6; with_reducible refine (HWK.out _ HP1.out).mono ?_; rintro e w1 ⟨rfl, p1⟩; have HP2 := Lib.hid p1; obtain ⟨a0, a1, a2, a3, a4, a5⟩ := HC.out _ p1; obtain ⟨b0, b1, b2, b3, b4, b5⟩ := HD.out _ p1; clear p1)
        | (go_at_call 7; with_reducible refine (HLC.out _ HP2.out).mono ?_; rintro e w2 ⟨hb, p2⟩; have HP3 := Lib.hid p2; obtain ⟨a0, a1, a2, a3, a4, a5⟩ := HC.out _ p2; obtain ⟨b0, b1, b2, b3, b4, b5⟩ := HD.out _ p2; clear p2; rcases hb with ⟨rfl, hsc⟩ | rfl)
        | (go_at_call 7; with_reducible refine (HLD.out _ HP3.out).mono ?_; rintro e w3 ⟨hb, p3⟩; have HP4 := Lib.hid p3; obtain ⟨a0, a1, a2, a3, a4, a5⟩ := HC.out _ p3; obtain ⟨b0, b1, b2, b3, b4, b5⟩ := HD.out _ p3; clear p3; rcases hb with ⟨rfl, hsd⟩ | rfl))
      · have HSC := Lib.hid hsc
        have HSD2 := Lib.hid hsd
        clear hsc hsd
        go_wp2_with (first
          | (go_at_call 8; with_reducible refine (HEC.out _ HP4.out HSC.out).mono ?_; rintro e w4 ⟨rfl, p4⟩; have HP5 := Lib.hid p4; obtain ⟨a0, a1, a2, a3, a4, a5⟩ := HC.out _ p4; obtain ⟨b0, b1, b2, b3, b4, b5⟩ := HD.out _ p4; clear p4)
          | (go_at_call 8; with_reducible refine (HED.out _ HP5.out HSD2.out).mono ?_; rintro e w5 ⟨rfl, p5⟩; have HP6 := Lib.hid p5; obtain ⟨a0, a1, a2, a3, a4, a5⟩ := HC.out _ p5; obtain ⟨b0, b1, b2, b3, b4, b5⟩ := HD.out _ p5; clear p5)
          | (go_at_call 9; with_reducible refine (HMC.out _ HP6.out HSC.out).mono ?_; rintro e w6 ⟨rfl, p6⟩; have HP7 := Lib.hid p6; obtain ⟨a0, a1, a2, a3, a4, a5⟩ := HC.out _ p6; obtain ⟨b0, b1, b2, b3, b4, b5⟩ := HD.out _ p6; clear p6)
          | (go_at_call 10; with_reducible refine (HDS.out _ HP7.out).mono ?_; rintro e w10 ⟨rfl, p10⟩; have HP11 := Lib.hid (HP.out.alloc p10 (cellsC ct0 (.slice none 0 0))); clear p10; unfold certV))
        go_ret
        exact ⟨rfl, HBL.out _ HP11.out⟩
      · clear hsc
        go_wp2_with (go_at_call 6; refine (HWK.out _ HP4.out).mono ?_; rintro e wz ⟨rfl, pz⟩)
        go_ret
        exact ⟨rfl, HBL.out _ pz⟩
      · go_wp2_with (go_at_call 6; refine (HWK.out _ HP3.out).mono ?_; rintro e wz ⟨rfl, pz⟩)
        go_ret
        exact ⟨rfl, HBL.out _ pz⟩
    | some y =>
      have HDS := Lib.hid (fun W (h : P W) => decode_yes HP.out h hd)
      obtain ⟨_, hm, he0, hel, _⟩ := decO_some hd
      have hsy := dec_short hd
      have HEY := Lib.hid (fun W ky Ay py (h : P W ∧ BX W ky y Ay py) => show Calls Tryd.prog 8 #[.agg #[sv y.key, sv y.sig, .slice Ay y.names.length py, .int .i64 y.fr, .int .i64 y.un, .bool y.ca]] W (fun e w' => e = .returned (.tuple #[sv s, .int .i64 0]) ∧ P w' ∧ BX w' ky y Ay py) by
        have := encode_q HP.out h hsy
        rw [he0, hel] at this
        exact this)
      have HMY := Lib.hid (fun W ky Ay py (h : P W ∧ BX W ky y Ay py) => show Calls Tryd.prog 9 #[.agg #[sv y.key, sv y.sig, .slice Ay y.names.length py, .int .i64 y.fr, .int .i64 y.un, .bool y.ca]] W (fun e w' => e = .returned (.bool true) ∧ P w' ∧ BX w' ky y Ay py) by
        have := may_q HP.out h hsy
        rw [hm] at this
        exact this)
      clear hd hm he0 hel hsy
      unfold certV
      obtain ⟨a0, a1, a2, a3, a4, a5⟩ := HC.out _ HP1.out
      obtain ⟨b0, b1, b2, b3, b4, b5⟩ := HD.out _ HP1.out
      go_enter Tryd.func3, Tryd.ntmps3
      go_wp2_with fail
      rw [← HW.out, ← HK.out]
      go_wp2_with (first
        | (go_at_call 6; with_reducible refine (HWK.out _ HP1.out).mono ?_; rintro e w1 ⟨rfl, p1⟩; have HP2 := Lib.hid p1; obtain ⟨a0, a1, a2, a3, a4, a5⟩ := HC.out _ p1; obtain ⟨b0, b1, b2, b3, b4, b5⟩ := HD.out _ p1; clear p1)
        | (go_at_call 7; with_reducible refine (HLC.out _ HP2.out).mono ?_; rintro e w2 ⟨hb, p2⟩; have HP3 := Lib.hid p2; obtain ⟨a0, a1, a2, a3, a4, a5⟩ := HC.out _ p2; obtain ⟨b0, b1, b2, b3, b4, b5⟩ := HD.out _ p2; clear p2; rcases hb with ⟨rfl, hsc⟩ | rfl)
        | (go_at_call 7; with_reducible refine (HLD.out _ HP3.out).mono ?_; rintro e w3 ⟨hb, p3⟩; have HP4 := Lib.hid p3; obtain ⟨a0, a1, a2, a3, a4, a5⟩ := HC.out _ p3; obtain ⟨b0, b1, b2, b3, b4, b5⟩ := HD.out _ p3; clear p3; rcases hb with ⟨rfl, hsd⟩ | rfl))
      · have HSC := Lib.hid hsc
        have HSD2 := Lib.hid hsd
        clear hsc hsd
        go_wp2_with (first
          | (go_at_call 8; with_reducible refine (HEC.out _ HP4.out HSC.out).mono ?_; rintro e w4 ⟨rfl, p4⟩; have HP5 := Lib.hid p4; obtain ⟨a0, a1, a2, a3, a4, a5⟩ := HC.out _ p4; obtain ⟨b0, b1, b2, b3, b4, b5⟩ := HD.out _ p4; clear p4)
          | (go_at_call 8; with_reducible refine (HED.out _ HP5.out HSD2.out).mono ?_; rintro e w5 ⟨rfl, p5⟩; have HP6 := Lib.hid p5; obtain ⟨a0, a1, a2, a3, a4, a5⟩ := HC.out _ p5; obtain ⟨b0, b1, b2, b3, b4, b5⟩ := HD.out _ p5; clear p5)
          | (go_at_call 9; with_reducible refine (HMC.out _ HP6.out HSC.out).mono ?_; rintro e w6 ⟨rfl, p6⟩; have HP7 := Lib.hid p6; obtain ⟨a0, a1, a2, a3, a4, a5⟩ := HC.out _ p6; obtain ⟨b0, b1, b2, b3, b4, b5⟩ := HD.out _ p6; clear p6)
          | (go_at_call 10; with_reducible refine (HDS.out _ HP7.out).mono ?_; rintro e w10 ⟨A10, cp10, rfl, p10, x10⟩; have HB11 := Lib.hid (box_new HP.out p10 x10); clear p10 x10; unfold certV)
          | (go_at_call 8; with_reducible refine (HEY.out _ _ A10 cp10 HB11.out).mono ?_; rintro e w11 ⟨rfl, p11, x11⟩; have HB12 := Lib.hid (And.intro p11 x11); obtain ⟨a0, a1, a2, a3, a4, a5⟩ := x11.cells; clear p11 x11)
          | (go_at_call 9; with_reducible refine (HMY.out _ _ A10 cp10 HB12.out).mono ?_; rintro e w12 ⟨rfl, p12, x12⟩))
        go_ret
        exact ⟨by simp, HBL.out _ p12⟩
      · clear hsc
        go_wp2_with (go_at_call 6; refine (HWK.out _ HP4.out).mono ?_; rintro e wz ⟨rfl, pz⟩)
        go_ret
        exact ⟨rfl, HBL.out _ pz⟩
      · go_wp2_with (go_at_call 6; refine (HWK.out _ HP3.out).mono ?_; rintro e wz ⟨rfl, pz⟩)
        go_ret
        exact ⟨rfl, HBL.out _ pz⟩
  | true =>
    rw [hmc] at hMC
    by_cases h64 : 64 < c.names.length
    · have h4 : encE c = 4 := encE_form.2 (.inr h64)
      have hea := encE_not (c := c) (by omega)
      rw [h4, hea] at hEC
      have h64' : (64 : Int) < (c.names.length : Int) := by omega
      have HEC := Lib.hid hEC
      have HED := Lib.hid hED
      have HMC := Lib.hid hMC
      clear hEC hED hMC hSD h4 hea hmc h64
      cases hd : decO s with
      | none =>
        have HDS := Lib.hid (fun W (h : P W) => decode_no HP.out h (s := s) (by omega) hd)
        have hds := decE_none hd
        obtain ⟨D, hDe⟩ : ∃ D, D = decE s := ⟨_, rfl⟩
        rw [← hDe] at HDS hds
        have hd1 : ((D : Int) != 0) = true := by rw [bne_iff_ne]; omega
        have hd2 : ¬ (D : Int) = 0 := by omega
        clear hd hDe hds
        unfold certV
        obtain ⟨a0, a1, a2, a3, a4, a5⟩ := HC.out _ HP1.out
        obtain ⟨b0, b1, b2, b3, b4, b5⟩ := HD.out _ HP1.out
        go_enter Tryd.func3, Tryd.ntmps3
        go_wp2_with fail
        rw [← HW.out, ← HK.out]
        go_wp2_with (first
          | (go_at_call 6; with_reducible refine (HWK.out _ HP1.out).mono ?_; rintro e w1 ⟨rfl, p1⟩; have HP2 := Lib.hid p1; obtain ⟨a0, a1, a2, a3, a4, a5⟩ := HC.out _ p1; obtain ⟨b0, b1, b2, b3, b4, b5⟩ := HD.out _ p1; clear p1)
          | (go_at_call 7; with_reducible refine (HLC.out _ HP2.out).mono ?_; rintro e w2 ⟨hb, p2⟩; have HP3 := Lib.hid p2; obtain ⟨a0, a1, a2, a3, a4, a5⟩ := HC.out _ p2; obtain ⟨b0, b1, b2, b3, b4, b5⟩ := HD.out _ p2; clear p2; rcases hb with ⟨rfl, hsc⟩ | rfl)
          | (go_at_call 7; with_reducible refine (HLD.out _ HP3.out).mono ?_; rintro e w3 ⟨hb, p3⟩; have HP4 := Lib.hid p3; obtain ⟨a0, a1, a2, a3, a4, a5⟩ := HC.out _ p3; obtain ⟨b0, b1, b2, b3, b4, b5⟩ := HD.out _ p3; clear p3; rcases hb with ⟨rfl, hsd⟩ | rfl))
        · have HSC := Lib.hid hsc
          have HSD2 := Lib.hid hsd
          clear hsc hsd
          go_wp2_with (first
            | (go_at_call 8; with_reducible refine (HEC.out _ HP4.out HSC.out).mono ?_; rintro e w4 ⟨rfl, p4⟩; have HP5 := Lib.hid p4; obtain ⟨a0, a1, a2, a3, a4, a5⟩ := HC.out _ p4; obtain ⟨b0, b1, b2, b3, b4, b5⟩ := HD.out _ p4; clear p4)
            | (go_at_call 8; with_reducible refine (HED.out _ HP5.out HSD2.out).mono ?_; rintro e w5 ⟨rfl, p5⟩; have HP6 := Lib.hid p5; obtain ⟨a0, a1, a2, a3, a4, a5⟩ := HC.out _ p5; obtain ⟨b0, b1, b2, b3, b4, b5⟩ := HD.out _ p5; clear p5)
            | (go_at_call 9; with_reducible refine (HMC.out _ HP6.out HSC.out).mono ?_; rintro e w6 ⟨rfl, p6⟩; have HP7 := Lib.hid p6; obtain ⟨a0, a1, a2, a3, a4, a5⟩ := HC.out _ p6; obtain ⟨b0, b1, b2, b3, b4, b5⟩ := HD.out _ p6; clear p6)
            | (go_at_call 10; with_reducible refine (HDS.out _ HP7.out).mono ?_; rintro e w10 ⟨rfl, p10⟩; have HP11 := Lib.hid (HP.out.alloc p10 (cellsC ct0 (.slice none 0 0))); clear p10; unfold certV))
          go_ret
          exact ⟨rfl, HBL.out _ HP11.out⟩
        · clear hsc
          go_wp2_with (go_at_call 6; refine (HWK.out _ HP4.out).mono ?_; rintro e wz ⟨rfl, pz⟩)
          go_ret
          exact ⟨rfl, HBL.out _ pz⟩
        · go_wp2_with (go_at_call 6; refine (HWK.out _ HP3.out).mono ?_; rintro e wz ⟨rfl, pz⟩)
          go_ret
          exact ⟨rfl, HBL.out _ pz⟩
      | some y =>
        have HDS := Lib.hid (fun W (h : P W) => decode_yes HP.out h hd)
        obtain ⟨_, hm, he0, hel, _⟩ := decO_some hd
        have hsy := dec_short hd
        have HEY := Lib.hid (fun W ky Ay py (h : P W ∧ BX W ky y Ay py) => show Calls Tryd.prog 8 #[.agg #[sv y.key, sv y.sig, .slice Ay y.names.length py, .int .i64 y.fr, .int .i64 y.un, .bool y.ca]] W (fun e w' => e = .returned (.tuple #[sv s, .int .i64 0]) ∧ P w' ∧ BX w' ky y Ay py) by
          have := encode_q HP.out h hsy
          rw [he0, hel] at this
          exact this)
        have HMY := Lib.hid (fun W ky Ay py (h : P W ∧ BX W ky y Ay py) => show Calls Tryd.prog 9 #[.agg #[sv y.key, sv y.sig, .slice Ay y.names.length py, .int .i64 y.fr, .int .i64 y.un, .bool y.ca]] W (fun e w' => e = .returned (.bool true) ∧ P w' ∧ BX w' ky y Ay py) by
          have := may_q HP.out h hsy
          rw [hm] at this
          exact this)
        clear hd hm he0 hel hsy
        unfold certV
        obtain ⟨a0, a1, a2, a3, a4, a5⟩ := HC.out _ HP1.out
        obtain ⟨b0, b1, b2, b3, b4, b5⟩ := HD.out _ HP1.out
        go_enter Tryd.func3, Tryd.ntmps3
        go_wp2_with fail
        rw [← HW.out, ← HK.out]
        go_wp2_with (first
          | (go_at_call 6; with_reducible refine (HWK.out _ HP1.out).mono ?_; rintro e w1 ⟨rfl, p1⟩; have HP2 := Lib.hid p1; obtain ⟨a0, a1, a2, a3, a4, a5⟩ := HC.out _ p1; obtain ⟨b0, b1, b2, b3, b4, b5⟩ := HD.out _ p1; clear p1)
          | (go_at_call 7; with_reducible refine (HLC.out _ HP2.out).mono ?_; rintro e w2 ⟨hb, p2⟩; have HP3 := Lib.hid p2; obtain ⟨a0, a1, a2, a3, a4, a5⟩ := HC.out _ p2; obtain ⟨b0, b1, b2, b3, b4, b5⟩ := HD.out _ p2; clear p2; rcases hb with ⟨rfl, hsc⟩ | rfl)
          | (go_at_call 7; with_reducible refine (HLD.out _ HP3.out).mono ?_; rintro e w3 ⟨hb, p3⟩; have HP4 := Lib.hid p3; obtain ⟨a0, a1, a2, a3, a4, a5⟩ := HC.out _ p3; obtain ⟨b0, b1, b2, b3, b4, b5⟩ := HD.out _ p3; clear p3; rcases hb with ⟨rfl, hsd⟩ | rfl))
        · have HSC := Lib.hid hsc
          have HSD2 := Lib.hid hsd
          clear hsc hsd
          go_wp2_with (first
            | (go_at_call 8; with_reducible refine (HEC.out _ HP4.out HSC.out).mono ?_; rintro e w4 ⟨rfl, p4⟩; have HP5 := Lib.hid p4; obtain ⟨a0, a1, a2, a3, a4, a5⟩ := HC.out _ p4; obtain ⟨b0, b1, b2, b3, b4, b5⟩ := HD.out _ p4; clear p4)
            | (go_at_call 8; with_reducible refine (HED.out _ HP5.out HSD2.out).mono ?_; rintro e w5 ⟨rfl, p5⟩; have HP6 := Lib.hid p5; obtain ⟨a0, a1, a2, a3, a4, a5⟩ := HC.out _ p5; obtain ⟨b0, b1, b2, b3, b4, b5⟩ := HD.out _ p5; clear p5)
            | (go_at_call 9; with_reducible refine (HMC.out _ HP6.out HSC.out).mono ?_; rintro e w6 ⟨rfl, p6⟩; have HP7 := Lib.hid p6; obtain ⟨a0, a1, a2, a3, a4, a5⟩ := HC.out _ p6; obtain ⟨b0, b1, b2, b3, b4, b5⟩ := HD.out _ p6; clear p6)
            | (go_at_call 10; with_reducible refine (HDS.out _ HP7.out).mono ?_; rintro e w10 ⟨A10, cp10, rfl, p10, x10⟩; have HB11 := Lib.hid (box_new HP.out p10 x10); clear p10 x10; unfold certV)
            | (go_at_call 8; with_reducible refine (HEY.out _ _ A10 cp10 HB11.out).mono ?_; rintro e w11 ⟨rfl, p11, x11⟩; have HB12 := Lib.hid (And.intro p11 x11); obtain ⟨a0, a1, a2, a3, a4, a5⟩ := x11.cells; clear p11 x11)
            | (go_at_call 9; with_reducible refine (HMY.out _ _ A10 cp10 HB12.out).mono ?_; rintro e w12 ⟨rfl, p12, x12⟩))
          go_ret
          exact ⟨by simp, HBL.out _ p12⟩
        · clear hsc
          go_wp2_with (go_at_call 6; refine (HWK.out _ HP4.out).mono ?_; rintro e wz ⟨rfl, pz⟩)
          go_ret
          exact ⟨rfl, HBL.out _ pz⟩
        · go_wp2_with (go_at_call 6; refine (HWK.out _ HP3.out).mono ?_; rintro e wz ⟨rfl, pz⟩)
          go_ret
          exact ⟨rfl, HBL.out _ pz⟩
    · have h64' : ¬ (64 : Int) < (c.names.length : Int) := by omega
      have h4 : encE c ≠ 4 := fun h => by
        rcases encE_form.1 h with h | h
        · rw [hmc] at h; cases h
        · omega
      by_cases h0 : encE c = 0
      · have hda := (dec_enc h0).1
        have HDA := Lib.hid (fun W (h : P W) => decode_yes HP.out h hda)
        have hal := encL_le c
        rw [h0] at hEC
        have hab : encE d = 0 → (c = d ∧ encL c = encL d) ∨ (c ≠ d ∧ encL c ≠ encL d) := fun hf => by
          by_cases hcd : c = d
          · exact .inl ⟨hcd, by rw [hcd]⟩
          · exact .inr ⟨hcd, fun e => hcd (encL_inj h0 hf e)⟩
        obtain ⟨a, hae⟩ : ∃ a, a = encL c := ⟨_, rfl⟩
        rw [← hae] at hEC HDA hal hab
        have hza := str_size a
        have hal' : ¬ (512 : Int) < (a.length : Int) := by omega
        have HEC := Lib.hid hEC
        have HMC := Lib.hid hMC
        clear hEC hMC h4 h0 hmc h64 hda hae
        by_cases hf : encE d = 0
        · rw [hf] at hED
          rcases hab hf with ⟨hcd, hab⟩ | ⟨hcd, hab⟩
          · have hsb : sameB c d = true := sameB_iff.2 hcd
            rw [hsb] at hSD
            rw [← hab] at hED
            have HED := Lib.hid hED
            have HSE := Lib.hid hSD
            clear hED hSD hsb hab hcd hf
            cases hd : decO s with
            | none =>
              have HDS := Lib.hid (fun W (h : P W) => decode_no HP.out h (s := s) (by omega) hd)
              have hds := decE_none hd
              obtain ⟨D, hDe⟩ : ∃ D, D = decE s := ⟨_, rfl⟩
              rw [← hDe] at HDS hds
              have hd1 : ((D : Int) != 0) = true := by rw [bne_iff_ne]; omega
              have hd2 : ¬ (D : Int) = 0 := by omega
              clear hd hDe hds
              unfold certV
              obtain ⟨a0, a1, a2, a3, a4, a5⟩ := HC.out _ HP1.out
              obtain ⟨b0, b1, b2, b3, b4, b5⟩ := HD.out _ HP1.out
              go_enter Tryd.func3, Tryd.ntmps3
              go_wp2_with fail
              rw [← HW.out, ← HK.out]
              go_wp2_with (first
                | (go_at_call 6; with_reducible refine (HWK.out _ HP1.out).mono ?_; rintro e w1 ⟨rfl, p1⟩; have HP2 := Lib.hid p1; obtain ⟨a0, a1, a2, a3, a4, a5⟩ := HC.out _ p1; obtain ⟨b0, b1, b2, b3, b4, b5⟩ := HD.out _ p1; clear p1)
                | (go_at_call 7; with_reducible refine (HLC.out _ HP2.out).mono ?_; rintro e w2 ⟨hb, p2⟩; have HP3 := Lib.hid p2; obtain ⟨a0, a1, a2, a3, a4, a5⟩ := HC.out _ p2; obtain ⟨b0, b1, b2, b3, b4, b5⟩ := HD.out _ p2; clear p2; rcases hb with ⟨rfl, hsc⟩ | rfl)
                | (go_at_call 7; with_reducible refine (HLD.out _ HP3.out).mono ?_; rintro e w3 ⟨hb, p3⟩; have HP4 := Lib.hid p3; obtain ⟨a0, a1, a2, a3, a4, a5⟩ := HC.out _ p3; obtain ⟨b0, b1, b2, b3, b4, b5⟩ := HD.out _ p3; clear p3; rcases hb with ⟨rfl, hsd⟩ | rfl))
              · have HSC := Lib.hid hsc
                have HSD2 := Lib.hid hsd
                clear hsc hsd
                go_wp2_with (first
                  | (go_at_call 8; with_reducible refine (HEC.out _ HP4.out HSC.out).mono ?_; rintro e w4 ⟨rfl, p4⟩; have HP5 := Lib.hid p4; obtain ⟨a0, a1, a2, a3, a4, a5⟩ := HC.out _ p4; obtain ⟨b0, b1, b2, b3, b4, b5⟩ := HD.out _ p4; clear p4)
                  | (go_at_call 8; with_reducible refine (HED.out _ HP5.out HSD2.out).mono ?_; rintro e w5 ⟨rfl, p5⟩; have HP6 := Lib.hid p5; obtain ⟨a0, a1, a2, a3, a4, a5⟩ := HC.out _ p5; obtain ⟨b0, b1, b2, b3, b4, b5⟩ := HD.out _ p5; clear p5)
                  | (go_at_call 9; with_reducible refine (HMC.out _ HP6.out HSC.out).mono ?_; rintro e w6 ⟨rfl, p6⟩; have HP7 := Lib.hid p6; obtain ⟨a0, a1, a2, a3, a4, a5⟩ := HC.out _ p6; obtain ⟨b0, b1, b2, b3, b4, b5⟩ := HD.out _ p6; clear p6)
                  | (go_at_call 10; with_reducible refine (HDA.out _ HP7.out).mono ?_; rintro e w7 ⟨A7, cp7, rfl, p7, x7⟩; have HP8 := Lib.hid (HP.out.alloc p7 (cellsC c (.slice A7 c.names.length cp7))); have HX8 := Lib.hid (x7.step (below_alloc w7 (cellsC c (.slice A7 c.names.length cp7)))); obtain ⟨a0, a1, a2, a3, a4, a5⟩ := HC.out _ p7; obtain ⟨b0, b1, b2, b3, b4, b5⟩ := HD.out _ p7; obtain ⟨l0, l1⟩ := HKL.out _ p7; clear p7 x7; unfold certV)
                  | (go_at_call 11; with_reducible refine (HSA.out _ HP8.out A7 cp7 HX8.out HSC.out).mono ?_; rintro e w8 ⟨rfl, p8⟩; have HP9 := Lib.hid p8; obtain ⟨a0, a1, a2, a3, a4, a5⟩ := HC.out _ p8; obtain ⟨b0, b1, b2, b3, b4, b5⟩ := HD.out _ p8; clear p8)
                  | (go_at_call 11; with_reducible refine (HSE.out _ HP9.out HSC.out HSD2.out).mono ?_; rintro e w9 ⟨rfl, p9⟩; have HP10 := Lib.hid p9; clear p9)
                  | (go_at_call 10; with_reducible refine (HDS.out _ HP10.out).mono ?_; rintro e w10 ⟨rfl, p10⟩; have HP11 := Lib.hid (HP.out.alloc p10 (cellsC ct0 (.slice none 0 0))); clear p10; unfold certV))
                go_ret
                exact ⟨rfl, HBL.out _ HP11.out⟩
              · clear hsc
                go_wp2_with (go_at_call 6; refine (HWK.out _ HP4.out).mono ?_; rintro e wz ⟨rfl, pz⟩)
                go_ret
                exact ⟨rfl, HBL.out _ pz⟩
              · go_wp2_with (go_at_call 6; refine (HWK.out _ HP3.out).mono ?_; rintro e wz ⟨rfl, pz⟩)
                go_ret
                exact ⟨rfl, HBL.out _ pz⟩
            | some y =>
              have HDS := Lib.hid (fun W (h : P W) => decode_yes HP.out h hd)
              obtain ⟨_, hm, he0, hel, _⟩ := decO_some hd
              have hsy := dec_short hd
              have HEY := Lib.hid (fun W ky Ay py (h : P W ∧ BX W ky y Ay py) => show Calls Tryd.prog 8 #[.agg #[sv y.key, sv y.sig, .slice Ay y.names.length py, .int .i64 y.fr, .int .i64 y.un, .bool y.ca]] W (fun e w' => e = .returned (.tuple #[sv s, .int .i64 0]) ∧ P w' ∧ BX w' ky y Ay py) by
                have := encode_q HP.out h hsy
                rw [he0, hel] at this
                exact this)
              have HMY := Lib.hid (fun W ky Ay py (h : P W ∧ BX W ky y Ay py) => show Calls Tryd.prog 9 #[.agg #[sv y.key, sv y.sig, .slice Ay y.names.length py, .int .i64 y.fr, .int .i64 y.un, .bool y.ca]] W (fun e w' => e = .returned (.bool true) ∧ P w' ∧ BX w' ky y Ay py) by
                have := may_q HP.out h hsy
                rw [hm] at this
                exact this)
              clear hd hm he0 hel hsy
              unfold certV
              obtain ⟨a0, a1, a2, a3, a4, a5⟩ := HC.out _ HP1.out
              obtain ⟨b0, b1, b2, b3, b4, b5⟩ := HD.out _ HP1.out
              go_enter Tryd.func3, Tryd.ntmps3
              go_wp2_with fail
              rw [← HW.out, ← HK.out]
              go_wp2_with (first
                | (go_at_call 6; with_reducible refine (HWK.out _ HP1.out).mono ?_; rintro e w1 ⟨rfl, p1⟩; have HP2 := Lib.hid p1; obtain ⟨a0, a1, a2, a3, a4, a5⟩ := HC.out _ p1; obtain ⟨b0, b1, b2, b3, b4, b5⟩ := HD.out _ p1; clear p1)
                | (go_at_call 7; with_reducible refine (HLC.out _ HP2.out).mono ?_; rintro e w2 ⟨hb, p2⟩; have HP3 := Lib.hid p2; obtain ⟨a0, a1, a2, a3, a4, a5⟩ := HC.out _ p2; obtain ⟨b0, b1, b2, b3, b4, b5⟩ := HD.out _ p2; clear p2; rcases hb with ⟨rfl, hsc⟩ | rfl)
                | (go_at_call 7; with_reducible refine (HLD.out _ HP3.out).mono ?_; rintro e w3 ⟨hb, p3⟩; have HP4 := Lib.hid p3; obtain ⟨a0, a1, a2, a3, a4, a5⟩ := HC.out _ p3; obtain ⟨b0, b1, b2, b3, b4, b5⟩ := HD.out _ p3; clear p3; rcases hb with ⟨rfl, hsd⟩ | rfl))
              · have HSC := Lib.hid hsc
                have HSD2 := Lib.hid hsd
                clear hsc hsd
                go_wp2_with (first
                  | (go_at_call 8; with_reducible refine (HEC.out _ HP4.out HSC.out).mono ?_; rintro e w4 ⟨rfl, p4⟩; have HP5 := Lib.hid p4; obtain ⟨a0, a1, a2, a3, a4, a5⟩ := HC.out _ p4; obtain ⟨b0, b1, b2, b3, b4, b5⟩ := HD.out _ p4; clear p4)
                  | (go_at_call 8; with_reducible refine (HED.out _ HP5.out HSD2.out).mono ?_; rintro e w5 ⟨rfl, p5⟩; have HP6 := Lib.hid p5; obtain ⟨a0, a1, a2, a3, a4, a5⟩ := HC.out _ p5; obtain ⟨b0, b1, b2, b3, b4, b5⟩ := HD.out _ p5; clear p5)
                  | (go_at_call 9; with_reducible refine (HMC.out _ HP6.out HSC.out).mono ?_; rintro e w6 ⟨rfl, p6⟩; have HP7 := Lib.hid p6; obtain ⟨a0, a1, a2, a3, a4, a5⟩ := HC.out _ p6; obtain ⟨b0, b1, b2, b3, b4, b5⟩ := HD.out _ p6; clear p6)
                  | (go_at_call 10; with_reducible refine (HDA.out _ HP7.out).mono ?_; rintro e w7 ⟨A7, cp7, rfl, p7, x7⟩; have HP8 := Lib.hid (HP.out.alloc p7 (cellsC c (.slice A7 c.names.length cp7))); have HX8 := Lib.hid (x7.step (below_alloc w7 (cellsC c (.slice A7 c.names.length cp7)))); obtain ⟨a0, a1, a2, a3, a4, a5⟩ := HC.out _ p7; obtain ⟨b0, b1, b2, b3, b4, b5⟩ := HD.out _ p7; obtain ⟨l0, l1⟩ := HKL.out _ p7; clear p7 x7; unfold certV)
                  | (go_at_call 11; with_reducible refine (HSA.out _ HP8.out A7 cp7 HX8.out HSC.out).mono ?_; rintro e w8 ⟨rfl, p8⟩; have HP9 := Lib.hid p8; obtain ⟨a0, a1, a2, a3, a4, a5⟩ := HC.out _ p8; obtain ⟨b0, b1, b2, b3, b4, b5⟩ := HD.out _ p8; clear p8)
                  | (go_at_call 11; with_reducible refine (HSE.out _ HP9.out HSC.out HSD2.out).mono ?_; rintro e w9 ⟨rfl, p9⟩; have HP10 := Lib.hid p9; clear p9)
                  | (go_at_call 10; with_reducible refine (HDS.out _ HP10.out).mono ?_; rintro e w10 ⟨A10, cp10, rfl, p10, x10⟩; have HB11 := Lib.hid (box_new HP.out p10 x10); clear p10 x10; unfold certV)
                  | (go_at_call 8; with_reducible refine (HEY.out _ _ A10 cp10 HB11.out).mono ?_; rintro e w11 ⟨rfl, p11, x11⟩; have HB12 := Lib.hid (And.intro p11 x11); obtain ⟨a0, a1, a2, a3, a4, a5⟩ := x11.cells; clear p11 x11)
                  | (go_at_call 9; with_reducible refine (HMY.out _ _ A10 cp10 HB12.out).mono ?_; rintro e w12 ⟨rfl, p12, x12⟩))
                go_ret
                exact ⟨by simp, HBL.out _ p12⟩
              · clear hsc
                go_wp2_with (go_at_call 6; refine (HWK.out _ HP4.out).mono ?_; rintro e wz ⟨rfl, pz⟩)
                go_ret
                exact ⟨rfl, HBL.out _ pz⟩
              · go_wp2_with (go_at_call 6; refine (HWK.out _ HP3.out).mono ?_; rintro e wz ⟨rfl, pz⟩)
                go_ret
                exact ⟨rfl, HBL.out _ pz⟩
          · have hsb : sameB c d = false := by
              cases h : sameB c d with
              | false => rfl
              | true => exact absurd (sameB_iff.1 h) hcd
            rw [hsb] at hSD
            obtain ⟨b, hbe⟩ : ∃ b, b = encL d := ⟨_, rfl⟩
            rw [← hbe] at hED hab
            have hab2 : (a == b) = false := beq_false_of_ne hab
            have HED := Lib.hid hED
            have HSE := Lib.hid hSD
            clear hED hSD hsb hcd hf hbe
            cases hd : decO s with
            | none =>
              have HDS := Lib.hid (fun W (h : P W) => decode_no HP.out h (s := s) (by omega) hd)
              have hds := decE_none hd
              obtain ⟨D, hDe⟩ : ∃ D, D = decE s := ⟨_, rfl⟩
              rw [← hDe] at HDS hds
              have hd1 : ((D : Int) != 0) = true := by rw [bne_iff_ne]; omega
              have hd2 : ¬ (D : Int) = 0 := by omega
              clear hd hDe hds
              unfold certV
              obtain ⟨a0, a1, a2, a3, a4, a5⟩ := HC.out _ HP1.out
              obtain ⟨b0, b1, b2, b3, b4, b5⟩ := HD.out _ HP1.out
              go_enter Tryd.func3, Tryd.ntmps3
              go_wp2_with fail
              rw [← HW.out, ← HK.out]
              go_wp2_with (first
                | (go_at_call 6; with_reducible refine (HWK.out _ HP1.out).mono ?_; rintro e w1 ⟨rfl, p1⟩; have HP2 := Lib.hid p1; obtain ⟨a0, a1, a2, a3, a4, a5⟩ := HC.out _ p1; obtain ⟨b0, b1, b2, b3, b4, b5⟩ := HD.out _ p1; clear p1)
                | (go_at_call 7; with_reducible refine (HLC.out _ HP2.out).mono ?_; rintro e w2 ⟨hb, p2⟩; have HP3 := Lib.hid p2; obtain ⟨a0, a1, a2, a3, a4, a5⟩ := HC.out _ p2; obtain ⟨b0, b1, b2, b3, b4, b5⟩ := HD.out _ p2; clear p2; rcases hb with ⟨rfl, hsc⟩ | rfl)
                | (go_at_call 7; with_reducible refine (HLD.out _ HP3.out).mono ?_; rintro e w3 ⟨hb, p3⟩; have HP4 := Lib.hid p3; obtain ⟨a0, a1, a2, a3, a4, a5⟩ := HC.out _ p3; obtain ⟨b0, b1, b2, b3, b4, b5⟩ := HD.out _ p3; clear p3; rcases hb with ⟨rfl, hsd⟩ | rfl))
              · have HSC := Lib.hid hsc
                have HSD2 := Lib.hid hsd
                clear hsc hsd
                go_wp2_with (first
                  | (go_at_call 8; with_reducible refine (HEC.out _ HP4.out HSC.out).mono ?_; rintro e w4 ⟨rfl, p4⟩; have HP5 := Lib.hid p4; obtain ⟨a0, a1, a2, a3, a4, a5⟩ := HC.out _ p4; obtain ⟨b0, b1, b2, b3, b4, b5⟩ := HD.out _ p4; clear p4)
                  | (go_at_call 8; with_reducible refine (HED.out _ HP5.out HSD2.out).mono ?_; rintro e w5 ⟨rfl, p5⟩; have HP6 := Lib.hid p5; obtain ⟨a0, a1, a2, a3, a4, a5⟩ := HC.out _ p5; obtain ⟨b0, b1, b2, b3, b4, b5⟩ := HD.out _ p5; clear p5)
                  | (go_at_call 9; with_reducible refine (HMC.out _ HP6.out HSC.out).mono ?_; rintro e w6 ⟨rfl, p6⟩; have HP7 := Lib.hid p6; obtain ⟨a0, a1, a2, a3, a4, a5⟩ := HC.out _ p6; obtain ⟨b0, b1, b2, b3, b4, b5⟩ := HD.out _ p6; clear p6)
                  | (go_at_call 10; with_reducible refine (HDA.out _ HP7.out).mono ?_; rintro e w7 ⟨A7, cp7, rfl, p7, x7⟩; have HP8 := Lib.hid (HP.out.alloc p7 (cellsC c (.slice A7 c.names.length cp7))); have HX8 := Lib.hid (x7.step (below_alloc w7 (cellsC c (.slice A7 c.names.length cp7)))); obtain ⟨a0, a1, a2, a3, a4, a5⟩ := HC.out _ p7; obtain ⟨b0, b1, b2, b3, b4, b5⟩ := HD.out _ p7; obtain ⟨l0, l1⟩ := HKL.out _ p7; clear p7 x7; unfold certV)
                  | (go_at_call 11; with_reducible refine (HSA.out _ HP8.out A7 cp7 HX8.out HSC.out).mono ?_; rintro e w8 ⟨rfl, p8⟩; have HP9 := Lib.hid p8; obtain ⟨a0, a1, a2, a3, a4, a5⟩ := HC.out _ p8; obtain ⟨b0, b1, b2, b3, b4, b5⟩ := HD.out _ p8; clear p8)
                  | (go_at_call 11; with_reducible refine (HSE.out _ HP9.out HSC.out HSD2.out).mono ?_; rintro e w9 ⟨rfl, p9⟩; have HP10 := Lib.hid p9; clear p9)
                  | (go_at_call 10; with_reducible refine (HDS.out _ HP10.out).mono ?_; rintro e w10 ⟨rfl, p10⟩; have HP11 := Lib.hid (HP.out.alloc p10 (cellsC ct0 (.slice none 0 0))); clear p10; unfold certV))
                go_ret
                exact ⟨rfl, HBL.out _ HP11.out⟩
              · clear hsc
                go_wp2_with (go_at_call 6; refine (HWK.out _ HP4.out).mono ?_; rintro e wz ⟨rfl, pz⟩)
                go_ret
                exact ⟨rfl, HBL.out _ pz⟩
              · go_wp2_with (go_at_call 6; refine (HWK.out _ HP3.out).mono ?_; rintro e wz ⟨rfl, pz⟩)
                go_ret
                exact ⟨rfl, HBL.out _ pz⟩
            | some y =>
              have HDS := Lib.hid (fun W (h : P W) => decode_yes HP.out h hd)
              obtain ⟨_, hm, he0, hel, _⟩ := decO_some hd
              have hsy := dec_short hd
              have HEY := Lib.hid (fun W ky Ay py (h : P W ∧ BX W ky y Ay py) => show Calls Tryd.prog 8 #[.agg #[sv y.key, sv y.sig, .slice Ay y.names.length py, .int .i64 y.fr, .int .i64 y.un, .bool y.ca]] W (fun e w' => e = .returned (.tuple #[sv s, .int .i64 0]) ∧ P w' ∧ BX w' ky y Ay py) by
                have := encode_q HP.out h hsy
                rw [he0, hel] at this
                exact this)
              have HMY := Lib.hid (fun W ky Ay py (h : P W ∧ BX W ky y Ay py) => show Calls Tryd.prog 9 #[.agg #[sv y.key, sv y.sig, .slice Ay y.names.length py, .int .i64 y.fr, .int .i64 y.un, .bool y.ca]] W (fun e w' => e = .returned (.bool true) ∧ P w' ∧ BX w' ky y Ay py) by
                have := may_q HP.out h hsy
                rw [hm] at this
                exact this)
              clear hd hm he0 hel hsy
              unfold certV
              obtain ⟨a0, a1, a2, a3, a4, a5⟩ := HC.out _ HP1.out
              obtain ⟨b0, b1, b2, b3, b4, b5⟩ := HD.out _ HP1.out
              go_enter Tryd.func3, Tryd.ntmps3
              go_wp2_with fail
              rw [← HW.out, ← HK.out]
              go_wp2_with (first
                | (go_at_call 6; with_reducible refine (HWK.out _ HP1.out).mono ?_; rintro e w1 ⟨rfl, p1⟩; have HP2 := Lib.hid p1; obtain ⟨a0, a1, a2, a3, a4, a5⟩ := HC.out _ p1; obtain ⟨b0, b1, b2, b3, b4, b5⟩ := HD.out _ p1; clear p1)
                | (go_at_call 7; with_reducible refine (HLC.out _ HP2.out).mono ?_; rintro e w2 ⟨hb, p2⟩; have HP3 := Lib.hid p2; obtain ⟨a0, a1, a2, a3, a4, a5⟩ := HC.out _ p2; obtain ⟨b0, b1, b2, b3, b4, b5⟩ := HD.out _ p2; clear p2; rcases hb with ⟨rfl, hsc⟩ | rfl)
                | (go_at_call 7; with_reducible refine (HLD.out _ HP3.out).mono ?_; rintro e w3 ⟨hb, p3⟩; have HP4 := Lib.hid p3; obtain ⟨a0, a1, a2, a3, a4, a5⟩ := HC.out _ p3; obtain ⟨b0, b1, b2, b3, b4, b5⟩ := HD.out _ p3; clear p3; rcases hb with ⟨rfl, hsd⟩ | rfl))
              · have HSC := Lib.hid hsc
                have HSD2 := Lib.hid hsd
                clear hsc hsd
                go_wp2_with (first
                  | (go_at_call 8; with_reducible refine (HEC.out _ HP4.out HSC.out).mono ?_; rintro e w4 ⟨rfl, p4⟩; have HP5 := Lib.hid p4; obtain ⟨a0, a1, a2, a3, a4, a5⟩ := HC.out _ p4; obtain ⟨b0, b1, b2, b3, b4, b5⟩ := HD.out _ p4; clear p4)
                  | (go_at_call 8; with_reducible refine (HED.out _ HP5.out HSD2.out).mono ?_; rintro e w5 ⟨rfl, p5⟩; have HP6 := Lib.hid p5; obtain ⟨a0, a1, a2, a3, a4, a5⟩ := HC.out _ p5; obtain ⟨b0, b1, b2, b3, b4, b5⟩ := HD.out _ p5; clear p5)
                  | (go_at_call 9; with_reducible refine (HMC.out _ HP6.out HSC.out).mono ?_; rintro e w6 ⟨rfl, p6⟩; have HP7 := Lib.hid p6; obtain ⟨a0, a1, a2, a3, a4, a5⟩ := HC.out _ p6; obtain ⟨b0, b1, b2, b3, b4, b5⟩ := HD.out _ p6; clear p6)
                  | (go_at_call 10; with_reducible refine (HDA.out _ HP7.out).mono ?_; rintro e w7 ⟨A7, cp7, rfl, p7, x7⟩; have HP8 := Lib.hid (HP.out.alloc p7 (cellsC c (.slice A7 c.names.length cp7))); have HX8 := Lib.hid (x7.step (below_alloc w7 (cellsC c (.slice A7 c.names.length cp7)))); obtain ⟨a0, a1, a2, a3, a4, a5⟩ := HC.out _ p7; obtain ⟨b0, b1, b2, b3, b4, b5⟩ := HD.out _ p7; obtain ⟨l0, l1⟩ := HKL.out _ p7; clear p7 x7; unfold certV)
                  | (go_at_call 11; with_reducible refine (HSA.out _ HP8.out A7 cp7 HX8.out HSC.out).mono ?_; rintro e w8 ⟨rfl, p8⟩; have HP9 := Lib.hid p8; obtain ⟨a0, a1, a2, a3, a4, a5⟩ := HC.out _ p8; obtain ⟨b0, b1, b2, b3, b4, b5⟩ := HD.out _ p8; clear p8)
                  | (go_at_call 11; with_reducible refine (HSE.out _ HP9.out HSC.out HSD2.out).mono ?_; rintro e w9 ⟨rfl, p9⟩; have HP10 := Lib.hid p9; clear p9)
                  | (go_at_call 10; with_reducible refine (HDS.out _ HP10.out).mono ?_; rintro e w10 ⟨A10, cp10, rfl, p10, x10⟩; have HB11 := Lib.hid (box_new HP.out p10 x10); clear p10 x10; unfold certV)
                  | (go_at_call 8; with_reducible refine (HEY.out _ _ A10 cp10 HB11.out).mono ?_; rintro e w11 ⟨rfl, p11, x11⟩; have HB12 := Lib.hid (And.intro p11 x11); obtain ⟨a0, a1, a2, a3, a4, a5⟩ := x11.cells; clear p11 x11)
                  | (go_at_call 9; with_reducible refine (HMY.out _ _ A10 cp10 HB12.out).mono ?_; rintro e w12 ⟨rfl, p12, x12⟩))
                go_ret
                exact ⟨by simp, HBL.out _ p12⟩
              · clear hsc
                go_wp2_with (go_at_call 6; refine (HWK.out _ HP4.out).mono ?_; rintro e wz ⟨rfl, pz⟩)
                go_ret
                exact ⟨rfl, HBL.out _ pz⟩
              · go_wp2_with (go_at_call 6; refine (HWK.out _ HP3.out).mono ?_; rintro e wz ⟨rfl, pz⟩)
                go_ret
                exact ⟨rfl, HBL.out _ pz⟩
        · obtain ⟨F, hFe⟩ : ∃ F, F = encE d := ⟨_, rfl⟩
          rw [← hFe] at hED hf
          have hf1 : ¬ (F : Int) = 0 := by omega
          have hf2 : ((F : Int) == 0) = false := by simpa using hf1
          have HED := Lib.hid hED
          clear hED hSD hab hf hFe
          cases hd : decO s with
          | none =>
            have HDS := Lib.hid (fun W (h : P W) => decode_no HP.out h (s := s) (by omega) hd)
            have hds := decE_none hd
            obtain ⟨D, hDe⟩ : ∃ D, D = decE s := ⟨_, rfl⟩
            rw [← hDe] at HDS hds
            have hd1 : ((D : Int) != 0) = true := by rw [bne_iff_ne]; omega
            have hd2 : ¬ (D : Int) = 0 := by omega
            clear hd hDe hds
            unfold certV
            obtain ⟨a0, a1, a2, a3, a4, a5⟩ := HC.out _ HP1.out
            obtain ⟨b0, b1, b2, b3, b4, b5⟩ := HD.out _ HP1.out
            go_enter Tryd.func3, Tryd.ntmps3
            go_wp2_with fail
            rw [← HW.out, ← HK.out]
            go_wp2_with (first
              | (go_at_call 6; with_reducible refine (HWK.out _ HP1.out).mono ?_; rintro e w1 ⟨rfl, p1⟩; have HP2 := Lib.hid p1; obtain ⟨a0, a1, a2, a3, a4, a5⟩ := HC.out _ p1; obtain ⟨b0, b1, b2, b3, b4, b5⟩ := HD.out _ p1; clear p1)
              | (go_at_call 7; with_reducible refine (HLC.out _ HP2.out).mono ?_; rintro e w2 ⟨hb, p2⟩; have HP3 := Lib.hid p2; obtain ⟨a0, a1, a2, a3, a4, a5⟩ := HC.out _ p2; obtain ⟨b0, b1, b2, b3, b4, b5⟩ := HD.out _ p2; clear p2; rcases hb with ⟨rfl, hsc⟩ | rfl)
              | (go_at_call 7; with_reducible refine (HLD.out _ HP3.out).mono ?_; rintro e w3 ⟨hb, p3⟩; have HP4 := Lib.hid p3; obtain ⟨a0, a1, a2, a3, a4, a5⟩ := HC.out _ p3; obtain ⟨b0, b1, b2, b3, b4, b5⟩ := HD.out _ p3; clear p3; rcases hb with ⟨rfl, hsd⟩ | rfl))
            · have HSC := Lib.hid hsc
              have HSD2 := Lib.hid hsd
              clear hsc hsd
              go_wp2_with (first
                | (go_at_call 8; with_reducible refine (HEC.out _ HP4.out HSC.out).mono ?_; rintro e w4 ⟨rfl, p4⟩; have HP5 := Lib.hid p4; obtain ⟨a0, a1, a2, a3, a4, a5⟩ := HC.out _ p4; obtain ⟨b0, b1, b2, b3, b4, b5⟩ := HD.out _ p4; clear p4)
                | (go_at_call 8; with_reducible refine (HED.out _ HP5.out HSD2.out).mono ?_; rintro e w5 ⟨rfl, p5⟩; have HP6 := Lib.hid p5; obtain ⟨a0, a1, a2, a3, a4, a5⟩ := HC.out _ p5; obtain ⟨b0, b1, b2, b3, b4, b5⟩ := HD.out _ p5; clear p5)
                | (go_at_call 9; with_reducible refine (HMC.out _ HP6.out HSC.out).mono ?_; rintro e w6 ⟨rfl, p6⟩; have HP7 := Lib.hid p6; obtain ⟨a0, a1, a2, a3, a4, a5⟩ := HC.out _ p6; obtain ⟨b0, b1, b2, b3, b4, b5⟩ := HD.out _ p6; clear p6)
                | (go_at_call 10; with_reducible refine (HDA.out _ HP7.out).mono ?_; rintro e w7 ⟨A7, cp7, rfl, p7, x7⟩; have HP8 := Lib.hid (HP.out.alloc p7 (cellsC c (.slice A7 c.names.length cp7))); have HX8 := Lib.hid (x7.step (below_alloc w7 (cellsC c (.slice A7 c.names.length cp7)))); obtain ⟨a0, a1, a2, a3, a4, a5⟩ := HC.out _ p7; obtain ⟨b0, b1, b2, b3, b4, b5⟩ := HD.out _ p7; obtain ⟨l0, l1⟩ := HKL.out _ p7; clear p7 x7; unfold certV)
                | (go_at_call 11; with_reducible refine (HSA.out _ HP8.out A7 cp7 HX8.out HSC.out).mono ?_; rintro e w8 ⟨rfl, p8⟩; have HP9 := Lib.hid p8; obtain ⟨a0, a1, a2, a3, a4, a5⟩ := HC.out _ p8; obtain ⟨b0, b1, b2, b3, b4, b5⟩ := HD.out _ p8; clear p8)
                | (go_at_call 10; with_reducible refine (HDS.out _ HP9.out).mono ?_; rintro e w10 ⟨rfl, p10⟩; have HP11 := Lib.hid (HP.out.alloc p10 (cellsC ct0 (.slice none 0 0))); clear p10; unfold certV))
              go_ret
              exact ⟨rfl, HBL.out _ HP11.out⟩
            · clear hsc
              go_wp2_with (go_at_call 6; refine (HWK.out _ HP4.out).mono ?_; rintro e wz ⟨rfl, pz⟩)
              go_ret
              exact ⟨rfl, HBL.out _ pz⟩
            · go_wp2_with (go_at_call 6; refine (HWK.out _ HP3.out).mono ?_; rintro e wz ⟨rfl, pz⟩)
              go_ret
              exact ⟨rfl, HBL.out _ pz⟩
          | some y =>
            have HDS := Lib.hid (fun W (h : P W) => decode_yes HP.out h hd)
            obtain ⟨_, hm, he0, hel, _⟩ := decO_some hd
            have hsy := dec_short hd
            have HEY := Lib.hid (fun W ky Ay py (h : P W ∧ BX W ky y Ay py) => show Calls Tryd.prog 8 #[.agg #[sv y.key, sv y.sig, .slice Ay y.names.length py, .int .i64 y.fr, .int .i64 y.un, .bool y.ca]] W (fun e w' => e = .returned (.tuple #[sv s, .int .i64 0]) ∧ P w' ∧ BX w' ky y Ay py) by
              have := encode_q HP.out h hsy
              rw [he0, hel] at this
              exact this)
            have HMY := Lib.hid (fun W ky Ay py (h : P W ∧ BX W ky y Ay py) => show Calls Tryd.prog 9 #[.agg #[sv y.key, sv y.sig, .slice Ay y.names.length py, .int .i64 y.fr, .int .i64 y.un, .bool y.ca]] W (fun e w' => e = .returned (.bool true) ∧ P w' ∧ BX w' ky y Ay py) by
              have := may_q HP.out h hsy
              rw [hm] at this
              exact this)
            clear hd hm he0 hel hsy
            unfold certV
            obtain ⟨a0, a1, a2, a3, a4, a5⟩ := HC.out _ HP1.out
            obtain ⟨b0, b1, b2, b3, b4, b5⟩ := HD.out _ HP1.out
            go_enter Tryd.func3, Tryd.ntmps3
            go_wp2_with fail
            rw [← HW.out, ← HK.out]
            go_wp2_with (first
              | (go_at_call 6; with_reducible refine (HWK.out _ HP1.out).mono ?_; rintro e w1 ⟨rfl, p1⟩; have HP2 := Lib.hid p1; obtain ⟨a0, a1, a2, a3, a4, a5⟩ := HC.out _ p1; obtain ⟨b0, b1, b2, b3, b4, b5⟩ := HD.out _ p1; clear p1)
              | (go_at_call 7; with_reducible refine (HLC.out _ HP2.out).mono ?_; rintro e w2 ⟨hb, p2⟩; have HP3 := Lib.hid p2; obtain ⟨a0, a1, a2, a3, a4, a5⟩ := HC.out _ p2; obtain ⟨b0, b1, b2, b3, b4, b5⟩ := HD.out _ p2; clear p2; rcases hb with ⟨rfl, hsc⟩ | rfl)
              | (go_at_call 7; with_reducible refine (HLD.out _ HP3.out).mono ?_; rintro e w3 ⟨hb, p3⟩; have HP4 := Lib.hid p3; obtain ⟨a0, a1, a2, a3, a4, a5⟩ := HC.out _ p3; obtain ⟨b0, b1, b2, b3, b4, b5⟩ := HD.out _ p3; clear p3; rcases hb with ⟨rfl, hsd⟩ | rfl))
            · have HSC := Lib.hid hsc
              have HSD2 := Lib.hid hsd
              clear hsc hsd
              go_wp2_with (first
                | (go_at_call 8; with_reducible refine (HEC.out _ HP4.out HSC.out).mono ?_; rintro e w4 ⟨rfl, p4⟩; have HP5 := Lib.hid p4; obtain ⟨a0, a1, a2, a3, a4, a5⟩ := HC.out _ p4; obtain ⟨b0, b1, b2, b3, b4, b5⟩ := HD.out _ p4; clear p4)
                | (go_at_call 8; with_reducible refine (HED.out _ HP5.out HSD2.out).mono ?_; rintro e w5 ⟨rfl, p5⟩; have HP6 := Lib.hid p5; obtain ⟨a0, a1, a2, a3, a4, a5⟩ := HC.out _ p5; obtain ⟨b0, b1, b2, b3, b4, b5⟩ := HD.out _ p5; clear p5)
                | (go_at_call 9; with_reducible refine (HMC.out _ HP6.out HSC.out).mono ?_; rintro e w6 ⟨rfl, p6⟩; have HP7 := Lib.hid p6; obtain ⟨a0, a1, a2, a3, a4, a5⟩ := HC.out _ p6; obtain ⟨b0, b1, b2, b3, b4, b5⟩ := HD.out _ p6; clear p6)
                | (go_at_call 10; with_reducible refine (HDA.out _ HP7.out).mono ?_; rintro e w7 ⟨A7, cp7, rfl, p7, x7⟩; have HP8 := Lib.hid (HP.out.alloc p7 (cellsC c (.slice A7 c.names.length cp7))); have HX8 := Lib.hid (x7.step (below_alloc w7 (cellsC c (.slice A7 c.names.length cp7)))); obtain ⟨a0, a1, a2, a3, a4, a5⟩ := HC.out _ p7; obtain ⟨b0, b1, b2, b3, b4, b5⟩ := HD.out _ p7; obtain ⟨l0, l1⟩ := HKL.out _ p7; clear p7 x7; unfold certV)
                | (go_at_call 11; with_reducible refine (HSA.out _ HP8.out A7 cp7 HX8.out HSC.out).mono ?_; rintro e w8 ⟨rfl, p8⟩; have HP9 := Lib.hid p8; obtain ⟨a0, a1, a2, a3, a4, a5⟩ := HC.out _ p8; obtain ⟨b0, b1, b2, b3, b4, b5⟩ := HD.out _ p8; clear p8)
                | (go_at_call 10; with_reducible refine (HDS.out _ HP9.out).mono ?_; rintro e w10 ⟨A10, cp10, rfl, p10, x10⟩; have HB11 := Lib.hid (box_new HP.out p10 x10); clear p10 x10; unfold certV)
                | (go_at_call 8; with_reducible refine (HEY.out _ _ A10 cp10 HB11.out).mono ?_; rintro e w11 ⟨rfl, p11, x11⟩; have HB12 := Lib.hid (And.intro p11 x11); obtain ⟨a0, a1, a2, a3, a4, a5⟩ := x11.cells; clear p11 x11)
                | (go_at_call 9; with_reducible refine (HMY.out _ _ A10 cp10 HB12.out).mono ?_; rintro e w12 ⟨rfl, p12, x12⟩))
              go_ret
              exact ⟨by simp, HBL.out _ p12⟩
            · clear hsc
              go_wp2_with (go_at_call 6; refine (HWK.out _ HP4.out).mono ?_; rintro e wz ⟨rfl, pz⟩)
              go_ret
              exact ⟨rfl, HBL.out _ pz⟩
            · go_wp2_with (go_at_call 6; refine (HWK.out _ HP3.out).mono ?_; rintro e wz ⟨rfl, pz⟩)
              go_ret
              exact ⟨rfl, HBL.out _ pz⟩
      · have h40 : encE c = 40 := by rcases encE_cases c with h | h | h <;> omega
        have hea := encE_not h0
        rw [h40, hea] at hEC
        have HEC := Lib.hid hEC
        have HED := Lib.hid hED
        have HMC := Lib.hid hMC
        clear hEC hED hMC hSD h4 h0 h40 hea hmc h64
        cases hd : decO s with
        | none =>
          have HDS := Lib.hid (fun W (h : P W) => decode_no HP.out h (s := s) (by omega) hd)
          have hds := decE_none hd
          obtain ⟨D, hDe⟩ : ∃ D, D = decE s := ⟨_, rfl⟩
          rw [← hDe] at HDS hds
          have hd1 : ((D : Int) != 0) = true := by rw [bne_iff_ne]; omega
          have hd2 : ¬ (D : Int) = 0 := by omega
          clear hd hDe hds
          unfold certV
          obtain ⟨a0, a1, a2, a3, a4, a5⟩ := HC.out _ HP1.out
          obtain ⟨b0, b1, b2, b3, b4, b5⟩ := HD.out _ HP1.out
          go_enter Tryd.func3, Tryd.ntmps3
          go_wp2_with fail
          rw [← HW.out, ← HK.out]
          go_wp2_with (first
            | (go_at_call 6; with_reducible refine (HWK.out _ HP1.out).mono ?_; rintro e w1 ⟨rfl, p1⟩; have HP2 := Lib.hid p1; obtain ⟨a0, a1, a2, a3, a4, a5⟩ := HC.out _ p1; obtain ⟨b0, b1, b2, b3, b4, b5⟩ := HD.out _ p1; clear p1)
            | (go_at_call 7; with_reducible refine (HLC.out _ HP2.out).mono ?_; rintro e w2 ⟨hb, p2⟩; have HP3 := Lib.hid p2; obtain ⟨a0, a1, a2, a3, a4, a5⟩ := HC.out _ p2; obtain ⟨b0, b1, b2, b3, b4, b5⟩ := HD.out _ p2; clear p2; rcases hb with ⟨rfl, hsc⟩ | rfl)
            | (go_at_call 7; with_reducible refine (HLD.out _ HP3.out).mono ?_; rintro e w3 ⟨hb, p3⟩; have HP4 := Lib.hid p3; obtain ⟨a0, a1, a2, a3, a4, a5⟩ := HC.out _ p3; obtain ⟨b0, b1, b2, b3, b4, b5⟩ := HD.out _ p3; clear p3; rcases hb with ⟨rfl, hsd⟩ | rfl))
          · have HSC := Lib.hid hsc
            have HSD2 := Lib.hid hsd
            clear hsc hsd
            go_wp2_with (first
              | (go_at_call 8; with_reducible refine (HEC.out _ HP4.out HSC.out).mono ?_; rintro e w4 ⟨rfl, p4⟩; have HP5 := Lib.hid p4; obtain ⟨a0, a1, a2, a3, a4, a5⟩ := HC.out _ p4; obtain ⟨b0, b1, b2, b3, b4, b5⟩ := HD.out _ p4; clear p4)
              | (go_at_call 8; with_reducible refine (HED.out _ HP5.out HSD2.out).mono ?_; rintro e w5 ⟨rfl, p5⟩; have HP6 := Lib.hid p5; obtain ⟨a0, a1, a2, a3, a4, a5⟩ := HC.out _ p5; obtain ⟨b0, b1, b2, b3, b4, b5⟩ := HD.out _ p5; clear p5)
              | (go_at_call 9; with_reducible refine (HMC.out _ HP6.out HSC.out).mono ?_; rintro e w6 ⟨rfl, p6⟩; have HP7 := Lib.hid p6; obtain ⟨a0, a1, a2, a3, a4, a5⟩ := HC.out _ p6; obtain ⟨b0, b1, b2, b3, b4, b5⟩ := HD.out _ p6; clear p6)
              | (go_at_call 10; with_reducible refine (HDS.out _ HP7.out).mono ?_; rintro e w10 ⟨rfl, p10⟩; have HP11 := Lib.hid (HP.out.alloc p10 (cellsC ct0 (.slice none 0 0))); clear p10; unfold certV))
            go_ret
            exact ⟨rfl, HBL.out _ HP11.out⟩
          · clear hsc
            go_wp2_with (go_at_call 6; refine (HWK.out _ HP4.out).mono ?_; rintro e wz ⟨rfl, pz⟩)
            go_ret
            exact ⟨rfl, HBL.out _ pz⟩
          · go_wp2_with (go_at_call 6; refine (HWK.out _ HP3.out).mono ?_; rintro e wz ⟨rfl, pz⟩)
            go_ret
            exact ⟨rfl, HBL.out _ pz⟩
        | some y =>
          have HDS := Lib.hid (fun W (h : P W) => decode_yes HP.out h hd)
          obtain ⟨_, hm, he0, hel, _⟩ := decO_some hd
          have hsy := dec_short hd
          have HEY := Lib.hid (fun W ky Ay py (h : P W ∧ BX W ky y Ay py) => show Calls Tryd.prog 8 #[.agg #[sv y.key, sv y.sig, .slice Ay y.names.length py, .int .i64 y.fr, .int .i64 y.un, .bool y.ca]] W (fun e w' => e = .returned (.tuple #[sv s, .int .i64 0]) ∧ P w' ∧ BX w' ky y Ay py) by
            have := encode_q HP.out h hsy
            rw [he0, hel] at this
            exact this)
          have HMY := Lib.hid (fun W ky Ay py (h : P W ∧ BX W ky y Ay py) => show Calls Tryd.prog 9 #[.agg #[sv y.key, sv y.sig, .slice Ay y.names.length py, .int .i64 y.fr, .int .i64 y.un, .bool y.ca]] W (fun e w' => e = .returned (.bool true) ∧ P w' ∧ BX w' ky y Ay py) by
            have := may_q HP.out h hsy
            rw [hm] at this
            exact this)
          clear hd hm he0 hel hsy
          unfold certV
          obtain ⟨a0, a1, a2, a3, a4, a5⟩ := HC.out _ HP1.out
          obtain ⟨b0, b1, b2, b3, b4, b5⟩ := HD.out _ HP1.out
          go_enter Tryd.func3, Tryd.ntmps3
          go_wp2_with fail
          rw [← HW.out, ← HK.out]
          go_wp2_with (first
            | (go_at_call 6; with_reducible refine (HWK.out _ HP1.out).mono ?_; rintro e w1 ⟨rfl, p1⟩; have HP2 := Lib.hid p1; obtain ⟨a0, a1, a2, a3, a4, a5⟩ := HC.out _ p1; obtain ⟨b0, b1, b2, b3, b4, b5⟩ := HD.out _ p1; clear p1)
            | (go_at_call 7; with_reducible refine (HLC.out _ HP2.out).mono ?_; rintro e w2 ⟨hb, p2⟩; have HP3 := Lib.hid p2; obtain ⟨a0, a1, a2, a3, a4, a5⟩ := HC.out _ p2; obtain ⟨b0, b1, b2, b3, b4, b5⟩ := HD.out _ p2; clear p2; rcases hb with ⟨rfl, hsc⟩ | rfl)
            | (go_at_call 7; with_reducible refine (HLD.out _ HP3.out).mono ?_; rintro e w3 ⟨hb, p3⟩; have HP4 := Lib.hid p3; obtain ⟨a0, a1, a2, a3, a4, a5⟩ := HC.out _ p3; obtain ⟨b0, b1, b2, b3, b4, b5⟩ := HD.out _ p3; clear p3; rcases hb with ⟨rfl, hsd⟩ | rfl))
          · have HSC := Lib.hid hsc
            have HSD2 := Lib.hid hsd
            clear hsc hsd
            go_wp2_with (first
              | (go_at_call 8; with_reducible refine (HEC.out _ HP4.out HSC.out).mono ?_; rintro e w4 ⟨rfl, p4⟩; have HP5 := Lib.hid p4; obtain ⟨a0, a1, a2, a3, a4, a5⟩ := HC.out _ p4; obtain ⟨b0, b1, b2, b3, b4, b5⟩ := HD.out _ p4; clear p4)
              | (go_at_call 8; with_reducible refine (HED.out _ HP5.out HSD2.out).mono ?_; rintro e w5 ⟨rfl, p5⟩; have HP6 := Lib.hid p5; obtain ⟨a0, a1, a2, a3, a4, a5⟩ := HC.out _ p5; obtain ⟨b0, b1, b2, b3, b4, b5⟩ := HD.out _ p5; clear p5)
              | (go_at_call 9; with_reducible refine (HMC.out _ HP6.out HSC.out).mono ?_; rintro e w6 ⟨rfl, p6⟩; have HP7 := Lib.hid p6; obtain ⟨a0, a1, a2, a3, a4, a5⟩ := HC.out _ p6; obtain ⟨b0, b1, b2, b3, b4, b5⟩ := HD.out _ p6; clear p6)
              | (go_at_call 10; with_reducible refine (HDS.out _ HP7.out).mono ?_; rintro e w10 ⟨A10, cp10, rfl, p10, x10⟩; have HB11 := Lib.hid (box_new HP.out p10 x10); clear p10 x10; unfold certV)
              | (go_at_call 8; with_reducible refine (HEY.out _ _ A10 cp10 HB11.out).mono ?_; rintro e w11 ⟨rfl, p11, x11⟩; have HB12 := Lib.hid (And.intro p11 x11); obtain ⟨a0, a1, a2, a3, a4, a5⟩ := x11.cells; clear p11 x11)
              | (go_at_call 9; with_reducible refine (HMY.out _ _ A10 cp10 HB12.out).mono ?_; rintro e w12 ⟨rfl, p12, x12⟩))
            go_ret
            exact ⟨by simp, HBL.out _ p12⟩
          · clear hsc
            go_wp2_with (go_at_call 6; refine (HWK.out _ HP4.out).mono ?_; rintro e wz ⟨rfl, pz⟩)
            go_ret
            exact ⟨rfl, HBL.out _ pz⟩
          · go_wp2_with (go_at_call 6; refine (HWK.out _ HP3.out).mono ?_; rintro e wz ⟨rfl, pz⟩)
            go_ret
            exact ⟨rfl, HBL.out _ pz⟩
end Go.Proofs.YtamlblfhjpajhaaDoor
