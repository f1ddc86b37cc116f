/-
  ReplyClass's walk: true for any two lines.
-/
import Derived.Test.YtbpdbfllkehciaaDoorYAwake
namespace Go.Proofs.YtbpdbfllkehciaaDoor
open Go Go.RowKit Go.Shelf
set_option maxRecDepth 100000

theorem step_first {s : List UInt8} (h : okForm s = true) : (stepR rs0 s).d = false ∧ ((stepR rs0 s).ls.length = if moreR s then 1 else 0) ∧ (stepR rs0 s).c = codeR s := by
  have hb : badL rs0 s = false := by unfold badL; rw [h]; rfl
  have h32 : ¬ (rs0.ls.length = 32) := by decide
  unfold stepR
  rw [hb, if_neg h32]
  cases moreR s <;> exact ⟨rfl, rfl, rfl⟩
theorem second_bad {s t : List UInt8} (h : okForm s = true) (ht : okForm t = false) : errR (stepR rs0 s) t = 4 := by
  obtain ⟨h1, h2, h3⟩ := step_first h
  unfold errR badL
  rw [h1, ht]
  rfl
theorem second_good {s t : List UInt8} (h : okForm s = true) (ht : okForm t = true) : errR (stepR rs0 s) t = if (!moreR s || codeR s == codeR t) then 0 else 4 := by
  obtain ⟨h1, h2, h3⟩ := step_first h
  unfold errR badL
  rw [h1, ht, h2, h3]
  have h32 : ¬ ((stepR rs0 s).ls.length = 32) := by rw [h2]; cases moreR s <;> decide
  cases hm : moreR s with
  | false => simp
  | true =>
    by_cases e : codeR s = codeR t
    · have e1 : (codeR s == codeR t) = true := by simpa using e
      have e2 : (codeR t == codeR s) = true := by simpa using e.symm
      simp [e1, e2]
    · have e1 : (codeR s == codeR t) = false := by simpa using e
      have e2 : (codeR t == codeR s) = false := by simpa using fun h => e h.symm
      simp [e1, e2]

theorem class_q (c : Int) (W : World) (m : Nat) (h0 : -9223372036854775808 ≤ c) (h1 : c ≤ 9223372036854775807) : Calls Tryd.prog 17 #[.int .i64 c] (W.drewN m) fun e w'' => e = .returned (.int .i64 (classZ c)) ∧ ∃ k, w'' = W.drewN k :=
  (class_any c (W.drewN m) h0 h1).mono fun _ _ ⟨h1, h2⟩ => ⟨h1, m, h2.symm⟩
set_option maxHeartbeats 16000000 in
theorem class_short (s t : List UInt8) (w : World) (hw : LW w) (hl : s.length + t.length ≤ 9000) :
    Calls Tryd.prog 8 #[sv s, sv t] w fun e w' => e = .returned (.bool true) ∧ Below w.heap.size w w' := by
  have HB := Lib.hid (BL.start hw)
  have HA := Lib.hid (awake_any w hw)
  have h9 : ¬ (9000 : Int) < (s.length : Int) + (t.length : Int) := by omega
  have HLS := Lib.hid (show s.length ≤ 1000000 by omega)
  have HLT := Lib.hid (show t.length ≤ 1000000 by omega)
  clear hw
  cases hf : okForm s with
  | false =>
    have HV := Lib.hid (show parseV s = .tuple #[.int .i64 0, .bool false, sv [], .int .i64 4] by unfold parseV; rw [hf]; rfl)
    obtain ⟨y1, y2, y3, y4, hy⟩ : ∃ y1 y2 y3 y4, parseV t = .tuple #[.int .i64 y1, .bool y2, sv y3, .int .i64 y4] := by
      unfold parseV; cases okForm t <;> exact ⟨_, _, _, _, rfl⟩
    have HV2 := Lib.hid hy
    clear hf hy
    go_enter Tryd.func8, Tryd.ntmps8
    go_wp2_with fail
    refine (HA.out).mono ?_
    rintro e w1 ⟨rfl, hb⟩
    have B1 := Lib.hid ((HB.out).step hb)
    clear hb
    go_wp2_with fail
    refine (parse_any s w1 HLS.out (B1.out).lw).mono ?_
    rintro e w2 ⟨rfl, hb⟩
    rw [HV.out]
    have B2 := Lib.hid ((B1.out).step hb)
    clear hb
    go_wp2_with fail
    refine (parse_any t w2 HLT.out (B2.out).lw).mono ?_
    rintro e w3 ⟨rfl, hb⟩
    rw [HV2.out]
    have B3 := Lib.hid ((B2.out).step hb)
    clear hb
    go_wp2_with fail
    go_ret
    exact ⟨rfl, (B3.out).below⟩
  | true =>
    have hlen := okForm_len hf
    obtain ⟨q1, q2, q3⟩ := codeR_bounds hf
    obtain ⟨p1, p2⟩ := okF_first (by omega) (okForm_at hf (k := 0) (by omega))
    have HV := Lib.hid (show parseV s = .tuple #[.int .i64 (codeR s : Int), .bool (moreR s), sv (textR s), .int .i64 0] by unfold parseV; rw [if_pos hf])
    obtain ⟨c, hc⟩ : ∃ c, (s.getD 0 0).toNat = c := ⟨_, rfl⟩
    have hcs : (((str s)[0]'(by simp [ByteArray.size]; omega)).toNat) = c := by rw [str_getD s 0 (by omega), hc]
    rw [hc] at p1 p2
    have hcz : classZ (codeR s : Int) = (c : Int) - 48 := by
      unfold classZ
      rw [if_pos (by omega)]
      have : dig s 0 = c - 48 := by unfold dig; rw [hc]
      omega
    have hw1 : IntKind.u8.wrap ((c : Int) - 48) = (c : Int) - 48 := by unfold IntKind.wrap; simp [IntKind.signed, IntKind.bits]; omega
    have hs0 : (0 : Int) < s.length := by omega
    have HCZ := Lib.hid (fun W (m : Nat) => class_q (codeR s : Int) W m (by omega) (by omega))
    rw [hcz] at HCZ
    have HOK := Lib.hid hf
    obtain ⟨x, hx⟩ : ∃ x, x = codeR s := ⟨_, rfl⟩
    obtain ⟨m, hm⟩ : ∃ m, m = moreR s := ⟨_, rfl⟩
    obtain ⟨tx, htx⟩ : ∃ tx, tx = textR s := ⟨_, rfl⟩
    rw [← hx] at HCZ
    rw [← hx, ← hm, ← htx] at HV
    have HXE := Lib.hid hx
    have HME := Lib.hid hm
    clear hf hc hcz q1 q2 q3 hx hm htx
    cases hf2 : okForm t with
    | false =>
      have HV2 := Lib.hid (show parseV t = .tuple #[.int .i64 0, .bool false, sv [], .int .i64 4] by unfold parseV; rw [hf2]; rfl)
      have HE := Lib.hid (second_bad HOK.out hf2)
      clear hf2
      go_enter Tryd.func8, Tryd.ntmps8
      go_wp2_with fail
      refine (HA.out).mono ?_
      rintro e w1 ⟨rfl, hb⟩
      have B1 := Lib.hid ((HB.out).step hb)
      clear hb
      go_wp2_with fail
      refine (parse_any s w1 HLS.out (B1.out).lw).mono ?_
      rintro e w2 ⟨rfl, hb⟩
      rw [HV.out]
      have B2 := Lib.hid ((B1.out).step hb)
      clear hb
      go_wp2_with fail
      refine (parse_any t w2 HLT.out (B2.out).lw).mono ?_
      rintro e w3 ⟨rfl, hb⟩
      rw [HV2.out]
      have B3 := Lib.hid ((B2.out).step hb)
      clear hb
      go_wp2_with fail
      go_big_quiet (first
        | (go_at_call 17; with_reducible exact HCZ.out _ _))
      obtain ⟨w4, hw4⟩ : ∃ w4, w4 = w3.drewN nq := ⟨_, rfl⟩
      rw [← hw4]
      have B4 := Lib.hid (show BL w w4 by rw [hw4]; exact (B3.out).drewN _)
      clear hw4
      go_wp2_with fail
      refine (new_of B4.out).mono ?_
      rintro e w5 ⟨b, rfl, -, r, hb, -⟩
      have BB := Lib.hid (show BL w w5 from hb); have RR := Lib.hid (show Rd w.heap.size w5 b [b] rs0 from r)
      clear r hb
      go_wp2_with fail
      refine (line_of (st' := stepR rs0 s) RR.out BB.out HLS.out rfl rfl rfl).mono ?_
      rintro e w6 ⟨F6, rfl, r, hb, -, -⟩
      have B6 := Lib.hid hb; have R6 := Lib.hid r
      clear r hb
      go_wp2_with fail
      refine (line_of (er := 4) (st' := stepR (stepR rs0 s) t) R6.out B6.out HLT.out rfl HE.out rfl).mono ?_
      rintro e w7 ⟨F7, rfl, r, hb, -, -⟩
      have B7 := Lib.hid hb
      clear r hb
      go_wp2_with fail
      go_ret
      exact ⟨rfl, (B7.out).below⟩
    | true =>
      have HV2 := Lib.hid (show parseV t = .tuple #[.int .i64 (codeR t : Int), .bool (moreR t), sv (textR t), .int .i64 0] by unfold parseV; rw [if_pos hf2])
      have HE := second_good HOK.out hf2
      rw [← HXE.out, ← HME.out] at HE
      obtain ⟨y, hy⟩ : ∃ y, y = codeR t := ⟨_, rfl⟩
      obtain ⟨m2, hm2⟩ : ∃ m, m = moreR t := ⟨_, rfl⟩
      obtain ⟨ty, hty⟩ : ∃ tx, tx = textR t := ⟨_, rfl⟩
      rw [← hy] at HE
      rw [← hy, ← hm2, ← hty] at HV2
      clear hy hm2 hty hf2
      cases m with
      | false =>
        have HE := Lib.hid (show errR (stepR rs0 s) t = 0 by rw [HE]; rfl)
        go_enter Tryd.func8, Tryd.ntmps8
        go_wp2_with fail
        refine (HA.out).mono ?_
        rintro e w1 ⟨rfl, hb⟩
        have B1 := Lib.hid ((HB.out).step hb)
        clear hb
        go_wp2_with fail
        refine (parse_any s w1 HLS.out (B1.out).lw).mono ?_
        rintro e w2 ⟨rfl, hb⟩
        rw [HV.out]
        have B2 := Lib.hid ((B1.out).step hb)
        clear hb
        go_wp2_with fail
        refine (parse_any t w2 HLT.out (B2.out).lw).mono ?_
        rintro e w3 ⟨rfl, hb⟩
        rw [HV2.out]
        have B3 := Lib.hid ((B2.out).step hb)
        clear hb
        go_wp2_with fail
        go_big_quiet (first
          | (go_at_call 17; with_reducible exact HCZ.out _ _))
        obtain ⟨w4, hw4⟩ : ∃ w4, w4 = w3.drewN nq := ⟨_, rfl⟩
        rw [← hw4]
        have B4 := Lib.hid (show BL w w4 by rw [hw4]; exact (B3.out).drewN _)
        clear hw4
        go_wp2_with fail
        refine (new_of B4.out).mono ?_
        rintro e w5 ⟨b, rfl, -, r, hb, -⟩
        have BB := Lib.hid (show BL w w5 from hb); have RR := Lib.hid (show Rd w.heap.size w5 b [b] rs0 from r)
        clear r hb
        go_wp2_with fail
        refine (line_of (st' := stepR rs0 s) RR.out BB.out HLS.out rfl rfl rfl).mono ?_
        rintro e w6 ⟨F6, rfl, r, hb, -, -⟩
        have B6 := Lib.hid hb; have R6 := Lib.hid r
        clear r hb
        go_wp2_with fail
        refine (line_of (er := 0) (st' := stepR (stepR rs0 s) t) R6.out B6.out HLT.out rfl HE.out rfl).mono ?_
        rintro e w7 ⟨F7, rfl, r, hb, -, -⟩
        have B7 := Lib.hid hb
        clear r hb
        go_wp2_with fail
        go_ret
        exact ⟨rfl, (B7.out).below⟩
      | true =>
        by_cases hxy : x = y
        · have HE := Lib.hid (show errR (stepR rs0 s) t = 0 by rw [HE, hxy]; simp)
          have hxy2 : ((x : Int) == (y : Int)) = true := by rw [hxy]; simp
          clear hxy
          go_enter Tryd.func8, Tryd.ntmps8
          go_wp2_with fail
          refine (HA.out).mono ?_
          rintro e w1 ⟨rfl, hb⟩
          have B1 := Lib.hid ((HB.out).step hb)
          clear hb
          go_wp2_with fail
          refine (parse_any s w1 HLS.out (B1.out).lw).mono ?_
          rintro e w2 ⟨rfl, hb⟩
          rw [HV.out]
          have B2 := Lib.hid ((B1.out).step hb)
          clear hb
          go_wp2_with fail
          refine (parse_any t w2 HLT.out (B2.out).lw).mono ?_
          rintro e w3 ⟨rfl, hb⟩
          rw [HV2.out]
          have B3 := Lib.hid ((B2.out).step hb)
          clear hb
          go_wp2_with fail
          go_big_quiet (first
            | (go_at_call 17; with_reducible exact HCZ.out _ _))
          obtain ⟨w4, hw4⟩ : ∃ w4, w4 = w3.drewN nq := ⟨_, rfl⟩
          rw [← hw4]
          have B4 := Lib.hid (show BL w w4 by rw [hw4]; exact (B3.out).drewN _)
          clear hw4
          go_wp2_with fail
          refine (new_of B4.out).mono ?_
          rintro e w5 ⟨b, rfl, -, r, hb, -⟩
          have BB := Lib.hid (show BL w w5 from hb); have RR := Lib.hid (show Rd w.heap.size w5 b [b] rs0 from r)
          clear r hb
          go_wp2_with fail
          refine (line_of (st' := stepR rs0 s) RR.out BB.out HLS.out rfl rfl rfl).mono ?_
          rintro e w6 ⟨F6, rfl, r, hb, -, -⟩
          have B6 := Lib.hid hb; have R6 := Lib.hid r
          clear r hb
          go_wp2_with fail
          refine (line_of (er := 0) (st' := stepR (stepR rs0 s) t) R6.out B6.out HLT.out rfl HE.out rfl).mono ?_
          rintro e w7 ⟨F7, rfl, r, hb, -, -⟩
          have B7 := Lib.hid hb
          clear r hb
          go_wp2_with fail
          go_ret
          exact ⟨rfl, (B7.out).below⟩
        · have HE := Lib.hid (show errR (stepR rs0 s) t = 4 by rw [HE]; simp [hxy])
          have hxy2 : ((x : Int) == (y : Int)) = false := by rw [beq_eq_false_iff_ne]; omega
          clear hxy
          go_enter Tryd.func8, Tryd.ntmps8
          go_wp2_with fail
          refine (HA.out).mono ?_
          rintro e w1 ⟨rfl, hb⟩
          have B1 := Lib.hid ((HB.out).step hb)
          clear hb
          go_wp2_with fail
          refine (parse_any s w1 HLS.out (B1.out).lw).mono ?_
          rintro e w2 ⟨rfl, hb⟩
          rw [HV.out]
          have B2 := Lib.hid ((B1.out).step hb)
          clear hb
          go_wp2_with fail
          refine (parse_any t w2 HLT.out (B2.out).lw).mono ?_
          rintro e w3 ⟨rfl, hb⟩
          rw [HV2.out]
          have B3 := Lib.hid ((B2.out).step hb)
          clear hb
          go_wp2_with fail
          go_big_quiet (first
            | (go_at_call 17; with_reducible exact HCZ.out _ _))
          obtain ⟨w4, hw4⟩ : ∃ w4, w4 = w3.drewN nq := ⟨_, rfl⟩
          rw [← hw4]
          have B4 := Lib.hid (show BL w w4 by rw [hw4]; exact (B3.out).drewN _)
          clear hw4
          go_wp2_with fail
          refine (new_of B4.out).mono ?_
          rintro e w5 ⟨b, rfl, -, r, hb, -⟩
          have BB := Lib.hid (show BL w w5 from hb); have RR := Lib.hid (show Rd w.heap.size w5 b [b] rs0 from r)
          clear r hb
          go_wp2_with fail
          refine (line_of (st' := stepR rs0 s) RR.out BB.out HLS.out rfl rfl rfl).mono ?_
          rintro e w6 ⟨F6, rfl, r, hb, -, -⟩
          have B6 := Lib.hid hb; have R6 := Lib.hid r
          clear r hb
          go_wp2_with fail
          refine (line_of (er := 4) (st' := stepR (stepR rs0 s) t) R6.out B6.out HLT.out rfl HE.out rfl).mono ?_
          rintro e w7 ⟨F7, rfl, r, hb, -, -⟩
          have B7 := Lib.hid hb
          clear r hb
          go_wp2_with fail
          go_ret
          exact ⟨rfl, (B7.out).below⟩

theorem class_long (s t : List UInt8) (w : World) (hw : LW w) (hl : 9000 < s.length + t.length) (hs : s.length ≤ 140737488351232) (ht : t.length ≤ 140737488351232) :
    Calls Tryd.prog 8 #[sv s, sv t] w fun e w' => e = .returned (.bool true) ∧ Below w.heap.size w w' := by
  have HA := Lib.hid (awake_any w hw)
  have h9 : (9000 : Int) < (s.length : Int) + (t.length : Int) := by omega
  clear hw
  go_enter Tryd.func8, Tryd.ntmps8
  go_wp2_with fail
  refine (HA.out).mono ?_
  rintro e w1 ⟨rfl, hb⟩
  have B1 := Lib.hid hb
  clear hb
  go_wp2_with fail
  go_ret
  exact ⟨rfl, B1.out⟩

theorem replyClass_walk (s t : ByteArray) (hs : s.data.size ≤ 140737488351232) (ht : t.data.size ≤ 140737488351232) (w : World) (hw : LW w) :
    Calls Tryd.prog 8 #[.string s, .string t] w fun e w' => e = .returned (.bool true) ∧ Below w.heap.size w w' := by
  obtain ⟨x, rfl, hx⟩ := to_str s
  obtain ⟨y, rfl, hy⟩ := to_str t
  have hs' : x.length ≤ 140737488351232 := by rw [hx]; exact hs
  have ht' : y.length ≤ 140737488351232 := by rw [hy]; exact ht
  by_cases h : x.length + y.length ≤ 9000
  · exact class_short x y w hw h
  · exact class_long x y w hw (by omega) hs' ht'
end Go.Proofs.YtbpdbfllkehciaaDoor
