/-
  The contract of Decode.
-/
import Derived.Test.YtamlblfhjpajhaaDoorGRead2
namespace Go.Proofs.YtamlblfhjpajhaaDoor
set_option linter.unusedSimpArgs false
set_option linter.unusedVariables false
open Go Go.RowKit
set_option maxRecDepth 100000

theorem mem_puts_le {l : List Tv} {x : Tv} (h : x ∈ l) : x.2.length ≤ (putsL l).length := by
  induction l with
  | nil => cases h
  | cons y l ih =>
    simp only [putsL, List.length_append]
    rcases List.mem_cons.1 h with rfl | h
    · have := putT_ge x.1 x.2; omega
    · have := ih h; omega
theorem read_short {s : List UInt8} {c : Ct} (h : readC s = some c) (hl : s.length ≤ 512) : shortC c := by
  obtain ⟨h1, h2⟩ := write_read h
  have h3 := putT_ge 48 (rowC c)
  have h4 : (rowC c).length ≤ 512 := by
    have : (putT 48 (rowC c)).length = s.length := by rw [← h1]; rfl
    omega
  have k : ∀ x ∈ partsC c, x.2.length ≤ 512 := fun x hx => Nat.le_trans (mem_puts_le hx) h4
  have a0 : (putT 4 c.key).length ≤ 512 := k (48, putT 4 c.key) (by simp [partsC])
  have a1 : c.sig.length ≤ 512 := k (4, c.sig) (by simp [partsC])
  have a2 : (namesL c.names).length ≤ 512 := k (48, namesL c.names) (by simp [partsC])
  have a3 := putT_ge 4 c.key
  refine ⟨by omega, by omega, by omega, fun n hn => ?_⟩
  have : (nameT n).2.length ≤ (namesL c.names).length := mem_puts_le (List.mem_map_of_mem hn)
  have : n.length ≤ (namesL c.names).length := this
  omega
/-- What Decode tells. -/
def DecPost (w : World) (s : List UInt8) (e : Ending) (w' : World) : Prop := Below w.heap.size w w' ∧ match decO s with
  | some c => ∃ A cp, e = .returned (.tuple #[certV c (.slice A c.names.length cp), .int .i64 0]) ∧ TW w.heap.size w' (.slice A c.names.length cp) c.names
  | none => e = .returned (.tuple #[certV ct0 (.slice none 0 0), .int .i64 (decE s : Nat)])
theorem dec_fin {w W : World} {R : Ending → World → Prop} {d : Ct} {nu : Value} (hc : CB W w.heap.size d nu) (tm : Array Value) (Z : Int) (h2 : tm.getD 2 undef = .pointer (some ⟨w.heap.size, 0, none⟩)) (h3 : tm.getD 3 undef = .int .i64 Z) (hR : R (.returned (.tuple #[certV d nu, .int .i64 Z])) W) :
    bodyPost Tryd.prog Tryd.f10 R .ret { tmps := tm, defers := [] } W :=
  bodyPost_ret (resCT (p := 2) (q := 3) (by kernel_rfl) _ _ w.heap.size 24 _ (0, 0) _ h2 hc Tryd.underlying24 rfl (by kernel_rfl)) rfl (by rw [h3]; exact hR)
theorem dec_end0 {w W : World} {s : List UInt8} (hn : decO s = none) (hb : Below w.heap.size w W) (hc : CB W w.heap.size ct0 (.slice none 0 0)) (tm : Array Value) (h2 : tm.getD 2 undef = .pointer (some ⟨w.heap.size, 0, none⟩)) (h3 : tm.getD 3 undef = .int .i64 (decE s : Nat)) :
    bodyPost Tryd.prog Tryd.f10 (DecPost w s) .ret { tmps := tm, defers := [] } W :=
  dec_fin hc tm _ h2 h3 ⟨hb, by rw [hn]⟩
theorem dec_end1 {w W : World} {s : List UInt8} (hn : decO s = none) (hb : Below w.heap.size w W) (hc : CB W w.heap.size ct0 (.slice none 0 0)) (tm : Array Value) (h2 : tm.getD 2 undef = .pointer (some ⟨w.heap.size, 0, none⟩)) (h3 : tm.getD 3 undef = .int .i64 (decE s : Nat)) :
    bodyPost Tryd.prog Tryd.f10 (DecPost w s) .ret { tmps := tm, defers := [] } (st6 W w.heap.size (.string ⟨#[]⟩) (.string ⟨#[]⟩) (.slice none 0 0) (.int .i64 0) (.int .i64 0) (.bool false)) :=
  dec_end0 hn (below_put6 hb (Nat.le_refl _)) (hc.put6 ct0 (.slice none 0 0)) tm h2 h3
set_option maxHeartbeats 8000000 in
theorem decode_any {w : World} (s : List UInt8) (hs : s.length ≤ 9223372036854775807) (hw : GL w) : Calls Tryd.prog 10 #[sv s] w (DecPost w s) := by
  have hz := str_size s
  have HG := Lib.hid ((Gb.start hw).alloc zeroC)
  have HC := Lib.hid (CB.new w ct0 (.slice none 0 0))
  by_cases hl : 512 < s.length
  · have hl' : (512 : Int) < (s.length : Int) := by omega
    have HN := Lib.hid (show decO s = none by unfold decO; rw [if_pos hl])
    have HE := Lib.hid (show decE s = 40 by unfold decE; rw [if_pos hl])
    clear hl hw
    go_enter Tryd.func10, Tryd.ntmps10
    go_wp2_with fail
    exact dec_end0 HN.out HG.out.1 HC.out _ rfl (by rw [HE.out]; rfl)
  · have hl' : ¬ (512 : Int) < (s.length : Int) := by omega
    have hl5 : s.length ≤ 512 := by omega
    have hrd := fun W (h : GL W) => @read_any W s (by omega) h
    have hde : decE s = if (decO s).isSome then 0 else 4 := by unfold decE; rw [if_neg hl]
    have hdo : decO s = match readC s with | some c => if mayC c then some c else none | none => none := by unfold decO; rw [if_neg hl]; cases readC s <;> rfl
    cases hr : readC s with
    | none =>
      rw [hr] at hrd hdo
      simp only at hdo
      have HN := Lib.hid hdo
      have HE := Lib.hid (show decE s = 4 by rw [hde, hdo]; rfl)
      have HR := Lib.hid (fun W (h : GL W) => show Calls Tryd.prog 21 #[sv s] W (fun e w' => Below W.heap.size W w' ∧ ∃ (c : Ct) (A : Option Addr) (m cp : Nat) (n : Int), n ≠ 0 ∧ e = .returned (.tuple #[certV c (.slice A m cp), .int .i64 n])) from hrd W h)
      clear hl hw hrd hdo hde hr hl5
      go_enter Tryd.func10, Tryd.ntmps10
      go_wp2_with (go_at_call 21; refine (HR.out _ HG.out.2).mono ?_; rintro e w1 ⟨hb1, c, A, m, cp, n, hn, rfl⟩; have HG1 := Lib.hid (HG.out.step hb1); have HC1 := Lib.hid (HC.out.step hb1); have hn0 : (n != 0) = true := (by rw [bne_iff_ne]; exact hn); have hlt := (HC.out.step hb1).lt; have HC2 := Lib.hid ((HC.out.step hb1).step (below_alloc w1 (cellsC c (.slice A m cp)))); obtain ⟨⟨d0, d1, d2, d3, d4, d5⟩, g0, g1, g2, g3, g4, g5⟩ := (HC.out.step hb1).zero; clear hb1; unfold certV)
      have hbb := below_put6 (v0 := .string ⟨#[]⟩) (v1 := .string ⟨#[]⟩) (v2 := .slice none 0 0) (v3 := .int .i64 0) (v4 := .int .i64 0) (v5 := .bool false) HG1.out.1 (Nat.le_refl _)
      exact dec_end0 HN.out (hbb.alloc hbb.size _) ((HC1.out.put6 ct0 (.slice none 0 0)).step (below_alloc _ _)) _ rfl (by rw [HE.out]; rfl)
    | some c =>
      rw [hr] at hrd hdo
      have HSH := Lib.hid (read_short hr hl5)
      have HR := Lib.hid (fun W (h : GL W) => show Calls Tryd.prog 21 #[sv s] W (fun e w' => Below W.heap.size W w' ∧ ∃ A cp, e = .returned (.tuple #[certV c (.slice A c.names.length cp), .int .i64 0]) ∧ TW W.heap.size w' (.slice A c.names.length cp) c.names) from hrd W h)
      have HM := Lib.hid (fun (W : World) (A : Option Addr) (cp : Nat) (hx : SX W (.slice A c.names.length cp) c.names) (h : GL W) => show Calls Tryd.prog 9 #[.agg #[sv c.key, sv c.sig, .slice A c.names.length cp, .int .i64 c.fr, .int .i64 c.un, .bool c.ca]] W (fun e w' => e = .returned (.bool (mayC c)) ∧ Below W.heap.size W w') from mayC_any c A cp hx HSH.out h)
      simp only at hdo
      have HLT := Lib.hid (show w.heap.size < (w.alloc zeroC).heap.size by simp)
      have HLE := Lib.hid (show w.heap.size ≤ (w.alloc zeroC).heap.size by simp)
      obtain ⟨b, hb⟩ : ∃ b, b = mayC c := ⟨_, rfl⟩
      rw [← hb] at HM hdo
      clear hl hw hrd hr hl5 hb
      cases b with
      | false =>
        have HN := Lib.hid (show decO s = none by simpa using hdo)
        have HE := Lib.hid (show decE s = 4 by rw [hde, HN.out]; rfl)
        clear hdo hde
        go_enter Tryd.func10, Tryd.ntmps10
        go_wp2_with (first
          | (go_at_call 21; refine (HR.out _ HG.out.2).mono ?_; rintro e w1 ⟨hb1, A, cp, rfl, htw⟩; have HG1 := Lib.hid (HG.out.step hb1); have HC1 := Lib.hid ((HC.out.step hb1).step (below_alloc w1 (cellsC c (.slice A c.names.length cp)))); have HG2 := Lib.hid ((HG.out.step hb1).alloc (cellsC c (.slice A c.names.length cp))); have HX2 := Lib.hid (htw.sx.step (below_alloc w1 (cellsC c (.slice A c.names.length cp)))); clear hb1 htw; unfold certV)
          | (go_at_call 9; refine (HM.out _ A cp HX2.out HG2.out.2).mono ?_; rintro e w2 ⟨rfl, hb2⟩; have HG3 := Lib.hid (HG2.out.step hb2); have HC3 := Lib.hid (HC1.out.step hb2); obtain ⟨⟨d0, d1, d2, d3, d4, d5⟩, g0, g1, g2, g3, g4, g5⟩ := (HC1.out.step hb2).zero; clear hb2))
        exact dec_end1 HN.out HG3.out.1 HC3.out _ rfl (by rw [HE.out]; rfl)
      | true =>
        have HN := Lib.hid (show decO s = some c by simpa using hdo)
        clear hdo hde
        go_enter Tryd.func10, Tryd.ntmps10
        go_wp2_with (first
          | (go_at_call 21; refine (HR.out _ HG.out.2).mono ?_; rintro e w1 ⟨hb1, A, cp, rfl, htw⟩; have HG1 := Lib.hid (HG.out.step hb1); have HC1 := Lib.hid ((HC.out.step hb1).step (below_alloc w1 (cellsC c (.slice A c.names.length cp)))); have HK1 := Lib.hid (CB.new w1 c (.slice A c.names.length cp)); have HG2 := Lib.hid ((HG.out.step hb1).alloc (cellsC c (.slice A c.names.length cp))); have HT2 := Lib.hid (htw.below (below_alloc w1 (cellsC c (.slice A c.names.length cp)))); have HX2 := Lib.hid (htw.sx.step (below_alloc w1 (cellsC c (.slice A c.names.length cp)))); clear hb1 htw; unfold certV)
          | (go_at_call 9; refine (HM.out _ A cp HX2.out HG2.out.2).mono ?_; rintro e w2 ⟨rfl, hb2⟩; have HG3 := Lib.hid (HG2.out.step hb2); have HC3 := Lib.hid (HC1.out.step hb2); have HT3 := Lib.hid (HT2.out.below hb2); have q0 := (HK1.out.step hb2).c0; have q1 := (HK1.out.step hb2).c1; have q2 := (HK1.out.step hb2).c2; have q3 := (HK1.out.step hb2).c3; have q4 := (HK1.out.step hb2).c4; have q5 := (HK1.out.step hb2).c5; obtain ⟨⟨d0, d1, d2, d3, d4, d5⟩, g0, g1, g2, g3, g4, g5⟩ := (HC1.out.step hb2).zero; clear hb2))
        refine dec_fin (HC3.out.put6 c (.slice A c.names.length cp)) _ 0 rfl rfl ⟨below_put6 HG3.out.1 (Nat.le_refl _), ?_⟩
        rw [HN.out]
        exact ⟨A, cp, rfl, (HT3.out.put6 HLT.out).lower HLE.out⟩
end Go.Proofs.YtamlblfhjpajhaaDoor
