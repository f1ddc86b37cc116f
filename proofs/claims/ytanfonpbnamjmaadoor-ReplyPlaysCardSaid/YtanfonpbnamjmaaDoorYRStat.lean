/-
  The contracts of the reference's number, Status.
-/
import Derived.Test.YtanfonpbnamjmaaDoorYRParse
import Derived.Test.YtanfonpbnamjmaaDoorYRStatP
namespace Go.Proofs.YtanfonpbnamjmaaDoor
open Go Go.RowKit Go.Shelf
set_option maxRecDepth 100000

theorem digC_dgB (b : UInt8) : dgB 48 57 b = digC b := (first2 b).symm

set_option maxHeartbeats 4000000 in
theorem number_any (p : List UInt8) (w : World) (hp : p.length ≤ 1000000) : Calls Tryd.prog 88 #[sv p] w fun e w' => e = .returned (.bool (numB p)) ∧ w = w' := by
  have HD := Lib.hid (show ∀ b : UInt8, Calls Tryd.prog 87 #[.int .u8 (b.toNat : Int), .int .u8 48, .int .u8 57] w fun e w' => e = .returned (.bool (digC b)) ∧ w = w' from fun b => by rw [← digC_dgB]; exact digit_any b 48 57 w)
  by_cases h1 : p.length < 1
  · have HN := Lib.hid (show numB p = false by unfold numB; rw [decide_eq_false (by omega)]; rfl)
    have h1i : (p.length : Int) < 1 := by omega
    clear h1
    go_enter Tryd.func88, Tryd.ntmps88
    go_wp2_with fail
    go_ret
    rw [HN.out]
    exact ⟨rfl, rfl⟩
  · have h1i : ¬ (p.length : Int) < 1 := by omega
    by_cases h3 : 3 < p.length
    · have HN := Lib.hid (show numB p = false by unfold numB; rw [decide_eq_false (show ¬ p.length ≤ 3 by omega)]; simp)
      have h3i : (3 : Int) < p.length := by omega
      clear h1 h3
      go_enter Tryd.func88, Tryd.ntmps88
      go_wp2_with fail
      go_ret
      rw [HN.out]
      exact ⟨rfl, rfl⟩
    · have h3i : ¬ (3 : Int) < p.length := by omega
      obtain ⟨b0, hb0⟩ : ∃ b, p.getD 0 0 = b := ⟨_, rfl⟩
      have hp0 : 0 < p.length := by omega
      have x0 : (((str p)[0]'(by simpa [ByteArray.size] using hp0)).toNat) = b0.toNat := by rw [str_getD p 0 hp0, hb0]
      have l0 : (0 : Int) < p.length := by omega
      have hb48 : ((b0.toNat : Int) == 48) = (b0 == 48) := by
        rw [Bool.eq_iff_iff, beq_iff_eq, beq_iff_eq, ← UInt8.toNat_inj]
        show ((b0.toNat : Int) = 48) ↔ b0.toNat = 48
        omega
      by_cases hz : 1 < p.length ∧ b0 = 48
      · have HN := Lib.hid (show numB p = false by unfold numB; rw [decide_eq_true hz.1, hb0, hz.2]; simp)
        have h1j : (1 : Int) < p.length := by omega
        have hb48' : ((b0.toNat : Int) == 48) = true := by rw [hb48, hz.2]; rfl
        clear h1 h3 hz hb48 hb0
        go_enter Tryd.func88, Tryd.ntmps88
        go_wp2_with fail
        go_ret
        rw [HN.out]
        exact ⟨rfl, rfl⟩
      · have HN := Lib.hid (show numB p = p.all digC by
          unfold numB
          rw [decide_eq_true (show 1 ≤ p.length by omega), decide_eq_true (show p.length ≤ 3 by omega), hb0]
          by_cases h : 1 < p.length
          · have : (b0 == 48) = false := by rw [beq_eq_false_iff_ne]; exact fun e => hz ⟨h, e⟩
            rw [this]; simp
          · rw [decide_eq_false h]; rfl)
        have HW : (decide ((1 : Int) < p.length) && ((b0.toNat : Int) == 48)) = false := by
          by_cases h : 1 < p.length
          · have : (b0 == 48) = false := by rw [beq_eq_false_iff_ne]; exact fun e => hz ⟨h, e⟩
            rw [hb48, this]; simp
          · rw [decide_eq_false (by omega)]; rfl
        have HZ : (¬ (1 : Int) < p.length) ∨ ((1 : Int) < p.length ∧ ((b0.toNat : Int) == 48) = false) := by
          by_cases h : 1 < p.length
          · exact .inr ⟨by omega, by rw [hb48, beq_eq_false_iff_ne]; exact fun e => hz ⟨h, e⟩⟩
          · exact .inl (by omega)
        have HR := Lib.hid (show (p.drop 0).all digC = p.all digC by rw [List.drop_zero])
        obtain ⟨R, hR⟩ : ∃ R, R = p.all digC := ⟨_, rfl⟩
        rw [← hR] at HN HR
        clear h1 h3 hz hb48 hb0 HW hR
        rcases HZ with h1j | ⟨h1j, hb48'⟩
        · go_enter Tryd.func88, Tryd.ntmps88
          go_wp2_with fail
          go_loopw [3] (fun i wr => ∃ k : Nat, k ≤ p.length ∧ i = .int .i64 k ∧ (p.drop k).all digC = R ∧ w = wr) (fun i _ => p.length - (intOf i).toNat)
          case atStart => exact ⟨0, Nat.zero_le _, rfl, HR.out, rfl⟩
          case round =>
            obtain ⟨k, hk, rfl, hrun, rfl⟩ := hrel
            have HRU := Lib.hid hrun
            clear hrun
            by_cases hlt : k < p.length
            · obtain ⟨b, hb⟩ : ∃ b, p.getD k 0 = b := ⟨_, rfl⟩
              have hcs : (((str p)[k]'(by simpa [ByteArray.size] using hlt)).toNat) = b.toNat := by rw [str_getD p k hlt, hb]
              have HDB := Lib.hid (HD.out b)
              cases hd : digC b with
              | true =>
                have HN2 := Lib.hid (show (p.drop (k + 1)).all digC = R by rw [← HRU.out]; exact (all_step hlt (by rw [hb, hd])).symm)
                rw [hd] at HDB
                clear hb hd
                go_wp2_with (go_at_call 87; refine (HDB.out).mono ?_; rintro e w' ⟨rfl, rfl⟩)
                go_roundw
                case rel => exact ⟨k + 1, by omega, by go_num, HN2.out, by simp⟩
                case measure => simp [intOf]; omega
              | false =>
                have HN2 := Lib.hid (show R = false by rw [← HRU.out]; exact all_stop hlt (by rw [hb, hd]))
                rw [hd] at HDB
                clear hb hd
                go_wp2_with (go_at_call 87; refine (HDB.out).mono ?_; rintro e w' ⟨rfl, rfl⟩)
                go_ret
                rw [HN.out, HN2.out]
                exact ⟨rfl, rfl⟩
            · obtain rfl : k = p.length := by omega
              have HN2 := Lib.hid (show R = true by rw [← HRU.out, List.drop_length]; rfl)
              go_wp2
              go_ret
              rw [HN.out, HN2.out]
              exact ⟨rfl, rfl⟩
        · go_enter Tryd.func88, Tryd.ntmps88
          go_wp2_with fail
          go_loopw [3] (fun i wr => ∃ k : Nat, k ≤ p.length ∧ i = .int .i64 k ∧ (p.drop k).all digC = R ∧ w = wr) (fun i _ => p.length - (intOf i).toNat)
          case atStart => exact ⟨0, Nat.zero_le _, rfl, HR.out, rfl⟩
          case round =>
            obtain ⟨k, hk, rfl, hrun, rfl⟩ := hrel
            have HRU := Lib.hid hrun
            clear hrun
            by_cases hlt : k < p.length
            · obtain ⟨b, hb⟩ : ∃ b, p.getD k 0 = b := ⟨_, rfl⟩
              have hcs : (((str p)[k]'(by simpa [ByteArray.size] using hlt)).toNat) = b.toNat := by rw [str_getD p k hlt, hb]
              have HDB := Lib.hid (HD.out b)
              cases hd : digC b with
              | true =>
                have HN2 := Lib.hid (show (p.drop (k + 1)).all digC = R by rw [← HRU.out]; exact (all_step hlt (by rw [hb, hd])).symm)
                rw [hd] at HDB
                clear hb hd
                go_wp2_with (go_at_call 87; refine (HDB.out).mono ?_; rintro e w' ⟨rfl, rfl⟩)
                go_roundw
                case rel => exact ⟨k + 1, by omega, by go_num, HN2.out, by simp⟩
                case measure => simp [intOf]; omega
              | false =>
                have HN2 := Lib.hid (show R = false by rw [← HRU.out]; exact all_stop hlt (by rw [hb, hd]))
                rw [hd] at HDB
                clear hb hd
                go_wp2_with (go_at_call 87; refine (HDB.out).mono ?_; rintro e w' ⟨rfl, rfl⟩)
                go_ret
                rw [HN.out, HN2.out]
                exact ⟨rfl, rfl⟩
            · obtain rfl : k = p.length := by omega
              have HN2 := Lib.hid (show R = true by rw [← HRU.out, List.drop_length]; rfl)
              go_wp2
              go_ret
              rw [HN.out, HN2.out]
              exact ⟨rfl, rfl⟩

theorem take_word (t : List UInt8) : t.take (0 + runC wordC (t.drop 0)) = wordR t := by
  rw [Nat.zero_add, List.drop_zero]
  unfold wordR runC
  have h := List.takeWhile_append_dropWhile (p := wordC) (l := t)
  conv => lhs; rw [← h]
  rw [List.take_left']
  rw [h]
theorem piece_snoc {w : List UInt8} {f k : Nat} (hf : f ≤ k) (hk : k < w.length) : piece w f (k + 1) = piece w f k ++ [w.getD k 0] := by
  unfold piece
  rw [List.take_succ_eq_append_getElem hk, List.drop_append_of_le_length (by rw [List.length_take]; omega), getD_str w k hk]
theorem drop_piece {w : List UInt8} {f k : Nat} (hf : f ≤ k) (hk : k < w.length) : w.drop f = piece w f k ++ w.getD k 0 :: w.drop (k + 1) := by
  have h := List.take_append_drop k w
  conv => lhs; rw [← h]
  rw [List.drop_append_of_le_length (by rw [List.length_take]; omega), List.drop_eq_getElem_cons hk, getD_str w k hk]
  rfl
theorem piece_end {w : List UInt8} {f : Nat} : piece w f w.length = w.drop f := by unfold piece; rw [List.take_length]
theorem piece_self {w : List UInt8} {f : Nat} : piece w f f = [] := by
  unfold piece
  exact List.drop_eq_nil_of_le (by rw [List.length_take]; omega)

set_option maxHeartbeats 16000000 in
theorem rstat_any (code : Nat) (t : List UInt8) (w : World) (h0 : 200 ≤ code) (h1 : code ≤ 599) (ht : t.length ≤ 1000000) :
    Calls Tryd.prog 57 #[.int .i64 (code : Int), sv t] w fun e w' => e = .returned (sv (statR code t)) ∧ Below w.heap.size w w' := by
  rw [← statS_eq code t h0 h1]
  have HC := Lib.hid (And.intro h0 h1)
  clear h0 h1
  go_enter Tryd.func57, Tryd.ntmps57
  go_wp2_with fail
  go_loopw [5, 6] (fun v i wr => ∃ (k : Nat) (z : Int), k ≤ t.length ∧ i = .int .i64 z ∧ z + 1 = k ∧ v = sv (t.take (k + runC wordC (t.drop k))) ∧ w = wr) (fun _ i _ => (intOf i + 1).toNat)
  case atStart => exact ⟨t.length, (t.length : Int) - 1, Nat.le_refl _, rfl, by omega, by rw [List.drop_length]; show sv t = _; rw [show runC wordC [] = 0 from rfl, Nat.add_zero, List.take_length], rfl⟩
  case round =>
    obtain ⟨k, z, hk, rfl, hz, rfl, rfl⟩ := hrel
    obtain ⟨wd, hwd⟩ : ∃ x, x = t.take (k + runC wordC (t.drop k)) := ⟨_, rfl⟩
    rw [← hwd]
    by_cases hk0 : 0 < k
    · obtain ⟨j, rfl⟩ : ∃ j, k = j + 1 := ⟨k - 1, by omega⟩
      obtain rfl : z = (j : Int) := by omega
      have hlt : j < t.length := by omega
      obtain ⟨b, hb⟩ : ∃ b, t.getD j 0 = b := ⟨_, rfl⟩
      have hcs : (((str t)[j]'(by simpa [ByteArray.size] using hlt)).toNat) = b.toNat := by rw [str_getD t j hlt, hb]
      have hj0 : (0 : Int) ≤ (j : Int) := by omega
      cases h32 : (b == 32) with
      | true =>
        have hbi : ((b.toNat : Int) == 32) = true := by rw [show b = 32 from by simpa using h32]; rfl
        have HN := Lib.hid (show t.take (j + runC wordC (t.drop j)) = t.take j by rw [runC_stop hlt (by rw [hb]; unfold wordC; rw [h32]; rfl)]; rfl)
        have hsl : (str t).extract 0 j = str (t.take j) := by rw [str_extract]; rfl
        clear hb h32 hwd hz
        go_wp2_with fail
        go_roundw
        case rel => exact ⟨j, (j : Int) - 1, by omega, by go_num, by omega, by rw [HN.out], by simp⟩
        case measure => first | (simp [intOf]; done) | (simp [intOf]; omega)
      | false =>
        have hbi : ((b.toNat : Int) == 32) = false := by
          rw [beq_eq_false_iff_ne] at h32 ⊢
          intro e
          exact h32 (UInt8.toNat_inj.1 (show b.toNat = 32 by omega))
        have HN := Lib.hid (show wd = t.take (j + runC wordC (t.drop j)) by
          rw [runC_step hlt (by rw [hb]; unfold wordC; rw [h32]; rfl), hwd]
          congr 1
          omega)
        clear hb h32 hwd hz
        go_wp2_with fail
        go_roundw
        case rel => exact ⟨j, (j : Int) - 1, by omega, by go_num, by omega, by rw [← HN.out], by simp⟩
        case measure => first | (simp [intOf]; done) | (simp [intOf]; omega)
    · obtain rfl : k = 0 := by omega
      obtain rfl : z = -1 := by omega
      rw [take_word] at hwd
      have HWD := Lib.hid hwd
      have hwl : wd.length ≤ 1000000 := by
        rw [hwd]
        have : (wordR t).length ≤ t.length := (List.takeWhile_sublist _).length_le
        omega
      clear hwd hz hk hk0
      go_wp2_with fail
      obtain ⟨ps, hps⟩ : ∃ ps, ps = splitD wd := ⟨_, rfl⟩
      have HPS := Lib.hid hps
      have H0 := Lib.hid (Below.refl w.heap.size w)
      clear hps
      go_loopw [7, 8, 9] (fun o fr i wr => ∃ (k f : Nat) (acc : List (List UInt8)), k ≤ wd.length + 1 ∧ f ≤ k ∧ i = .int .i64 k ∧ fr = .int .i64 f ∧ acc.length ≤ k ∧ wr.ownsRow w.heap.size 9 1 o acc.length (acc.map sv) ∧ Below w.heap.size w wr ∧
        (k ≤ wd.length → ps = acc ++ splitD (wd.drop f) ∧ ∀ b ∈ piece wd f k, b ≠ 46) ∧ (k = wd.length + 1 → acc = ps)) (fun _ _ i _ => wd.length + 1 - (intOf i).toNat)
      case atStart => exact ⟨0, 0, [], Nat.zero_le _, Nat.le_refl _, rfl, rfl, Nat.le_refl _, World.ownsRow_nil _ _ _ _, H0.out, fun _ => ⟨HPS.out, by rw [piece_self]; simp⟩, fun e => by omega⟩
      case round =>
        obtain ⟨k, f, acc, hk, hfk, rfl, rfl, hal, ho, hbl, hmid, hend⟩ := hrel
        obtain ⟨Ao, co, rfl⟩ := owns_form ho
        have HO := Lib.hid ho
        have HBL := Lib.hid hbl
        have HMID := Lib.hid hmid
        have HEND := Lib.hid hend
        have HAL := Lib.hid hal
        clear ho hbl hmid hend hal
        have hsl : (str wd).extract f k = str (piece wd f k) := str_extract _ _ _
        by_cases hlt : k < wd.length
        · obtain ⟨b, hb⟩ : ∃ b, wd.getD k 0 = b := ⟨_, rfl⟩
          have hcs : (((str wd)[k]'(by simpa [ByteArray.size] using hlt)).toNat) = b.toNat := by rw [str_getD wd k hlt, hb]
          have hne : ((k : Int) == wd.length) = false := by rw [beq_eq_false_iff_ne]; omega
          have hle : (k : Int) ≤ wd.length := by omega
          cases h46 : (b == 46) with
          | true =>
            have hbi : ((b.toNat : Int) == 46) = true := by rw [show b = 46 from by simpa using h46]; rfl
            obtain ⟨m1, m2⟩ := HMID.out (by omega)
            have HN := Lib.hid (show ps = (acc ++ [piece wd f k]) ++ splitD (wd.drop (k + 1)) by
              rw [m1, drop_piece hfk hlt, hb, show b = 46 from by simpa using h46, splitD_at _ m2]
              simp)
            obtain ⟨pc, hpc⟩ : ∃ x, x = piece wd f k := ⟨_, rfl⟩
            rw [← hpc] at hsl HN
            clear hb h46 m1 m2 hpc
            go_wp2_with (first
              | (at_builtin; refine row_append (n := w.heap.size) (ls := acc) HO.out HBL.out.size (by have := HAL.out; omega) pc _ ?hC (.tmp 42) (.tmp 47) rfl rfl rfl _ rfl ?_; rotate_left; intro g3 cap w3 hown hgr hor hlt3; have HB3 := Lib.hid (Below.grown ((HBL.out).alloc HBL.out.size _) hgr (by have := HBL.out.size; simp; omega) (fun j hj => (HO.out.lt j hj).1)); have HO3 := Lib.hid hown; clear hown hgr hor hlt3))
            case hC => rfl
            go_roundw
            case rel => exact ⟨k + 1, k + 1, acc ++ [pc], by omega, by omega, by go_num, by go_num, by rw [List.length_append]; have := HAL.out; simp; omega, by rw [List.length_append]; exact HO3.out, HB3.out, fun _ => ⟨HN.out, by rw [piece_self]; simp⟩, fun e => by omega⟩
            case measure => simp [intOf]; omega
          | false =>
            have hbi : ((b.toNat : Int) == 46) = false := by
              rw [beq_eq_false_iff_ne] at h46 ⊢
              intro e
              exact h46 (UInt8.toNat_inj.1 (show b.toNat = 46 by omega))
            have HN := Lib.hid (show ∀ x ∈ piece wd f (k + 1), x ≠ 46 by
              rw [piece_snoc hfk hlt, hb]
              intro x hx
              rcases List.mem_append.1 hx with hx | hx
              · exact (HMID.out (by omega)).2 x hx
              · simp only [List.mem_singleton] at hx
                subst hx
                simpa using h46)
            clear hb h46
            go_wp2_with fail
            go_roundw
            case rel => exact ⟨k + 1, f, acc, by omega, by omega, by go_num, rfl, by have := HAL.out; omega, HO.out, HBL.out, fun _ => ⟨(HMID.out (by omega)).1, HN.out⟩, fun e => by omega⟩
            case measure => simp [intOf]; omega
        · by_cases hk2 : k = wd.length
          · subst hk2
            have heq : ((wd.length : Int) == wd.length) = true := by simp
            obtain ⟨m1, m2⟩ := HMID.out (Nat.le_refl _)
            have HN := Lib.hid (show acc ++ [piece wd f wd.length] = ps by rw [m1, piece_end, splitD_none (by rw [← piece_end]; exact m2)])
            obtain ⟨pc, hpc⟩ : ∃ x, x = piece wd f wd.length := ⟨_, rfl⟩
            rw [← hpc] at hsl HN
            clear m1 m2 hpc
            go_wp2_with (first
              | (at_builtin; refine row_append (n := w.heap.size) (ls := acc) HO.out HBL.out.size (by have := HAL.out; omega) pc _ ?hC (.tmp 42) (.tmp 47) rfl rfl rfl _ rfl ?_; rotate_left; intro g3 cap w3 hown hgr hor hlt3; have HB3 := Lib.hid (Below.grown ((HBL.out).alloc HBL.out.size _) hgr (by have := HBL.out.size; simp; omega) (fun j hj => (HO.out.lt j hj).1)); have HO3 := Lib.hid hown; clear hown hgr hor hlt3))
            case hC => rfl
            go_roundw
            case rel => exact ⟨wd.length + 1, wd.length + 1, acc ++ [pc], by omega, by omega, by go_num, by go_num, by rw [List.length_append]; have := HAL.out; simp; omega, by rw [List.length_append]; exact HO3.out, HB3.out, fun e => by omega, fun _ => HN.out⟩
            case measure => first | (simp [intOf]; done) | (simp [intOf]; omega)
          · obtain rfl : k = wd.length + 1 := by omega
            have hgt : ¬ ((wd.length + 1 : Nat) : Int) ≤ wd.length := by omega
            obtain rfl : acc = ps := HEND.out rfl
            have HREF := Lib.hid (show refOk code t = (decide (acc.length = 3) && decide ((acc.getD 0 []).length = 1) && numB (acc.getD 0 []) && numB (acc.getD 1 []) && numB (acc.getD 2 []) && decide (((acc.getD 0 []).getD 0 0).toNat - 48 = code / 100) && !decide (((acc.getD 0 []).getD 0 0).toNat - 48 = 3)) by unfold refOk; rw [← HWD.out, ← HPS.out])
            have HNO := Lib.hid (show refOk code t = false → statS code t = [] from fun h => by unfold statS; rw [if_neg (by rw [h]; exact Bool.false_ne_true)])
            clear hlt hk2 hk hfk hsl HMID HEND HAL
            by_cases hl3 : acc.length = 3
            · obtain ⟨p0, p1, p2, rfl⟩ : ∃ p0 p1 p2, acc = [p0, p1, p2] := by
                match acc, hl3 with
                | [a, b, c], _ => exact ⟨a, b, c, rfl⟩
              have hrow : RowIs wr (.slice Ao [p0, p1, p2].length co) [p0, p1, p2] := Rw.row (n := w.heap.size) (G := (Value.slice Ao [p0, p1, p2].length co).ownBlock.toList) ⟨HO.out, fun g e => by rw [e]; simp, fun k hk => (HO.out.lt k (by simpa using hk)).2⟩
              obtain ⟨A', c', e', hcc⟩ := hrow
              simp only [Value.slice.injEq] at e'
              obtain ⟨rfl, _, rfl⟩ := e'
              obtain ⟨g, rfl, _, hcell⟩ := hcc (by simp)
              have k0 : wr.cell? ⟨g, 0, none⟩ = some (sv p0) := hcell 0 (by simp)
              have k1 : wr.cell? ⟨g, 1, none⟩ = some (sv p1) := hcell 1 (by simp)
              have k2 : wr.cell? ⟨g, 2, none⟩ = some (sv p2) := hcell 2 (by simp)
              have hj := joinD_split wd
              rw [← HPS.out] at hj
              have hjl : p0.length + (p1.length + (p2.length + 1) + 1) ≤ wd.length + 1 := by rw [← hj]; show _ ≤ (p0 ++ 46 :: (p1 ++ 46 :: p2)).length + 1; rw [List.length_append, List.length_cons, List.length_append, List.length_cons]; omega
              have N0 := Lib.hid (number_any p0 wr (by omega))
              have N1 := Lib.hid (number_any p1 wr (by omega))
              have N2 := Lib.hid (number_any p2 wr (by omega))
              have HREF2 := Lib.hid (show refOk code t = (decide (p0.length = 1) && numB p0 && numB p1 && numB p2 && decide ((p0.getD 0 0).toNat - 48 = code / 100) && !decide ((p0.getD 0 0).toNat - 48 = 3)) from HREF.out)
              clear hl3 hcc hcell hj hjl HREF HO
              by_cases ha : p0.length = 1
              · obtain ⟨b, rfl⟩ : ∃ b, p0 = [b] := by
                  match p0, ha with
                  | [b], _ => exact ⟨b, rfl⟩
                clear ha
                cases hn0 : numB [b] with
                | false =>
                  have HV := Lib.hid (HNO.out (by rw [HREF2.out, hn0]; simp))
                  rw [hn0] at N0
                  clear hn0
                  go_wp2_with first
                    | (go_at_call 88; with_reducible refine (N0.out).mono ?_; rintro e w' ⟨rfl, rfl⟩)
                    | (go_at_call 88; with_reducible refine (N1.out).mono ?_; rintro e w' ⟨rfl, rfl⟩)
                    | (go_at_call 88; with_reducible refine (N2.out).mono ?_; rintro e w' ⟨rfl, rfl⟩)
                  go_ret
                  rw [HV.out]
                  exact ⟨rfl, HBL.out⟩
                | true =>
                  have hdig : digC b = true := by unfold numB at hn0; simp only [Bool.and_eq_true, List.all_cons] at hn0; exact hn0.2.1
                  have hbd := digC_bounds hdig
                  rw [hn0] at N0
                  cases hn1 : numB p1 with
                  | false =>
                    have HV := Lib.hid (HNO.out (by rw [HREF2.out, hn1]; simp))
                    rw [hn1] at N1
                    clear hn0 hn1 hdig
                    go_wp2_with first
                      | (go_at_call 88; with_reducible refine (N0.out).mono ?_; rintro e w' ⟨rfl, rfl⟩)
                      | (go_at_call 88; with_reducible refine (N1.out).mono ?_; rintro e w' ⟨rfl, rfl⟩)
                      | (go_at_call 88; with_reducible refine (N2.out).mono ?_; rintro e w' ⟨rfl, rfl⟩)
                    go_ret
                    rw [HV.out]
                    exact ⟨rfl, HBL.out⟩
                  | true =>
                    rw [hn1] at N1
                    cases hn2 : numB p2 with
                    | false =>
                      have HV := Lib.hid (HNO.out (by rw [HREF2.out, hn2]; simp))
                      rw [hn2] at N2
                      clear hn0 hn1 hn2 hdig
                      go_wp2_with first
                        | (go_at_call 88; with_reducible refine (N0.out).mono ?_; rintro e w' ⟨rfl, rfl⟩)
                        | (go_at_call 88; with_reducible refine (N1.out).mono ?_; rintro e w' ⟨rfl, rfl⟩)
                        | (go_at_call 88; with_reducible refine (N2.out).mono ?_; rintro e w' ⟨rfl, rfl⟩)
                      go_ret
                      rw [HV.out]
                      exact ⟨rfl, HBL.out⟩
                    | true =>
                      rw [hn2] at N2
                      obtain ⟨c, hc⟩ : ∃ c, b.toNat = c := ⟨_, rfl⟩
                      rw [hc] at hbd
                      have hcs : (((str [b])[0]'(by simp [ByteArray.size])).toNat) = c := by rw [← hc]; rfl
                      have hw1 : IntKind.u8.wrap ((c : Int) - 48) = (c : Int) - 48 := by unfold IntKind.wrap; simp [IntKind.signed, IntKind.bits]; omega
                      have hR3 := Lib.hid (show refOk code t = (decide (c - 48 = code / 100) && !decide (c - 48 = 3)) by
                        rw [HREF2.out, hn0, hn1, hn2]
                        show (decide ([b].length = 1) && true && true && true && decide (b.toNat - 48 = code / 100) && !decide (b.toNat - 48 = 3)) = _
                        rw [hc]; rfl)
                      have hq := HC.out
                      have htd : (code : Int).tdiv 100 = ((code / 100 : Nat) : Int) := by rw [Int.tdiv_eq_ediv_of_nonneg (by omega)]; omega
                      obtain ⟨q, hqq⟩ : ∃ q, q = code / 100 := ⟨_, rfl⟩
                      rw [← hqq] at htd hR3
                      have hwq : wrap64 (q : Int) = (q : Int) := by unfold wrap64; omega
                      clear hn0 hn1 hn2 hdig hc hq hqq
                      by_cases hE : c - 48 = q
                      · have hEi : (((c : Int) - 48) != (q : Int)) = false := by rw [show ((c : Int) - 48) = (q : Int) by omega]; simp
                        by_cases hF : c - 48 = 3
                        · have HV := Lib.hid (HNO.out (by rw [hR3.out, decide_eq_true hF]; simp))
                          have hFi : (((c : Int) - 48) == 3) = true := by rw [show ((c : Int) - 48) = 3 by omega]; rfl
                          clear hE hF
                          go_wp2_with first
                            | (go_at_call 88; with_reducible refine (N0.out).mono ?_; rintro e w' ⟨rfl, rfl⟩)
                            | (go_at_call 88; with_reducible refine (N1.out).mono ?_; rintro e w' ⟨rfl, rfl⟩)
                            | (go_at_call 88; with_reducible refine (N2.out).mono ?_; rintro e w' ⟨rfl, rfl⟩)
                          go_ret
                          rw [HV.out]
                          exact ⟨rfl, HBL.out⟩
                        · have HV := Lib.hid (show statS code t = wd by unfold statS; rw [if_pos (by rw [hR3.out, decide_eq_true hE, decide_eq_false hF]; rfl), ← HWD.out])
                          have hFi : (((c : Int) - 48) == 3) = false := by rw [beq_eq_false_iff_ne]; omega
                          clear hE hF
                          go_wp2_with first
                            | (go_at_call 88; with_reducible refine (N0.out).mono ?_; rintro e w' ⟨rfl, rfl⟩)
                            | (go_at_call 88; with_reducible refine (N1.out).mono ?_; rintro e w' ⟨rfl, rfl⟩)
                            | (go_at_call 88; with_reducible refine (N2.out).mono ?_; rintro e w' ⟨rfl, rfl⟩)
                          go_ret
                          rw [HV.out]
                          exact ⟨rfl, HBL.out⟩
                      · have HV := Lib.hid (HNO.out (by rw [hR3.out, decide_eq_false hE]; rfl))
                        have hEi : (((c : Int) - 48) != (q : Int)) = true := by rw [bne_iff_ne]; omega
                        clear hE
                        go_wp2_with first
                          | (go_at_call 88; with_reducible refine (N0.out).mono ?_; rintro e w' ⟨rfl, rfl⟩)
                          | (go_at_call 88; with_reducible refine (N1.out).mono ?_; rintro e w' ⟨rfl, rfl⟩)
                          | (go_at_call 88; with_reducible refine (N2.out).mono ?_; rintro e w' ⟨rfl, rfl⟩)
                        go_ret
                        rw [HV.out]
                        exact ⟨rfl, HBL.out⟩
              · have HV := Lib.hid (HNO.out (by rw [HREF2.out, decide_eq_false ha]; rfl))
                have hai : ((p0.length : Int) != 1) = true := by rw [bne_iff_ne]; omega
                clear ha
                go_wp2_with first
                  | (go_at_call 88; with_reducible refine (N0.out).mono ?_; rintro e w' ⟨rfl, rfl⟩)
                  | (go_at_call 88; with_reducible refine (N1.out).mono ?_; rintro e w' ⟨rfl, rfl⟩)
                  | (go_at_call 88; with_reducible refine (N2.out).mono ?_; rintro e w' ⟨rfl, rfl⟩)
                go_ret
                rw [HV.out]
                exact ⟨rfl, HBL.out⟩
            · have HV := Lib.hid (HNO.out (by rw [HREF.out, decide_eq_false hl3]; rfl))
              have hl3i : ((acc.length : Int) != 3) = true := by rw [bne_iff_ne]; omega
              clear hl3
              go_wp2_with fail
              go_ret
              rw [HV.out]
              exact ⟨rfl, HBL.out⟩
end Go.Proofs.YtanfonpbnamjmaaDoor
