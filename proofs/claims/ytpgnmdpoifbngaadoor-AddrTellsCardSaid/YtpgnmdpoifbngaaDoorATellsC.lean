/-
  The walk of AddrTells.
-/
import Derived.Deep.RegionHeld3
import Derived.Deep.CutRange
import Derived.Test.YtpgnmdpoifbngaaDoorARPars
import Derived.Test.YtpgnmdpoifbngaaDoorABackC
import Derived.Test.YtpgnmdpoifbngaaDoorALaw
namespace Go.Proofs.YtpgnmdpoifbngaaDoor
open Go Go.RowKit
set_option maxRecDepth 100000

theorem addrTells_long (s t : List UInt8) (w : World) (hs : s.length ≤ 140737488351232) (ht : t.length ≤ 140737488351232) (h : longL [s, t] = true) (hM : ML w) :
    Calls Tryd.prog 4 #[.string (str s), .string (str t)] w fun e w' => e = .returned (.bool true) ∧ Below w.heap.size w w' := by
  have B0 := BL.start hM
  have HA := Lib.hid (show ∀ x ∈ [s, t], x.length ≤ 140737488351232 by simp; exact ⟨hs, ht⟩)
  have HL := Lib.hid h
  clear hM h
  go_enter Tryd.func4, Tryd.ntmps4
  go_wp2_with fail
  refine (bl_long [s, t] _ rfl _ _ rfl HL.out (by simp) HA.out B0).mono ?_
  rintro e w1 ⟨rfl, B1⟩
  go_wp2_with fail
  refine (works_bl _ B1).mono ?_
  rintro e w2 ⟨rfl, B2⟩
  have HB := Lib.hid B2.below
  go_wp2
  go_ret
  exact ⟨rfl, HB.out⟩

theorem res_parse (r : Option (List UInt8 × List UInt8)) : ∃ (a d : List UInt8) (e : Int), parseV r = .tuple #[.string (str a), .string (str d), .int .i64 e] := by
  cases r with
  | none => exact ⟨[], [], 4, rfl⟩
  | some x => exact ⟨x.1, x.2, 0, rfl⟩
theorem res_unpath (r : Option (List UInt8)) : ∃ (a : List UInt8) (e : Int), unpathV r = .tuple #[.string (str a), .int .i64 e] := by
  cases r with
  | none => exact ⟨[], 4, rfl⟩
  | some x => exact ⟨x, 0, rfl⟩
theorem open_text (s : List UInt8) : ({ data := #[60] } : ByteArray) ++ str s = str (60 :: s) := by
  apply ByteArray.ext
  simp [str, ByteArray.data_append]
theorem path_len (s : List UInt8) : (pathL s).length ≤ s.length + 2 := by
  unfold pathL; split <;> simp

set_option maxHeartbeats 16000000 in
theorem addrTells_short (s t : List UInt8) (w : World) (hs : s.length ≤ 9000) (ht : t.length ≤ 9000) (h : longL [s, t] = false) (hM : ML w) :
    Calls Tryd.prog 4 #[.string (str s), .string (str t)] w fun e w' => e = .returned (.bool true) ∧ Below w.heap.size w w' := by
  have B0 := BL.start hM
  have HA := Lib.hid (show ∀ x ∈ [s, t], x.length ≤ 140737488351232 by simp; omega)
  have HL := Lib.hid h
  have hs1 : s.length ≤ 1000000 := by omega
  have x1 := show_text s t
  have x2 := path_text t
  have x3 := open_text s
  have x4 := open_text t
  obtain ⟨p, hp⟩ : ∃ p, p = pathL s := ⟨_, rfl⟩
  have hpl : p.length ≤ 20000 := by rw [hp]; have := path_len s; omega
  have HP := Lib.hid hp.symm
  obtain ⟨v, hv⟩ : ∃ v, v = s ++ 64 :: t := ⟨_, rfl⟩
  obtain ⟨u, hu⟩ : ∃ u, u = 60 :: (t ++ [62]) := ⟨_, rfl⟩
  obtain ⟨y, hy⟩ : ∃ y, y = 60 :: s := ⟨_, rfl⟩
  have HX := Lib.hid (show ∀ x ∈ [s, t, v, p, u, y], x.length ≤ 50000 by
    intro x hx
    simp only [List.mem_cons, List.not_mem_nil, or_false] at hx
    rcases hx with rfl | rfl | rfl | rfl | rfl | rfl
    · omega
    · omega
    · rw [hv]; simp; omega
    · omega
    · rw [hu]; simp; omega
    · rw [hy]; simp; omega)
  rw [← hv] at x1
  rw [← hu, x4] at x2
  rw [← hy] at x3
  clear hM h hp hv hu hy hpl
  go_enter Tryd.func4, Tryd.ntmps4
  go_wp2_with fail
  refine (bl_long [s, t] _ rfl _ _ rfl HL.out (by simp) HA.out B0).mono ?_
  rintro e w1 ⟨rfl, B1⟩
  go_wp2_with fail
  refine (bl_path HP.out hs1 B1).mono ?_
  rintro e w2 ⟨rfl, B2⟩
  go_upto_region 4 with (fail)
  rw [show w2.alloc (.cells #[.string (str s), .string (str t), .string (str v), .string (str p), .string (str u), .string (str y)] 9) = w2.alloc (.cells ([s, t, v, p, u, y].map sv).toArray 9) from rfl]
  obtain ⟨L, hL⟩ : ∃ L, L = [s, t, v, p, u, y] := ⟨_, rfl⟩
  have hLn : L.length = 6 := by rw [hL]; rfl
  rw [← hL] at HX ⊢
  obtain ⟨wa, hwa⟩ : ∃ wa, wa = w2.alloc (.cells (L.map sv).toArray 9) := ⟨_, rfl⟩
  rw [← hwa]
  obtain ⟨g, hg⟩ : ∃ g, g = w2.heap.size := ⟨_, rfl⟩
  rw [← hg]
  have HAA := Lib.hid (show RB w g L wa from ⟨by rw [hwa]; exact B2.alloc _, by rw [hwa, hg]; exact heap_alloc_new _ _⟩)
  have HLN := Lib.hid hLn
  clear hwa hg hL B0 B1 B2 x1 x2 x3 x4 hLn
  go_wp2_with fail
  go_loopw [6] (fun i wr => ∃ k : Nat, k ≤ 6 ∧ i = .int .i64 k ∧ RB w g L wr) (fun i _ => 6 - (intOf i).toNat)
  case atStart => exact ⟨0, by omega, rfl, HAA.out⟩
  case round =>
    obtain ⟨k, hk, rfl, hr⟩ := hrel
    by_cases hlt : k < 6
    · obtain ⟨x, hx⟩ : ∃ x, L.getD k [] = x := ⟨_, rfl⟩
      have hkl : k < L.length := by rw [HLN.out]; exact hlt
      have hxl : x.length ≤ 50000 := by rw [← hx]; exact HX.out _ (getD_mem hkl)
      have HC := Lib.hid (fun (W : World) (h : RB w g L W) => h.cell hkl hx)
      obtain ⟨a, d, e, hp⟩ := res_parse (parseL x)
      obtain ⟨q, f, hu⟩ := res_unpath (unpathL x)
      obtain ⟨m, hm⟩ : ∃ m, amayL x = m := ⟨_, rfl⟩
      obtain ⟨z, hz⟩ : ∃ z, pathL x = z := ⟨_, rfl⟩
      obtain ⟨r, hsr⟩ : ∃ r, sameL s x = r := ⟨_, rfl⟩
      have C1 := fun (W : World) (h : RB w g L W) => rb (parse_any x W (by omega) h.1.ml) h
      have C2 := fun (W : World) (h : RB w g L W) => rb (rparse_any x W (by omega)) h
      have C3 := fun (W : World) (h : RB w g L W) => rb (unpath_any x W (by omega) h.1.ml) h
      have C4 := fun (W : World) (h : RB w g L W) => rb (runpath4_any x W (by omega)) h
      have C5 := fun (W : World) (h : RB w g L W) => rb (may_amay x W (by omega) h.1.ml) h
      have C6 := fun (W : World) (h : RB w g L W) => rb (rmay4_any x W (by omega)) h
      have C7 := fun (W : World) (h : RB w g L W) => rb (path_any x W (by omega) h.1.ml) h
      have C8 := fun (W : World) (h : RB w g L W) => rb (rpath4_any x W (by omega)) h
      have C9 := fun (W : World) (h : RB w g L W) => rb (same_addr s x W hs1 (by omega) h.1.ml) h
      have C10 := fun (W : World) (h : RB w g L W) => rb (rsame4_any s x W hs1 (by omega)) h
      rw [hp] at C1 C2
      rw [hu] at C3 C4
      rw [hm] at C5 C6
      rw [hz] at C7 C8
      rw [hsr] at C9 C10
      have D1 := Lib.hid C1
      have D2 := Lib.hid C2
      have D3 := Lib.hid C3
      have D4 := Lib.hid C4
      have D5 := Lib.hid C5
      have D6 := Lib.hid C6
      have D7 := Lib.hid C7
      have D8 := Lib.hid C8
      have D9 := Lib.hid C9
      have D10 := Lib.hid C10
      have c0 := HC.out _ hr
      clear C1 C2 C3 C4 C5 C6 C7 C8 C9 C10 hp hu hm hz hsr hx hxl
      go_wp2_with fail
      refine (D1.out _ hr).mono ?_
      rintro e1 w4 ⟨rfl, hr4⟩
      have c4 := HC.out _ hr4
      clear c0 hr
      go_wp2_with fail
      refine (D2.out _ hr4).mono ?_
      rintro e1 w5 ⟨rfl, hr5⟩
      have c5 := HC.out _ hr5
      clear c4 hr4
      go_wp2_with fail
      refine (D3.out _ hr5).mono ?_
      rintro e1 w6 ⟨rfl, hr6⟩
      have c6 := HC.out _ hr6
      clear c5 hr5
      go_wp2_with fail
      refine (D4.out _ hr6).mono ?_
      rintro e1 w7 ⟨rfl, hr7⟩
      have c7 := HC.out _ hr7
      clear c6 hr6
      go_wp2_with fail
      go_cut [139] from 76 to 139 (fun v wr => v = .bool false ∧ RB w g L wr)
      case first =>
        go_region_held3 (fun w' => RB w g L w' ∧ w'.cell? ⟨g, k, none⟩ = some (.string (str x))) (first | exact ⟨by assumption, HC.out _ (by assumption)⟩ | exact ⟨RB.drew (by assumption), HC.out _ (RB.drew (by assumption))⟩)
          (first
            | (go_at_call 10; with_reducible refine (D5.out _ (by first | assumption | exact RB.drew (by assumption))).mono ?_; rintro e1 w8 ⟨rfl, hR⟩)
            | (go_at_call 20; with_reducible refine (D6.out _ (by first | assumption | exact RB.drew (by assumption))).mono ?_; rintro e1 w8 ⟨rfl, hR⟩)
            | (go_at_call 11; with_reducible refine (D7.out _ (by first | assumption | exact RB.drew (by assumption))).mono ?_; rintro e1 w8 ⟨rfl, hR⟩)
            | (go_at_call 21; with_reducible refine (D8.out _ (by first | assumption | exact RB.drew (by assumption))).mono ?_; rintro e1 w8 ⟨rfl, hR⟩)
            | (go_at_call 15; with_reducible refine (D9.out _ (by first | assumption | exact RB.drew (by assumption))).mono ?_; rintro e1 w8 ⟨rfl, hR⟩)
            | (go_at_call 22; with_reducible refine (D10.out _ (by first | assumption | exact RB.drew (by assumption))).mono ?_; rintro e1 w8 ⟨rfl, hR⟩))
        all_goals (try go_wp2)
        all_goals go_meet
        all_goals (case rel => exact ⟨rfl, by assumption⟩)
      case rest =>
        obtain ⟨rfl, hR⟩ := hcut
        have HR := Lib.hid hR
        clear c7 hR hr7
        go_wp2_with fail
        go_roundw
        case rel => exact ⟨k + 1, by omega, by go_num, HR.out⟩
        case measure => simp [intOf]; omega
    · obtain rfl : k = 6 := by omega
      obtain ⟨z, hz⟩ : ∃ z, showL s t = z := ⟨_, rfl⟩
      have HZ := Lib.hid hz
      clear hz
      have B1 := hr.1
      go_wp2_with fail
      refine (bl_show HZ.out (by omega) (by omega) B1).mono ?_
      rintro e w3 ⟨rfl, B3⟩
      go_wp2_with fail
      refine (blr (V := fun l => .string (str l)) (rshow4_any s t _ (by omega) (by omega)) HZ.out B3).mono ?_
      rintro e w4 ⟨rfl, B4⟩
      go_wp2_with fail
      refine (works_bl _ B4).mono ?_
      rintro e w5 ⟨rfl, B5⟩
      have HB := Lib.hid B5.below
      go_wp2_with fail
      go_ret
      exact ⟨rfl, HB.out⟩

theorem addrTells_walk (s t : ByteArray) (hs : s.data.size ≤ 140737488351232) (ht : t.data.size ≤ 140737488351232) (w : World) (hM : ML w) :
    Calls Tryd.prog 4 #[.string s, .string t] w fun e w' => e = .returned (.bool true) ∧ Below w.heap.size w w' := by
  obtain ⟨s, rfl, _⟩ := to_str s
  obtain ⟨t, rfl, _⟩ := to_str t
  have hs' : s.length ≤ 140737488351232 := by simpa using hs
  have ht' : t.length ≤ 140737488351232 := by simpa using ht
  cases h : longL [s, t] with
  | true => exact addrTells_long s t w hs' ht' h hM
  | false =>
    have hl := (long_not h).2
    exact addrTells_short s t w (by have := hl s (by simp); omega) (by have := hl t (by simp); omega) h hM
end Go.Proofs.YtpgnmdpoifbngaaDoor
