/-
  The walk of HeadNames.
-/
import Derived.Deep.RegionHeld3
import Derived.Test.YtkffdhdhjfbhjaaDoorHAwake2
namespace Go.Proofs.YtkffdhdhjfbhjaaDoor
set_option linter.unusedSimpArgs false
set_option linter.unusedVariables false
open Go Go.RowKit Go.Shelf
set_option maxRecDepth 100000

def allocs (w : World) (cs : List Obj) : World := cs.foldl World.alloc w
theorem allocs_below : ∀ (cs : List Obj) (w : World), Below w.heap.size w (allocs w cs)
  | [], w => Below.refl _ _
  | c :: cs, w => (below_alloc w c).trans ((allocs_below cs (w.alloc c)).mono (by simp))
theorem allocs_at : ∀ (cs : List Obj) (w : World) (k : Nat) (h : k < cs.length), (allocs w cs).heap[w.heap.size + k]? = some cs[k]
  | c :: cs, w, 0, _ => ((allocs_below cs (w.alloc c)).block w.heap.size (by simp)).trans (heap_alloc_new w c)
  | c :: cs, w, k + 1, h => by
    have := allocs_at cs (w.alloc c) k (by simpa using h)
    rw [World.size_alloc, Nat.add_assoc, Nat.add_comm 1 k] at this
    exact this

theorem hn0 : fieldsL [] = [] := by decide +kernel
theorem hn1 : fieldsL [13, 10, 65, 58, 32, 98, 13, 10] = [] := by decide +kernel
theorem hn2 : fieldsL [58, 32, 98, 13, 10] = [] := by decide +kernel
theorem hn3 : fieldsL [65, 32, 58, 32, 98, 13, 10] = [] := by decide +kernel
theorem hn4 : fieldsL [65, 58, 32, 98] = [] := by decide +kernel
theorem hn5 : fieldsL [128, 58, 32, 98, 13, 10] = [] := by decide +kernel
theorem hn6 : fieldsL [65, 58, 13, 10] = [([65], [])] := by decide +kernel
theorem hn7 : fieldsL [65, 58, 32, 98, 58, 99, 13, 10] = [([65], [98, 58, 99])] := by decide +kernel
theorem hn8 : fieldsL [65, 58, 32, 9, 32, 98, 32, 9, 13, 10] = [([65], [98])] := by decide +kernel
theorem hn9 : fieldsL [65, 58, 13, 10, 9, 98, 32, 13, 10, 32, 32, 13, 10, 67, 58, 32, 13, 10] = [([65], [98]), ([67], [])] := by decide +kernel
theorem hn10 : fieldsL [126, 33, 58, 32, 120, 13, 10] = [([126, 33], [120])] := by decide +kernel
def hnB : List FP := [([], []), ([13, 10], []), ([13, 10, 120], [120]), ([65, 58, 32, 98, 13, 10], []), ([65, 58, 32, 98, 13, 10, 13, 10], []), ([65, 58, 32, 98, 13, 10, 13, 10, 13, 10, 120, 13], [13, 10, 120, 13]), ([110, 111, 13, 10, 13, 10, 121], [121]), ([10, 13, 10, 13, 10], [])]
theorem hnB_ok : ∀ k, k < 8 → bodyL (hnB.getD k pm0).1 = (hnB.getD k pm0).2 ∧ (hnB.getD k pm0).1.length ≤ 20 := by decide +kernel
def hnP : List (List UInt8) := [[], [84, 76, 83, 45, 82, 101, 113, 117, 105, 114, 101, 100, 58, 32, 78, 111], [84, 76, 83, 45, 82, 101, 113, 117, 105, 114, 101, 100, 58, 32, 89, 101, 115, 13, 10], [84, 76, 83, 45, 82, 101, 113, 117, 105, 114, 101, 100, 58, 13, 10], [65, 58, 32, 98, 13, 10, 13, 10, 84, 76, 83, 45, 82, 101, 113, 117, 105, 114, 101, 100, 58, 32, 78, 111, 13, 10], [84, 76, 83, 45, 82, 101, 113, 117, 105, 114, 101, 100, 32, 58, 32, 78, 111, 13, 10], [84, 76, 83, 45, 82, 101, 113, 117, 105, 114, 101, 100, 58, 32, 78, 111, 32, 13, 10, 116, 108, 115, 45, 114, 101, 113, 117, 105, 114, 101, 100, 58, 32, 121, 101, 115, 13, 10], [84, 76, 83, 45, 82, 101, 113, 117, 105, 114, 101, 100, 58, 32, 78, 32, 111, 13, 10]]
theorem hnP_ok : ∀ k, k < 8 → plainL (hnP.getD k []) = false ∧ (hnP.getD k []).length ≤ 50 := by decide +kernel
def hnF : List FP := [([], []), ([], [120]), ([97, 58], []), ([97, 127], []), ([97], [32, 98]), ([97], [98, 9]), ([97], [98, 13, 10, 99]), ([97], [128])]
theorem hnF_ok : ∀ k, k < 8 → showL (hnF.getD k pm0) = ([], 4) ∧ (hnF.getD k pm0).1.length ≤ 20 ∧ (hnF.getD k pm0).2.length ≤ 20 := by decide +kernel
theorem hs1 : showL ([97], []) = ([97, 58, 32], 0) := by decide +kernel
theorem hs2 : showL ([97], [98, 9, 99, 32, 100]) = ([97, 58, 32, 98, 9, 99, 32, 100], 0) := by decide +kernel
theorem hs3 : plainL [88, 58, 32, 121, 13, 10, 84, 76, 83, 45, 82, 69, 81, 85, 73, 82, 69, 68, 58, 13, 10, 9, 110, 79, 9, 13, 10, 90, 58, 32, 78, 111, 13, 10] = true := by decide +kernel
theorem hs4 : hopsL [114, 101, 99, 101, 105, 118, 101, 100, 58, 32, 97, 13, 10, 82, 69, 67, 69, 73, 86, 69, 68, 58, 32, 98, 13, 10, 13, 10, 82, 101, 99, 101, 105, 118, 101, 100, 58, 32, 99, 13, 10] = 2 := by decide +kernel
theorem hl0 : likeB [] [] = true := by decide +kernel
theorem hl1 : likeB [97, 66, 45, 49] [65, 98, 45, 49] = true := by decide +kernel
theorem hl2 : likeB [97] [98] = false := by decide +kernel
theorem hl3 : likeB [91] [123] = false := by decide +kernel
theorem hl4 : likeB [97] [97, 97] = false := by decide +kernel
abbrev hnPair (p : FP) : Obj := .cells #[sv p.1, sv p.2] 9
abbrev hnRows : List Obj := [(.cells #[sv [], sv []] 9), (.cells #[sv [13, 10], sv []] 9), (.cells #[sv [13, 10, 120], sv [120]] 9), (.cells #[sv [65, 58, 32, 98, 13, 10], sv []] 9), (.cells #[sv [65, 58, 32, 98, 13, 10, 13, 10], sv []] 9), (.cells #[sv [65, 58, 32, 98, 13, 10, 13, 10, 13, 10, 120, 13], sv [13, 10, 120, 13]] 9), (.cells #[sv [110, 111, 13, 10, 13, 10, 121], sv [121]] 9), (.cells #[sv [10, 13, 10, 13, 10], sv []] 9)]
theorem hnRows_at : ∀ k, k < 8 → hnRows[k]? = some (hnPair (hnB.getD k pm0)) := by
  intro k hk
  match k, hk with
  | 0, _ => rfl
  | 1, _ => rfl
  | 2, _ => rfl
  | 3, _ => rfl
  | 4, _ => rfl
  | 5, _ => rfl
  | 6, _ => rfl
  | 7, _ => rfl
abbrev hnTop (g : Nat) : Array Value := #[.slice (some ⟨g, 0, none⟩) 2 2, .slice (some ⟨g + 1, 0, none⟩) 2 2, .slice (some ⟨g + 1 + 1, 0, none⟩) 2 2, .slice (some ⟨g + 1 + 1 + 1, 0, none⟩) 2 2, .slice (some ⟨g + 1 + 1 + 1 + 1, 0, none⟩) 2 2, .slice (some ⟨g + 1 + 1 + 1 + 1 + 1, 0, none⟩) 2 2, .slice (some ⟨g + 1 + 1 + 1 + 1 + 1 + 1, 0, none⟩) 2 2, .slice (some ⟨g + 1 + 1 + 1 + 1 + 1 + 1 + 1, 0, none⟩) 2 2]
theorem hnTop_at (g : Nat) : ∀ k, k < 8 → (hnTop g)[k]? = some (.slice (some ⟨g + k, 0, none⟩) 2 2) := by
  intro k hk
  match k, hk with
  | 0, _ => rfl
  | 1, _ => rfl
  | 2, _ => rfl
  | 3, _ => rfl
  | 4, _ => rfl
  | 5, _ => rfl
  | 6, _ => rfl
  | 7, _ => rfl
abbrev hnPs : Array Value := #[sv [], sv [84, 76, 83, 45, 82, 101, 113, 117, 105, 114, 101, 100, 58, 32, 78, 111], sv [84, 76, 83, 45, 82, 101, 113, 117, 105, 114, 101, 100, 58, 32, 89, 101, 115, 13, 10], sv [84, 76, 83, 45, 82, 101, 113, 117, 105, 114, 101, 100, 58, 13, 10], sv [65, 58, 32, 98, 13, 10, 13, 10, 84, 76, 83, 45, 82, 101, 113, 117, 105, 114, 101, 100, 58, 32, 78, 111, 13, 10], sv [84, 76, 83, 45, 82, 101, 113, 117, 105, 114, 101, 100, 32, 58, 32, 78, 111, 13, 10], sv [84, 76, 83, 45, 82, 101, 113, 117, 105, 114, 101, 100, 58, 32, 78, 111, 32, 13, 10, 116, 108, 115, 45, 114, 101, 113, 117, 105, 114, 101, 100, 58, 32, 121, 101, 115, 13, 10], sv [84, 76, 83, 45, 82, 101, 113, 117, 105, 114, 101, 100, 58, 32, 78, 32, 111, 13, 10]]
theorem hnPs_at : ∀ k, k < 8 → hnPs[k]? = some (sv (hnP.getD k [])) := by
  intro k hk
  match k, hk with
  | 0, _ => rfl
  | 1, _ => rfl
  | 2, _ => rfl
  | 3, _ => rfl
  | 4, _ => rfl
  | 5, _ => rfl
  | 6, _ => rfl
  | 7, _ => rfl
abbrev hnFs : Array Value := #[sv [], sv [], sv [], sv [120], sv [97, 58], sv [], sv [97, 127], sv [], sv [97], sv [32, 98], sv [97], sv [98, 9], sv [97], sv [98, 13, 10, 99], sv [97], sv [128]]
theorem hnFs_at : ∀ k, k < 8 → hnFs[k * 2]? = some (sv (hnF.getD k pm0).1) ∧ hnFs[k * 2 + 1]? = some (sv (hnF.getD k pm0).2) := by
  intro k hk
  match k, hk with
  | 0, _ => exact ⟨rfl, rfl⟩
  | 1, _ => exact ⟨rfl, rfl⟩
  | 2, _ => exact ⟨rfl, rfl⟩
  | 3, _ => exact ⟨rfl, rfl⟩
  | 4, _ => exact ⟨rfl, rfl⟩
  | 5, _ => exact ⟨rfl, rfl⟩
  | 6, _ => exact ⟨rfl, rfl⟩
  | 7, _ => exact ⟨rfl, rfl⟩

theorem BL.trans {a b c : World} (h : BL a b) (h' : BL b c) : BL a c := ⟨h.1.trans (h'.1.mono h.1.size), h'.2⟩

set_option maxHeartbeats 16000000 in
theorem headNames_walk (w : World) (hM : ML w) :
    Calls Tryd.prog 3 #[] w fun e w' => e = .returned (.bool true) ∧ Below w.heap.size w w' := by
  have H := Lib.hid (BL.start hM)
  clear hM
  go_enter Tryd.func3, Tryd.ntmps3
  go_wp2_with fail
  refine (awake_any H.out).mono ?_
  rintro e w1 ⟨rfl, h1⟩
  have H1 := Lib.hid h1
  clear h1
  go_wp2_with fail
  refine (are_any [] [] _ _ _ H1.out (by decide) hn0 (TR.nil _)).mono ?_
  rintro e w2 ⟨rfl, h2⟩
  have H2 := Lib.hid h2
  clear h2
  go_wp2_with fail
  refine (are_any [13, 10, 65, 58, 32, 98, 13, 10] [] _ _ _ H2.out (by decide) hn1 (TR.nil _)).mono ?_
  rintro e w3 ⟨rfl, h3⟩
  have H3 := Lib.hid h3
  clear h3
  go_wp2_with fail
  refine (are_any [58, 32, 98, 13, 10] [] _ _ _ H3.out (by decide) hn2 (TR.nil _)).mono ?_
  rintro e w4 ⟨rfl, h4⟩
  have H4 := Lib.hid h4
  clear h4
  go_wp2_with fail
  refine (are_any [65, 32, 58, 32, 98, 13, 10] [] _ _ _ H4.out (by decide) hn3 (TR.nil _)).mono ?_
  rintro e w5 ⟨rfl, h5⟩
  have H5 := Lib.hid h5
  clear h5
  go_wp2_with fail
  refine (are_any [65, 58, 32, 98] [] _ _ _ H5.out (by decide) hn4 (TR.nil _)).mono ?_
  rintro e w6 ⟨rfl, h6⟩
  have H6 := Lib.hid h6
  clear h6
  go_wp2_with fail
  refine (are_any [128, 58, 32, 98, 13, 10] [] _ _ _ H6.out (by decide) hn5 (TR.nil _)).mono ?_
  rintro e w7 ⟨rfl, h7⟩
  have H7 := Lib.hid h7
  clear h7
  go_wp2_with fail
  refine (are_any [65, 58, 13, 10] [([65], [])] _ _ _ (BL.alloc H7.out _) (by decide) hn6 (tr_one _ _ _ _)).mono ?_
  rintro e w8 ⟨rfl, h8⟩
  have H8 := Lib.hid h8
  clear h8
  go_wp2_with fail
  refine (are_any [65, 58, 32, 98, 58, 99, 13, 10] [([65], [98, 58, 99])] _ _ _ (BL.alloc H8.out _) (by decide) hn7 (tr_one _ _ _ _)).mono ?_
  rintro e w9 ⟨rfl, h9⟩
  have H9 := Lib.hid h9
  clear h9
  go_wp2_with fail
  refine (are_any [65, 58, 32, 9, 32, 98, 32, 9, 13, 10] [([65], [98])] _ _ _ (BL.alloc H9.out _) (by decide) hn8 (tr_one _ _ _ _)).mono ?_
  rintro e w10 ⟨rfl, h10⟩
  have H10 := Lib.hid h10
  clear h10
  go_wp2_with fail
  refine (are_any [65, 58, 13, 10, 9, 98, 32, 13, 10, 32, 32, 13, 10, 67, 58, 32, 13, 10] [([65], [98]), ([67], [])] _ _ _ (BL.alloc H10.out _) (by decide) hn9 (tr_two _ _ _ _ _ _)).mono ?_
  rintro e w11 ⟨rfl, h11⟩
  have H11 := Lib.hid h11
  clear h11
  go_wp2_with fail
  refine (are_any [126, 33, 58, 32, 120, 13, 10] [([126, 33], [120])] _ _ _ (BL.alloc H11.out _) (by decide) hn10 (tr_one _ _ _ _)).mono ?_
  rintro e w12 ⟨rfl, h12⟩
  have H12 := Lib.hid h12
  clear h12
  go_wp2_with fail
  obtain ⟨X, hX⟩ : ∃ X, X = allocs w12 (hnRows ++ [.cells (hnTop w12.heap.size) 24]) := ⟨_, rfl⟩
  change Code.wp _ _ _ _ (allocs w12 (hnRows ++ [.cells (hnTop w12.heap.size) 24]))
  rw [← hX, show w12.heap.size + 1 + 1 + 1 + 1 + 1 + 1 + 1 + 1 = w12.heap.size + 8 from rfl]
  have hbX : Below w12.heap.size w12 X := by rw [hX]; exact allocs_below _ _
  have hrow : ∀ k, k < 8 → X.heap[w12.heap.size + k]? = some (hnPair (hnB.getD k pm0)) := fun k hk => by
    have h1 := allocs_at (hnRows ++ [.cells (hnTop w12.heap.size) 24]) w12 k (by simp; omega)
    rw [hX, h1, ← List.getElem?_eq_getElem, List.getElem?_append_left (by simpa using hk)]
    exact hnRows_at k hk
  have htop : X.heap[w12.heap.size + 8]? = some (.cells (hnTop w12.heap.size) 24 (0, 0)) := by
    have h1 := allocs_at (hnRows ++ [.cells (hnTop w12.heap.size) 24]) w12 8 (by simp)
    rw [hX, h1]; rfl
  have HXB := Lib.hid (H12.out.step hbX)
  obtain ⟨b, hb⟩ : ∃ b, b = w12.heap.size := ⟨_, rfl⟩
  rw [← hb] at hrow htop ⊢
  have HROW := Lib.hid hrow
  have HTOP := Lib.hid htop
  clear hX hbX hrow htop hb
  go_loopw [2, 74] (fun _ i wr => ∃ k : Nat, k ≤ 8 ∧ i = .int .i64 k ∧ BL X wr) (fun _ i _ => 8 - (intOf i).toNat)
  case atStart => exact ⟨0, by omega, rfl, BL.start HXB.out.2⟩
  case round =>
    obtain ⟨k, hk, rfl, hbr⟩ := hrel
    by_cases hlt : k < 8
    · have hkr := HROW.out k hlt
      have HCE := Lib.hid (show ∀ W, BL X W → W.cell? ⟨b + k, 0, none⟩ = some (sv (hnB.getD k pm0).1) ∧ W.cell? ⟨b + k, 1, none⟩ = some (sv (hnB.getD k pm0).2) from fun W hW => by
        have hz := (hW.1.block (b + k) (lt_of_blk hkr)).trans hkr
        exact ⟨by rw [cellAt hz]; rfl, by rw [cellAt hz]; rfl⟩)
      have c0 : wr.cell? ⟨b + 8, k, none⟩ = some (.slice (some ⟨b + k, 0, none⟩) 2 2) := by
        have hz := (hbr.1.block (b + 8) (lt_of_blk HTOP.out)).trans HTOP.out
        rw [cellAt hz]; exact hnTop_at b k hlt
      obtain ⟨p1, p2⟩ := hnB_ok k hlt
      obtain ⟨s, hs⟩ : ∃ s, s = (hnB.getD k pm0).1 := ⟨_, rfl⟩
      obtain ⟨t, ht⟩ : ∃ t, t = (hnB.getD k pm0).2 := ⟨_, rfl⟩
      rw [← hs] at p1 p2 HCE
      rw [← ht] at p1 HCE
      have HBO := Lib.hid (fun W (h : BL X W) => (bodyB (BL.start h.2) s (by omega) p1).mono (R' := fun e W' => e = .returned (sv t) ∧ BL X W') fun _ _ h' => ⟨h'.1, h.trans h'.2⟩)
      have hcc := HCE.out _ hbr
      have hk2 : (k : Int) < 8 := by omega
      clear hs ht p1 p2 hkr
      go_wp2_with fail
      go_region_held3 (fun W => BL X W ∧ W.cell? ⟨b + k, 0, none⟩ = some (sv s) ∧ W.cell? ⟨b + k, 1, none⟩ = some (sv t)) (first | exact ⟨by assumption, HCE.out _ (by assumption)⟩ | exact ⟨BL.drew (by assumption), HCE.out _ (BL.drew (by assumption))⟩)
        (first
          | (go_at_call 11; with_reducible refine (HBO.out _ (by first | assumption | exact BL.drew (by assumption))).mono ?_; rintro e1 w8 ⟨rfl, hR⟩))
      all_goals
        have HR := Lib.hid hR
        clear hR hcc hbr
        go_wp2_with fail
        go_roundw
        case rel => exact ⟨k + 1, by omega, by go_num, HR.out⟩
        case measure => simp [intOf]; omega
    · obtain rfl : k = 8 := by omega
      have HX2 := Lib.hid (HXB.out.trans hbr)
      clear hbr HROW HTOP hlt hk
      rw [show ((8 : Nat) : Int) = 8 from rfl]
      go_wp2_with fail
      obtain ⟨Y, hY⟩ : ∃ Y, Y = wr.alloc (.cells hnPs 9) := ⟨_, rfl⟩
      change Code.wp _ _ _ _ (wr.alloc (.cells hnPs 9))
      have hyb : Y.heap[wr.heap.size]? = some (.cells hnPs 9 (0, 0)) := by rw [hY]; exact heap_alloc_new wr _
      have HYB := Lib.hid (show BL w Y by rw [hY]; exact HX2.out.alloc _)
      obtain ⟨b2, hb2⟩ : ∃ b, b = wr.heap.size := ⟨_, rfl⟩
      rw [← hb2] at hyb
      rw [← hY, ← hb2]
      have HYC := Lib.hid hyb
      clear hY hyb hb2 HX2 HXB
      go_loopw [4, 89] (fun _ i wr => ∃ k : Nat, k ≤ 8 ∧ i = .int .i64 k ∧ BL Y wr) (fun _ i _ => 8 - (intOf i).toNat)
      case atStart => exact ⟨0, by omega, rfl, BL.start HYB.out.2⟩
      case round =>
        obtain ⟨k, hk, rfl, hbr⟩ := hrel
        by_cases hlt : k < 8
        · have c0 : wr.cell? ⟨b2, k, none⟩ = some (sv (hnP.getD k [])) := by
            have hz := (hbr.1.block b2 (lt_of_blk HYC.out)).trans HYC.out
            rw [cellAt hz]; exact hnPs_at k hlt
          obtain ⟨p1, p2⟩ := hnP_ok k hlt
          obtain ⟨s, hs⟩ : ∃ s, s = hnP.getD k [] := ⟨_, rfl⟩
          rw [← hs] at p1 p2 c0
          have HPL := Lib.hid (plainB hbr s (by omega) p1)
          have hk2 : (k : Int) < 8 := by omega
          clear hs p1 p2
          go_wp2_with fail
          refine HPL.out.mono ?_
          rintro e w2 ⟨rfl, h2⟩
          have HR := Lib.hid h2
          clear h2 hbr HPL
          go_wp2_with fail
          go_roundw
          case rel => exact ⟨k + 1, by omega, by go_num, HR.out⟩
          case measure => simp [intOf]; omega
        · obtain rfl : k = 8 := by omega
          have HX2 := Lib.hid (HYB.out.trans hbr)
          clear hbr HYC hlt hk
          rw [show ((8 : Nat) : Int) = 8 from rfl]
          go_wp2_with fail
          obtain ⟨Z, hZ⟩ : ∃ Z, Z = wr.alloc (.cells hnFs 29) := ⟨_, rfl⟩
          change Code.wp _ _ _ _ (wr.alloc (.cells hnFs 29))
          have hzb : Z.heap[wr.heap.size]? = some (.cells hnFs 29 (0, 0)) := by rw [hZ]; exact heap_alloc_new wr _
          have HZB := Lib.hid (show BL w Z by rw [hZ]; exact HX2.out.alloc _)
          obtain ⟨b3, hb3⟩ : ∃ b, b = wr.heap.size := ⟨_, rfl⟩
          rw [← hb3] at hzb
          rw [← hZ, ← hb3]
          have HZC := Lib.hid hzb
          clear hZ hzb hb3 HX2 HYB
          go_loopw [6, 7, 8, 106] (fun _ _ _ i wr => ∃ k : Nat, k ≤ 8 ∧ i = .int .i64 k ∧ BL Z wr) (fun _ _ _ i _ => 8 - (intOf i).toNat)
          case atStart => exact ⟨0, by omega, rfl, BL.start HZB.out.2⟩
          case round =>
            obtain ⟨k, hk, rfl, hbr⟩ := hrel
            by_cases hlt : k < 8
            · have c0 : wr.cell? ⟨b3, k * 2, none⟩ = some (sv (hnF.getD k pm0).1) ∧ wr.cell? ⟨b3, k * 2 + 1, none⟩ = some (sv (hnF.getD k pm0).2) := by
                have hz := (hbr.1.block b3 (lt_of_blk HZC.out)).trans HZC.out
                rw [cellAt hz, cellAt hz]; exact hnFs_at k hlt
              obtain ⟨p1, p2, p3⟩ := hnF_ok k hlt
              obtain ⟨p, hp⟩ : ∃ p, p = hnF.getD k pm0 := ⟨_, rfl⟩
              rw [← hp] at p1 p2 p3 c0
              obtain ⟨n, x⟩ := p
              dsimp only at p2 p3 c0
              obtain ⟨c1, c2⟩ := c0
              have HSH := Lib.hid (showB (hbr.alloc (.cells #[sv n, sv x] 29)) n x (by omega) (by omega) p1)
              have hk2 : (k : Int) < 8 := by omega
              clear hp p1 p2 p3
              go_wp2_with fail
              refine HSH.out.mono ?_
              rintro e w2 ⟨rfl, h2⟩
              have HR := Lib.hid h2
              clear h2 hbr HSH
              go_wp2_with fail
              go_roundw
              case rel => exact ⟨k + 1, by omega, by go_num, HR.out⟩
              case measure => simp [intOf]; omega
            · obtain rfl : k = 8 := by omega
              have V0 := Lib.hid (HZB.out.trans hbr)
              clear hbr HZC hlt hk HZB
              rw [show ((8 : Nat) : Int) = 8 from rfl]
              go_wp2_with fail
              refine (showB V0.out [97] [] (by decide) (by decide) hs1).mono ?_
              rintro e v1 ⟨rfl, h1⟩
              have V1 := Lib.hid h1
              clear h1
              go_wp2_with fail
              refine (showB V1.out [97] [98, 9, 99, 32, 100] (by decide) (by decide) hs2).mono ?_
              rintro e v2 ⟨rfl, h2⟩
              have V2 := Lib.hid h2
              clear h2
              go_wp2_with fail
              refine (plainB V2.out [88, 58, 32, 121, 13, 10, 84, 76, 83, 45, 82, 69, 81, 85, 73, 82, 69, 68, 58, 13, 10, 9, 110, 79, 9, 13, 10, 90, 58, 32, 78, 111, 13, 10] (by decide) hs3).mono ?_
              rintro e v3 ⟨rfl, h3⟩
              have V3 := Lib.hid h3
              clear h3
              go_wp2_with fail
              refine (hopsB V3.out [114, 101, 99, 101, 105, 118, 101, 100, 58, 32, 97, 13, 10, 82, 69, 67, 69, 73, 86, 69, 68, 58, 32, 98, 13, 10, 13, 10, 82, 101, 99, 101, 105, 118, 101, 100, 58, 32, 99, 13, 10] (by decide) hs4).mono ?_
              rintro e v4 ⟨rfl, h4⟩
              have V4 := Lib.hid h4
              clear h4
              go_wp2_with fail
              refine (likeBB V4.out [] [] (by decide) (by decide) hl0).mono ?_
              rintro e v5 ⟨rfl, h5⟩
              have V5 := Lib.hid h5
              clear h5
              go_wp2_with fail
              refine (likeBB V5.out [97, 66, 45, 49] [65, 98, 45, 49] (by decide) (by decide) hl1).mono ?_
              rintro e v6 ⟨rfl, h6⟩
              have V6 := Lib.hid h6
              clear h6
              go_wp2_with fail
              refine (likeBB V6.out [97] [98] (by decide) (by decide) hl2).mono ?_
              rintro e v7 ⟨rfl, h7⟩
              have V7 := Lib.hid h7
              clear h7
              go_wp2_with fail
              refine (likeBB V7.out [91] [123] (by decide) (by decide) hl3).mono ?_
              rintro e v8 ⟨rfl, h8⟩
              have V8 := Lib.hid h8
              clear h8
              go_wp2_with fail
              refine (likeBB V8.out [97] [97, 97] (by decide) (by decide) hl4).mono ?_
              rintro e v9 ⟨rfl, h9⟩
              have V9 := Lib.hid h9
              clear h9
              go_wp2_with fail
              go_ret
              exact ⟨rfl, V9.out.1⟩
end Go.Proofs.YtkffdhdhjfbhjaaDoor
